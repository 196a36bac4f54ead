
import Derived.Test.YtkpfailmmcelcaaSu4
namespace Go.Proofs.Ytkpfailmmcelcaa
open Go.RowKit
set_option linter.unusedVariables false

/-! Lcp. -/
def LvQ13 (w : World) (z : List Int) (A : List Nat) (n : Nat) (e : Ending) (w' : World) : Prop := ∃ g, e = .returned (.slice (some ⟨g, 0, none⟩) n n) ∧ Rz12 w' g (lp13 z A) ∧ w.heap.size ≤ g ∧ Below w.heap.size w w'
end Go.Proofs.Ytkpfailmmcelcaa
