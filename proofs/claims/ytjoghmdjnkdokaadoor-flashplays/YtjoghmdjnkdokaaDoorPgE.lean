
import Derived.Test.YtjoghmdjnkdokaaDoorPgD
namespace Go.Proofs.YtjoghmdjnkdokaaDoor
open Go.RowKit Go.Shelf
set_option linter.unusedVariables false
set_option linter.unusedSimpArgs false

/-! The landed page: take, walked. -/
theorem Pn22.more {w w1 w2 : World} {v s g b : Nat} {F : Nat → Prop} {S : Fs21} {P : Pw22} (h : Pn22 w w1 v s g b F S P) (hb : Below w1.heap.size w1 w2) : Pn22 w w2 v s g b F S P := by
  obtain ⟨F1, q, f, k⟩ := h
  exact Pn22.cons f k (q.stay hb)
end Go.Proofs.YtjoghmdjnkdokaaDoor
