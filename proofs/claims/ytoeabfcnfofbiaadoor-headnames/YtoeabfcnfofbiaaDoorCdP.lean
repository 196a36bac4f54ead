
import Derived.Test.YtoeabfcnfofbiaaDoorCdN
import Derived.Test.YtoeabfcnfofbiaaDoorBtLives
namespace Go.Proofs.YtoeabfcnfofbiaaDoor
open Go.RowKit
set_option linter.unusedVariables false

def lent5 (zs : List Int) : List Int := zs ++ [71, 72, 73]
theorem lent5_bd {zs : List Int} (h : ∀ z ∈ zs, -9223372036854775808 ≤ z ∧ z ≤ 9223372036854775807) : ∀ z ∈ lent5 zs, -9223372036854775808 ≤ z ∧ z ≤ 9223372036854775807 := by
  intro z hz
  unfold lent5 at hz
  rw [List.mem_append] at hz
  rcases hz with hz | hz
  · exact h z hz
  · simp at hz; omega
theorem seg_three (w : World) : SegZ (w.alloc (.cells #[.int .i64 71, .int .i64 72, .int .i64 73] 3)) (some ⟨w.heap.size, 0, none⟩) [71, 72, 73] := by
  refine ⟨fun i hi => ⟨w.heap.size, 0, rfl, ?_⟩, getD_bdz (by intro z hz; simp at hz; omega)⟩
  simp only [List.length_cons, List.length_nil] at hi
  match i, hi with
  | 0, _ => simp
  | 1, _ => simp
  | 2, _ => simp
def LenQ5 (w : World) (zs : List Int) (e : Ending) (w' : World) : Prop := ∃ g c, e = .returned (.tuple #[.slice (some ⟨g, 0, none⟩) (lent5 zs).length c, .slice (some ⟨g, 0, none⟩) zs.length c]) ∧ w'.ownsRow w.heap.size 3 1 (.slice (some ⟨g, 0, none⟩) (lent5 zs).length c) (lent5 zs).length ((lent5 zs).map (Value.int .i64)) ∧ (lent5 zs).length ≤ c ∧ Below w.heap.size w w'
end Go.Proofs.YtoeabfcnfofbiaaDoor
