
import Derived.Test.YtoeabfcnfofbiaaDoorLnInfo
import Derived.WalkLawsBesides
namespace Go.Proofs.YtoeabfcnfofbiaaDoor
open Go.RowKit
set_option linter.unusedVariables false

def lentZ (zs : List Int) : List Int := zs ++ [71, 72, 73, 74]
theorem lentZ_bd {zs : List Int} (h : ∀ z ∈ zs, -9223372036854775808 ≤ z ∧ z ≤ 9223372036854775807) : ∀ z ∈ lentZ zs, -9223372036854775808 ≤ z ∧ z ≤ 9223372036854775807 := by
  intro z hz
  unfold lentZ at hz
  rw [List.mem_append] at hz
  rcases hz with hz | hz
  · exact h z hz
  · simp at hz; omega
theorem seg_four (w : World) : SegZ (w.alloc (.cells #[.int .i64 71, .int .i64 72, .int .i64 73, .int .i64 74] 3)) (some ⟨w.heap.size, 0, none⟩) [71, 72, 73, 74] := by
  refine ⟨fun i hi => ⟨w.heap.size, 0, rfl, ?_⟩, getD_bdz (by intro z hz; simp at hz; omega)⟩
  simp only [List.length_cons, List.length_nil] at hi
  match i, hi with
  | 0, _ => simp
  | 1, _ => simp
  | 2, _ => simp
  | 3, _ => simp

end Go.Proofs.YtoeabfcnfofbiaaDoor
