
import Derived.Test.YtcgaembnibnglaaEd6
import Derived.Test.YtcgaembnibnglaaSame
import Derived.Lib.SlBytesConst
namespace Go.Proofs.Ytcgaembnibnglaa
open Go.RowKit Go.Shelf
set_option linter.unusedVariables false

/-! The law's first, awake. -/
theorem seg_lit16 (w : World) (zs : List Int) (t : TypeId) (fr : Nat × Nat) (h : ∀ z ∈ zs, 0 ≤ z ∧ z ≤ 255) : Seg (w.alloc (.cells (zs.map (Value.int .u8)).toArray t fr)) (some ⟨w.heap.size, 0, none⟩) zs := by
  refine ⟨fun i hi => ⟨w.heap.size, 0, rfl, ?_⟩, by decide, getD_bd (by decide) h⟩
  have e : zs.getD i 0 = zs[i] := by simp [List.getD, hi]
  rw [e, Nat.zero_add, World.cell?_alloc_mark]
  simp [hi]
def FiQ16 (w : World) (e : Ending) (w' : World) : Prop := ∃ g1 g2 g3, e = .returned (ev16 (some ⟨g1, 0, none⟩) 2 2 (some ⟨g2, 0, none⟩) 5 5 (some ⟨g3, 0, none⟩) 2 2) ∧ Ed16 w' (some ⟨g1, 0, none⟩) 2 [(3, 2, 1), (2, 0, 0)] (some ⟨g2, 0, none⟩) 5 [0, 0, 1, 0, 0] (some ⟨g3, 0, none⟩) 2 [120, 121] ∧ Below w.heap.size w w'
theorem ap_first16 : ap16 [97, 98, 99, 100, 101, 102] [(3, 2, 1), (2, 0, 0)] [0, 0, 1, 0, 0] [120, 121] = [97, 98, 100, 120, 121, 101, 102] := by decide
theorem er_first16 : er16 6 [(3, 2, 1), (2, 0, 0)] 5 2 = 0 := by decide
end Go.Proofs.Ytcgaembnibnglaa
