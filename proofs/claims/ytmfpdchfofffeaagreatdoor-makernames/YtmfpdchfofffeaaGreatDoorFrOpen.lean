import Derived.Test.YtmfpdchfofffeaaGreatDoorRows
import Derived.Test.YtmfpdchfofffeaaGreatDoorCrcTake
import Derived.Test.YtmfpdchfofffeaaGreatDoorHdTab
import Derived.WalkKit
import Derived.ProofKit
import Derived.OpenShut
import Derived.Deep.DeepHandedRow
import Derived.Lib.LaidTab
namespace Go.Proofs.YtmfpdchfofffeaaGreatDoor
open Go.ChangeShapes Go.WideShapes Go.ChangeAt Go.RowKit
theorem gTab : Tryz.prog.globalNamed "sapper/crc.halves" = some 0 := by kernel_rfl
theorem gTabType : (Tryz.prog.globals[0]?).map (·.type) = some 185 := by kernel_rfl
theorem cellsTab : Tryz.prog.cellsOf 185 = 16 := by kernel_rfl
theorem cellsWord : Tryz.prog.cellsOf 49 = 1 := by kernel_rfl
theorem halfL_bd : ∀ z ∈ halfL, 0 ≤ z ∧ z ≤ 4294967295 := by decide

/-- What the row's list gives: the table's cells. -/
theorem tab_of18 {W : World} (h : laidMetH Tryz.prog [("sapper/crc.halves", Rows.laid_sapper_crc_halves), ("sapper/head.senses", Rows.laid_sapper_head_senses), ("sapper/head.order", Rows.laid_sapper_head_order)] W) : Tab W := by
  have ht : Lib.TabIs Tryz.prog W "sapper/crc.halves" .u32 halfL :=
    Lib.tabIs_of_head (rest := [("sapper/head.senses", Rows.laid_sapper_head_senses), ("sapper/head.order", Rows.laid_sapper_head_order)]) gTab gTabType Tryz.underlying185 Tryz.underlying49 cellsWord cellsTab h
  refine ⟨fun i hi => ⟨0, 0, rfl, ?_⟩, by decide, fun i => ?_⟩
  · rw [Nat.zero_add]
    exact ht.cell gTab i hi
  · by_cases hi : i < halfL.length
    · have := halfL_bd halfL[i] (List.getElem_mem hi)
      simpa [List.getD, hi] using this
    · have : halfL[i]? = none := List.getElem?_eq_none (by omega)
      simp [List.getD, this]

end Go.Proofs.YtmfpdchfofffeaaGreatDoor
