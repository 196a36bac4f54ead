import Derived.Test.YtmjlpfmacblcpaaDoorRows
import Derived.Test.YtmjlpfmacblcpaaDoorPd
import Derived.WalkKit
import Derived.ProofKit
import Derived.OpenShut
import Derived.Deep.DeepHandedRow
import Derived.Lib.LaidTab
namespace Go.Proofs.YtmjlpfmacblcpaaDoor
open Go.ChangeShapes Go.WideShapes Go.ChangeAt Go.RowKit
theorem gTab : Tryd.prog.globalNamed "sapper/crc.halves" = some 1 := by kernel_rfl
theorem gTabType : (Tryd.prog.globals[1]?).map (·.type) = some 227 := by kernel_rfl
theorem cellsTab : Tryd.prog.cellsOf 227 = 16 := by kernel_rfl
theorem cellsWord : Tryd.prog.cellsOf 48 = 1 := by kernel_rfl
theorem halfL_bd : ∀ z ∈ halfL, 0 ≤ z ∧ z ≤ 4294967295 := by decide

/-- What the row's list gives: the table's cells. -/
theorem tab_of {W : World} (h : laidMetH Tryd.prog [("sapper/crc.halves", Rows.laid_sapper_crc_halves)] W) : Tab W := by
  have ht : Lib.TabIs Tryd.prog W "sapper/crc.halves" .u32 halfL :=
    Lib.tabIs_of_head (rest := []) gTab gTabType Tryd.underlying227 Tryd.underlying48 cellsWord cellsTab h
  refine ⟨fun i hi => ⟨1, 0, rfl, ?_⟩, by decide, fun i => ?_⟩
  · rw [Nat.zero_add]
    exact ht.cell gTab i hi
  · by_cases hi : i < halfL.length
    · have := halfL_bd halfL[i] (List.getElem_mem hi)
      simpa [List.getD, hi] using this
    · have : halfL[i]? = none := List.getElem?_eq_none (by omega)
      simp [List.getD, this]

end Go.Proofs.YtmjlpfmacblcpaaDoor
