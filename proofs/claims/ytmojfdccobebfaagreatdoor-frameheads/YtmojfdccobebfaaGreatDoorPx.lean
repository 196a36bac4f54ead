import Derived.Test.YtmojfdccobebfaaGreatDoorPw
import Derived.Test.YtmojfdccobebfaaGreatDoorRows
import Derived.Test.YtmojfdccobebfaaGreatDoorPk
import Derived.WalkKit
import Derived.ProofKit
import Derived.OpenShut
import Derived.Deep.DeepHandedRow
import Derived.Lib.LaidTab
namespace Go.Proofs.YtmojfdccobebfaaGreatDoor
open Go.RowKit
set_option linter.unusedVariables false

/-! The two tables of package head, where the program's text lays them. -/
def snsL : List Int := [0, 1, 0, 1, 1, 0, 2, 1, 0, 3, 1, 0, 4, 1, 0, 5, 1, 0, 6, 1, 0, 7, 1, 0, 8, 1, 0, 9, 1, 0, 10, 1, 0, 11, 1, 0, 12, 1, 0, 13, 1, 0, 14, 1, 0, 15, 1, 0, -1, 3, 2, 0, 3, 3, 0, 11, 7]
def ordL : List Int := [16, 17, 18, 0, 8, 7, 9, 6, 10, 5, 11, 4, 12, 3, 13, 2, 14, 1, 15]
abbrev TabS (w : World) : Prop := SegZ w (some ⟨0, 0, none⟩) snsL
abbrev TabO (w : World) : Prop := SegZ w (some ⟨1, 0, none⟩) ordL
/-- Which length a symbol stands for, as the table has it. -/
def sln8 (s : Int) : Int := if s = 16 then -1 else if 15 < s then 0 else s
theorem sns_get : ∀ k : Fin 19, snsL.getD (k.val * 3) 0 = sln8 k.val ∧ snsL.getD (k.val * 3 + 1) 0 = lst8 k.val ∧ snsL.getD (k.val * 3 + 2) 0 = mor8 k.val := by decide
theorem TabS.at8 {w : World} (h : TabS w) (k : Nat) (hk : k < 19) : w.cell? ⟨0, k * 3, none⟩ = some (.int .i64 (sln8 k)) ∧ w.cell? ⟨0, k * 3 + 1, none⟩ = some (.int .i64 (lst8 k)) ∧ w.cell? ⟨0, k * 3 + 2, none⟩ = some (.int .i64 (mor8 k : Int)) := by
  have hl : snsL.length = 57 := rfl
  obtain ⟨e1, e2, e3⟩ := sns_get ⟨k, hk⟩
  simp only at e1 e2 e3
  refine ⟨?_, ?_, ?_⟩
  · obtain ⟨b, o, e, c⟩ := h.at_ (k * 3) (by omega)
    cases e
    rw [Nat.zero_add, e1] at c
    exact c
  · obtain ⟨b, o, e, c⟩ := h.at_ (k * 3 + 1) (by omega)
    cases e
    rw [Nat.zero_add, e2] at c
    exact c
  · obtain ⟨b, o, e, c⟩ := h.at_ (k * 3 + 2) (by omega)
    cases e
    rw [Nat.zero_add, e3] at c
    exact c
theorem TabO.at8 {w : World} (h : TabO w) (k : Nat) (hk : k < 19) : w.cell? ⟨1, k, none⟩ = some (.int .i64 (ordL.getD k 0)) := by
  obtain ⟨b, o, e, c⟩ := h.at_ k (by show k < 19; exact hk)
  cases e
  rw [Nat.zero_add] at c
  exact c
theorem grt8_lst (s : Int) (h : s ≤ 18) : grt8 s = lst8 s + 2 ^ mor8 s - 1 := by
  unfold grt8 lst8 mor8
  by_cases h1 : s = 16
  · simp [h1]
  · by_cases h2 : s = 17
    · simp [h2]
    · by_cases h3 : s = 18
      · simp [h3]
      · simp [h1, h2, h3]
end Go.Proofs.YtmojfdccobebfaaGreatDoor

namespace Go.Proofs.YtmojfdccobebfaaGreatDoor
open Go.ChangeShapes Go.WideShapes Go.ChangeAt Go.RowKit

theorem gTab : Tryz.prog.globalNamed "sapper/crc.halves" = some 0 := by kernel_rfl
theorem gTabType : (Tryz.prog.globals[0]?).map (·.type) = some 165 := by kernel_rfl
theorem cellsTab : Tryz.prog.cellsOf 165 = 16 := by kernel_rfl
theorem cellsWord : Tryz.prog.cellsOf 22 = 1 := by kernel_rfl
theorem halfL_bd : ∀ z ∈ halfL, 0 ≤ z ∧ z ≤ 4294967295 := by decide

/-- What the row's list gives: the table's cells. -/
theorem tab_of18 {W : World} (h : laidMetH Tryz.prog [("sapper/crc.halves", Rows.laid_sapper_crc_halves), ("sapper/head.senses", Rows.laid_sapper_head_senses), ("sapper/head.order", Rows.laid_sapper_head_order)] W) : Tab W := by
  have ht : Lib.TabIs Tryz.prog W "sapper/crc.halves" .u32 halfL :=
    Lib.tabIs_of_head (rest := [("sapper/head.senses", Rows.laid_sapper_head_senses), ("sapper/head.order", Rows.laid_sapper_head_order)]) gTab gTabType Tryz.underlying165 Tryz.underlying22 cellsWord cellsTab h
  refine ⟨fun i hi => ⟨0, 0, rfl, ?_⟩, by decide, fun i => ?_⟩
  · rw [Nat.zero_add]
    exact ht.cell gTab i hi
  · by_cases hi : i < halfL.length
    · have := halfL_bd halfL[i] (List.getElem_mem hi)
      simpa [List.getD, hi] using this
    · have : halfL[i]? = none := List.getElem?_eq_none (by omega)
      simp [List.getD, this]

end Go.Proofs.YtmojfdccobebfaaGreatDoor
