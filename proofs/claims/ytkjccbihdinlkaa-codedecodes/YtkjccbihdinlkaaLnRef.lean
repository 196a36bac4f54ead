
import Derived.Test.YtkjccbihdinlkaaLnSame
namespace Go.Proofs.Ytkjccbihdinlkaa
open Go.RowKit
set_option linter.unusedVariables false

/-- A count that may be. -/
def okF (z : Int) : Bool := decide (0 ≤ z ∧ z ≤ 1099511627776)
/-- The error that counts have. -/
def errOf (zs : List Int) : Int := if 288 < zs.length then 40 else if zs.all okF then 0 else 42
theorem errOf_many {zs : List Int} (h : 288 < zs.length) : errOf zs = 40 := by simp [errOf, h]
theorem errOf_bad {zs : List Int} (h : ¬ 288 < zs.length) {k : Nat} (hk : k < zs.length) (hb : ¬ (0 ≤ zs.getD k 0 ∧ zs.getD k 0 ≤ 1099511627776)) : errOf zs = 42 := by
  have : zs.all okF = false := by
    rw [List.all_eq_false]
    refine ⟨zs.getD k 0, ?_, by simp only [okF, hb]; decide⟩
    simp [List.getD, hk]
  simp [errOf, h, this]
theorem all_snoc {zs : List Int} {k : Nat} (hk : k < zs.length) (h : (zs.take k).all okF = true) (hb : 0 ≤ zs.getD k 0 ∧ zs.getD k 0 ≤ 1099511627776) : (zs.take (k + 1)).all okF = true := by
  rw [take_snocZ hk, List.all_append, h]
  simp only [List.all_cons, List.all_nil, okF, hb]
  simp
theorem errOf_ok {zs : List Int} (h : ¬ 288 < zs.length) (ha : (zs.take zs.length).all okF = true) : errOf zs = 0 := by
  rw [List.take_of_length_le (Nat.le_refl _)] at ha
  simp [errOf, h, ha]
theorem errOf_zero {zs : List Int} (h : errOf zs = 0) : zs.length ≤ 288 ∧ ∀ i, 0 ≤ zs.getD i 0 ∧ zs.getD i 0 ≤ 1099511627776 := by
  unfold errOf at h
  split at h
  · omega
  · rename_i h1
    split at h
    · rename_i h2
      refine ⟨by omega, fun i => ?_⟩
      by_cases hi : i < zs.length
      · have := List.all_eq_true.1 h2 zs[i] (List.getElem_mem hi)
        simpa [okF, List.getD, hi] using this
      · simp [List.getD, List.getElem?_eq_none (Nat.le_of_not_lt hi)]
    · omega
theorem errOf_range (zs : List Int) : errOf zs = 0 ∨ errOf zs = 40 ∨ errOf zs = 42 := by
  unfold errOf
  split
  · exact .inr (.inl rfl)
  · split
    · exact .inl rfl
    · exact .inr (.inr rfl)

end Go.Proofs.Ytkjccbihdinlkaa
