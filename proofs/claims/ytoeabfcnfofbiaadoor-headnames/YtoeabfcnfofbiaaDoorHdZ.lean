
import Derived.Test.YtoeabfcnfofbiaaDoorLnFact
import Derived.Test.YtoeabfcnfofbiaaDoorCdR
namespace Go.Proofs.YtoeabfcnfofbiaaDoor
set_option linter.unusedVariables false

/-! The lengths that lens makes are the lengths of a code. -/
theorem spc_us {Z : List Int} (hok : LOk Z) : ∀ k, k ≤ Z.length → spc (Z.take k) = ((usI Z k).map fun i => 2 ^ (15 - (Z.getD i 0).toNat)).sum ∧ tot (Z.take k) = (usI Z k).length
  | 0, _ => by
    rw [List.take_zero, spc_nil, tot_nil]
    simp [usI]
  | k + 1, hk => by
    obtain ⟨i1, i2⟩ := spc_us hok k (by omega)
    have hb := hok.get k
    rw [take_snocZ (by omega), spc_snoc _ hb, tot_snoc _ hb, i1, i2, usI_snoc]
    by_cases h : Z.getD k 0 = 0
    · rw [if_pos h, if_pos h, if_pos h, List.append_nil]
      exact ⟨rfl, rfl⟩
    · rw [if_neg h, if_neg h, if_neg h, List.map_append, List.sum_append, List.length_append]
      refine ⟨?_, rfl⟩
      simp only [List.map_cons, List.map_nil, List.sum_cons, List.sum_nil, Nat.add_zero]
theorem us_same {Y Z : List Int} : ∀ k, (∀ i, i < k → (Y.getD i 0 = 0 ↔ Z.getD i 0 = 0)) → usI Y k = usI Z k
  | 0, _ => rfl
  | k + 1, h => by
    rw [usI_snoc, usI_snoc, us_same k fun i hi => h i (by omega)]
    have := h k (by omega)
    by_cases c : Y.getD k 0 = 0
    · rw [if_pos c, if_pos (this.1 c)]
    · rw [if_neg c, if_neg (fun e => c (this.2 e))]
/-- The lengths are a code's. -/
theorem lens_code {zs : List Int} (he : errOf zs = 0) {lim : Nat} (h1 : 1 ≤ lim) (h15 : lim ≤ 15) (hl : nUse zs ≤ 2 ^ lim) : errC (lensL lim zs) = 0 ∧ (∀ i, i < zs.length → (lensL lim zs).getD i 0 ≤ lim) ∧ ∀ i, i < zs.length → (zs.getD i 0 ≠ 0 → (lensL lim zs).getD i 0 ≠ 0) := by
  have hlen := lens_len (zs := zs) lim
  have hz : ∀ i, i < zs.length → ((lensL lim zs).getD i 0 = 0 ↔ zs.getD i 0 = 0) ∧ 0 ≤ (lensL lim zs).getD i 0 ∧ (lensL lim zs).getD i 0 ≤ lim := by
    intro i hi
    by_cases c : zs.getD i 0 = 0
    · have := lens_none he (lim := lim) c
      refine ⟨⟨fun _ => c, fun _ => this⟩, by omega, by omega⟩
    · have := lens_bd he h1 hl (usI_mem.2 ⟨hi, c⟩)
      refine ⟨⟨fun e => by omega, fun e => absurd e c⟩, by omega, by omega⟩
  have hok : LOk (lensL lim zs) := by
    intro z hzm
    obtain ⟨i, hi, rfl⟩ := List.mem_iff_getElem.1 hzm
    have := (hz i (by omega)).2
    simp only [List.getD, List.getElem?_eq_getElem hi, Option.getD_some] at this
    omega
  have hus : usI (lensL lim zs) zs.length = usI zs zs.length := us_same _ fun i hi => (hz i hi).1
  obtain ⟨s1, s2⟩ := spc_us hok zs.length (by omega)
  rw [List.take_of_length_le (by omega), hus] at s1 s2
  refine ⟨?_, fun i hi => (hz i hi).2.2, fun i hi h e => h ((hz i hi).1.1 e)⟩
  have hS : errS (lensL lim zs) = 0 := by
    unfold errS
    rw [if_neg (by rw [hlen]; have := (errOf_zero he).1; omega), if_pos (okL_iff.2 hok)]
  unfold errC
  rw [if_pos hS]
  have hn := nUse_us zs
  unfold errR
  by_cases n0 : nUse zs = 0
  · have ht : tot (lensL lim zs) = 0 := by rw [s2, ← hn]; exact n0
    have := spc_tot (lensL lim zs)
    rw [if_neg (by omega), if_pos (.inr (.inl ht))]
  · by_cases n1 : nUse zs = 1
    · obtain ⟨s, e1, e2, _⟩ := lens_one he (lim := lim) n1
      have ht : tot (lensL lim zs) = 1 := by rw [s2, ← hn]; exact n1
      have hsp : spc (lensL lim zs) = 16384 := by
        rw [s1, e1]
        simp only [List.map_cons, List.map_nil, List.sum_cons, List.sum_nil, Nat.add_zero, e2]
        rfl
      rw [if_neg (by omega), if_pos (.inr (.inr ⟨ht, (one_half ht).1 hsp⟩))]
    · have hk := lens_kraft he h1 h15 hl (by omega)
      rw [← s1] at hk
      rw [if_neg (by omega), if_pos (.inl hk)]
end Go.Proofs.YtoeabfcnfofbiaaDoor
