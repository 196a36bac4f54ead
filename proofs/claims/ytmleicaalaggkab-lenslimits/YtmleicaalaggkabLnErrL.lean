import Derived.Test.YtmleicaalaggkabLnBest
namespace Go.Proofs.Ytmleicaalaggkab
set_option linter.unusedVariables false

theorem errL_ok {lim : Int} {zs : List Int} (h : errL lim zs = 0) : ∃ l : Nat, lim = (l : Int) ∧ 1 ≤ l ∧ l ≤ 15 ∧ errOf zs = 0 ∧ nUse zs ≤ 2 ^ l ∧ lensR lim zs = lensL l zs := by
  have h0 := h
  unfold errL at h
  split at h
  · omega
  · rename_i h1
    split at h
    · rename_i h2
      split at h
      · omega
      · rename_i h3
        refine ⟨lim.toNat, by omega, by omega, by omega, h2, by omega, ?_⟩
        unfold lensR
        rw [if_pos h0]
    · omega

theorem errL_no {lim : Int} {zs : List Int} (he : ¬ errL lim zs = 0) : errL lim zs = 1 ∨ errL lim zs = 40 ∨ errL lim zs = 41 ∨ errL lim zs = 42 := by
  have h0 := errOf_range zs
  have h2 := he
  unfold errL at h2 ⊢
  split
  · omega
  · rename_i h3
    rw [if_neg h3] at h2
    split
    · rename_i h4
      rw [if_pos h4] at h2
      split
      · omega
      · rename_i h5
        rw [if_neg h5] at h2
        omega
    · omega

/-- What stands there more often has no greater length; of the same count the later symbol has none. -/
theorem lens_ord {zs : List Int} (he : errOf zs = 0) {lim : Nat} (h1 : 1 ≤ lim) (hl : nUse zs ≤ 2 ^ lim) {i k : Nat} (hk : k < zs.length) (hi : i < zs.length) (hz : 0 < zs.getD i 0) (ho : zs.getD i 0 < zs.getD k 0 ∨ (zs.getD k 0 = zs.getD i 0 ∧ i < k)) :
    (lensL lim zs).getD k 0 ≤ (lensL lim zs).getD i 0 := by
  have mi : i ∈ usI zs zs.length := usI_mem.2 ⟨hi, by omega⟩
  have mk : k ∈ usI zs zs.length := usI_mem.2 ⟨hk, by omega⟩
  have hik : i ≠ k := by
    intro e
    subst e
    omega
  have hn : 2 ≤ nUse zs := by
    by_cases h2 : 2 ≤ nUse zs
    · exact h2
    · have h3 : 1 ≤ nUse zs := by rw [nUse_us]; exact List.length_pos_of_mem mi
      obtain ⟨s, e1, _, _⟩ := lens_one he (lim := lim) (show nUse zs = 1 by omega)
      rw [e1] at mi mk
      simp only [List.mem_singleton] at mi mk
      omega
  rw [lens_get he h1 hl hn, lens_get he h1 hl hn]
  obtain ⟨f1, f2, f3⟩ := LF_facts he
  obtain ⟨p, hp, ep⟩ := List.mem_iff_getElem.1 (us_LF mi)
  obtain ⟨q, hq, eq⟩ := List.mem_iff_getElem.1 (us_LF mk)
  have hpq : p ≤ q := by
    by_cases h : p ≤ q
    · exact h
    · have h4 := List.pairwise_iff_getElem.1 (LFz_ord zs) q p hq hp (by omega)
      rw [ep, eq] at h4
      unfold pl at h4
      simp only at h4
      omega
  have h5 := (pm_all (LFz zs) f1 f2 f3 lim h1 hn hl).2.2.2 p q _ _ hpq (by rw [List.getElem?_eq_getElem hp, ep]) (by rw [List.getElem?_eq_getElem hq, eq])
  simp only at h5
  omega
end Go.Proofs.Ytmleicaalaggkab
