import Derived.Test.YtmleicaalaggkabLnErrL
import Derived.Test.YtmleicaalaggkabLnCost
import Derived.Test.YtmleicaalaggkabLnLeast
namespace Go.Proofs.Ytmleicaalaggkab
set_option linter.unusedVariables false

theorem sumC_cst {zs ls : List Int} (he : errOf zs = 0) : ∀ k, (∀ i, i < k → 0 ≤ ls.getD i 0) → sumC zs ls k = (cst zs ls k : Nat)
  | 0, _ => by simp [sumC, cst, usI]
  | k + 1, h => by
    have h1 := sumC_cst he k (fun i hi => h i (by omega))
    have h2 := h k (by omega)
    have h3 := nn he k
    rw [cst_snoc]
    unfold sumC
    rw [h1]
    push_cast
    by_cases hz : zs.getD k 0 = 0
    · rw [if_pos hz, hz]; simp
    · rw [if_neg hz]
      push_cast
      rw [Int.toNat_of_nonneg h3, Int.toNat_of_nonneg h2]
/-- Every length, of whatever symbol, is from 0 to the limit. -/
theorem lens_all {zs : List Int} (he : errOf zs = 0) {lim : Nat} (h1 : 1 ≤ lim) (hl : nUse zs ≤ 2 ^ lim) (i : Nat) (hi : i < zs.length) : 0 ≤ (lensL lim zs).getD i 0 ∧ (lensL lim zs).getD i 0 ≤ lim := by
  by_cases hz : zs.getD i 0 = 0
  · rw [lens_none he hz]; omega
  · have := lens_bd he h1 hl (usI_mem.2 ⟨hi, hz⟩)
    omega
theorem lens_space {zs : List Int} (he : errOf zs = 0) {lim : Nat} (h1 : 1 ≤ lim) (h15 : lim ≤ 15) (hl : nUse zs ≤ 2 ^ lim) : ((usI zs zs.length).map fun i => 2 ^ (15 - ((lensL lim zs).getD i 0).toNat)).sum ≤ 32768 := by
  have hu := nUse_us zs
  by_cases h0 : nUse zs = 0
  · have : usI zs zs.length = [] := List.length_eq_zero_iff.1 (by omega)
    rw [this]
    simp
  · by_cases h2 : nUse zs = 1
    · obtain ⟨s, e1, e2, e3⟩ := lens_one he (lim := lim) h2
      rw [e1]
      simp only [List.map_cons, List.map_nil, List.sum_cons, List.sum_nil, e2]
      decide
    · rw [lens_kraft he h1 h15 hl (by omega)]
      exact Nat.le_refl _
/-- A greater limit costs no more. -/
theorem cst_more {zs : List Int} (he : errOf zs = 0) {lim : Nat} (h1 : 1 ≤ lim) (h15 : lim + 1 ≤ 15) (hl : nUse zs ≤ 2 ^ lim) : cst zs (lensL (lim + 1) zs) zs.length ≤ cst zs (lensL lim zs) zs.length := by
  have h2 : nUse zs ≤ 2 ^ (lim + 1) := Nat.le_trans hl (Nat.pow_le_pow_right (by decide) (by omega))
  refine cst_best he (by omega) h15 h2 (fun i hi hz => ?_) (lens_space he h1 (by omega) hl)
  have := lens_bd he h1 hl (usI_mem.2 ⟨hi, hz⟩)
  omega
theorem list_get (zs : List Int) : (List.range zs.length).map (fun i => zs.getD i 0) = zs := by
  apply List.ext_getElem
  · simp
  · intro i h1 h2
    simp [List.getD, h2]
theorem usedZ_us (zs : List Int) : usedZ zs = (usI zs zs.length).map fun i => zs.getD i 0 := by
  have h := list_get zs
  unfold usedZ usI
  conv => lhs; rw [← h]
  rw [List.filter_map]
  rfl
theorem le_eq : ∀ (l r : List Nat), l.Perm r → l.Pairwise (· ≤ ·) → r.Pairwise (· ≤ ·) → l = r
  | [], r, h, _, _ => by have := h.length_eq; exact (List.eq_nil_of_length_eq_zero (by simpa using this.symm)).symm
  | x :: l, [], h, _, _ => by have := h.length_eq; simp at this
  | x :: l, y :: r, h, h1, h2 => by
    obtain ⟨a1, a2⟩ := List.pairwise_cons.1 h1
    obtain ⟨b1, b2⟩ := List.pairwise_cons.1 h2
    have e : x = y := by
      have hx : x ∈ y :: r := h.mem_iff.1 (by simp)
      have hy : y ∈ x :: l := h.mem_iff.2 (by simp)
      rcases List.mem_cons.1 hx with e | hx
      · exact e
      · rcases List.mem_cons.1 hy with e | hy
        · exact e.symm
        · have p1 := b1 x hx
          have p2 := a1 y hy
          omega
    subst e
    rw [le_eq l r h.cons_inv a2 b2]
theorem wts_LF {zs : List Int} (he : errOf zs = 0) : (LFz zs).map (·.1) = wts zs := by
  refine le_eq _ _ ?_ ?_ (srt_sorted _)
  · have h1 := (LFz_perm zs).map (·.1)
    refine h1.trans (List.Perm.trans ?_ (srt_perm _).symm)
    rw [pairs_usI, usedZ_us, List.map_map, List.map_map]
    exact List.Perm.refl _
  · rw [List.pairwise_map]
    exact (LF_facts he).1
theorem usedZ_len (zs : List Int) : (usedZ zs).length = nUse zs := by
  rw [usedZ_us, List.length_map, nUse_us]
theorem least_one {zs : List Int} (he : errOf zs = 0) {lim : Nat} (h : nUse zs ≤ 1) : leastV zs = (cst zs (lensL lim zs) zs.length : Nat) := by
  unfold leastV
  rw [usedZ_len]
  by_cases h1 : nUse zs = 1
  · obtain ⟨s, e1, e2, e3⟩ := lens_one he (lim := lim) h1
    have := nn he s
    rw [if_pos h1, usedZ_us]
    unfold cst
    rw [e1]
    simp only [List.map_cons, List.map_nil, List.sum_cons, List.sum_nil, e2]
    simp [List.getD]
    simp [List.getD] at this
    omega
  · have h0 : nUse zs = 0 := by omega
    have hu := nUse_us zs
    have : usI zs zs.length = [] := List.length_eq_zero_iff.1 (by omega)
    rw [if_neg h1, h0]
    unfold cst
    rw [this]
    simp [huf]
theorem least_two {zs : List Int} (he : errOf zs = 0) (h : 2 ≤ nUse zs) : leastV zs = (huf (LFz zs).length ((LFz zs).map (·.1)) : Nat) := by
  unfold leastV
  rw [usedZ_len, if_neg (by omega), wts_LF he]
  rfl
/-- No limit comes below the least. -/
theorem least_le {zs : List Int} (he : errOf zs = 0) {lim : Nat} (h1 : 1 ≤ lim) (hl : nUse zs ≤ 2 ^ lim) : leastV zs ≤ (cst zs (lensL lim zs) zs.length : Nat) := by
  by_cases h : nUse zs ≤ 1
  · rw [least_one he (lim := lim) h]; omega
  · have hn : 2 ≤ nUse zs := by omega
    obtain ⟨f1, f2, f3⟩ := LF_facts he
    obtain ⟨p1, p2, p3, p4⟩ := pm_all (LFz zs) f1 f2 f3 lim h1 hn hl
    rw [least_two he hn, cst_LF he h1 hl hn]
    have := huf_least lim h1 (LFz zs).length ((LFz zs).map (·.1)) (by rw [List.pairwise_map]; exact f1) (by
      intro x hx
      obtain ⟨y, hy, rfl⟩ := List.mem_map.1 hx
      exact f2 y hy) (by simp) hn (XP (LFz zs) lim) (by
      unfold XP
      rw [List.map_map]
      exact List.Perm.refl _) p1 (by omega)
    omega
/-- Where the limit is great enough it is the least. -/
theorem least_eq {zs : List Int} (he : errOf zs = 0) {lim : Nat} (h1 : 1 ≤ lim) (hl : nUse zs ≤ 2 ^ lim) (h : nUse zs ≤ lim + 1) : leastV zs = (cst zs (lensL lim zs) zs.length : Nat) := by
  by_cases h2 : nUse zs ≤ 1
  · exact least_one he h2
  · have hn : 2 ≤ nUse zs := by omega
    obtain ⟨f1, f2, f3⟩ := LF_facts he
    rw [least_two he hn, cst_LF he h1 hl hn, pm_huf (LFz zs) f1 f2 f3 lim hn h hl]
end Go.Proofs.Ytmleicaalaggkab
