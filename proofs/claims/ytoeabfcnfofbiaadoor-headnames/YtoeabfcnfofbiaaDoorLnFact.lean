
import Derived.Test.YtoeabfcnfofbiaaDoorLnLen2
namespace Go.Proofs.YtoeabfcnfofbiaaDoor
set_option linter.unusedVariables false

theorem sum_mul (c : Nat) (f : Nat → Nat) : ∀ l : List Nat, (l.map fun i => c * f i).sum = c * (l.map f).sum
  | [] => by simp
  | x :: r => by
    have := sum_mul c f r
    simp only [List.map_cons, List.sum_cons, this, Nat.mul_add]
/-- The symbols in use among the first k. -/
def usI (zs : List Int) (k : Nat) : List Nat := (List.range k).filter fun i => decide (zs.getD i 0 ≠ 0)
theorem usI_snoc (zs : List Int) (k : Nat) : usI zs (k + 1) = usI zs k ++ (if zs.getD k 0 = 0 then [] else [k]) := by
  unfold usI
  rw [List.range_succ, List.filter_append]
  congr 1
  by_cases h : zs.getD k 0 = 0
  · rw [if_pos h, List.filter_cons, if_neg (by simpa using h), List.filter_nil]
  · rw [if_neg h, List.filter_cons, if_pos (decide_eq_true h), List.filter_nil]
theorem usI_mem {zs : List Int} {k i : Nat} : i ∈ usI zs k ↔ i < k ∧ zs.getD i 0 ≠ 0 := by
  unfold usI
  rw [List.mem_filter, List.mem_range]
  simp
theorem pairs_usI (zs : List Int) (k : Nat) : pairs zs k = (usI zs k).map fun i => ((zs.getD i 0).toNat, i) := rfl
/-- Sums over the leaves are sums over the symbols in use. -/
theorem LF_sum (zs : List Int) (f : Nat → Nat) : ((LFz zs).map fun x => f x.2).sum = ((usI zs zs.length).map f).sum := by
  have h := ((LFz_perm zs).map fun x => f x.2).sum_nat
  rw [h, pairs_usI, List.map_map]
  rfl
theorem nUse_us (zs : List Int) : nUse zs = (usI zs zs.length).length := by
  unfold nUse
  rw [(LFz_perm zs).length_eq, pairs_usI, List.length_map]
theorem repl_get (n i : Nat) : (List.replicate n (0 : Int)).getD i 0 = 0 := by
  by_cases h : i < n
  · simp [List.getD, h]
  · simp [List.getD, h]
theorem nn {zs : List Int} (he : errOf zs = 0) : ∀ i, 0 ≤ zs.getD i 0 := fun i => ((errOf_zero he).2 i).1
theorem LF_facts {zs : List Int} (he : errOf zs = 0) : (LFz zs).Pairwise (fun a b => a.1 ≤ b.1) ∧ (∀ x ∈ LFz zs, 0 < x.1) ∧ ((LFz zs).map (·.2)).Nodup := by
  refine ⟨(LFz_ord zs).imp (fun h => by unfold pl at h; omega), fun x hx => (LF_mem (nn he) hx).2.2, ?_⟩
  have h1 : ((pairs zs zs.length).map (·.2)).Nodup := by
    rw [List.nodup_iff_pairwise_ne, List.pairwise_map]
    exact (pairs_ord zs zs.length).imp (fun h => by omega)
  exact ((LFz_perm zs).map (·.2)).nodup_iff.2 h1
theorem us_LF {zs : List Int} {i : Nat} (h : i ∈ usI zs zs.length) : ((zs.getD i 0).toNat, i) ∈ LFz zs := by
  refine (LFz_perm zs).mem_iff.2 ?_
  rw [pairs_usI]
  exact List.mem_map.2 ⟨i, h, rfl⟩
/-- The length of a symbol, as a natural number. -/
theorem lens_get {zs : List Int} (he : errOf zs = 0) {lim : Nat} (h1 : 1 ≤ lim) (hl : nUse zs ≤ 2 ^ lim) (hn : 2 ≤ nUse zs) (i : Nat) : (lensL lim zs).getD i 0 = (lenOf (LFz zs) lim i : Int) := by
  unfold lensL
  rw [if_neg (by omega), if_neg (by omega), bumps_get _ _ _ (fun s hs => ?_), repl_get]
  · unfold lenOf; omega
  · rw [List.length_replicate]
    unfold taken at hs
    obtain ⟨t, ht, hst⟩ := List.mem_flatMap.1 hs
    exact row_sym (itF (LFz zs)) (fun s => s < zs.length) (fun t ht s hs => by
      unfold itF at ht
      obtain ⟨x, hx, rfl⟩ := List.mem_map.1 ht
      simp at hs
      subst hs
      exact (LF_mem (nn he) hx).1) (lim - 1) t (List.mem_of_mem_take ht) s hst
theorem lens_none {zs : List Int} (he : errOf zs = 0) {lim i : Nat} (h : zs.getD i 0 = 0) : (lensL lim zs).getD i 0 = 0 := by
  unfold lensL
  split
  · exact repl_get _ _
  · split
    · rename_i h0 h1
      have hm : (LFz zs).getD 0 (0, 0) ∈ LFz zs := by
        unfold nUse at h1
        simp [List.getD, show 0 < (LFz zs).length by omega]
      have h2 := LF_mem (nn he) hm
      have hne : ((LFz zs).getD 0 (0, 0)).2 ≠ i := by
        intro e
        rw [e] at h2
        omega
      simp only [List.getD, List.getElem?_set] at hne ⊢
      rw [if_neg hne]
      exact repl_get _ _
    · rw [bumps_get _ _ _ (fun s hs => ?_), repl_get]
      · have : (taken (LFz zs) lim).count i = 0 := by
          rw [List.count_eq_zero]
          intro hs
          unfold taken at hs
          obtain ⟨t, ht, hst⟩ := List.mem_flatMap.1 hs
          have h3 := row_sym (itF (LFz zs)) (fun s => zs.getD s 0 ≠ 0) (fun t ht s hs => by
            unfold itF at ht
            obtain ⟨x, hx, rfl⟩ := List.mem_map.1 ht
            simp at hs
            subst hs
            have := LF_mem (nn he) hx
            omega) (lim - 1) t (List.mem_of_mem_take ht) i hst
          exact h3 h
        omega
      · rw [List.length_replicate]
        unfold taken at hs
        obtain ⟨t, ht, hst⟩ := List.mem_flatMap.1 hs
        exact row_sym (itF (LFz zs)) (fun s => s < zs.length) (fun t ht s hs => by
          unfold itF at ht
          obtain ⟨x, hx, rfl⟩ := List.mem_map.1 ht
          simp at hs
          subst hs
          exact (LF_mem (nn he) hx).1) (lim - 1) t (List.mem_of_mem_take ht) s hst
theorem lens_one {zs : List Int} (he : errOf zs = 0) {lim : Nat} (h1 : nUse zs = 1) : ∃ s, usI zs zs.length = [s] ∧ (lensL lim zs).getD s 0 = 1 ∧ s < zs.length := by
  have h2 := nUse_us zs
  rw [h1] at h2
  obtain ⟨s, hs⟩ := List.length_eq_one_iff.1 h2.symm
  have hm : s ∈ usI zs zs.length := by rw [hs]; simp
  have h3 := us_LF hm
  have h4 : LFz zs = [((zs.getD s 0).toNat, s)] := by
    obtain ⟨x, hx⟩ := List.length_eq_one_iff.1 (show (LFz zs).length = 1 from h1)
    rw [hx] at h3
    simp only [List.mem_singleton] at h3
    rw [hx, h3]
  have h5 := (usI_mem.1 hm).1
  refine ⟨s, hs, ?_, h5⟩
  unfold lensL
  rw [if_neg (by omega), if_pos h1, h4]
  simp [List.getD, h5]
theorem lens_len {zs : List Int} (lim : Nat) : (lensL lim zs).length = zs.length := by
  unfold lensL
  split
  · simp
  · split
    · simp
    · rw [bumps_len]; simp
/-- Each symbol in use has a length from 1 to the limit. -/
theorem lens_bd {zs : List Int} (he : errOf zs = 0) {lim i : Nat} (h1 : 1 ≤ lim) (hl : nUse zs ≤ 2 ^ lim) (hi : i ∈ usI zs zs.length) : 1 ≤ (lensL lim zs).getD i 0 ∧ (lensL lim zs).getD i 0 ≤ lim := by
  have h0 : 1 ≤ nUse zs := by rw [nUse_us]; exact List.length_pos_of_mem hi
  by_cases h2 : nUse zs = 1
  · obtain ⟨s, e1, e2, _⟩ := lens_one he (lim := lim) h2
    rw [e1] at hi
    simp only [List.mem_singleton] at hi
    subst hi
    rw [e2]; omega
  · rw [lens_get he h1 hl (by omega)]
    obtain ⟨f1, f2, f3⟩ := LF_facts he
    have h3 := (pm_all (LFz zs) f1 f2 f3 lim h1 (by unfold nUse at *; omega) hl).1 ((zs.getD i 0).toNat, lenOf (LFz zs) lim i) (by
      unfold XP
      exact List.mem_map.2 ⟨_, us_LF hi, rfl⟩)
    simp only at h3
    omega
theorem lens_kraft {zs : List Int} (he : errOf zs = 0) {lim : Nat} (h1 : 1 ≤ lim) (h15 : lim ≤ 15) (hl : nUse zs ≤ 2 ^ lim) (hn : 2 ≤ nUse zs) : ((usI zs zs.length).map fun i => 2 ^ (15 - ((lensL lim zs).getD i 0).toNat)).sum = 32768 := by
  obtain ⟨f1, f2, f3⟩ := LF_facts he
  have hp := pm_all (LFz zs) f1 f2 f3 lim h1 hn hl
  have hk := hp.2.1
  rw [kraft_all _ _ (fun x hx => (hp.1 x hx).1)] at hk
  unfold XP at hk
  rw [List.map_map] at hk
  have h2 := LF_sum zs (fun i => 2 ^ (lim - lenOf (LFz zs) lim i))
  have h3 : ((LFz zs).map fun x => 2 ^ (lim - lenOf (LFz zs) lim x.2)).sum = 2 ^ lim := hk
  rw [h3] at h2
  have h4 : ((usI zs zs.length).map fun i => 2 ^ (15 - ((lensL lim zs).getD i 0).toNat)) = (usI zs zs.length).map fun i => 2 ^ (15 - lim) * 2 ^ (lim - lenOf (LFz zs) lim i) := by
    apply List.map_congr_left
    intro i hi
    have h5 := lens_bd he h1 hl hi
    rw [lens_get he h1 hl hn] at h5 ⊢
    rw [← Nat.pow_add]
    congr 1
    omega
  rw [h4, sum_mul, ← h2, ← Nat.pow_add, show 15 - lim + lim = 15 by omega]
end Go.Proofs.YtoeabfcnfofbiaaDoor
