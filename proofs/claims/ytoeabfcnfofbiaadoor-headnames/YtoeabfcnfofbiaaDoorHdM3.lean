
import Derived.Test.YtoeabfcnfofbiaaDoorHdM2
namespace Go.Proofs.YtoeabfcnfofbiaaDoor
set_option linter.unusedVariables false

/-! Layer 8: the program's own way to runs: a length that stands there k times, run by run. -/
def led8 (v : Int) (k : Nat) (again : Bool) : Rn8 := if v = 0 ∧ 11 ≤ k then ⟨18, (min k 138 : Nat)⟩ else if v = 0 ∧ 3 ≤ k then ⟨17, (min k 10 : Nat)⟩ else if ¬ v = 0 ∧ again = true ∧ 3 ≤ k then ⟨16, (min k 6 : Nat)⟩ else ⟨v, 1⟩
theorem led8_ct (v : Int) {k : Nat} (hk : 1 ≤ k) (again : Bool) : 1 ≤ (led8 v k again).ct ∧ (led8 v k again).ct ≤ k := by
  unfold led8
  split
  · simp only; omega
  · split
    · simp only; omega
    · split
      · simp only; omega
      · simp only; omega
def spd8 : Nat → Int → Nat → Bool → List Rn8
  | 0, _, _, _ => []
  | f + 1, v, k, again => if k = 0 then [] else led8 v k again :: spd8 f v (k - (led8 v k again).ct.toNat) true
theorem spd8_fuel (v : Int) : ∀ (f g k : Nat) (again : Bool), k ≤ f → k ≤ g → spd8 f v k again = spd8 g v k again
  | 0, 0, k, again, _, _ => rfl
  | 0, g + 1, k, again, h, _ => by rw [spd8, spd8, if_pos (by omega)]
  | f + 1, 0, k, again, _, h => by rw [spd8, spd8, if_pos (by omega)]
  | f + 1, g + 1, k, again, h1, h2 => by
    rw [spd8, spd8]
    split
    · rfl
    · have := led8_ct v (k := k) (by omega) again
      rw [spd8_fuel v f g _ true (by omega) (by omega)]
theorem spd8_zero (f : Nat) (k : Nat) : spd8 f 0 k true = spd8 f 0 k false := by
  cases f with
  | zero => rfl
  | succ f =>
    have e : led8 0 k true = led8 0 k false := by simp [led8]
    rw [spd8, spd8, e]
theorem pre8_rep (v : Int) (rest : List Int) (hr : rest.head? ≠ some v) : ∀ k, pre8 v (List.replicate k v ++ rest) = k
  | 0 => by
    cases rest with
    | nil => rfl
    | cons x r =>
      have : ¬ x = v := fun e => hr (by simp [e])
      simp [pre8, this]
  | k + 1 => by
    rw [List.replicate_succ, List.cons_append, pre8, if_pos rfl, pre8_rep v rest hr k]
/-- A step of the document's runs at k lengths v. -/
theorem rung8_rep {v : Int} {rest : List Int} (hr : rest.head? ≠ some v) {k : Nat} (hk : 1 ≤ k) (f : Nat) (hf : k + rest.length ≤ f) :
    rung8 f (List.replicate k v ++ rest) = row8 v k ++ rung8 f (List.replicate (k - sum8 (row8 v k)) v ++ rest) := by
  obtain ⟨f, rfl⟩ : ∃ g, f = g + 1 := ⟨f - 1, by omega⟩
  obtain ⟨k, rfl⟩ : ∃ j, k = j + 1 := ⟨k - 1, by omega⟩
  have hs := row8_sum (v := v) hk
  have hp := pre8_rep v rest hr (k + 1)
  have hd : (List.replicate (k + 1) v ++ rest).drop (sum8 (row8 v (k + 1))) = List.replicate (k + 1 - sum8 (row8 v (k + 1))) v ++ rest := by
    rw [List.drop_append_of_le_length (by simpa using hs.2), List.drop_replicate]
  have e : List.replicate (k + 1) v ++ rest = v :: (List.replicate k v ++ rest) := by rw [List.replicate_succ, List.cons_append]
  rw [e] at hp hd
  rw [e, rung8, hp, hd, rung8_fuel f (f + 1) _ (by simp; omega) (by simp; omega)]
theorem led8_more {v : Int} (hv : ¬ v = 0) {j : Nat} (hj : 3 ≤ j) : led8 v j true = ⟨16, (min j 6 : Nat)⟩ := by unfold led8; simp [hv, hj]
theorem led8_less {v : Int} (hv : ¬ v = 0) {j : Nat} (hj : ¬ 3 ≤ j) (b : Bool) : led8 v j b = ⟨v, 1⟩ := by unfold led8; simp [hv, hj]
theorem led8_first {v : Int} (hv : ¬ v = 0) (j : Nat) : led8 v j false = ⟨v, 1⟩ := by unfold led8; simp [hv]
/-- What stands behind the first run of a length that is not nought. -/
theorem spd8_rep {v : Int} (hv : ¬ v = 0) : ∀ (f j : Nat), j ≤ f → spd8 f v j true = rep8 f j ++ spd8 f v (j - sum8 (rep8 f j)) true ∧ j - sum8 (rep8 f j) < 3
  | 0, j, h => by simp [spd8, rep8, sum8]; omega
  | f + 1, j, h => by
    rw [rep8]
    by_cases h3 : 3 ≤ j
    · rw [if_pos h3]
      obtain ⟨i1, i2⟩ := spd8_rep hv f (j - min j 6) (by omega)
      simp only [sum8, Int.toNat_natCast]
      have hss := rep8_sum f (j - min j 6)
      refine ⟨?_, by omega⟩
      conv => lhs; rw [spd8, if_neg (by omega), led8_more hv h3]
      simp only [Int.toNat_natCast]
      rw [i1, List.cons_append, show j - (min j 6 + sum8 (rep8 f (j - min j 6))) = j - min j 6 - sum8 (rep8 f (j - min j 6)) by omega, spd8_fuel v f (f + 1) _ true (by omega) (by omega)]
    · rw [if_neg h3]
      simp [sum8]
      omega
/-- Few lengths: one run each. -/
theorem rung8_few {v : Int} (hv : ¬ v = 0) {rest : List Int} (hr : rest.head? ≠ some v) (f : Nat) : ∀ (m : Nat), m < 3 → m + rest.length ≤ f → rung8 f (List.replicate m v ++ rest) = spd8 m v m true ++ rung8 f rest
  | 0, _, _ => by simp [spd8]
  | m + 1, hm, hf => by
    have hrow : row8 v (m + 1) = [⟨v, 1⟩] := by
      unfold row8
      rw [if_neg hv]
      have : rep8 (m + 1 - 1) (m + 1 - 1) = [] := by
        cases m with
        | zero => rfl
        | succ m => rw [show m + 1 + 1 - 1 = m + 1 by omega, rep8, if_neg (by omega)]
      rw [this]
    rw [rung8_rep hr (by omega) f hf, hrow]
    have e1 : sum8 [(⟨v, 1⟩ : Rn8)] = 1 := by simp [sum8]
    rw [e1, show m + 1 - 1 = m by omega, rung8_few hv hr f m (by omega) (by omega), spd8, if_neg (by omega), led8_less hv (by omega)]
    simp
/-- THE STRETCH: what the program lays down for k lengths v is what the document does. -/
theorem rung8_spd {v : Int} {rest : List Int} (hr : rest.head? ≠ some v) (f : Nat) : ∀ (k : Nat), k + rest.length ≤ f → rung8 f (List.replicate k v ++ rest) = spd8 k v k false ++ rung8 f rest := by
  intro k
  induction k using Nat.strongRecOn with
  | ind k ih =>
    intro hf
    by_cases hk : k = 0
    · subst hk; simp [spd8]
    · by_cases hv : v = 0
      · subst hv
        obtain ⟨j, rfl⟩ : ∃ j, k = j + 1 := ⟨k - 1, by omega⟩
        have hrow : row8 0 (j + 1) = [led8 0 (j + 1) false] := by
          unfold row8 led8
          by_cases h11 : 11 ≤ j + 1
          · simp [h11]
          · by_cases h3 : 3 ≤ j + 1
            · have : min (j + 1) 10 = j + 1 := by omega
              simp [h11, h3, this]
            · simp [h11, h3]
        have hct := led8_ct 0 (k := j + 1) (by omega) false
        rw [rung8_rep hr (by omega) f hf, hrow, spd8, if_neg (by omega)]
        have es : sum8 [led8 0 (j + 1) false] = (led8 0 (j + 1) false).ct.toNat := by simp [sum8]
        rw [es, ih _ (by omega) (by omega), spd8_zero, spd8_fuel 0 j (j + 1 - (led8 0 (j + 1) false).ct.toNat) _ false (by omega) (by omega)]
        simp
      · obtain ⟨j, rfl⟩ : ∃ j, k = j + 1 := ⟨k - 1, by omega⟩
        obtain ⟨s1, s2⟩ := spd8_rep hv j j (Nat.le_refl _)
        have hrow : row8 v (j + 1) = ⟨v, 1⟩ :: rep8 j j := by unfold row8; rw [if_neg hv]; rfl
        have es : sum8 (⟨v, 1⟩ :: rep8 j j) = 1 + sum8 (rep8 j j) := by simp [sum8]
        have hss := rep8_sum j j
        rw [rung8_rep hr (by omega) f hf, hrow, es, show j + 1 - (1 + sum8 (rep8 j j)) = j - sum8 (rep8 j j) by omega, rung8_few hv hr f _ s2 (by omega), spd8, if_neg (by omega), led8_first hv]
        have e1 : (1 : Int).toNat = 1 := rfl
        simp only [e1, Nat.add_sub_cancel]
        rw [s1, spd8_fuel v (j - sum8 (rep8 j j)) j _ true (by omega) (by omega)]
        simp
/-- At a place: the stretch there, and what stands behind. -/
theorem rung8_str {zs : List Int} {i : Nat} (h : i < zs.length) : rung8 (zs.length - i) (zs.drop i) = spd8 (pre8 (zs.getD i 0) (zs.drop i)) (zs.getD i 0) (pre8 (zs.getD i 0) (zs.drop i)) false ++ rung8 (zs.length - (i + pre8 (zs.getD i 0) (zs.drop i))) (zs.drop (i + pre8 (zs.getD i 0) (zs.drop i))) := by
  obtain ⟨v, hv⟩ : ∃ v, v = zs.getD i 0 := ⟨_, rfl⟩
  obtain ⟨k, hk⟩ : ∃ k, k = pre8 v (zs.drop i) := ⟨_, rfl⟩
  rw [← hv, ← hk]
  have hpl := pre8_le v (zs.drop i)
  rw [← hk, List.length_drop] at hpl
  have hsp : zs.drop i = List.replicate k v ++ zs.drop (i + k) := by
    have := pre8_take v (zs.drop i) k (by omega)
    rw [← this, ← List.drop_drop, List.take_append_drop]
  have hr : (zs.drop (i + k)).head? ≠ some v := by
    intro e
    have e1 : k + 1 ≤ pre8 v (zs.drop i) := by
      rw [pre8_iff]
      rw [List.head?_drop] at e
      have hlt : i + k < zs.length := by
        rcases Nat.lt_or_ge (i + k) zs.length with h | h
        · exact h
        · simp [List.getElem?_eq_none h] at e
      refine ⟨by rw [List.length_drop]; omega, fun j hj => ?_⟩
      by_cases e2 : j = k
      · subst e2
        simp [List.getD, e]
      · have := (pre8_iff v (zs.drop i) k).1 (by omega)
        exact this.2 j (by omega)
    omega
  have hg : (zs.drop (i + k)).length ≤ zs.length - (i + k) := by rw [List.length_drop]; omega
  conv => lhs; rw [hsp]
  rw [rung8_spd hr _ k (by rw [List.length_drop]; omega), rung8_fuel (zs.length - i) (zs.length - (i + k)) _ (by rw [List.length_drop]; omega) hg]
theorem spd8_ct (v : Int) : ∀ (f k : Nat) (again : Bool), ∀ r ∈ spd8 f v k again, 1 ≤ r.ct ∧ r.ct ≤ k
  | 0, k, again, r, h => by simp [spd8] at h
  | f + 1, k, again, r, h => by
    rw [spd8] at h
    split at h
    · simp at h
    · have hc := led8_ct v (k := k) (by omega) again
      rcases List.mem_cons.1 h with rfl | h
      · exact hc
      · have := spd8_ct v f _ true r h
        omega
theorem spd8_len (v : Int) : ∀ (f k : Nat) (again : Bool), (spd8 f v k again).length ≤ k
  | 0, k, again => by simp [spd8]
  | f + 1, k, again => by
    rw [spd8]
    split
    · simp
    · have hc := led8_ct v (k := k) (by omega) again
      have := spd8_len v f (k - (led8 v k again).ct.toNat) true
      rw [List.length_cons]
      omega
end Go.Proofs.YtoeabfcnfofbiaaDoor
