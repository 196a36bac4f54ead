
import Derived.Test.YtoeabfcnfofbiaaDoorHdR2
namespace Go.Proofs.YtoeabfcnfofbiaaDoor
open Go.RowKit
set_option linter.unusedVariables false

/-! The document's Runs. -/
theorem pre8_iff (v : Int) : ∀ (l : List Int) (k : Nat), k ≤ pre8 v l ↔ k ≤ l.length ∧ ∀ j, j < k → l.getD j 0 = v
  | [], k => by
    rw [pre8]
    constructor
    · intro h; exact ⟨h, fun j hj => by omega⟩
    · intro h; exact h.1
  | x :: r, 0 => by simp
  | x :: r, k + 1 => by
    rw [pre8]
    by_cases e : x = v
    · rw [if_pos e]
      have ih := pre8_iff v r k
      constructor
      · intro h
        obtain ⟨h1, h2⟩ := ih.1 (by omega)
        refine ⟨by simp; omega, fun j hj => ?_⟩
        cases j with
        | zero => simpa using e
        | succ j => simpa using h2 j (by omega)
      · rintro ⟨h1, h2⟩
        have := ih.2 ⟨by simp at h1; omega, fun j hj => by simpa using h2 (j + 1) (by omega)⟩
        omega
    · rw [if_neg e]
      constructor
      · intro h; omega
      · rintro ⟨_, h2⟩
        exact absurd (by simpa using h2 0 (by omega)) e
theorem rung8_fuel : ∀ (f g : Nat) (l : List Int), l.length ≤ f → l.length ≤ g → rung8 f l = rung8 g l
  | 0, 0, l, _, _ => rfl
  | 0, g + 1, l, h, _ => by
    have : l = [] := List.length_eq_zero_iff.1 (by omega)
    subst this
    rfl
  | f + 1, 0, l, _, h => by
    have : l = [] := List.length_eq_zero_iff.1 (by omega)
    subst this
    rfl
  | f + 1, g + 1, [], _, _ => rfl
  | f + 1, g + 1, v :: r, h1, h2 => by
    have hp : 1 ≤ pre8 v (v :: r) := by rw [pre8, if_pos rfl]; omega
    have hs := row8_sum (v := v) hp
    rw [rung8, rung8, rung8_fuel f g _ (by simp only [List.length_drop, List.length_cons] at *; omega) (by simp only [List.length_drop, List.length_cons] at *; omega)]
theorem rung8_at {zs : List Int} {i : Nat} (h : i < zs.length) : rung8 (zs.length - i) (zs.drop i) = row8 (zs.getD i 0) (pre8 (zs.getD i 0) (zs.drop i)) ++ rung8 (zs.length - (i + sum8 (row8 (zs.getD i 0) (pre8 (zs.getD i 0) (zs.drop i))))) (zs.drop (i + sum8 (row8 (zs.getD i 0) (pre8 (zs.getD i 0) (zs.drop i))))) := by
  have hd : zs.drop i = zs.getD i 0 :: zs.drop (i + 1) := by rw [List.drop_eq_getElem_cons h]; simp [List.getD, h]
  have hp : 1 ≤ pre8 (zs.getD i 0) (zs.drop i) := by rw [hd, pre8, if_pos rfl]; omega
  have hs := row8_sum (v := zs.getD i 0) hp
  have e : rung8 (zs.length - i) (zs.drop i) = row8 (zs.getD i 0) (pre8 (zs.getD i 0) (zs.drop i)) ++ rung8 (zs.length - i - 1) ((zs.drop i).drop (sum8 (row8 (zs.getD i 0) (pre8 (zs.getD i 0) (zs.drop i))))) := by
    have hf : zs.length - i = (zs.length - i - 1) + 1 := by omega
    rw [hf]
    conv => lhs; rw [hd]
    rw [rung8, ← hd]
    rfl
  rw [e, List.drop_drop, rung8_fuel (zs.length - i - 1) (zs.length - (i + sum8 (row8 (zs.getD i 0) (pre8 (zs.getD i 0) (zs.drop i))))) _ (by simp only [List.length_drop]; omega) (by simp only [List.length_drop]; omega)]
def may8 (zs : List Int) : Prop := zs.length ≤ 320 ∧ ∀ z ∈ zs, 0 ≤ z ∧ z ≤ 15
instance (zs : List Int) : Decidable (may8 zs) := by unfold may8; infer_instance
def rns8 (zs : List Int) : List Rn8 := if may8 zs then runs8 zs else []
def rer8 (zs : List Int) : Int := if may8 zs then 0 else 80
theorem sum8_take : ∀ (R : List Rn8) (x : Nat), x < R.length → sum8 (R.take (x + 1)) = sum8 (R.take x) + (R.getD x ⟨0, 0⟩).ct.toNat
  | [], x, h => by simp at h
  | r :: R, 0, _ => by simp [sum8]
  | r :: R, x + 1, h => by
    have := sum8_take R x (by simpa using h)
    simp only [List.take_succ_cons, sum8] at *
    rw [this]
    simp [List.getD]
    omega
theorem row8_ct (v : Int) (k : Nat) (hk : 1 ≤ k) : ∀ r ∈ row8 v k, 1 ≤ r.ct ∧ r.ct ≤ k := by
  have hrep : ∀ f j, ∀ r ∈ rep8 f j, 1 ≤ r.ct ∧ r.ct ≤ (j : Int) := by
    intro f
    induction f with
    | zero => intro j r h; simp [rep8] at h
    | succ f ih =>
      intro j r h
      rw [rep8] at h
      split at h
      · rcases List.mem_cons.1 h with rfl | h
        · simp only; omega
        · have := ih _ r h; omega
      · simp at h
  intro r h
  unfold row8 at h
  split at h
  · split at h
    · simp at h; subst h; simp only; omega
    · split at h
      · simp at h; subst h; simp only; omega
      · simp at h; subst h; simp only; omega
  · rcases List.mem_cons.1 h with rfl | h
    · simp only; omega
    · have := hrep _ _ r h; omega
theorem sum8_len : ∀ (R : List Rn8), (∀ r ∈ R, 1 ≤ r.ct) → R.length ≤ sum8 R
  | [], _ => by simp
  | r :: R, h => by
    have h1 := h r (by simp)
    have := sum8_len R fun x hx => h x (by simp [hx])
    simp only [sum8, List.length_cons]
    omega
theorem sum8_takele : ∀ (R : List Rn8) (x : Nat), sum8 (R.take x) ≤ sum8 R
  | [], x => by simp
  | r :: R, 0 => by simp [sum8]
  | r :: R, x + 1 => by
    have := sum8_takele R x
    simp only [List.take_succ_cons, sum8]
    omega
theorem take_snocN {R : List Rn8} {x : Nat} (h : x < R.length) : R.take (x + 1) = R.take x ++ [R.getD x ⟨0, 0⟩] := by
  rw [List.take_succ_eq_append_getElem h]; simp [List.getD, h]
theorem may8_at {zs : List Int} {i : Nat} (hi : i < zs.length) (h : may8 zs) : 0 ≤ zs.getD i 0 ∧ zs.getD i 0 ≤ 15 := h.2 _ (by simp [List.getD, hi])
theorem may8_all {zs : List Int} (hl : zs.length ≤ 320) (h : ∀ j, j < zs.length → 0 ≤ zs.getD j 0 ∧ zs.getD j 0 ≤ 15) : may8 zs := ⟨hl, fun z hz => by
  obtain ⟨i, hi, rfl⟩ := List.mem_iff_getElem.1 hz
  have := h i hi
  simpa [List.getD, hi] using this⟩
end Go.Proofs.YtoeabfcnfofbiaaDoor
