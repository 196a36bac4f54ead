
import Derived.Test.YtaipfcfmhdigfaaLzM3
namespace Go.Proofs.Ytaipfcfmhdigfaa
set_option linter.unusedVariables false

/-! For a search that goes from candidate to candidate: distances without one may be passed over. -/
theorem al7_three {D : List Int} {q p : Nat} : 3 ≤ al7 D q p ↔ (p + 2 < D.length ∧ D.getD q 0 = D.getD p 0 ∧ D.getD (q + 1) 0 = D.getD (p + 1) 0 ∧ D.getD (q + 2) 0 = D.getD (p + 2) 0) := by
  rw [al7_iff (by omega)]
  constructor
  · intro h
    exact ⟨(h 2 (by omega)).1, (h 0 (by omega)).2, (h 1 (by omega)).2, (h 2 (by omega)).2⟩
  · rintro ⟨h0, h1, h2, h3⟩ i hi
    obtain rfl | rfl | rfl : i = 0 ∨ i = 1 ∨ i = 2 := by omega
    · exact ⟨by omega, h1⟩
    · exact ⟨by omega, h2⟩
    · exact ⟨h0, h3⟩
theorem bsg7_far (D : List Int) (p W C f d best dist seen : Nat) (h : p < d ∨ W < d ∨ C ≤ seen) : bsg7 D p W C f d best dist seen = (best, dist) := by
  cases f with
  | zero => rfl
  | succ f => rw [bsg7, if_neg (by omega)]
theorem bsg7_skip (D : List Int) (p W C best dist seen : Nat) : ∀ (m d : Nat), d + m ≤ p + 1 → (∀ e, d ≤ e → e < d + m → al7 D (p - e) p < 3) → bsg7 D p W C (p + 1 - d) d best dist seen = bsg7 D p W C (p + 1 - (d + m)) (d + m) best dist seen
  | 0, d, _, _ => rfl
  | m + 1, d, h1, h2 => by
    by_cases hc : d ≤ p ∧ d ≤ W ∧ seen < C
    · rw [show p + 1 - d = p + 1 - (d + 1) + 1 by omega, bsg7, if_pos hc, if_pos (h2 d (Nat.le_refl _) (by omega)), bsg7_skip D p W C best dist seen m (d + 1) (by omega) (fun e a b => h2 e (by omega) (by omega)), show d + 1 + m = d + (m + 1) by omega]
    · rw [bsg7_far D p W C _ d best dist seen (by omega), bsg7_far D p W C _ (d + (m + 1)) best dist seen (by omega)]
/-- No candidate is left: the search is over. -/
theorem bsg7_none (D : List Int) (p W C best dist seen d : Nat) (hd : d ≤ p + 1) (h : ∀ e, d ≤ e → e ≤ p → al7 D (p - e) p < 3) : bsg7 D p W C (p + 1 - d) d best dist seen = (best, dist) := by
  have := bsg7_skip D p W C best dist seen (p + 1 - d) d (by omega) (fun e a b => h e a (by omega))
  rw [this, bsg7_far _ _ _ _ _ _ _ _ _ (by omega)]
/-- A candidate, within the window and the count. -/
theorem bsg7_take (D : List Int) (p W C best dist seen d : Nat) (h1 : d ≤ p) (h2 : d ≤ W) (h3 : seen < C) (h4 : 3 ≤ al7 D (p - d) p) : bsg7 D p W C (p + 1 - d) d best dist seen = if best < al7 D (p - d) p then bsg7 D p W C (p + 1 - (d + 1)) (d + 1) (al7 D (p - d) p) d (seen + 1) else bsg7 D p W C (p + 1 - (d + 1)) (d + 1) best dist (seen + 1) := by
  rw [show p + 1 - d = p + 1 - (d + 1) + 1 by omega, bsg7, if_pos ⟨h1, h2, h3⟩, if_neg (by omega)]
theorem bst7_start (D : List Int) (p W C : Nat) : bst7 D p W C = bsg7 D p W C (p + 1 - 1) 1 0 0 0 := by unfold bst7; simp
end Go.Proofs.Ytaipfcfmhdigfaa
