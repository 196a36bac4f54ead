import Derived.Test.YtfogknlinmchjaaPax
namespace Go.Proofs.Ytfogknlinmchjaa
set_option linter.unusedVariables false

/-! Greedy parts are fewest (mathematics). -/
theorem mx_ge14 {z p : List Int} {k : Nat} (hk : 1 ≤ k) : k ≤ mx14 z p ↔ ∃ j, j < z.length ∧ k ≤ lc13 (z.drop j) p := by
  constructor
  · intro h
    rcases mp14_has z p z.length with c | ⟨j, j1, j2⟩
    · unfold mx14 at h; omega
    · exact ⟨j, j1, by unfold mx14 at h; omega⟩
  · rintro ⟨j, j1, j2⟩
    have := mp14_ge z p j1
    unfold mx14
    omega
theorem lc_cons14 (x y : Int) (a b : List Int) : lc13 (x :: a) (y :: b) = if x = y then lc13 a b + 1 else 0 := rfl
theorem lc_tail14 {z p : List Int} {j i : Nat} (h : 1 ≤ lc13 (z.drop j) (p.drop i)) : lc13 (z.drop j) (p.drop i) = lc13 (z.drop (j + 1)) (p.drop (i + 1)) + 1 := by
  have h1 := lc13_le (z.drop j) (p.drop i)
  have h2 := lc13_le' (z.drop j) (p.drop i)
  rw [List.length_drop] at h1 h2
  have e1 : z.drop j = z[j]'(by omega) :: z.drop (j + 1) := List.drop_eq_getElem_cons (by omega)
  have e2 : p.drop i = p[i]'(by omega) :: p.drop (i + 1) := List.drop_eq_getElem_cons (by omega)
  rw [e1, e2] at h ⊢
  rw [lc_cons14] at h ⊢
  split at h
  · rename_i c
    rw [if_pos c]
  · omega
theorem mx_next14 (z p : List Int) (i : Nat) : mx14 z (p.drop i) ≤ mx14 z (p.drop (i + 1)) + 1 := by
  rcases Nat.lt_or_ge (mx14 z (p.drop i)) 2 with c | c
  · omega
  · obtain ⟨j, j1, j2⟩ := (mx_ge14 (k := mx14 z (p.drop i)) (by omega)).1 (Nat.le_refl _)
    have h1 := lc_tail14 (z := z) (p := p) (j := j) (i := i) (by omega)
    have h2 := lc13_le (z.drop j) (p.drop i)
    rw [List.length_drop] at h2
    have h3 := (mx_ge14 (z := z) (p := p.drop (i + 1)) (k := mx14 z (p.drop i) - 1) (by omega)).2 ⟨j + 1, by omega, by omega⟩
    omega
/-- Where the next part begins. -/
def J14 (z p : List Int) (i : Nat) : Nat := i + max 1 (mx14 z (p.drop i))
theorem J14_next (z p : List Int) (i : Nat) : J14 z p i ≤ J14 z p (i + 1) := by
  have := mx_next14 z p i
  unfold J14
  omega
theorem J14_mono (z p : List Int) {i j : Nat} (h : i ≤ j) : J14 z p i ≤ J14 z p j := by
  induction j with
  | zero => rw [show i = 0 by omega]; exact Nat.le_refl _
  | succ j ih =>
    by_cases c : i = j + 1
    · rw [c]; exact Nat.le_refl _
    · have := ih (by omega)
      have := J14_next z p j
      omega
theorem J14_gt (z p : List Int) (i : Nat) : i < J14 z p i := by unfold J14; omega
theorem J14_le (z p : List Int) {i : Nat} (h : i < p.length) : J14 z p i ≤ p.length := by
  have := mx14_le z (p.drop i)
  rw [List.length_drop] at this
  unfold J14
  omega
/-- How many parts there are from a place on. -/
def gn14 (z p : List Int) : Nat → Nat → Nat
  | 0, _ => 0
  | f + 1, i => if i < p.length then 1 + gn14 z p f (J14 z p i) else 0
theorem gn14_any (z p : List Int) : ∀ (f f' i : Nat), p.length - i ≤ f → p.length - i ≤ f' → gn14 z p f i = gn14 z p f' i
  | 0, 0, i, _, _ => rfl
  | 0, f' + 1, i, h, _ => by
    unfold gn14
    rw [if_neg (by omega)]
  | f + 1, 0, i, _, h => by
    unfold gn14
    rw [if_neg (by omega)]
  | f + 1, f' + 1, i, h, h' => by
    unfold gn14
    have := J14_gt z p i
    by_cases c : i < p.length
    · rw [if_pos c, if_pos c, gn14_any z p f f' (J14 z p i) (by omega) (by omega)]
    · rw [if_neg c, if_neg c]
def G14 (z p : List Int) (i : Nat) : Nat := gn14 z p p.length i
theorem G14_end (z p : List Int) {i : Nat} (h : ¬ i < p.length) : G14 z p i = 0 := by
  unfold G14
  cases p.length with
  | zero => rfl
  | succ f =>
    unfold gn14
    rw [if_neg h]
theorem G14_step (z p : List Int) {i : Nat} (h : i < p.length) : G14 z p i = 1 + G14 z p (J14 z p i) := by
  unfold G14
  have := J14_gt z p i
  rw [gn14_any z p p.length (p.length + 1) i (by omega) (by omega)]
  show (if i < p.length then _ else _) = _
  rw [if_pos h]
theorem G14_mono (z p : List Int) : ∀ (d i j : Nat), p.length - i ≤ d → i ≤ j → G14 z p j ≤ G14 z p i
  | 0, i, j, h, hij => by rw [G14_end z p (i := j) (by omega)]; exact Nat.zero_le _
  | d + 1, i, j, h, hij => by
    by_cases c : j < p.length
    · rw [G14_step z p c, G14_step z p (i := i) (by omega)]
      have h1 := J14_gt z p i
      have h2 := G14_mono z p d (J14 z p i) (J14 z p j) (by omega) (J14_mono z p hij)
      omega
    · rw [G14_end z p c]; exact Nat.zero_le _
theorem G14_le (z p : List Int) : ∀ (d i : Nat), p.length - i ≤ d → G14 z p i ≤ p.length - i
  | 0, i, h => by rw [G14_end z p (by omega)]; exact Nat.zero_le _
  | d + 1, i, h => by
    by_cases c : i < p.length
    · rw [G14_step z p c]
      have h1 := J14_gt z p i
      have h2 := G14_le z p d (J14 z p i) (by omega)
      omega
    · rw [G14_end z p c]; exact Nat.zero_le _
theorem st14_sum (z p : List Int) : ∀ k, (st14 z p k).2.length + G14 z p (st14 z p k).1 = G14 z p 0
  | 0 => by simp [st14]
  | k + 1 => by
    have := st14_sum z p k
    rw [st14]
    by_cases c : (st14 z p k).1 < p.length
    · rw [if_pos c]
      rw [G14_step z p c] at this
      show (_ ++ [_]).length + G14 z p (J14 z p (st14 z p k).1) = _
      rw [List.length_append, List.length_singleton]
      omega
    · rw [if_neg c]; exact this
theorem st14_done (z p : List Int) : (st14 z p p.length).1 = p.length := by
  have h1 := (st14_le z p p.length).1
  rcases st14_ge z p p.length with c | c <;> omega
theorem fc14_fewest (z p : List Int) : (fc14 z p).length = G14 z p 0 := by
  have := st14_sum z p p.length
  rw [st14_done, G14_end z p (by omega)] at this
  exact this
theorem st14_len (z p : List Int) : ∀ k, (st14 z p k).2.length ≤ k
  | 0 => Nat.le_refl _
  | k + 1 => by
    have := st14_len z p k
    rw [st14]
    by_cases c : (st14 z p k).1 < p.length
    · rw [if_pos c]
      show (_ ++ [_]).length ≤ _
      rw [List.length_append, List.length_singleton]
      omega
    · rw [if_neg c]; omega
theorem st14_full (z p : List Int) : ∀ k, (st14 z p k).2.length = k ∨ ¬ (st14 z p k).1 < p.length
  | 0 => Or.inl rfl
  | k + 1 => by
    rw [st14]
    by_cases c : (st14 z p k).1 < p.length
    · rw [if_pos c]
      rcases st14_full z p k with h | h
      · left
        show (_ ++ [_]).length = _
        rw [List.length_append, List.length_singleton, h]
      · exact absurd c h
    · rw [if_neg c]; exact Or.inr c
theorem st14_pre (z p : List Int) (k : Nat) : ∀ j, ∃ X, (st14 z p (k + j)).2 = (st14 z p k).2 ++ X
  | 0 => ⟨[], by simp⟩
  | j + 1 => by
    obtain ⟨X, hX⟩ := st14_pre z p k j
    rw [show k + (j + 1) = (k + j) + 1 by omega, st14]
    by_cases c : (st14 z p (k + j)).1 < p.length
    · rw [if_pos c]
      exact ⟨X ++ [_], by rw [← List.append_assoc, ← hX]⟩
    · rw [if_neg c]; exact ⟨X, hX⟩
/-- The i-th part. -/
theorem fc14_get (z p : List Int) {i : Nat} (h : i < (fc14 z p).length) : (st14 z p i).1 < p.length ∧ (fc14 z p)[i]? = some ⟨lp14 z (p.drop (st14 z p i).1), (st14 z p i).1, mx14 z (p.drop (st14 z p i).1)⟩ ∧ (st14 z p (i + 1)).1 = (st14 z p i).1 + max 1 (mx14 z (p.drop (st14 z p i).1)) := by
  have hl := fc14_le z p
  have c : (st14 z p i).1 < p.length := by
    rcases Nat.lt_or_ge (st14 z p i).1 p.length with c | c
    · exact c
    · exfalso
      have h1 := st14_stop z p i (by omega) (p.length - i)
      rw [show i + (p.length - i) = p.length by omega] at h1
      have h2 := st14_len z p i
      unfold fc14 at h
      rw [h1] at h
      omega
  have hf : (st14 z p i).2.length = i := by
    rcases st14_full z p i with q | q
    · exact q
    · exact absurd c q
  have hs : st14 z p (i + 1) = ((st14 z p i).1 + max 1 (mx14 z (p.drop (st14 z p i).1)), (st14 z p i).2 ++ [⟨lp14 z (p.drop (st14 z p i).1), (st14 z p i).1, mx14 z (p.drop (st14 z p i).1)⟩]) := by rw [st14, if_pos c]
  refine ⟨c, ?_, by rw [hs]⟩
  obtain ⟨X, hX⟩ := st14_pre z p (i + 1) (p.length - (i + 1))
  rw [show i + 1 + (p.length - (i + 1)) = p.length by omega, hs] at hX
  unfold fc14
  rw [hX, List.append_assoc, List.getElem?_append_right (by omega), hf, Nat.sub_self]
  rfl
theorem fc14_end (z p : List Int) : (st14 z p (fc14 z p).length).1 = p.length := by
  have h1 := (st14_le z p (fc14 z p).length).1
  rcases Nat.lt_or_ge (st14 z p (fc14 z p).length).1 p.length with c | c
  · exfalso
    have h2 := fc14_fewest z p
    have h3 := st14_sum z p (fc14 z p).length
    rw [G14_step z p c] at h3
    rcases st14_full z p (fc14 z p).length with q | q
    · omega
    · exact q c
  · omega
/-- How often a beginning stands. -/
theorem cnt14 {z : List Int} {A : List Nat} (hA : Ar12 z.length (S12 z) A) {q : List Int} {k : Nat} (hk : 1 ≤ k) (hq : k ≤ q.length) : hi14 z (q.take k) - lo14 z (q.take k) = 0 ↔ ¬ k ≤ mx14 z q := by
  have b1 := hi14_le z (q.take k)
  constructor
  · intro h c
    obtain ⟨j, j1, j2⟩ := (mx_ge14 hk).1 c
    obtain ⟨r1, r2⟩ := hA.rk j1
    have h3 := (begins14 (z.drop j) q k hq).2 j2
    rw [← cv13_zero_iff] at h3
    have h4 := lo14_iff hA (q.take k) r1
    have h5 := hi14_iff hA (q.take k) r1
    rw [r2] at h4 h5
    have k2 := h5.1 (by omega)
    rcases Nat.lt_or_ge (rk13 A j) (lo14 z (q.take k)) with c2 | c2
    · have := h4.2 c2; omega
    · omega
  · intro c
    rcases Nat.eq_zero_or_pos (hi14 z (q.take k) - lo14 z (q.take k)) with h | h
    · exact h
    · exfalso
      have hr : lo14 z (q.take k) < z.length := by omega
      have h4 := lo14_iff hA (q.take k) hr
      have h5 := hi14_iff hA (q.take k) hr
      have k1 := h5.2 (by omega)
      have k2 : ¬ cv13 (z.drop (A.getD (lo14 z (q.take k)) 0)) (q.take k) < 0 := fun k => by have := h4.1 k; omega
      have h3 := (begins14 (z.drop (A.getD (lo14 z (q.take k)) 0)) q k hq).1 (cv13_zero_iff.1 (by omega))
      exact c ((mx_ge14 hk).2 ⟨_, hA.get hr, h3⟩)
/-- A part stands where it is said to. -/
theorem part14 (z q : List Int) : (z.drop (lp14 z q)).take (mx14 z q) = q.take (mx14 z q) ∧ lp14 z q + mx14 z q ≤ z.length := by
  rcases Nat.eq_zero_or_pos (mx14 z q) with c | c
  · rw [c, lp_zero14 z q c]
    simp
  · obtain ⟨h1, h2, h3⟩ := (at14_is z q z.length).2 c
    have h4 := lc13_take (z.drop (at14 z q z.length)) q
    have h5 := lc13_le (z.drop (at14 z q z.length)) q
    rw [List.length_drop] at h5
    rw [h2] at h4 h5
    unfold lp14 mx14
    exact ⟨h4, by omega⟩
end Go.Proofs.Ytfogknlinmchjaa
