import Derived.Test.YtmojfdccobebfaaGreatDoorPp
namespace Go.Proofs.YtmojfdccobebfaaGreatDoor
set_option linter.unusedVariables false

/-! Matches: how many bytes are alike, the best of the candidates, tokens made of bytes. -/
def alg7 (D : List Int) (q p : Nat) : Nat → Nat → Nat
  | 0, n => n
  | f + 1, n => if p + n < D.length ∧ D.getD (q + n) 0 = D.getD (p + n) 0 then alg7 D q p f (n + 1) else n
def al7 (D : List Int) (q p : Nat) : Nat := alg7 D q p 258 0
theorem alg7_ge (D : List Int) (q p : Nat) : ∀ f n, n ≤ alg7 D q p f n ∧ alg7 D q p f n ≤ n + f
  | 0, n => ⟨Nat.le_refl _, Nat.le_refl _⟩
  | f + 1, n => by
    rw [alg7]
    split
    · have := alg7_ge D q p f (n + 1); omega
    · omega
theorem alg7_same (D : List Int) (q p : Nat) : ∀ f n i, n ≤ i → i < alg7 D q p f n → p + i < D.length ∧ D.getD (q + i) 0 = D.getD (p + i) 0
  | 0, n, i, h1, h2 => by rw [alg7] at h2; omega
  | f + 1, n, i, h1, h2 => by
    rw [alg7] at h2
    split at h2
    · rename_i h
      by_cases e : i = n
      · subst e; exact h
      · exact alg7_same D q p f (n + 1) i (by omega) h2
    · omega
theorem alg7_stop (D : List Int) (q p : Nat) : ∀ f n, alg7 D q p f n < n + f → ¬ (p + alg7 D q p f n < D.length ∧ D.getD (q + alg7 D q p f n) 0 = D.getD (p + alg7 D q p f n) 0)
  | 0, n, h => by rw [alg7] at h; omega
  | f + 1, n, h => by
    rw [alg7] at h ⊢
    split
    · rename_i h1
      rw [if_pos h1] at h
      exact alg7_stop D q p f (n + 1) (by omega)
    · rename_i h1; exact h1
theorem al7_le (D : List Int) (q p : Nat) : al7 D q p ≤ 258 := by have := (alg7_ge D q p 258 0).2; unfold al7; omega
theorem al7_same {D : List Int} {q p i : Nat} (h : i < al7 D q p) : p + i < D.length ∧ D.getD (q + i) 0 = D.getD (p + i) 0 := alg7_same D q p 258 0 i (Nat.zero_le _) h
theorem al7_stop {D : List Int} {q p : Nat} (h : al7 D q p < 258) : ¬ (p + al7 D q p < D.length ∧ D.getD (q + al7 D q p) 0 = D.getD (p + al7 D q p) 0) := alg7_stop D q p 258 0 (by unfold al7 at h; omega)
/-- n bytes are alike just if each is. -/
theorem al7_iff {D : List Int} {q p n : Nat} (hn : n ≤ 258) : n ≤ al7 D q p ↔ ∀ i, i < n → p + i < D.length ∧ D.getD (q + i) 0 = D.getD (p + i) 0 := by
  constructor
  · intro h i hi; exact al7_same (by omega)
  · intro h
    rcases Nat.lt_or_ge (al7 D q p) n with h1 | h1
    · exact absurd (h _ h1) (al7_stop (by omega))
    · exact h1
theorem al7_fits {D : List Int} {q p : Nat} (h : p ≤ D.length) : p + al7 D q p ≤ D.length := by
  rcases Nat.eq_zero_or_pos (al7 D q p) with e | e
  · omega
  · have := (al7_same (D := D) (q := q) (p := p) (i := al7 D q p - 1) (by omega)).1
    omega
def bsg7 (D : List Int) (p win chain : Nat) : Nat → Nat → Nat → Nat → Nat → Nat × Nat
  | 0, _, best, dist, _ => (best, dist)
  | f + 1, d, best, dist, seen =>
    if d ≤ p ∧ d ≤ win ∧ seen < chain then
      if al7 D (p - d) p < 3 then bsg7 D p win chain f (d + 1) best dist seen
      else if best < al7 D (p - d) p then bsg7 D p win chain f (d + 1) (al7 D (p - d) p) d (seen + 1)
      else bsg7 D p win chain f (d + 1) best dist (seen + 1)
    else (best, dist)
/-- Best: how long, how far. -/
def bst7 (D : List Int) (p win chain : Nat) : Nat × Nat := bsg7 D p win chain p 1 0 0 0
/-- A match that is there. -/
structure Mt7 (D : List Int) (p win n d : Nat) : Prop where
  n3 : 3 ≤ n
  n258 : n ≤ 258
  d1 : 1 ≤ d
  dw : d ≤ win
  dp : d ≤ p
  al : n ≤ al7 D (p - d) p
theorem bsg7_mt (D : List Int) (p win chain : Nat) : ∀ f d best dist seen, 1 ≤ d → ((best = 0 ∧ dist = 0) ∨ Mt7 D p win best dist) →
    ((bsg7 D p win chain f d best dist seen).1 = 0 ∧ (bsg7 D p win chain f d best dist seen).2 = 0) ∨ Mt7 D p win (bsg7 D p win chain f d best dist seen).1 (bsg7 D p win chain f d best dist seen).2
  | 0, _, _, _, _, _, h => h
  | f + 1, d, best, dist, seen, hd, h => by
    rw [bsg7]
    split
    · rename_i h1
      split
      · exact bsg7_mt D p win chain f (d + 1) best dist seen (by omega) h
      · rename_i h2
        split
        · exact bsg7_mt D p win chain f (d + 1) _ d (seen + 1) (by omega) (.inr ⟨by omega, al7_le _ _ _, hd, h1.2.1, h1.1, Nat.le_refl _⟩)
        · exact bsg7_mt D p win chain f (d + 1) best dist (seen + 1) (by omega) h
    · exact h
theorem bst7_mt (D : List Int) (p win chain : Nat) : ((bst7 D p win chain).1 = 0 ∧ (bst7 D p win chain).2 = 0) ∨ Mt7 D p win (bst7 D p win chain).1 (bst7 D p win chain).2 := bsg7_mt D p win chain p 1 0 0 0 (Nat.le_refl _) (.inl ⟨rfl, rfl⟩)
theorem bsg7_zero (D : List Int) (p win : Nat) : ∀ f d best dist seen, bsg7 D p win 0 f d best dist seen = (best, dist)
  | 0, _, _, _, _ => rfl
  | f + 1, d, best, dist, seen => by rw [bsg7, if_neg (by omega)]
theorem bst7_zero (D : List Int) (p win : Nat) : bst7 D p win 0 = (0, 0) := bsg7_zero D p win p 1 0 0 0
/-- How many bytes Parse takes at a place: 0: the byte alone. -/
def pick7 (D : List Int) (win chain : Nat) (lazy : Bool) (p : Nat) : Nat :=
  if 0 < (bst7 D p win chain).1 ∧ lazy = true ∧ p + 1 < D.length ∧ (bst7 D p win chain).1 < (bst7 D (p + 1) win chain).1 then 0 else (bst7 D p win chain).1
def parg7 (D : List Int) (win chain : Nat) (lazy : Bool) : Nat → Nat → List Tok7
  | 0, _ => []
  | f + 1, p =>
    if p < D.length then
      if pick7 D win chain lazy p = 0 then ⟨D.getD p 0, 0, 0⟩ :: parg7 D win chain lazy f (p + 1)
      else ⟨0, (pick7 D win chain lazy p : Nat), ((bst7 D p win chain).2 : Nat)⟩ :: parg7 D win chain lazy f (p + pick7 D win chain lazy p)
    else []
def par7 (D : List Int) (win chain : Nat) (lazy : Bool) : List Tok7 := parg7 D win chain lazy D.length 0
theorem pick7_mt (D : List Int) (win chain : Nat) (lazy : Bool) (p : Nat) : pick7 D win chain lazy p = 0 ∨ Mt7 D p win (pick7 D win chain lazy p) (bst7 D p win chain).2 := by
  unfold pick7
  split
  · exact .inl rfl
  · rcases bst7_mt D p win chain with h | h
    · exact .inl h.1
    · exact .inr h
/-- These tokens are the bytes of D from p on, over this window. -/
def Tz7 (D : List Int) (win : Nat) : List Tok7 → Nat → Prop
  | [], p => p = D.length
  | t :: r, p => p < D.length ∧ ((t = ⟨D.getD p 0, 0, 0⟩ ∧ Tz7 D win r (p + 1)) ∨ ∃ n d : Nat, t = ⟨0, n, d⟩ ∧ Mt7 D p win n d ∧ Tz7 D win r (p + n))
theorem Mt7.fits {D : List Int} {p win n d : Nat} (h : Mt7 D p win n d) : p + n ≤ D.length := by
  have := (al7_same (D := D) (q := p - d) (p := p) (i := n - 1) (by have := h.al; have := h.n3; omega)).1
  have := h.n3
  omega
theorem parg7_tz (D : List Int) (win chain : Nat) (lazy : Bool) : ∀ f p, p ≤ D.length → D.length ≤ p + f → Tz7 D win (parg7 D win chain lazy f p) p
  | 0, p, h1, h2 => by rw [parg7, Tz7]; omega
  | f + 1, p, h1, h2 => by
    rw [parg7]
    split
    · rename_i h
      split
      · exact ⟨h, .inl ⟨rfl, parg7_tz D win chain lazy f (p + 1) (by omega) (by omega)⟩⟩
      · rename_i h0
        rcases pick7_mt D win chain lazy p with e | e
        · exact absurd e h0
        · have h3 := e.fits
          have h4 := e.n3
          exact ⟨h, .inr ⟨_, _, rfl, e, parg7_tz D win chain lazy f _ h3 (by omega)⟩⟩
    · rw [Tz7]; omega
theorem par7_tz (D : List Int) (win chain : Nat) (lazy : Bool) : Tz7 D win (par7 D win chain lazy) 0 := parg7_tz D win chain lazy D.length 0 (by omega) (by omega)
theorem parg7_chain0 (D : List Int) (win : Nat) (lazy : Bool) : ∀ f p, p ≤ D.length → D.length ≤ p + f → (parg7 D win 0 lazy f p).length = D.length - p
  | 0, p, h1, h2 => by rw [parg7]; simp; omega
  | f + 1, p, h1, h2 => by
    have h0 : pick7 D win 0 lazy p = 0 := by unfold pick7; rw [bst7_zero]; simp
    rw [parg7]
    by_cases h : p < D.length
    · rw [if_pos h, if_pos h0, List.length_cons, parg7_chain0 D win lazy f (p + 1) (by omega) (by omega)]; omega
    · rw [if_neg h]; simp; omega
theorem par7_chain0 (D : List Int) (win : Nat) (lazy : Bool) : (par7 D win 0 lazy).length = D.length := parg7_chain0 D win lazy D.length 0 (by omega) (by omega)
/-! What such tokens are. -/
theorem getD_take7 (A : List Int) (j i : Nat) (h : i < j) : (A.take j).getD i 0 = A.getD i 0 := by simp [List.getD, h]
theorem take_succ7 (D : List Int) (p : Nat) (h : p < D.length) : D.take (p + 1) = D.take p ++ [D.getD p 0] := by
  rw [List.take_succ_eq_append_getElem h]; simp [List.getD, h]
theorem cp7_mt {D : List Int} {p win n d : Nat} (h : Mt7 D p win n d) : ∀ i, i ≤ n → cp7 (D.take p) d i = D.take (p + i)
  | 0, _ => rfl
  | i + 1, hi => by
    have h1 := h.fits
    have ih := cp7_mt h i (by omega)
    have hs := al7_same (D := D) (q := p - d) (p := p) (i := i) (by have := h.al; omega)
    rw [cp7, ih, show p + (i + 1) = p + i + 1 by omega, take_succ7 D (p + i) (by omega)]
    have hl : (D.take (p + i)).length = p + i := by rw [List.length_take]; omega
    have d1 := h.d1
    have dp := h.dp
    rw [hl, getD_take7 _ _ _ (by omega), ← hs.2, show p - d + i = p + i - d by omega]
theorem Mt7.wid {D : List Int} {p win n d : Nat} (h : Mt7 D p win n d) (hw : win ≤ 32768) : may7 ⟨0, n, d⟩ ∧ wid7 ⟨0, n, d⟩ = n := by
  have h1 := h.n3
  have h2 := h.n258
  have h3 := h.d1
  have h4 := h.dw
  have hm : may7 ⟨0, n, d⟩ := by
    unfold may7
    simp only
    rw [if_neg (by omega)]
    exact ⟨by omega, by omega, by omega, by omega, trivial⟩
  refine ⟨hm, ?_⟩
  unfold wid7
  rw [if_pos hm]
  simp only
  rw [if_neg (by omega)]
  omega
theorem lit7_wid (z : Int) : may7 ⟨z, 0, 0⟩ ∧ wid7 ⟨z, 0, 0⟩ = 1 := by
  have hm : may7 ⟨z, 0, 0⟩ := by unfold may7; simp
  refine ⟨hm, ?_⟩
  unfold wid7
  rw [if_pos hm]
  simp
theorem Tz7.all {D : List Int} {win : Nat} (hw : win ≤ 32768) : ∀ (l : List Tok7) (p : Nat), Tz7 D win l p → ok7 win l p ∧ exp7 (D.take p) l = D ∧ siz7 l = D.length - p ∧ l.length ≤ D.length - p
  | [], p, h => by
    rw [Tz7] at h
    subst h
    exact ⟨trivial, by rw [exp7, List.take_length], by simp [siz7], by simp⟩
  | t :: r, p, ⟨hp, h⟩ => by
    rcases h with ⟨rfl, h⟩ | ⟨n, d, rfl, hm, h⟩
    · obtain ⟨a1, a2, a3, a4⟩ := Tz7.all hw r (p + 1) h
      have hl := lit7_wid (D.getD p 0)
      refine ⟨⟨hl.1, by unfold far7; simp, by rw [hl.2]; exact a1⟩, ?_, by rw [siz7, hl.2, a3]; omega, by rw [List.length_cons]; omega⟩
      rw [exp7]
      unfold tok7
      simp only [if_true]
      rw [← take_succ7 D p hp]
      exact a2
    · obtain ⟨a1, a2, a3, a4⟩ := Tz7.all hw r (p + n) h
      have hl := hm.wid hw
      have h1 := hm.n3
      have h2 := hm.fits
      have h3 := hm.dw
      have h4 := hm.dp
      refine ⟨⟨hl.1, by unfold far7; simp only; omega, by rw [hl.2]; exact a1⟩, ?_, by rw [siz7, hl.2, a3]; omega, by rw [List.length_cons]; omega⟩
      rw [exp7]
      unfold tok7
      simp only
      rw [if_neg (by omega), Int.toNat_natCast, Int.toNat_natCast, cp7_mt hm n (Nat.le_refl _)]
      exact a2
end Go.Proofs.YtmojfdccobebfaaGreatDoor
