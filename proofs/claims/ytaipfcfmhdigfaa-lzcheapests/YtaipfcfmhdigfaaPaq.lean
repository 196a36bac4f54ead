import Derived.Test.YtaipfcfmhdigfaaPag
namespace Go.Proofs.Ytaipfcfmhdigfaa
set_option linter.unusedVariables false

/-! Trees of places: those below a place stand further ahead; on one side their bytes are not greater, on the other not less, as far as the place's own match may go. The way down meets each length at its least distance. -/
def sf7 (D : List Int) (q i : Nat) : Int := D.getD (q + i) 0
def lim7 (D : List Int) (p : Nat) : Nat := min 258 (D.length - p)
def le7 (D : List Int) (x q L : Nat) : Prop := (∀ i, i < L → sf7 D x i = sf7 D q i) ∨ ∃ n, n < L ∧ (∀ i, i < n → sf7 D x i = sf7 D q i) ∧ sf7 D x n < sf7 D q n
theorem le7_mono {D : List Int} {x q L L' : Nat} (h : le7 D x q L) (hL : L' ≤ L) : le7 D x q L' := by
  rcases h with h | ⟨n, h1, h2, h3⟩
  · exact .inl (fun i hi => h i (by omega))
  · by_cases hn : n < L'
    · exact .inr ⟨n, hn, h2, h3⟩
    · exact .inl (fun i hi => h2 i (by omega))
theorem le7_eq_right {D : List Int} {x q p L : Nat} (h : le7 D x q L) (he : ∀ i, i < L → sf7 D q i = sf7 D p i) : le7 D x p L := by
  rcases h with h | ⟨n, h1, h2, h3⟩
  · exact .inl (fun i hi => (h i hi).trans (he i hi))
  · exact .inr ⟨n, h1, fun i hi => (h2 i hi).trans (he i (by omega)), by rw [← he n h1]; exact h3⟩
theorem le7_eq_left {D : List Int} {x q p L : Nat} (h : le7 D q x L) (he : ∀ i, i < L → sf7 D q i = sf7 D p i) : le7 D p x L := by
  rcases h with h | ⟨n, h1, h2, h3⟩
  · exact .inl (fun i hi => (he i hi).symm.trans (h i hi))
  · exact .inr ⟨n, h1, fun i hi => (he i (by omega)).symm.trans (h2 i hi), by rw [← he n h1]; exact h3⟩
/-- What is not greater than q, which is less than p from byte n on, has no more in common with p. -/
theorem le7_lt {D : List Int} {x q p L n : Nat} (h : le7 D x q L) (hn : n < L) (he : ∀ i, i < n → sf7 D q i = sf7 D p i) (hl : sf7 D q n < sf7 D p n) : ∃ k, k ≤ n ∧ (∀ i, i < k → sf7 D x i = sf7 D p i) ∧ sf7 D x k < sf7 D p k := by
  rcases h with h | ⟨k, h1, h2, h3⟩
  · exact ⟨n, Nat.le_refl _, fun i hi => (h i (by omega)).trans (he i hi), by rw [h n hn]; exact hl⟩
  · by_cases hk : k < n
    · exact ⟨k, by omega, fun i hi => (h2 i hi).trans (he i (by omega)), by rw [← he k hk]; exact h3⟩
    · refine ⟨n, Nat.le_refl _, fun i hi => (h2 i (by omega)).trans (he i hi), ?_⟩
      by_cases hkn : k = n
      · subst hkn; omega
      · rw [h2 n (by omega)]; exact hl
theorem le7_gt {D : List Int} {x q p L n : Nat} (h : le7 D q x L) (hn : n < L) (he : ∀ i, i < n → sf7 D q i = sf7 D p i) (hl : sf7 D p n < sf7 D q n) : ∃ k, k ≤ n ∧ (∀ i, i < k → sf7 D x i = sf7 D p i) ∧ sf7 D p k < sf7 D x k := by
  rcases h with h | ⟨k, h1, h2, h3⟩
  · exact ⟨n, Nat.le_refl _, fun i hi => (h i (by omega)).symm.trans (he i hi), by rw [← h n hn]; exact hl⟩
  · by_cases hk : k < n
    · exact ⟨k, by omega, fun i hi => (h2 i hi).symm.trans (he i (by omega)), by rw [← he k hk]; exact h3⟩
    · refine ⟨n, Nat.le_refl _, fun i hi => (h2 i (by omega)).symm.trans (he i hi), ?_⟩
      by_cases hkn : k = n
      · subst hkn; omega
      · rw [← h2 n (by omega)]; exact hl
theorem al7_lim {D : List Int} {q p : Nat} (hp : p ≤ D.length) : al7 D q p ≤ lim7 D p := by
  have h1 := al7_le D q p
  have h2 := al7_fits (D := D) (q := q) hp
  unfold lim7
  omega
theorem al7_sf {D : List Int} {q p i : Nat} (h : i < al7 D q p) : sf7 D q i = sf7 D p i := (al7_same h).2
theorem al7_ge {D : List Int} {q p n : Nat} (hn : n ≤ lim7 D p) (hp : p ≤ D.length) (h : ∀ i, i < n → sf7 D q i = sf7 D p i) : n ≤ al7 D q p := by
  unfold lim7 at hn
  rw [al7_iff (by omega)]
  exact fun i hi => ⟨by omega, h i hi⟩
theorem al7_ne {D : List Int} {q p : Nat} (hp : p ≤ D.length) (h : al7 D q p < lim7 D p) : sf7 D q (al7 D q p) ≠ sf7 D p (al7 D q p) := by
  intro e
  have := al7_ge (D := D) (q := q) (p := p) (n := al7 D q p + 1) (by omega) hp (fun i hi => by
    by_cases h1 : i < al7 D q p
    · exact al7_sf h1
    · rw [show i = al7 D q p by omega]; exact e)
  omega
theorem al7_cut {D : List Int} {x p k : Nat} (h : sf7 D x k ≠ sf7 D p k) : al7 D x p ≤ k := by
  apply Nat.le_of_not_lt
  intro h2
  exact h (al7_sf h2)
inductive Bt7 where
  | nil : Bt7
  | node (p : Nat) (l r : Bt7) : Bt7
def Bt7.mem (q : Nat) : Bt7 → Prop
  | .nil => False
  | .node p l r => q = p ∨ l.mem q ∨ r.mem q
def Bt7.Ok (D : List Int) : Bt7 → Prop
  | .nil => True
  | .node p l r => (∀ q, l.mem q → q < p ∧ le7 D q p (lim7 D p)) ∧ (∀ q, r.mem q → q < p ∧ le7 D p q (lim7 D p)) ∧ l.Ok D ∧ r.Ok D
theorem Bt7.Ok.le {D : List Int} {p : Nat} {l r : Bt7} (h : (Bt7.node p l r).Ok D) {q : Nat} (hq : (Bt7.node p l r).mem q) : q ≤ p := by
  rcases hq with rfl | hq | hq
  · exact Nat.le_refl _
  · exact Nat.le_of_lt (h.1 q hq).1
  · exact Nat.le_of_lt (h.2.1 q hq).1
/-- A tree parted by the place at: what is not greater, and what is not less. -/
def spl7 (D : List Int) (at_ W : Nat) : Bt7 → Bt7 × Bt7
  | .nil => (.nil, .nil)
  | .node p l r => if W < at_ - p then (.nil, .nil) else if al7 D p at_ = lim7 D at_ then (l, r) else
    if sf7 D p (al7 D p at_) < sf7 D at_ (al7 D p at_) then (.node p l (spl7 D at_ W r).1, (spl7 D at_ W r).2) else ((spl7 D at_ W l).1, .node p (spl7 D at_ W l).2 r)
theorem spl7_mem {D : List Int} {at_ W : Nat} : ∀ {t : Bt7} {q : Nat}, (spl7 D at_ W t).1.mem q ∨ (spl7 D at_ W t).2.mem q → t.mem q
  | .nil, q, h => by simp [spl7, Bt7.mem] at h
  | .node p l r, q, h => by
    rw [spl7] at h
    split at h
    · simp [Bt7.mem] at h
    · split at h
      · exact .inr h
      · split at h
        · rcases h with (h | h | h) | h
          · exact .inl h
          · exact .inr (.inl h)
          · exact .inr (.inr (spl7_mem (.inl h)))
          · exact .inr (.inr (spl7_mem (.inr h)))
        · rcases h with h | h | h | h
          · exact .inr (.inl (spl7_mem (.inl h)))
          · exact .inl h
          · exact .inr (.inl (spl7_mem (.inr h)))
          · exact .inr (.inr h)
theorem lim7_mono {D : List Int} {p q : Nat} (h : q ≤ p) : lim7 D p ≤ lim7 D q := by unfold lim7; omega
theorem spl7_ok {D : List Int} {at_ W : Nat} (hat : at_ ≤ D.length) : ∀ {t : Bt7}, t.Ok D → (∀ q, t.mem q → q < at_) → (spl7 D at_ W t).1.Ok D ∧ (spl7 D at_ W t).2.Ok D ∧ (∀ q, (spl7 D at_ W t).1.mem q → le7 D q at_ (lim7 D at_)) ∧ (∀ q, (spl7 D at_ W t).2.mem q → le7 D at_ q (lim7 D at_))
  | .nil, h, hm => by simp [spl7, Bt7.Ok, Bt7.mem]
  | .node p l r, h, hm => by
    have hp := hm p (.inl rfl)
    have hlm := lim7_mono (D := D) (Nat.le_of_lt hp)
    obtain ⟨h1, h2, h3, h4⟩ := h
    rw [spl7]
    split
    · simp [Bt7.Ok, Bt7.mem]
    · split
      · rename_i he
        have heq : ∀ i, i < lim7 D at_ → sf7 D p i = sf7 D at_ i := fun i hi => al7_sf (by omega)
        exact ⟨h3, h4, fun q hq => le7_eq_right (le7_mono (h1 q hq).2 hlm) heq, fun q hq => le7_eq_left (le7_mono (h2 q hq).2 hlm) heq⟩
      · rename_i hne
        have hal := al7_lim (D := D) (q := p) hat
        have hlt : al7 D p at_ < lim7 D at_ := by omega
        have hsame : ∀ i, i < al7 D p at_ → sf7 D p i = sf7 D at_ i := fun i hi => al7_sf hi
        split
        · rename_i hc
          obtain ⟨i1, i2, i3, i4⟩ := spl7_ok (W := W) hat h4 (fun q hq => hm q (.inr (.inr hq)))
          refine ⟨⟨h1, fun q hq => h2 q (spl7_mem (.inl hq)), h3, i1⟩, i2, ?_, i4⟩
          rintro q (rfl | hq | hq)
          · exact .inr ⟨_, hlt, hsame, hc⟩
          · obtain ⟨k, k1, k2, k3⟩ := le7_lt (le7_mono (h1 q hq).2 hlm) hlt hsame hc
            exact .inr ⟨k, by omega, k2, k3⟩
          · exact i3 q hq
        · rename_i hc
          have hgt : sf7 D at_ (al7 D p at_) < sf7 D p (al7 D p at_) := by have := al7_ne (D := D) (q := p) hat hlt; omega
          obtain ⟨i1, i2, i3, i4⟩ := spl7_ok (W := W) hat h3 (fun q hq => hm q (.inr (.inl hq)))
          refine ⟨i1, ⟨fun q hq => h1 q (spl7_mem (.inr hq)), h2, i2, h4⟩, i3, ?_⟩
          rintro q (rfl | hq | hq)
          · exact .inr ⟨_, hlt, fun i hi => (hsame i hi).symm, hgt⟩
          · exact i4 q hq
          · obtain ⟨k, k1, k2, k3⟩ := le7_gt (le7_mono (h2 q hq).2 hlm) hlt hsame hgt
            exact .inr ⟨k, by omega, fun i hi => (k2 i hi).symm, k3⟩
theorem spl7_keep {D : List Int} {at_ W : Nat} : ∀ {t : Bt7} {q : Nat}, t.Ok D → t.mem q → (spl7 D at_ W t).1.mem q ∨ (spl7 D at_ W t).2.mem q ∨ W < at_ - q ∨ al7 D q at_ = lim7 D at_
  | .nil, q, h, hq => hq.elim
  | .node p l r, q, h, hq => by
    have hle := h.le hq
    obtain ⟨h1, h2, h3, h4⟩ := h
    rw [spl7]
    split
    · exact .inr (.inr (.inl (by omega)))
    · split
      · rename_i he
        rcases hq with rfl | hq | hq
        · exact .inr (.inr (.inr he))
        · exact .inl hq
        · exact .inr (.inl hq)
      · split
        · rcases hq with rfl | hq | hq
          · exact .inl (.inl rfl)
          · exact .inl (.inr (.inl hq))
          · rcases spl7_keep (at_ := at_) (W := W) h4 hq with h | h | h
            · exact .inl (.inr (.inr h))
            · exact .inr (.inl h)
            · exact .inr (.inr h)
        · rcases hq with rfl | hq | hq
          · exact .inr (.inl (.inl rfl))
          · rcases spl7_keep (at_ := at_) (W := W) h3 hq with h | h | h
            · exact .inl h
            · exact .inr (.inl (.inr (.inl h)))
            · exact .inr (.inr h)
          · exact .inr (.inl (.inr (.inr hq)))
/-- Of places that are not in the tree there is one in it that stands for them, or they are too far away. -/
def Cov7 (D : List Int) (W s : Nat) (P : Nat → Prop) (t : Bt7) : Prop := ∀ q, q < s → P q → W < s - q ∨ ∃ q', t.mem q' ∧ q ≤ q' ∧ ∀ i, i < lim7 D q' → sf7 D q i = sf7 D q' i
theorem Cov7.late {D : List Int} {W s : Nat} {P : Nat → Prop} {t : Bt7} (h : Cov7 D W s P t) (hs : ¬ P s) : Cov7 D W (s + 1) P t := by
  intro q hq hp
  by_cases e : q = s
  · subst e; exact absurd hp hs
  · rcases h q (by omega) hp with h | h
    · exact .inl (by omega)
    · exact .inr h
theorem Cov7.plant {D : List Int} {W s : Nat} {P : Nat → Prop} {t : Bt7} (h : Cov7 D W s P t) (hk : t.Ok D) (hm : ∀ q, t.mem q → q < s) : Cov7 D W (s + 1) P (.node s (spl7 D s W t).1 (spl7 D s W t).2) := by
  intro q hq hp
  by_cases e : q = s
  · subst e; exact .inr ⟨q, .inl rfl, Nat.le_refl _, fun _ _ => rfl⟩
  · rcases h q (by omega) hp with h | ⟨q', h1, h2, h3⟩
    · exact .inl (by omega)
    · rcases spl7_keep (at_ := s) (W := W) hk h1 with h | h | h | h
      · exact .inr ⟨q', .inr (.inl h), h2, h3⟩
      · exact .inr ⟨q', .inr (.inr h), h2, h3⟩
      · exact .inl (by omega)
      · have hlm := lim7_mono (D := D) (Nat.le_of_lt (hm q' h1))
        exact .inr ⟨s, .inl rfl, by omega, fun i hi => (h3 i (by omega)).trans (al7_sf (by omega))⟩
/-- The matches on the way down. -/
def vis7 (D : List Int) (at_ W : Nat) : Bt7 → Nat → List (Nat × Nat)
  | .nil, _ => []
  | .node p l r, m => if W < at_ - p then [] else (if m < al7 D p at_ then [(al7 D p at_, at_ - p)] else []) ++ (if al7 D p at_ = lim7 D at_ then [] else
    if sf7 D p (al7 D p at_) < sf7 D at_ (al7 D p at_) then vis7 D at_ W r (max m (al7 D p at_)) else vis7 D at_ W l (max m (al7 D p at_)))
/-- The matches, distance by distance: each longer than those ahead of it. -/
def rcg7 (D : List Int) (p W : Nat) : Nat → Nat → Nat → List (Nat × Nat)
  | 0, _, _ => []
  | f + 1, d, m => if d ≤ p ∧ d ≤ W then (if m < al7 D (p - d) p then (al7 D (p - d) p, d) :: rcg7 D p W f (d + 1) (al7 D (p - d) p) else rcg7 D p W f (d + 1) m) else []
def rec7 (D : List Int) (p W : Nat) : List (Nat × Nat) := rcg7 D p W p 1 2
theorem rcg7_none {D : List Int} {p W : Nat} : ∀ {f d m : Nat}, (∀ e, d ≤ e → e ≤ p → e ≤ W → al7 D (p - e) p ≤ m) → rcg7 D p W f d m = []
  | 0, _, _, _ => rfl
  | f + 1, d, m, h => by
    rw [rcg7]
    split
    · rename_i hc
      rw [if_neg (by have := h d (Nat.le_refl _) hc.1 hc.2; omega)]
      exact rcg7_none (fun e e1 e2 e3 => h e (by omega) e2 e3)
    · rfl
theorem rcg7_skip {D : List Int} {p W m : Nat} : ∀ (k d : Nat), (∀ e, d ≤ e → e < d + k → e ≤ p → e ≤ W → al7 D (p - e) p ≤ m) → d + k ≤ p + 1 → rcg7 D p W (p + 1 - d) d m = rcg7 D p W (p + 1 - (d + k)) (d + k) m
  | 0, d, h, _ => rfl
  | k + 1, d, h, hk => by
    rw [show p + 1 - d = p + 1 - (d + 1) + 1 by omega, rcg7]
    by_cases hc : d ≤ p ∧ d ≤ W
    · rw [if_pos hc, if_neg (by have := h d (Nat.le_refl _) (by omega) hc.1 hc.2; omega), rcg7_skip k (d + 1) (fun e e1 e2 => h e (by omega) (by omega)) (by omega), show d + 1 + k = d + (k + 1) by omega]
    · rw [if_neg hc]
      symm
      exact rcg7_none (fun e e1 e2 e3 => by omega)
theorem vis7_rec {D : List Int} {p W : Nat} (hp : p ≤ D.length) : ∀ (t : Bt7) (m d0 : Nat), t.Ok D → (∀ q, t.mem q → q < p - d0) → d0 ≤ p →
    (∀ d, d0 < d → d ≤ p → d ≤ W → m < al7 D (p - d) p → ∃ q', t.mem q' ∧ p - d ≤ q' ∧ al7 D (p - d) p ≤ al7 D q' p) → vis7 D p W t m = rcg7 D p W (p - d0) (d0 + 1) m
  | .nil, m, d0, _, _, _, h => by
    rw [vis7]
    symm
    refine rcg7_none (fun e e1 e2 e3 => ?_)
    apply Nat.le_of_not_lt
    intro h2
    obtain ⟨q, hq, _⟩ := h e (by omega) e2 e3 h2
    exact hq
  | .node q l r, m, d0, hk, hm, hd0, h => by
    have hq := hm q (.inl rfl)
    have hbef : ∀ e, d0 + 1 ≤ e → e < p - q → e ≤ p → e ≤ W → al7 D (p - e) p ≤ m := fun e e1 e2 e3 e4 => by
      apply Nat.le_of_not_lt
      intro h2
      obtain ⟨q', g1, g2, g3⟩ := h e (by omega) e3 e4 h2
      have := hk.le g1
      omega
    have hk2 := hk
    obtain ⟨k1, k2, k3, k4⟩ := hk2
    rw [vis7]
    by_cases hw : W < p - q
    · rw [if_pos hw]
      symm
      refine rcg7_none (fun e e1 e2 e3 => hbef e e1 (by omega) e2 e3)
    · rw [if_neg hw]
      have hsk := rcg7_skip (D := D) (p := p) (W := W) (m := m) (p - q - (d0 + 1)) (d0 + 1) (fun e e1 e2 => hbef e e1 (by omega)) (by omega)
      rw [show d0 + 1 + (p - q - (d0 + 1)) = p - q by omega, show p + 1 - (d0 + 1) = p - d0 by omega] at hsk
      rw [hsk, show p + 1 - (p - q) = p - (p - q) + 1 by omega, rcg7, if_pos (show p - q ≤ p ∧ p - q ≤ W by omega), show p - (p - q) = q by omega]
      have hrest : (if al7 D q p = lim7 D p then [] else if sf7 D q (al7 D q p) < sf7 D p (al7 D q p) then vis7 D p W r (max m (al7 D q p)) else vis7 D p W l (max m (al7 D q p))) = rcg7 D p W q (p - q + 1) (max m (al7 D q p)) := by
        have hal := al7_lim (D := D) (q := q) hp
        by_cases he : al7 D q p = lim7 D p
        · rw [if_pos he]
          symm
          refine rcg7_none (fun e e1 e2 e3 => ?_)
          have := al7_lim (D := D) (q := p - e) hp
          omega
        · rw [if_neg he]
          have hlt : al7 D q p < lim7 D p := by omega
          have hlm := lim7_mono (D := D) (show q ≤ p by omega)
          have hsame : ∀ i, i < al7 D q p → sf7 D q i = sf7 D p i := fun i hi => al7_sf hi
          by_cases hc : sf7 D q (al7 D q p) < sf7 D p (al7 D q p)
          · rw [if_pos hc]
            have := vis7_rec hp r (max m (al7 D q p)) (p - q) k4 (fun x hx => by have := (k2 x hx).1; omega) (by omega) (fun d e1 e2 e3 e4 => by
              obtain ⟨q', g1, g2, g3⟩ := h d (by omega) e2 e3 (by omega)
              rcases g1 with rfl | g1 | g1
              · omega
              · obtain ⟨k, c1, c2, c3⟩ := le7_lt (le7_mono (k1 q' g1).2 hlm) hlt hsame hc
                have := al7_cut (D := D) (x := q') (p := p) (k := k) (by omega)
                omega
              · exact ⟨q', g1, g2, g3⟩)
            rw [this, show p - (p - q) = q by omega]
          · rw [if_neg hc]
            have hgt : sf7 D p (al7 D q p) < sf7 D q (al7 D q p) := by have := al7_ne (D := D) (q := q) hp hlt; omega
            have := vis7_rec hp l (max m (al7 D q p)) (p - q) k3 (fun x hx => by have := (k1 x hx).1; omega) (by omega) (fun d e1 e2 e3 e4 => by
              obtain ⟨q', g1, g2, g3⟩ := h d (by omega) e2 e3 (by omega)
              rcases g1 with rfl | g1 | g1
              · omega
              · exact ⟨q', g1, g2, g3⟩
              · obtain ⟨k, c1, c2, c3⟩ := le7_gt (le7_mono (k2 q' g1).2 hlm) hlt hsame hgt
                have := al7_cut (D := D) (x := q') (p := p) (k := k) (by omega)
                omega)
            rw [this, show p - (p - q) = q by omega]
      rw [hrest]
      by_cases hmn : m < al7 D q p
      · rw [if_pos hmn, if_pos hmn, Nat.max_eq_right (by omega)]
        rfl
      · rw [if_neg hmn, if_neg hmn, Nat.max_eq_left (by omega)]
        rfl
theorem Cov7.rec {D : List Int} {W p : Nat} {P : Nat → Prop} {t : Bt7} (h : Cov7 D W p P t) (hp : p ≤ D.length) (hk : t.Ok D) (hm : ∀ q, t.mem q → q < p) (hP : ∀ q, q < p → 3 ≤ al7 D q p → P q) : vis7 D p W t 2 = rec7 D p W := by
  unfold rec7
  have := vis7_rec (W := W) hp t 2 0 hk (by simpa using hm) (by omega) (fun d e1 e2 e3 e4 => by
    rcases h (p - d) (by omega) (hP (p - d) (by omega) (by omega)) with h | ⟨q', g1, g2, g3⟩
    · omega
    · refine ⟨q', g1, g2, ?_⟩
      have hlm := lim7_mono (D := D) (Nat.le_of_lt (hm q' g1))
      have hal := al7_lim (D := D) (q := p - d) hp
      exact al7_ge hal hp (fun i hi => (g3 i (by omega)).symm.trans (al7_sf hi)))
  simpa using this
end Go.Proofs.Ytaipfcfmhdigfaa

namespace Go.Proofs.Ytaipfcfmhdigfaa
set_option linter.unusedVariables false

/-! From the matches of a place to the cheapest first token. -/
def hit7 : List (Nat × Nat) → Nat → Nat
  | [], _ => 0
  | x :: r, l => if l ≤ x.1 then x.2 else hit7 r l
theorem rcg7_hit {D : List Int} {p W l : Nat} : ∀ (f d m : Nat), m < l → hit7 (rcg7 D p W f d m) l = nrg7 D p l W f d
  | 0, d, m, h => rfl
  | f + 1, d, m, h => by
    rw [rcg7, nrg7]
    by_cases hc : d ≤ p ∧ d ≤ W
    · rw [if_pos hc, if_pos (show d ≤ W ∧ d ≤ p from ⟨hc.2, hc.1⟩)]
      by_cases hm : m < al7 D (p - d) p
      · rw [if_pos hm, hit7]
        by_cases hl : l ≤ al7 D (p - d) p
        · rw [if_pos hl, if_pos hl]
        · rw [if_neg hl, if_neg hl, rcg7_hit f (d + 1) _ (by omega)]
      · rw [if_neg hm, if_neg (show ¬ l ≤ al7 D (p - d) p by omega), rcg7_hit f (d + 1) m h]
    · rw [if_neg hc, if_neg (by omega)]
      rfl
theorem rec7_hit {D : List Int} {p W l : Nat} (h : 3 ≤ l) : hit7 (rec7 D p W) l = nst7 D p l W := rcg7_hit p 1 2 (by omega)
structure Rc7 (D : List Int) (p W m : Nat) (R : List (Nat × Nat)) : Prop where
  inc : R.Pairwise (fun x y => x.1 < y.1)
  bd : ∀ x ∈ R, m < x.1 ∧ x.1 ≤ 258 ∧ 1 ≤ x.2 ∧ x.2 ≤ W ∧ x.2 ≤ p ∧ x.1 ≤ al7 D (p - x.2) p
theorem rcg7_rc {D : List Int} {p W : Nat} : ∀ (f d m : Nat), 1 ≤ d → Rc7 D p W m (rcg7 D p W f d m)
  | 0, d, m, _ => ⟨List.Pairwise.nil, fun x h => by simp [rcg7] at h⟩
  | f + 1, d, m, hd => by
    rw [rcg7]
    split
    · rename_i hc
      split
      · rename_i hm
        have h := rcg7_rc (D := D) (p := p) (W := W) f (d + 1) (al7 D (p - d) p) (by omega)
        refine ⟨List.Pairwise.cons (fun y hy => (h.bd y hy).1) h.inc, fun x hx => ?_⟩
        rcases List.mem_cons.1 hx with rfl | hx
        · exact ⟨hm, al7_le _ _ _, hd, hc.2, hc.1, Nat.le_refl _⟩
        · have := h.bd x hx
          exact ⟨by omega, this.2⟩
      · exact rcg7_rc f (d + 1) m (by omega)
    · exact ⟨List.Pairwise.nil, fun x h => by simp at h⟩
theorem rec7_rc (D : List Int) (p W : Nat) : Rc7 D p W 2 (rec7 D p W) := rcg7_rc p 1 2 (Nat.le_refl _)
theorem rcg7_len {D : List Int} {p W : Nat} : ∀ (f d m : Nat), m ≤ 258 → (rcg7 D p W f d m).length ≤ 258 - m
  | 0, d, m, _ => by simp [rcg7]
  | f + 1, d, m, hm => by
    rw [rcg7]
    split
    · split
      · rename_i h
        have h1 := al7_le D (p - d) p
        have := rcg7_len (D := D) (p := p) (W := W) f (d + 1) (al7 D (p - d) p) h1
        simp only [List.length_cons]
        omega
      · exact rcg7_len f (d + 1) m hm
    · simp
theorem rec7_len (D : List Int) (p W : Nat) : (rec7 D p W).length ≤ 256 := rcg7_len p 1 2 (by omega)
/-- The length ahead of entry i. -/
def nl7 (R : List (Nat × Nat)) (i : Nat) : Nat := if i = 0 then 2 else (R.getD (i - 1) (0, 0)).1
theorem hit7_far {R : List (Nat × Nat)} {l : Nat} (h : ∀ x ∈ R, x.1 < l) : hit7 R l = 0 := by
  induction R with
  | nil => rfl
  | cons x r ih =>
    rw [hit7, if_neg (by have := h x (List.mem_cons_self ..); omega)]
    exact ih (fun y hy => h y (List.mem_cons_of_mem _ hy))
theorem hit7_at {R : List (Nat × Nat)} (hi : R.Pairwise (fun x y => x.1 < y.1)) : ∀ {i l : Nat}, i < R.length → (∀ j, j < i → (R.getD j (0, 0)).1 < l) → l ≤ (R.getD i (0, 0)).1 → hit7 R l = (R.getD i (0, 0)).2 := by
  induction R with
  | nil => intro i l h; simp at h
  | cons x r ih =>
    intro i l h1 h2 h3
    cases i with
    | zero =>
      rw [hit7, if_pos (by simpa using h3)]
      rfl
    | succ i =>
      have h0 := h2 0 (by omega)
      rw [hit7, if_neg (by simp at h0; omega)]
      have := ih (List.pairwise_cons.1 hi).2 (i := i) (l := l) (by simpa using h1) (fun j hj => by simpa using h2 (j + 1) (by omega)) (by simpa using h3)
      simpa using this
theorem rc7_mem {R : List (Nat × Nat)} {i : Nat} (h : i < R.length) : R.getD i (0, 0) ∈ R := by simp [List.getD, h]
theorem rc7_inc {R : List (Nat × Nat)} (hi : R.Pairwise (fun x y => x.1 < y.1)) {i j : Nat} (h1 : i < j) (h2 : j < R.length) : (R.getD i (0, 0)).1 < (R.getD j (0, 0)).1 := by
  have := List.pairwise_iff_getElem.1 hi i j (by omega) h2 h1
  simpa [List.getD, show i < R.length by omega, h2] using this
/-- What stands at entry i. -/
theorem rec7_at {D : List Int} {p W i l : Nat} (h : i < (rec7 D p W).length) (h1 : nl7 (rec7 D p W) i < l) (h2 : l ≤ ((rec7 D p W).getD i (0, 0)).1) : 3 ≤ l ∧ nst7 D p l W = ((rec7 D p W).getD i (0, 0)).2 := by
  have hrc := rec7_rc D p W
  have h3 : 3 ≤ l := by
    unfold nl7 at h1
    split at h1
    · omega
    · have := (hrc.bd _ (rc7_mem (show i - 1 < (rec7 D p W).length by omega))).1
      omega
  refine ⟨h3, ?_⟩
  rw [← rec7_hit h3]
  refine hit7_at hrc.inc h (fun j hj => ?_) h2
  unfold nl7 at h1
  rw [if_neg (by omega)] at h1
  by_cases e : j = i - 1
  · rw [e]; exact h1
  · have := rc7_inc hrc.inc (show j < i - 1 by omega) (by omega)
    omega
theorem rec7_beyond {D : List Int} {p W l : Nat} (h3 : 3 ≤ l) (h : nl7 (rec7 D p W) (rec7 D p W).length < l) : nst7 D p l W = 0 := by
  have hrc := rec7_rc D p W
  rw [← rec7_hit h3]
  refine hit7_far (fun x hx => ?_)
  obtain ⟨j, hj, rfl⟩ := List.mem_iff_getElem.1 hx
  unfold nl7 at h
  rw [if_neg (by omega)] at h
  have hlast : (rec7 D p W).getD j (0, 0) = (rec7 D p W)[j] := by simp [List.getD, hj]
  by_cases e : j = (rec7 D p W).length - 1
  · rw [← hlast, e]; exact h
  · have := rc7_inc hrc.inc (show j < (rec7 D p W).length - 1 by omega) (by omega)
    rw [hlast] at this
    omega
theorem chg7_skip {D : List Int} {win : Nat} {c : Pr7} {p : Nat} {T : List (Int × Tok7)} {a : Int × Tok7} : ∀ (k j : Nat), (∀ l, j + 2 < l → l ≤ j + k + 2 → nst7 D p l win = 0) → chg7 D win c p T (j + k) a = chg7 D win c p T j a
  | 0, j, _ => rfl
  | k + 1, j, h => by
    rw [show j + (k + 1) = j + k + 1 by omega, chg7]
    have : try7 D win c p T (j + k + 3) a = a := by
      unfold try7
      rw [if_neg (fun e => e.2.1 (h (j + k + 3) (by omega) (by omega)))]
    rw [this]
    exact chg7_skip k j (fun l h1 h2 => h l h1 (by omega))
theorem nl7_bd (D : List Int) (p W i : Nat) (h : i ≤ (rec7 D p W).length) : 2 ≤ nl7 (rec7 D p W) i ∧ nl7 (rec7 D p W) i ≤ 258 := by
  unfold nl7
  split
  · omega
  · have := (rec7_rc D p W).bd _ (rc7_mem (show i - 1 < (rec7 D p W).length by omega))
    omega
theorem chg7_start {D : List Int} {win : Nat} {c : Pr7} {p : Nat} {T : List (Int × Tok7)} (a : Int × Tok7) : chg7 D win c p T 256 a = chg7 D win c p T (nl7 (rec7 D p win) (rec7 D p win).length - 2) a := by
  have hb := nl7_bd D p win _ (Nat.le_refl _)
  obtain ⟨k, hk⟩ : ∃ k, nl7 (rec7 D p win) (rec7 D p win).length - 2 + k = 256 := ⟨256 - (nl7 (rec7 D p win) (rec7 D p win).length - 2), by omega⟩
  have := chg7_skip (D := D) (win := win) (c := c) (p := p) (T := T) (a := a) k (nl7 (rec7 D p win) (rec7 D p win).length - 2) (fun l h1 h2 => rec7_beyond (by omega) (by omega))
  rw [hk] at this
  exact this
/-- One length. -/
theorem chg7_one {D : List Int} {win : Nat} {c : Pr7} {p l d : Nat} (hp : p < D.length) (h3 : 3 ≤ l) (hl : p + l ≤ D.length) (hd : nst7 D p l win = d) (hd1 : 1 ≤ d) (a : Int × Tok7) :
    chg7 D win c p (tab7 D win c (D.length - (p + 1))) (l - 2) a = chg7 D win c p (tab7 D win c (D.length - (p + 1))) (l - 1 - 2) (if mc7 c d + (lea7 D win c (p + l)).1 < a.1 then (mc7 c d + (lea7 D win c (p + l)).1, ⟨0, (l : Int), (d : Int)⟩) else a) := by
  rw [show l - 2 = l - 3 + 1 by omega, chg7, show l - 3 + 3 = l by omega, show l - 1 - 2 = l - 3 by omega]
  congr 1
  unfold try7
  rw [tab7_next D win c p l (by omega) hl, hd]
  by_cases h : mc7 c d + (lea7 D win c (p + l)).1 < a.1
  · rw [if_pos ⟨hl, by omega, h⟩, if_pos h]
  · rw [if_neg (fun e => h e.2.2), if_neg h]
end Go.Proofs.Ytaipfcfmhdigfaa
