import Derived.Test.YtalojcpgkgeofabGreatDoorPk
import Derived.Test.YtalojcpgkgeofabGreatDoorProg
import Derived.WalkKit
import Derived.WalkSpells
import Derived.Test.YtalojcpgkgeofabGreatDoorPb
import Derived.Test.YtalojcpgkgeofabGreatDoorPa
import Derived.Deep.QuietTactic
import Derived.BigQuiet
import Derived.Deep.RegionHeld3
namespace Go.Proofs.YtalojcpgkgeofabGreatDoor
set_option linter.unusedVariables false

/-! Matches: how many bytes are alike, the best of the candidates, tokens made of bytes. -/
def alg7 (D : List Int) (q p : Nat) : Nat → Nat → Nat
  | 0, n => n
  | f + 1, n => if p + n < D.length ∧ D.getD (q + n) 0 = D.getD (p + n) 0 then alg7 D q p f (n + 1) else n
def al7 (D : List Int) (q p : Nat) : Nat := alg7 D q p 258 0
theorem alg7_ge (D : List Int) (q p : Nat) : ∀ f n, n ≤ alg7 D q p f n ∧ alg7 D q p f n ≤ n + f
  | 0, n => ⟨Nat.le_refl _, Nat.le_refl _⟩
  | f + 1, n => by
    rw [alg7]
    split
    · have := alg7_ge D q p f (n + 1); omega
    · omega
theorem alg7_same (D : List Int) (q p : Nat) : ∀ f n i, n ≤ i → i < alg7 D q p f n → p + i < D.length ∧ D.getD (q + i) 0 = D.getD (p + i) 0
  | 0, n, i, h1, h2 => by rw [alg7] at h2; omega
  | f + 1, n, i, h1, h2 => by
    rw [alg7] at h2
    split at h2
    · rename_i h
      by_cases e : i = n
      · subst e; exact h
      · exact alg7_same D q p f (n + 1) i (by omega) h2
    · omega
theorem alg7_stop (D : List Int) (q p : Nat) : ∀ f n, alg7 D q p f n < n + f → ¬ (p + alg7 D q p f n < D.length ∧ D.getD (q + alg7 D q p f n) 0 = D.getD (p + alg7 D q p f n) 0)
  | 0, n, h => by rw [alg7] at h; omega
  | f + 1, n, h => by
    rw [alg7] at h ⊢
    split
    · rename_i h1
      rw [if_pos h1] at h
      exact alg7_stop D q p f (n + 1) (by omega)
    · rename_i h1; exact h1
theorem al7_le (D : List Int) (q p : Nat) : al7 D q p ≤ 258 := by have := (alg7_ge D q p 258 0).2; unfold al7; omega
theorem al7_same {D : List Int} {q p i : Nat} (h : i < al7 D q p) : p + i < D.length ∧ D.getD (q + i) 0 = D.getD (p + i) 0 := alg7_same D q p 258 0 i (Nat.zero_le _) h
theorem al7_stop {D : List Int} {q p : Nat} (h : al7 D q p < 258) : ¬ (p + al7 D q p < D.length ∧ D.getD (q + al7 D q p) 0 = D.getD (p + al7 D q p) 0) := alg7_stop D q p 258 0 (by unfold al7 at h; omega)
/-- n bytes are alike just if each is. -/
theorem al7_iff {D : List Int} {q p n : Nat} (hn : n ≤ 258) : n ≤ al7 D q p ↔ ∀ i, i < n → p + i < D.length ∧ D.getD (q + i) 0 = D.getD (p + i) 0 := by
  constructor
  · intro h i hi; exact al7_same (by omega)
  · intro h
    rcases Nat.lt_or_ge (al7 D q p) n with h1 | h1
    · exact absurd (h _ h1) (al7_stop (by omega))
    · exact h1
theorem al7_fits {D : List Int} {q p : Nat} (h : p ≤ D.length) : p + al7 D q p ≤ D.length := by
  rcases Nat.eq_zero_or_pos (al7 D q p) with e | e
  · omega
  · have := (al7_same (D := D) (q := q) (p := p) (i := al7 D q p - 1) (by omega)).1
    omega
def bsg7 (D : List Int) (p win chain : Nat) : Nat → Nat → Nat → Nat → Nat → Nat × Nat
  | 0, _, best, dist, _ => (best, dist)
  | f + 1, d, best, dist, seen =>
    if d ≤ p ∧ d ≤ win ∧ seen < chain then
      if al7 D (p - d) p < 3 then bsg7 D p win chain f (d + 1) best dist seen
      else if best < al7 D (p - d) p then bsg7 D p win chain f (d + 1) (al7 D (p - d) p) d (seen + 1)
      else bsg7 D p win chain f (d + 1) best dist (seen + 1)
    else (best, dist)
/-- Best: how long, how far. -/
def bst7 (D : List Int) (p win chain : Nat) : Nat × Nat := bsg7 D p win chain p 1 0 0 0
/-- A match that is there. -/
structure Mt7 (D : List Int) (p win n d : Nat) : Prop where
  n3 : 3 ≤ n
  n258 : n ≤ 258
  d1 : 1 ≤ d
  dw : d ≤ win
  dp : d ≤ p
  al : n ≤ al7 D (p - d) p
theorem bsg7_mt (D : List Int) (p win chain : Nat) : ∀ f d best dist seen, 1 ≤ d → ((best = 0 ∧ dist = 0) ∨ Mt7 D p win best dist) →
    ((bsg7 D p win chain f d best dist seen).1 = 0 ∧ (bsg7 D p win chain f d best dist seen).2 = 0) ∨ Mt7 D p win (bsg7 D p win chain f d best dist seen).1 (bsg7 D p win chain f d best dist seen).2
  | 0, _, _, _, _, _, h => h
  | f + 1, d, best, dist, seen, hd, h => by
    rw [bsg7]
    split
    · rename_i h1
      split
      · exact bsg7_mt D p win chain f (d + 1) best dist seen (by omega) h
      · rename_i h2
        split
        · exact bsg7_mt D p win chain f (d + 1) _ d (seen + 1) (by omega) (.inr ⟨by omega, al7_le _ _ _, hd, h1.2.1, h1.1, Nat.le_refl _⟩)
        · exact bsg7_mt D p win chain f (d + 1) best dist (seen + 1) (by omega) h
    · exact h
theorem bst7_mt (D : List Int) (p win chain : Nat) : ((bst7 D p win chain).1 = 0 ∧ (bst7 D p win chain).2 = 0) ∨ Mt7 D p win (bst7 D p win chain).1 (bst7 D p win chain).2 := bsg7_mt D p win chain p 1 0 0 0 (Nat.le_refl _) (.inl ⟨rfl, rfl⟩)
theorem bsg7_zero (D : List Int) (p win : Nat) : ∀ f d best dist seen, bsg7 D p win 0 f d best dist seen = (best, dist)
  | 0, _, _, _, _ => rfl
  | f + 1, d, best, dist, seen => by rw [bsg7, if_neg (by omega)]
theorem bst7_zero (D : List Int) (p win : Nat) : bst7 D p win 0 = (0, 0) := bsg7_zero D p win p 1 0 0 0
/-- How many bytes Parse takes at a place: 0: the byte alone. -/
def pick7 (D : List Int) (win chain : Nat) (lazy : Bool) (p : Nat) : Nat :=
  if 0 < (bst7 D p win chain).1 ∧ lazy = true ∧ p + 1 < D.length ∧ (bst7 D p win chain).1 < (bst7 D (p + 1) win chain).1 then 0 else (bst7 D p win chain).1
def parg7 (D : List Int) (win chain : Nat) (lazy : Bool) : Nat → Nat → List Tok7
  | 0, _ => []
  | f + 1, p =>
    if p < D.length then
      if pick7 D win chain lazy p = 0 then ⟨D.getD p 0, 0, 0⟩ :: parg7 D win chain lazy f (p + 1)
      else ⟨0, (pick7 D win chain lazy p : Nat), ((bst7 D p win chain).2 : Nat)⟩ :: parg7 D win chain lazy f (p + pick7 D win chain lazy p)
    else []
def par7 (D : List Int) (win chain : Nat) (lazy : Bool) : List Tok7 := parg7 D win chain lazy D.length 0
theorem pick7_mt (D : List Int) (win chain : Nat) (lazy : Bool) (p : Nat) : pick7 D win chain lazy p = 0 ∨ Mt7 D p win (pick7 D win chain lazy p) (bst7 D p win chain).2 := by
  unfold pick7
  split
  · exact .inl rfl
  · rcases bst7_mt D p win chain with h | h
    · exact .inl h.1
    · exact .inr h
/-- These tokens are the bytes of D from p on, over this window. -/
def Tz7 (D : List Int) (win : Nat) : List Tok7 → Nat → Prop
  | [], p => p = D.length
  | t :: r, p => p < D.length ∧ ((t = ⟨D.getD p 0, 0, 0⟩ ∧ Tz7 D win r (p + 1)) ∨ ∃ n d : Nat, t = ⟨0, n, d⟩ ∧ Mt7 D p win n d ∧ Tz7 D win r (p + n))
theorem Mt7.fits {D : List Int} {p win n d : Nat} (h : Mt7 D p win n d) : p + n ≤ D.length := by
  have := (al7_same (D := D) (q := p - d) (p := p) (i := n - 1) (by have := h.al; have := h.n3; omega)).1
  have := h.n3
  omega
theorem parg7_tz (D : List Int) (win chain : Nat) (lazy : Bool) : ∀ f p, p ≤ D.length → D.length ≤ p + f → Tz7 D win (parg7 D win chain lazy f p) p
  | 0, p, h1, h2 => by rw [parg7, Tz7]; omega
  | f + 1, p, h1, h2 => by
    rw [parg7]
    split
    · rename_i h
      split
      · exact ⟨h, .inl ⟨rfl, parg7_tz D win chain lazy f (p + 1) (by omega) (by omega)⟩⟩
      · rename_i h0
        rcases pick7_mt D win chain lazy p with e | e
        · exact absurd e h0
        · have h3 := e.fits
          have h4 := e.n3
          exact ⟨h, .inr ⟨_, _, rfl, e, parg7_tz D win chain lazy f _ h3 (by omega)⟩⟩
    · rw [Tz7]; omega
theorem par7_tz (D : List Int) (win chain : Nat) (lazy : Bool) : Tz7 D win (par7 D win chain lazy) 0 := parg7_tz D win chain lazy D.length 0 (by omega) (by omega)
theorem parg7_chain0 (D : List Int) (win : Nat) (lazy : Bool) : ∀ f p, p ≤ D.length → D.length ≤ p + f → (parg7 D win 0 lazy f p).length = D.length - p
  | 0, p, h1, h2 => by rw [parg7]; simp; omega
  | f + 1, p, h1, h2 => by
    have h0 : pick7 D win 0 lazy p = 0 := by unfold pick7; rw [bst7_zero]; simp
    rw [parg7]
    by_cases h : p < D.length
    · rw [if_pos h, if_pos h0, List.length_cons, parg7_chain0 D win lazy f (p + 1) (by omega) (by omega)]; omega
    · rw [if_neg h]; simp; omega
theorem par7_chain0 (D : List Int) (win : Nat) (lazy : Bool) : (par7 D win 0 lazy).length = D.length := parg7_chain0 D win lazy D.length 0 (by omega) (by omega)
/-! What such tokens are. -/
theorem getD_take7 (A : List Int) (j i : Nat) (h : i < j) : (A.take j).getD i 0 = A.getD i 0 := by simp [List.getD, h]
theorem take_succ7 (D : List Int) (p : Nat) (h : p < D.length) : D.take (p + 1) = D.take p ++ [D.getD p 0] := by
  rw [List.take_succ_eq_append_getElem h]; simp [List.getD, h]
theorem cp7_mt {D : List Int} {p win n d : Nat} (h : Mt7 D p win n d) : ∀ i, i ≤ n → cp7 (D.take p) d i = D.take (p + i)
  | 0, _ => rfl
  | i + 1, hi => by
    have h1 := h.fits
    have ih := cp7_mt h i (by omega)
    have hs := al7_same (D := D) (q := p - d) (p := p) (i := i) (by have := h.al; omega)
    rw [cp7, ih, show p + (i + 1) = p + i + 1 by omega, take_succ7 D (p + i) (by omega)]
    have hl : (D.take (p + i)).length = p + i := by rw [List.length_take]; omega
    have d1 := h.d1
    have dp := h.dp
    rw [hl, getD_take7 _ _ _ (by omega), ← hs.2, show p - d + i = p + i - d by omega]
theorem Mt7.wid {D : List Int} {p win n d : Nat} (h : Mt7 D p win n d) (hw : win ≤ 32768) : may7 ⟨0, n, d⟩ ∧ wid7 ⟨0, n, d⟩ = n := by
  have h1 := h.n3
  have h2 := h.n258
  have h3 := h.d1
  have h4 := h.dw
  have hm : may7 ⟨0, n, d⟩ := by
    unfold may7
    simp only
    rw [if_neg (by omega)]
    exact ⟨by omega, by omega, by omega, by omega, trivial⟩
  refine ⟨hm, ?_⟩
  unfold wid7
  rw [if_pos hm]
  simp only
  rw [if_neg (by omega)]
  omega
theorem lit7_wid (z : Int) : may7 ⟨z, 0, 0⟩ ∧ wid7 ⟨z, 0, 0⟩ = 1 := by
  have hm : may7 ⟨z, 0, 0⟩ := by unfold may7; simp
  refine ⟨hm, ?_⟩
  unfold wid7
  rw [if_pos hm]
  simp
theorem Tz7.all {D : List Int} {win : Nat} (hw : win ≤ 32768) : ∀ (l : List Tok7) (p : Nat), Tz7 D win l p → ok7 win l p ∧ exp7 (D.take p) l = D ∧ siz7 l = D.length - p ∧ l.length ≤ D.length - p
  | [], p, h => by
    rw [Tz7] at h
    subst h
    exact ⟨trivial, by rw [exp7, List.take_length], by simp [siz7], by simp⟩
  | t :: r, p, ⟨hp, h⟩ => by
    rcases h with ⟨rfl, h⟩ | ⟨n, d, rfl, hm, h⟩
    · obtain ⟨a1, a2, a3, a4⟩ := Tz7.all hw r (p + 1) h
      have hl := lit7_wid (D.getD p 0)
      refine ⟨⟨hl.1, by unfold far7; simp, by rw [hl.2]; exact a1⟩, ?_, by rw [siz7, hl.2, a3]; omega, by rw [List.length_cons]; omega⟩
      rw [exp7]
      unfold tok7
      simp only [if_true]
      rw [← take_succ7 D p hp]
      exact a2
    · obtain ⟨a1, a2, a3, a4⟩ := Tz7.all hw r (p + n) h
      have hl := hm.wid hw
      have h1 := hm.n3
      have h2 := hm.fits
      have h3 := hm.dw
      have h4 := hm.dp
      refine ⟨⟨hl.1, by unfold far7; simp only; omega, by rw [hl.2]; exact a1⟩, ?_, by rw [siz7, hl.2, a3]; omega, by rw [List.length_cons]; omega⟩
      rw [exp7]
      unfold tok7
      simp only
      rw [if_neg (by omega), Int.toNat_natCast, Int.toNat_natCast, cp7_mt hm n (Nat.le_refl _)]
      exact a2
end Go.Proofs.YtalojcpgkgeofabGreatDoor

namespace Go.Proofs.YtalojcpgkgeofabGreatDoor
set_option linter.unusedVariables false

/-! What tokens cost; the cheapest ones (P7.9, P7.10). -/
def bits7 (d : Nat) : Nat := if h : d = 0 then 0 else bits7 (d / 2) + 1
termination_by d
decreasing_by omega
theorem bits7_zero : bits7 0 = 0 := by rw [bits7]; simp
theorem bits7_pos {d : Nat} (h : 0 < d) : bits7 d = bits7 (d / 2) + 1 := by
  rw [bits7, dif_neg (by omega)]
theorem bits7_mono : ∀ (e d : Nat), d ≤ e → bits7 d ≤ bits7 e := by
  intro e
  induction e using Nat.strongRecOn with
  | ind e ih =>
    intro d h
    by_cases h0 : d = 0
    · rw [h0, bits7_zero]; omega
    · rw [bits7_pos (show 0 < d by omega), bits7_pos (show 0 < e by omega)]
      have := ih (e / 2) (by omega) (d / 2) (by omega)
      omega
theorem bits7_le : ∀ k d, d < 2 ^ k → bits7 d ≤ k
  | 0, d, h => by
    obtain rfl : d = 0 := by simpa using h
    rw [bits7_zero]; omega
  | k + 1, d, h => by
    by_cases h0 : d = 0
    · rw [h0, bits7_zero]; omega
    · rw [bits7_pos (show 0 < d by omega)]
      have := bits7_le k (d / 2) (by rw [Nat.pow_succ] at h; omega)
      omega
def nrg7 (D : List Int) (p n win : Nat) : Nat → Nat → Nat
  | 0, _ => 0
  | f + 1, d => if d ≤ win ∧ d ≤ p then (if n ≤ al7 D (p - d) p then d else nrg7 D p n win f (d + 1)) else 0
/-- The least distance at which n bytes are alike; 0: there is none. -/
def nst7 (D : List Int) (p n win : Nat) : Nat := nrg7 D p n win p 1
theorem nrg7_spec (D : List Int) (p n win : Nat) : ∀ f d, 1 ≤ d → p < d + f →
    (nrg7 D p n win f d = 0 ∧ ∀ e, d ≤ e → e ≤ win → e ≤ p → ¬ n ≤ al7 D (p - e) p) ∨
    (d ≤ nrg7 D p n win f d ∧ nrg7 D p n win f d ≤ win ∧ nrg7 D p n win f d ≤ p ∧ n ≤ al7 D (p - nrg7 D p n win f d) p ∧ ∀ e, d ≤ e → e ≤ win → e ≤ p → n ≤ al7 D (p - e) p → nrg7 D p n win f d ≤ e)
  | 0, d, h1, h2 => .inl ⟨rfl, fun e a b c => by omega⟩
  | f + 1, d, h1, h2 => by
    rw [nrg7]
    by_cases hc : d ≤ win ∧ d ≤ p
    · rw [if_pos hc]
      by_cases ha : n ≤ al7 D (p - d) p
      · rw [if_pos ha]
        exact .inr ⟨Nat.le_refl _, hc.1, hc.2, ha, fun e a _ _ _ => a⟩
      · rw [if_neg ha]
        have hx : ∀ e, d ≤ e → n ≤ al7 D (p - e) p → d + 1 ≤ e := fun e a b => by
          rcases Nat.eq_or_lt_of_le a with e1 | e1
          · subst e1; exact absurd b ha
          · exact e1
        rcases nrg7_spec D p n win f (d + 1) (by omega) (by omega) with ⟨a, b⟩ | ⟨a, b, c, e, g⟩
        · exact .inl ⟨a, fun e h3 h4 h5 h6 => b e (hx e h3 h6) h4 h5 h6⟩
        · exact .inr ⟨by omega, b, c, e, fun x h3 h4 h5 h6 => g x (hx x h3 h6) h4 h5 h6⟩
    · rw [if_neg hc]
      exact .inl ⟨rfl, fun e a b c => by omega⟩
theorem nst7_spec (D : List Int) (p n win : Nat) : (nst7 D p n win = 0 ∧ ∀ e, 1 ≤ e → e ≤ win → e ≤ p → ¬ n ≤ al7 D (p - e) p) ∨
    (1 ≤ nst7 D p n win ∧ nst7 D p n win ≤ win ∧ nst7 D p n win ≤ p ∧ n ≤ al7 D (p - nst7 D p n win) p ∧ ∀ e, 1 ≤ e → e ≤ win → e ≤ p → n ≤ al7 D (p - e) p → nst7 D p n win ≤ e) :=
  nrg7_spec D p n win p 1 (Nat.le_refl _) (by omega)
structure Pr7 where
  lit : Int
  mat : Int
  far : Int
/-- What a match costs ahead of what comes behind it. -/
def mc7 (c : Pr7) (d : Nat) : Int := c.mat + c.far * (bits7 d : Int)
/-- One length tried: the value and the token so far. T: from the next place on, what is least and with which token. -/
def try7 (D : List Int) (win : Nat) (c : Pr7) (p : Nat) (T : List (Int × Tok7)) (l : Nat) (a : Int × Tok7) : Int × Tok7 :=
  if p + l ≤ D.length ∧ nst7 D p l win ≠ 0 ∧ mc7 c (nst7 D p l win) + (T.getD (l - 1) (0, ⟨0, 0, 0⟩)).1 < a.1 then (mc7 c (nst7 D p l win) + (T.getD (l - 1) (0, ⟨0, 0, 0⟩)).1, ⟨0, (l : Int), (nst7 D p l win : Int)⟩) else a
/-- The lengths from j + 2 down to 3. -/
def chg7 (D : List Int) (win : Nat) (c : Pr7) (p : Nat) (T : List (Int × Tok7)) : Nat → Int × Tok7 → Int × Tok7
  | 0, a => a
  | j + 1, a => chg7 D win c p T j (try7 D win c p T (j + 3) a)
def lit7 (D : List Int) (c : Pr7) (p : Nat) (T : List (Int × Tok7)) : Int × Tok7 := (c.lit + (T.getD 0 (0, ⟨0, 0, 0⟩)).1, ⟨D.getD p 0, 0, 0⟩)
/-- The table of the last j places, and the end. -/
def tab7 (D : List Int) (win : Nat) (c : Pr7) : Nat → List (Int × Tok7)
  | 0 => [(0, ⟨0, 0, 0⟩)]
  | j + 1 => chg7 D win c (D.length - (j + 1)) (tab7 D win c j) 256 (lit7 D c (D.length - (j + 1)) (tab7 D win c j)) :: tab7 D win c j
theorem tab7_len (D : List Int) (win : Nat) (c : Pr7) : ∀ j, (tab7 D win c j).length = j + 1
  | 0 => rfl
  | j + 1 => by rw [tab7, List.length_cons, tab7_len D win c j]
/-- What is least from a place on, and with which token. -/
def lea7 (D : List Int) (win : Nat) (c : Pr7) (p : Nat) : Int × Tok7 := (tab7 D win c (D.length - p)).getD 0 (0, ⟨0, 0, 0⟩)
theorem tab7_at (D : List Int) (win : Nat) (c : Pr7) : ∀ j i, i ≤ j → (tab7 D win c j).getD i (0, ⟨0, 0, 0⟩) = (tab7 D win c (j - i)).getD 0 (0, ⟨0, 0, 0⟩)
  | j, 0, _ => by simp
  | 0, i + 1, h => by omega
  | j + 1, i + 1, h => by
    rw [tab7]
    have := tab7_at D win c j i (by omega)
    rw [show j + 1 - (i + 1) = j - i by omega, ← this]
    simp [List.getD]
theorem lea7_end (D : List Int) (win : Nat) (c : Pr7) : lea7 D win c D.length = (0, ⟨0, 0, 0⟩) := by
  unfold lea7
  rw [Nat.sub_self, tab7]
  rfl
/-- What a length tried is worth. -/
def val7 (D : List Int) (win : Nat) (c : Pr7) (p l : Nat) : Int := mc7 c (nst7 D p l win) + (lea7 D win c (p + l)).1
theorem tab7_next (D : List Int) (win : Nat) (c : Pr7) (p l : Nat) (h1 : 1 ≤ l) (h2 : p + l ≤ D.length) : (tab7 D win c (D.length - (p + 1))).getD (l - 1) (0, ⟨0, 0, 0⟩) = lea7 D win c (p + l) := by
  rw [tab7_at _ _ _ _ _ (by omega)]
  unfold lea7
  rw [show D.length - (p + 1) - (l - 1) = D.length - (p + l) by omega]
theorem chg7_spec (D : List Int) (win : Nat) (c : Pr7) (p : Nat) (hp : p < D.length) : ∀ j a,
    (chg7 D win c p (tab7 D win c (D.length - (p + 1))) j a).1 ≤ a.1 ∧
    (∀ l, 3 ≤ l → l ≤ j + 2 → p + l ≤ D.length → nst7 D p l win ≠ 0 → (chg7 D win c p (tab7 D win c (D.length - (p + 1))) j a).1 ≤ val7 D win c p l) ∧
    (chg7 D win c p (tab7 D win c (D.length - (p + 1))) j a = a ∨ ∃ l, 3 ≤ l ∧ l ≤ j + 2 ∧ p + l ≤ D.length ∧ nst7 D p l win ≠ 0 ∧ chg7 D win c p (tab7 D win c (D.length - (p + 1))) j a = (val7 D win c p l, ⟨0, (l : Int), (nst7 D p l win : Int)⟩))
  | 0, a => ⟨Int.le_refl _, fun l a b => by omega, .inl rfl⟩
  | j + 1, a => by
    obtain ⟨h1, h2, h3⟩ := chg7_spec D win c p hp j (try7 D win c p (tab7 D win c (D.length - (p + 1))) (j + 3) a)
    have ht : (try7 D win c p (tab7 D win c (D.length - (p + 1))) (j + 3) a).1 ≤ a.1 ∧ (p + (j + 3) ≤ D.length → nst7 D p (j + 3) win ≠ 0 → (try7 D win c p (tab7 D win c (D.length - (p + 1))) (j + 3) a).1 ≤ val7 D win c p (j + 3)) ∧
        (try7 D win c p (tab7 D win c (D.length - (p + 1))) (j + 3) a = a ∨ (p + (j + 3) ≤ D.length ∧ nst7 D p (j + 3) win ≠ 0 ∧ try7 D win c p (tab7 D win c (D.length - (p + 1))) (j + 3) a = (val7 D win c p (j + 3), ⟨0, ((j + 3 : Nat) : Int), (nst7 D p (j + 3) win : Int)⟩))) := by
      unfold try7
      by_cases e : p + (j + 3) ≤ D.length
      · rw [tab7_next D win c p (j + 3) (by omega) e]
        by_cases h : p + (j + 3) ≤ D.length ∧ nst7 D p (j + 3) win ≠ 0 ∧ mc7 c (nst7 D p (j + 3) win) + (lea7 D win c (p + (j + 3))).1 < a.1
        · rw [if_pos h]
          exact ⟨Int.le_of_lt h.2.2, fun _ _ => Int.le_refl _, .inr ⟨e, h.2.1, rfl⟩⟩
        · rw [if_neg h]
          refine ⟨Int.le_refl _, fun e1 e2 => ?_, .inl rfl⟩
          unfold val7
          have := fun x => h ⟨e1, e2, x⟩
          omega
      · rw [if_neg (fun x => e x.1)]
        exact ⟨Int.le_refl _, fun x => absurd x e, .inl rfl⟩
    rw [chg7]
    refine ⟨Int.le_trans h1 ht.1, fun l a1 a2 a3 a4 => ?_, ?_⟩
    · by_cases e : l ≤ j + 2
      · exact h2 l a1 e a3 a4
      · obtain rfl : l = j + 3 := by omega
        exact Int.le_trans h1 (ht.2.1 a3 a4)
    · rcases h3 with h3 | ⟨l, b1, b2, b3, b4, b5⟩
      · rw [h3]
        rcases ht.2.2 with e | ⟨e1, e2, e3⟩
        · exact .inl e
        · exact .inr ⟨j + 3, by omega, by omega, e1, e2, e3⟩
      · exact .inr ⟨l, b1, by omega, b3, b4, b5⟩
theorem lea7_step (D : List Int) (win : Nat) (c : Pr7) (p : Nat) (hp : p < D.length) : lea7 D win c p = chg7 D win c p (tab7 D win c (D.length - (p + 1))) 256 (lit7 D c p (tab7 D win c (D.length - (p + 1)))) := by
  unfold lea7
  rw [show D.length - p = D.length - (p + 1) + 1 by omega, tab7, show D.length - (D.length - (p + 1) + 1) = p by omega]
  exact List.getD_cons_zero
theorem lit7_eq (D : List Int) (win : Nat) (c : Pr7) (p : Nat) (hp : p < D.length) : lit7 D c p (tab7 D win c (D.length - (p + 1))) = (c.lit + (lea7 D win c (p + 1)).1, ⟨D.getD p 0, 0, 0⟩) := rfl
/-- The least, place by place. -/
theorem lea7_spec (D : List Int) (win : Nat) (c : Pr7) (p : Nat) (hp : p < D.length) :
    (lea7 D win c p).1 ≤ c.lit + (lea7 D win c (p + 1)).1 ∧
    (∀ l, 3 ≤ l → l ≤ 258 → p + l ≤ D.length → nst7 D p l win ≠ 0 → (lea7 D win c p).1 ≤ val7 D win c p l) ∧
    (lea7 D win c p = (c.lit + (lea7 D win c (p + 1)).1, ⟨D.getD p 0, 0, 0⟩) ∨ ∃ l, 3 ≤ l ∧ l ≤ 258 ∧ p + l ≤ D.length ∧ nst7 D p l win ≠ 0 ∧ lea7 D win c p = (val7 D win c p l, ⟨0, (l : Int), (nst7 D p l win : Int)⟩)) := by
  have h := chg7_spec D win c p hp 256 (lit7 D c p (tab7 D win c (D.length - (p + 1))))
  rw [← lea7_step D win c p hp, lit7_eq D win c p hp] at h
  exact h
def cost7 (c : Pr7) : List Tok7 → Int
  | [] => 0
  | t :: r => (if t.len = 0 then c.lit else mc7 c t.dist.toNat) + cost7 c r
/-- No tokens that are the bytes cost less (P7.10). -/
theorem lea7_least {D : List Int} {win : Nat} {c : Pr7} (hf : 0 ≤ c.far) : ∀ (l : List Tok7) (p : Nat), Tz7 D win l p → (lea7 D win c p).1 ≤ cost7 c l
  | [], p, h => by
    rw [Tz7] at h
    subst h
    rw [lea7_end, cost7]
    exact Int.le_refl _
  | t :: r, p, ⟨hp, h⟩ => by
    obtain ⟨s1, s2, _⟩ := lea7_spec D win c p hp
    rcases h with ⟨rfl, h⟩ | ⟨n, d, rfl, hm, h⟩
    · have := lea7_least hf r (p + 1) h
      rw [cost7]
      simp only [if_true]
      omega
    · have ih := lea7_least hf r (p + n) h
      have hn3 := hm.n3
      rw [cost7]
      simp only
      rw [if_neg (by omega), Int.toNat_natCast]
      rcases nst7_spec D p n win with ⟨_, b⟩ | ⟨b1, b2, b3, b4, b5⟩
      · exact absurd hm.al (b d hm.d1 hm.dw hm.dp)
      · have h1 := b5 d hm.d1 hm.dw hm.dp hm.al
        have h2 := s2 n hn3 hm.n258 hm.fits (by omega)
        have h3 := bits7_mono d _ h1
        have h4 : c.far * (bits7 (nst7 D p n win) : Int) ≤ c.far * (bits7 d : Int) := Int.mul_le_mul_of_nonneg_left (by omega) hf
        unfold val7 mc7 at h2
        unfold mc7
        omega
/-- The tokens that the table leads to. -/
def outg7 (D : List Int) (win : Nat) (c : Pr7) : Nat → Nat → List Tok7
  | 0, _ => []
  | f + 1, p => if p < D.length then (lea7 D win c p).2 :: outg7 D win c f (p + (if (lea7 D win c p).2.len = 0 then 1 else (lea7 D win c p).2.len.toNat)) else []
def che7 (D : List Int) (win : Nat) (c : Pr7) : List Tok7 := outg7 D win c D.length 0
theorem outg7_tz (D : List Int) (win : Nat) (c : Pr7) : ∀ f p, p ≤ D.length → D.length ≤ p + f → Tz7 D win (outg7 D win c f p) p ∧ cost7 c (outg7 D win c f p) = (lea7 D win c p).1
  | 0, p, h1, h2 => by
    obtain rfl : p = D.length := by omega
    rw [outg7, Tz7, cost7, lea7_end]
    exact ⟨rfl, rfl⟩
  | f + 1, p, h1, h2 => by
    rw [outg7]
    by_cases hp : p < D.length
    · rw [if_pos hp]
      rcases (lea7_spec D win c p hp).2.2 with e | ⟨l, a1, a2, a3, a4, e⟩
      · rw [e]
        simp only [if_true]
        obtain ⟨i1, i2⟩ := outg7_tz D win c f (p + 1) (by omega) (by omega)
        refine ⟨⟨hp, .inl ⟨rfl, i1⟩⟩, ?_⟩
        rw [cost7, i2]
        simp
      · rw [e]
        simp only
        rw [if_neg (by omega), Int.toNat_natCast]
        obtain ⟨i1, i2⟩ := outg7_tz D win c f (p + l) a3 (by omega)
        rcases nst7_spec D p l win with ⟨b, _⟩ | ⟨b1, b2, b3, b4, _⟩
        · exact absurd b a4
        · refine ⟨⟨hp, .inr ⟨l, _, rfl, ⟨a1, a2, b1, b2, b3, b4⟩, i1⟩⟩, ?_⟩
          rw [cost7, i2]
          simp only
          rw [if_neg (by omega), Int.toNat_natCast]
          rfl
    · rw [if_neg hp]
      obtain rfl : p = D.length := by omega
      rw [Tz7, cost7, lea7_end]
      exact ⟨rfl, rfl⟩
theorem che7_tz (D : List Int) (win : Nat) (c : Pr7) : Tz7 D win (che7 D win c) 0 ∧ cost7 c (che7 D win c) = (lea7 D win c 0).1 := outg7_tz D win c D.length 0 (by omega) (by omega)
/-- All bytes as they are. -/
def lits7 (D : List Int) : Nat → Nat → List Tok7
  | 0, _ => []
  | f + 1, p => ⟨D.getD p 0, 0, 0⟩ :: lits7 D f (p + 1)
theorem lits7_tz (D : List Int) (win : Nat) (c : Pr7) : ∀ f p, p + f = D.length → Tz7 D win (lits7 D f p) p ∧ cost7 c (lits7 D f p) = c.lit * (f : Int)
  | 0, p, h => by
    rw [lits7, Tz7, cost7]
    exact ⟨by omega, by simp⟩
  | f + 1, p, h => by
    obtain ⟨i1, i2⟩ := lits7_tz D win c f (p + 1) (by omega)
    rw [lits7]
    refine ⟨⟨by omega, .inl ⟨rfl, i1⟩⟩, ?_⟩
    rw [cost7, i2]
    simp only [if_true]
    rw [Int.natCast_succ, Int.mul_add, Int.mul_one, Int.add_comm]
theorem lea7_lits (D : List Int) (win : Nat) (c : Pr7) (hf : 0 ≤ c.far) : (lea7 D win c 0).1 ≤ c.lit * (D.length : Int) := by
  obtain ⟨h1, h2⟩ := lits7_tz D win c D.length 0 (by omega)
  have := lea7_least (c := c) hf _ _ h1
  rw [h2] at this
  exact this
theorem lea7_nonneg {D : List Int} {win : Nat} {c : Pr7} (h1 : 0 ≤ c.lit) (h2 : 0 ≤ c.mat) (h3 : 0 ≤ c.far) : ∀ f p, p ≤ D.length → D.length ≤ p + f → 0 ≤ (lea7 D win c p).1
  | 0, p, a, b => by
    obtain rfl : p = D.length := by omega
    rw [lea7_end]; exact Int.le_refl _
  | f + 1, p, a, b => by
    by_cases hp : p < D.length
    · rcases (lea7_spec D win c p hp).2.2 with e | ⟨l, a1, a2, a3, a4, e⟩
      · rw [e]
        have := lea7_nonneg (D := D) (win := win) h1 h2 h3 f (p + 1) (by omega) (by omega)
        simp only
        omega
      · rw [e]
        have := lea7_nonneg (D := D) (win := win) h1 h2 h3 f (p + l) (by omega) (by omega)
        have h4 : 0 ≤ c.far * (bits7 (nst7 D p l win) : Int) := Int.mul_nonneg h3 (by omega)
        simp only [val7, mc7]
        omega
    · obtain rfl : p = D.length := by omega
      rw [lea7_end]; exact Int.le_refl _
end Go.Proofs.YtalojcpgkgeofabGreatDoor

namespace Go.Proofs.YtalojcpgkgeofabGreatDoor
open Go.RowKit
set_option linter.unusedVariables false

/-! Tokens in memory: three cells each. -/
def Tok7.val (t : Tok7) : Value := .agg #[.int .u8 t.lit, .int .i64 t.len, .int .i64 t.dist]
structure TkAt (w : World) (g o : Nat) (t : Tok7) : Prop where
  c0 : w.cell? ⟨g, o, none⟩ = some (.int .u8 t.lit)
  c1 : w.cell? ⟨g, o + 1, none⟩ = some (.int .i64 t.len)
  c2 : w.cell? ⟨g, o + 2, none⟩ = some (.int .i64 t.dist)
theorem TkAt.of_block {w w' : World} {g o : Nat} {x : Tok7} (h : TkAt w g o x) (hb : w'.heap[g]? = w.heap[g]?) : TkAt w' g o x :=
  ⟨(World.cell?_of_block (a := ⟨g, o, none⟩) hb).trans h.c0, (World.cell?_of_block (a := ⟨g, o + 1, none⟩) hb).trans h.c1, (World.cell?_of_block (a := ⟨g, o + 2, none⟩) hb).trans h.c2⟩
theorem TkAt.lt {w : World} {g o : Nat} {x : Tok7} (h : TkAt w g o x) : g < w.heap.size := World.block_lt_of_cell? w _ h.c0
abbrev tk0 : Tok7 := ⟨0, 0, 0⟩
def Tok7.Fit (t : Tok7) : Prop := (0 ≤ t.lit ∧ t.lit ≤ 255) ∧ (-9223372036854775808 ≤ t.len ∧ t.len ≤ 9223372036854775807) ∧ (-9223372036854775808 ≤ t.dist ∧ t.dist ≤ 9223372036854775807)
structure SegT (w : World) (a : Option Addr) (l : List Tok7) : Prop where
  at_ : ∀ i, i < l.length → ∃ b off, a = some ⟨b, off, none⟩ ∧ TkAt w b (off + i * 3) (l.getD i tk0)
  fit : ∀ t ∈ l, t.Fit
theorem SegT.nil (w : World) (a : Option Addr) : SegT w a [] := ⟨fun i h => by simp at h, fun t h => by simp at h⟩
theorem SegT.kp {w w' : World} {S : Nat → Prop} {a : Option Addr} {l : List Tok7} (h : SegT w a l) (hb : Kp S w w') (hn : ∀ b off, a = some ⟨b, off, none⟩ → 0 < l.length → ¬ S b) : SegT w' a l := by
  refine ⟨fun i hi => ?_, h.fit⟩
  obtain ⟨b, off, ha, ht⟩ := h.at_ i hi
  exact ⟨b, off, ha, ht.of_block (hb.block b ht.lt (hn b off ha (by omega)))⟩
theorem SegT.old {w w' : World} {a : Option Addr} {l : List Tok7} (h : SegT w a l) (hb : Below w.heap.size w w') : SegT w' a l := h.kp (S := fun _ => False) (Kp.of_below hb) (fun _ _ _ _ e => e)
theorem SegT.lt {w : World} {a : Option Addr} {l : List Tok7} (h : SegT w a l) : ∀ b off, a = some ⟨b, off, none⟩ → 0 < l.length → b < w.heap.size := by
  intro b off e hl
  obtain ⟨b', off', ha, ht⟩ := h.at_ 0 hl
  rw [e] at ha
  cases ha
  exact ht.lt
theorem SegT.take {w : World} {a : Option Addr} {l : List Tok7} (h : SegT w a l) (n : Nat) : SegT w a (l.take n) := by
  refine ⟨fun i hi => ?_, fun t ht => h.fit t (List.mem_of_mem_take ht)⟩
  rw [List.length_take] at hi
  obtain ⟨b, off, ha, ht⟩ := h.at_ i (by omega)
  refine ⟨b, off, ha, ?_⟩
  have : (l.take n).getD i tk0 = l.getD i tk0 := by simp [List.getD, show i < n by omega]
  rw [this]
  exact ht
theorem getD_memT {l : List Tok7} {i : Nat} (h : i < l.length) : l.getD i tk0 ∈ l := by simp [List.getD, h]
theorem dropT {l : List Tok7} {i : Nat} (h : i < l.length) : l.drop i = l.getD i tk0 :: l.drop (i + 1) := by
  rw [List.drop_eq_getElem_cons h]
  simp [List.getD, h]
theorem takeT7 {l : List Tok7} {i : Nat} (h : i < l.length) : l.take (i + 1) = l.take i ++ [l.getD i tk0] := by
  rw [List.take_succ_eq_append_getElem h]; simp [List.getD, h]
theorem below_box {w : World} (cs : Array Value) (t : TypeId) : Below w.heap.size w (w.alloc (.cells cs t)) := (Below.refl _ _).alloc (Nat.le_refl _) _

/-! The document's May, Width, Check, Size. -/
end Go.Proofs.YtalojcpgkgeofabGreatDoor
