
import Derived.Test.YtaipfcfmhdigfaaLzT1
namespace Go.Proofs.Ytaipfcfmhdigfaa
set_option linter.unusedVariables false

/-! From the matches of a place to the cheapest first token. -/
def hit7 : List (Nat × Nat) → Nat → Nat
  | [], _ => 0
  | x :: r, l => if l ≤ x.1 then x.2 else hit7 r l
theorem rcg7_hit {D : List Int} {p W l : Nat} : ∀ (f d m : Nat), m < l → hit7 (rcg7 D p W f d m) l = nrg7 D p l W f d
  | 0, d, m, h => rfl
  | f + 1, d, m, h => by
    rw [rcg7, nrg7]
    by_cases hc : d ≤ p ∧ d ≤ W
    · rw [if_pos hc, if_pos (show d ≤ W ∧ d ≤ p from ⟨hc.2, hc.1⟩)]
      by_cases hm : m < al7 D (p - d) p
      · rw [if_pos hm, hit7]
        by_cases hl : l ≤ al7 D (p - d) p
        · rw [if_pos hl, if_pos hl]
        · rw [if_neg hl, if_neg hl, rcg7_hit f (d + 1) _ (by omega)]
      · rw [if_neg hm, if_neg (show ¬ l ≤ al7 D (p - d) p by omega), rcg7_hit f (d + 1) m h]
    · rw [if_neg hc, if_neg (by omega)]
      rfl
theorem rec7_hit {D : List Int} {p W l : Nat} (h : 3 ≤ l) : hit7 (rec7 D p W) l = nst7 D p l W := rcg7_hit p 1 2 (by omega)
structure Rc7 (D : List Int) (p W m : Nat) (R : List (Nat × Nat)) : Prop where
  inc : R.Pairwise (fun x y => x.1 < y.1)
  bd : ∀ x ∈ R, m < x.1 ∧ x.1 ≤ 258 ∧ 1 ≤ x.2 ∧ x.2 ≤ W ∧ x.2 ≤ p ∧ x.1 ≤ al7 D (p - x.2) p
theorem rcg7_rc {D : List Int} {p W : Nat} : ∀ (f d m : Nat), 1 ≤ d → Rc7 D p W m (rcg7 D p W f d m)
  | 0, d, m, _ => ⟨List.Pairwise.nil, fun x h => by simp [rcg7] at h⟩
  | f + 1, d, m, hd => by
    rw [rcg7]
    split
    · rename_i hc
      split
      · rename_i hm
        have h := rcg7_rc (D := D) (p := p) (W := W) f (d + 1) (al7 D (p - d) p) (by omega)
        refine ⟨List.Pairwise.cons (fun y hy => (h.bd y hy).1) h.inc, fun x hx => ?_⟩
        rcases List.mem_cons.1 hx with rfl | hx
        · exact ⟨hm, al7_le _ _ _, hd, hc.2, hc.1, Nat.le_refl _⟩
        · have := h.bd x hx
          exact ⟨by omega, this.2⟩
      · exact rcg7_rc f (d + 1) m (by omega)
    · exact ⟨List.Pairwise.nil, fun x h => by simp at h⟩
theorem rec7_rc (D : List Int) (p W : Nat) : Rc7 D p W 2 (rec7 D p W) := rcg7_rc p 1 2 (Nat.le_refl _)
theorem rcg7_len {D : List Int} {p W : Nat} : ∀ (f d m : Nat), m ≤ 258 → (rcg7 D p W f d m).length ≤ 258 - m
  | 0, d, m, _ => by simp [rcg7]
  | f + 1, d, m, hm => by
    rw [rcg7]
    split
    · split
      · rename_i h
        have h1 := al7_le D (p - d) p
        have := rcg7_len (D := D) (p := p) (W := W) f (d + 1) (al7 D (p - d) p) h1
        simp only [List.length_cons]
        omega
      · exact rcg7_len f (d + 1) m hm
    · simp
theorem rec7_len (D : List Int) (p W : Nat) : (rec7 D p W).length ≤ 256 := rcg7_len p 1 2 (by omega)
/-- The length ahead of entry i. -/
def nl7 (R : List (Nat × Nat)) (i : Nat) : Nat := if i = 0 then 2 else (R.getD (i - 1) (0, 0)).1
theorem hit7_far {R : List (Nat × Nat)} {l : Nat} (h : ∀ x ∈ R, x.1 < l) : hit7 R l = 0 := by
  induction R with
  | nil => rfl
  | cons x r ih =>
    rw [hit7, if_neg (by have := h x (List.mem_cons_self ..); omega)]
    exact ih (fun y hy => h y (List.mem_cons_of_mem _ hy))
theorem hit7_at {R : List (Nat × Nat)} (hi : R.Pairwise (fun x y => x.1 < y.1)) : ∀ {i l : Nat}, i < R.length → (∀ j, j < i → (R.getD j (0, 0)).1 < l) → l ≤ (R.getD i (0, 0)).1 → hit7 R l = (R.getD i (0, 0)).2 := by
  induction R with
  | nil => intro i l h; simp at h
  | cons x r ih =>
    intro i l h1 h2 h3
    cases i with
    | zero =>
      rw [hit7, if_pos (by simpa using h3)]
      rfl
    | succ i =>
      have h0 := h2 0 (by omega)
      rw [hit7, if_neg (by simp at h0; omega)]
      have := ih (List.pairwise_cons.1 hi).2 (i := i) (l := l) (by simpa using h1) (fun j hj => by simpa using h2 (j + 1) (by omega)) (by simpa using h3)
      simpa using this
theorem rc7_mem {R : List (Nat × Nat)} {i : Nat} (h : i < R.length) : R.getD i (0, 0) ∈ R := by simp [List.getD, h]
theorem rc7_inc {R : List (Nat × Nat)} (hi : R.Pairwise (fun x y => x.1 < y.1)) {i j : Nat} (h1 : i < j) (h2 : j < R.length) : (R.getD i (0, 0)).1 < (R.getD j (0, 0)).1 := by
  have := List.pairwise_iff_getElem.1 hi i j (by omega) h2 h1
  simpa [List.getD, show i < R.length by omega, h2] using this
/-- What stands at entry i. -/
theorem rec7_at {D : List Int} {p W i l : Nat} (h : i < (rec7 D p W).length) (h1 : nl7 (rec7 D p W) i < l) (h2 : l ≤ ((rec7 D p W).getD i (0, 0)).1) : 3 ≤ l ∧ nst7 D p l W = ((rec7 D p W).getD i (0, 0)).2 := by
  have hrc := rec7_rc D p W
  have h3 : 3 ≤ l := by
    unfold nl7 at h1
    split at h1
    · omega
    · have := (hrc.bd _ (rc7_mem (show i - 1 < (rec7 D p W).length by omega))).1
      omega
  refine ⟨h3, ?_⟩
  rw [← rec7_hit h3]
  refine hit7_at hrc.inc h (fun j hj => ?_) h2
  unfold nl7 at h1
  rw [if_neg (by omega)] at h1
  by_cases e : j = i - 1
  · rw [e]; exact h1
  · have := rc7_inc hrc.inc (show j < i - 1 by omega) (by omega)
    omega
theorem rec7_beyond {D : List Int} {p W l : Nat} (h3 : 3 ≤ l) (h : nl7 (rec7 D p W) (rec7 D p W).length < l) : nst7 D p l W = 0 := by
  have hrc := rec7_rc D p W
  rw [← rec7_hit h3]
  refine hit7_far (fun x hx => ?_)
  obtain ⟨j, hj, rfl⟩ := List.mem_iff_getElem.1 hx
  unfold nl7 at h
  rw [if_neg (by omega)] at h
  have hlast : (rec7 D p W).getD j (0, 0) = (rec7 D p W)[j] := by simp [List.getD, hj]
  by_cases e : j = (rec7 D p W).length - 1
  · rw [← hlast, e]; exact h
  · have := rc7_inc hrc.inc (show j < (rec7 D p W).length - 1 by omega) (by omega)
    rw [hlast] at this
    omega
theorem chg7_skip {D : List Int} {win : Nat} {c : Pr7} {p : Nat} {T : List (Int × Tok7)} {a : Int × Tok7} : ∀ (k j : Nat), (∀ l, j + 2 < l → l ≤ j + k + 2 → nst7 D p l win = 0) → chg7 D win c p T (j + k) a = chg7 D win c p T j a
  | 0, j, _ => rfl
  | k + 1, j, h => by
    rw [show j + (k + 1) = j + k + 1 by omega, chg7]
    have : try7 D win c p T (j + k + 3) a = a := by
      unfold try7
      rw [if_neg (fun e => e.2.1 (h (j + k + 3) (by omega) (by omega)))]
    rw [this]
    exact chg7_skip k j (fun l h1 h2 => h l h1 (by omega))
theorem nl7_bd (D : List Int) (p W i : Nat) (h : i ≤ (rec7 D p W).length) : 2 ≤ nl7 (rec7 D p W) i ∧ nl7 (rec7 D p W) i ≤ 258 := by
  unfold nl7
  split
  · omega
  · have := (rec7_rc D p W).bd _ (rc7_mem (show i - 1 < (rec7 D p W).length by omega))
    omega
theorem chg7_start {D : List Int} {win : Nat} {c : Pr7} {p : Nat} {T : List (Int × Tok7)} (a : Int × Tok7) : chg7 D win c p T 256 a = chg7 D win c p T (nl7 (rec7 D p win) (rec7 D p win).length - 2) a := by
  have hb := nl7_bd D p win _ (Nat.le_refl _)
  obtain ⟨k, hk⟩ : ∃ k, nl7 (rec7 D p win) (rec7 D p win).length - 2 + k = 256 := ⟨256 - (nl7 (rec7 D p win) (rec7 D p win).length - 2), by omega⟩
  have := chg7_skip (D := D) (win := win) (c := c) (p := p) (T := T) (a := a) k (nl7 (rec7 D p win) (rec7 D p win).length - 2) (fun l h1 h2 => rec7_beyond (by omega) (by omega))
  rw [hk] at this
  exact this
/-- One length. -/
theorem chg7_one {D : List Int} {win : Nat} {c : Pr7} {p l d : Nat} (hp : p < D.length) (h3 : 3 ≤ l) (hl : p + l ≤ D.length) (hd : nst7 D p l win = d) (hd1 : 1 ≤ d) (a : Int × Tok7) :
    chg7 D win c p (tab7 D win c (D.length - (p + 1))) (l - 2) a = chg7 D win c p (tab7 D win c (D.length - (p + 1))) (l - 1 - 2) (if mc7 c d + (lea7 D win c (p + l)).1 < a.1 then (mc7 c d + (lea7 D win c (p + l)).1, ⟨0, (l : Int), (d : Int)⟩) else a) := by
  rw [show l - 2 = l - 3 + 1 by omega, chg7, show l - 3 + 3 = l by omega, show l - 1 - 2 = l - 3 by omega]
  congr 1
  unfold try7
  rw [tab7_next D win c p l (by omega) hl, hd]
  by_cases h : mc7 c d + (lea7 D win c (p + l)).1 < a.1
  · rw [if_pos ⟨hl, by omega, h⟩, if_pos h]
  · rw [if_neg (fun e => h e.2.2), if_neg h]
end Go.Proofs.Ytaipfcfmhdigfaa
