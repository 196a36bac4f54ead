import Derived.Test.YtmfpdchfofffeaaGreatDoorLzM1
namespace Go.Proofs.YtmfpdchfofffeaaGreatDoor
set_option linter.unusedVariables false
def alg7 (D : List Int) (q p : Nat) : Nat → Nat → Nat
  | 0, n => n
  | f + 1, n => if p + n < D.length ∧ D.getD (q + n) 0 = D.getD (p + n) 0 then alg7 D q p f (n + 1) else n
def al7 (D : List Int) (q p : Nat) : Nat := alg7 D q p 258 0
theorem alg7_same (D : List Int) (q p : Nat) : ∀ f n i, n ≤ i → i < alg7 D q p f n → p + i < D.length ∧ D.getD (q + i) 0 = D.getD (p + i) 0
  | 0, n, i, h1, h2 => by rw [alg7] at h2; omega
  | f + 1, n, i, h1, h2 => by
    rw [alg7] at h2
    split at h2
    · rename_i h
      by_cases e : i = n
      · subst e; exact h
      · exact alg7_same D q p f (n + 1) i (by omega) h2
    · omega
theorem al7_same {D : List Int} {q p i : Nat} (h : i < al7 D q p) : p + i < D.length ∧ D.getD (q + i) 0 = D.getD (p + i) 0 := alg7_same D q p 258 0 i (Nat.zero_le _) h
/-- A match that is there. -/
structure Mt7 (D : List Int) (p win n d : Nat) : Prop where
  n3 : 3 ≤ n
  n258 : n ≤ 258
  d1 : 1 ≤ d
  dw : d ≤ win
  dp : d ≤ p
  al : n ≤ al7 D (p - d) p
/-- These tokens are the bytes of D from p on, over this window. -/
def Tz7 (D : List Int) (win : Nat) : List Tok7 → Nat → Prop
  | [], p => p = D.length
  | t :: r, p => p < D.length ∧ ((t = ⟨D.getD p 0, 0, 0⟩ ∧ Tz7 D win r (p + 1)) ∨ ∃ n d : Nat, t = ⟨0, n, d⟩ ∧ Mt7 D p win n d ∧ Tz7 D win r (p + n))
theorem Mt7.fits {D : List Int} {p win n d : Nat} (h : Mt7 D p win n d) : p + n ≤ D.length := by
  have := (al7_same (D := D) (q := p - d) (p := p) (i := n - 1) (by have := h.al; have := h.n3; omega)).1
  have := h.n3
  omega
theorem getD_take7 (A : List Int) (j i : Nat) (h : i < j) : (A.take j).getD i 0 = A.getD i 0 := by simp [List.getD, h]
theorem take_succ7 (D : List Int) (p : Nat) (h : p < D.length) : D.take (p + 1) = D.take p ++ [D.getD p 0] := by
  rw [List.take_succ_eq_append_getElem h]; simp [List.getD, h]
theorem cp7_mt {D : List Int} {p win n d : Nat} (h : Mt7 D p win n d) : ∀ i, i ≤ n → cp7 (D.take p) d i = D.take (p + i)
  | 0, _ => rfl
  | i + 1, hi => by
    have h1 := h.fits
    have ih := cp7_mt h i (by omega)
    have hs := al7_same (D := D) (q := p - d) (p := p) (i := i) (by have := h.al; omega)
    rw [cp7, ih, show p + (i + 1) = p + i + 1 by omega, take_succ7 D (p + i) (by omega)]
    have hl : (D.take (p + i)).length = p + i := by rw [List.length_take]; omega
    have d1 := h.d1
    have dp := h.dp
    rw [hl, getD_take7 _ _ _ (by omega), ← hs.2, show p - d + i = p + i - d by omega]
theorem Mt7.wid {D : List Int} {p win n d : Nat} (h : Mt7 D p win n d) (hw : win ≤ 32768) : may7 ⟨0, n, d⟩ ∧ wid7 ⟨0, n, d⟩ = n := by
  have h1 := h.n3
  have h2 := h.n258
  have h3 := h.d1
  have h4 := h.dw
  have hm : may7 ⟨0, n, d⟩ := by
    unfold may7
    simp only
    rw [if_neg (by omega)]
    exact ⟨by omega, by omega, by omega, by omega, trivial⟩
  refine ⟨hm, ?_⟩
  unfold wid7
  rw [if_pos hm]
  simp only
  rw [if_neg (by omega)]
  omega
theorem lit7_wid (z : Int) : may7 ⟨z, 0, 0⟩ ∧ wid7 ⟨z, 0, 0⟩ = 1 := by
  have hm : may7 ⟨z, 0, 0⟩ := by unfold may7; simp
  refine ⟨hm, ?_⟩
  unfold wid7
  rw [if_pos hm]
  simp
theorem Tz7.all {D : List Int} {win : Nat} (hw : win ≤ 32768) : ∀ (l : List Tok7) (p : Nat), Tz7 D win l p → ok7 win l p ∧ exp7 (D.take p) l = D ∧ siz7 l = D.length - p ∧ l.length ≤ D.length - p
  | [], p, h => by
    rw [Tz7] at h
    subst h
    exact ⟨trivial, by rw [exp7, List.take_length], by simp [siz7], by simp⟩
  | t :: r, p, ⟨hp, h⟩ => by
    rcases h with ⟨rfl, h⟩ | ⟨n, d, rfl, hm, h⟩
    · obtain ⟨a1, a2, a3, a4⟩ := Tz7.all hw r (p + 1) h
      have hl := lit7_wid (D.getD p 0)
      refine ⟨⟨hl.1, by unfold far7; simp, by rw [hl.2]; exact a1⟩, ?_, by rw [siz7, hl.2, a3]; omega, by rw [List.length_cons]; omega⟩
      rw [exp7]
      unfold tok7
      simp only [if_true]
      rw [← take_succ7 D p hp]
      exact a2
    · obtain ⟨a1, a2, a3, a4⟩ := Tz7.all hw r (p + n) h
      have hl := hm.wid hw
      have h1 := hm.n3
      have h2 := hm.fits
      have h3 := hm.dw
      have h4 := hm.dp
      refine ⟨⟨hl.1, by unfold far7; simp only; omega, by rw [hl.2]; exact a1⟩, ?_, by rw [siz7, hl.2, a3]; omega, by rw [List.length_cons]; omega⟩
      rw [exp7]
      unfold tok7
      simp only
      rw [if_neg (by omega), Int.toNat_natCast, Int.toNat_natCast, cp7_mt hm n (Nat.le_refl _)]
      exact a2
end Go.Proofs.YtmfpdchfofffeaaGreatDoor
