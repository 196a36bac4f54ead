
import Derived.Test.YtoeabfcnfofbiaaDoorCdMath
namespace Go.Proofs.YtoeabfcnfofbiaaDoor
open Go.RowKit
set_option linter.unusedVariables false

/-- The first bits as a code: the first the highest. -/
def vB (H : List Bool) (l : Nat) : Nat := num (H.take l).reverse
theorem vB_zero (H : List Bool) : vB H 0 = 0 := by simp [vB, num]
theorem take_succ_b {H : List Bool} {l : Nat} (h : l < H.length) : H.take (l + 1) = H.take l ++ [H.getD l false] := by
  rw [List.take_add_one, List.getElem?_eq_getElem h]
  simp [List.getD, h]
theorem vB_succ {H : List Bool} {l : Nat} (h : l < H.length) : vB H (l + 1) = 2 * vB H l + (H.getD l false).toNat := by
  unfold vB
  rw [take_succ_b h, List.reverse_append, List.reverse_cons, List.reverse_nil, List.nil_append, List.singleton_append]
  simp only [num]
  omega
theorem vB_lt (H : List Bool) (l : Nat) : vB H l < 2 ^ l := by
  unfold vB
  have h1 := num_lt (H.take l).reverse
  have h2 : 2 ^ (H.take l).reverse.length ≤ 2 ^ l := Nat.pow_le_pow_right (by decide) (by simp; omega)
  omega
/-- The bits begin with this symbol's code. -/
def Beg (zs : List Int) (H : List Bool) (s : Nat) : Prop := s < zs.length ∧ zs.getD s 0 ≠ 0 ∧ ln zs s ≤ H.length ∧ vB H (ln zs s) = cd zs s
/-- The bits are the beginning of some code, and not the whole of it. -/
def May (zs : List Int) (H : List Bool) : Prop := ∃ s, s < zs.length ∧ zs.getD s 0 ≠ 0 ∧ H.length < ln zs s ∧ cd zs s / 2 ^ (ln zs s - H.length) = vB H H.length
theorem cd_top {zs : List Int} (h : LOk zs) {s : Nat} (hs : s < zs.length) (h0 : zs.getD s 0 ≠ 0) : cF zs (ln zs s) ≤ cd zs s ∧ cd zs s < cF zs (ln zs s) + cC zs (ln zs s) := by
  have := rk_lt_c h hs h0
  unfold cd
  rw [if_neg h0]
  omega
/-- A prefix of a prefix. -/
theorem vB_div (H : List Bool) {a b : Nat} (h : a ≤ b) (hb : b ≤ H.length) : vB H b / 2 ^ (b - a) = vB H a := by
  obtain ⟨d, rfl⟩ : ∃ d, b = a + d := ⟨b - a, by omega⟩
  clear h
  induction d with
  | zero => simp
  | succ d ih =>
    have h1 := ih (by omega)
    have h2 := vB_succ (H := H) (l := a + d) (by omega)
    have h3 : (H.getD (a + d) false).toNat < 2 := Bool.toNat_lt _
    rw [show a + (d + 1) = a + d + 1 by omega, h2, show a + d + 1 - a = d + 1 by omega, Nat.pow_succ, Nat.mul_comm (2 ^ d) 2, ← Nat.div_div_eq_div_mul]
    rw [show (2 * vB H (a + d) + (H.getD (a + d) false).toNat) / 2 = vB H (a + d) by omega]
    rw [show a + d - a = d by omega] at h1
    exact h1
theorem beg_one {zs : List Int} {H : List Bool} (h : LOk zs) {s t : Nat} (hs : Beg zs H s) (ht : Beg zs H t) : s = t := by
  obtain ⟨a1, a2, a3, a4⟩ := hs
  obtain ⟨b1, b2, b3, b4⟩ := ht
  rcases Nat.le_total (ln zs s) (ln zs t) with c | c
  · exact cd_apart h a1 b1 a2 c (by rw [← b4, vB_div H c b3, a4])
  · exact (cd_apart h b1 a1 b2 c (by rw [← a4, vB_div H c a3, b4])).symm
/-- Passed by up to and with length l. -/
def Past (zs : List Int) (H : List Bool) (l : Nat) : Prop := ∀ j, j ≤ l → cF zs j + cC zs j ≤ vB H j
theorem past_none {zs : List Int} {H : List Bool} {l : Nat} (h : LOk zs) (hp : Past zs H l) {s : Nat} (hb : Beg zs H s) : l < ln zs s := by
  rcases Nat.lt_or_ge l (ln zs s) with c | c
  · exact c
  · exfalso
    obtain ⟨a1, a2, a3, a4⟩ := hb
    have := hp (ln zs s) c
    have := (cd_top h a1 a2).2
    omega
theorem used_le {zs : List Int} (h : LOk zs) {s l : Nat} (hs : s < zs.length) (h0 : zs.getD s 0 ≠ 0) (ht : cS zs (l + 1) = tot zs) : ln zs s ≤ l := by
  rcases Nat.lt_or_ge l (ln zs s) with c | c
  · exfalso
    have h1 := cS_mono zs (a := l + 1) (b := ln zs s) c
    have h2 : cS zs (ln zs s + 1) ≤ cS zs 16 := cS_mono zs (by have := (h.ln s).2; omega)
    rw [cS_succ] at h2
    have h3 := rk_lt_c h hs h0
    unfold tot at ht
    omega
  · exact c
/-- All codes have been passed by: there is none. -/
theorem end_none {zs : List Int} {H : List Bool} {l : Nat} (h : LOk zs) (hl : l ≤ H.length) (hp : Past zs H l) (ht : cS zs (l + 1) = tot zs) : (∀ s, ¬ Beg zs H s) ∧ ¬ May zs H := by
  refine ⟨fun s hb => ?_, fun ⟨s, h1, h2, h3, _⟩ => ?_⟩
  · have h1 := past_none h hp hb
    have h2 := used_le h hb.1 hb.2.1 ht
    omega
  · have := used_le h h1 h2 ht
    omega
/-- All bits have been looked at, and codes are left: one begins so. -/
theorem end_may {zs : List Int} {H : List Bool} (h : LOk zs) (hw : spc zs = 32768 ∨ tot zs = 0 ∨ (tot zs = 1 ∧ cC zs 1 = 1)) (hl : H.length ≤ 15) (hp : Past zs H H.length) (ht : cS zs (H.length + 1) ≠ tot zs) : (∀ s, ¬ Beg zs H s) ∧ May zs H := by
  refine ⟨fun s hb => ?_, ?_⟩
  · have := past_none h hp hb
    have := hb.2.2.1
    omega
  · have hn15 : H.length < 15 := by
      rcases Nat.lt_or_ge H.length 15 with c | c
      · exact c
      · exfalso
        apply ht
        rw [show H.length = 15 by omega]
        rfl
    rcases hw with hw | hw | ⟨hw, h1⟩
    · have hv := vB_lt H H.length
      have e15 : (2 : Nat) ^ H.length * 2 ^ (15 - H.length) = 32768 := by
        rw [← Nat.pow_add, show H.length + (15 - H.length) = 15 by omega]
      have hlt : vB H H.length * 2 ^ (15 - H.length) < spc zs := by
        rw [hw, ← e15]
        exact Nat.mul_lt_mul_of_pos_right hv (Nat.two_pow_pos _)
      obtain ⟨s, hs, s0, hlo, hhi⟩ := cover h hlt
      have hgt : H.length < ln zs s := by
        rcases Nat.lt_or_ge H.length (ln zs s) with c | c
        · exact c
        · exfalso
          have h1 := hi_le h hs s0
          have h2 := cP_mono zs (a := ln zs s + 1) (b := H.length + 1) (by omega)
          have h3 : cP zs (H.length + 1) = (cF zs H.length + cC zs H.length) * 2 ^ (15 - H.length) := by
            rw [cP_succ, Nat.add_mul, cF_cP zs _ hl]
          have h4 := Nat.mul_le_mul_right (2 ^ (15 - H.length)) (hp H.length (Nat.le_refl _))
          omega
      refine ⟨s, hs, s0, hgt, ?_⟩
      have hsl := (h.ln s).2
      have e2 : vB H H.length * 2 ^ (15 - H.length) = vB H H.length * 2 ^ (ln zs s - H.length) * 2 ^ (15 - ln zs s) := by
        rw [Nat.mul_assoc, ← Nat.pow_add, show ln zs s - H.length + (15 - ln zs s) = 15 - H.length by omega]
      rw [e2] at hlo hhi
      have k1 := Nat.le_of_mul_le_mul_right hlo (Nat.two_pow_pos _)
      have k2 := Nat.lt_of_mul_lt_mul_right hhi
      have k3 : cd zs s = vB H H.length * 2 ^ (ln zs s - H.length) := by omega
      rw [k3, Nat.mul_div_cancel _ (Nat.two_pow_pos _)]
    · exfalso
      apply ht
      have h1 : cS zs (H.length + 1) ≤ cS zs 16 := cS_mono zs (by omega)
      unfold tot at hw ⊢
      omega
    · have hn0 : H.length = 0 := by
        rcases Nat.eq_zero_or_pos H.length with c | c
        · exact c
        · exfalso
          apply ht
          have h2 : cS zs 2 ≤ cS zs (H.length + 1) := cS_mono zs (by omega)
          have h3 : cS zs (H.length + 1) ≤ cS zs 16 := cS_mono zs (by omega)
          have h4 : cS zs 2 = cC zs 1 := by rw [cS_succ, cS_succ, cC_zero]; simp [cS]
          unfold tot at hw ⊢
          omega
      rw [cC_pos zs (by decide)] at h1
      obtain ⟨s, hs, e, er⟩ := rk_has zs ((1 : Nat) : Int) 0 (by omega)
      have hln : ln zs s = 1 := by unfold ln; rw [e]; rfl
      have s0 : zs.getD s 0 ≠ 0 := by rw [e]; decide
      refine ⟨s, hs, s0, by omega, ?_⟩
      have hcd : cd zs s = 0 := by
        unfold cd
        rw [if_neg s0, hln, er, cF_succ, cC_zero]
        rfl
      rw [hcd, hn0, vB_zero]
      simp
/-- What looking a code up tells. -/
def FindQ (zs : List Int) (H : List Bool) (sy le er : Int) : Prop :=
  (∃ s, Beg zs H s ∧ sy = (s : Int) ∧ le = (ln zs s : Int) ∧ er = 0) ∨ ((∀ s, ¬ Beg zs H s) ∧ May zs H ∧ sy = 0 ∧ le = 0 ∧ er = 0) ∨ ((∀ s, ¬ Beg zs H s) ∧ ¬ May zs H ∧ sy = 0 ∧ le = 0 ∧ er = 54)
end Go.Proofs.YtoeabfcnfofbiaaDoor
