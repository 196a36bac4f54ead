import Derived.Test.YtkjccbihdinlkaaPab
import Derived.Test.YtkjccbihdinlkaaPan
import Derived.Test.YtkjccbihdinlkaaPao
namespace Go.Proofs.Ytkjccbihdinlkaa
open Go.RowKit
set_option linter.unusedVariables false

/-- The first bits as a code: the first the highest. -/
def vB (H : List Bool) (l : Nat) : Nat := num (H.take l).reverse
theorem vB_zero (H : List Bool) : vB H 0 = 0 := by simp [vB, num]
theorem take_succ_b {H : List Bool} {l : Nat} (h : l < H.length) : H.take (l + 1) = H.take l ++ [H.getD l false] := by
  rw [List.take_add_one, List.getElem?_eq_getElem h]
  simp [List.getD, h]
theorem vB_succ {H : List Bool} {l : Nat} (h : l < H.length) : vB H (l + 1) = 2 * vB H l + (H.getD l false).toNat := by
  unfold vB
  rw [take_succ_b h, List.reverse_append, List.reverse_cons, List.reverse_nil, List.nil_append, List.singleton_append]
  simp only [num]
  omega
theorem vB_lt (H : List Bool) (l : Nat) : vB H l < 2 ^ l := by
  unfold vB
  have h1 := num_lt (H.take l).reverse
  have h2 : 2 ^ (H.take l).reverse.length ≤ 2 ^ l := Nat.pow_le_pow_right (by decide) (by simp; omega)
  omega
/-- The bits begin with this symbol's code. -/
def Beg (zs : List Int) (H : List Bool) (s : Nat) : Prop := s < zs.length ∧ zs.getD s 0 ≠ 0 ∧ ln zs s ≤ H.length ∧ vB H (ln zs s) = cd zs s
/-- The bits are the beginning of some code, and not the whole of it. -/
def May (zs : List Int) (H : List Bool) : Prop := ∃ s, s < zs.length ∧ zs.getD s 0 ≠ 0 ∧ H.length < ln zs s ∧ cd zs s / 2 ^ (ln zs s - H.length) = vB H H.length
theorem cd_top {zs : List Int} (h : LOk zs) {s : Nat} (hs : s < zs.length) (h0 : zs.getD s 0 ≠ 0) : cF zs (ln zs s) ≤ cd zs s ∧ cd zs s < cF zs (ln zs s) + cC zs (ln zs s) := by
  have := rk_lt_c h hs h0
  unfold cd
  rw [if_neg h0]
  omega
/-- A prefix of a prefix. -/
theorem vB_div (H : List Bool) {a b : Nat} (h : a ≤ b) (hb : b ≤ H.length) : vB H b / 2 ^ (b - a) = vB H a := by
  obtain ⟨d, rfl⟩ : ∃ d, b = a + d := ⟨b - a, by omega⟩
  clear h
  induction d with
  | zero => simp
  | succ d ih =>
    have h1 := ih (by omega)
    have h2 := vB_succ (H := H) (l := a + d) (by omega)
    have h3 : (H.getD (a + d) false).toNat < 2 := Bool.toNat_lt _
    rw [show a + (d + 1) = a + d + 1 by omega, h2, show a + d + 1 - a = d + 1 by omega, Nat.pow_succ, Nat.mul_comm (2 ^ d) 2, ← Nat.div_div_eq_div_mul]
    rw [show (2 * vB H (a + d) + (H.getD (a + d) false).toNat) / 2 = vB H (a + d) by omega]
    rw [show a + d - a = d by omega] at h1
    exact h1
theorem beg_one {zs : List Int} {H : List Bool} (h : LOk zs) {s t : Nat} (hs : Beg zs H s) (ht : Beg zs H t) : s = t := by
  obtain ⟨a1, a2, a3, a4⟩ := hs
  obtain ⟨b1, b2, b3, b4⟩ := ht
  rcases Nat.le_total (ln zs s) (ln zs t) with c | c
  · exact cd_apart h a1 b1 a2 c (by rw [← b4, vB_div H c b3, a4])
  · exact (cd_apart h b1 a1 b2 c (by rw [← a4, vB_div H c a3, b4])).symm
/-- Passed by up to and with length l. -/
def Past (zs : List Int) (H : List Bool) (l : Nat) : Prop := ∀ j, j ≤ l → cF zs j + cC zs j ≤ vB H j
theorem past_none {zs : List Int} {H : List Bool} {l : Nat} (h : LOk zs) (hp : Past zs H l) {s : Nat} (hb : Beg zs H s) : l < ln zs s := by
  rcases Nat.lt_or_ge l (ln zs s) with c | c
  · exact c
  · exfalso
    obtain ⟨a1, a2, a3, a4⟩ := hb
    have := hp (ln zs s) c
    have := (cd_top h a1 a2).2
    omega
theorem used_le {zs : List Int} (h : LOk zs) {s l : Nat} (hs : s < zs.length) (h0 : zs.getD s 0 ≠ 0) (ht : cS zs (l + 1) = tot zs) : ln zs s ≤ l := by
  rcases Nat.lt_or_ge l (ln zs s) with c | c
  · exfalso
    have h1 := cS_mono zs (a := l + 1) (b := ln zs s) c
    have h2 : cS zs (ln zs s + 1) ≤ cS zs 16 := cS_mono zs (by have := (h.ln s).2; omega)
    rw [cS_succ] at h2
    have h3 := rk_lt_c h hs h0
    unfold tot at ht
    omega
  · exact c
/-- All codes have been passed by: there is none. -/
theorem end_none {zs : List Int} {H : List Bool} {l : Nat} (h : LOk zs) (hl : l ≤ H.length) (hp : Past zs H l) (ht : cS zs (l + 1) = tot zs) : (∀ s, ¬ Beg zs H s) ∧ ¬ May zs H := by
  refine ⟨fun s hb => ?_, fun ⟨s, h1, h2, h3, _⟩ => ?_⟩
  · have h1 := past_none h hp hb
    have h2 := used_le h hb.1 hb.2.1 ht
    omega
  · have := used_le h h1 h2 ht
    omega
/-- All bits have been looked at, and codes are left: one begins so. -/
theorem end_may {zs : List Int} {H : List Bool} (h : LOk zs) (hw : spc zs = 32768 ∨ tot zs = 0 ∨ (tot zs = 1 ∧ cC zs 1 = 1)) (hl : H.length ≤ 15) (hp : Past zs H H.length) (ht : cS zs (H.length + 1) ≠ tot zs) : (∀ s, ¬ Beg zs H s) ∧ May zs H := by
  refine ⟨fun s hb => ?_, ?_⟩
  · have := past_none h hp hb
    have := hb.2.2.1
    omega
  · have hn15 : H.length < 15 := by
      rcases Nat.lt_or_ge H.length 15 with c | c
      · exact c
      · exfalso
        apply ht
        rw [show H.length = 15 by omega]
        rfl
    rcases hw with hw | hw | ⟨hw, h1⟩
    · have hv := vB_lt H H.length
      have e15 : (2 : Nat) ^ H.length * 2 ^ (15 - H.length) = 32768 := by
        rw [← Nat.pow_add, show H.length + (15 - H.length) = 15 by omega]
      have hlt : vB H H.length * 2 ^ (15 - H.length) < spc zs := by
        rw [hw, ← e15]
        exact Nat.mul_lt_mul_of_pos_right hv (Nat.two_pow_pos _)
      obtain ⟨s, hs, s0, hlo, hhi⟩ := cover h hlt
      have hgt : H.length < ln zs s := by
        rcases Nat.lt_or_ge H.length (ln zs s) with c | c
        · exact c
        · exfalso
          have h1 := hi_le h hs s0
          have h2 := cP_mono zs (a := ln zs s + 1) (b := H.length + 1) (by omega)
          have h3 : cP zs (H.length + 1) = (cF zs H.length + cC zs H.length) * 2 ^ (15 - H.length) := by
            rw [cP_succ, Nat.add_mul, cF_cP zs _ hl]
          have h4 := Nat.mul_le_mul_right (2 ^ (15 - H.length)) (hp H.length (Nat.le_refl _))
          omega
      refine ⟨s, hs, s0, hgt, ?_⟩
      have hsl := (h.ln s).2
      have e2 : vB H H.length * 2 ^ (15 - H.length) = vB H H.length * 2 ^ (ln zs s - H.length) * 2 ^ (15 - ln zs s) := by
        rw [Nat.mul_assoc, ← Nat.pow_add, show ln zs s - H.length + (15 - ln zs s) = 15 - H.length by omega]
      rw [e2] at hlo hhi
      have k1 := Nat.le_of_mul_le_mul_right hlo (Nat.two_pow_pos _)
      have k2 := Nat.lt_of_mul_lt_mul_right hhi
      have k3 : cd zs s = vB H H.length * 2 ^ (ln zs s - H.length) := by omega
      rw [k3, Nat.mul_div_cancel _ (Nat.two_pow_pos _)]
    · exfalso
      apply ht
      have h1 : cS zs (H.length + 1) ≤ cS zs 16 := cS_mono zs (by omega)
      unfold tot at hw ⊢
      omega
    · have hn0 : H.length = 0 := by
        rcases Nat.eq_zero_or_pos H.length with c | c
        · exact c
        · exfalso
          apply ht
          have h2 : cS zs 2 ≤ cS zs (H.length + 1) := cS_mono zs (by omega)
          have h3 : cS zs (H.length + 1) ≤ cS zs 16 := cS_mono zs (by omega)
          have h4 : cS zs 2 = cC zs 1 := by rw [cS_succ, cS_succ, cC_zero]; simp [cS]
          unfold tot at hw ⊢
          omega
      rw [cC_pos zs (by decide)] at h1
      obtain ⟨s, hs, e, er⟩ := rk_has zs ((1 : Nat) : Int) 0 (by omega)
      have hln : ln zs s = 1 := by unfold ln; rw [e]; rfl
      have s0 : zs.getD s 0 ≠ 0 := by rw [e]; decide
      refine ⟨s, hs, s0, by omega, ?_⟩
      have hcd : cd zs s = 0 := by
        unfold cd
        rw [if_neg s0, hln, er, cF_succ, cC_zero]
        rfl
      rw [hcd, hn0, vB_zero]
      simp
/-- What looking a code up tells. -/
def FindQ (zs : List Int) (H : List Bool) (sy le er : Int) : Prop :=
  (∃ s, Beg zs H s ∧ sy = (s : Int) ∧ le = (ln zs s : Int) ∧ er = 0) ∨ ((∀ s, ¬ Beg zs H s) ∧ May zs H ∧ sy = 0 ∧ le = 0 ∧ er = 0) ∨ ((∀ s, ¬ Beg zs H s) ∧ ¬ May zs H ∧ sy = 0 ∧ le = 0 ∧ er = 54)
end Go.Proofs.Ytkjccbihdinlkaa

namespace Go.Proofs.Ytkjccbihdinlkaa
open Go.RowKit
set_option linter.unusedVariables false

theorem i64_or_nat (a b : Nat) (ha : a < 4611686018427387904) (hb : b < 4611686018427387904) : bits .or .i64 (a : Int) (b : Int) = ((a ||| b : Nat) : Int) := by
  have hx : a ||| b < 2 ^ 62 := Nat.or_lt_two_pow (by omega) (by omega)
  show IntKind.i64.wrap ((BitVec.ofInt 64 (a : Int) ||| BitVec.ofInt 64 (b : Int)).toNat : Int) = _
  rw [BitVec.toNat_or, ofInt_u64 a (by omega), ofInt_u64 b (by omega)]
  exact IntWalk.i64_in _ (by omega)
theorem or_bit64 {x b : Nat} (h : b < 2) (hx : x ≤ 1000000) : bits .or .i64 ((x : Int) * 2) (b : Int) = ((2 * x + b : Nat) : Int) := by
  rw [show ((x : Int) * 2) = ((2 ^ 1 * x : Nat) : Int) by simp; omega, i64_or_nat _ _ (by omega) (by omega), ← Nat.two_pow_add_eq_or_of_lt (by omega : b < 2 ^ 1)]
theorem bit_at {L : List Bool} {l : Nat} (h : l < L.length) : num L / 2 ^ l % 2 = (L.getD l false).toNat := by
  rw [← num_drop L l (by omega), List.drop_eq_getElem_cons h]
  have hb : (L[l]).toNat < 2 := Bool.toNat_lt _
  simp only [num]
  simp [List.getD, h]
  omega

set_option maxRecDepth 100000 in
set_option maxHeartbeats 1000000 in
theorem find_any (b most : Nat) (zs : List Int) (H : List Bool) (n : Nat) (hn : Hid (n = min H.length 15)) (w : World) (hD : De w b most zs) :
    Calls Try.prog 53 #[.pointer (some ⟨b, 1, none⟩), .int .u64 (num (H.take n) : Int), .int .i64 (n : Int)] w fun e w' => ∃ sy le er, e = .returned (.tuple #[.int .i64 sy, .int .i64 le, .int .i64 er]) ∧ FindQ zs H sy le er ∧ w' = w := by
  obtain ⟨S, hS, hY, hb⟩ := hD.row
  have HL := errS_zero (errC_zero hD.ok).1
  have HLK : Hid (LOk zs) := HL.2
  go_enter Try.func53, Try.ntmps53
  go_wp2_with fail
  go_step3
  go_wp2_with fail
  go_step3
  go_wp2_with fail
  have hn15 : n ≤ 15 := by have := hn.out; omega
  have HNH : Hid (n ≤ H.length ∧ (n < 15 → n = H.length)) := ⟨by have := hn.out; omega, by have := hn.out; omega⟩
  have HW : Hid (spc zs = 32768 ∨ tot zs = 0 ∨ (tot zs = 1 ∧ cC zs 1 = 1)) := by
    have h1 := (errC_zero hD.ok).2
    unfold errR at h1
    by_cases c1 : 32768 < spc zs
    · rw [if_pos c1] at h1; cases h1
    · rw [if_neg c1] at h1
      by_cases c2 : spc zs = 32768 ∨ tot zs = 0 ∨ (tot zs = 1 ∧ cC zs 1 = 1)
      · exact c2
      · rw [if_neg c2] at h1; cases h1
  have hbnd := cC_288 (errC_zero hD.ok).1
  have HTT : Hid (tot zs ≤ 288) := Nat.le_trans (tot_le zs HL.2) HL.1
  have ct := arr_cell hb (i := 1 + 304) (by simp [dl, tbl_len hS])
  rw [dl_get, tbl_tot hS, show 1 + 304 = 305 from rfl] at ct
  have HY : Hid (SymOk zs S zs.length) := hY
  have htt := HTT.out
  clear HL hY
  go_loopw [9, 10, 11, 12, 13, 16] (fun t9 t10 t11 tb tsh tl wr => ∃ l d : Nat, l ≤ 16 ∧ t9 = .int .i64 0 ∧ t10 = .int .i64 0 ∧ t11 = .int .i64 0 ∧ tb = .int .i64 (d : Int) ∧ tsh = .int .i64 (cS zs l : Int) ∧ tl = .int .i64 (l : Int) ∧ wr = w ∧ Hid (l ≤ n ∧ d + cF zs l = vB H l ∧ ∀ j, j < l → cF zs j + cC zs j ≤ vB H j)) (fun _ _ _ _ _ tl _ => 16 - (intOf tl).toNat)
  case atStart => exact ⟨0, 0, by omega, rfl, rfl, rfl, rfl, rfl, rfl, rfl, (⟨by omega, by rw [vB_zero]; rfl, fun j hj => by omega⟩ : _ ∧ _)⟩
  case round =>
    obtain ⟨l, d, hl16, rfl, rfl, rfl, rfl, rfl, rfl, hwr, HQ⟩ := hrel
    subst hwr
    have hln : l ≤ n := HQ.out.1
    have hl15 : l ≤ 15 := by omega
    have hli : (l : Int) < 16 := by omega
    have cc := arr_cell hb (i := 1 + l) (by simp [dl, tbl_len hS]; omega)
    rw [dl_get, tbl_cnt (by omega)] at cc
    have hvl : vB H l < 32768 := Nat.lt_of_lt_of_le (vB_lt H l) (Nat.pow_le_pow_right (n := 2) (j := 15) (by decide) hl15)
    have hdb : d ≤ 32768 := by have := HQ.out.2.1; omega
    have hcb := hbnd l
    have hsb : cS zs l ≤ 288 := Nat.le_trans (cS_mono zs (b := 16) (by omega)) htt
    have HSS : Hid (cS zs (l + 1) = cS zs l + cC zs l) := cS_succ zs l
    have HCF : Hid (cF zs (l + 1) = 2 * (cF zs l + cC zs l)) := cF_succ zs l
    by_cases hdc : d < cC zs l
    · have hl0 : 0 < l := by
        rcases Nat.eq_zero_or_pos l with rfl | h
        · rw [cC_zero] at hdc; omega
        · exact h
      have HRK : Hid (∃ s, s < zs.length ∧ zs.getD s 0 = (l : Int) ∧ rk zs s = d) := rk_has zs (l : Int) d (by rw [← cC_pos zs hl0]; exact hdc)
      obtain ⟨s, hs1, hs2, hs3⟩ := HRK.out
      have HSF : Hid (Beg zs H s ∧ ln zs s = l ∧ S.getD (cS zs l + d) 0 = (s : Int)) := by
        have hln : ln zs s = l := by unfold ln; rw [hs2]; simp
        have s0 : zs.getD s 0 ≠ 0 := by rw [hs2]; omega
        refine ⟨⟨hs1, s0, ?_, ?_⟩, hln, ?_⟩
        · rw [hln]; have := HNH.out.1; omega
        · rw [hln]; unfold cd; rw [if_neg s0, hln, hs3]; have := HQ.out.2.1; omega
        · have := HY.out s hs1 s0
          rw [hln, hs3] at this
          exact this
      have hpb : cS zs l + d < 288 := by
        have h1 : cS zs (l + 1) ≤ cS zs 16 := cS_mono zs (by omega)
        have h2 := HSS.out
        have h3 := HTT.out
        unfold tot at h3
        omega
      have cs := arr_cell hb (i := 1 + (16 + (cS zs l + d))) (by simp [dl, tbl_len hS]; omega)
      rw [dl_get, tbl_sym hS (by omega), HSF.out.2.2, show 1 + (16 + (cS zs l + d)) = 17 + (cS zs l + d) by omega] at cs
      clear HRK hs1 hs2 hs3
      generalize cC zs l = c at *
      generalize cS zs l = f at *
      obtain ⟨p, hp⟩ : ∃ p, p = f + d := ⟨_, rfl⟩
      have r1 : (f : Int) + (d : Int) = (p : Int) := by omega
      have hpi : (p : Int) < 288 := by omega
      rw [← hp] at cs
      have hpb2 : p < 288 := by omega
      clear hp hpb
      have hdci : (d : Int) < (c : Int) := by omega
      go_wp2_with fail
      try rw [Exit.noGoto_ret]
      go_ret3
      exact ⟨s, l, 0, rfl, .inl ⟨s, HSF.out.1, rfl, by rw [HSF.out.2.1], rfl⟩, rfl⟩
    · have HPA : Hid (Past zs H l) := fun j hj => by
        rcases Nat.lt_or_ge j l with c | c
        · exact HQ.out.2.2 j c
        · obtain rfl : j = l := by omega
          have := HQ.out.2.1
          omega
      have hln2 := HNH.out.1
      by_cases hft : cS zs l + cC zs l = tot zs
      · have HFT : Hid _ := end_none HLK.out (show l ≤ H.length by omega) HPA.out (HSS.out.trans hft)
        have hfti : (cS zs l : Int) + (cC zs l : Int) = (tot zs : Int) := by omega
        clear hft
        generalize cC zs l = c at *
        generalize cS zs l = f at *
        generalize tot zs = T at *
        have hdci : ¬ (d : Int) < (c : Int) := by omega
        go_wp2_with fail
        try rw [Exit.noGoto_ret]
        go_ret3
        exact ⟨0, 0, 54, rfl, .inr (.inr ⟨HFT.out.1, HFT.out.2, rfl, rfl, rfl⟩), rfl⟩
      · have hfti : ¬ (cS zs l : Int) + (cC zs l : Int) = (tot zs : Int) := by omega
        by_cases hlen : l = n
        · have HFM : Hid ((∀ s, ¬ Beg zs H s) ∧ May zs H) := by
            have hl14 : l < 15 := by
              rcases Nat.lt_or_ge l 15 with c | c
              · exact c
              · exfalso
                apply hft
                rw [← HSS.out, show l = 15 by omega]
                rfl
            have e : H.length = l := by have := HNH.out.2 (by omega); omega
            have h1 := HPA.out
            rw [← e] at h1
            exact end_may HLK.out HW.out (by omega) h1 (by rw [e, HSS.out]; exact hft)
          subst hlen
          clear hft
          generalize cC zs l = c at *
          generalize cS zs l = f at *
          generalize tot zs = T at *
          have hdci : ¬ (d : Int) < (c : Int) := by omega
          go_wp2_with fail
          try rw [Exit.noGoto_ret]
          go_ret3
          exact ⟨0, 0, 0, rfl, .inr (.inl ⟨HFM.out.1, HFM.out.2, rfl, rfl, rfl⟩), rfl⟩
        · have hlnlt : l < n := by omega
          have hlni : ¬ (l : Int) = (n : Int) := by omega
          have HBT := bit_at (L := H.take n) (l := l) (by simp; omega)
          have eg : (H.take n).getD l false = H.getD l false := by simp [List.getD, hlnlt]
          rw [eg] at HBT
          have HVS : Hid (vB H (l + 1) = 2 * vB H l + (H.getD l false).toNat) := vB_succ (by omega)
          have hbt2 : (H.getD l false).toNat < 2 := Bool.toNat_lt _
          generalize (H.getD l false).toNat = bt at *
          have hrow : num (H.take n) < 32768 := Nat.lt_of_lt_of_le (num_lt _) (Nat.pow_le_pow_right (n := 2) (j := 15) (by decide) (by simp; omega))
          have hsh := shr_nat (num (H.take n)) l
          generalize num (H.take n) = row at *
          have hrd : row / 2 ^ l ≤ row := Nat.div_le_self _ _
          obtain ⟨rd, hrde⟩ : ∃ rd, rd = row / 2 ^ l := ⟨_, rfl⟩
          rw [← hrde] at hsh HBT hrd
          have hand : bits .and .u64 (rd : Int) 1 = (bt : Int) := by rw [and_one' rd (by omega), HBT]
          obtain ⟨e, he⟩ : ∃ e, e = d - cC zs l := ⟨_, rfl⟩
          have HE : Hid (e + cC zs l = d) := by show _ = _; omega
          have re : (d : Int) - (cC zs l : Int) = (e : Int) := by have := HE.out; omega
          have hor := or_bit64 (x := e) hbt2 (by omega)
          obtain ⟨y, hy⟩ : ∃ y, y = 2 * e + bt := ⟨_, rfl⟩
          rw [← hy] at hor
          have HYY : Hid (y = 2 * e + bt) := hy
          have heb : e ≤ 32768 := by omega
          have hyb : y ≤ 100000 := by omega
          clear hy he hrde HBT eg hft
          have hdci : ¬ (d : Int) < (cC zs l : Int) := by omega
          have HNX : Hid (y + cF zs (l + 1) = vB H (l + 1)) := by
            have h1 := HQ.out.2.1
            have h2 := HCF.out
            have h3 := HVS.out
            have h4 := HE.out
            have h5 := HYY.out
            show _ = _
            omega
          generalize cC zs l = c at *
          have rf : (cS zs l : Int) + (c : Int) = (cS zs (l + 1) : Int) := by have := HSS.out; omega
          have hsb2 : cS zs (l + 1) ≤ 1000 := by have := HSS.out; omega
          obtain ⟨f2, hf2⟩ : ∃ f2, f2 = cS zs (l + 1) := ⟨_, rfl⟩
          have HF2 : Hid (f2 = cS zs (l + 1)) := hf2
          rw [← hf2] at rf hsb2
          clear hf2
          generalize cS zs l = f at *
          generalize tot zs = T at *
          rw [rf] at hfti
          go_wp2_with fail
          go_roundw
          case rel => exact ⟨l + 1, y, by omega, rfl, rfl, rfl, rfl, by rw [HF2.out], by go_num, trivial, (⟨by omega, HNX.out, fun j hj => HPA.out j (by omega)⟩ : _ ∧ _)⟩
          case measure => simp [intOf]; omega
end Go.Proofs.Ytkjccbihdinlkaa
