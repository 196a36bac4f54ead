import Derived.Test.YthcmebmohhajaaaDoorPa
import Derived.Test.YthcmebmohhajaaaDoorPe
namespace Go.Proofs.YthcmebmohhajaaaDoor
open Go.RowKit
set_option linter.unusedVariables false

/-- The first bits as a code: the first the highest. -/
def vB (H : List Bool) (l : Nat) : Nat := num (H.take l).reverse
theorem vB_zero (H : List Bool) : vB H 0 = 0 := by simp [vB, num]
theorem take_succ_b {H : List Bool} {l : Nat} (h : l < H.length) : H.take (l + 1) = H.take l ++ [H.getD l false] := by
  rw [List.take_add_one, List.getElem?_eq_getElem h]
  simp [List.getD, h]
theorem vB_succ {H : List Bool} {l : Nat} (h : l < H.length) : vB H (l + 1) = 2 * vB H l + (H.getD l false).toNat := by
  unfold vB
  rw [take_succ_b h, List.reverse_append, List.reverse_cons, List.reverse_nil, List.nil_append, List.singleton_append]
  simp only [num]
  omega
theorem vB_lt (H : List Bool) (l : Nat) : vB H l < 2 ^ l := by
  unfold vB
  have h1 := num_lt (H.take l).reverse
  have h2 : 2 ^ (H.take l).reverse.length ≤ 2 ^ l := Nat.pow_le_pow_right (by decide) (by simp; omega)
  omega
/-- The bits begin with this symbol's code. -/
def Beg (zs : List Int) (H : List Bool) (s : Nat) : Prop := s < zs.length ∧ zs.getD s 0 ≠ 0 ∧ ln zs s ≤ H.length ∧ vB H (ln zs s) = cd zs s
/-- The bits are the beginning of some code, and not the whole of it. -/
def May (zs : List Int) (H : List Bool) : Prop := ∃ s, s < zs.length ∧ zs.getD s 0 ≠ 0 ∧ H.length < ln zs s ∧ cd zs s / 2 ^ (ln zs s - H.length) = vB H H.length
theorem cd_top {zs : List Int} (h : LOk zs) {s : Nat} (hs : s < zs.length) (h0 : zs.getD s 0 ≠ 0) : cF zs (ln zs s) ≤ cd zs s ∧ cd zs s < cF zs (ln zs s) + cC zs (ln zs s) := by
  have := rk_lt_c h hs h0
  unfold cd
  rw [if_neg h0]
  omega
/-- A prefix of a prefix. -/
theorem vB_div (H : List Bool) {a b : Nat} (h : a ≤ b) (hb : b ≤ H.length) : vB H b / 2 ^ (b - a) = vB H a := by
  obtain ⟨d, rfl⟩ : ∃ d, b = a + d := ⟨b - a, by omega⟩
  clear h
  induction d with
  | zero => simp
  | succ d ih =>
    have h1 := ih (by omega)
    have h2 := vB_succ (H := H) (l := a + d) (by omega)
    have h3 : (H.getD (a + d) false).toNat < 2 := Bool.toNat_lt _
    rw [show a + (d + 1) = a + d + 1 by omega, h2, show a + d + 1 - a = d + 1 by omega, Nat.pow_succ, Nat.mul_comm (2 ^ d) 2, ← Nat.div_div_eq_div_mul]
    rw [show (2 * vB H (a + d) + (H.getD (a + d) false).toNat) / 2 = vB H (a + d) by omega]
    rw [show a + d - a = d by omega] at h1
    exact h1
theorem beg_one {zs : List Int} {H : List Bool} (h : LOk zs) {s t : Nat} (hs : Beg zs H s) (ht : Beg zs H t) : s = t := by
  obtain ⟨a1, a2, a3, a4⟩ := hs
  obtain ⟨b1, b2, b3, b4⟩ := ht
  rcases Nat.le_total (ln zs s) (ln zs t) with c | c
  · exact cd_apart h a1 b1 a2 c (by rw [← b4, vB_div H c b3, a4])
  · exact (cd_apart h b1 a1 b2 c (by rw [← a4, vB_div H c a3, b4])).symm
/-- Passed by up to and with length l. -/
def Past (zs : List Int) (H : List Bool) (l : Nat) : Prop := ∀ j, j ≤ l → cF zs j + cC zs j ≤ vB H j
theorem past_none {zs : List Int} {H : List Bool} {l : Nat} (h : LOk zs) (hp : Past zs H l) {s : Nat} (hb : Beg zs H s) : l < ln zs s := by
  rcases Nat.lt_or_ge l (ln zs s) with c | c
  · exact c
  · exfalso
    obtain ⟨a1, a2, a3, a4⟩ := hb
    have := hp (ln zs s) c
    have := (cd_top h a1 a2).2
    omega
theorem used_le {zs : List Int} (h : LOk zs) {s l : Nat} (hs : s < zs.length) (h0 : zs.getD s 0 ≠ 0) (ht : cS zs (l + 1) = tot zs) : ln zs s ≤ l := by
  rcases Nat.lt_or_ge l (ln zs s) with c | c
  · exfalso
    have h1 := cS_mono zs (a := l + 1) (b := ln zs s) c
    have h2 : cS zs (ln zs s + 1) ≤ cS zs 16 := cS_mono zs (by have := (h.ln s).2; omega)
    rw [cS_succ] at h2
    have h3 := rk_lt_c h hs h0
    unfold tot at ht
    omega
  · exact c
/-- All codes have been passed by: there is none. -/
theorem end_none {zs : List Int} {H : List Bool} {l : Nat} (h : LOk zs) (hl : l ≤ H.length) (hp : Past zs H l) (ht : cS zs (l + 1) = tot zs) : (∀ s, ¬ Beg zs H s) ∧ ¬ May zs H := by
  refine ⟨fun s hb => ?_, fun ⟨s, h1, h2, h3, _⟩ => ?_⟩
  · have h1 := past_none h hp hb
    have h2 := used_le h hb.1 hb.2.1 ht
    omega
  · have := used_le h h1 h2 ht
    omega
/-- All bits have been looked at, and codes are left: one begins so. -/
theorem end_may {zs : List Int} {H : List Bool} (h : LOk zs) (hw : spc zs = 32768 ∨ tot zs = 0 ∨ (tot zs = 1 ∧ cC zs 1 = 1)) (hl : H.length ≤ 15) (hp : Past zs H H.length) (ht : cS zs (H.length + 1) ≠ tot zs) : (∀ s, ¬ Beg zs H s) ∧ May zs H := by
  refine ⟨fun s hb => ?_, ?_⟩
  · have := past_none h hp hb
    have := hb.2.2.1
    omega
  · have hn15 : H.length < 15 := by
      rcases Nat.lt_or_ge H.length 15 with c | c
      · exact c
      · exfalso
        apply ht
        rw [show H.length = 15 by omega]
        rfl
    rcases hw with hw | hw | ⟨hw, h1⟩
    · have hv := vB_lt H H.length
      have e15 : (2 : Nat) ^ H.length * 2 ^ (15 - H.length) = 32768 := by
        rw [← Nat.pow_add, show H.length + (15 - H.length) = 15 by omega]
      have hlt : vB H H.length * 2 ^ (15 - H.length) < spc zs := by
        rw [hw, ← e15]
        exact Nat.mul_lt_mul_of_pos_right hv (Nat.two_pow_pos _)
      obtain ⟨s, hs, s0, hlo, hhi⟩ := cover h hlt
      have hgt : H.length < ln zs s := by
        rcases Nat.lt_or_ge H.length (ln zs s) with c | c
        · exact c
        · exfalso
          have h1 := hi_le h hs s0
          have h2 := cP_mono zs (a := ln zs s + 1) (b := H.length + 1) (by omega)
          have h3 : cP zs (H.length + 1) = (cF zs H.length + cC zs H.length) * 2 ^ (15 - H.length) := by
            rw [cP_succ, Nat.add_mul, cF_cP zs _ hl]
          have h4 := Nat.mul_le_mul_right (2 ^ (15 - H.length)) (hp H.length (Nat.le_refl _))
          omega
      refine ⟨s, hs, s0, hgt, ?_⟩
      have hsl := (h.ln s).2
      have e2 : vB H H.length * 2 ^ (15 - H.length) = vB H H.length * 2 ^ (ln zs s - H.length) * 2 ^ (15 - ln zs s) := by
        rw [Nat.mul_assoc, ← Nat.pow_add, show ln zs s - H.length + (15 - ln zs s) = 15 - H.length by omega]
      rw [e2] at hlo hhi
      have k1 := Nat.le_of_mul_le_mul_right hlo (Nat.two_pow_pos _)
      have k2 := Nat.lt_of_mul_lt_mul_right hhi
      have k3 : cd zs s = vB H H.length * 2 ^ (ln zs s - H.length) := by omega
      rw [k3, Nat.mul_div_cancel _ (Nat.two_pow_pos _)]
    · exfalso
      apply ht
      have h1 : cS zs (H.length + 1) ≤ cS zs 16 := cS_mono zs (by omega)
      unfold tot at hw ⊢
      omega
    · have hn0 : H.length = 0 := by
        rcases Nat.eq_zero_or_pos H.length with c | c
        · exact c
        · exfalso
          apply ht
          have h2 : cS zs 2 ≤ cS zs (H.length + 1) := cS_mono zs (by omega)
          have h3 : cS zs (H.length + 1) ≤ cS zs 16 := cS_mono zs (by omega)
          have h4 : cS zs 2 = cC zs 1 := by rw [cS_succ, cS_succ, cC_zero]; simp [cS]
          unfold tot at hw ⊢
          omega
      rw [cC_pos zs (by decide)] at h1
      obtain ⟨s, hs, e, er⟩ := rk_has zs ((1 : Nat) : Int) 0 (by omega)
      have hln : ln zs s = 1 := by unfold ln; rw [e]; rfl
      have s0 : zs.getD s 0 ≠ 0 := by rw [e]; decide
      refine ⟨s, hs, s0, by omega, ?_⟩
      have hcd : cd zs s = 0 := by
        unfold cd
        rw [if_neg s0, hln, er, cF_succ, cC_zero]
        rfl
      rw [hcd, hn0, vB_zero]
      simp
/-- What looking a code up tells. -/
def FindQ (zs : List Int) (H : List Bool) (sy le er : Int) : Prop :=
  (∃ s, Beg zs H s ∧ sy = (s : Int) ∧ le = (ln zs s : Int) ∧ er = 0) ∨ ((∀ s, ¬ Beg zs H s) ∧ May zs H ∧ sy = 0 ∧ le = 0 ∧ er = 0) ∨ ((∀ s, ¬ Beg zs H s) ∧ ¬ May zs H ∧ sy = 0 ∧ le = 0 ∧ er = 54)
end Go.Proofs.YthcmebmohhajaaaDoor

namespace Go.Proofs.YthcmebmohhajaaaDoor
open Go.RowKit
set_option linter.unusedVariables false

theorem i64_or_nat (a b : Nat) (ha : a < 4611686018427387904) (hb : b < 4611686018427387904) : bits .or .i64 (a : Int) (b : Int) = ((a ||| b : Nat) : Int) := by
  have hx : a ||| b < 2 ^ 62 := Nat.or_lt_two_pow (by omega) (by omega)
  show IntKind.i64.wrap ((BitVec.ofInt 64 (a : Int) ||| BitVec.ofInt 64 (b : Int)).toNat : Int) = _
  rw [BitVec.toNat_or, ofInt_u64 a (by omega), ofInt_u64 b (by omega)]
  exact IntWalk.i64_in _ (by omega)
theorem or_bit64 {x b : Nat} (h : b < 2) (hx : x ≤ 1000000) : bits .or .i64 ((x : Int) * 2) (b : Int) = ((2 * x + b : Nat) : Int) := by
  rw [show ((x : Int) * 2) = ((2 ^ 1 * x : Nat) : Int) by simp; omega, i64_or_nat _ _ (by omega) (by omega), ← Nat.two_pow_add_eq_or_of_lt (by omega : b < 2 ^ 1)]
theorem bit_at {L : List Bool} {l : Nat} (h : l < L.length) : num L / 2 ^ l % 2 = (L.getD l false).toNat := by
  rw [← num_drop L l (by omega), List.drop_eq_getElem_cons h]
  have hb : (L[l]).toNat < 2 := Bool.toNat_lt _
  simp only [num]
  simp [List.getD, h]
  omega

set_option maxRecDepth 100000 in
set_option maxHeartbeats 1000000 in
theorem find_any (b most : Nat) (zs : List Int) (H : List Bool) (n : Nat) (hn : Hid (n = min H.length 15)) (w : World) (hD : De w b most zs) :
    Calls Tryd.prog 64 #[.pointer (some ⟨b, 1, none⟩), .int .u64 (num (H.take n) : Int), .int .i64 (n : Int)] w fun e w' => ∃ sy le er, e = .returned (.tuple #[.int .i64 sy, .int .i64 le, .int .i64 er]) ∧ FindQ zs H sy le er ∧ w' = w := by
  obtain ⟨S, hS, hY, hb⟩ := hD.row
  have HL := errS_zero (errC_zero hD.ok).1
  have HLK : Hid (LOk zs) := HL.2
  go_enter Tryd.func64, Tryd.ntmps64
  go_wp2_with fail
  go_step3
  go_wp2_with fail
  go_step3
  go_wp2_with fail
  have hn15 : n ≤ 15 := by have := hn.out; omega
  have HNH : Hid (n ≤ H.length ∧ (n < 15 → n = H.length)) := ⟨by have := hn.out; omega, by have := hn.out; omega⟩
  have HW : Hid (spc zs = 32768 ∨ tot zs = 0 ∨ (tot zs = 1 ∧ cC zs 1 = 1)) := by
    have h1 := (errC_zero hD.ok).2
    unfold errR at h1
    by_cases c1 : 32768 < spc zs
    · rw [if_pos c1] at h1; cases h1
    · rw [if_neg c1] at h1
      by_cases c2 : spc zs = 32768 ∨ tot zs = 0 ∨ (tot zs = 1 ∧ cC zs 1 = 1)
      · exact c2
      · rw [if_neg c2] at h1; cases h1
  have hbnd := cC_288 (errC_zero hD.ok).1
  have HTT : Hid (tot zs ≤ 288) := Nat.le_trans (tot_le zs HL.2) HL.1
  have ct := arr_cell hb (i := 1 + 304) (by simp [dl, tbl_len hS])
  rw [dl_get, tbl_tot hS, show 1 + 304 = 305 from rfl] at ct
  have HY : Hid (SymOk zs S zs.length) := hY
  have htt := HTT.out
  clear HL hY
  go_loopw [9, 10, 11, 12, 13, 16] (fun t9 t10 t11 tb tsh tl wr => ∃ l d : Nat, l ≤ 16 ∧ t9 = .int .i64 0 ∧ t10 = .int .i64 0 ∧ t11 = .int .i64 0 ∧ tb = .int .i64 (d : Int) ∧ tsh = .int .i64 (cS zs l : Int) ∧ tl = .int .i64 (l : Int) ∧ wr = w ∧ Hid (l ≤ n ∧ d + cF zs l = vB H l ∧ ∀ j, j < l → cF zs j + cC zs j ≤ vB H j)) (fun _ _ _ _ _ tl _ => 16 - (intOf tl).toNat)
  case atStart => exact ⟨0, 0, by omega, rfl, rfl, rfl, rfl, rfl, rfl, rfl, (⟨by omega, by rw [vB_zero]; rfl, fun j hj => by omega⟩ : _ ∧ _)⟩
  case round =>
    obtain ⟨l, d, hl16, rfl, rfl, rfl, rfl, rfl, rfl, hwr, HQ⟩ := hrel
    subst hwr
    have hln : l ≤ n := HQ.out.1
    have hl15 : l ≤ 15 := by omega
    have hli : (l : Int) < 16 := by omega
    have cc := arr_cell hb (i := 1 + l) (by simp [dl, tbl_len hS]; omega)
    rw [dl_get, tbl_cnt (by omega)] at cc
    have hvl : vB H l < 32768 := Nat.lt_of_lt_of_le (vB_lt H l) (Nat.pow_le_pow_right (n := 2) (j := 15) (by decide) hl15)
    have hdb : d ≤ 32768 := by have := HQ.out.2.1; omega
    have hcb := hbnd l
    have hsb : cS zs l ≤ 288 := Nat.le_trans (cS_mono zs (b := 16) (by omega)) htt
    have HSS : Hid (cS zs (l + 1) = cS zs l + cC zs l) := cS_succ zs l
    have HCF : Hid (cF zs (l + 1) = 2 * (cF zs l + cC zs l)) := cF_succ zs l
    by_cases hdc : d < cC zs l
    · have hl0 : 0 < l := by
        rcases Nat.eq_zero_or_pos l with rfl | h
        · rw [cC_zero] at hdc; omega
        · exact h
      have HRK : Hid (∃ s, s < zs.length ∧ zs.getD s 0 = (l : Int) ∧ rk zs s = d) := rk_has zs (l : Int) d (by rw [← cC_pos zs hl0]; exact hdc)
      obtain ⟨s, hs1, hs2, hs3⟩ := HRK.out
      have HSF : Hid (Beg zs H s ∧ ln zs s = l ∧ S.getD (cS zs l + d) 0 = (s : Int)) := by
        have hln : ln zs s = l := by unfold ln; rw [hs2]; simp
        have s0 : zs.getD s 0 ≠ 0 := by rw [hs2]; omega
        refine ⟨⟨hs1, s0, ?_, ?_⟩, hln, ?_⟩
        · rw [hln]; have := HNH.out.1; omega
        · rw [hln]; unfold cd; rw [if_neg s0, hln, hs3]; have := HQ.out.2.1; omega
        · have := HY.out s hs1 s0
          rw [hln, hs3] at this
          exact this
      have hpb : cS zs l + d < 288 := by
        have h1 : cS zs (l + 1) ≤ cS zs 16 := cS_mono zs (by omega)
        have h2 := HSS.out
        have h3 := HTT.out
        unfold tot at h3
        omega
      have cs := arr_cell hb (i := 1 + (16 + (cS zs l + d))) (by simp [dl, tbl_len hS]; omega)
      rw [dl_get, tbl_sym hS (by omega), HSF.out.2.2, show 1 + (16 + (cS zs l + d)) = 17 + (cS zs l + d) by omega] at cs
      clear HRK hs1 hs2 hs3
      generalize cC zs l = c at *
      generalize cS zs l = f at *
      obtain ⟨p, hp⟩ : ∃ p, p = f + d := ⟨_, rfl⟩
      have r1 : (f : Int) + (d : Int) = (p : Int) := by omega
      have hpi : (p : Int) < 288 := by omega
      rw [← hp] at cs
      have hpb2 : p < 288 := by omega
      clear hp hpb
      have hdci : (d : Int) < (c : Int) := by omega
      go_wp2_with fail
      try rw [Exit.noGoto_ret]
      go_ret3
      exact ⟨s, l, 0, rfl, .inl ⟨s, HSF.out.1, rfl, by rw [HSF.out.2.1], rfl⟩, rfl⟩
    · have HPA : Hid (Past zs H l) := fun j hj => by
        rcases Nat.lt_or_ge j l with c | c
        · exact HQ.out.2.2 j c
        · obtain rfl : j = l := by omega
          have := HQ.out.2.1
          omega
      have hln2 := HNH.out.1
      by_cases hft : cS zs l + cC zs l = tot zs
      · have HFT : Hid _ := end_none HLK.out (show l ≤ H.length by omega) HPA.out (HSS.out.trans hft)
        have hfti : (cS zs l : Int) + (cC zs l : Int) = (tot zs : Int) := by omega
        clear hft
        generalize cC zs l = c at *
        generalize cS zs l = f at *
        generalize tot zs = T at *
        have hdci : ¬ (d : Int) < (c : Int) := by omega
        go_wp2_with fail
        try rw [Exit.noGoto_ret]
        go_ret3
        exact ⟨0, 0, 54, rfl, .inr (.inr ⟨HFT.out.1, HFT.out.2, rfl, rfl, rfl⟩), rfl⟩
      · have hfti : ¬ (cS zs l : Int) + (cC zs l : Int) = (tot zs : Int) := by omega
        by_cases hlen : l = n
        · have HFM : Hid ((∀ s, ¬ Beg zs H s) ∧ May zs H) := by
            have hl14 : l < 15 := by
              rcases Nat.lt_or_ge l 15 with c | c
              · exact c
              · exfalso
                apply hft
                rw [← HSS.out, show l = 15 by omega]
                rfl
            have e : H.length = l := by have := HNH.out.2 (by omega); omega
            have h1 := HPA.out
            rw [← e] at h1
            exact end_may HLK.out HW.out (by omega) h1 (by rw [e, HSS.out]; exact hft)
          subst hlen
          clear hft
          generalize cC zs l = c at *
          generalize cS zs l = f at *
          generalize tot zs = T at *
          have hdci : ¬ (d : Int) < (c : Int) := by omega
          go_wp2_with fail
          try rw [Exit.noGoto_ret]
          go_ret3
          exact ⟨0, 0, 0, rfl, .inr (.inl ⟨HFM.out.1, HFM.out.2, rfl, rfl, rfl⟩), rfl⟩
        · have hlnlt : l < n := by omega
          have hlni : ¬ (l : Int) = (n : Int) := by omega
          have HBT := bit_at (L := H.take n) (l := l) (by simp; omega)
          have eg : (H.take n).getD l false = H.getD l false := by simp [List.getD, hlnlt]
          rw [eg] at HBT
          have HVS : Hid (vB H (l + 1) = 2 * vB H l + (H.getD l false).toNat) := vB_succ (by omega)
          have hbt2 : (H.getD l false).toNat < 2 := Bool.toNat_lt _
          generalize (H.getD l false).toNat = bt at *
          have hrow : num (H.take n) < 32768 := Nat.lt_of_lt_of_le (num_lt _) (Nat.pow_le_pow_right (n := 2) (j := 15) (by decide) (by simp; omega))
          have hsh := shr_nat (num (H.take n)) l
          generalize num (H.take n) = row at *
          have hrd : row / 2 ^ l ≤ row := Nat.div_le_self _ _
          obtain ⟨rd, hrde⟩ : ∃ rd, rd = row / 2 ^ l := ⟨_, rfl⟩
          rw [← hrde] at hsh HBT hrd
          have hand : bits .and .u64 (rd : Int) 1 = (bt : Int) := by rw [and_one' rd (by omega), HBT]
          obtain ⟨e, he⟩ : ∃ e, e = d - cC zs l := ⟨_, rfl⟩
          have HE : Hid (e + cC zs l = d) := by show _ = _; omega
          have re : (d : Int) - (cC zs l : Int) = (e : Int) := by have := HE.out; omega
          have hor := or_bit64 (x := e) hbt2 (by omega)
          obtain ⟨y, hy⟩ : ∃ y, y = 2 * e + bt := ⟨_, rfl⟩
          rw [← hy] at hor
          have HYY : Hid (y = 2 * e + bt) := hy
          have heb : e ≤ 32768 := by omega
          have hyb : y ≤ 100000 := by omega
          clear hy he hrde HBT eg hft
          have hdci : ¬ (d : Int) < (cC zs l : Int) := by omega
          have HNX : Hid (y + cF zs (l + 1) = vB H (l + 1)) := by
            have h1 := HQ.out.2.1
            have h2 := HCF.out
            have h3 := HVS.out
            have h4 := HE.out
            have h5 := HYY.out
            show _ = _
            omega
          generalize cC zs l = c at *
          have rf : (cS zs l : Int) + (c : Int) = (cS zs (l + 1) : Int) := by have := HSS.out; omega
          have hsb2 : cS zs (l + 1) ≤ 1000 := by have := HSS.out; omega
          obtain ⟨f2, hf2⟩ : ∃ f2, f2 = cS zs (l + 1) := ⟨_, rfl⟩
          have HF2 : Hid (f2 = cS zs (l + 1)) := hf2
          rw [← hf2] at rf hsb2
          clear hf2
          generalize cS zs l = f at *
          generalize tot zs = T at *
          rw [rf] at hfti
          go_wp2_with fail
          go_roundw
          case rel => exact ⟨l + 1, y, by omega, rfl, rfl, rfl, rfl, by rw [HF2.out], by go_num, trivial, (⟨by omega, HNX.out, fun j hj => HPA.out j (by omega)⟩ : _ ∧ _)⟩
          case measure => simp [intOf]; omega
end Go.Proofs.YthcmebmohhajaaaDoor

namespace Go.Proofs.YthcmebmohhajaaaDoor
open Go.RowKit
set_option linter.unusedVariables false

def NxtQ (w : World) (b br : Nat) (zs : List Int) (H : List Bool) (t : Nat) (e : Ending) (w' : World) : Prop :=
  ((∃ s, Beg zs H s ∧ e = .returned (.tuple #[.int .i64 (s : Int), .bool true, .int .i64 0]) ∧ Rd w' br (H.drop (ln zs s)) (t + ln zs s)) ∨ ((∀ s, ¬ Beg zs H s) ∧ May zs H ∧ e = .returned (.tuple #[.int .i64 0, .bool false, .int .i64 0]) ∧ Rd w' br H t) ∨ ((∀ s, ¬ Beg zs H s) ∧ ¬ May zs H ∧ e = .returned (.tuple #[.int .i64 0, .bool false, .int .i64 54]) ∧ Rd w' br H t)) ∧ Kp (fun k => k = br) w w'

set_option maxRecDepth 100000 in
set_option maxHeartbeats 1000000 in
theorem next5_any (b most : Nat) (zs : List Int) (br : Nat) (H : List Bool) (t : Nat) (w : World) (hD : De w b most zs) (hR : Rd w br H t) (ht : t ≤ 4611686018427387000) :
    Calls Tryd.prog 42 #[.pointer (some ⟨b, 0, none⟩), .pointer (some ⟨br, 0, none⟩)] w fun e w' => NxtQ w b br zs H t e w' := by
  obtain ⟨S, hS, hY, hb⟩ := hD.row
  have c0 := arr_cell hb (i := 0) (by simp [dl])
  have e0 : (dl most zs S).getD 0 0 = (most : Int) := rfl
  rw [e0] at c0
  have hm0 : ¬ (most : Int) = 0 := by have := hD.mo; omega
  have CH := has_any br H t w hR
  obtain ⟨n, hn⟩ : ∃ n, n = min H.length 15 := ⟨_, rfl⟩
  have HN : Hid (n = min H.length 15) := hn
  have hth : there H (n : Int) = true := there_of (by omega) (by omega)
  have CP := peek_any br H t (n : Int) w hR
  rw [hth] at CP
  have hV : takeV H (n : Int) = num (H.take n) := by unfold takeV; rw [hth]; simp
  rw [hV] at CP
  have CF := find_any b most zs H n HN w hD
  have hle := hR.le
  have HCT : Hid (∀ s, Beg zs H s → ln zs s ≤ 15 → Calls Tryd.prog 40 #[.pointer (some ⟨br, 0, none⟩), .int .i64 (ln zs s : Int)] w fun e w' => (∃ x y, e = .returned (.tuple #[x, y])) ∧ Rd w' br (H.drop (ln zs s)) (t + ln zs s) ∧ w.grownBy w' (some br)) := by
    intro s hs hl
    have := take_any br H t (ln zs s : Int) w hR (by omega)
    have h1 : there H (ln zs s : Int) = true := there_of (by omega) hs.2.2.1
    refine this.mono ?_
    rintro e w' ⟨rfl, h2, h3⟩
    refine ⟨⟨_, _, rfl⟩, ?_, h3⟩
    unfold takeL takeT at h2
    rw [h1] at h2
    simpa using h2
  have HLN : Hid (∀ s, Beg zs H s → 0 < ln zs s ∧ ln zs s ≤ 15) := fun s hs => ⟨ln_pos (errS_zero (errC_zero hD.ok).1).2 hs.2.1, ((errS_zero (errC_zero hD.ok).1).2.ln s).2⟩
  clear e0 hV hth
  by_cases hc : H.length ≤ 15
  · have en : (H.length : Int) = (n : Int) := by omega
    rw [en] at CH
    have hci : (n : Int) ≤ 15 := by omega
    have hci2 : ¬ (15 : Int) < (n : Int) := by omega
    clear hn hc en hle
    go_enter Tryd.func42, Tryd.ntmps42
    go_wp2_with fail
    refine CH.mono ?_
    rintro e w1 ⟨rfl, hw1⟩
    subst w1
    go_wp2_with fail
    refine CP.mono ?_
    rintro e w1 ⟨rfl, hw1⟩
    subst w1
    go_wp2_with fail
    refine CF.mono ?_
    rintro e w1 ⟨sy, le, er, rfl, hF, hw1⟩
    subst w1
    rcases hF with ⟨s, h1, rfl, rfl, rfl⟩ | ⟨h1, h2, rfl, rfl, rfl⟩ | ⟨h1, h2, rfl, rfl, rfl⟩
    · have CT := HCT.out s h1 (HLN.out s h1).2
      have HB : Hid (Beg zs H s) := h1
      have hl0 : ¬ (ln zs s : Int) = 0 := by have := (HLN.out s h1).1; omega
      clear h1
      go_wp2_with fail
      refine CT.mono ?_
      rintro e w1 ⟨⟨x, y, rfl⟩, h3, h4⟩
      go_wp2_with fail
      go_ret3
      exact ⟨.inl ⟨s, HB.out, rfl, h3⟩, Kp.grown h4 (fun i hi => by cases hi; rfl)⟩
    · have HB : Hid ((∀ s, ¬ Beg zs H s) ∧ May zs H) := ⟨h1, h2⟩
      clear h1 h2
      go_wp2_with fail
      go_ret3
      exact ⟨.inr (.inl ⟨HB.out.1, HB.out.2, rfl, hR⟩), Kp.refl _ _⟩
    · have HB : Hid ((∀ s, ¬ Beg zs H s) ∧ ¬ May zs H) := ⟨h1, h2⟩
      clear h1 h2
      go_wp2_with fail
      go_ret3
      exact ⟨.inr (.inr ⟨HB.out.1, HB.out.2, rfl, hR⟩), Kp.refl _ _⟩
  · obtain rfl : n = 15 := by omega
    obtain ⟨m, em⟩ : ∃ m, m = H.length := ⟨_, rfl⟩
    rw [← em] at CH
    have hci : ¬ (m : Int) ≤ 15 := by omega
    have hci2 : (15 : Int) < (m : Int) := by omega
    have e15 : ((15 : Nat) : Int) = 15 := rfl
    rw [e15] at CP CF
    clear hn e15 em hc hle
    go_enter Tryd.func42, Tryd.ntmps42
    go_wp2_with fail
    refine CH.mono ?_
    rintro e w1 ⟨rfl, hw1⟩
    subst w1
    go_wp2_with fail
    refine CP.mono ?_
    rintro e w1 ⟨rfl, hw1⟩
    subst w1
    go_wp2_with fail
    refine CF.mono ?_
    rintro e w1 ⟨sy, le, er, rfl, hF, hw1⟩
    subst w1
    rcases hF with ⟨s, h1, rfl, rfl, rfl⟩ | ⟨h1, h2, rfl, rfl, rfl⟩ | ⟨h1, h2, rfl, rfl, rfl⟩
    · have CT := HCT.out s h1 (HLN.out s h1).2
      have HB : Hid (Beg zs H s) := h1
      have hl0 : ¬ (ln zs s : Int) = 0 := by have := (HLN.out s h1).1; omega
      clear h1
      go_wp2_with fail
      refine CT.mono ?_
      rintro e w1 ⟨⟨x, y, rfl⟩, h3, h4⟩
      go_wp2_with fail
      go_ret3
      exact ⟨.inl ⟨s, HB.out, rfl, h3⟩, Kp.grown h4 (fun i hi => by cases hi; rfl)⟩
    · have HB : Hid ((∀ s, ¬ Beg zs H s) ∧ May zs H) := ⟨h1, h2⟩
      clear h1 h2
      go_wp2_with fail
      go_ret3
      exact ⟨.inr (.inl ⟨HB.out.1, HB.out.2, rfl, hR⟩), Kp.refl _ _⟩
    · have HB : Hid ((∀ s, ¬ Beg zs H s) ∧ ¬ May zs H) := ⟨h1, h2⟩
      clear h1 h2
      go_wp2_with fail
      go_ret3
      exact ⟨.inr (.inr ⟨HB.out.1, HB.out.2, rfl, hR⟩), Kp.refl _ _⟩
end Go.Proofs.YthcmebmohhajaaaDoor

namespace Go.Proofs.YthcmebmohhajaaaDoor
open Go.RowKit
set_option linter.unusedVariables false

/-- Ints at an offset of a block. -/
structure Cel8 (w : World) (b o : Nat) (L : List Int) : Prop where
  at_ : ∀ i, i < L.length → w.cell? ⟨b, o + i, none⟩ = some (.int .i64 (L.getD i 0))
/-- The decoder within a reader of lengths. -/
structure De8 (w : World) (b most : Nat) (zs : List Int) : Prop where
  ok : errC zs = 0
  mo : 1 ≤ most ∧ most ≤ 288
  row : ∃ S, S.length = 288 ∧ SymOk zs S zs.length ∧ Cel8 w b 347 (dl most zs S)
theorem De8.keep {w w' : World} {b n : Nat} {zs : List Int} (h : De8 w b n zs) (hb : ∀ i, i < 306 → w'.cell? ⟨b, 347 + i, none⟩ = w.cell? ⟨b, 347 + i, none⟩) : De8 w' b n zs := by
  obtain ⟨S, h1, h2, h3⟩ := h.row
  exact ⟨h.ok, h.mo, S, h1, h2, ⟨fun i hi => (hb i (by simp [dl, tbl_len h1] at hi; omega)).trans (h3.at_ i hi)⟩⟩
set_option maxRecDepth 100000 in
set_option maxHeartbeats 1000000 in
theorem find8 (b most : Nat) (zs : List Int) (H : List Bool) (n : Nat) (hn : Hid (n = min H.length 15)) (w : World) (hD : De8 w b most zs) :
    Calls Tryd.prog 64 #[.pointer (some ⟨b, 348, none⟩), .int .u64 (num (H.take n) : Int), .int .i64 (n : Int)] w fun e w' => ∃ sy le er, e = .returned (.tuple #[.int .i64 sy, .int .i64 le, .int .i64 er]) ∧ FindQ zs H sy le er ∧ w' = w := by
  obtain ⟨S, hS, hY, hb⟩ := hD.row
  have HL := errS_zero (errC_zero hD.ok).1
  have HLK : Hid (LOk zs) := HL.2
  go_enter Tryd.func64, Tryd.ntmps64
  go_wp2_with fail
  go_step3
  go_wp2_with fail
  go_step3
  go_wp2_with fail
  have hn15 : n ≤ 15 := by have := hn.out; omega
  have HNH : Hid (n ≤ H.length ∧ (n < 15 → n = H.length)) := ⟨by have := hn.out; omega, by have := hn.out; omega⟩
  have HW : Hid (spc zs = 32768 ∨ tot zs = 0 ∨ (tot zs = 1 ∧ cC zs 1 = 1)) := by
    have h1 := (errC_zero hD.ok).2
    unfold errR at h1
    by_cases c1 : 32768 < spc zs
    · rw [if_pos c1] at h1; cases h1
    · rw [if_neg c1] at h1
      by_cases c2 : spc zs = 32768 ∨ tot zs = 0 ∨ (tot zs = 1 ∧ cC zs 1 = 1)
      · exact c2
      · rw [if_neg c2] at h1; cases h1
  have hbnd := cC_288 (errC_zero hD.ok).1
  have HTT : Hid (tot zs ≤ 288) := Nat.le_trans (tot_le zs HL.2) HL.1
  have ct := hb.at_ (1 + 304) (by simp [dl, tbl_len hS])
  rw [dl_get, tbl_tot hS, show 347 + (1 + 304) = 652 from rfl] at ct
  have HY : Hid (SymOk zs S zs.length) := hY
  have htt := HTT.out
  clear HL hY
  go_loopw [9, 10, 11, 12, 13, 16] (fun t9 t10 t11 tb tsh tl wr => ∃ l d : Nat, l ≤ 16 ∧ t9 = .int .i64 0 ∧ t10 = .int .i64 0 ∧ t11 = .int .i64 0 ∧ tb = .int .i64 (d : Int) ∧ tsh = .int .i64 (cS zs l : Int) ∧ tl = .int .i64 (l : Int) ∧ wr = w ∧ Hid (l ≤ n ∧ d + cF zs l = vB H l ∧ ∀ j, j < l → cF zs j + cC zs j ≤ vB H j)) (fun _ _ _ _ _ tl _ => 16 - (intOf tl).toNat)
  case atStart => exact ⟨0, 0, by omega, rfl, rfl, rfl, rfl, rfl, rfl, rfl, (⟨by omega, by rw [vB_zero]; rfl, fun j hj => by omega⟩ : _ ∧ _)⟩
  case round =>
    obtain ⟨l, d, hl16, rfl, rfl, rfl, rfl, rfl, rfl, hwr, HQ⟩ := hrel
    subst hwr
    have hln : l ≤ n := HQ.out.1
    have hl15 : l ≤ 15 := by omega
    have hli : (l : Int) < 16 := by omega
    have cc := hb.at_ (1 + l) (by simp [dl, tbl_len hS]; omega)
    rw [dl_get, tbl_cnt (by omega), show 347 + (1 + l) = 348 + l by omega] at cc
    have hvl : vB H l < 32768 := Nat.lt_of_lt_of_le (vB_lt H l) (Nat.pow_le_pow_right (n := 2) (j := 15) (by decide) hl15)
    have hdb : d ≤ 32768 := by have := HQ.out.2.1; omega
    have hcb := hbnd l
    have hsb : cS zs l ≤ 288 := Nat.le_trans (cS_mono zs (b := 16) (by omega)) htt
    have HSS : Hid (cS zs (l + 1) = cS zs l + cC zs l) := cS_succ zs l
    have HCF : Hid (cF zs (l + 1) = 2 * (cF zs l + cC zs l)) := cF_succ zs l
    by_cases hdc : d < cC zs l
    · have hl0 : 0 < l := by
        rcases Nat.eq_zero_or_pos l with rfl | h
        · rw [cC_zero] at hdc; omega
        · exact h
      have HRK : Hid (∃ s, s < zs.length ∧ zs.getD s 0 = (l : Int) ∧ rk zs s = d) := rk_has zs (l : Int) d (by rw [← cC_pos zs hl0]; exact hdc)
      obtain ⟨s, hs1, hs2, hs3⟩ := HRK.out
      have HSF : Hid (Beg zs H s ∧ ln zs s = l ∧ S.getD (cS zs l + d) 0 = (s : Int)) := by
        have hln : ln zs s = l := by unfold ln; rw [hs2]; simp
        have s0 : zs.getD s 0 ≠ 0 := by rw [hs2]; omega
        refine ⟨⟨hs1, s0, ?_, ?_⟩, hln, ?_⟩
        · rw [hln]; have := HNH.out.1; omega
        · rw [hln]; unfold cd; rw [if_neg s0, hln, hs3]; have := HQ.out.2.1; omega
        · have := HY.out s hs1 s0
          rw [hln, hs3] at this
          exact this
      have hpb : cS zs l + d < 288 := by
        have h1 : cS zs (l + 1) ≤ cS zs 16 := cS_mono zs (by omega)
        have h2 := HSS.out
        have h3 := HTT.out
        unfold tot at h3
        omega
      have cs := hb.at_ (1 + (16 + (cS zs l + d))) (by simp [dl, tbl_len hS]; omega)
      rw [dl_get, tbl_sym hS (by omega), HSF.out.2.2, show 347 + (1 + (16 + (cS zs l + d))) = 364 + (cS zs l + d) by omega] at cs
      clear HRK hs1 hs2 hs3
      generalize cC zs l = c at *
      generalize cS zs l = f at *
      obtain ⟨p, hp⟩ : ∃ p, p = f + d := ⟨_, rfl⟩
      have r1 : (f : Int) + (d : Int) = (p : Int) := by omega
      have hpi : (p : Int) < 288 := by omega
      rw [← hp] at cs
      have hpb2 : p < 288 := by omega
      clear hp hpb
      have hdci : (d : Int) < (c : Int) := by omega
      go_wp2_with fail
      try rw [Exit.noGoto_ret]
      go_ret3
      exact ⟨s, l, 0, rfl, .inl ⟨s, HSF.out.1, rfl, by rw [HSF.out.2.1], rfl⟩, rfl⟩
    · have HPA : Hid (Past zs H l) := fun j hj => by
        rcases Nat.lt_or_ge j l with c | c
        · exact HQ.out.2.2 j c
        · obtain rfl : j = l := by omega
          have := HQ.out.2.1
          omega
      have hln2 := HNH.out.1
      by_cases hft : cS zs l + cC zs l = tot zs
      · have HFT : Hid _ := end_none HLK.out (show l ≤ H.length by omega) HPA.out (HSS.out.trans hft)
        have hfti : (cS zs l : Int) + (cC zs l : Int) = (tot zs : Int) := by omega
        clear hft
        generalize cC zs l = c at *
        generalize cS zs l = f at *
        generalize tot zs = T at *
        have hdci : ¬ (d : Int) < (c : Int) := by omega
        go_wp2_with fail
        try rw [Exit.noGoto_ret]
        go_ret3
        exact ⟨0, 0, 54, rfl, .inr (.inr ⟨HFT.out.1, HFT.out.2, rfl, rfl, rfl⟩), rfl⟩
      · have hfti : ¬ (cS zs l : Int) + (cC zs l : Int) = (tot zs : Int) := by omega
        by_cases hlen : l = n
        · have HFM : Hid ((∀ s, ¬ Beg zs H s) ∧ May zs H) := by
            have hl14 : l < 15 := by
              rcases Nat.lt_or_ge l 15 with c | c
              · exact c
              · exfalso
                apply hft
                rw [← HSS.out, show l = 15 by omega]
                rfl
            have e : H.length = l := by have := HNH.out.2 (by omega); omega
            have h1 := HPA.out
            rw [← e] at h1
            exact end_may HLK.out HW.out (by omega) h1 (by rw [e, HSS.out]; exact hft)
          subst hlen
          clear hft
          generalize cC zs l = c at *
          generalize cS zs l = f at *
          generalize tot zs = T at *
          have hdci : ¬ (d : Int) < (c : Int) := by omega
          go_wp2_with fail
          try rw [Exit.noGoto_ret]
          go_ret3
          exact ⟨0, 0, 0, rfl, .inr (.inl ⟨HFM.out.1, HFM.out.2, rfl, rfl, rfl⟩), rfl⟩
        · have hlnlt : l < n := by omega
          have hlni : ¬ (l : Int) = (n : Int) := by omega
          have HBT := bit_at (L := H.take n) (l := l) (by simp; omega)
          have eg : (H.take n).getD l false = H.getD l false := by simp [List.getD, hlnlt]
          rw [eg] at HBT
          have HVS : Hid (vB H (l + 1) = 2 * vB H l + (H.getD l false).toNat) := vB_succ (by omega)
          have hbt2 : (H.getD l false).toNat < 2 := Bool.toNat_lt _
          generalize (H.getD l false).toNat = bt at *
          have hrow : num (H.take n) < 32768 := Nat.lt_of_lt_of_le (num_lt _) (Nat.pow_le_pow_right (n := 2) (j := 15) (by decide) (by simp; omega))
          have hsh := shr_nat (num (H.take n)) l
          generalize num (H.take n) = row at *
          have hrd : row / 2 ^ l ≤ row := Nat.div_le_self _ _
          obtain ⟨rd, hrde⟩ : ∃ rd, rd = row / 2 ^ l := ⟨_, rfl⟩
          rw [← hrde] at hsh HBT hrd
          have hand : bits .and .u64 (rd : Int) 1 = (bt : Int) := by rw [and_one' rd (by omega), HBT]
          obtain ⟨e, he⟩ : ∃ e, e = d - cC zs l := ⟨_, rfl⟩
          have HE : Hid (e + cC zs l = d) := by show _ = _; omega
          have re : (d : Int) - (cC zs l : Int) = (e : Int) := by have := HE.out; omega
          have hor := or_bit64 (x := e) hbt2 (by omega)
          obtain ⟨y, hy⟩ : ∃ y, y = 2 * e + bt := ⟨_, rfl⟩
          rw [← hy] at hor
          have HYY : Hid (y = 2 * e + bt) := hy
          have heb : e ≤ 32768 := by omega
          have hyb : y ≤ 100000 := by omega
          clear hy he hrde HBT eg hft
          have hdci : ¬ (d : Int) < (cC zs l : Int) := by omega
          have HNX : Hid (y + cF zs (l + 1) = vB H (l + 1)) := by
            have h1 := HQ.out.2.1
            have h2 := HCF.out
            have h3 := HVS.out
            have h4 := HE.out
            have h5 := HYY.out
            show _ = _
            omega
          generalize cC zs l = c at *
          have rf : (cS zs l : Int) + (c : Int) = (cS zs (l + 1) : Int) := by have := HSS.out; omega
          have hsb2 : cS zs (l + 1) ≤ 1000 := by have := HSS.out; omega
          obtain ⟨f2, hf2⟩ : ∃ f2, f2 = cS zs (l + 1) := ⟨_, rfl⟩
          have HF2 : Hid (f2 = cS zs (l + 1)) := hf2
          rw [← hf2] at rf hsb2
          clear hf2
          generalize cS zs l = f at *
          generalize tot zs = T at *
          rw [rf] at hfti
          go_wp2_with fail
          go_roundw
          case rel => exact ⟨l + 1, y, by omega, rfl, rfl, rfl, rfl, by rw [HF2.out], by go_num, trivial, (⟨by omega, HNX.out, fun j hj => HPA.out j (by omega)⟩ : _ ∧ _)⟩
          case measure => simp [intOf]; omega
set_option maxRecDepth 100000 in
set_option maxHeartbeats 1000000 in
theorem next8 (b most : Nat) (zs : List Int) (br : Nat) (H : List Bool) (t : Nat) (w : World) (hD : De8 w b most zs) (hR : Rd w br H t) (ht : t ≤ 4611686018427387000) :
    Calls Tryd.prog 42 #[.pointer (some ⟨b, 347, none⟩), .pointer (some ⟨br, 0, none⟩)] w fun e w' => NxtQ w b br zs H t e w' := by
  obtain ⟨S, hS, hY, hb⟩ := hD.row
  have c0 := hb.at_ 0 (by simp [dl])
  have e0 : (dl most zs S).getD 0 0 = (most : Int) := rfl
  rw [e0, show 347 + 0 = 347 from rfl] at c0
  have hm0 : ¬ (most : Int) = 0 := by have := hD.mo; omega
  have CH := has_any br H t w hR
  obtain ⟨n, hn⟩ : ∃ n, n = min H.length 15 := ⟨_, rfl⟩
  have HN : Hid (n = min H.length 15) := hn
  have hth : there H (n : Int) = true := there_of (by omega) (by omega)
  have CP := peek_any br H t (n : Int) w hR
  rw [hth] at CP
  have hV : takeV H (n : Int) = num (H.take n) := by unfold takeV; rw [hth]; simp
  rw [hV] at CP
  have CF := find8 b most zs H n HN w hD
  have hle := hR.le
  have HCT : Hid (∀ s, Beg zs H s → ln zs s ≤ 15 → Calls Tryd.prog 40 #[.pointer (some ⟨br, 0, none⟩), .int .i64 (ln zs s : Int)] w fun e w' => (∃ x y, e = .returned (.tuple #[x, y])) ∧ Rd w' br (H.drop (ln zs s)) (t + ln zs s) ∧ w.grownBy w' (some br)) := by
    intro s hs hl
    have := take_any br H t (ln zs s : Int) w hR (by omega)
    have h1 : there H (ln zs s : Int) = true := there_of (by omega) hs.2.2.1
    refine this.mono ?_
    rintro e w' ⟨rfl, h2, h3⟩
    refine ⟨⟨_, _, rfl⟩, ?_, h3⟩
    unfold takeL takeT at h2
    rw [h1] at h2
    simpa using h2
  have HLN : Hid (∀ s, Beg zs H s → 0 < ln zs s ∧ ln zs s ≤ 15) := fun s hs => ⟨ln_pos (errS_zero (errC_zero hD.ok).1).2 hs.2.1, ((errS_zero (errC_zero hD.ok).1).2.ln s).2⟩
  clear e0 hV hth
  by_cases hc : H.length ≤ 15
  · have en : (H.length : Int) = (n : Int) := by omega
    rw [en] at CH
    have hci : (n : Int) ≤ 15 := by omega
    have hci2 : ¬ (15 : Int) < (n : Int) := by omega
    clear hn hc en hle
    go_enter Tryd.func42, Tryd.ntmps42
    go_wp2_with fail
    refine CH.mono ?_
    rintro e w1 ⟨rfl, hw1⟩
    subst w1
    go_wp2_with fail
    refine CP.mono ?_
    rintro e w1 ⟨rfl, hw1⟩
    subst w1
    go_wp2_with fail
    refine CF.mono ?_
    rintro e w1 ⟨sy, le, er, rfl, hF, hw1⟩
    subst w1
    rcases hF with ⟨s, h1, rfl, rfl, rfl⟩ | ⟨h1, h2, rfl, rfl, rfl⟩ | ⟨h1, h2, rfl, rfl, rfl⟩
    · have CT := HCT.out s h1 (HLN.out s h1).2
      have HB : Hid (Beg zs H s) := h1
      have hl0 : ¬ (ln zs s : Int) = 0 := by have := (HLN.out s h1).1; omega
      clear h1
      go_wp2_with fail
      refine CT.mono ?_
      rintro e w1 ⟨⟨x, y, rfl⟩, h3, h4⟩
      go_wp2_with fail
      go_ret3
      exact ⟨.inl ⟨s, HB.out, rfl, h3⟩, Kp.grown h4 (fun i hi => by cases hi; rfl)⟩
    · have HB : Hid ((∀ s, ¬ Beg zs H s) ∧ May zs H) := ⟨h1, h2⟩
      clear h1 h2
      go_wp2_with fail
      go_ret3
      exact ⟨.inr (.inl ⟨HB.out.1, HB.out.2, rfl, hR⟩), Kp.refl _ _⟩
    · have HB : Hid ((∀ s, ¬ Beg zs H s) ∧ ¬ May zs H) := ⟨h1, h2⟩
      clear h1 h2
      go_wp2_with fail
      go_ret3
      exact ⟨.inr (.inr ⟨HB.out.1, HB.out.2, rfl, hR⟩), Kp.refl _ _⟩
  · obtain rfl : n = 15 := by omega
    obtain ⟨m, em⟩ : ∃ m, m = H.length := ⟨_, rfl⟩
    rw [← em] at CH
    have hci : ¬ (m : Int) ≤ 15 := by omega
    have hci2 : (15 : Int) < (m : Int) := by omega
    have e15 : ((15 : Nat) : Int) = 15 := rfl
    rw [e15] at CP CF
    clear hn e15 em hc hle
    go_enter Tryd.func42, Tryd.ntmps42
    go_wp2_with fail
    refine CH.mono ?_
    rintro e w1 ⟨rfl, hw1⟩
    subst w1
    go_wp2_with fail
    refine CP.mono ?_
    rintro e w1 ⟨rfl, hw1⟩
    subst w1
    go_wp2_with fail
    refine CF.mono ?_
    rintro e w1 ⟨sy, le, er, rfl, hF, hw1⟩
    subst w1
    rcases hF with ⟨s, h1, rfl, rfl, rfl⟩ | ⟨h1, h2, rfl, rfl, rfl⟩ | ⟨h1, h2, rfl, rfl, rfl⟩
    · have CT := HCT.out s h1 (HLN.out s h1).2
      have HB : Hid (Beg zs H s) := h1
      have hl0 : ¬ (ln zs s : Int) = 0 := by have := (HLN.out s h1).1; omega
      clear h1
      go_wp2_with fail
      refine CT.mono ?_
      rintro e w1 ⟨⟨x, y, rfl⟩, h3, h4⟩
      go_wp2_with fail
      go_ret3
      exact ⟨.inl ⟨s, HB.out, rfl, h3⟩, Kp.grown h4 (fun i hi => by cases hi; rfl)⟩
    · have HB : Hid ((∀ s, ¬ Beg zs H s) ∧ May zs H) := ⟨h1, h2⟩
      clear h1 h2
      go_wp2_with fail
      go_ret3
      exact ⟨.inr (.inl ⟨HB.out.1, HB.out.2, rfl, hR⟩), Kp.refl _ _⟩
    · have HB : Hid ((∀ s, ¬ Beg zs H s) ∧ ¬ May zs H) := ⟨h1, h2⟩
      clear h1 h2
      go_wp2_with fail
      go_ret3
      exact ⟨.inr (.inr ⟨HB.out.1, HB.out.2, rfl, hR⟩), Kp.refl _ _⟩
set_option maxRecDepth 100000 in
set_option maxHeartbeats 1000000 in
theorem room8 (b n : Nat) (zs : List Int) (w : World) (h : De8 w b n zs) :
    Calls Tryd.prog 23 #[.pointer (some ⟨b, 347, none⟩)] w fun e w' => e = .returned (.int .i64 (8 * (n : Int) + 256)) ∧ w' = w := by
  obtain ⟨S, h1, h2, h3⟩ := h.row
  have c0 := h3.at_ 0 (by simp [dl])
  have e0 : (dl n zs S).getD 0 0 = (n : Int) := rfl
  rw [e0, show 347 + 0 = 347 from rfl] at c0
  have hm := h.mo
  have hn0 : ¬ (n : Int) = 0 := by omega
  clear e0
  go_enter Tryd.func23, Tryd.ntmps23
  go_wp2_with fail
  go_ret
  exact ⟨rfl, rfl⟩
end Go.Proofs.YthcmebmohhajaaaDoor

namespace Go.Proofs.YthcmebmohhajaaaDoor
open Go.RowKit
set_option linter.unusedVariables false

/-- A block that holds a reader of lengths: what stands ahead of its decoder, and the code that is loaded. -/
structure Rb8 (w : World) (b : Nat) (pre : List Value) (zs : List Int) : Prop where
  ok : errC zs = 0
  len : pre.length = 347
  row : ∃ S, S.length = 288 ∧ SymOk zs S zs.length ∧ w.heap[b]? = some (.cells (pre ++ (dl 19 zs S).map (Value.int .i64)).toArray 73 (0, 0))
theorem cel_of_block8 {w : World} {b : Nat} {pre : List Value} {L : List Int} {t : TypeId} (h : w.heap[b]? = some (.cells (pre ++ L.map (Value.int .i64)).toArray t (0, 0))) (hp : pre.length = 347) : Cel8 w b 347 L := ⟨fun i hi => by
  refine (cell_of_row w _ (347 + i) _ _ _ h).trans ?_
  simp [hp, List.getD, hi]⟩
theorem pre_cell8 {w : World} {b : Nat} {pre post : List Value} {t : TypeId} (h : w.heap[b]? = some (.cells (pre ++ post).toArray t (0, 0))) {i : Nat} {v : Value} (hv : pre[i]? = some v) : w.cell? ⟨b, i, none⟩ = some v := by
  refine (cell_of_row w _ i _ _ _ h).trans ?_
  have := (List.getElem?_eq_some_iff.1 hv).1
  simp [List.getElem?_append_left this, hv]
theorem Rb8.de {w : World} {b : Nat} {pre : List Value} {zs : List Int} (h : Rb8 w b pre zs) : De8 w b 19 zs := by
  obtain ⟨S, h1, h2, h3⟩ := h.row
  exact ⟨h.ok, ⟨by omega, by omega⟩, S, h1, h2, cel_of_block8 h3 h.len⟩
theorem Rb8.lt {w : World} {b : Nat} {pre : List Value} {zs : List Int} (h : Rb8 w b pre zs) : b < w.heap.size := by
  obtain ⟨S, _, _, h⟩ := h.row
  exact (Array.getElem?_eq_some_iff.1 h).1
theorem Rb8.keep {w w' : World} {b : Nat} {pre : List Value} {zs : List Int} (h : Rb8 w b pre zs) (hb : w'.heap[b]? = w.heap[b]?) : Rb8 w' b pre zs := by
  obtain ⟨S, h1, h2, h3⟩ := h.row
  exact ⟨h.ok, h.len, S, h1, h2, hb.trans h3⟩
theorem dl_load8 {pre : List Value} {m : Int} {T0 T : List Int} (hp : pre.length = 347) (h0 : T0.length = 305) (h : T.length = 305) : (List.take 348 (pre ++ (m :: T0).map (Value.int .i64)) ++ ((arr T).toList ++ List.drop (348 + (arr T).size) (pre ++ (m :: T0).map (Value.int .i64)))).toArray = (pre ++ (m :: T).map (Value.int .i64)).toArray := by
  rw [arr_size, h]
  have e : List.drop (348 + 305) (pre ++ (m :: T0).map (Value.int .i64)) = [] := List.drop_of_length_le (by simp [hp, h0])
  have e2 : List.take 348 (pre ++ (m :: T0).map (Value.int .i64)) = pre ++ [Value.int .i64 m] := by
    rw [List.take_append, hp, List.take_of_length_le (by omega)]
    simp
  rw [e, e2]
  simp [arr]
def LdQ8 (w : World) (b : Nat) (pre : List Value) (zs0 zs : List Int) (e : Ending) (w' : World) : Prop := e = .returned (.int .i64 (errD 19 zs)) ∧ Rb8 w' b pre (if errD 19 zs = 0 then zs else zs0) ∧ Kp (fun k => k = b) w w'
set_option maxRecDepth 100000 in
set_option maxHeartbeats 1000000 in
theorem load8 (b : Nat) (pre : List Value) (zs0 : List Int) (a : Option Addr) (zs : List Int) (n cap : Nat) (hn : Hid (zs.length = n)) (w : World) (hD : Rb8 w b pre zs0) (hs : SegZ w a zs) (hl : n ≤ 9223372036854775807) :
    Calls Tryd.prog 62 #[.pointer (some ⟨b, 347, none⟩), .slice a n cap] w fun e w' => LdQ8 w b pre zs0 zs e w' := by
  obtain ⟨S0, hS0, hY0, hb0⟩ := hD.row
  have hpl := hD.len
  have c0 := (cel_of_block8 hb0 hpl).at_ 0 (by simp [dl])
  have e0 : (dl 19 zs0 S0).getD 0 0 = 19 := rfl
  rw [e0, show 347 + 0 = 347 from rfl] at c0
  clear e0
  have hbl := hD.lt
  by_cases hbig : 19 < n
  · have hbi : (19 : Int) < (n : Int) := by omega
    have HE : Hid (errD 19 zs = 50) := by show _ = _; unfold errD; rw [hn.out, if_pos hbig]
    go_enter Tryd.func62, Tryd.ntmps62
    go_wp2_with fail
    go_ret
    exact ⟨by rw [HE.out]; rfl, by rw [HE.out]; exact hD, Kp.refl _ _⟩
  · have hbi : ¬ (19 : Int) < (n : Int) := by omega
    have HE : Hid (errD 19 zs = errC zs) := by show _ = _; unfold errD; rw [hn.out, if_neg hbig]
    have HC := checked_any a zs n cap hn w hs hl
    have key : ∀ E : Int, E = 50 ∨ E = 51 ∨ E = 52 → errC zs = E → Calls Tryd.prog 62 #[.pointer (some ⟨b, 347, none⟩), .slice a n cap] w fun e w' => LdQ8 w b pre zs0 zs e w' := by
      intro E hE hEE
      have HEE : Hid (errC zs = E) := hEE
      rw [hEE] at HC
      clear hEE
      rcases hE with rfl | rfl | rfl
      all_goals
        go_enter Tryd.func62, Tryd.ntmps62
        go_wp2_with fail
        refine HC.mono ?_
        rintro e W1 ⟨X, hX16, hXc, rfl, B1⟩
        have HX : Hid (X.length = 16) := hX16
        clear hXc hX16
        have B2 : Below w.heap.size w (W1.alloc (.cells (arr X) 63)) := B1.alloc B1.size _
        go_wp2_with (first
          | (refine wpList_store_row rfl 63 _ _ rfl W1.heap.size (arr X) rfl rfl _ zero16 (heap_alloc_new W1 _) (arr_info HX.out) (by rw [arr_size, HX.out]; rfl) (arr_one _) ?_; rw [World.setRow_alloc_new]))
        go_ret
        exact ⟨by rw [HE.out, HEE.out]; rfl, by rw [HE.out, HEE.out]; exact hD.keep (B2.block b hbl), Kp.of_below B2⟩
    rcases errC_cases zs with hok | h | h | h
    · have HOK : Hid (errC zs = 0) := hok
      rw [hok] at HC
      clear hok key
      have HLA : Hid (∀ W, Below w.heap.size w W → Calls Tryd.prog 80 #[.slice a n cap, .agg (arr (cnts zs))] W fun e w' => ∃ S : List Int, S.length = 288 ∧ SymOk zs S zs.length ∧ e = .returned (.agg (arr (tbl zs S))) ∧ Below W.heap.size W w') := fun W hW => laid_any a zs n cap hn W (hs.old hW) HOK
      go_enter Tryd.func62, Tryd.ntmps62
      go_wp2_with fail
      refine HC.mono ?_
      rintro e W1 ⟨X, hX16, hXc, rfl, B1⟩
      obtain rfl := hXc trivial
      clear hXc hX16
      have B2 : Below w.heap.size w (W1.alloc (.cells (arr (cnts zs)) 63)) := B1.alloc B1.size _
      have ho2 := new_arr (w := W1) (A := cnts zs) (t := 63)
      go_wp2_with (first
        | (refine wpList_store_row rfl 63 _ _ rfl W1.heap.size (arr (cnts zs)) rfl rfl _ zero16 (heap_alloc_new W1 _) (arr_info (cnts_len _)) (by rw [arr_size, cnts_len]; rfl) (arr_one _) ?_; rw [World.setRow_alloc_new])
        | (refine wpList_load_row rfl 63 _ rfl W1.heap.size rfl _ _ _ _ ho2 Tryd.underlying63 rfl (arr_info (cnts_len _)) ?_))
      generalize W1.alloc (.cells (arr (cnts zs)) 63) = W2 at *
      refine (HLA.out _ B2).mono ?_
      rintro e W3 ⟨S, hS, hY, rfl, B3⟩
      have HS : Hid (S.length = 288 ∧ SymOk zs S zs.length) := ⟨hS, hY⟩
      clear hS hY
      have B23 : Below w.heap.size w W3 := B2.trans (B3.mono B2.size)
      have hb3 := (B23.block b hbl).trans hb0
      go_wp2_with (first
        | (refine wpList_store_at rfl 66 _ _ rfl b 348 (arr (tbl zs S)) rfl rfl _ _ hb3 (info305 (tbl_len HS.out.1)) (by rw [arr_size, tbl_len HS.out.1]; simp [hpl, dl, tbl_len hS0]) (arr_one _) ?_))
      have hdl : (List.take 348 (pre ++ (dl 19 zs0 S0).map (Value.int .i64)) ++ ((arr (tbl zs S)).toList ++ List.drop (348 + (arr (tbl zs S)).size) (pre ++ (dl 19 zs0 S0).map (Value.int .i64)))).toArray = (pre ++ (dl 19 zs S).map (Value.int .i64)).toArray := dl_load8 hpl (tbl_len hS0) (tbl_len HS.out.1)
      rw [hdl]
      go_ret
      have hR := setRow_heap W3 b _ ((pre ++ (dl 19 zs S).map (Value.int .i64)).toArray) _ _ hb3
      refine ⟨by rw [HE.out, HOK.out]; rfl, ?_, ?_⟩
      · rw [HE.out, HOK.out, if_pos rfl]
        exact ⟨HOK.out, hpl, S, HS.out.1, HS.out.2, hR⟩
      · exact (Kp.of_below B23).trans (Kp.grown (S := fun k => k = b) (grown_setRow W3 b _) (fun i hi => by cases hi; rfl)) (fun _ _ h => h)
    · exact key 50 (.inl rfl) h
    · exact key 51 (.inr (.inl rfl)) h
    · exact key 52 (.inr (.inr rfl)) h
end Go.Proofs.YthcmebmohhajaaaDoor
