import Derived.Test.YtoeabfcnfofbiaaDoorPu
import Derived.Test.YtoeabfcnfofbiaaDoorPs
import Derived.Test.YtoeabfcnfofbiaaDoorPq
namespace Go.Proofs.YtoeabfcnfofbiaaDoor
open Go.RowKit
set_option linter.unusedVariables false

theorem i64_or_nat (a b : Nat) (ha : a < 4611686018427387904) (hb : b < 4611686018427387904) : bits .or .i64 (a : Int) (b : Int) = ((a ||| b : Nat) : Int) := by
  have hx : a ||| b < 2 ^ 62 := Nat.or_lt_two_pow (by omega) (by omega)
  show IntKind.i64.wrap ((BitVec.ofInt 64 (a : Int) ||| BitVec.ofInt 64 (b : Int)).toNat : Int) = _
  rw [BitVec.toNat_or, ofInt_u64 a (by omega), ofInt_u64 b (by omega)]
  exact IntWalk.i64_in _ (by omega)
theorem or_bit64 {x b : Nat} (h : b < 2) (hx : x ≤ 1000000) : bits .or .i64 ((x : Int) * 2) (b : Int) = ((2 * x + b : Nat) : Int) := by
  rw [show ((x : Int) * 2) = ((2 ^ 1 * x : Nat) : Int) by simp; omega, i64_or_nat _ _ (by omega) (by omega), ← Nat.two_pow_add_eq_or_of_lt (by omega : b < 2 ^ 1)]
theorem bit_at {L : List Bool} {l : Nat} (h : l < L.length) : num L / 2 ^ l % 2 = (L.getD l false).toNat := by
  rw [← num_drop L l (by omega), List.drop_eq_getElem_cons h]
  have hb : (L[l]).toNat < 2 := Bool.toNat_lt _
  simp only [num]
  simp [List.getD, h]
  omega

set_option maxRecDepth 100000 in
set_option maxHeartbeats 1000000 in
theorem find_any (b most : Nat) (zs : List Int) (H : List Bool) (n : Nat) (hn : Hid (n = min H.length 15)) (w : World) (hD : De w b most zs) :
    Calls Tryd.prog 101 #[.pointer (some ⟨b, 1, none⟩), .int .u64 (num (H.take n) : Int), .int .i64 (n : Int)] w fun e w' => ∃ sy le er, e = .returned (.tuple #[.int .i64 sy, .int .i64 le, .int .i64 er]) ∧ FindQ zs H sy le er ∧ w' = w := by
  obtain ⟨S, hS, hY, hb⟩ := hD.row
  have HL := errS_zero (errC_zero hD.ok).1
  have HLK : Hid (LOk zs) := HL.2
  go_enter Tryd.func101, Tryd.ntmps101
  go_wp2_with fail
  go_step3
  go_wp2_with fail
  go_step3
  go_wp2_with fail
  have hn15 : n ≤ 15 := by have := hn.out; omega
  have HNH : Hid (n ≤ H.length ∧ (n < 15 → n = H.length)) := ⟨by have := hn.out; omega, by have := hn.out; omega⟩
  have HW : Hid (spc zs = 32768 ∨ tot zs = 0 ∨ (tot zs = 1 ∧ cC zs 1 = 1)) := by
    have h1 := (errC_zero hD.ok).2
    unfold errR at h1
    by_cases c1 : 32768 < spc zs
    · rw [if_pos c1] at h1; cases h1
    · rw [if_neg c1] at h1
      by_cases c2 : spc zs = 32768 ∨ tot zs = 0 ∨ (tot zs = 1 ∧ cC zs 1 = 1)
      · exact c2
      · rw [if_neg c2] at h1; cases h1
  have hbnd := cC_288 (errC_zero hD.ok).1
  have HTT : Hid (tot zs ≤ 288) := Nat.le_trans (tot_le zs HL.2) HL.1
  have ct := arr_cell hb (i := 1 + 304) (by simp [dl, tbl_len hS])
  rw [dl_get, tbl_tot hS, show 1 + 304 = 305 from rfl] at ct
  have HY : Hid (SymOk zs S zs.length) := hY
  have htt := HTT.out
  clear HL hY
  go_loopw [9, 10, 11, 12, 13, 16] (fun t9 t10 t11 tb tsh tl wr => ∃ l d : Nat, l ≤ 16 ∧ t9 = .int .i64 0 ∧ t10 = .int .i64 0 ∧ t11 = .int .i64 0 ∧ tb = .int .i64 (d : Int) ∧ tsh = .int .i64 (cS zs l : Int) ∧ tl = .int .i64 (l : Int) ∧ wr = w ∧ Hid (l ≤ n ∧ d + cF zs l = vB H l ∧ ∀ j, j < l → cF zs j + cC zs j ≤ vB H j)) (fun _ _ _ _ _ tl _ => 16 - (intOf tl).toNat)
  case atStart => exact ⟨0, 0, by omega, rfl, rfl, rfl, rfl, rfl, rfl, rfl, (⟨by omega, by rw [vB_zero]; rfl, fun j hj => by omega⟩ : _ ∧ _)⟩
  case round =>
    obtain ⟨l, d, hl16, rfl, rfl, rfl, rfl, rfl, rfl, hwr, HQ⟩ := hrel
    subst hwr
    have hln : l ≤ n := HQ.out.1
    have hl15 : l ≤ 15 := by omega
    have hli : (l : Int) < 16 := by omega
    have cc := arr_cell hb (i := 1 + l) (by simp [dl, tbl_len hS]; omega)
    rw [dl_get, tbl_cnt (by omega)] at cc
    have hvl : vB H l < 32768 := Nat.lt_of_lt_of_le (vB_lt H l) (Nat.pow_le_pow_right (n := 2) (j := 15) (by decide) hl15)
    have hdb : d ≤ 32768 := by have := HQ.out.2.1; omega
    have hcb := hbnd l
    have hsb : cS zs l ≤ 288 := Nat.le_trans (cS_mono zs (b := 16) (by omega)) htt
    have HSS : Hid (cS zs (l + 1) = cS zs l + cC zs l) := cS_succ zs l
    have HCF : Hid (cF zs (l + 1) = 2 * (cF zs l + cC zs l)) := cF_succ zs l
    by_cases hdc : d < cC zs l
    · have hl0 : 0 < l := by
        rcases Nat.eq_zero_or_pos l with rfl | h
        · rw [cC_zero] at hdc; omega
        · exact h
      have HRK : Hid (∃ s, s < zs.length ∧ zs.getD s 0 = (l : Int) ∧ rk zs s = d) := rk_has zs (l : Int) d (by rw [← cC_pos zs hl0]; exact hdc)
      obtain ⟨s, hs1, hs2, hs3⟩ := HRK.out
      have HSF : Hid (Beg zs H s ∧ ln zs s = l ∧ S.getD (cS zs l + d) 0 = (s : Int)) := by
        have hln : ln zs s = l := by unfold ln; rw [hs2]; simp
        have s0 : zs.getD s 0 ≠ 0 := by rw [hs2]; omega
        refine ⟨⟨hs1, s0, ?_, ?_⟩, hln, ?_⟩
        · rw [hln]; have := HNH.out.1; omega
        · rw [hln]; unfold cd; rw [if_neg s0, hln, hs3]; have := HQ.out.2.1; omega
        · have := HY.out s hs1 s0
          rw [hln, hs3] at this
          exact this
      have hpb : cS zs l + d < 288 := by
        have h1 : cS zs (l + 1) ≤ cS zs 16 := cS_mono zs (by omega)
        have h2 := HSS.out
        have h3 := HTT.out
        unfold tot at h3
        omega
      have cs := arr_cell hb (i := 1 + (16 + (cS zs l + d))) (by simp [dl, tbl_len hS]; omega)
      rw [dl_get, tbl_sym hS (by omega), HSF.out.2.2, show 1 + (16 + (cS zs l + d)) = 17 + (cS zs l + d) by omega] at cs
      clear HRK hs1 hs2 hs3
      generalize cC zs l = c at *
      generalize cS zs l = f at *
      obtain ⟨p, hp⟩ : ∃ p, p = f + d := ⟨_, rfl⟩
      have r1 : (f : Int) + (d : Int) = (p : Int) := by omega
      have hpi : (p : Int) < 288 := by omega
      rw [← hp] at cs
      have hpb2 : p < 288 := by omega
      clear hp hpb
      have hdci : (d : Int) < (c : Int) := by omega
      go_wp2_with fail
      try rw [Exit.noGoto_ret]
      go_ret3
      exact ⟨s, l, 0, rfl, .inl ⟨s, HSF.out.1, rfl, by rw [HSF.out.2.1], rfl⟩, rfl⟩
    · have HPA : Hid (Past zs H l) := fun j hj => by
        rcases Nat.lt_or_ge j l with c | c
        · exact HQ.out.2.2 j c
        · obtain rfl : j = l := by omega
          have := HQ.out.2.1
          omega
      have hln2 := HNH.out.1
      by_cases hft : cS zs l + cC zs l = tot zs
      · have HFT : Hid _ := end_none HLK.out (show l ≤ H.length by omega) HPA.out (HSS.out.trans hft)
        have hfti : (cS zs l : Int) + (cC zs l : Int) = (tot zs : Int) := by omega
        clear hft
        generalize cC zs l = c at *
        generalize cS zs l = f at *
        generalize tot zs = T at *
        have hdci : ¬ (d : Int) < (c : Int) := by omega
        go_wp2_with fail
        try rw [Exit.noGoto_ret]
        go_ret3
        exact ⟨0, 0, 54, rfl, .inr (.inr ⟨HFT.out.1, HFT.out.2, rfl, rfl, rfl⟩), rfl⟩
      · have hfti : ¬ (cS zs l : Int) + (cC zs l : Int) = (tot zs : Int) := by omega
        by_cases hlen : l = n
        · have HFM : Hid ((∀ s, ¬ Beg zs H s) ∧ May zs H) := by
            have hl14 : l < 15 := by
              rcases Nat.lt_or_ge l 15 with c | c
              · exact c
              · exfalso
                apply hft
                rw [← HSS.out, show l = 15 by omega]
                rfl
            have e : H.length = l := by have := HNH.out.2 (by omega); omega
            have h1 := HPA.out
            rw [← e] at h1
            exact end_may HLK.out HW.out (by omega) h1 (by rw [e, HSS.out]; exact hft)
          subst hlen
          clear hft
          generalize cC zs l = c at *
          generalize cS zs l = f at *
          generalize tot zs = T at *
          have hdci : ¬ (d : Int) < (c : Int) := by omega
          go_wp2_with fail
          try rw [Exit.noGoto_ret]
          go_ret3
          exact ⟨0, 0, 0, rfl, .inr (.inl ⟨HFM.out.1, HFM.out.2, rfl, rfl, rfl⟩), rfl⟩
        · have hlnlt : l < n := by omega
          have hlni : ¬ (l : Int) = (n : Int) := by omega
          have HBT := bit_at (L := H.take n) (l := l) (by simp; omega)
          have eg : (H.take n).getD l false = H.getD l false := by simp [List.getD, hlnlt]
          rw [eg] at HBT
          have HVS : Hid (vB H (l + 1) = 2 * vB H l + (H.getD l false).toNat) := vB_succ (by omega)
          have hbt2 : (H.getD l false).toNat < 2 := Bool.toNat_lt _
          generalize (H.getD l false).toNat = bt at *
          have hrow : num (H.take n) < 32768 := Nat.lt_of_lt_of_le (num_lt _) (Nat.pow_le_pow_right (n := 2) (j := 15) (by decide) (by simp; omega))
          have hsh := shr_nat (num (H.take n)) l
          generalize num (H.take n) = row at *
          have hrd : row / 2 ^ l ≤ row := Nat.div_le_self _ _
          obtain ⟨rd, hrde⟩ : ∃ rd, rd = row / 2 ^ l := ⟨_, rfl⟩
          rw [← hrde] at hsh HBT hrd
          have hand : bits .and .u64 (rd : Int) 1 = (bt : Int) := by rw [and_one' rd (by omega), HBT]
          obtain ⟨e, he⟩ : ∃ e, e = d - cC zs l := ⟨_, rfl⟩
          have HE : Hid (e + cC zs l = d) := by show _ = _; omega
          have re : (d : Int) - (cC zs l : Int) = (e : Int) := by have := HE.out; omega
          have hor := or_bit64 (x := e) hbt2 (by omega)
          obtain ⟨y, hy⟩ : ∃ y, y = 2 * e + bt := ⟨_, rfl⟩
          rw [← hy] at hor
          have HYY : Hid (y = 2 * e + bt) := hy
          have heb : e ≤ 32768 := by omega
          have hyb : y ≤ 100000 := by omega
          clear hy he hrde HBT eg hft
          have hdci : ¬ (d : Int) < (cC zs l : Int) := by omega
          have HNX : Hid (y + cF zs (l + 1) = vB H (l + 1)) := by
            have h1 := HQ.out.2.1
            have h2 := HCF.out
            have h3 := HVS.out
            have h4 := HE.out
            have h5 := HYY.out
            show _ = _
            omega
          generalize cC zs l = c at *
          have rf : (cS zs l : Int) + (c : Int) = (cS zs (l + 1) : Int) := by have := HSS.out; omega
          have hsb2 : cS zs (l + 1) ≤ 1000 := by have := HSS.out; omega
          obtain ⟨f2, hf2⟩ : ∃ f2, f2 = cS zs (l + 1) := ⟨_, rfl⟩
          have HF2 : Hid (f2 = cS zs (l + 1)) := hf2
          rw [← hf2] at rf hsb2
          clear hf2
          generalize cS zs l = f at *
          generalize tot zs = T at *
          rw [rf] at hfti
          go_wp2_with fail
          go_roundw
          case rel => exact ⟨l + 1, y, by omega, rfl, rfl, rfl, rfl, by rw [HF2.out], by go_num, trivial, (⟨by omega, HNX.out, fun j hj => HPA.out j (by omega)⟩ : _ ∧ _)⟩
          case measure => simp [intOf]; omega
end Go.Proofs.YtoeabfcnfofbiaaDoor

namespace Go.Proofs.YtoeabfcnfofbiaaDoor
open Go.RowKit
set_option linter.unusedVariables false

def NxtQ (w : World) (b br : Nat) (zs : List Int) (H : List Bool) (t : Nat) (e : Ending) (w' : World) : Prop :=
  ((∃ s, Beg zs H s ∧ e = .returned (.tuple #[.int .i64 (s : Int), .bool true, .int .i64 0]) ∧ Rd w' br (H.drop (ln zs s)) (t + ln zs s)) ∨ ((∀ s, ¬ Beg zs H s) ∧ May zs H ∧ e = .returned (.tuple #[.int .i64 0, .bool false, .int .i64 0]) ∧ Rd w' br H t) ∨ ((∀ s, ¬ Beg zs H s) ∧ ¬ May zs H ∧ e = .returned (.tuple #[.int .i64 0, .bool false, .int .i64 54]) ∧ Rd w' br H t)) ∧ Kp (fun k => k = br) w w'

set_option maxRecDepth 100000 in
set_option maxHeartbeats 1000000 in
theorem next5_any (b most : Nat) (zs : List Int) (br : Nat) (H : List Bool) (t : Nat) (w : World) (hD : De w b most zs) (hR : Rd w br H t) (ht : t ≤ 4611686018427387000) :
    Calls Tryd.prog 83 #[.pointer (some ⟨b, 0, none⟩), .pointer (some ⟨br, 0, none⟩)] w fun e w' => NxtQ w b br zs H t e w' := by
  obtain ⟨S, hS, hY, hb⟩ := hD.row
  have c0 := arr_cell hb (i := 0) (by simp [dl])
  have e0 : (dl most zs S).getD 0 0 = (most : Int) := rfl
  rw [e0] at c0
  have hm0 : ¬ (most : Int) = 0 := by have := hD.mo; omega
  have CH := has_any br H t w hR
  obtain ⟨n, hn⟩ : ∃ n, n = min H.length 15 := ⟨_, rfl⟩
  have HN : Hid (n = min H.length 15) := hn
  have hth : there H (n : Int) = true := there_of (by omega) (by omega)
  have CP := peek_any br H t (n : Int) w hR
  rw [hth] at CP
  have hV : takeV H (n : Int) = num (H.take n) := by unfold takeV; rw [hth]; simp
  rw [hV] at CP
  have CF := find_any b most zs H n HN w hD
  have hle := hR.le
  have HCT : Hid (∀ s, Beg zs H s → ln zs s ≤ 15 → Calls Tryd.prog 81 #[.pointer (some ⟨br, 0, none⟩), .int .i64 (ln zs s : Int)] w fun e w' => (∃ x y, e = .returned (.tuple #[x, y])) ∧ Rd w' br (H.drop (ln zs s)) (t + ln zs s) ∧ w.grownBy w' (some br)) := by
    intro s hs hl
    have := take_any br H t (ln zs s : Int) w hR (by omega)
    have h1 : there H (ln zs s : Int) = true := there_of (by omega) hs.2.2.1
    refine this.mono ?_
    rintro e w' ⟨rfl, h2, h3⟩
    refine ⟨⟨_, _, rfl⟩, ?_, h3⟩
    unfold takeL takeT at h2
    rw [h1] at h2
    simpa using h2
  have HLN : Hid (∀ s, Beg zs H s → 0 < ln zs s ∧ ln zs s ≤ 15) := fun s hs => ⟨ln_pos (errS_zero (errC_zero hD.ok).1).2 hs.2.1, ((errS_zero (errC_zero hD.ok).1).2.ln s).2⟩
  clear e0 hV hth
  by_cases hc : H.length ≤ 15
  · have en : (H.length : Int) = (n : Int) := by omega
    rw [en] at CH
    have hci : (n : Int) ≤ 15 := by omega
    have hci2 : ¬ (15 : Int) < (n : Int) := by omega
    clear hn hc en hle
    go_enter Tryd.func83, Tryd.ntmps83
    go_wp2_with fail
    refine CH.mono ?_
    rintro e w1 ⟨rfl, hw1⟩
    subst w1
    go_wp2_with fail
    refine CP.mono ?_
    rintro e w1 ⟨rfl, hw1⟩
    subst w1
    go_wp2_with fail
    refine CF.mono ?_
    rintro e w1 ⟨sy, le, er, rfl, hF, hw1⟩
    subst w1
    rcases hF with ⟨s, h1, rfl, rfl, rfl⟩ | ⟨h1, h2, rfl, rfl, rfl⟩ | ⟨h1, h2, rfl, rfl, rfl⟩
    · have CT := HCT.out s h1 (HLN.out s h1).2
      have HB : Hid (Beg zs H s) := h1
      have hl0 : ¬ (ln zs s : Int) = 0 := by have := (HLN.out s h1).1; omega
      clear h1
      go_wp2_with fail
      refine CT.mono ?_
      rintro e w1 ⟨⟨x, y, rfl⟩, h3, h4⟩
      go_wp2_with fail
      go_ret3
      exact ⟨.inl ⟨s, HB.out, rfl, h3⟩, Kp.grown h4 (fun i hi => by cases hi; rfl)⟩
    · have HB : Hid ((∀ s, ¬ Beg zs H s) ∧ May zs H) := ⟨h1, h2⟩
      clear h1 h2
      go_wp2_with fail
      go_ret3
      exact ⟨.inr (.inl ⟨HB.out.1, HB.out.2, rfl, hR⟩), Kp.refl _ _⟩
    · have HB : Hid ((∀ s, ¬ Beg zs H s) ∧ ¬ May zs H) := ⟨h1, h2⟩
      clear h1 h2
      go_wp2_with fail
      go_ret3
      exact ⟨.inr (.inr ⟨HB.out.1, HB.out.2, rfl, hR⟩), Kp.refl _ _⟩
  · obtain rfl : n = 15 := by omega
    obtain ⟨m, em⟩ : ∃ m, m = H.length := ⟨_, rfl⟩
    rw [← em] at CH
    have hci : ¬ (m : Int) ≤ 15 := by omega
    have hci2 : (15 : Int) < (m : Int) := by omega
    have e15 : ((15 : Nat) : Int) = 15 := rfl
    rw [e15] at CP CF
    clear hn e15 em hc hle
    go_enter Tryd.func83, Tryd.ntmps83
    go_wp2_with fail
    refine CH.mono ?_
    rintro e w1 ⟨rfl, hw1⟩
    subst w1
    go_wp2_with fail
    refine CP.mono ?_
    rintro e w1 ⟨rfl, hw1⟩
    subst w1
    go_wp2_with fail
    refine CF.mono ?_
    rintro e w1 ⟨sy, le, er, rfl, hF, hw1⟩
    subst w1
    rcases hF with ⟨s, h1, rfl, rfl, rfl⟩ | ⟨h1, h2, rfl, rfl, rfl⟩ | ⟨h1, h2, rfl, rfl, rfl⟩
    · have CT := HCT.out s h1 (HLN.out s h1).2
      have HB : Hid (Beg zs H s) := h1
      have hl0 : ¬ (ln zs s : Int) = 0 := by have := (HLN.out s h1).1; omega
      clear h1
      go_wp2_with fail
      refine CT.mono ?_
      rintro e w1 ⟨⟨x, y, rfl⟩, h3, h4⟩
      go_wp2_with fail
      go_ret3
      exact ⟨.inl ⟨s, HB.out, rfl, h3⟩, Kp.grown h4 (fun i hi => by cases hi; rfl)⟩
    · have HB : Hid ((∀ s, ¬ Beg zs H s) ∧ May zs H) := ⟨h1, h2⟩
      clear h1 h2
      go_wp2_with fail
      go_ret3
      exact ⟨.inr (.inl ⟨HB.out.1, HB.out.2, rfl, hR⟩), Kp.refl _ _⟩
    · have HB : Hid ((∀ s, ¬ Beg zs H s) ∧ ¬ May zs H) := ⟨h1, h2⟩
      clear h1 h2
      go_wp2_with fail
      go_ret3
      exact ⟨.inr (.inr ⟨HB.out.1, HB.out.2, rfl, hR⟩), Kp.refl _ _⟩
end Go.Proofs.YtoeabfcnfofbiaaDoor

namespace Go.Proofs.YtoeabfcnfofbiaaDoor
open Go.RowKit
set_option linter.unusedVariables false

theorem WrL.below {w w' : World} {b B N : Nat} {v : Value} {L : List Bool} (h : WrL w b B v L) (hk : Kp (WS b v) w w') (h1 : N ≤ b) (h2 : N ≤ B) : Below N w w' :=
  hk.below (fun i e => by
    rcases e with e | e
    · omega
    · have := (h.own_lt i e).1; omega) (by have := h.b_lt; omega)
theorem heap_new (w : World) (o : Obj) : (w.alloc o).heap[w.heap.size]? = some o := heap_alloc_new w o
theorem toB_five : toB (([] : List Bool) ++ bN 5 3 ++ bN 1 2) = [13] := by
  rw [toB_eq (by decide)]
  rw [show (([] : List Bool) ++ bN 5 3 ++ bN 1 2).drop 8 = [] from by decide, toB_nil]
  decide

end Go.Proofs.YtoeabfcnfofbiaaDoor

namespace Go.Proofs.YtoeabfcnfofbiaaDoor
open Go.RowKit
set_option linter.unusedVariables false

def lent5 (zs : List Int) : List Int := zs ++ [71, 72, 73]
theorem lent5_bd {zs : List Int} (h : ∀ z ∈ zs, -9223372036854775808 ≤ z ∧ z ≤ 9223372036854775807) : ∀ z ∈ lent5 zs, -9223372036854775808 ≤ z ∧ z ≤ 9223372036854775807 := by
  intro z hz
  unfold lent5 at hz
  rw [List.mem_append] at hz
  rcases hz with hz | hz
  · exact h z hz
  · simp at hz; omega
theorem seg_three (w : World) : SegZ (w.alloc (.cells #[.int .i64 71, .int .i64 72, .int .i64 73] 3)) (some ⟨w.heap.size, 0, none⟩) [71, 72, 73] := by
  refine ⟨fun i hi => ⟨w.heap.size, 0, rfl, ?_⟩, getD_bdz (by intro z hz; simp at hz; omega)⟩
  simp only [List.length_cons, List.length_nil] at hi
  match i, hi with
  | 0, _ => simp
  | 1, _ => simp
  | 2, _ => simp
def LenQ5 (w : World) (zs : List Int) (e : Ending) (w' : World) : Prop := ∃ g c, e = .returned (.tuple #[.slice (some ⟨g, 0, none⟩) (lent5 zs).length c, .slice (some ⟨g, 0, none⟩) zs.length c]) ∧ w'.ownsRow w.heap.size 3 1 (.slice (some ⟨g, 0, none⟩) (lent5 zs).length c) (lent5 zs).length ((lent5 zs).map (Value.int .i64)) ∧ (lent5 zs).length ≤ c ∧ Below w.heap.size w w'
end Go.Proofs.YtoeabfcnfofbiaaDoor

namespace Go.Proofs.YtoeabfcnfofbiaaDoor
open Go.RowKit
set_option linter.unusedVariables false

theorem spc_nil : spc [] = 0 := cP_nil 16
theorem tot_nil : tot [] = 0 := cS_nil 16
theorem spc_take {zs : List Int} {k : Nat} (h : zs.length ≤ 288) (hk : LOk (zs.take k)) : spc (zs.take k) ≤ 288 * 16384 := by
  have h1 := spc_tot (zs.take k)
  have h2 := tot_le (zs.take k) hk
  have h3 : (zs.take k).length ≤ 288 := by simp; omega
  have h4 : tot (zs.take k) ≤ 288 := by omega
  exact Nat.le_trans h1 (Nat.mul_le_mul_right _ h4)
theorem LOk.take_of {zs : List Int} {k : Nat} (h : ∀ i, i < k → 0 ≤ zs.getD i 0 ∧ zs.getD i 0 ≤ 15) : LOk (zs.take k) := by
  intro z hz
  obtain ⟨i, hi, rfl⟩ := List.mem_iff_getElem.1 hz
  have hi2 : i < k ∧ i < zs.length := by simp at hi; omega
  have := h i hi2.1
  simpa [List.getD, hi2.2] using this

set_option maxRecDepth 100000 in
set_option maxHeartbeats 1000000 in
theorem r5space_any (a : Option Addr) (zs : List Int) (n cap : Nat) (hn : Hid (zs.length = n)) (w : World) (hs : SegZ w a zs) (hl : n ≤ 9223372036854775807) :
    Calls Tryd.prog 96 #[.slice a n cap] w fun e w' => e = .returned (.tuple #[.int .i64 (spcR zs : Int), .int .i64 (errS zs)]) ∧ w' = w := by
  by_cases h288 : 288 < n
  · have h288i : (288 : Int) < (n : Int) := by omega
    have HE : Hid (errS zs = 50 ∧ spcR zs = 0) := by
      have e := errS_many (show 288 < zs.length by have := hn.out; omega)
      exact ⟨e, by unfold spcR; rw [e, if_neg (by decide)]⟩
    go_enter Tryd.func96, Tryd.ntmps96
    go_wp2_with fail
    go_ret2
    exact ⟨by rw [HE.out.1, HE.out.2]; rfl, rfl⟩
  · have h288i : ¬ (288 : Int) < (n : Int) := by omega
    go_enter Tryd.func96, Tryd.ntmps96
    go_wp2_with fail
    go_loopw [4, 12] (fun tsum tj wr => ∃ j : Nat, j ≤ n ∧ tsum = .int .i64 (spc (zs.take j) : Int) ∧ tj = .int .i64 (j : Int) ∧ wr = w ∧ Hid (∀ i, i < j → 0 ≤ zs.getD i 0 ∧ zs.getD i 0 ≤ 15)) (fun _ tj _ => n - (intOf tj).toNat)
    case atStart => exact ⟨0, by omega, by rw [List.take_zero, spc_nil]; rfl, rfl, rfl, fun i h => by omega⟩
    case round =>
      obtain ⟨j, hj, rfl, rfl, hwr, HOK⟩ := hrel
      subst hwr
      by_cases hjn : j < n
      · have hji : (j : Int) < (n : Int) := by omega
        obtain ⟨b, off, rfl, c0⟩ := hs.at_ j (by have := hn.out; omega)
        have HTK : Hid (zs.take (j + 1) = zs.take j ++ [zs.getD j 0]) := take_snocZ (by have := hn.out; omega)
        have hbd := hs.bd j
        have HZ : Hid (∃ z, z = zs.getD j 0) := ⟨_, rfl⟩
        obtain ⟨z, hz⟩ := HZ.out
        have HZJ : Hid (z = zs.getD j 0) := hz
        rw [← hz] at HTK c0 hbd
        clear HZ hz
        have HER : Hid ((z < 0 ∨ 15 < z) → errS zs = 50 ∧ spcR zs = 0) := by
          intro h
          have e := errS_bad (zs := zs) (i := j) (by have := hn.out; omega) (by rw [← HZJ.out]; omega)
          exact ⟨e, by unfold spcR; rw [e, if_neg (by decide)]⟩
        by_cases hz0 : z < 0
        · go_wp2_with fail
          go_ret2
          exact ⟨by rw [(HER.out (.inl hz0)).1, (HER.out (.inl hz0)).2]; rfl, rfl⟩
        · by_cases hz15 : 15 < z
          · go_wp2_with fail
            go_ret2
            exact ⟨by rw [(HER.out (.inr hz15)).1, (HER.out (.inr hz15)).2]; rfl, rfl⟩
          · have HOK2 : Hid (∀ i, i < j + 1 → 0 ≤ zs.getD i 0 ∧ zs.getD i 0 ≤ 15) := fun i hi => by
              by_cases e : i = j
              · subst e; rw [← HZJ.out]; omega
              · exact HOK.out i (by omega)
            have HSN : Hid (spc (zs.take (j + 1)) = spc (zs.take j) + (if z = 0 then 0 else 2 ^ (15 - z.toNat))) := by
              show _ = _
              rw [HTK.out, spc_snoc _ (by omega)]
            have hsb : spc (zs.take (j + 1)) ≤ 10000000 := Nat.le_trans (spc_take (by have := hn.out; omega) (LOk.take_of HOK2.out)) (by decide)
            have HX : Hid (∃ x, x = spc (zs.take (j + 1))) := ⟨_, rfl⟩
            obtain ⟨x, hx⟩ := HX.out
            have HXX : Hid (x = spc (zs.take (j + 1))) := hx
            rw [← hx] at HSN hsb
            clear hx HX
            generalize spc (zs.take j) = s at *
            by_cases hz00 : z = 0
            · subst hz00
              have e : Hid (x = s) := by show _ = _; have := HSN.out; simpa using this
              go_wp2_with fail
              go_roundw
              case rel => exact ⟨j + 1, by omega, by rw [← HXX.out, e.out], by go_num, trivial, HOK2⟩
              case measure => simp [intOf]; omega
            · obtain ⟨q, hq⟩ : ∃ q : Nat, q = 15 - z.toNat := ⟨_, rfl⟩
              have rq : 15 - z = (q : Int) := by omega
              have HSN2 : Hid (x = s + 2 ^ q) := by have := HSN.out; rw [if_neg hz00, ← hq] at this; exact this
              have hp : 2 ^ q ≤ 2 ^ 15 := Nat.pow_le_pow_right (by decide) (by omega)
              obtain ⟨p, hp2⟩ : ∃ p, p = 2 ^ q := ⟨_, rfl⟩
              have HP : Hid (p = 2 ^ q) := hp2
              rw [← hp2] at hp
              have hw : RowKit.wrap64 ((2 : Int) ^ q) = (p : Int) := by
                have e : ((2 : Int) ^ q) = (p : Int) := by rw [HP.out]; exact (Int.natCast_pow 2 q).symm
                rw [e, ← IntWalk.i64_left]
                exact IntWalk.i64_in _ (by omega)
              have hxe : (s : Int) + (p : Int) = (x : Int) := by have := HSN2.out; rw [← HP.out] at this; omega
              have hq15 : q ≤ 15 := by omega
              have hz1 : (0 : Int) < z := by omega
              clear hq hp2
              go_wp2_with fail
              go_roundw
              case rel => exact ⟨j + 1, by omega, by rw [← HXX.out], by go_num, trivial, HOK2⟩
              case measure => simp [intOf]; omega
      · obtain rfl : j = n := by omega
        have HALL : Hid (zs.take j = zs) := by show _ = _; exact List.take_of_length_le (by have := hn.out; omega)
        have HE : Hid (errS zs = 0 ∧ spcR zs = spc zs) := by
          have hL := LOk.take_of HOK.out
          rw [HALL.out] at hL
          have e := errS_ok (show ¬ 288 < zs.length by have := hn.out; omega) hL
          exact ⟨e, by unfold spcR; rw [if_pos e]⟩
        go_wp2_with fail
        go_ret2
        exact ⟨by rw [HE.out.1, HE.out.2, HALL.out]; rfl, rfl⟩

set_option maxRecDepth 100000 in
set_option maxHeartbeats 1000000 in
theorem rcheck_any (a : Option Addr) (zs : List Int) (n cap : Nat) (hn : Hid (zs.length = n)) (w : World) (hs : SegZ w a zs) (hl : n ≤ 9223372036854775807) :
    Calls Tryd.prog 74 #[.slice a n cap] w fun e w' => e = .returned (.int .i64 (errC zs)) ∧ w' = w := by
  have C := r5space_any a zs n cap hn w hs hl
  rcases errS_two zs with he | he
  · have HE : Hid (errS zs = 0) := he
    have HSP : Hid (spcR zs = spc zs) := by show _ = _; unfold spcR; rw [if_pos he]
    have HL := errS_zero he
    have HLK : Hid (LOk zs) := HL.2
    have hn288 : n ≤ 288 := by have := hn.out; have := HL.1; omega
    rw [he, HSP.out] at C
    have HEC : Hid (errC zs = errR zs) := by show _ = _; unfold errC; rw [if_pos he]
    have hsb : spc zs ≤ 10000000 := by
      have h1 := spc_tot zs
      have h2 := tot_le zs HL.2
      have h3 : tot zs * 16384 ≤ 288 * 16384 := Nat.mul_le_mul_right _ (by omega)
      exact Nat.le_trans h1 (Nat.le_trans h3 (by decide))
    have HRR : Hid (errR zs = if 32768 < spc zs then 51 else if spc zs = 32768 ∨ tot zs = 0 ∨ (tot zs = 1 ∧ spc zs = 16384) then 0 else 52) := by
      show _ = _
      unfold errR
      by_cases c : tot zs = 1
      · have e : (cC zs 1 = 1) = (spc zs = 16384) := propext (one_half c).symm
        simp only [e]
      · have e1 : (tot zs = 1 ∧ cC zs 1 = 1) = False := by simp [c]
        have e2 : (tot zs = 1 ∧ spc zs = 16384) = False := by simp [c]
        simp only [e1, e2]
    clear he HL
    go_enter Tryd.func74, Tryd.ntmps74
    go_wp2_with fail
    refine C.mono ?_
    rintro e w1 ⟨rfl, hw1⟩
    subst w1
    generalize spc zs = s at *
    by_cases h1 : 32768 < s
    · have h1i : (32768 : Int) < (s : Int) := by omega
      go_wp2_with fail
      go_ret
      exact ⟨by rw [HEC.out, HRR.out, if_pos h1]; rfl, rfl⟩
    · have h1i : ¬ (32768 : Int) < (s : Int) := by omega
      go_wp2_with fail
      go_loopw [5, 20] (fun tu tj wr => ∃ j : Nat, j ≤ n ∧ tu = .int .i64 (tot (zs.take j) : Int) ∧ tj = .int .i64 (j : Int) ∧ wr = w) (fun _ tj _ => n - (intOf tj).toNat)
      case atStart => exact ⟨0, by omega, by rw [List.take_zero, tot_nil]; rfl, rfl, rfl⟩
      case round =>
        obtain ⟨j, hj, rfl, rfl, hwr⟩ := hrel
        subst hwr
        by_cases hjn : j < n
        · have hji : (j : Int) < (n : Int) := by omega
          obtain ⟨b, off, rfl, c0⟩ := hs.at_ j (by have := hn.out; omega)
          have HTK : Hid (zs.take (j + 1) = zs.take j ++ [zs.getD j 0]) := take_snocZ (by have := hn.out; omega)
          have HZB : Hid (0 ≤ zs.getD j 0 ∧ zs.getD j 0 ≤ 15) := HLK.out.get j
          have HTS : Hid (tot (zs.take (j + 1)) = tot (zs.take j) + (if zs.getD j 0 = 0 then 0 else 1)) := by
            show _ = _
            rw [HTK.out, tot_snoc _ HZB.out]
          have htb : tot (zs.take j) ≤ 288 := by
            have h1 := tot_le (zs.take j) (LOk.take_of (fun i _ => HLK.out.get i))
            simp at h1
            omega
          have HX : Hid (∃ x, x = tot (zs.take (j + 1))) := ⟨_, rfl⟩
          obtain ⟨x, hx⟩ := HX.out
          have HXX : Hid (x = tot (zs.take (j + 1))) := hx
          rw [← hx] at HTS
          clear hx HX
          generalize tot (zs.take j) = u at *
          generalize zs.getD j 0 = z at *
          by_cases hz0 : z = 0
          · subst hz0
            have e : Hid (x = u) := by show _ = _; have := HTS.out; simpa using this
            go_wp2_with fail
            go_roundw
            case rel => exact ⟨j + 1, by omega, by rw [← HXX.out, e.out], by go_num, trivial⟩
            case measure => simp [intOf]; omega
          · have hz1 : (0 : Int) < z := by have := HZB.out; omega
            have e : Hid (x = u + 1) := by show _ = _; have := HTS.out; rw [if_neg hz0] at this; exact this
            go_wp2_with fail
            go_roundw
            case rel => exact ⟨j + 1, by omega, by rw [← HXX.out, e.out]; go_num, by go_num, trivial⟩
            case measure => simp [intOf]; omega
        · obtain rfl : j = n := by omega
          have HALL : Hid (zs.take j = zs) := by show _ = _; exact List.take_of_length_le (by have := hn.out; omega)
          rw [HALL.out]
          have htb : tot zs ≤ 288 := Nat.le_trans (tot_le zs HLK.out) (by have := hn.out; omega)
          generalize tot zs = u at *
          by_cases c1 : s = 32768
          · subst c1
            have hf : Hid (errC zs = 0) := by show _ = _; rw [HEC.out, HRR.out, if_neg h1, if_pos (.inl rfl)]
            clear HRR
            go_wp2_with fail
            go_ret
            exact ⟨by rw [hf.out]; rfl, rfl⟩
          · have c1i : ¬ (s : Int) = 32768 := by omega
            by_cases c2 : u = 0
            · subst c2
              have hf : Hid (errC zs = 0) := by show _ = _; rw [HEC.out, HRR.out, if_neg h1, if_pos (.inr (.inl rfl))]
              clear HRR
              go_wp2_with fail
              go_ret
              exact ⟨by rw [hf.out]; rfl, rfl⟩
            · have c2i : ¬ (u : Int) = 0 := by omega
              by_cases c3 : u = 1
              · subst c3
                by_cases c4 : s = 16384
                · subst c4
                  have hf : Hid (errC zs = 0) := by show _ = _; rw [HEC.out, HRR.out, if_neg h1, if_pos (.inr (.inr ⟨rfl, rfl⟩))]
                  clear HRR
                  go_wp2_with fail
                  go_ret
                  exact ⟨by rw [hf.out]; rfl, rfl⟩
                · have c4i : ¬ (s : Int) = 16384 := by omega
                  have hf : Hid (errC zs = 52) := by show _ = _; rw [HEC.out, HRR.out, if_neg h1, if_neg (by omega)]
                  have c4b : ((s : Int) == 16384) = false := by simp; omega
                  have c1b : ((s : Int) == 32768) = false := by simp; omega
                  clear HRR
                  go_wp2_with fail
                  go_ret
                  exact ⟨by rw [hf.out]; rfl, rfl⟩
              · have c3i : ¬ (u : Int) = 1 := by omega
                have hf : Hid (errC zs = 52) := by show _ = _; rw [HEC.out, HRR.out, if_neg h1, if_neg (by omega)]
                have c3b : ((u : Int) == 1) = false := by simp; omega
                have c2b : ((u : Int) == 0) = false := by simp; omega
                have c1b : ((s : Int) == 32768) = false := by simp; omega
                clear HRR
                go_wp2_with fail
                go_ret
                exact ⟨by rw [hf.out]; rfl, rfl⟩
  · have HE : Hid (errS zs = 50 ∧ errC zs = 50) := ⟨he, by unfold errC; rw [he, if_neg (by decide)]⟩
    rw [he] at C
    clear he
    go_enter Tryd.func74, Tryd.ntmps74
    go_wp2_with fail
    refine C.mono ?_
    rintro e w1 ⟨rfl, hw1⟩
    subst w1
    go_wp2_with fail
    go_ret
    exact ⟨by rw [HE.out.2]; rfl, rfl⟩
end Go.Proofs.YtoeabfcnfofbiaaDoor

namespace Go.Proofs.YtoeabfcnfofbiaaDoor
set_option linter.unusedVariables false

/-! The lengths that lens makes are the lengths of a code. -/
theorem spc_us {Z : List Int} (hok : LOk Z) : ∀ k, k ≤ Z.length → spc (Z.take k) = ((usI Z k).map fun i => 2 ^ (15 - (Z.getD i 0).toNat)).sum ∧ tot (Z.take k) = (usI Z k).length
  | 0, _ => by
    rw [List.take_zero, spc_nil, tot_nil]
    simp [usI]
  | k + 1, hk => by
    obtain ⟨i1, i2⟩ := spc_us hok k (by omega)
    have hb := hok.get k
    rw [take_snocZ (by omega), spc_snoc _ hb, tot_snoc _ hb, i1, i2, usI_snoc]
    by_cases h : Z.getD k 0 = 0
    · rw [if_pos h, if_pos h, if_pos h, List.append_nil]
      exact ⟨rfl, rfl⟩
    · rw [if_neg h, if_neg h, if_neg h, List.map_append, List.sum_append, List.length_append]
      refine ⟨?_, rfl⟩
      simp only [List.map_cons, List.map_nil, List.sum_cons, List.sum_nil, Nat.add_zero]
theorem us_same {Y Z : List Int} : ∀ k, (∀ i, i < k → (Y.getD i 0 = 0 ↔ Z.getD i 0 = 0)) → usI Y k = usI Z k
  | 0, _ => rfl
  | k + 1, h => by
    rw [usI_snoc, usI_snoc, us_same k fun i hi => h i (by omega)]
    have := h k (by omega)
    by_cases c : Y.getD k 0 = 0
    · rw [if_pos c, if_pos (this.1 c)]
    · rw [if_neg c, if_neg (fun e => c (this.2 e))]
/-- The lengths are a code's. -/
theorem lens_code {zs : List Int} (he : errOf zs = 0) {lim : Nat} (h1 : 1 ≤ lim) (h15 : lim ≤ 15) (hl : nUse zs ≤ 2 ^ lim) : errC (lensL lim zs) = 0 ∧ (∀ i, i < zs.length → (lensL lim zs).getD i 0 ≤ lim) ∧ ∀ i, i < zs.length → (zs.getD i 0 ≠ 0 → (lensL lim zs).getD i 0 ≠ 0) := by
  have hlen := lens_len (zs := zs) lim
  have hz : ∀ i, i < zs.length → ((lensL lim zs).getD i 0 = 0 ↔ zs.getD i 0 = 0) ∧ 0 ≤ (lensL lim zs).getD i 0 ∧ (lensL lim zs).getD i 0 ≤ lim := by
    intro i hi
    by_cases c : zs.getD i 0 = 0
    · have := lens_none he (lim := lim) c
      refine ⟨⟨fun _ => c, fun _ => this⟩, by omega, by omega⟩
    · have := lens_bd he h1 hl (usI_mem.2 ⟨hi, c⟩)
      refine ⟨⟨fun e => by omega, fun e => absurd e c⟩, by omega, by omega⟩
  have hok : LOk (lensL lim zs) := by
    intro z hzm
    obtain ⟨i, hi, rfl⟩ := List.mem_iff_getElem.1 hzm
    have := (hz i (by omega)).2
    simp only [List.getD, List.getElem?_eq_getElem hi, Option.getD_some] at this
    omega
  have hus : usI (lensL lim zs) zs.length = usI zs zs.length := us_same _ fun i hi => (hz i hi).1
  obtain ⟨s1, s2⟩ := spc_us hok zs.length (by omega)
  rw [List.take_of_length_le (by omega), hus] at s1 s2
  refine ⟨?_, fun i hi => (hz i hi).2.2, fun i hi h e => h ((hz i hi).1.1 e)⟩
  have hS : errS (lensL lim zs) = 0 := by
    unfold errS
    rw [if_neg (by rw [hlen]; have := (errOf_zero he).1; omega), if_pos (okL_iff.2 hok)]
  unfold errC
  rw [if_pos hS]
  have hn := nUse_us zs
  unfold errR
  by_cases n0 : nUse zs = 0
  · have ht : tot (lensL lim zs) = 0 := by rw [s2, ← hn]; exact n0
    have := spc_tot (lensL lim zs)
    rw [if_neg (by omega), if_pos (.inr (.inl ht))]
  · by_cases n1 : nUse zs = 1
    · obtain ⟨s, e1, e2, _⟩ := lens_one he (lim := lim) n1
      have ht : tot (lensL lim zs) = 1 := by rw [s2, ← hn]; exact n1
      have hsp : spc (lensL lim zs) = 16384 := by
        rw [s1, e1]
        simp only [List.map_cons, List.map_nil, List.sum_cons, List.sum_nil, Nat.add_zero, e2]
        rfl
      rw [if_neg (by omega), if_pos (.inr (.inr ⟨ht, (one_half ht).1 hsp⟩))]
    · have hk := lens_kraft he h1 h15 hl (by omega)
      rw [← s1] at hk
      rw [if_neg (by omega), if_pos (.inl hk)]
end Go.Proofs.YtoeabfcnfofbiaaDoor
