import Derived.Test.YtmddnmpldmdllaaDoorPf
namespace Go.Proofs.YtmddnmpldmdllaaDoor
open Go.RowKit
set_option linter.unusedVariables false

theorem i64_or_nat (a b : Nat) (ha : a < 4611686018427387904) (hb : b < 4611686018427387904) : bits .or .i64 (a : Int) (b : Int) = ((a ||| b : Nat) : Int) := by
  have hx : a ||| b < 2 ^ 62 := Nat.or_lt_two_pow (by omega) (by omega)
  show IntKind.i64.wrap ((BitVec.ofInt 64 (a : Int) ||| BitVec.ofInt 64 (b : Int)).toNat : Int) = _
  rw [BitVec.toNat_or, ofInt_u64 a (by omega), ofInt_u64 b (by omega)]
  exact IntWalk.i64_in _ (by omega)
theorem or_bit64 {x b : Nat} (h : b < 2) (hx : x ≤ 1000000) : bits .or .i64 ((x : Int) * 2) (b : Int) = ((2 * x + b : Nat) : Int) := by
  rw [show ((x : Int) * 2) = ((2 ^ 1 * x : Nat) : Int) by simp; omega, i64_or_nat _ _ (by omega) (by omega), ← Nat.two_pow_add_eq_or_of_lt (by omega : b < 2 ^ 1)]
theorem bit_at {L : List Bool} {l : Nat} (h : l < L.length) : num L / 2 ^ l % 2 = (L.getD l false).toNat := by
  rw [← num_drop L l (by omega), List.drop_eq_getElem_cons h]
  have hb : (L[l]).toNat < 2 := Bool.toNat_lt _
  simp only [num]
  simp [List.getD, h]
  omega

set_option maxRecDepth 100000 in
set_option maxHeartbeats 1000000 in
theorem find_any (b most : Nat) (zs : List Int) (H : List Bool) (n : Nat) (hn : Hid (n = min H.length 15)) (w : World) (hD : De w b most zs) :
    Calls Tryd.prog 81 #[.pointer (some ⟨b, 1, none⟩), .int .u64 (num (H.take n) : Int), .int .i64 (n : Int)] w fun e w' => ∃ sy le er, e = .returned (.tuple #[.int .i64 sy, .int .i64 le, .int .i64 er]) ∧ FindQ zs H sy le er ∧ w' = w := by
  obtain ⟨S, hS, hY, hb⟩ := hD.row
  have HL := errS_zero (errC_zero hD.ok).1
  have HLK : Hid (LOk zs) := HL.2
  go_enter Tryd.func81, Tryd.ntmps81
  go_wp2_with fail
  go_step3
  go_wp2_with fail
  go_step3
  go_wp2_with fail
  have hn15 : n ≤ 15 := by have := hn.out; omega
  have HNH : Hid (n ≤ H.length ∧ (n < 15 → n = H.length)) := ⟨by have := hn.out; omega, by have := hn.out; omega⟩
  have HW : Hid (spc zs = 32768 ∨ tot zs = 0 ∨ (tot zs = 1 ∧ cC zs 1 = 1)) := by
    have h1 := (errC_zero hD.ok).2
    unfold errR at h1
    by_cases c1 : 32768 < spc zs
    · rw [if_pos c1] at h1; cases h1
    · rw [if_neg c1] at h1
      by_cases c2 : spc zs = 32768 ∨ tot zs = 0 ∨ (tot zs = 1 ∧ cC zs 1 = 1)
      · exact c2
      · rw [if_neg c2] at h1; cases h1
  have hbnd := cC_288 (errC_zero hD.ok).1
  have HTT : Hid (tot zs ≤ 288) := Nat.le_trans (tot_le zs HL.2) HL.1
  have ct := arr_cell hb (i := 1 + 304) (by simp [dl, tbl_len hS])
  rw [dl_get, tbl_tot hS, show 1 + 304 = 305 from rfl] at ct
  have HY : Hid (SymOk zs S zs.length) := hY
  have htt := HTT.out
  clear HL hY
  go_loopw [9, 10, 11, 12, 13, 16] (fun t9 t10 t11 tb tsh tl wr => ∃ l d : Nat, l ≤ 16 ∧ t9 = .int .i64 0 ∧ t10 = .int .i64 0 ∧ t11 = .int .i64 0 ∧ tb = .int .i64 (d : Int) ∧ tsh = .int .i64 (cS zs l : Int) ∧ tl = .int .i64 (l : Int) ∧ wr = w ∧ Hid (l ≤ n ∧ d + cF zs l = vB H l ∧ ∀ j, j < l → cF zs j + cC zs j ≤ vB H j)) (fun _ _ _ _ _ tl _ => 16 - (intOf tl).toNat)
  case atStart => exact ⟨0, 0, by omega, rfl, rfl, rfl, rfl, rfl, rfl, rfl, (⟨by omega, by rw [vB_zero]; rfl, fun j hj => by omega⟩ : _ ∧ _)⟩
  case round =>
    obtain ⟨l, d, hl16, rfl, rfl, rfl, rfl, rfl, rfl, hwr, HQ⟩ := hrel
    subst hwr
    have hln : l ≤ n := HQ.out.1
    have hl15 : l ≤ 15 := by omega
    have hli : (l : Int) < 16 := by omega
    have cc := arr_cell hb (i := 1 + l) (by simp [dl, tbl_len hS]; omega)
    rw [dl_get, tbl_cnt (by omega)] at cc
    have hvl : vB H l < 32768 := Nat.lt_of_lt_of_le (vB_lt H l) (Nat.pow_le_pow_right (n := 2) (j := 15) (by decide) hl15)
    have hdb : d ≤ 32768 := by have := HQ.out.2.1; omega
    have hcb := hbnd l
    have hsb : cS zs l ≤ 288 := Nat.le_trans (cS_mono zs (b := 16) (by omega)) htt
    have HSS : Hid (cS zs (l + 1) = cS zs l + cC zs l) := cS_succ zs l
    have HCF : Hid (cF zs (l + 1) = 2 * (cF zs l + cC zs l)) := cF_succ zs l
    by_cases hdc : d < cC zs l
    · have hl0 : 0 < l := by
        rcases Nat.eq_zero_or_pos l with rfl | h
        · rw [cC_zero] at hdc; omega
        · exact h
      have HRK : Hid (∃ s, s < zs.length ∧ zs.getD s 0 = (l : Int) ∧ rk zs s = d) := rk_has zs (l : Int) d (by rw [← cC_pos zs hl0]; exact hdc)
      obtain ⟨s, hs1, hs2, hs3⟩ := HRK.out
      have HSF : Hid (Beg zs H s ∧ ln zs s = l ∧ S.getD (cS zs l + d) 0 = (s : Int)) := by
        have hln : ln zs s = l := by unfold ln; rw [hs2]; simp
        have s0 : zs.getD s 0 ≠ 0 := by rw [hs2]; omega
        refine ⟨⟨hs1, s0, ?_, ?_⟩, hln, ?_⟩
        · rw [hln]; have := HNH.out.1; omega
        · rw [hln]; unfold cd; rw [if_neg s0, hln, hs3]; have := HQ.out.2.1; omega
        · have := HY.out s hs1 s0
          rw [hln, hs3] at this
          exact this
      have hpb : cS zs l + d < 288 := by
        have h1 : cS zs (l + 1) ≤ cS zs 16 := cS_mono zs (by omega)
        have h2 := HSS.out
        have h3 := HTT.out
        unfold tot at h3
        omega
      have cs := arr_cell hb (i := 1 + (16 + (cS zs l + d))) (by simp [dl, tbl_len hS]; omega)
      rw [dl_get, tbl_sym hS (by omega), HSF.out.2.2, show 1 + (16 + (cS zs l + d)) = 17 + (cS zs l + d) by omega] at cs
      clear HRK hs1 hs2 hs3
      generalize cC zs l = c at *
      generalize cS zs l = f at *
      obtain ⟨p, hp⟩ : ∃ p, p = f + d := ⟨_, rfl⟩
      have r1 : (f : Int) + (d : Int) = (p : Int) := by omega
      have hpi : (p : Int) < 288 := by omega
      rw [← hp] at cs
      have hpb2 : p < 288 := by omega
      clear hp hpb
      have hdci : (d : Int) < (c : Int) := by omega
      go_wp2_with fail
      try rw [Exit.noGoto_ret]
      go_ret3
      exact ⟨s, l, 0, rfl, .inl ⟨s, HSF.out.1, rfl, by rw [HSF.out.2.1], rfl⟩, rfl⟩
    · have HPA : Hid (Past zs H l) := fun j hj => by
        rcases Nat.lt_or_ge j l with c | c
        · exact HQ.out.2.2 j c
        · obtain rfl : j = l := by omega
          have := HQ.out.2.1
          omega
      have hln2 := HNH.out.1
      by_cases hft : cS zs l + cC zs l = tot zs
      · have HFT : Hid _ := end_none HLK.out (show l ≤ H.length by omega) HPA.out (HSS.out.trans hft)
        have hfti : (cS zs l : Int) + (cC zs l : Int) = (tot zs : Int) := by omega
        clear hft
        generalize cC zs l = c at *
        generalize cS zs l = f at *
        generalize tot zs = T at *
        have hdci : ¬ (d : Int) < (c : Int) := by omega
        go_wp2_with fail
        try rw [Exit.noGoto_ret]
        go_ret3
        exact ⟨0, 0, 54, rfl, .inr (.inr ⟨HFT.out.1, HFT.out.2, rfl, rfl, rfl⟩), rfl⟩
      · have hfti : ¬ (cS zs l : Int) + (cC zs l : Int) = (tot zs : Int) := by omega
        by_cases hlen : l = n
        · have HFM : Hid ((∀ s, ¬ Beg zs H s) ∧ May zs H) := by
            have hl14 : l < 15 := by
              rcases Nat.lt_or_ge l 15 with c | c
              · exact c
              · exfalso
                apply hft
                rw [← HSS.out, show l = 15 by omega]
                rfl
            have e : H.length = l := by have := HNH.out.2 (by omega); omega
            have h1 := HPA.out
            rw [← e] at h1
            exact end_may HLK.out HW.out (by omega) h1 (by rw [e, HSS.out]; exact hft)
          subst hlen
          clear hft
          generalize cC zs l = c at *
          generalize cS zs l = f at *
          generalize tot zs = T at *
          have hdci : ¬ (d : Int) < (c : Int) := by omega
          go_wp2_with fail
          try rw [Exit.noGoto_ret]
          go_ret3
          exact ⟨0, 0, 0, rfl, .inr (.inl ⟨HFM.out.1, HFM.out.2, rfl, rfl, rfl⟩), rfl⟩
        · have hlnlt : l < n := by omega
          have hlni : ¬ (l : Int) = (n : Int) := by omega
          have HBT := bit_at (L := H.take n) (l := l) (by simp; omega)
          have eg : (H.take n).getD l false = H.getD l false := by simp [List.getD, hlnlt]
          rw [eg] at HBT
          have HVS : Hid (vB H (l + 1) = 2 * vB H l + (H.getD l false).toNat) := vB_succ (by omega)
          have hbt2 : (H.getD l false).toNat < 2 := Bool.toNat_lt _
          generalize (H.getD l false).toNat = bt at *
          have hrow : num (H.take n) < 32768 := Nat.lt_of_lt_of_le (num_lt _) (Nat.pow_le_pow_right (n := 2) (j := 15) (by decide) (by simp; omega))
          have hsh := shr_nat (num (H.take n)) l
          generalize num (H.take n) = row at *
          have hrd : row / 2 ^ l ≤ row := Nat.div_le_self _ _
          obtain ⟨rd, hrde⟩ : ∃ rd, rd = row / 2 ^ l := ⟨_, rfl⟩
          rw [← hrde] at hsh HBT hrd
          have hand : bits .and .u64 (rd : Int) 1 = (bt : Int) := by rw [and_one' rd (by omega), HBT]
          obtain ⟨e, he⟩ : ∃ e, e = d - cC zs l := ⟨_, rfl⟩
          have HE : Hid (e + cC zs l = d) := by show _ = _; omega
          have re : (d : Int) - (cC zs l : Int) = (e : Int) := by have := HE.out; omega
          have hor := or_bit64 (x := e) hbt2 (by omega)
          obtain ⟨y, hy⟩ : ∃ y, y = 2 * e + bt := ⟨_, rfl⟩
          rw [← hy] at hor
          have HYY : Hid (y = 2 * e + bt) := hy
          have heb : e ≤ 32768 := by omega
          have hyb : y ≤ 100000 := by omega
          clear hy he hrde HBT eg hft
          have hdci : ¬ (d : Int) < (cC zs l : Int) := by omega
          have HNX : Hid (y + cF zs (l + 1) = vB H (l + 1)) := by
            have h1 := HQ.out.2.1
            have h2 := HCF.out
            have h3 := HVS.out
            have h4 := HE.out
            have h5 := HYY.out
            show _ = _
            omega
          generalize cC zs l = c at *
          have rf : (cS zs l : Int) + (c : Int) = (cS zs (l + 1) : Int) := by have := HSS.out; omega
          have hsb2 : cS zs (l + 1) ≤ 1000 := by have := HSS.out; omega
          obtain ⟨f2, hf2⟩ : ∃ f2, f2 = cS zs (l + 1) := ⟨_, rfl⟩
          have HF2 : Hid (f2 = cS zs (l + 1)) := hf2
          rw [← hf2] at rf hsb2
          clear hf2
          generalize cS zs l = f at *
          generalize tot zs = T at *
          rw [rf] at hfti
          go_wp2_with fail
          go_roundw
          case rel => exact ⟨l + 1, y, by omega, rfl, rfl, rfl, rfl, by rw [HF2.out], by go_num, trivial, (⟨by omega, HNX.out, fun j hj => HPA.out j (by omega)⟩ : _ ∧ _)⟩
          case measure => simp [intOf]; omega
end Go.Proofs.YtmddnmpldmdllaaDoor

namespace Go.Proofs.YtmddnmpldmdllaaDoor
open Go.RowKit
set_option linter.unusedVariables false

def NxtQ (w : World) (b br : Nat) (zs : List Int) (H : List Bool) (t : Nat) (e : Ending) (w' : World) : Prop :=
  ((∃ s, Beg zs H s ∧ e = .returned (.tuple #[.int .i64 (s : Int), .bool true, .int .i64 0]) ∧ Rd w' br (H.drop (ln zs s)) (t + ln zs s)) ∨ ((∀ s, ¬ Beg zs H s) ∧ May zs H ∧ e = .returned (.tuple #[.int .i64 0, .bool false, .int .i64 0]) ∧ Rd w' br H t) ∨ ((∀ s, ¬ Beg zs H s) ∧ ¬ May zs H ∧ e = .returned (.tuple #[.int .i64 0, .bool false, .int .i64 54]) ∧ Rd w' br H t)) ∧ Kp (fun k => k = br) w w'

set_option maxRecDepth 100000 in
set_option maxHeartbeats 1000000 in
theorem next5_any (b most : Nat) (zs : List Int) (br : Nat) (H : List Bool) (t : Nat) (w : World) (hD : De w b most zs) (hR : Rd w br H t) (ht : t ≤ 4611686018427387000) :
    Calls Tryd.prog 69 #[.pointer (some ⟨b, 0, none⟩), .pointer (some ⟨br, 0, none⟩)] w fun e w' => NxtQ w b br zs H t e w' := by
  obtain ⟨S, hS, hY, hb⟩ := hD.row
  have c0 := arr_cell hb (i := 0) (by simp [dl])
  have e0 : (dl most zs S).getD 0 0 = (most : Int) := rfl
  rw [e0] at c0
  have hm0 : ¬ (most : Int) = 0 := by have := hD.mo; omega
  have CH := has_any br H t w hR
  obtain ⟨n, hn⟩ : ∃ n, n = min H.length 15 := ⟨_, rfl⟩
  have HN : Hid (n = min H.length 15) := hn
  have hth : there H (n : Int) = true := there_of (by omega) (by omega)
  have CP := peek_any br H t (n : Int) w hR
  rw [hth] at CP
  have hV : takeV H (n : Int) = num (H.take n) := by unfold takeV; rw [hth]; simp
  rw [hV] at CP
  have CF := find_any b most zs H n HN w hD
  have hle := hR.le
  have HCT : Hid (∀ s, Beg zs H s → ln zs s ≤ 15 → Calls Tryd.prog 41 #[.pointer (some ⟨br, 0, none⟩), .int .i64 (ln zs s : Int)] w fun e w' => (∃ x y, e = .returned (.tuple #[x, y])) ∧ Rd w' br (H.drop (ln zs s)) (t + ln zs s) ∧ w.grownBy w' (some br)) := by
    intro s hs hl
    have := take_any br H t (ln zs s : Int) w hR (by omega)
    have h1 : there H (ln zs s : Int) = true := there_of (by omega) hs.2.2.1
    refine this.mono ?_
    rintro e w' ⟨rfl, h2, h3⟩
    refine ⟨⟨_, _, rfl⟩, ?_, h3⟩
    unfold takeL takeT at h2
    rw [h1] at h2
    simpa using h2
  have HLN : Hid (∀ s, Beg zs H s → 0 < ln zs s ∧ ln zs s ≤ 15) := fun s hs => ⟨ln_pos (errS_zero (errC_zero hD.ok).1).2 hs.2.1, ((errS_zero (errC_zero hD.ok).1).2.ln s).2⟩
  clear e0 hV hth
  by_cases hc : H.length ≤ 15
  · have en : (H.length : Int) = (n : Int) := by omega
    rw [en] at CH
    have hci : (n : Int) ≤ 15 := by omega
    have hci2 : ¬ (15 : Int) < (n : Int) := by omega
    clear hn hc en hle
    go_enter Tryd.func69, Tryd.ntmps69
    go_wp2_with fail
    refine CH.mono ?_
    rintro e w1 ⟨rfl, hw1⟩
    subst w1
    go_wp2_with fail
    refine CP.mono ?_
    rintro e w1 ⟨rfl, hw1⟩
    subst w1
    go_wp2_with fail
    refine CF.mono ?_
    rintro e w1 ⟨sy, le, er, rfl, hF, hw1⟩
    subst w1
    rcases hF with ⟨s, h1, rfl, rfl, rfl⟩ | ⟨h1, h2, rfl, rfl, rfl⟩ | ⟨h1, h2, rfl, rfl, rfl⟩
    · have CT := HCT.out s h1 (HLN.out s h1).2
      have HB : Hid (Beg zs H s) := h1
      have hl0 : ¬ (ln zs s : Int) = 0 := by have := (HLN.out s h1).1; omega
      clear h1
      go_wp2_with fail
      refine CT.mono ?_
      rintro e w1 ⟨⟨x, y, rfl⟩, h3, h4⟩
      go_wp2_with fail
      go_ret3
      exact ⟨.inl ⟨s, HB.out, rfl, h3⟩, Kp.grown h4 (fun i hi => by cases hi; rfl)⟩
    · have HB : Hid ((∀ s, ¬ Beg zs H s) ∧ May zs H) := ⟨h1, h2⟩
      clear h1 h2
      go_wp2_with fail
      go_ret3
      exact ⟨.inr (.inl ⟨HB.out.1, HB.out.2, rfl, hR⟩), Kp.refl _ _⟩
    · have HB : Hid ((∀ s, ¬ Beg zs H s) ∧ ¬ May zs H) := ⟨h1, h2⟩
      clear h1 h2
      go_wp2_with fail
      go_ret3
      exact ⟨.inr (.inr ⟨HB.out.1, HB.out.2, rfl, hR⟩), Kp.refl _ _⟩
  · obtain rfl : n = 15 := by omega
    obtain ⟨m, em⟩ : ∃ m, m = H.length := ⟨_, rfl⟩
    rw [← em] at CH
    have hci : ¬ (m : Int) ≤ 15 := by omega
    have hci2 : (15 : Int) < (m : Int) := by omega
    have e15 : ((15 : Nat) : Int) = 15 := rfl
    rw [e15] at CP CF
    clear hn e15 em hc hle
    go_enter Tryd.func69, Tryd.ntmps69
    go_wp2_with fail
    refine CH.mono ?_
    rintro e w1 ⟨rfl, hw1⟩
    subst w1
    go_wp2_with fail
    refine CP.mono ?_
    rintro e w1 ⟨rfl, hw1⟩
    subst w1
    go_wp2_with fail
    refine CF.mono ?_
    rintro e w1 ⟨sy, le, er, rfl, hF, hw1⟩
    subst w1
    rcases hF with ⟨s, h1, rfl, rfl, rfl⟩ | ⟨h1, h2, rfl, rfl, rfl⟩ | ⟨h1, h2, rfl, rfl, rfl⟩
    · have CT := HCT.out s h1 (HLN.out s h1).2
      have HB : Hid (Beg zs H s) := h1
      have hl0 : ¬ (ln zs s : Int) = 0 := by have := (HLN.out s h1).1; omega
      clear h1
      go_wp2_with fail
      refine CT.mono ?_
      rintro e w1 ⟨⟨x, y, rfl⟩, h3, h4⟩
      go_wp2_with fail
      go_ret3
      exact ⟨.inl ⟨s, HB.out, rfl, h3⟩, Kp.grown h4 (fun i hi => by cases hi; rfl)⟩
    · have HB : Hid ((∀ s, ¬ Beg zs H s) ∧ May zs H) := ⟨h1, h2⟩
      clear h1 h2
      go_wp2_with fail
      go_ret3
      exact ⟨.inr (.inl ⟨HB.out.1, HB.out.2, rfl, hR⟩), Kp.refl _ _⟩
    · have HB : Hid ((∀ s, ¬ Beg zs H s) ∧ ¬ May zs H) := ⟨h1, h2⟩
      clear h1 h2
      go_wp2_with fail
      go_ret3
      exact ⟨.inr (.inr ⟨HB.out.1, HB.out.2, rfl, hR⟩), Kp.refl _ _⟩
end Go.Proofs.YtmddnmpldmdllaaDoor
