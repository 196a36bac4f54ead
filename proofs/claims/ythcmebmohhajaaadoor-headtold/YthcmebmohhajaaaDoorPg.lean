import Derived.Test.YthcmebmohhajaaaDoorPf
import Derived.WalkKit
import Derived.Test.YthcmebmohhajaaaDoorProg
import Derived.Test.YthcmebmohhajaaaDoorPb
import Derived.Test.YthcmebmohhajaaaDoorPa
import Derived.Deep.AppendLies
import Derived.Deep.QuietTactic
import Derived.BigQuiet
namespace Go.Proofs.YthcmebmohhajaaaDoor
open Go.RowKit
set_option linter.unusedVariables false

/-- Ints at an offset of a block. -/
structure Cel8 (w : World) (b o : Nat) (L : List Int) : Prop where
  at_ : ∀ i, i < L.length → w.cell? ⟨b, o + i, none⟩ = some (.int .i64 (L.getD i 0))
/-- The decoder within a reader of lengths. -/
structure De8 (w : World) (b most : Nat) (zs : List Int) : Prop where
  ok : errC zs = 0
  mo : 1 ≤ most ∧ most ≤ 288
  row : ∃ S, S.length = 288 ∧ SymOk zs S zs.length ∧ Cel8 w b 347 (dl most zs S)
theorem De8.keep {w w' : World} {b n : Nat} {zs : List Int} (h : De8 w b n zs) (hb : ∀ i, i < 306 → w'.cell? ⟨b, 347 + i, none⟩ = w.cell? ⟨b, 347 + i, none⟩) : De8 w' b n zs := by
  obtain ⟨S, h1, h2, h3⟩ := h.row
  exact ⟨h.ok, h.mo, S, h1, h2, ⟨fun i hi => (hb i (by simp [dl, tbl_len h1] at hi; omega)).trans (h3.at_ i hi)⟩⟩
set_option maxRecDepth 100000 in
set_option maxHeartbeats 1000000 in
theorem find8 (b most : Nat) (zs : List Int) (H : List Bool) (n : Nat) (hn : Hid (n = min H.length 15)) (w : World) (hD : De8 w b most zs) :
    Calls Tryd.prog 64 #[.pointer (some ⟨b, 348, none⟩), .int .u64 (num (H.take n) : Int), .int .i64 (n : Int)] w fun e w' => ∃ sy le er, e = .returned (.tuple #[.int .i64 sy, .int .i64 le, .int .i64 er]) ∧ FindQ zs H sy le er ∧ w' = w := by
  obtain ⟨S, hS, hY, hb⟩ := hD.row
  have HL := errS_zero (errC_zero hD.ok).1
  have HLK : Hid (LOk zs) := HL.2
  go_enter Tryd.func64, Tryd.ntmps64
  go_wp2_with fail
  go_step3
  go_wp2_with fail
  go_step3
  go_wp2_with fail
  have hn15 : n ≤ 15 := by have := hn.out; omega
  have HNH : Hid (n ≤ H.length ∧ (n < 15 → n = H.length)) := ⟨by have := hn.out; omega, by have := hn.out; omega⟩
  have HW : Hid (spc zs = 32768 ∨ tot zs = 0 ∨ (tot zs = 1 ∧ cC zs 1 = 1)) := by
    have h1 := (errC_zero hD.ok).2
    unfold errR at h1
    by_cases c1 : 32768 < spc zs
    · rw [if_pos c1] at h1; cases h1
    · rw [if_neg c1] at h1
      by_cases c2 : spc zs = 32768 ∨ tot zs = 0 ∨ (tot zs = 1 ∧ cC zs 1 = 1)
      · exact c2
      · rw [if_neg c2] at h1; cases h1
  have hbnd := cC_288 (errC_zero hD.ok).1
  have HTT : Hid (tot zs ≤ 288) := Nat.le_trans (tot_le zs HL.2) HL.1
  have ct := hb.at_ (1 + 304) (by simp [dl, tbl_len hS])
  rw [dl_get, tbl_tot hS, show 347 + (1 + 304) = 652 from rfl] at ct
  have HY : Hid (SymOk zs S zs.length) := hY
  have htt := HTT.out
  clear HL hY
  go_loopw [9, 10, 11, 12, 13, 16] (fun t9 t10 t11 tb tsh tl wr => ∃ l d : Nat, l ≤ 16 ∧ t9 = .int .i64 0 ∧ t10 = .int .i64 0 ∧ t11 = .int .i64 0 ∧ tb = .int .i64 (d : Int) ∧ tsh = .int .i64 (cS zs l : Int) ∧ tl = .int .i64 (l : Int) ∧ wr = w ∧ Hid (l ≤ n ∧ d + cF zs l = vB H l ∧ ∀ j, j < l → cF zs j + cC zs j ≤ vB H j)) (fun _ _ _ _ _ tl _ => 16 - (intOf tl).toNat)
  case atStart => exact ⟨0, 0, by omega, rfl, rfl, rfl, rfl, rfl, rfl, rfl, (⟨by omega, by rw [vB_zero]; rfl, fun j hj => by omega⟩ : _ ∧ _)⟩
  case round =>
    obtain ⟨l, d, hl16, rfl, rfl, rfl, rfl, rfl, rfl, hwr, HQ⟩ := hrel
    subst hwr
    have hln : l ≤ n := HQ.out.1
    have hl15 : l ≤ 15 := by omega
    have hli : (l : Int) < 16 := by omega
    have cc := hb.at_ (1 + l) (by simp [dl, tbl_len hS]; omega)
    rw [dl_get, tbl_cnt (by omega), show 347 + (1 + l) = 348 + l by omega] at cc
    have hvl : vB H l < 32768 := Nat.lt_of_lt_of_le (vB_lt H l) (Nat.pow_le_pow_right (n := 2) (j := 15) (by decide) hl15)
    have hdb : d ≤ 32768 := by have := HQ.out.2.1; omega
    have hcb := hbnd l
    have hsb : cS zs l ≤ 288 := Nat.le_trans (cS_mono zs (b := 16) (by omega)) htt
    have HSS : Hid (cS zs (l + 1) = cS zs l + cC zs l) := cS_succ zs l
    have HCF : Hid (cF zs (l + 1) = 2 * (cF zs l + cC zs l)) := cF_succ zs l
    by_cases hdc : d < cC zs l
    · have hl0 : 0 < l := by
        rcases Nat.eq_zero_or_pos l with rfl | h
        · rw [cC_zero] at hdc; omega
        · exact h
      have HRK : Hid (∃ s, s < zs.length ∧ zs.getD s 0 = (l : Int) ∧ rk zs s = d) := rk_has zs (l : Int) d (by rw [← cC_pos zs hl0]; exact hdc)
      obtain ⟨s, hs1, hs2, hs3⟩ := HRK.out
      have HSF : Hid (Beg zs H s ∧ ln zs s = l ∧ S.getD (cS zs l + d) 0 = (s : Int)) := by
        have hln : ln zs s = l := by unfold ln; rw [hs2]; simp
        have s0 : zs.getD s 0 ≠ 0 := by rw [hs2]; omega
        refine ⟨⟨hs1, s0, ?_, ?_⟩, hln, ?_⟩
        · rw [hln]; have := HNH.out.1; omega
        · rw [hln]; unfold cd; rw [if_neg s0, hln, hs3]; have := HQ.out.2.1; omega
        · have := HY.out s hs1 s0
          rw [hln, hs3] at this
          exact this
      have hpb : cS zs l + d < 288 := by
        have h1 : cS zs (l + 1) ≤ cS zs 16 := cS_mono zs (by omega)
        have h2 := HSS.out
        have h3 := HTT.out
        unfold tot at h3
        omega
      have cs := hb.at_ (1 + (16 + (cS zs l + d))) (by simp [dl, tbl_len hS]; omega)
      rw [dl_get, tbl_sym hS (by omega), HSF.out.2.2, show 347 + (1 + (16 + (cS zs l + d))) = 364 + (cS zs l + d) by omega] at cs
      clear HRK hs1 hs2 hs3
      generalize cC zs l = c at *
      generalize cS zs l = f at *
      obtain ⟨p, hp⟩ : ∃ p, p = f + d := ⟨_, rfl⟩
      have r1 : (f : Int) + (d : Int) = (p : Int) := by omega
      have hpi : (p : Int) < 288 := by omega
      rw [← hp] at cs
      have hpb2 : p < 288 := by omega
      clear hp hpb
      have hdci : (d : Int) < (c : Int) := by omega
      go_wp2_with fail
      try rw [Exit.noGoto_ret]
      go_ret3
      exact ⟨s, l, 0, rfl, .inl ⟨s, HSF.out.1, rfl, by rw [HSF.out.2.1], rfl⟩, rfl⟩
    · have HPA : Hid (Past zs H l) := fun j hj => by
        rcases Nat.lt_or_ge j l with c | c
        · exact HQ.out.2.2 j c
        · obtain rfl : j = l := by omega
          have := HQ.out.2.1
          omega
      have hln2 := HNH.out.1
      by_cases hft : cS zs l + cC zs l = tot zs
      · have HFT : Hid _ := end_none HLK.out (show l ≤ H.length by omega) HPA.out (HSS.out.trans hft)
        have hfti : (cS zs l : Int) + (cC zs l : Int) = (tot zs : Int) := by omega
        clear hft
        generalize cC zs l = c at *
        generalize cS zs l = f at *
        generalize tot zs = T at *
        have hdci : ¬ (d : Int) < (c : Int) := by omega
        go_wp2_with fail
        try rw [Exit.noGoto_ret]
        go_ret3
        exact ⟨0, 0, 54, rfl, .inr (.inr ⟨HFT.out.1, HFT.out.2, rfl, rfl, rfl⟩), rfl⟩
      · have hfti : ¬ (cS zs l : Int) + (cC zs l : Int) = (tot zs : Int) := by omega
        by_cases hlen : l = n
        · have HFM : Hid ((∀ s, ¬ Beg zs H s) ∧ May zs H) := by
            have hl14 : l < 15 := by
              rcases Nat.lt_or_ge l 15 with c | c
              · exact c
              · exfalso
                apply hft
                rw [← HSS.out, show l = 15 by omega]
                rfl
            have e : H.length = l := by have := HNH.out.2 (by omega); omega
            have h1 := HPA.out
            rw [← e] at h1
            exact end_may HLK.out HW.out (by omega) h1 (by rw [e, HSS.out]; exact hft)
          subst hlen
          clear hft
          generalize cC zs l = c at *
          generalize cS zs l = f at *
          generalize tot zs = T at *
          have hdci : ¬ (d : Int) < (c : Int) := by omega
          go_wp2_with fail
          try rw [Exit.noGoto_ret]
          go_ret3
          exact ⟨0, 0, 0, rfl, .inr (.inl ⟨HFM.out.1, HFM.out.2, rfl, rfl, rfl⟩), rfl⟩
        · have hlnlt : l < n := by omega
          have hlni : ¬ (l : Int) = (n : Int) := by omega
          have HBT := bit_at (L := H.take n) (l := l) (by simp; omega)
          have eg : (H.take n).getD l false = H.getD l false := by simp [List.getD, hlnlt]
          rw [eg] at HBT
          have HVS : Hid (vB H (l + 1) = 2 * vB H l + (H.getD l false).toNat) := vB_succ (by omega)
          have hbt2 : (H.getD l false).toNat < 2 := Bool.toNat_lt _
          generalize (H.getD l false).toNat = bt at *
          have hrow : num (H.take n) < 32768 := Nat.lt_of_lt_of_le (num_lt _) (Nat.pow_le_pow_right (n := 2) (j := 15) (by decide) (by simp; omega))
          have hsh := shr_nat (num (H.take n)) l
          generalize num (H.take n) = row at *
          have hrd : row / 2 ^ l ≤ row := Nat.div_le_self _ _
          obtain ⟨rd, hrde⟩ : ∃ rd, rd = row / 2 ^ l := ⟨_, rfl⟩
          rw [← hrde] at hsh HBT hrd
          have hand : bits .and .u64 (rd : Int) 1 = (bt : Int) := by rw [and_one' rd (by omega), HBT]
          obtain ⟨e, he⟩ : ∃ e, e = d - cC zs l := ⟨_, rfl⟩
          have HE : Hid (e + cC zs l = d) := by show _ = _; omega
          have re : (d : Int) - (cC zs l : Int) = (e : Int) := by have := HE.out; omega
          have hor := or_bit64 (x := e) hbt2 (by omega)
          obtain ⟨y, hy⟩ : ∃ y, y = 2 * e + bt := ⟨_, rfl⟩
          rw [← hy] at hor
          have HYY : Hid (y = 2 * e + bt) := hy
          have heb : e ≤ 32768 := by omega
          have hyb : y ≤ 100000 := by omega
          clear hy he hrde HBT eg hft
          have hdci : ¬ (d : Int) < (cC zs l : Int) := by omega
          have HNX : Hid (y + cF zs (l + 1) = vB H (l + 1)) := by
            have h1 := HQ.out.2.1
            have h2 := HCF.out
            have h3 := HVS.out
            have h4 := HE.out
            have h5 := HYY.out
            show _ = _
            omega
          generalize cC zs l = c at *
          have rf : (cS zs l : Int) + (c : Int) = (cS zs (l + 1) : Int) := by have := HSS.out; omega
          have hsb2 : cS zs (l + 1) ≤ 1000 := by have := HSS.out; omega
          obtain ⟨f2, hf2⟩ : ∃ f2, f2 = cS zs (l + 1) := ⟨_, rfl⟩
          have HF2 : Hid (f2 = cS zs (l + 1)) := hf2
          rw [← hf2] at rf hsb2
          clear hf2
          generalize cS zs l = f at *
          generalize tot zs = T at *
          rw [rf] at hfti
          go_wp2_with fail
          go_roundw
          case rel => exact ⟨l + 1, y, by omega, rfl, rfl, rfl, rfl, by rw [HF2.out], by go_num, trivial, (⟨by omega, HNX.out, fun j hj => HPA.out j (by omega)⟩ : _ ∧ _)⟩
          case measure => simp [intOf]; omega
set_option maxRecDepth 100000 in
set_option maxHeartbeats 1000000 in
theorem next8 (b most : Nat) (zs : List Int) (br : Nat) (H : List Bool) (t : Nat) (w : World) (hD : De8 w b most zs) (hR : Rd w br H t) (ht : t ≤ 4611686018427387000) :
    Calls Tryd.prog 42 #[.pointer (some ⟨b, 347, none⟩), .pointer (some ⟨br, 0, none⟩)] w fun e w' => NxtQ w b br zs H t e w' := by
  obtain ⟨S, hS, hY, hb⟩ := hD.row
  have c0 := hb.at_ 0 (by simp [dl])
  have e0 : (dl most zs S).getD 0 0 = (most : Int) := rfl
  rw [e0, show 347 + 0 = 347 from rfl] at c0
  have hm0 : ¬ (most : Int) = 0 := by have := hD.mo; omega
  have CH := has_any br H t w hR
  obtain ⟨n, hn⟩ : ∃ n, n = min H.length 15 := ⟨_, rfl⟩
  have HN : Hid (n = min H.length 15) := hn
  have hth : there H (n : Int) = true := there_of (by omega) (by omega)
  have CP := peek_any br H t (n : Int) w hR
  rw [hth] at CP
  have hV : takeV H (n : Int) = num (H.take n) := by unfold takeV; rw [hth]; simp
  rw [hV] at CP
  have CF := find8 b most zs H n HN w hD
  have hle := hR.le
  have HCT : Hid (∀ s, Beg zs H s → ln zs s ≤ 15 → Calls Tryd.prog 40 #[.pointer (some ⟨br, 0, none⟩), .int .i64 (ln zs s : Int)] w fun e w' => (∃ x y, e = .returned (.tuple #[x, y])) ∧ Rd w' br (H.drop (ln zs s)) (t + ln zs s) ∧ w.grownBy w' (some br)) := by
    intro s hs hl
    have := take_any br H t (ln zs s : Int) w hR (by omega)
    have h1 : there H (ln zs s : Int) = true := there_of (by omega) hs.2.2.1
    refine this.mono ?_
    rintro e w' ⟨rfl, h2, h3⟩
    refine ⟨⟨_, _, rfl⟩, ?_, h3⟩
    unfold takeL takeT at h2
    rw [h1] at h2
    simpa using h2
  have HLN : Hid (∀ s, Beg zs H s → 0 < ln zs s ∧ ln zs s ≤ 15) := fun s hs => ⟨ln_pos (errS_zero (errC_zero hD.ok).1).2 hs.2.1, ((errS_zero (errC_zero hD.ok).1).2.ln s).2⟩
  clear e0 hV hth
  by_cases hc : H.length ≤ 15
  · have en : (H.length : Int) = (n : Int) := by omega
    rw [en] at CH
    have hci : (n : Int) ≤ 15 := by omega
    have hci2 : ¬ (15 : Int) < (n : Int) := by omega
    clear hn hc en hle
    go_enter Tryd.func42, Tryd.ntmps42
    go_wp2_with fail
    refine CH.mono ?_
    rintro e w1 ⟨rfl, hw1⟩
    subst w1
    go_wp2_with fail
    refine CP.mono ?_
    rintro e w1 ⟨rfl, hw1⟩
    subst w1
    go_wp2_with fail
    refine CF.mono ?_
    rintro e w1 ⟨sy, le, er, rfl, hF, hw1⟩
    subst w1
    rcases hF with ⟨s, h1, rfl, rfl, rfl⟩ | ⟨h1, h2, rfl, rfl, rfl⟩ | ⟨h1, h2, rfl, rfl, rfl⟩
    · have CT := HCT.out s h1 (HLN.out s h1).2
      have HB : Hid (Beg zs H s) := h1
      have hl0 : ¬ (ln zs s : Int) = 0 := by have := (HLN.out s h1).1; omega
      clear h1
      go_wp2_with fail
      refine CT.mono ?_
      rintro e w1 ⟨⟨x, y, rfl⟩, h3, h4⟩
      go_wp2_with fail
      go_ret3
      exact ⟨.inl ⟨s, HB.out, rfl, h3⟩, Kp.grown h4 (fun i hi => by cases hi; rfl)⟩
    · have HB : Hid ((∀ s, ¬ Beg zs H s) ∧ May zs H) := ⟨h1, h2⟩
      clear h1 h2
      go_wp2_with fail
      go_ret3
      exact ⟨.inr (.inl ⟨HB.out.1, HB.out.2, rfl, hR⟩), Kp.refl _ _⟩
    · have HB : Hid ((∀ s, ¬ Beg zs H s) ∧ ¬ May zs H) := ⟨h1, h2⟩
      clear h1 h2
      go_wp2_with fail
      go_ret3
      exact ⟨.inr (.inr ⟨HB.out.1, HB.out.2, rfl, hR⟩), Kp.refl _ _⟩
  · obtain rfl : n = 15 := by omega
    obtain ⟨m, em⟩ : ∃ m, m = H.length := ⟨_, rfl⟩
    rw [← em] at CH
    have hci : ¬ (m : Int) ≤ 15 := by omega
    have hci2 : (15 : Int) < (m : Int) := by omega
    have e15 : ((15 : Nat) : Int) = 15 := rfl
    rw [e15] at CP CF
    clear hn e15 em hc hle
    go_enter Tryd.func42, Tryd.ntmps42
    go_wp2_with fail
    refine CH.mono ?_
    rintro e w1 ⟨rfl, hw1⟩
    subst w1
    go_wp2_with fail
    refine CP.mono ?_
    rintro e w1 ⟨rfl, hw1⟩
    subst w1
    go_wp2_with fail
    refine CF.mono ?_
    rintro e w1 ⟨sy, le, er, rfl, hF, hw1⟩
    subst w1
    rcases hF with ⟨s, h1, rfl, rfl, rfl⟩ | ⟨h1, h2, rfl, rfl, rfl⟩ | ⟨h1, h2, rfl, rfl, rfl⟩
    · have CT := HCT.out s h1 (HLN.out s h1).2
      have HB : Hid (Beg zs H s) := h1
      have hl0 : ¬ (ln zs s : Int) = 0 := by have := (HLN.out s h1).1; omega
      clear h1
      go_wp2_with fail
      refine CT.mono ?_
      rintro e w1 ⟨⟨x, y, rfl⟩, h3, h4⟩
      go_wp2_with fail
      go_ret3
      exact ⟨.inl ⟨s, HB.out, rfl, h3⟩, Kp.grown h4 (fun i hi => by cases hi; rfl)⟩
    · have HB : Hid ((∀ s, ¬ Beg zs H s) ∧ May zs H) := ⟨h1, h2⟩
      clear h1 h2
      go_wp2_with fail
      go_ret3
      exact ⟨.inr (.inl ⟨HB.out.1, HB.out.2, rfl, hR⟩), Kp.refl _ _⟩
    · have HB : Hid ((∀ s, ¬ Beg zs H s) ∧ ¬ May zs H) := ⟨h1, h2⟩
      clear h1 h2
      go_wp2_with fail
      go_ret3
      exact ⟨.inr (.inr ⟨HB.out.1, HB.out.2, rfl, hR⟩), Kp.refl _ _⟩
set_option maxRecDepth 100000 in
set_option maxHeartbeats 1000000 in
theorem room8 (b n : Nat) (zs : List Int) (w : World) (h : De8 w b n zs) :
    Calls Tryd.prog 23 #[.pointer (some ⟨b, 347, none⟩)] w fun e w' => e = .returned (.int .i64 (8 * (n : Int) + 256)) ∧ w' = w := by
  obtain ⟨S, h1, h2, h3⟩ := h.row
  have c0 := h3.at_ 0 (by simp [dl])
  have e0 : (dl n zs S).getD 0 0 = (n : Int) := rfl
  rw [e0, show 347 + 0 = 347 from rfl] at c0
  have hm := h.mo
  have hn0 : ¬ (n : Int) = 0 := by omega
  clear e0
  go_enter Tryd.func23, Tryd.ntmps23
  go_wp2_with fail
  go_ret
  exact ⟨rfl, rfl⟩
end Go.Proofs.YthcmebmohhajaaaDoor

namespace Go.Proofs.YthcmebmohhajaaaDoor
open Go.RowKit
set_option linter.unusedVariables false

/-- A block that holds a reader of lengths: what stands ahead of its decoder, and the code that is loaded. -/
structure Rb8 (w : World) (b : Nat) (pre : List Value) (zs : List Int) : Prop where
  ok : errC zs = 0
  len : pre.length = 347
  row : ∃ S, S.length = 288 ∧ SymOk zs S zs.length ∧ w.heap[b]? = some (.cells (pre ++ (dl 19 zs S).map (Value.int .i64)).toArray 73 (0, 0))
theorem cel_of_block8 {w : World} {b : Nat} {pre : List Value} {L : List Int} {t : TypeId} (h : w.heap[b]? = some (.cells (pre ++ L.map (Value.int .i64)).toArray t (0, 0))) (hp : pre.length = 347) : Cel8 w b 347 L := ⟨fun i hi => by
  refine (cell_of_row w _ (347 + i) _ _ _ h).trans ?_
  simp [hp, List.getD, hi]⟩
theorem pre_cell8 {w : World} {b : Nat} {pre post : List Value} {t : TypeId} (h : w.heap[b]? = some (.cells (pre ++ post).toArray t (0, 0))) {i : Nat} {v : Value} (hv : pre[i]? = some v) : w.cell? ⟨b, i, none⟩ = some v := by
  refine (cell_of_row w _ i _ _ _ h).trans ?_
  have := (List.getElem?_eq_some_iff.1 hv).1
  simp [List.getElem?_append_left this, hv]
theorem Rb8.de {w : World} {b : Nat} {pre : List Value} {zs : List Int} (h : Rb8 w b pre zs) : De8 w b 19 zs := by
  obtain ⟨S, h1, h2, h3⟩ := h.row
  exact ⟨h.ok, ⟨by omega, by omega⟩, S, h1, h2, cel_of_block8 h3 h.len⟩
theorem Rb8.lt {w : World} {b : Nat} {pre : List Value} {zs : List Int} (h : Rb8 w b pre zs) : b < w.heap.size := by
  obtain ⟨S, _, _, h⟩ := h.row
  exact (Array.getElem?_eq_some_iff.1 h).1
theorem Rb8.keep {w w' : World} {b : Nat} {pre : List Value} {zs : List Int} (h : Rb8 w b pre zs) (hb : w'.heap[b]? = w.heap[b]?) : Rb8 w' b pre zs := by
  obtain ⟨S, h1, h2, h3⟩ := h.row
  exact ⟨h.ok, h.len, S, h1, h2, hb.trans h3⟩
theorem dl_load8 {pre : List Value} {m : Int} {T0 T : List Int} (hp : pre.length = 347) (h0 : T0.length = 305) (h : T.length = 305) : (List.take 348 (pre ++ (m :: T0).map (Value.int .i64)) ++ ((arr T).toList ++ List.drop (348 + (arr T).size) (pre ++ (m :: T0).map (Value.int .i64)))).toArray = (pre ++ (m :: T).map (Value.int .i64)).toArray := by
  rw [arr_size, h]
  have e : List.drop (348 + 305) (pre ++ (m :: T0).map (Value.int .i64)) = [] := List.drop_of_length_le (by simp [hp, h0])
  have e2 : List.take 348 (pre ++ (m :: T0).map (Value.int .i64)) = pre ++ [Value.int .i64 m] := by
    rw [List.take_append, hp, List.take_of_length_le (by omega)]
    simp
  rw [e, e2]
  simp [arr]
def LdQ8 (w : World) (b : Nat) (pre : List Value) (zs0 zs : List Int) (e : Ending) (w' : World) : Prop := e = .returned (.int .i64 (errD 19 zs)) ∧ Rb8 w' b pre (if errD 19 zs = 0 then zs else zs0) ∧ Kp (fun k => k = b) w w'
set_option maxRecDepth 100000 in
set_option maxHeartbeats 1000000 in
theorem load8 (b : Nat) (pre : List Value) (zs0 : List Int) (a : Option Addr) (zs : List Int) (n cap : Nat) (hn : Hid (zs.length = n)) (w : World) (hD : Rb8 w b pre zs0) (hs : SegZ w a zs) (hl : n ≤ 9223372036854775807) :
    Calls Tryd.prog 62 #[.pointer (some ⟨b, 347, none⟩), .slice a n cap] w fun e w' => LdQ8 w b pre zs0 zs e w' := by
  obtain ⟨S0, hS0, hY0, hb0⟩ := hD.row
  have hpl := hD.len
  have c0 := (cel_of_block8 hb0 hpl).at_ 0 (by simp [dl])
  have e0 : (dl 19 zs0 S0).getD 0 0 = 19 := rfl
  rw [e0, show 347 + 0 = 347 from rfl] at c0
  clear e0
  have hbl := hD.lt
  by_cases hbig : 19 < n
  · have hbi : (19 : Int) < (n : Int) := by omega
    have HE : Hid (errD 19 zs = 50) := by show _ = _; unfold errD; rw [hn.out, if_pos hbig]
    go_enter Tryd.func62, Tryd.ntmps62
    go_wp2_with fail
    go_ret
    exact ⟨by rw [HE.out]; rfl, by rw [HE.out]; exact hD, Kp.refl _ _⟩
  · have hbi : ¬ (19 : Int) < (n : Int) := by omega
    have HE : Hid (errD 19 zs = errC zs) := by show _ = _; unfold errD; rw [hn.out, if_neg hbig]
    have HC := checked_any a zs n cap hn w hs hl
    have key : ∀ E : Int, E = 50 ∨ E = 51 ∨ E = 52 → errC zs = E → Calls Tryd.prog 62 #[.pointer (some ⟨b, 347, none⟩), .slice a n cap] w fun e w' => LdQ8 w b pre zs0 zs e w' := by
      intro E hE hEE
      have HEE : Hid (errC zs = E) := hEE
      rw [hEE] at HC
      clear hEE
      rcases hE with rfl | rfl | rfl
      all_goals
        go_enter Tryd.func62, Tryd.ntmps62
        go_wp2_with fail
        refine HC.mono ?_
        rintro e W1 ⟨X, hX16, hXc, rfl, B1⟩
        have HX : Hid (X.length = 16) := hX16
        clear hXc hX16
        have B2 : Below w.heap.size w (W1.alloc (.cells (arr X) 63)) := B1.alloc B1.size _
        go_wp2_with (first
          | (refine wpList_store_row rfl 63 _ _ rfl W1.heap.size (arr X) rfl rfl _ zero16 (heap_alloc_new W1 _) (arr_info HX.out) (by rw [arr_size, HX.out]; rfl) (arr_one _) ?_; rw [World.setRow_alloc_new]))
        go_ret
        exact ⟨by rw [HE.out, HEE.out]; rfl, by rw [HE.out, HEE.out]; exact hD.keep (B2.block b hbl), Kp.of_below B2⟩
    rcases errC_cases zs with hok | h | h | h
    · have HOK : Hid (errC zs = 0) := hok
      rw [hok] at HC
      clear hok key
      have HLA : Hid (∀ W, Below w.heap.size w W → Calls Tryd.prog 80 #[.slice a n cap, .agg (arr (cnts zs))] W fun e w' => ∃ S : List Int, S.length = 288 ∧ SymOk zs S zs.length ∧ e = .returned (.agg (arr (tbl zs S))) ∧ Below W.heap.size W w') := fun W hW => laid_any a zs n cap hn W (hs.old hW) HOK
      go_enter Tryd.func62, Tryd.ntmps62
      go_wp2_with fail
      refine HC.mono ?_
      rintro e W1 ⟨X, hX16, hXc, rfl, B1⟩
      obtain rfl := hXc trivial
      clear hXc hX16
      have B2 : Below w.heap.size w (W1.alloc (.cells (arr (cnts zs)) 63)) := B1.alloc B1.size _
      have ho2 := new_arr (w := W1) (A := cnts zs) (t := 63)
      go_wp2_with (first
        | (refine wpList_store_row rfl 63 _ _ rfl W1.heap.size (arr (cnts zs)) rfl rfl _ zero16 (heap_alloc_new W1 _) (arr_info (cnts_len _)) (by rw [arr_size, cnts_len]; rfl) (arr_one _) ?_; rw [World.setRow_alloc_new])
        | (refine wpList_load_row rfl 63 _ rfl W1.heap.size rfl _ _ _ _ ho2 Tryd.underlying63 rfl (arr_info (cnts_len _)) ?_))
      generalize W1.alloc (.cells (arr (cnts zs)) 63) = W2 at *
      refine (HLA.out _ B2).mono ?_
      rintro e W3 ⟨S, hS, hY, rfl, B3⟩
      have HS : Hid (S.length = 288 ∧ SymOk zs S zs.length) := ⟨hS, hY⟩
      clear hS hY
      have B23 : Below w.heap.size w W3 := B2.trans (B3.mono B2.size)
      have hb3 := (B23.block b hbl).trans hb0
      go_wp2_with (first
        | (refine wpList_store_at rfl 66 _ _ rfl b 348 (arr (tbl zs S)) rfl rfl _ _ hb3 (info305 (tbl_len HS.out.1)) (by rw [arr_size, tbl_len HS.out.1]; simp [hpl, dl, tbl_len hS0]) (arr_one _) ?_))
      have hdl : (List.take 348 (pre ++ (dl 19 zs0 S0).map (Value.int .i64)) ++ ((arr (tbl zs S)).toList ++ List.drop (348 + (arr (tbl zs S)).size) (pre ++ (dl 19 zs0 S0).map (Value.int .i64)))).toArray = (pre ++ (dl 19 zs S).map (Value.int .i64)).toArray := dl_load8 hpl (tbl_len hS0) (tbl_len HS.out.1)
      rw [hdl]
      go_ret
      have hR := setRow_heap W3 b _ ((pre ++ (dl 19 zs S).map (Value.int .i64)).toArray) _ _ hb3
      refine ⟨by rw [HE.out, HOK.out]; rfl, ?_, ?_⟩
      · rw [HE.out, HOK.out, if_pos rfl]
        exact ⟨HOK.out, hpl, S, HS.out.1, HS.out.2, hR⟩
      · exact (Kp.of_below B23).trans (Kp.grown (S := fun k => k = b) (grown_setRow W3 b _) (fun i hi => by cases hi; rfl)) (fun _ _ h => h)
    · exact key 50 (.inl rfl) h
    · exact key 51 (.inr (.inl rfl)) h
    · exact key 52 (.inr (.inr rfl)) h
end Go.Proofs.YthcmebmohhajaaaDoor

namespace Go.Proofs.YthcmebmohhajaaaDoor
set_option linter.unusedVariables false

/-! Layer 8 (head), without a program: lengths as runs, and back (P8.1, P8.2, P8.7). -/
structure Rn8 where
  sy : Int
  ct : Int
def lst8 (s : Int) : Int := if s = 16 ∨ s = 17 then 3 else if s = 18 then 11 else 1
def grt8 (s : Int) : Int := if s = 16 then 6 else if s = 17 then 10 else if s = 18 then 138 else 1
def mor8 (s : Int) : Nat := if s = 16 then 2 else if s = 17 then 3 else if s = 18 then 7 else 0
def bad8 (r : Rn8) (n : Nat) : Prop := r.sy < 0 ∨ 18 < r.sy ∨ r.ct < lst8 r.sy ∨ grt8 r.sy < r.ct ∨ (r.sy = 16 ∧ n = 0)
instance (r : Rn8) (n : Nat) : Decidable (bad8 r n) := by unfold bad8; infer_instance
def end8 : List Int → Int
  | [] => 0
  | [x] => x
  | _ :: r => end8 r
theorem end8_app (x : Int) : ∀ l : List Int, end8 (l ++ [x]) = x
  | [] => rfl
  | [y] => rfl
  | y :: z :: r => by
    have := end8_app x (z :: r)
    simpa [end8] using this
theorem end8_rep (v : Int) (l : List Int) : ∀ n, 0 < n → end8 (l ++ List.replicate n v) = v
  | 0, h => by omega
  | n + 1, _ => by rw [List.replicate_succ', ← List.append_assoc, end8_app]
def val8 (r : Rn8) (out : List Int) : Int := if r.sy = 16 then end8 out else if 15 < r.sy then 0 else r.sy
/-- What runs say behind lengths; none: they are no lengths. -/
def lng8 : List Rn8 → List Int → Option (List Int)
  | [], out => some out
  | r :: l, out => if bad8 r out.length then none else if 320 < (out ++ List.replicate r.ct.toNat (val8 r out)).length then none else lng8 l (out ++ List.replicate r.ct.toNat (val8 r out))
def lens8 (l : List Rn8) : Option (List Int) := lng8 l []
def pre8 (v : Int) : List Int → Nat
  | [] => 0
  | x :: r => if x = v then pre8 v r + 1 else 0
theorem pre8_le (v : Int) : ∀ l, pre8 v l ≤ l.length
  | [] => Nat.le_refl _
  | x :: r => by
    rw [pre8]
    split
    · have := pre8_le v r; simp; omega
    · simp
theorem pre8_take (v : Int) : ∀ (l : List Int) (n : Nat), n ≤ pre8 v l → l.take n = List.replicate n v
  | l, 0, _ => by simp
  | [], n + 1, h => by simp [pre8] at h
  | x :: r, n + 1, h => by
    rw [pre8] at h
    split at h
    · rename_i e
      rw [List.take_succ_cons, List.replicate_succ, e, pre8_take v r n (by omega)]
    · omega
def rep8 : Nat → Nat → List Rn8
  | 0, _ => []
  | f + 1, k => if 3 ≤ k then ⟨16, (min k 6 : Nat)⟩ :: rep8 f (k - min k 6) else []
def row8 (v : Int) (k : Nat) : List Rn8 := if v = 0 then (if 11 ≤ k then [⟨18, (min k 138 : Nat)⟩] else if 3 ≤ k then [⟨17, k⟩] else [⟨0, 1⟩]) else ⟨v, 1⟩ :: rep8 (k - 1) (k - 1)
def sum8 : List Rn8 → Nat
  | [] => 0
  | r :: l => r.ct.toNat + sum8 l
theorem rep8_sum : ∀ f k, sum8 (rep8 f k) ≤ k
  | 0, k => by simp [rep8, sum8]
  | f + 1, k => by
    rw [rep8]
    split
    · have := rep8_sum f (k - min k 6)
      simp only [sum8, Int.toNat_natCast]
      omega
    · simp [sum8]
theorem row8_sum {v : Int} {k : Nat} (hk : 1 ≤ k) : 1 ≤ sum8 (row8 v k) ∧ sum8 (row8 v k) ≤ k := by
  unfold row8
  split
  · split
    · simp only [sum8, Int.toNat_natCast]; omega
    · split
      · simp only [sum8, Int.toNat_natCast]; omega
      · simp [sum8]; omega
  · have := rep8_sum (k - 1) (k - 1)
    simp only [sum8]
    have e : (1 : Int).toNat = 1 := rfl
    rw [e]
    omega
def rung8 : Nat → List Int → List Rn8
  | 0, _ => []
  | _ + 1, [] => []
  | f + 1, v :: r => row8 v (pre8 v (v :: r)) ++ rung8 f ((v :: r).drop (sum8 (row8 v (pre8 v (v :: r)))))
def runs8 (l : List Int) : List Rn8 := rung8 l.length l
theorem lng8_one {r : Rn8} {l : List Rn8} {out : List Int} (h : ¬ bad8 r out.length) (hl : out.length + r.ct.toNat ≤ 320) : lng8 (r :: l) out = lng8 l (out ++ List.replicate r.ct.toNat (val8 r out)) := by
  rw [lng8, if_neg h, if_neg (by simp; omega)]
theorem lng8_rep {v : Int} (rest : List Rn8) : ∀ (f k : Nat) (out : List Int), 0 < out.length → end8 out = v → out.length + k ≤ 320 → lng8 (rep8 f k ++ rest) out = lng8 rest (out ++ List.replicate (sum8 (rep8 f k)) v)
  | 0, k, out, _, _, _ => by simp [rep8, sum8]
  | f + 1, k, out, h1, h2, h3 => by
    rw [rep8]
    split
    · rename_i hk
      have hv : val8 ⟨16, (min k 6 : Nat)⟩ out = v := by unfold val8; rw [if_pos rfl]; exact h2
      have hne : ¬ out = [] := by intro e; rw [e] at h1; simp at h1
      rw [List.cons_append, lng8_one (by unfold bad8 lst8 grt8; simp [hne]; omega) (by simp; omega), hv, lng8_rep rest f (k - min k 6) _ (by simp; omega) (end8_rep v out _ (by simp; omega)) (by simp; omega)]
      simp only [sum8, Int.toNat_natCast, List.append_assoc, List.replicate_append_replicate]
    · simp [sum8]
theorem lng8_row {v : Int} {k : Nat} (rest : List Rn8) (out : List Int) (hv : 0 ≤ v ∧ v ≤ 15) (hk : 1 ≤ k) (hl : out.length + k ≤ 320) : lng8 (row8 v k ++ rest) out = lng8 rest (out ++ List.replicate (sum8 (row8 v k)) v) := by
  unfold row8
  by_cases h0 : v = 0
  · rw [if_pos h0]
    subst h0
    split
    · rw [List.singleton_append, lng8_one (by unfold bad8 lst8 grt8; simp; omega) (by simp; omega)]
      simp [sum8, val8]
    · split
      · rw [List.singleton_append, lng8_one (by unfold bad8 lst8 grt8; simp; omega) (by simp; omega)]
        simp [sum8, val8]
      · rw [List.singleton_append, lng8_one (by unfold bad8 lst8 grt8; simp) (by simp; omega)]
        simp [sum8, val8]
  · rw [if_neg h0, List.cons_append]
    have e16 : ¬ v = 16 := by omega
    have e17 : ¬ v = 17 := by omega
    have e18 : ¬ v = 18 := by omega
    have hb : ¬ bad8 ⟨v, 1⟩ out.length := by unfold bad8 lst8 grt8; simp [e16, e17, e18]; omega
    have hvv : val8 ⟨v, 1⟩ out = v := by unfold val8; simp [e16]; omega
    rw [lng8_one hb (by simp; omega), hvv]
    have e1 : (1 : Int).toNat = 1 := rfl
    simp only [sum8, e1]
    rw [lng8_rep rest (k - 1) (k - 1) _ (by simp) (end8_rep v out 1 (by omega)) (by simp; omega), List.append_assoc, List.replicate_append_replicate]
theorem lng8_runs : ∀ (f : Nat) (l out : List Int), (∀ z ∈ l, 0 ≤ z ∧ z ≤ 15) → l.length ≤ f → out.length + l.length ≤ 320 → lng8 (rung8 f l) out = some (out ++ l)
  | 0, l, out, _, h, _ => by
    have : l = [] := List.length_eq_zero_iff.1 (by omega)
    subst this
    simp [rung8, lng8]
  | f + 1, [], out, _, _, _ => by simp [rung8, lng8]
  | f + 1, v :: r, out, hb, hf, hl => by
    have hp : 1 ≤ pre8 v (v :: r) := by rw [pre8, if_pos rfl]; omega
    have hpl := pre8_le v (v :: r)
    have hs := row8_sum (v := v) hp
    rw [rung8, lng8_row _ out (hb v (List.mem_cons_self ..)) hp (by omega)]
    have ht := pre8_take v (v :: r) (sum8 (row8 v (pre8 v (v :: r)))) hs.2
    generalize sum8 (row8 v (pre8 v (v :: r))) = n at *
    rw [lng8_runs f ((v :: r).drop n) _ (fun z hz => hb z (List.mem_of_mem_drop hz)) (by simp only [List.length_drop, List.length_cons] at *; omega) (by simp only [List.length_append, List.length_replicate, List.length_drop, List.length_cons] at *; omega), ← ht, List.append_assoc, List.take_append_drop]
/-- P8.7. -/
theorem lens8_runs8 {l : List Int} (hb : ∀ z ∈ l, 0 ≤ z ∧ z ≤ 15) (hl : l.length ≤ 320) : lens8 (runs8 l) = some l := by
  have := lng8_runs l.length l [] hb (Nat.le_refl _) (by simpa using hl)
  simpa [lens8, runs8] using this
end Go.Proofs.YthcmebmohhajaaaDoor

namespace Go.Proofs.YthcmebmohhajaaaDoor
open Go.RowKit
set_option linter.unusedVariables false

/-! Runs in memory: two cells each. The document's least, greatest, more, row. -/
structure SegN (w : World) (a : Option Addr) (R : List Rn8) : Prop where
  at_ : ∀ i, i < R.length → ∃ b off, a = some ⟨b, off, none⟩ ∧ w.cell? ⟨b, off + i * 2, none⟩ = some (.int .i64 (R.getD i ⟨0, 0⟩).sy) ∧ w.cell? ⟨b, off + i * 2 + 1, none⟩ = some (.int .i64 (R.getD i ⟨0, 0⟩).ct)
theorem SegN.old {w w' : World} {a : Option Addr} {R : List Rn8} (h : SegN w a R) (hb : Below w.heap.size w w') : SegN w' a R :=
  ⟨fun i hi => by
    obtain ⟨b, off, e, c1, c2⟩ := h.at_ i hi
    have hl := World.block_lt_of_cell? w _ c1
    exact ⟨b, off, e, (hb.cell (p := ⟨b, off + i * 2, none⟩) hl).trans c1, (hb.cell (p := ⟨b, off + i * 2 + 1, none⟩) hl).trans c2⟩⟩
def flatN (L : List Rn8) : List Value := L.flatMap fun x => [.int .i64 x.sy, .int .i64 x.ct]
theorem flatN_app (l r : List Rn8) : flatN (l ++ r) = flatN l ++ flatN r := by unfold flatN; rw [List.flatMap_append]
theorem flatN_get : ∀ (l : List Rn8) (k : Nat) (x : Rn8), l[k]? = some x → (flatN l)[k * 2]? = some (.int .i64 x.sy) ∧ (flatN l)[k * 2 + 1]? = some (.int .i64 x.ct)
  | [], k, x, h => by simp at h
  | t :: r, 0, x, h => by
    simp at h
    subst h
    simp [flatN]
  | t :: r, k + 1, x, h => by
    have := flatN_get r k x (by simpa using h)
    have e : flatN (t :: r) = .int .i64 t.sy :: .int .i64 t.ct :: flatN r := rfl
    rw [e, show (k + 1) * 2 = k * 2 + 1 + 1 by omega]
    simpa [List.getElem?_cons_succ, show k * 2 + 1 + 1 + 1 = (k * 2 + 1) + 1 + 1 by omega] using this
theorem own_segN {w : World} {base n cap : Nat} {e : TypeId} {b : Option Addr} {l : List Rn8} (h : w.ownsRow base e 2 (.slice b n cap) n (flatN l)) (hl : l.length = n) : SegN w b l := by
  refine ⟨fun k hk => ?_⟩
  rcases h.2 with ⟨_, h0⟩ | ⟨g, cp, cur, hv, _⟩
  · omega
  simp only [Value.slice.injEq] at hv
  obtain ⟨rfl, _, rfl⟩ := hv
  have hc : ∀ j u, (flatN l)[j]? = some u → w.cell? ⟨g, j, none⟩ = some u := by
    intro j u hu
    have := h.cells (g := g) rfl j u hu
    have hadd : (⟨g, 0, none⟩ : Addr).add j = ⟨g, j, none⟩ := by unfold Addr.add; split <;> simp_all
    rwa [hadd] at this
  have hg : l[k]? = some (l.getD k ⟨0, 0⟩) := by simp [List.getD, show k < l.length by omega]
  obtain ⟨q0, q1⟩ := flatN_get l k _ hg
  exact ⟨g, 0, rfl, by rw [Nat.zero_add]; exact hc _ _ q0, by rw [Nat.zero_add]; exact hc _ _ q1⟩
theorem own_belowN {w w' : World} {base n sz : Nat} {e : TypeId} {v : Value} {xs : List Value} (h : w.ownsRow base e sz v n xs) (hb : Below w.heap.size w w') : w'.ownsRow base e sz v n xs := by
  refine ⟨h.1, ?_⟩
  rcases h.2 with h | ⟨g, cap, cur, h1, h2, h3, h4⟩
  · exact .inl h
  · exact .inr ⟨g, cap, cur, h1, h2, (hb.block g (Array.getElem?_eq_some_iff.1 h3).1).trans h3, h4⟩
theorem own_baseN {w : World} {base base' n sz : Nat} {e : TypeId} {v : Value} {xs : List Value} (h : w.ownsRow base e sz v n xs) (hb : base' ≤ base) : w.ownsRow base' e sz v n xs := by
  refine ⟨h.1, ?_⟩
  rcases h.2 with h | ⟨g, cap, cur, h1, h2, h3⟩
  · exact .inl h
  · exact .inr ⟨g, cap, cur, h1, Nat.le_trans hb h2, h3⟩
/-- A row of one run that was just made. -/
theorem own_oneN (w : World) (e : TypeId) (x : Rn8) : (w.alloc (.cells #[.int .i64 x.sy, .int .i64 x.ct] e)).ownsRow w.heap.size e 2 (.slice (some ⟨w.heap.size, 0, none⟩) 1 1) 1 (flatN [x]) :=
  ⟨rfl, .inr ⟨w.heap.size, 1, _, rfl, Nat.le_refl _, heap_alloc_new w _, Nat.le_refl _, by unfold maxLen; omega, rfl, rfl⟩⟩
/-- A run behind a row of the call's own. -/
theorem wpList_appN {P : Program} {ops : Array Oper} {rest : List Oper} {o : Oper} {a : Act} {Q : Exit → Act → World → Prop} (hgd : o.guard = none) (s x : Operand) (t : TypeId)
    (ho : o.op = .call { callee := .builtin .append, args := #[s, x], argTypes := #[t, t] })
    (base : Nat) (e : TypeId) (i : TypeInfo) (z : Value) (bytes : Nat) (ht : P.underlying t = some (.slice e)) (hi : P.info? e = some i) (hz : i.zero = some z)
    (hsize : i.size = 2) (hby : i.bytes = bytes) (hzs : z.cells.size = 2) (w0 : World) (y : Rn8)
    {ra : Option Addr} {n rc : Nat} {l : List Rn8} (hown : w0.ownsRow base e 2 (.slice ra n rc) n (flatN l)) (hs : a.eval s = .slice ra n rc) (hx : a.eval x = .slice (some ⟨w0.heap.size, 0, none⟩) 1 1)
    (h63 : n + 1 ≤ 140737488355328) (hbytes : (n + 1) * bytes ≤ 140737488355328) (hbase : base ≤ w0.heap.size)
    (h : ∀ (g : Nat) (c : Nat) (w' : World), w'.ownsRow base e 2 (.slice (some ⟨g, 0, none⟩) (n + 1) c) (n + 1) (flatN (l ++ [y])) → Kp (fun k => (Value.slice ra n rc).ownBlock = some k) w0 w' → ((Value.slice ra n rc).ownBlock = some g ∨ g = w0.heap.size + 1) → wpList P ops Q rest (a.put o.dst (.slice (some ⟨g, 0, none⟩) (n + 1) c)) w') : wpList P ops Q (o :: rest) a (w0.alloc (.cells #[.int .i64 y.sy, .int .i64 y.ct] e)) := by
  have hnew : ∀ j u, ([.int .i64 y.sy, .int .i64 y.ct] : List Value)[j]? = some u → (w0.alloc (.cells #[.int .i64 y.sy, .int .i64 y.ct] e)).cell? ((⟨w0.heap.size, 0, none⟩ : Addr).add j) = some u := by
    intro j u hu
    have hadd : (⟨w0.heap.size, 0, none⟩ : Addr).add j = ⟨w0.heap.size, j, none⟩ := by unfold Addr.add; split <;> simp_all
    rw [hadd]
    have hh := heap_alloc_new w0 (.cells #[.int .i64 y.sy, .int .i64 y.ct] e)
    simp only [World.cell?, hh]
    simpa using hu
  refine wpList_append_lies _ hgd s x t ho base e i z 2 bytes ht hi hz hsize hby hzs (by decide) _ n (flatN l) hs (hown.alloc _) ⟨w0.heap.size, 0, none⟩ 1 1 [.int .i64 y.sy, .int .i64 y.ct] hx rfl hnew (by intro u hu; simp only [List.mem_cons, List.not_mem_nil, or_false] at hu; rcases hu with rfl | rfl <;> rfl) (by decide) (by unfold maxLen; omega) hbytes (by simp; omega) (w0.heap.size + 1) (by simp) ?_
  intro g c w' h1 h2 h3 _
  refine h g c w' (by rw [flatN_app]; exact h1) ?_ h3
  exact (Kp.alloc w0 _).trans (Kp.grown (S := fun k => (Value.slice ra n rc).ownBlock = some k) h2 (fun i e => e)) (fun _ _ e => e)
set_option maxRecDepth 100000 in
theorem rleast8 (s : Int) (w : World) : Calls Tryd.prog 84 #[.int .i64 s] w fun e w' => e = .returned (.int .i64 (lst8 s)) ∧ w' = w := by
  unfold lst8
  by_cases h1 : s = 16
  · rw [if_pos (.inl h1)]
    subst h1
    go_enter Tryd.func84, Tryd.ntmps84
    go_wp2_with fail
    go_ret
    exact ⟨rfl, rfl⟩
  · by_cases h2 : s = 17
    · rw [if_pos (.inr h2)]
      subst h2
      go_enter Tryd.func84, Tryd.ntmps84
      go_wp2_with fail
      go_ret
      exact ⟨rfl, rfl⟩
    · rw [if_neg (by omega)]
      by_cases h3 : s = 18
      · rw [if_pos h3]
        subst h3
        go_enter Tryd.func84, Tryd.ntmps84
        go_wp2_with fail
        go_ret
        exact ⟨rfl, rfl⟩
      · rw [if_neg h3]
        have b1 : (s == 16) = false := by simp [h1]
        have b2 : (s == 17) = false := by simp [h2]
        go_enter Tryd.func84, Tryd.ntmps84
        go_wp2_with fail
        go_ret
        exact ⟨rfl, rfl⟩
set_option maxRecDepth 100000 in
theorem rmore8 (s : Int) (w : World) : Calls Tryd.prog 83 #[.int .i64 s] w fun e w' => e = .returned (.int .i64 (mor8 s : Int)) ∧ w' = w := by
  unfold mor8
  by_cases h1 : s = 16
  · rw [if_pos h1]
    subst h1
    go_enter Tryd.func83, Tryd.ntmps83
    go_wp2_with fail
    go_ret
    exact ⟨rfl, rfl⟩
  · rw [if_neg h1]
    by_cases h2 : s = 17
    · rw [if_pos h2]
      subst h2
      go_enter Tryd.func83, Tryd.ntmps83
      go_wp2_with fail
      go_ret
      exact ⟨rfl, rfl⟩
    · rw [if_neg h2]
      by_cases h3 : s = 18
      · rw [if_pos h3]
        subst h3
        go_enter Tryd.func83, Tryd.ntmps83
        go_wp2_with fail
        go_ret
        exact ⟨rfl, rfl⟩
      · rw [if_neg h3]
        go_enter Tryd.func83, Tryd.ntmps83
        go_wp2_with fail
        go_ret
        exact ⟨rfl, rfl⟩
end Go.Proofs.YthcmebmohhajaaaDoor

namespace Go.Proofs.YthcmebmohhajaaaDoor
open Go.RowKit
set_option linter.unusedVariables false

/-! The document's row, Runs. -/
theorem rep8_fuel : ∀ (f g k : Nat), k ≤ f → k ≤ g → rep8 f k = rep8 g k
  | 0, 0, k, _, _ => rfl
  | 0, g + 1, k, h, _ => by rw [rep8, rep8, if_neg (by omega)]
  | f + 1, 0, k, _, h => by rw [rep8, rep8, if_neg (by omega)]
  | f + 1, g + 1, k, h1, h2 => by
    rw [rep8, rep8]
    split
    · rw [rep8_fuel f g (k - min k 6) (by omega) (by omega)]
    · rfl
theorem rep8_step {k : Nat} (h : 3 ≤ k) : rep8 k k = ⟨16, (min k 6 : Nat)⟩ :: rep8 (k - min k 6) (k - min k 6) := by
  rw [show k = (k - 1) + 1 by omega, rep8, if_pos (by omega), rep8_fuel (k - 1) (k - 1 + 1 - min (k - 1 + 1) 6) _ (by omega) (by omega)]
theorem rep8_stop {k : Nat} (h : ¬ 3 ≤ k) : rep8 k k = [] := by
  cases k with
  | zero => rfl
  | succ k => rw [rep8, if_neg h]
def NQ (w : World) (ty : TypeId) (R : List Rn8) (e : Ending) (w' : World) : Prop := ∃ oa oc, e = .returned (.slice oa R.length oc) ∧ w'.ownsRow w.heap.size ty 2 (.slice oa R.length oc) R.length (flatN R) ∧ Below w.heap.size w w'
end Go.Proofs.YthcmebmohhajaaaDoor

namespace Go.Proofs.YthcmebmohhajaaaDoor
open Go.RowKit
set_option linter.unusedVariables false

/-! The document's Runs. -/
theorem pre8_iff (v : Int) : ∀ (l : List Int) (k : Nat), k ≤ pre8 v l ↔ k ≤ l.length ∧ ∀ j, j < k → l.getD j 0 = v
  | [], k => by
    rw [pre8]
    constructor
    · intro h; exact ⟨h, fun j hj => by omega⟩
    · intro h; exact h.1
  | x :: r, 0 => by simp
  | x :: r, k + 1 => by
    rw [pre8]
    by_cases e : x = v
    · rw [if_pos e]
      have ih := pre8_iff v r k
      constructor
      · intro h
        obtain ⟨h1, h2⟩ := ih.1 (by omega)
        refine ⟨by simp; omega, fun j hj => ?_⟩
        cases j with
        | zero => simpa using e
        | succ j => simpa using h2 j (by omega)
      · rintro ⟨h1, h2⟩
        have := ih.2 ⟨by simp at h1; omega, fun j hj => by simpa using h2 (j + 1) (by omega)⟩
        omega
    · rw [if_neg e]
      constructor
      · intro h; omega
      · rintro ⟨_, h2⟩
        exact absurd (by simpa using h2 0 (by omega)) e
theorem rung8_fuel : ∀ (f g : Nat) (l : List Int), l.length ≤ f → l.length ≤ g → rung8 f l = rung8 g l
  | 0, 0, l, _, _ => rfl
  | 0, g + 1, l, h, _ => by
    have : l = [] := List.length_eq_zero_iff.1 (by omega)
    subst this
    rfl
  | f + 1, 0, l, _, h => by
    have : l = [] := List.length_eq_zero_iff.1 (by omega)
    subst this
    rfl
  | f + 1, g + 1, [], _, _ => rfl
  | f + 1, g + 1, v :: r, h1, h2 => by
    have hp : 1 ≤ pre8 v (v :: r) := by rw [pre8, if_pos rfl]; omega
    have hs := row8_sum (v := v) hp
    rw [rung8, rung8, rung8_fuel f g _ (by simp only [List.length_drop, List.length_cons] at *; omega) (by simp only [List.length_drop, List.length_cons] at *; omega)]
theorem rung8_at {zs : List Int} {i : Nat} (h : i < zs.length) : rung8 (zs.length - i) (zs.drop i) = row8 (zs.getD i 0) (pre8 (zs.getD i 0) (zs.drop i)) ++ rung8 (zs.length - (i + sum8 (row8 (zs.getD i 0) (pre8 (zs.getD i 0) (zs.drop i))))) (zs.drop (i + sum8 (row8 (zs.getD i 0) (pre8 (zs.getD i 0) (zs.drop i))))) := by
  have hd : zs.drop i = zs.getD i 0 :: zs.drop (i + 1) := by rw [List.drop_eq_getElem_cons h]; simp [List.getD, h]
  have hp : 1 ≤ pre8 (zs.getD i 0) (zs.drop i) := by rw [hd, pre8, if_pos rfl]; omega
  have hs := row8_sum (v := zs.getD i 0) hp
  have e : rung8 (zs.length - i) (zs.drop i) = row8 (zs.getD i 0) (pre8 (zs.getD i 0) (zs.drop i)) ++ rung8 (zs.length - i - 1) ((zs.drop i).drop (sum8 (row8 (zs.getD i 0) (pre8 (zs.getD i 0) (zs.drop i))))) := by
    have hf : zs.length - i = (zs.length - i - 1) + 1 := by omega
    rw [hf]
    conv => lhs; rw [hd]
    rw [rung8, ← hd]
    rfl
  rw [e, List.drop_drop, rung8_fuel (zs.length - i - 1) (zs.length - (i + sum8 (row8 (zs.getD i 0) (pre8 (zs.getD i 0) (zs.drop i))))) _ (by simp only [List.length_drop]; omega) (by simp only [List.length_drop]; omega)]
def may8 (zs : List Int) : Prop := zs.length ≤ 320 ∧ ∀ z ∈ zs, 0 ≤ z ∧ z ≤ 15
instance (zs : List Int) : Decidable (may8 zs) := by unfold may8; infer_instance
def rns8 (zs : List Int) : List Rn8 := if may8 zs then runs8 zs else []
def rer8 (zs : List Int) : Int := if may8 zs then 0 else 80
theorem sum8_take : ∀ (R : List Rn8) (x : Nat), x < R.length → sum8 (R.take (x + 1)) = sum8 (R.take x) + (R.getD x ⟨0, 0⟩).ct.toNat
  | [], x, h => by simp at h
  | r :: R, 0, _ => by simp [sum8]
  | r :: R, x + 1, h => by
    have := sum8_take R x (by simpa using h)
    simp only [List.take_succ_cons, sum8] at *
    rw [this]
    simp [List.getD]
    omega
theorem row8_ct (v : Int) (k : Nat) (hk : 1 ≤ k) : ∀ r ∈ row8 v k, 1 ≤ r.ct ∧ r.ct ≤ k := by
  have hrep : ∀ f j, ∀ r ∈ rep8 f j, 1 ≤ r.ct ∧ r.ct ≤ (j : Int) := by
    intro f
    induction f with
    | zero => intro j r h; simp [rep8] at h
    | succ f ih =>
      intro j r h
      rw [rep8] at h
      split at h
      · rcases List.mem_cons.1 h with rfl | h
        · simp only; omega
        · have := ih _ r h; omega
      · simp at h
  intro r h
  unfold row8 at h
  split at h
  · split at h
    · simp at h; subst h; simp only; omega
    · split at h
      · simp at h; subst h; simp only; omega
      · simp at h; subst h; simp only; omega
  · rcases List.mem_cons.1 h with rfl | h
    · simp only; omega
    · have := hrep _ _ r h; omega
theorem sum8_len : ∀ (R : List Rn8), (∀ r ∈ R, 1 ≤ r.ct) → R.length ≤ sum8 R
  | [], _ => by simp
  | r :: R, h => by
    have h1 := h r (by simp)
    have := sum8_len R fun x hx => h x (by simp [hx])
    simp only [sum8, List.length_cons]
    omega
theorem sum8_takele : ∀ (R : List Rn8) (x : Nat), sum8 (R.take x) ≤ sum8 R
  | [], x => by simp
  | r :: R, 0 => by simp [sum8]
  | r :: R, x + 1 => by
    have := sum8_takele R x
    simp only [List.take_succ_cons, sum8]
    omega
theorem take_snocN {R : List Rn8} {x : Nat} (h : x < R.length) : R.take (x + 1) = R.take x ++ [R.getD x ⟨0, 0⟩] := by
  rw [List.take_succ_eq_append_getElem h]; simp [List.getD, h]
theorem may8_at {zs : List Int} {i : Nat} (hi : i < zs.length) (h : may8 zs) : 0 ≤ zs.getD i 0 ∧ zs.getD i 0 ≤ 15 := h.2 _ (by simp [List.getD, hi])
theorem may8_all {zs : List Int} (hl : zs.length ≤ 320) (h : ∀ j, j < zs.length → 0 ≤ zs.getD j 0 ∧ zs.getD j 0 ≤ 15) : may8 zs := ⟨hl, fun z hz => by
  obtain ⟨i, hi, rfl⟩ := List.mem_iff_getElem.1 hz
  have := h i hi
  simpa [List.getD, hi] using this⟩
end Go.Proofs.YthcmebmohhajaaaDoor

namespace Go.Proofs.YthcmebmohhajaaaDoor
open Go.RowKit
set_option linter.unusedVariables false

/-! The document's Runs: the walk. -/
def RsQ (w : World) (ty : TypeId) (R : List Rn8) (er : Int) (e : Ending) (w' : World) : Prop := ∃ oa oc, e = .returned (.tuple #[.slice oa R.length oc, .int .i64 er]) ∧ w'.ownsRow w.heap.size ty 2 (.slice oa R.length oc) R.length (flatN R) ∧ Below w.heap.size w w'
/-- How far Runs has come. -/
def RnI (zs : List Int) (w wr : World) (ty : TypeId) (to ti : Value) : Prop := ∃ (i m oc : Nat) (oa : Option Addr) (R : List Rn8), i ≤ zs.length ∧ m ≤ i ∧ ti = .int .i64 (i : Int) ∧ to = .slice oa m oc ∧ R.length = m ∧ runs8 zs = R ++ rung8 (zs.length - i) (zs.drop i) ∧ wr.ownsRow w.heap.size ty 2 (.slice oa m oc) m (flatN R) ∧ Below w.heap.size w wr
theorem Kp.cellN {S : Nat → Prop} {a b : World} {k o : Nat} {v : Value} (h : Kp S a b) (hc : a.cell? ⟨k, o, none⟩ = some v) (hn : ¬ S k) : b.cell? ⟨k, o, none⟩ = some v := by
  have hl := World.block_lt_of_cell? a _ hc
  have := h.block k hl hn
  simp only [World.cell?] at hc ⊢
  rw [this]
  exact hc
theorem SegN.kp {S : Nat → Prop} {a b : World} {la : Option Addr} {L : List Rn8} (h : SegN a la L) (hk : Kp S a b) (hn : ∀ g o, la = some ⟨g, o, none⟩ → ¬ S g) : SegN b la L :=
  ⟨fun i hi => by
    obtain ⟨g, o, e, c1, c2⟩ := h.at_ i hi
    exact ⟨g, o, e, hk.cellN c1 (hn _ _ e), hk.cellN c2 (hn _ _ e)⟩⟩
theorem own_apartN {w w1 : World} {base n m oc c : Nat} {e e' : TypeId} {oa la : Option Addr} {xs ys : List Value} (h : w.ownsRow base e 2 (.slice oa m oc) m xs) (l : w1.ownsRow w.heap.size e' 2 (.slice la n c) n ys) : ∀ g o, la = some ⟨g, o, none⟩ → (Value.slice oa m oc).ownBlock ≠ some g := by
  intro g o ea hg
  have h1 := (h.lt g hg).2
  rcases l.2 with ⟨h0, _⟩ | ⟨g', cp, cur, hv, hb, _⟩
  · rw [ea] at h0
    simp at h0
  · rw [ea] at hv
    simp only [Value.slice.injEq, Option.some.injEq, Addr.mk.injEq] at hv
    omega
/-- How far Runs has come within a row. -/
def RnX (L R : List Rn8) (w wq : World) (ty : TypeId) (la : Option Addr) (N p m : Nat) (to ti tx : Value) : Prop := ∃ (x p' m' oc : Nat) (oa : Option Addr), x ≤ N ∧ tx = .int .i64 (x : Int) ∧ ti = .int .i64 (p' : Int) ∧ to = .slice oa m' oc ∧ m' = m + x ∧ p' = p + sum8 (L.take x) ∧ wq.ownsRow w.heap.size ty 2 (.slice oa m' oc) m' (flatN (R ++ L.take x)) ∧ Below w.heap.size w wq ∧ SegN wq la L ∧ ∀ g o, la = some ⟨g, o, none⟩ → (Value.slice oa m' oc).ownBlock ≠ some g
end Go.Proofs.YthcmebmohhajaaaDoor
