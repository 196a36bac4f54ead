import Derived.Test.YtcifalelnfeggaaGreatDoorPe
import Derived.Test.YtcifalelnfeggaaGreatDoorPc
import Derived.Deep.RegionHeld3
import Derived.Below
import Derived.Test.YtcifalelnfeggaaGreatDoorProg
import Derived.WalkKit
import Derived.WalkSpells
import Derived.Test.YtcifalelnfeggaaGreatDoorPa
import Derived.Deep.QuietTactic
import Derived.BigQuiet
namespace Go.Proofs.YtcifalelnfeggaaGreatDoor
open Go.RowKit
set_option linter.unusedVariables false

theorem i64_or_nat (a b : Nat) (ha : a < 4611686018427387904) (hb : b < 4611686018427387904) : bits .or .i64 (a : Int) (b : Int) = ((a ||| b : Nat) : Int) := by
  have hx : a ||| b < 2 ^ 62 := Nat.or_lt_two_pow (by omega) (by omega)
  show IntKind.i64.wrap ((BitVec.ofInt 64 (a : Int) ||| BitVec.ofInt 64 (b : Int)).toNat : Int) = _
  rw [BitVec.toNat_or, ofInt_u64 a (by omega), ofInt_u64 b (by omega)]
  exact IntWalk.i64_in _ (by omega)
theorem or_bit64 {x b : Nat} (h : b < 2) (hx : x ≤ 1000000) : bits .or .i64 ((x : Int) * 2) (b : Int) = ((2 * x + b : Nat) : Int) := by
  rw [show ((x : Int) * 2) = ((2 ^ 1 * x : Nat) : Int) by simp; omega, i64_or_nat _ _ (by omega) (by omega), ← Nat.two_pow_add_eq_or_of_lt (by omega : b < 2 ^ 1)]
theorem bit_at {L : List Bool} {l : Nat} (h : l < L.length) : num L / 2 ^ l % 2 = (L.getD l false).toNat := by
  rw [← num_drop L l (by omega), List.drop_eq_getElem_cons h]
  have hb : (L[l]).toNat < 2 := Bool.toNat_lt _
  simp only [num]
  simp [List.getD, h]
  omega

set_option maxRecDepth 100000 in
set_option maxHeartbeats 1000000 in
theorem find_any (b most : Nat) (zs : List Int) (H : List Bool) (n : Nat) (hn : Hid (n = min H.length 15)) (w : World) (hD : De w b most zs) :
    Calls Tryz.prog 162 #[.pointer (some ⟨b, 1, none⟩), .int .u64 (num (H.take n) : Int), .int .i64 (n : Int)] w fun e w' => ∃ sy le er, e = .returned (.tuple #[.int .i64 sy, .int .i64 le, .int .i64 er]) ∧ FindQ zs H sy le er ∧ w' = w := by
  obtain ⟨S, hS, hY, hb⟩ := hD.row
  have HL := errS_zero (errC_zero hD.ok).1
  have HLK : Hid (LOk zs) := HL.2
  go_enter Tryz.func162, Tryz.ntmps162
  go_wp2_with fail
  go_step3
  go_wp2_with fail
  go_step3
  go_wp2_with fail
  have hn15 : n ≤ 15 := by have := hn.out; omega
  have HNH : Hid (n ≤ H.length ∧ (n < 15 → n = H.length)) := ⟨by have := hn.out; omega, by have := hn.out; omega⟩
  have HW : Hid (spc zs = 32768 ∨ tot zs = 0 ∨ (tot zs = 1 ∧ cC zs 1 = 1)) := by
    have h1 := (errC_zero hD.ok).2
    unfold errR at h1
    by_cases c1 : 32768 < spc zs
    · rw [if_pos c1] at h1; cases h1
    · rw [if_neg c1] at h1
      by_cases c2 : spc zs = 32768 ∨ tot zs = 0 ∨ (tot zs = 1 ∧ cC zs 1 = 1)
      · exact c2
      · rw [if_neg c2] at h1; cases h1
  have hbnd := cC_288 (errC_zero hD.ok).1
  have HTT : Hid (tot zs ≤ 288) := Nat.le_trans (tot_le zs HL.2) HL.1
  have ct := arr_cell hb (i := 1 + 304) (by simp [dl, tbl_len hS])
  rw [dl_get, tbl_tot hS, show 1 + 304 = 305 from rfl] at ct
  have HY : Hid (SymOk zs S zs.length) := hY
  have htt := HTT.out
  clear HL hY
  go_loopw [9, 10, 11, 12, 13, 16] (fun t9 t10 t11 tb tsh tl wr => ∃ l d : Nat, l ≤ 16 ∧ t9 = .int .i64 0 ∧ t10 = .int .i64 0 ∧ t11 = .int .i64 0 ∧ tb = .int .i64 (d : Int) ∧ tsh = .int .i64 (cS zs l : Int) ∧ tl = .int .i64 (l : Int) ∧ wr = w ∧ Hid (l ≤ n ∧ d + cF zs l = vB H l ∧ ∀ j, j < l → cF zs j + cC zs j ≤ vB H j)) (fun _ _ _ _ _ tl _ => 16 - (intOf tl).toNat)
  case atStart => exact ⟨0, 0, by omega, rfl, rfl, rfl, rfl, rfl, rfl, rfl, (⟨by omega, by rw [vB_zero]; rfl, fun j hj => by omega⟩ : _ ∧ _)⟩
  case round =>
    obtain ⟨l, d, hl16, rfl, rfl, rfl, rfl, rfl, rfl, hwr, HQ⟩ := hrel
    subst hwr
    have hln : l ≤ n := HQ.out.1
    have hl15 : l ≤ 15 := by omega
    have hli : (l : Int) < 16 := by omega
    have cc := arr_cell hb (i := 1 + l) (by simp [dl, tbl_len hS]; omega)
    rw [dl_get, tbl_cnt (by omega)] at cc
    have hvl : vB H l < 32768 := Nat.lt_of_lt_of_le (vB_lt H l) (Nat.pow_le_pow_right (n := 2) (j := 15) (by decide) hl15)
    have hdb : d ≤ 32768 := by have := HQ.out.2.1; omega
    have hcb := hbnd l
    have hsb : cS zs l ≤ 288 := Nat.le_trans (cS_mono zs (b := 16) (by omega)) htt
    have HSS : Hid (cS zs (l + 1) = cS zs l + cC zs l) := cS_succ zs l
    have HCF : Hid (cF zs (l + 1) = 2 * (cF zs l + cC zs l)) := cF_succ zs l
    by_cases hdc : d < cC zs l
    · have hl0 : 0 < l := by
        rcases Nat.eq_zero_or_pos l with rfl | h
        · rw [cC_zero] at hdc; omega
        · exact h
      have HRK : Hid (∃ s, s < zs.length ∧ zs.getD s 0 = (l : Int) ∧ rk zs s = d) := rk_has zs (l : Int) d (by rw [← cC_pos zs hl0]; exact hdc)
      obtain ⟨s, hs1, hs2, hs3⟩ := HRK.out
      have HSF : Hid (Beg zs H s ∧ ln zs s = l ∧ S.getD (cS zs l + d) 0 = (s : Int)) := by
        have hln : ln zs s = l := by unfold ln; rw [hs2]; simp
        have s0 : zs.getD s 0 ≠ 0 := by rw [hs2]; omega
        refine ⟨⟨hs1, s0, ?_, ?_⟩, hln, ?_⟩
        · rw [hln]; have := HNH.out.1; omega
        · rw [hln]; unfold cd; rw [if_neg s0, hln, hs3]; have := HQ.out.2.1; omega
        · have := HY.out s hs1 s0
          rw [hln, hs3] at this
          exact this
      have hpb : cS zs l + d < 288 := by
        have h1 : cS zs (l + 1) ≤ cS zs 16 := cS_mono zs (by omega)
        have h2 := HSS.out
        have h3 := HTT.out
        unfold tot at h3
        omega
      have cs := arr_cell hb (i := 1 + (16 + (cS zs l + d))) (by simp [dl, tbl_len hS]; omega)
      rw [dl_get, tbl_sym hS (by omega), HSF.out.2.2, show 1 + (16 + (cS zs l + d)) = 17 + (cS zs l + d) by omega] at cs
      clear HRK hs1 hs2 hs3
      generalize cC zs l = c at *
      generalize cS zs l = f at *
      obtain ⟨p, hp⟩ : ∃ p, p = f + d := ⟨_, rfl⟩
      have r1 : (f : Int) + (d : Int) = (p : Int) := by omega
      have hpi : (p : Int) < 288 := by omega
      rw [← hp] at cs
      have hpb2 : p < 288 := by omega
      clear hp hpb
      have hdci : (d : Int) < (c : Int) := by omega
      go_wp2_with fail
      try rw [Exit.noGoto_ret]
      go_ret3
      exact ⟨s, l, 0, rfl, .inl ⟨s, HSF.out.1, rfl, by rw [HSF.out.2.1], rfl⟩, rfl⟩
    · have HPA : Hid (Past zs H l) := fun j hj => by
        rcases Nat.lt_or_ge j l with c | c
        · exact HQ.out.2.2 j c
        · obtain rfl : j = l := by omega
          have := HQ.out.2.1
          omega
      have hln2 := HNH.out.1
      by_cases hft : cS zs l + cC zs l = tot zs
      · have HFT : Hid _ := end_none HLK.out (show l ≤ H.length by omega) HPA.out (HSS.out.trans hft)
        have hfti : (cS zs l : Int) + (cC zs l : Int) = (tot zs : Int) := by omega
        clear hft
        generalize cC zs l = c at *
        generalize cS zs l = f at *
        generalize tot zs = T at *
        have hdci : ¬ (d : Int) < (c : Int) := by omega
        go_wp2_with fail
        try rw [Exit.noGoto_ret]
        go_ret3
        exact ⟨0, 0, 54, rfl, .inr (.inr ⟨HFT.out.1, HFT.out.2, rfl, rfl, rfl⟩), rfl⟩
      · have hfti : ¬ (cS zs l : Int) + (cC zs l : Int) = (tot zs : Int) := by omega
        by_cases hlen : l = n
        · have HFM : Hid ((∀ s, ¬ Beg zs H s) ∧ May zs H) := by
            have hl14 : l < 15 := by
              rcases Nat.lt_or_ge l 15 with c | c
              · exact c
              · exfalso
                apply hft
                rw [← HSS.out, show l = 15 by omega]
                rfl
            have e : H.length = l := by have := HNH.out.2 (by omega); omega
            have h1 := HPA.out
            rw [← e] at h1
            exact end_may HLK.out HW.out (by omega) h1 (by rw [e, HSS.out]; exact hft)
          subst hlen
          clear hft
          generalize cC zs l = c at *
          generalize cS zs l = f at *
          generalize tot zs = T at *
          have hdci : ¬ (d : Int) < (c : Int) := by omega
          go_wp2_with fail
          try rw [Exit.noGoto_ret]
          go_ret3
          exact ⟨0, 0, 0, rfl, .inr (.inl ⟨HFM.out.1, HFM.out.2, rfl, rfl, rfl⟩), rfl⟩
        · have hlnlt : l < n := by omega
          have hlni : ¬ (l : Int) = (n : Int) := by omega
          have HBT := bit_at (L := H.take n) (l := l) (by simp; omega)
          have eg : (H.take n).getD l false = H.getD l false := by simp [List.getD, hlnlt]
          rw [eg] at HBT
          have HVS : Hid (vB H (l + 1) = 2 * vB H l + (H.getD l false).toNat) := vB_succ (by omega)
          have hbt2 : (H.getD l false).toNat < 2 := Bool.toNat_lt _
          generalize (H.getD l false).toNat = bt at *
          have hrow : num (H.take n) < 32768 := Nat.lt_of_lt_of_le (num_lt _) (Nat.pow_le_pow_right (n := 2) (j := 15) (by decide) (by simp; omega))
          have hsh := shr_nat (num (H.take n)) l
          generalize num (H.take n) = row at *
          have hrd : row / 2 ^ l ≤ row := Nat.div_le_self _ _
          obtain ⟨rd, hrde⟩ : ∃ rd, rd = row / 2 ^ l := ⟨_, rfl⟩
          rw [← hrde] at hsh HBT hrd
          have hand : bits .and .u64 (rd : Int) 1 = (bt : Int) := by rw [and_one' rd (by omega), HBT]
          obtain ⟨e, he⟩ : ∃ e, e = d - cC zs l := ⟨_, rfl⟩
          have HE : Hid (e + cC zs l = d) := by show _ = _; omega
          have re : (d : Int) - (cC zs l : Int) = (e : Int) := by have := HE.out; omega
          have hor := or_bit64 (x := e) hbt2 (by omega)
          obtain ⟨y, hy⟩ : ∃ y, y = 2 * e + bt := ⟨_, rfl⟩
          rw [← hy] at hor
          have HYY : Hid (y = 2 * e + bt) := hy
          have heb : e ≤ 32768 := by omega
          have hyb : y ≤ 100000 := by omega
          clear hy he hrde HBT eg hft
          have hdci : ¬ (d : Int) < (cC zs l : Int) := by omega
          have HNX : Hid (y + cF zs (l + 1) = vB H (l + 1)) := by
            have h1 := HQ.out.2.1
            have h2 := HCF.out
            have h3 := HVS.out
            have h4 := HE.out
            have h5 := HYY.out
            show _ = _
            omega
          generalize cC zs l = c at *
          have rf : (cS zs l : Int) + (c : Int) = (cS zs (l + 1) : Int) := by have := HSS.out; omega
          have hsb2 : cS zs (l + 1) ≤ 1000 := by have := HSS.out; omega
          obtain ⟨f2, hf2⟩ : ∃ f2, f2 = cS zs (l + 1) := ⟨_, rfl⟩
          have HF2 : Hid (f2 = cS zs (l + 1)) := hf2
          rw [← hf2] at rf hsb2
          clear hf2
          generalize cS zs l = f at *
          generalize tot zs = T at *
          rw [rf] at hfti
          go_wp2_with fail
          go_roundw
          case rel => exact ⟨l + 1, y, by omega, rfl, rfl, rfl, rfl, by rw [HF2.out], by go_num, trivial, (⟨by omega, HNX.out, fun j hj => HPA.out j (by omega)⟩ : _ ∧ _)⟩
          case measure => simp [intOf]; omega
end Go.Proofs.YtcifalelnfeggaaGreatDoor

namespace Go.Proofs.YtcifalelnfeggaaGreatDoor
open Go.RowKit
set_option linter.unusedVariables false

/-! The landed block: within. -/
/-- Spans lie there, and a closure's two variables. -/
structure Sp9 (w : World) (P q1 q2 n : Nat) (S : List Int) (v : Int) : Prop where
  c1 : w.cell? ⟨q1, 0, none⟩ = some (.slice (some ⟨P, 0, none⟩) n n)
  c2 : w.cell? ⟨q2, 0, none⟩ = some (.int .i64 v)
  at_ : ∀ i, i < n → w.cell? ⟨P, i * 2, none⟩ = some (.int .i64 (S.getD (i * 2) 0))
set_option maxRecDepth 100000 in
set_option maxHeartbeats 1000000 in
theorem pcl9 (P q1 q2 n : Nat) (S : List Int) (v : Int) (i : Nat) (w : World) (h : Sp9 w P q1 q2 n S v) (hi : i < n) (hn : n ≤ 100) :
    Calls Tryz.prog 65 #[.int .i64 (i : Int), .pointer (some ⟨q1, 0, none⟩), .pointer (some ⟨q2, 0, none⟩)] w fun e w' => e = .returned (.bool (decide (v < S.getD (i * 2) 0))) ∧ w' = w.drew := by
  have c1 := h.c1
  have c2 := h.c2
  have c3 := h.at_ i hi
  have hii : (i : Int) < (n : Int) := by omega
  have hi0 : (0 : Int) ≤ (i : Int) := by omega
  generalize S.getD (i * 2) 0 = z at *
  clear h
  go_enter Tryz.func65, Tryz.ntmps65
  go_wp2_with fail
  go_region_held3 (fun w' => w'.cell? ⟨q1, 0, none⟩ = some (.slice (some ⟨P, 0, none⟩) n n) ∧ w'.cell? ⟨q2, 0, none⟩ = some (.int .i64 v) ∧ w'.cell? ⟨P, i * 2, none⟩ = some (.int .i64 z)) (exact ⟨c1, c2, c3⟩) (fail)
  go_wp2_with fail
  go_ret
  exact ⟨rfl, rfl⟩
set_option maxRecDepth 100000 in
set_option maxHeartbeats 2000000 in
theorem psrch9 (P q1 q2 n : Nat) (S : List Int) (v : Int) (w : World) (h : Sp9 w P q1 q2 n S v) (hn : n ≤ 100) (hm : ∀ a b, a ≤ b → b < n → S.getD (a * 2) 0 ≤ S.getD (b * 2) 0) :
    Calls Tryz.prog 64 #[.int .i64 (n : Int), .func (.func 65) #[] #[.pointer (some ⟨q1, 0, none⟩), .pointer (some ⟨q2, 0, none⟩)]] w fun e w' => ∃ r : Nat, r ≤ n ∧ (∀ k, k < r → S.getD (k * 2) 0 ≤ v) ∧ (∀ k, r ≤ k → k < n → v < S.getD (k * 2) 0) ∧ e = .returned (.int .i64 (r : Int)) ∧ Below w.heap.size w w' := by
  have HM : Hid (∀ a b, a ≤ b → b < n → S.getD (a * 2) 0 ≤ S.getD (b * 2) 0) := hm
  have HSP : Hid (Sp9 w P q1 q2 n S v) := h
  clear hm h
  go_enter Tryz.func64, Tryz.ntmps64
  go_wp2_with fail
  go_loopw [5, 6] (fun ti tj wr => ∃ i j : Nat, i ≤ j ∧ j ≤ n ∧ ti = .int .i64 (i : Int) ∧ tj = .int .i64 (j : Int) ∧ Hid (∀ k, k < i → S.getD (k * 2) 0 ≤ v) ∧ Hid (∀ k, j ≤ k → k < n → v < S.getD (k * 2) 0) ∧ Sp9 wr P q1 q2 n S v ∧ Below w.heap.size w wr) (fun ti tj _ => (intOf tj).toNat - (intOf ti).toNat)
  case atStart => exact ⟨0, n, by omega, by omega, rfl, rfl, fun k h => by omega, fun k h1 h2 => by omega, HSP.out, Below.refl _ _⟩
  case round =>
    obtain ⟨i, j, hij, hjn, rfl, rfl, H1, H2, SP, BR⟩ := hrel
    by_cases hlt : i < j
    · have hlti : (i : Int) < (j : Int) := by omega
      obtain ⟨m, hm⟩ : ∃ m, m = (i + j) / 2 := ⟨_, rfl⟩
      have hmi : ((i : Int) + (j : Int)) / 2 = (m : Int) := by omega
      have him : i ≤ m ∧ m < j := by omega
      have CC := pcl9 P q1 q2 n S v m wr SP (by omega) hn
      have i1 : IntKind.i64.wrap ((i : Int) + (j : Int)) = (i : Int) + (j : Int) := IntWalk.i64_in _ (by omega)
      have HSR : Hid (Sp9 wr P q1 q2 n S v) := SP
      clear SP hm
      go_wp2_with fail
      refine CC.mono ?_
      rintro e w2 ⟨rfl, hw2⟩
      have SP2 : Sp9 w2 P q1 q2 n S v := by rw [hw2]; exact ⟨HSR.out.c1, HSR.out.c2, HSR.out.at_⟩
      have B2 : Below w.heap.size w w2 := by rw [hw2]; exact BR.drew
      clear CC hw2
      by_cases hz : v < S.getD (m * 2) 0
      · rw [decide_eq_true hz]
        have HG : Hid (∀ k, m ≤ k → k < n → v < S.getD (k * 2) 0) := fun k h1 h2 => by have := HM.out m k h1 h2; omega
        clear hz
        go_wp2_with fail
        go_roundw
        case rel => exact ⟨i, m, by omega, by omega, rfl, rfl, H1, HG, SP2, B2⟩
        case measure => simp [intOf]; omega
      · rw [decide_eq_false hz]
        have HG : Hid (∀ k, k < m + 1 → S.getD (k * 2) 0 ≤ v) := fun k h1 => by have := HM.out k m (by omega) (by omega); omega
        have i2 : IntKind.i64.wrap ((m : Int) + 1) = (m : Int) + 1 := IntWalk.i64_in _ (by omega)
        clear hz
        go_wp2_with fail
        go_roundw
        case rel => exact ⟨m + 1, j, by omega, by omega, rfl, rfl, HG, H2, SP2, B2⟩
        case measure => simp [intOf]; omega
    · have hlti : ¬ (i : Int) < (j : Int) := by omega
      obtain rfl : i = j := by omega
      go_wp2_with fail
      go_ret
      exact ⟨i, by omega, H1.out, H2.out, rfl, BR⟩
set_option maxRecDepth 100000 in
set_option maxHeartbeats 2000000 in
theorem pwith9 (P n : Nat) (S : List Int) (v : Int) (w : World) (hS : ∀ i, i < n → w.cell? ⟨P, i * 2, none⟩ = some (.int .i64 (S.getD (i * 2) 0))) (hn : n ≤ 100) (hn1 : 1 ≤ n) (hm : ∀ a b, a ≤ b → b < n → S.getD (a * 2) 0 ≤ S.getD (b * 2) 0) (hv : S.getD 0 0 ≤ v) :
    Calls Tryz.prog 43 #[.slice (some ⟨P, 0, none⟩) n n, .int .i64 v] w fun e w' => ∃ r : Nat, r < n ∧ S.getD (r * 2) 0 ≤ v ∧ (∀ k, r < k → k < n → v < S.getD (k * 2) 0) ∧ e = .returned (.int .i64 (r : Int)) ∧ Below w.heap.size w w' := by
  have hPl : P < w.heap.size := World.block_lt_of_cell? w _ (hS 0 (by omega))
  have hmf : ∀ (fn : Fn) (first cap : Array Value) (w : World), (Instr.makeFunc fn first cap).run Tryz.prog w = .ok (.func fn first cap) w := fun _ _ _ _ => rfl
  have HS : Hid (∀ i, i < n → w.cell? ⟨P, i * 2, none⟩ = some (.int .i64 (S.getD (i * 2) 0))) := hS
  have HM : Hid (∀ a b, a ≤ b → b < n → S.getD (a * 2) 0 ≤ S.getD (b * 2) 0) := hm
  have HV : Hid (S.getD 0 0 ≤ v) := hv
  clear hS hm hv
  go_enter Tryz.func43, Tryz.ntmps43
  go_wp2_with fail
  obtain ⟨W, hW⟩ : ∃ W, W = (w.alloc (.cells #[.slice (some ⟨P, 0, none⟩) n n] 92)).alloc (.cells #[.int .i64 v] 3) := ⟨_, rfl⟩
  rw [← hW]
  have BW : Below w.heap.size w W := by rw [hW]; exact (below_box8 w _).trans ((below_box8 _ _).mono (by simp))
  have g0 : W.heap[w.heap.size]? = some (.cells #[.slice (some ⟨P, 0, none⟩) n n] 92 (0, 0)) := by
    rw [hW, heap_alloc_old _ _ (by simp)]
    exact heap_alloc_new _ _
  have g1 : W.heap[w.heap.size + 1]? = some (.cells #[.int .i64 v] 3 (0, 0)) := by
    have := heap_alloc_new (w.alloc (.cells #[.slice (some ⟨P, 0, none⟩) n n] 92)) (.cells #[.int .i64 v] 3)
    rw [show (w.alloc (.cells #[.slice (some ⟨P, 0, none⟩) n n] 92)).heap.size = w.heap.size + 1 by simp, ← hW] at this
    exact this
  have SP : Sp9 W P w.heap.size (w.heap.size + 1) n S v := ⟨(cell_of_row W _ 0 _ _ _ g0).trans rfl, (cell_of_row W _ 0 _ _ _ g1).trans rfl, fun i hi => (BW.cell (p := ⟨P, i * 2, none⟩) hPl).trans (HS.out i hi)⟩
  have CS := psrch9 P w.heap.size (w.heap.size + 1) n S v W SP hn HM.out
  clear hW g0 g1 SP hmf
  refine CS.mono ?_
  rintro e w2 ⟨r0, hr0, h1, h2, rfl, b2⟩
  have hr1 : 1 ≤ r0 := by
    by_cases h : r0 = 0
    · have := h2 0 (by omega) (by omega)
      have hv := HV.out
      rw [Nat.zero_mul] at this
      omega
    · omega
  have HA : Hid (∃ r : Nat, r < n ∧ S.getD (r * 2) 0 ≤ v ∧ (∀ k, r < k → k < n → v < S.getD (k * 2) 0) ∧ (r0 : Int) - 1 = (r : Int)) := ⟨r0 - 1, by omega, h1 (r0 - 1) (by omega), fun k q1 q2 => h2 k (by omega) q2, by omega⟩
  have B2 : Below w.heap.size w w2 := BW.trans (b2.mono BW.size)
  have i1 : IntKind.i64.wrap ((r0 : Int) - 1) = (r0 : Int) - 1 := IntWalk.i64_in _ (by omega)
  clear CS h1 h2 b2 BW
  go_wp2_with fail
  go_ret
  obtain ⟨r, q1, q2, q3, q4⟩ := HA.out
  exact ⟨r, q1, q2, q3, by rw [← q4]; rfl, B2⟩
end Go.Proofs.YtcifalelnfeggaaGreatDoor

namespace Go.Proofs.YtcifalelnfeggaaGreatDoor
open Go.RowKit
set_option linter.unusedVariables false

/-! The landed block: symbols. -/
theorem results_tmp49 {P : Program} {fn : Func} {t u v x : Tmp} (h : fn.results = #[.tmp t, .tmp u, .tmp v, .tmp x]) (tmps : Array Value) (w : World) : (results fn tmps).run P w = .ok (.tuple #[tmps.getD t undef, tmps.getD u undef, tmps.getD v undef, tmps.getD x undef]) w := by
  simp [results, h, go_sem]
set_option maxRecDepth 100000 in
theorem mono_plsy9 : ∀ b a : Fin 29, a.val ≤ b.val → lnS9.getD (a.val * 2) 0 ≤ lnS9.getD (b.val * 2) 0 := by decide
set_option maxRecDepth 100000 in
theorem bd_plsy9 : ∀ a : Fin 29, (0 ≤ lnS9.getD (a.val * 2) 0 ∧ lnS9.getD (a.val * 2) 0 ≤ 32768) ∧ 0 ≤ lnS9.getD (a.val * 2 + 1) 0 ∧ lnS9.getD (a.val * 2 + 1) 0 ≤ 13 := by decide
set_option maxRecDepth 100000 in
set_option maxHeartbeats 4000000 in
theorem plsy9_no (x : Int) (h : x < 3 ∨ 258 < x) (w : World) :
    Calls Tryz.prog 9 #[.int .i64 x] w fun e w' => e = .returned (.tuple #[.int .i64 0, .int .i64 0, .int .i64 0, .int .i64 1]) ∧ w' = w := by
  by_cases h1 : x < 3
  · go_enter Tryz.func9, Tryz.ntmps9
    go_wp2_with fail
    refine bodyPost_ret (results_tmp49 rfl _ _) rfl ?_
    exact ⟨rfl, rfl⟩
  · have h2 : 258 < x := by omega
    go_enter Tryz.func9, Tryz.ntmps9
    go_wp2_with fail
    refine bodyPost_ret (results_tmp49 rfl _ _) rfl ?_
    exact ⟨rfl, rfl⟩
set_option maxRecDepth 100000 in
set_option maxHeartbeats 4000000 in
theorem plsy9_ok (x : Int) (h1 : 3 ≤ x) (h2 : x ≤ 258) (w : World) :
    Calls Tryz.prog 9 #[.int .i64 x] w fun e w' => ∃ i : Nat, i < 29 ∧ lnS9.getD (i * 2) 0 ≤ x ∧ (∀ k, i < k → k < 29 → x < lnS9.getD (k * 2) 0) ∧ e = .returned (.tuple #[.int .i64 (257 + (i : Int)), .int .i64 (lnS9.getD (i * 2 + 1) 0), .int .i64 (x - lnS9.getD (i * 2) 0), .int .i64 0]) ∧ Below w.heap.size w w' := by
  have j1 : ¬ x < 3 := by omega
  have j2 : ¬ (258 : Int) < x := by omega
  go_enter Tryz.func9, Tryz.ntmps9
  go_wp2_with fail
  refine (plnsp9 w).mono ?_
  rintro e w1 ⟨rfl, b1⟩
  go_wp2_with (refine wpList_store_row rfl 89 (.tmp 6) (.tmp 14) rfl w1.heap.size (arr lnS9) rfl rfl _ _ (heap_alloc_new w1 _) info_plnsp99 (by kernel_rfl) (arr_one _) ?_)
  have q0 := setRow_heap _ w1.heap.size _ (arr lnS9) _ _ (heap_alloc_new w1 (.cells (Array.replicate 58 (.int .i64 0)) 89))
  have B0 : Below w1.heap.size w1 ((w1.alloc (.cells (Array.replicate 58 (.int .i64 0)) 89)).setRow w1.heap.size (arr lnS9)) := ((Below.refl w1.heap.size w1).alloc (Nat.le_refl _) _).grown (grown_setRow _ _ _) (by simp) (fun j e => by cases e; exact Nat.le_refl _)
  have HW : Hid (∃ W2, W2 = (w1.alloc (.cells (Array.replicate 58 (.int .i64 0)) 89)).setRow w1.heap.size (arr lnS9)) := ⟨_, rfl⟩
  obtain ⟨W2, hW2⟩ := HW.out
  rw [← hW2] at q0 B0
  show Calls Tryz.prog 43 _ ((w1.alloc (.cells (Array.replicate 58 (.int .i64 0)) 89)).setRow w1.heap.size (arr lnS9)) _
  rw [← hW2]
  clear HW hW2
  have cells : ∀ i, i < 58 → W2.cell? ⟨w1.heap.size, i, none⟩ = some (.int .i64 (lnS9.getD i 0)) := fun i hi => by
    have hl : i < lnS9.length := hi
    refine (cell_of_row W2 _ i _ _ _ q0).trans ?_
    simp [arr, List.getD, hl]
  obtain ⟨P, hP⟩ : ∃ P, P = w1.heap.size := ⟨_, rfl⟩
  rw [← hP] at q0 cells
  rw [← hP]
  have HPW : Hid (P = w1.heap.size) := hP
  clear hP
  have HB : Hid (Below w.heap.size w W2) := b1.trans (B0.mono b1.size)
  have hPW : P < W2.heap.size := (Array.getElem?_eq_some_iff.1 q0).1
  have HCE : Hid (∀ i, i < 58 → W2.cell? ⟨P, i, none⟩ = some (.int .i64 (lnS9.getD i 0))) := cells
  have CW := pwith9 P 29 lnS9 x W2 (fun i hi => cells (i * 2) (by omega)) (by omega) (by omega) (fun a b h1 h2 => mono_plsy9 ⟨b, h2⟩ ⟨a, by omega⟩ h1) (by show 3 ≤ x; omega)
  clear q0 B0 b1 cells
  refine CW.mono ?_
  rintro e w3 ⟨i, hi, s1, s2, rfl, b3⟩
  have d0 := (b3.cell (p := ⟨P, i * 2, none⟩) hPW).trans (HCE.out (i * 2) (by omega))
  have d1 := (b3.cell (p := ⟨P, i * 2 + 1, none⟩) hPW).trans (HCE.out (i * 2 + 1) (by omega))
  have bb := bd_plsy9 ⟨i, hi⟩
  simp only at bb
  have HA : Hid (lnS9.getD (i * 2) 0 ≤ x ∧ (∀ k, i < k → k < 29 → x < lnS9.getD (k * 2) 0)) := ⟨s1, s2⟩
  have B3 : Below w.heap.size w w3 := HB.out.trans (b3.mono HB.out.size)
  obtain ⟨z0, hz0⟩ : ∃ z, z = lnS9.getD (i * 2) 0 := ⟨_, rfl⟩
  obtain ⟨z1, hz1⟩ : ∃ z, z = lnS9.getD (i * 2 + 1) 0 := ⟨_, rfl⟩
  have HZ : Hid (z0 = lnS9.getD (i * 2) 0 ∧ z1 = lnS9.getD (i * 2 + 1) 0) := ⟨hz0, hz1⟩
  rw [← hz0] at d0 bb s1
  rw [← hz1] at d1 bb
  have hii : (i : Int) < 29 := by omega
  have hi0 : (0 : Int) ≤ (i : Int) := by omega
  have i2 : IntKind.i64.wrap (x - z0) = x - z0 := IntWalk.i64_in _ (by omega)
  have i3 : IntKind.i64.wrap (257 + (i : Int)) = 257 + (i : Int) := IntWalk.i64_in _ (by omega)
  clear CW s2 b3 hz0 hz1
  go_wp2_with fail
  try rw [← HPW.out]
  go_region_held3 (fun w' => w'.cell? ⟨P, i * 2, none⟩ = some (.int .i64 z0) ∧ w'.cell? ⟨P, i * 2 + 1, none⟩ = some (.int .i64 z1)) (exact ⟨d0, d1⟩) (fail)
  go_wp2_with fail
  refine bodyPost_ret (results_tmp49 rfl _ _) rfl ?_
  refine ⟨i, hi, HA.out.1, HA.out.2, ?_, B3.drew⟩
  rw [← HZ.out.1, ← HZ.out.2]
  rfl
set_option maxRecDepth 100000 in
theorem mono_pdsy9 : ∀ b a : Fin 30, a.val ≤ b.val → dsS9.getD (a.val * 2) 0 ≤ dsS9.getD (b.val * 2) 0 := by decide
set_option maxRecDepth 100000 in
theorem bd_pdsy9 : ∀ a : Fin 30, (0 ≤ dsS9.getD (a.val * 2) 0 ∧ dsS9.getD (a.val * 2) 0 ≤ 32768) ∧ 0 ≤ dsS9.getD (a.val * 2 + 1) 0 ∧ dsS9.getD (a.val * 2 + 1) 0 ≤ 13 := by decide
set_option maxRecDepth 100000 in
set_option maxHeartbeats 4000000 in
theorem pdsy9_no (x : Int) (h : x < 1 ∨ 32768 < x) (w : World) :
    Calls Tryz.prog 11 #[.int .i64 x] w fun e w' => e = .returned (.tuple #[.int .i64 0, .int .i64 0, .int .i64 0, .int .i64 1]) ∧ w' = w := by
  by_cases h1 : x < 1
  · go_enter Tryz.func11, Tryz.ntmps11
    go_wp2_with fail
    refine bodyPost_ret (results_tmp49 rfl _ _) rfl ?_
    exact ⟨rfl, rfl⟩
  · have h2 : 32768 < x := by omega
    go_enter Tryz.func11, Tryz.ntmps11
    go_wp2_with fail
    refine bodyPost_ret (results_tmp49 rfl _ _) rfl ?_
    exact ⟨rfl, rfl⟩
set_option maxRecDepth 100000 in
set_option maxHeartbeats 4000000 in
theorem pdsy9_ok (x : Int) (h1 : 1 ≤ x) (h2 : x ≤ 32768) (w : World) :
    Calls Tryz.prog 11 #[.int .i64 x] w fun e w' => ∃ i : Nat, i < 30 ∧ dsS9.getD (i * 2) 0 ≤ x ∧ (∀ k, i < k → k < 30 → x < dsS9.getD (k * 2) 0) ∧ e = .returned (.tuple #[.int .i64 ((i : Int)), .int .i64 (dsS9.getD (i * 2 + 1) 0), .int .i64 (x - dsS9.getD (i * 2) 0), .int .i64 0]) ∧ Below w.heap.size w w' := by
  have j1 : ¬ x < 1 := by omega
  have j2 : ¬ (32768 : Int) < x := by omega
  go_enter Tryz.func11, Tryz.ntmps11
  go_wp2_with fail
  refine (pdssp9 w).mono ?_
  rintro e w1 ⟨rfl, b1⟩
  go_wp2_with (refine wpList_store_row rfl 94 (.tmp 6) (.tmp 14) rfl w1.heap.size (arr dsS9) rfl rfl _ _ (heap_alloc_new w1 _) info_pdssp99 (by kernel_rfl) (arr_one _) ?_)
  have q0 := setRow_heap _ w1.heap.size _ (arr dsS9) _ _ (heap_alloc_new w1 (.cells (Array.replicate 60 (.int .i64 0)) 94))
  have B0 : Below w1.heap.size w1 ((w1.alloc (.cells (Array.replicate 60 (.int .i64 0)) 94)).setRow w1.heap.size (arr dsS9)) := ((Below.refl w1.heap.size w1).alloc (Nat.le_refl _) _).grown (grown_setRow _ _ _) (by simp) (fun j e => by cases e; exact Nat.le_refl _)
  have HW : Hid (∃ W2, W2 = (w1.alloc (.cells (Array.replicate 60 (.int .i64 0)) 94)).setRow w1.heap.size (arr dsS9)) := ⟨_, rfl⟩
  obtain ⟨W2, hW2⟩ := HW.out
  rw [← hW2] at q0 B0
  show Calls Tryz.prog 43 _ ((w1.alloc (.cells (Array.replicate 60 (.int .i64 0)) 94)).setRow w1.heap.size (arr dsS9)) _
  rw [← hW2]
  clear HW hW2
  have cells : ∀ i, i < 60 → W2.cell? ⟨w1.heap.size, i, none⟩ = some (.int .i64 (dsS9.getD i 0)) := fun i hi => by
    have hl : i < dsS9.length := hi
    refine (cell_of_row W2 _ i _ _ _ q0).trans ?_
    simp [arr, List.getD, hl]
  obtain ⟨P, hP⟩ : ∃ P, P = w1.heap.size := ⟨_, rfl⟩
  rw [← hP] at q0 cells
  rw [← hP]
  have HPW : Hid (P = w1.heap.size) := hP
  clear hP
  have HB : Hid (Below w.heap.size w W2) := b1.trans (B0.mono b1.size)
  have hPW : P < W2.heap.size := (Array.getElem?_eq_some_iff.1 q0).1
  have HCE : Hid (∀ i, i < 60 → W2.cell? ⟨P, i, none⟩ = some (.int .i64 (dsS9.getD i 0))) := cells
  have CW := pwith9 P 30 dsS9 x W2 (fun i hi => cells (i * 2) (by omega)) (by omega) (by omega) (fun a b h1 h2 => mono_pdsy9 ⟨b, h2⟩ ⟨a, by omega⟩ h1) (by show 1 ≤ x; omega)
  clear q0 B0 b1 cells
  refine CW.mono ?_
  rintro e w3 ⟨i, hi, s1, s2, rfl, b3⟩
  have d0 := (b3.cell (p := ⟨P, i * 2, none⟩) hPW).trans (HCE.out (i * 2) (by omega))
  have d1 := (b3.cell (p := ⟨P, i * 2 + 1, none⟩) hPW).trans (HCE.out (i * 2 + 1) (by omega))
  have bb := bd_pdsy9 ⟨i, hi⟩
  simp only at bb
  have HA : Hid (dsS9.getD (i * 2) 0 ≤ x ∧ (∀ k, i < k → k < 30 → x < dsS9.getD (k * 2) 0)) := ⟨s1, s2⟩
  have B3 : Below w.heap.size w w3 := HB.out.trans (b3.mono HB.out.size)
  obtain ⟨z0, hz0⟩ : ∃ z, z = dsS9.getD (i * 2) 0 := ⟨_, rfl⟩
  obtain ⟨z1, hz1⟩ : ∃ z, z = dsS9.getD (i * 2 + 1) 0 := ⟨_, rfl⟩
  have HZ : Hid (z0 = dsS9.getD (i * 2) 0 ∧ z1 = dsS9.getD (i * 2 + 1) 0) := ⟨hz0, hz1⟩
  rw [← hz0] at d0 bb s1
  rw [← hz1] at d1 bb
  have hii : (i : Int) < 30 := by omega
  have hi0 : (0 : Int) ≤ (i : Int) := by omega
  have i2 : IntKind.i64.wrap (x - z0) = x - z0 := IntWalk.i64_in _ (by omega)
  clear CW s2 b3 hz0 hz1
  go_wp2_with fail
  try rw [← HPW.out]
  go_region_held3 (fun w' => w'.cell? ⟨P, i * 2, none⟩ = some (.int .i64 z0) ∧ w'.cell? ⟨P, i * 2 + 1, none⟩ = some (.int .i64 z1)) (exact ⟨d0, d1⟩) (fail)
  go_wp2_with fail
  refine bodyPost_ret (results_tmp49 rfl _ _) rfl ?_
  refine ⟨i, hi, HA.out.1, HA.out.2, ?_, B3.drew⟩
  rw [← HZ.out.1, ← HZ.out.2]
  rfl
end Go.Proofs.YtcifalelnfeggaaGreatDoor

namespace Go.Proofs.YtcifalelnfeggaaGreatDoor
open Go.RowKit
set_option linter.unusedVariables false

/-! The landed block: what symbols stand for. -/
theorem ext29 (L : List Int) (i : Nat) (h : i * 2 + 1 < L.length) : (arr L).extract (i * 2) (i * 2 + 2) = #[.int .i64 (L.getD (i * 2) 0), .int .i64 (L.getD (i * 2 + 1) 0)] := by
  refine Array.ext (by simp [arr]; omega) fun j h1 h2 => ?_
  have hj : j < 2 := by simpa using h2
  obtain rfl | rfl : j = 0 ∨ j = 1 := by omega
  · simp [arr, List.getD, show i * 2 < L.length by omega]
  · simp [arr, List.getD, h]
set_option maxRecDepth 100000 in
set_option maxHeartbeats 4000000 in
theorem plof9_no (x : Int) (h : x < 257 ∨ 286 ≤ x) (w : World) :
    Calls Tryz.prog 13 #[.int .i64 x] w fun e w' => e = .returned (.tuple #[.int .i64 0, .int .i64 0, .int .i64 1]) ∧ w' = w := by
  by_cases h1 : x < 257
  · go_enter Tryz.func13, Tryz.ntmps13
    go_wp2_with fail
    go_ret3
    exact ⟨rfl, rfl⟩
  · have h2 : (286 : Int) ≤ x := by omega
    go_enter Tryz.func13, Tryz.ntmps13
    go_wp2_with fail
    go_ret3
    exact ⟨rfl, rfl⟩
set_option maxRecDepth 100000 in
set_option maxHeartbeats 4000000 in
theorem plof9_ok (x : Int) (i : Nat) (hi : (i : Int) = x - 257) (h : i < 29) (w : World) :
    Calls Tryz.prog 13 #[.int .i64 x] w fun e w' => e = .returned (.tuple #[.int .i64 (lnS9.getD (i * 2) 0), .int .i64 (lnS9.getD (i * 2 + 1) 0), .int .i64 0]) ∧ Below w.heap.size w w' := by
  have j1 : ¬ x < 257 := by omega
  have j2 : ¬ (286 : Int) ≤ x := by omega
  have hix : ∀ W, (Instr.index 89 (.agg (arr lnS9)) (.int .i64 (x - 257))).run Tryz.prog W = .ok (.agg #[.int .i64 (lnS9.getD (i * 2) 0), .int .i64 (lnS9.getD (i * 2 + 1) 0)]) W := fun W => by
    rw [← hi, ← ext29 lnS9 i (by show i * 2 + 1 < 58; omega)]
    exact run_index9 W 89 88 29 2 _ _ i .i64 h Tryz.underlying89 Tryz.underlying88 (by kernel_rfl)
  generalize lnS9.getD (i * 2) 0 = z0 at *
  generalize lnS9.getD (i * 2 + 1) 0 = z1 at *
  go_enter Tryz.func13, Tryz.ntmps13
  go_wp2_with fail
  refine (plnsp9 w).mono ?_
  rintro e w1 ⟨rfl, b1⟩
  go_wp2_with fail
  have g0 := heap_alloc_new w1 (.cells #[.int .i64 z0, .int .i64 z1] 88)
  have B1 : Below w.heap.size w (w1.alloc (.cells #[.int .i64 z0, .int .i64 z1] 88)) := b1.alloc b1.size _
  generalize w1.alloc (.cells #[.int .i64 z0, .int .i64 z1] 88) = w2 at *
  have d0 : w2.cell? ⟨w1.heap.size, 0, none⟩ = some (.int .i64 z0) := (cell_of_row w2 _ 0 _ _ _ g0).trans rfl
  have d1 : w2.cell? ⟨w1.heap.size, 1, none⟩ = some (.int .i64 z1) := (cell_of_row w2 _ 1 _ _ _ g0).trans rfl
  clear hix g0
  go_region_held3 (fun w' => w'.cell? ⟨w1.heap.size, 0, none⟩ = some (.int .i64 z0) ∧ w'.cell? ⟨w1.heap.size, 1, none⟩ = some (.int .i64 z1)) (exact ⟨d0, d1⟩) (fail)
  go_wp2_with fail
  go_ret3
  exact ⟨rfl, B1.drew⟩
set_option maxRecDepth 100000 in
set_option maxHeartbeats 4000000 in
theorem pdof9_no (x : Int) (h : x < 0 ∨ 30 ≤ x) (w : World) :
    Calls Tryz.prog 15 #[.int .i64 x] w fun e w' => e = .returned (.tuple #[.int .i64 0, .int .i64 0, .int .i64 1]) ∧ w' = w := by
  by_cases h1 : x < 0
  · go_enter Tryz.func15, Tryz.ntmps15
    go_wp2_with fail
    go_ret3
    exact ⟨rfl, rfl⟩
  · have h2 : (30 : Int) ≤ x := by omega
    go_enter Tryz.func15, Tryz.ntmps15
    go_wp2_with fail
    go_ret3
    exact ⟨rfl, rfl⟩
set_option maxRecDepth 100000 in
set_option maxHeartbeats 4000000 in
theorem pdof9_ok (x : Int) (i : Nat) (hi : (i : Int) = x) (h : i < 30) (w : World) :
    Calls Tryz.prog 15 #[.int .i64 x] w fun e w' => e = .returned (.tuple #[.int .i64 (dsS9.getD (i * 2) 0), .int .i64 (dsS9.getD (i * 2 + 1) 0), .int .i64 0]) ∧ Below w.heap.size w w' := by
  have j1 : ¬ x < 0 := by omega
  have j2 : ¬ (30 : Int) ≤ x := by omega
  have hix : ∀ W, (Instr.index 94 (.agg (arr dsS9)) (.int .i64 (x))).run Tryz.prog W = .ok (.agg #[.int .i64 (dsS9.getD (i * 2) 0), .int .i64 (dsS9.getD (i * 2 + 1) 0)]) W := fun W => by
    rw [← hi, ← ext29 dsS9 i (by show i * 2 + 1 < 60; omega)]
    exact run_index9 W 94 88 30 2 _ _ i .i64 h Tryz.underlying94 Tryz.underlying88 (by kernel_rfl)
  generalize dsS9.getD (i * 2) 0 = z0 at *
  generalize dsS9.getD (i * 2 + 1) 0 = z1 at *
  go_enter Tryz.func15, Tryz.ntmps15
  go_wp2_with fail
  refine (pdssp9 w).mono ?_
  rintro e w1 ⟨rfl, b1⟩
  go_wp2_with fail
  have g0 := heap_alloc_new w1 (.cells #[.int .i64 z0, .int .i64 z1] 88)
  have B1 : Below w.heap.size w (w1.alloc (.cells #[.int .i64 z0, .int .i64 z1] 88)) := b1.alloc b1.size _
  generalize w1.alloc (.cells #[.int .i64 z0, .int .i64 z1] 88) = w2 at *
  have d0 : w2.cell? ⟨w1.heap.size, 0, none⟩ = some (.int .i64 z0) := (cell_of_row w2 _ 0 _ _ _ g0).trans rfl
  have d1 : w2.cell? ⟨w1.heap.size, 1, none⟩ = some (.int .i64 z1) := (cell_of_row w2 _ 1 _ _ _ g0).trans rfl
  clear hix g0
  go_region_held3 (fun w' => w'.cell? ⟨w1.heap.size, 0, none⟩ = some (.int .i64 z0) ∧ w'.cell? ⟨w1.heap.size, 1, none⟩ = some (.int .i64 z1)) (exact ⟨d0, d1⟩) (fail)
  go_wp2_with fail
  go_ret3
  exact ⟨rfl, B1.drew⟩
end Go.Proofs.YtcifalelnfeggaaGreatDoor

namespace Go.Proofs.YtcifalelnfeggaaGreatDoor
set_option linter.unusedVariables false

/-! Tokens as the document has them (layer 7), without any program: which may be, what they are. -/
structure Tok7 where
  lit : Int
  len : Int
  dist : Int
def may7 (t : Tok7) : Prop := if t.len = 0 then t.dist = 0 else 3 ≤ t.len ∧ t.len ≤ 258 ∧ 1 ≤ t.dist ∧ t.dist ≤ 32768 ∧ t.lit = 0
instance (t : Tok7) : Decidable (may7 t) := by unfold may7; infer_instance
def wid7 (t : Tok7) : Nat := if may7 t then (if t.len = 0 then 1 else t.len.toNat) else 0
def siz7 : List Tok7 → Nat
  | [] => 0
  | t :: r => wid7 t + siz7 r
def far7 (win : Int) (tot : Nat) (t : Tok7) : Prop := 0 < t.len ∧ (win < t.dist ∨ (tot : Int) < t.dist)
instance (win : Int) (tot : Nat) (t : Tok7) : Decidable (far7 win tot t) := by unfold far7; infer_instance
def chk7 (win : Int) : List Tok7 → Nat → Nat → Nat × Int
  | [], _, _ => (0, 0)
  | t :: r, tot, i => if ¬ may7 t then (i, 70) else if far7 win tot t then (i, 71) else chk7 win r (tot + wid7 t) (i + 1)
def check7 (win : Int) (l : List Tok7) : Nat × Int := if win < 1 ∨ 32768 < win then (0, 1) else chk7 win l 0 0
/-- The tokens are in order, where tot bytes stand ahead. -/
def ok7 (win : Int) : List Tok7 → Nat → Prop
  | [], _ => True
  | t :: r, tot => may7 t ∧ ¬ far7 win tot t ∧ ok7 win r (tot + wid7 t)
theorem chk7_ok (win : Int) : ∀ (l : List Tok7) (tot i : Nat), ok7 win l tot → chk7 win l tot i = (0, 0)
  | [], _, _, _ => rfl
  | t :: r, tot, i, ⟨h1, h2, h3⟩ => by
    rw [chk7, if_neg (by simpa using h1), if_neg h2]
    exact chk7_ok win r _ _ h3
theorem ok7_chk (win : Int) : ∀ (l : List Tok7) (tot i : Nat), (chk7 win l tot i).2 = 0 → ok7 win l tot
  | [], _, _, _ => trivial
  | t :: r, tot, i, h => by
    rw [chk7] at h
    by_cases h1 : may7 t
    · rw [if_neg (by simpa using h1)] at h
      by_cases h2 : far7 win tot t
      · rw [if_pos h2] at h; simp at h
      · rw [if_neg h2] at h
        exact ⟨h1, h2, ok7_chk win r _ _ h⟩
    · rw [if_pos h1] at h; simp at h
theorem ok7_take (win : Int) : ∀ (l : List Tok7) (tot n : Nat), ok7 win l tot → ok7 win (l.take n) tot
  | [], _, _, _ => by simp [ok7]
  | t :: r, tot, 0, _ => by simp [ok7]
  | t :: r, tot, n + 1, ⟨h1, h2, h3⟩ => by
    rw [List.take_succ_cons]
    exact ⟨h1, h2, ok7_take win r _ n h3⟩
/-- n bytes, each the one that stands d ahead. -/
def cp7 (b : List Int) (d : Nat) : Nat → List Int
  | 0 => b
  | n + 1 => cp7 b d n ++ [(cp7 b d n).getD ((cp7 b d n).length - d) 0]
theorem cp7_len (b : List Int) (d : Nat) : ∀ n, (cp7 b d n).length = b.length + n
  | 0 => rfl
  | n + 1 => by rw [cp7, List.length_append, cp7_len b d n]; rfl
theorem cp7_take (b : List Int) (d : Nat) : ∀ n, (cp7 b d n).take b.length = b
  | 0 => by rw [cp7]; exact List.take_length
  | n + 1 => by rw [cp7, List.take_append_of_le_length (by rw [cp7_len]; omega), cp7_take b d n]
def tok7 (b : List Int) (t : Tok7) : List Int := if t.len = 0 then b ++ [t.lit] else cp7 b t.dist.toNat t.len.toNat
def exp7 (b : List Int) : List Tok7 → List Int
  | [] => b
  | t :: r => exp7 (tok7 b t) r
theorem tok7_len {b : List Int} {t : Tok7} (h : may7 t) : (tok7 b t).length = b.length + wid7 t := by
  unfold tok7 wid7
  rw [if_pos h]
  by_cases h0 : t.len = 0
  · rw [if_pos h0, if_pos h0, List.length_append]; rfl
  · rw [if_neg h0, if_neg h0, cp7_len]
theorem tok7_take (b : List Int) (t : Tok7) : (tok7 b t).take b.length = b := by
  unfold tok7
  split
  · rw [List.take_append_of_le_length (Nat.le_refl _), List.take_length]
  · exact cp7_take _ _ _
theorem tok7_le (b : List Int) (t : Tok7) : b.length ≤ (tok7 b t).length := by
  unfold tok7
  split
  · rw [List.length_append]; omega
  · rw [cp7_len]; omega
theorem exp7_le : ∀ (l : List Tok7) (b : List Int), b.length ≤ (exp7 b l).length
  | [], b => Nat.le_refl _
  | t :: r, b => Nat.le_trans (tok7_le b t) (exp7_le r _)
theorem exp7_take : ∀ (l : List Tok7) (b : List Int), (exp7 b l).take b.length = b
  | [], b => List.take_length
  | t :: r, b => by
    rw [exp7]
    have h1 := exp7_take r (tok7 b t)
    have h2 := congrArg (List.take b.length) h1
    rw [List.take_take, Nat.min_eq_left (tok7_le b t), tok7_take] at h2
    exact h2
theorem exp7_app : ∀ (l l' : List Tok7) (b : List Int), exp7 b (l ++ l') = exp7 (exp7 b l) l'
  | [], _, _ => rfl
  | t :: r, l', b => by rw [List.cons_append, exp7, exp7, exp7_app r l']
theorem exp7_len (win : Int) : ∀ (l : List Tok7) (b : List Int) (tot : Nat), ok7 win l tot → (exp7 b l).length = b.length + siz7 l
  | [], _, _, _ => rfl
  | t :: r, b, tot, ⟨h1, h2, h3⟩ => by
    rw [exp7, exp7_len win r _ _ h3, tok7_len h1, siz7]; omega
/-- The first tokens are the first bytes (P7.8). -/
theorem exp7_begin (l : List Tok7) (n : Nat) (b : List Int) : (exp7 b l).take (exp7 b (l.take n)).length = exp7 b (l.take n) := by
  have h := exp7_app (l.take n) (l.drop n) b
  rw [List.take_append_drop] at h
  rw [h]
  exact exp7_take _ _
theorem siz7_le : ∀ (l : List Tok7), siz7 l ≤ 258 * l.length
  | [] => by simp [siz7]
  | t :: r => by
    have h := siz7_le r
    have h1 : wid7 t ≤ 258 := by
      unfold wid7
      split
      · rename_i h1
        unfold may7 at h1
        split at h1 <;> split <;> omega
      · omega
    rw [siz7, List.length_cons]; omega
theorem tok7_bd {b : List Int} {t : Tok7} (hb : ∀ z ∈ b, 0 ≤ z ∧ z ≤ 255) (ht : 0 ≤ t.lit ∧ t.lit ≤ 255) : ∀ z ∈ tok7 b t, 0 ≤ z ∧ z ≤ 255 := by
  have hc : ∀ n, ∀ z ∈ cp7 b t.dist.toNat n, 0 ≤ z ∧ z ≤ 255 := by
    intro n
    induction n with
    | zero => exact hb
    | succ n ih =>
      intro z hz
      rw [cp7] at hz
      rcases List.mem_append.1 hz with hz | hz
      · exact ih z hz
      · rw [List.mem_singleton] at hz
        subst hz
        by_cases hi : (cp7 b t.dist.toNat n).length - t.dist.toNat < (cp7 b t.dist.toNat n).length
        · have : (cp7 b t.dist.toNat n).getD ((cp7 b t.dist.toNat n).length - t.dist.toNat) 0 ∈ cp7 b t.dist.toNat n := by
            simp [List.getD, hi]
          exact ih _ this
        · simp [List.getD, List.getElem?_eq_none (show (cp7 b t.dist.toNat n).length ≤ (cp7 b t.dist.toNat n).length - t.dist.toNat by omega)]
  unfold tok7
  split
  · intro z hz
    rcases List.mem_append.1 hz with hz | hz
    · exact hb z hz
    · rw [List.mem_singleton] at hz; subst hz; exact ht
  · exact hc _
theorem exp7_bd : ∀ (l : List Tok7) (b : List Int), (∀ z ∈ b, 0 ≤ z ∧ z ≤ 255) → (∀ t ∈ l, 0 ≤ t.lit ∧ t.lit ≤ 255) → ∀ z ∈ exp7 b l, 0 ≤ z ∧ z ≤ 255
  | [], _, hb, _ => hb
  | t :: r, b, hb, hl => exp7_bd r (tok7 b t) (tok7_bd hb (hl t (by simp))) (fun x hx => hl x (by simp [hx]))
end Go.Proofs.YtcifalelnfeggaaGreatDoor

namespace Go.Proofs.YtcifalelnfeggaaGreatDoor
set_option linter.unusedVariables false

/-! Matches: how many bytes are alike, the best of the candidates, tokens made of bytes. -/
def alg7 (D : List Int) (q p : Nat) : Nat → Nat → Nat
  | 0, n => n
  | f + 1, n => if p + n < D.length ∧ D.getD (q + n) 0 = D.getD (p + n) 0 then alg7 D q p f (n + 1) else n
def al7 (D : List Int) (q p : Nat) : Nat := alg7 D q p 258 0
theorem alg7_ge (D : List Int) (q p : Nat) : ∀ f n, n ≤ alg7 D q p f n ∧ alg7 D q p f n ≤ n + f
  | 0, n => ⟨Nat.le_refl _, Nat.le_refl _⟩
  | f + 1, n => by
    rw [alg7]
    split
    · have := alg7_ge D q p f (n + 1); omega
    · omega
theorem alg7_same (D : List Int) (q p : Nat) : ∀ f n i, n ≤ i → i < alg7 D q p f n → p + i < D.length ∧ D.getD (q + i) 0 = D.getD (p + i) 0
  | 0, n, i, h1, h2 => by rw [alg7] at h2; omega
  | f + 1, n, i, h1, h2 => by
    rw [alg7] at h2
    split at h2
    · rename_i h
      by_cases e : i = n
      · subst e; exact h
      · exact alg7_same D q p f (n + 1) i (by omega) h2
    · omega
theorem alg7_stop (D : List Int) (q p : Nat) : ∀ f n, alg7 D q p f n < n + f → ¬ (p + alg7 D q p f n < D.length ∧ D.getD (q + alg7 D q p f n) 0 = D.getD (p + alg7 D q p f n) 0)
  | 0, n, h => by rw [alg7] at h; omega
  | f + 1, n, h => by
    rw [alg7] at h ⊢
    split
    · rename_i h1
      rw [if_pos h1] at h
      exact alg7_stop D q p f (n + 1) (by omega)
    · rename_i h1; exact h1
theorem al7_le (D : List Int) (q p : Nat) : al7 D q p ≤ 258 := by have := (alg7_ge D q p 258 0).2; unfold al7; omega
theorem al7_same {D : List Int} {q p i : Nat} (h : i < al7 D q p) : p + i < D.length ∧ D.getD (q + i) 0 = D.getD (p + i) 0 := alg7_same D q p 258 0 i (Nat.zero_le _) h
theorem al7_stop {D : List Int} {q p : Nat} (h : al7 D q p < 258) : ¬ (p + al7 D q p < D.length ∧ D.getD (q + al7 D q p) 0 = D.getD (p + al7 D q p) 0) := alg7_stop D q p 258 0 (by unfold al7 at h; omega)
/-- n bytes are alike just if each is. -/
theorem al7_iff {D : List Int} {q p n : Nat} (hn : n ≤ 258) : n ≤ al7 D q p ↔ ∀ i, i < n → p + i < D.length ∧ D.getD (q + i) 0 = D.getD (p + i) 0 := by
  constructor
  · intro h i hi; exact al7_same (by omega)
  · intro h
    rcases Nat.lt_or_ge (al7 D q p) n with h1 | h1
    · exact absurd (h _ h1) (al7_stop (by omega))
    · exact h1
theorem al7_fits {D : List Int} {q p : Nat} (h : p ≤ D.length) : p + al7 D q p ≤ D.length := by
  rcases Nat.eq_zero_or_pos (al7 D q p) with e | e
  · omega
  · have := (al7_same (D := D) (q := q) (p := p) (i := al7 D q p - 1) (by omega)).1
    omega
def bsg7 (D : List Int) (p win chain : Nat) : Nat → Nat → Nat → Nat → Nat → Nat × Nat
  | 0, _, best, dist, _ => (best, dist)
  | f + 1, d, best, dist, seen =>
    if d ≤ p ∧ d ≤ win ∧ seen < chain then
      if al7 D (p - d) p < 3 then bsg7 D p win chain f (d + 1) best dist seen
      else if best < al7 D (p - d) p then bsg7 D p win chain f (d + 1) (al7 D (p - d) p) d (seen + 1)
      else bsg7 D p win chain f (d + 1) best dist (seen + 1)
    else (best, dist)
/-- Best: how long, how far. -/
def bst7 (D : List Int) (p win chain : Nat) : Nat × Nat := bsg7 D p win chain p 1 0 0 0
/-- A match that is there. -/
structure Mt7 (D : List Int) (p win n d : Nat) : Prop where
  n3 : 3 ≤ n
  n258 : n ≤ 258
  d1 : 1 ≤ d
  dw : d ≤ win
  dp : d ≤ p
  al : n ≤ al7 D (p - d) p
theorem bsg7_mt (D : List Int) (p win chain : Nat) : ∀ f d best dist seen, 1 ≤ d → ((best = 0 ∧ dist = 0) ∨ Mt7 D p win best dist) →
    ((bsg7 D p win chain f d best dist seen).1 = 0 ∧ (bsg7 D p win chain f d best dist seen).2 = 0) ∨ Mt7 D p win (bsg7 D p win chain f d best dist seen).1 (bsg7 D p win chain f d best dist seen).2
  | 0, _, _, _, _, _, h => h
  | f + 1, d, best, dist, seen, hd, h => by
    rw [bsg7]
    split
    · rename_i h1
      split
      · exact bsg7_mt D p win chain f (d + 1) best dist seen (by omega) h
      · rename_i h2
        split
        · exact bsg7_mt D p win chain f (d + 1) _ d (seen + 1) (by omega) (.inr ⟨by omega, al7_le _ _ _, hd, h1.2.1, h1.1, Nat.le_refl _⟩)
        · exact bsg7_mt D p win chain f (d + 1) best dist (seen + 1) (by omega) h
    · exact h
theorem bst7_mt (D : List Int) (p win chain : Nat) : ((bst7 D p win chain).1 = 0 ∧ (bst7 D p win chain).2 = 0) ∨ Mt7 D p win (bst7 D p win chain).1 (bst7 D p win chain).2 := bsg7_mt D p win chain p 1 0 0 0 (Nat.le_refl _) (.inl ⟨rfl, rfl⟩)
theorem bsg7_zero (D : List Int) (p win : Nat) : ∀ f d best dist seen, bsg7 D p win 0 f d best dist seen = (best, dist)
  | 0, _, _, _, _ => rfl
  | f + 1, d, best, dist, seen => by rw [bsg7, if_neg (by omega)]
theorem bst7_zero (D : List Int) (p win : Nat) : bst7 D p win 0 = (0, 0) := bsg7_zero D p win p 1 0 0 0
/-- How many bytes Parse takes at a place: 0: the byte alone. -/
def pick7 (D : List Int) (win chain : Nat) (lazy : Bool) (p : Nat) : Nat :=
  if 0 < (bst7 D p win chain).1 ∧ lazy = true ∧ p + 1 < D.length ∧ (bst7 D p win chain).1 < (bst7 D (p + 1) win chain).1 then 0 else (bst7 D p win chain).1
def parg7 (D : List Int) (win chain : Nat) (lazy : Bool) : Nat → Nat → List Tok7
  | 0, _ => []
  | f + 1, p =>
    if p < D.length then
      if pick7 D win chain lazy p = 0 then ⟨D.getD p 0, 0, 0⟩ :: parg7 D win chain lazy f (p + 1)
      else ⟨0, (pick7 D win chain lazy p : Nat), ((bst7 D p win chain).2 : Nat)⟩ :: parg7 D win chain lazy f (p + pick7 D win chain lazy p)
    else []
def par7 (D : List Int) (win chain : Nat) (lazy : Bool) : List Tok7 := parg7 D win chain lazy D.length 0
theorem pick7_mt (D : List Int) (win chain : Nat) (lazy : Bool) (p : Nat) : pick7 D win chain lazy p = 0 ∨ Mt7 D p win (pick7 D win chain lazy p) (bst7 D p win chain).2 := by
  unfold pick7
  split
  · exact .inl rfl
  · rcases bst7_mt D p win chain with h | h
    · exact .inl h.1
    · exact .inr h
/-- These tokens are the bytes of D from p on, over this window. -/
def Tz7 (D : List Int) (win : Nat) : List Tok7 → Nat → Prop
  | [], p => p = D.length
  | t :: r, p => p < D.length ∧ ((t = ⟨D.getD p 0, 0, 0⟩ ∧ Tz7 D win r (p + 1)) ∨ ∃ n d : Nat, t = ⟨0, n, d⟩ ∧ Mt7 D p win n d ∧ Tz7 D win r (p + n))
theorem Mt7.fits {D : List Int} {p win n d : Nat} (h : Mt7 D p win n d) : p + n ≤ D.length := by
  have := (al7_same (D := D) (q := p - d) (p := p) (i := n - 1) (by have := h.al; have := h.n3; omega)).1
  have := h.n3
  omega
theorem parg7_tz (D : List Int) (win chain : Nat) (lazy : Bool) : ∀ f p, p ≤ D.length → D.length ≤ p + f → Tz7 D win (parg7 D win chain lazy f p) p
  | 0, p, h1, h2 => by rw [parg7, Tz7]; omega
  | f + 1, p, h1, h2 => by
    rw [parg7]
    split
    · rename_i h
      split
      · exact ⟨h, .inl ⟨rfl, parg7_tz D win chain lazy f (p + 1) (by omega) (by omega)⟩⟩
      · rename_i h0
        rcases pick7_mt D win chain lazy p with e | e
        · exact absurd e h0
        · have h3 := e.fits
          have h4 := e.n3
          exact ⟨h, .inr ⟨_, _, rfl, e, parg7_tz D win chain lazy f _ h3 (by omega)⟩⟩
    · rw [Tz7]; omega
theorem par7_tz (D : List Int) (win chain : Nat) (lazy : Bool) : Tz7 D win (par7 D win chain lazy) 0 := parg7_tz D win chain lazy D.length 0 (by omega) (by omega)
theorem parg7_chain0 (D : List Int) (win : Nat) (lazy : Bool) : ∀ f p, p ≤ D.length → D.length ≤ p + f → (parg7 D win 0 lazy f p).length = D.length - p
  | 0, p, h1, h2 => by rw [parg7]; simp; omega
  | f + 1, p, h1, h2 => by
    have h0 : pick7 D win 0 lazy p = 0 := by unfold pick7; rw [bst7_zero]; simp
    rw [parg7]
    by_cases h : p < D.length
    · rw [if_pos h, if_pos h0, List.length_cons, parg7_chain0 D win lazy f (p + 1) (by omega) (by omega)]; omega
    · rw [if_neg h]; simp; omega
theorem par7_chain0 (D : List Int) (win : Nat) (lazy : Bool) : (par7 D win 0 lazy).length = D.length := parg7_chain0 D win lazy D.length 0 (by omega) (by omega)
/-! What such tokens are. -/
theorem getD_take7 (A : List Int) (j i : Nat) (h : i < j) : (A.take j).getD i 0 = A.getD i 0 := by simp [List.getD, h]
theorem take_succ7 (D : List Int) (p : Nat) (h : p < D.length) : D.take (p + 1) = D.take p ++ [D.getD p 0] := by
  rw [List.take_succ_eq_append_getElem h]; simp [List.getD, h]
theorem cp7_mt {D : List Int} {p win n d : Nat} (h : Mt7 D p win n d) : ∀ i, i ≤ n → cp7 (D.take p) d i = D.take (p + i)
  | 0, _ => rfl
  | i + 1, hi => by
    have h1 := h.fits
    have ih := cp7_mt h i (by omega)
    have hs := al7_same (D := D) (q := p - d) (p := p) (i := i) (by have := h.al; omega)
    rw [cp7, ih, show p + (i + 1) = p + i + 1 by omega, take_succ7 D (p + i) (by omega)]
    have hl : (D.take (p + i)).length = p + i := by rw [List.length_take]; omega
    have d1 := h.d1
    have dp := h.dp
    rw [hl, getD_take7 _ _ _ (by omega), ← hs.2, show p - d + i = p + i - d by omega]
theorem Mt7.wid {D : List Int} {p win n d : Nat} (h : Mt7 D p win n d) (hw : win ≤ 32768) : may7 ⟨0, n, d⟩ ∧ wid7 ⟨0, n, d⟩ = n := by
  have h1 := h.n3
  have h2 := h.n258
  have h3 := h.d1
  have h4 := h.dw
  have hm : may7 ⟨0, n, d⟩ := by
    unfold may7
    simp only
    rw [if_neg (by omega)]
    exact ⟨by omega, by omega, by omega, by omega, trivial⟩
  refine ⟨hm, ?_⟩
  unfold wid7
  rw [if_pos hm]
  simp only
  rw [if_neg (by omega)]
  omega
theorem lit7_wid (z : Int) : may7 ⟨z, 0, 0⟩ ∧ wid7 ⟨z, 0, 0⟩ = 1 := by
  have hm : may7 ⟨z, 0, 0⟩ := by unfold may7; simp
  refine ⟨hm, ?_⟩
  unfold wid7
  rw [if_pos hm]
  simp
theorem Tz7.all {D : List Int} {win : Nat} (hw : win ≤ 32768) : ∀ (l : List Tok7) (p : Nat), Tz7 D win l p → ok7 win l p ∧ exp7 (D.take p) l = D ∧ siz7 l = D.length - p ∧ l.length ≤ D.length - p
  | [], p, h => by
    rw [Tz7] at h
    subst h
    exact ⟨trivial, by rw [exp7, List.take_length], by simp [siz7], by simp⟩
  | t :: r, p, ⟨hp, h⟩ => by
    rcases h with ⟨rfl, h⟩ | ⟨n, d, rfl, hm, h⟩
    · obtain ⟨a1, a2, a3, a4⟩ := Tz7.all hw r (p + 1) h
      have hl := lit7_wid (D.getD p 0)
      refine ⟨⟨hl.1, by unfold far7; simp, by rw [hl.2]; exact a1⟩, ?_, by rw [siz7, hl.2, a3]; omega, by rw [List.length_cons]; omega⟩
      rw [exp7]
      unfold tok7
      simp only [if_true]
      rw [← take_succ7 D p hp]
      exact a2
    · obtain ⟨a1, a2, a3, a4⟩ := Tz7.all hw r (p + n) h
      have hl := hm.wid hw
      have h1 := hm.n3
      have h2 := hm.fits
      have h3 := hm.dw
      have h4 := hm.dp
      refine ⟨⟨hl.1, by unfold far7; simp only; omega, by rw [hl.2]; exact a1⟩, ?_, by rw [siz7, hl.2, a3]; omega, by rw [List.length_cons]; omega⟩
      rw [exp7]
      unfold tok7
      simp only
      rw [if_neg (by omega), Int.toNat_natCast, Int.toNat_natCast, cp7_mt hm n (Nat.le_refl _)]
      exact a2
end Go.Proofs.YtcifalelnfeggaaGreatDoor

namespace Go.Proofs.YtcifalelnfeggaaGreatDoor
set_option linter.unusedVariables false

/-! What tokens cost; the cheapest ones (P7.9, P7.10). -/
def bits7 (d : Nat) : Nat := if h : d = 0 then 0 else bits7 (d / 2) + 1
termination_by d
decreasing_by omega
theorem bits7_zero : bits7 0 = 0 := by rw [bits7]; simp
theorem bits7_pos {d : Nat} (h : 0 < d) : bits7 d = bits7 (d / 2) + 1 := by
  rw [bits7, dif_neg (by omega)]
theorem bits7_mono : ∀ (e d : Nat), d ≤ e → bits7 d ≤ bits7 e := by
  intro e
  induction e using Nat.strongRecOn with
  | ind e ih =>
    intro d h
    by_cases h0 : d = 0
    · rw [h0, bits7_zero]; omega
    · rw [bits7_pos (show 0 < d by omega), bits7_pos (show 0 < e by omega)]
      have := ih (e / 2) (by omega) (d / 2) (by omega)
      omega
theorem bits7_le : ∀ k d, d < 2 ^ k → bits7 d ≤ k
  | 0, d, h => by
    obtain rfl : d = 0 := by simpa using h
    rw [bits7_zero]; omega
  | k + 1, d, h => by
    by_cases h0 : d = 0
    · rw [h0, bits7_zero]; omega
    · rw [bits7_pos (show 0 < d by omega)]
      have := bits7_le k (d / 2) (by rw [Nat.pow_succ] at h; omega)
      omega
def nrg7 (D : List Int) (p n win : Nat) : Nat → Nat → Nat
  | 0, _ => 0
  | f + 1, d => if d ≤ win ∧ d ≤ p then (if n ≤ al7 D (p - d) p then d else nrg7 D p n win f (d + 1)) else 0
/-- The least distance at which n bytes are alike; 0: there is none. -/
def nst7 (D : List Int) (p n win : Nat) : Nat := nrg7 D p n win p 1
theorem nrg7_spec (D : List Int) (p n win : Nat) : ∀ f d, 1 ≤ d → p < d + f →
    (nrg7 D p n win f d = 0 ∧ ∀ e, d ≤ e → e ≤ win → e ≤ p → ¬ n ≤ al7 D (p - e) p) ∨
    (d ≤ nrg7 D p n win f d ∧ nrg7 D p n win f d ≤ win ∧ nrg7 D p n win f d ≤ p ∧ n ≤ al7 D (p - nrg7 D p n win f d) p ∧ ∀ e, d ≤ e → e ≤ win → e ≤ p → n ≤ al7 D (p - e) p → nrg7 D p n win f d ≤ e)
  | 0, d, h1, h2 => .inl ⟨rfl, fun e a b c => by omega⟩
  | f + 1, d, h1, h2 => by
    rw [nrg7]
    by_cases hc : d ≤ win ∧ d ≤ p
    · rw [if_pos hc]
      by_cases ha : n ≤ al7 D (p - d) p
      · rw [if_pos ha]
        exact .inr ⟨Nat.le_refl _, hc.1, hc.2, ha, fun e a _ _ _ => a⟩
      · rw [if_neg ha]
        have hx : ∀ e, d ≤ e → n ≤ al7 D (p - e) p → d + 1 ≤ e := fun e a b => by
          rcases Nat.eq_or_lt_of_le a with e1 | e1
          · subst e1; exact absurd b ha
          · exact e1
        rcases nrg7_spec D p n win f (d + 1) (by omega) (by omega) with ⟨a, b⟩ | ⟨a, b, c, e, g⟩
        · exact .inl ⟨a, fun e h3 h4 h5 h6 => b e (hx e h3 h6) h4 h5 h6⟩
        · exact .inr ⟨by omega, b, c, e, fun x h3 h4 h5 h6 => g x (hx x h3 h6) h4 h5 h6⟩
    · rw [if_neg hc]
      exact .inl ⟨rfl, fun e a b c => by omega⟩
theorem nst7_spec (D : List Int) (p n win : Nat) : (nst7 D p n win = 0 ∧ ∀ e, 1 ≤ e → e ≤ win → e ≤ p → ¬ n ≤ al7 D (p - e) p) ∨
    (1 ≤ nst7 D p n win ∧ nst7 D p n win ≤ win ∧ nst7 D p n win ≤ p ∧ n ≤ al7 D (p - nst7 D p n win) p ∧ ∀ e, 1 ≤ e → e ≤ win → e ≤ p → n ≤ al7 D (p - e) p → nst7 D p n win ≤ e) :=
  nrg7_spec D p n win p 1 (Nat.le_refl _) (by omega)
structure Pr7 where
  lit : Int
  mat : Int
  far : Int
/-- What a match costs ahead of what comes behind it. -/
def mc7 (c : Pr7) (d : Nat) : Int := c.mat + c.far * (bits7 d : Int)
/-- One length tried: the value and the token so far. T: from the next place on, what is least and with which token. -/
def try7 (D : List Int) (win : Nat) (c : Pr7) (p : Nat) (T : List (Int × Tok7)) (l : Nat) (a : Int × Tok7) : Int × Tok7 :=
  if p + l ≤ D.length ∧ nst7 D p l win ≠ 0 ∧ mc7 c (nst7 D p l win) + (T.getD (l - 1) (0, ⟨0, 0, 0⟩)).1 < a.1 then (mc7 c (nst7 D p l win) + (T.getD (l - 1) (0, ⟨0, 0, 0⟩)).1, ⟨0, (l : Int), (nst7 D p l win : Int)⟩) else a
/-- The lengths from j + 2 down to 3. -/
def chg7 (D : List Int) (win : Nat) (c : Pr7) (p : Nat) (T : List (Int × Tok7)) : Nat → Int × Tok7 → Int × Tok7
  | 0, a => a
  | j + 1, a => chg7 D win c p T j (try7 D win c p T (j + 3) a)
def lit7 (D : List Int) (c : Pr7) (p : Nat) (T : List (Int × Tok7)) : Int × Tok7 := (c.lit + (T.getD 0 (0, ⟨0, 0, 0⟩)).1, ⟨D.getD p 0, 0, 0⟩)
/-- The table of the last j places, and the end. -/
def tab7 (D : List Int) (win : Nat) (c : Pr7) : Nat → List (Int × Tok7)
  | 0 => [(0, ⟨0, 0, 0⟩)]
  | j + 1 => chg7 D win c (D.length - (j + 1)) (tab7 D win c j) 256 (lit7 D c (D.length - (j + 1)) (tab7 D win c j)) :: tab7 D win c j
theorem tab7_len (D : List Int) (win : Nat) (c : Pr7) : ∀ j, (tab7 D win c j).length = j + 1
  | 0 => rfl
  | j + 1 => by rw [tab7, List.length_cons, tab7_len D win c j]
/-- What is least from a place on, and with which token. -/
def lea7 (D : List Int) (win : Nat) (c : Pr7) (p : Nat) : Int × Tok7 := (tab7 D win c (D.length - p)).getD 0 (0, ⟨0, 0, 0⟩)
theorem tab7_at (D : List Int) (win : Nat) (c : Pr7) : ∀ j i, i ≤ j → (tab7 D win c j).getD i (0, ⟨0, 0, 0⟩) = (tab7 D win c (j - i)).getD 0 (0, ⟨0, 0, 0⟩)
  | j, 0, _ => by simp
  | 0, i + 1, h => by omega
  | j + 1, i + 1, h => by
    rw [tab7]
    have := tab7_at D win c j i (by omega)
    rw [show j + 1 - (i + 1) = j - i by omega, ← this]
    simp [List.getD]
theorem lea7_end (D : List Int) (win : Nat) (c : Pr7) : lea7 D win c D.length = (0, ⟨0, 0, 0⟩) := by
  unfold lea7
  rw [Nat.sub_self, tab7]
  rfl
/-- What a length tried is worth. -/
def val7 (D : List Int) (win : Nat) (c : Pr7) (p l : Nat) : Int := mc7 c (nst7 D p l win) + (lea7 D win c (p + l)).1
theorem tab7_next (D : List Int) (win : Nat) (c : Pr7) (p l : Nat) (h1 : 1 ≤ l) (h2 : p + l ≤ D.length) : (tab7 D win c (D.length - (p + 1))).getD (l - 1) (0, ⟨0, 0, 0⟩) = lea7 D win c (p + l) := by
  rw [tab7_at _ _ _ _ _ (by omega)]
  unfold lea7
  rw [show D.length - (p + 1) - (l - 1) = D.length - (p + l) by omega]
theorem chg7_spec (D : List Int) (win : Nat) (c : Pr7) (p : Nat) (hp : p < D.length) : ∀ j a,
    (chg7 D win c p (tab7 D win c (D.length - (p + 1))) j a).1 ≤ a.1 ∧
    (∀ l, 3 ≤ l → l ≤ j + 2 → p + l ≤ D.length → nst7 D p l win ≠ 0 → (chg7 D win c p (tab7 D win c (D.length - (p + 1))) j a).1 ≤ val7 D win c p l) ∧
    (chg7 D win c p (tab7 D win c (D.length - (p + 1))) j a = a ∨ ∃ l, 3 ≤ l ∧ l ≤ j + 2 ∧ p + l ≤ D.length ∧ nst7 D p l win ≠ 0 ∧ chg7 D win c p (tab7 D win c (D.length - (p + 1))) j a = (val7 D win c p l, ⟨0, (l : Int), (nst7 D p l win : Int)⟩))
  | 0, a => ⟨Int.le_refl _, fun l a b => by omega, .inl rfl⟩
  | j + 1, a => by
    obtain ⟨h1, h2, h3⟩ := chg7_spec D win c p hp j (try7 D win c p (tab7 D win c (D.length - (p + 1))) (j + 3) a)
    have ht : (try7 D win c p (tab7 D win c (D.length - (p + 1))) (j + 3) a).1 ≤ a.1 ∧ (p + (j + 3) ≤ D.length → nst7 D p (j + 3) win ≠ 0 → (try7 D win c p (tab7 D win c (D.length - (p + 1))) (j + 3) a).1 ≤ val7 D win c p (j + 3)) ∧
        (try7 D win c p (tab7 D win c (D.length - (p + 1))) (j + 3) a = a ∨ (p + (j + 3) ≤ D.length ∧ nst7 D p (j + 3) win ≠ 0 ∧ try7 D win c p (tab7 D win c (D.length - (p + 1))) (j + 3) a = (val7 D win c p (j + 3), ⟨0, ((j + 3 : Nat) : Int), (nst7 D p (j + 3) win : Int)⟩))) := by
      unfold try7
      by_cases e : p + (j + 3) ≤ D.length
      · rw [tab7_next D win c p (j + 3) (by omega) e]
        by_cases h : p + (j + 3) ≤ D.length ∧ nst7 D p (j + 3) win ≠ 0 ∧ mc7 c (nst7 D p (j + 3) win) + (lea7 D win c (p + (j + 3))).1 < a.1
        · rw [if_pos h]
          exact ⟨Int.le_of_lt h.2.2, fun _ _ => Int.le_refl _, .inr ⟨e, h.2.1, rfl⟩⟩
        · rw [if_neg h]
          refine ⟨Int.le_refl _, fun e1 e2 => ?_, .inl rfl⟩
          unfold val7
          have := fun x => h ⟨e1, e2, x⟩
          omega
      · rw [if_neg (fun x => e x.1)]
        exact ⟨Int.le_refl _, fun x => absurd x e, .inl rfl⟩
    rw [chg7]
    refine ⟨Int.le_trans h1 ht.1, fun l a1 a2 a3 a4 => ?_, ?_⟩
    · by_cases e : l ≤ j + 2
      · exact h2 l a1 e a3 a4
      · obtain rfl : l = j + 3 := by omega
        exact Int.le_trans h1 (ht.2.1 a3 a4)
    · rcases h3 with h3 | ⟨l, b1, b2, b3, b4, b5⟩
      · rw [h3]
        rcases ht.2.2 with e | ⟨e1, e2, e3⟩
        · exact .inl e
        · exact .inr ⟨j + 3, by omega, by omega, e1, e2, e3⟩
      · exact .inr ⟨l, b1, by omega, b3, b4, b5⟩
theorem lea7_step (D : List Int) (win : Nat) (c : Pr7) (p : Nat) (hp : p < D.length) : lea7 D win c p = chg7 D win c p (tab7 D win c (D.length - (p + 1))) 256 (lit7 D c p (tab7 D win c (D.length - (p + 1)))) := by
  unfold lea7
  rw [show D.length - p = D.length - (p + 1) + 1 by omega, tab7, show D.length - (D.length - (p + 1) + 1) = p by omega]
  exact List.getD_cons_zero
theorem lit7_eq (D : List Int) (win : Nat) (c : Pr7) (p : Nat) (hp : p < D.length) : lit7 D c p (tab7 D win c (D.length - (p + 1))) = (c.lit + (lea7 D win c (p + 1)).1, ⟨D.getD p 0, 0, 0⟩) := rfl
/-- The least, place by place. -/
theorem lea7_spec (D : List Int) (win : Nat) (c : Pr7) (p : Nat) (hp : p < D.length) :
    (lea7 D win c p).1 ≤ c.lit + (lea7 D win c (p + 1)).1 ∧
    (∀ l, 3 ≤ l → l ≤ 258 → p + l ≤ D.length → nst7 D p l win ≠ 0 → (lea7 D win c p).1 ≤ val7 D win c p l) ∧
    (lea7 D win c p = (c.lit + (lea7 D win c (p + 1)).1, ⟨D.getD p 0, 0, 0⟩) ∨ ∃ l, 3 ≤ l ∧ l ≤ 258 ∧ p + l ≤ D.length ∧ nst7 D p l win ≠ 0 ∧ lea7 D win c p = (val7 D win c p l, ⟨0, (l : Int), (nst7 D p l win : Int)⟩)) := by
  have h := chg7_spec D win c p hp 256 (lit7 D c p (tab7 D win c (D.length - (p + 1))))
  rw [← lea7_step D win c p hp, lit7_eq D win c p hp] at h
  exact h
def cost7 (c : Pr7) : List Tok7 → Int
  | [] => 0
  | t :: r => (if t.len = 0 then c.lit else mc7 c t.dist.toNat) + cost7 c r
/-- No tokens that are the bytes cost less (P7.10). -/
theorem lea7_least {D : List Int} {win : Nat} {c : Pr7} (hf : 0 ≤ c.far) : ∀ (l : List Tok7) (p : Nat), Tz7 D win l p → (lea7 D win c p).1 ≤ cost7 c l
  | [], p, h => by
    rw [Tz7] at h
    subst h
    rw [lea7_end, cost7]
    exact Int.le_refl _
  | t :: r, p, ⟨hp, h⟩ => by
    obtain ⟨s1, s2, _⟩ := lea7_spec D win c p hp
    rcases h with ⟨rfl, h⟩ | ⟨n, d, rfl, hm, h⟩
    · have := lea7_least hf r (p + 1) h
      rw [cost7]
      simp only [if_true]
      omega
    · have ih := lea7_least hf r (p + n) h
      have hn3 := hm.n3
      rw [cost7]
      simp only
      rw [if_neg (by omega), Int.toNat_natCast]
      rcases nst7_spec D p n win with ⟨_, b⟩ | ⟨b1, b2, b3, b4, b5⟩
      · exact absurd hm.al (b d hm.d1 hm.dw hm.dp)
      · have h1 := b5 d hm.d1 hm.dw hm.dp hm.al
        have h2 := s2 n hn3 hm.n258 hm.fits (by omega)
        have h3 := bits7_mono d _ h1
        have h4 : c.far * (bits7 (nst7 D p n win) : Int) ≤ c.far * (bits7 d : Int) := Int.mul_le_mul_of_nonneg_left (by omega) hf
        unfold val7 mc7 at h2
        unfold mc7
        omega
/-- The tokens that the table leads to. -/
def outg7 (D : List Int) (win : Nat) (c : Pr7) : Nat → Nat → List Tok7
  | 0, _ => []
  | f + 1, p => if p < D.length then (lea7 D win c p).2 :: outg7 D win c f (p + (if (lea7 D win c p).2.len = 0 then 1 else (lea7 D win c p).2.len.toNat)) else []
def che7 (D : List Int) (win : Nat) (c : Pr7) : List Tok7 := outg7 D win c D.length 0
theorem outg7_tz (D : List Int) (win : Nat) (c : Pr7) : ∀ f p, p ≤ D.length → D.length ≤ p + f → Tz7 D win (outg7 D win c f p) p ∧ cost7 c (outg7 D win c f p) = (lea7 D win c p).1
  | 0, p, h1, h2 => by
    obtain rfl : p = D.length := by omega
    rw [outg7, Tz7, cost7, lea7_end]
    exact ⟨rfl, rfl⟩
  | f + 1, p, h1, h2 => by
    rw [outg7]
    by_cases hp : p < D.length
    · rw [if_pos hp]
      rcases (lea7_spec D win c p hp).2.2 with e | ⟨l, a1, a2, a3, a4, e⟩
      · rw [e]
        simp only [if_true]
        obtain ⟨i1, i2⟩ := outg7_tz D win c f (p + 1) (by omega) (by omega)
        refine ⟨⟨hp, .inl ⟨rfl, i1⟩⟩, ?_⟩
        rw [cost7, i2]
        simp
      · rw [e]
        simp only
        rw [if_neg (by omega), Int.toNat_natCast]
        obtain ⟨i1, i2⟩ := outg7_tz D win c f (p + l) a3 (by omega)
        rcases nst7_spec D p l win with ⟨b, _⟩ | ⟨b1, b2, b3, b4, _⟩
        · exact absurd b a4
        · refine ⟨⟨hp, .inr ⟨l, _, rfl, ⟨a1, a2, b1, b2, b3, b4⟩, i1⟩⟩, ?_⟩
          rw [cost7, i2]
          simp only
          rw [if_neg (by omega), Int.toNat_natCast]
          rfl
    · rw [if_neg hp]
      obtain rfl : p = D.length := by omega
      rw [Tz7, cost7, lea7_end]
      exact ⟨rfl, rfl⟩
theorem che7_tz (D : List Int) (win : Nat) (c : Pr7) : Tz7 D win (che7 D win c) 0 ∧ cost7 c (che7 D win c) = (lea7 D win c 0).1 := outg7_tz D win c D.length 0 (by omega) (by omega)
/-- All bytes as they are. -/
def lits7 (D : List Int) : Nat → Nat → List Tok7
  | 0, _ => []
  | f + 1, p => ⟨D.getD p 0, 0, 0⟩ :: lits7 D f (p + 1)
theorem lits7_tz (D : List Int) (win : Nat) (c : Pr7) : ∀ f p, p + f = D.length → Tz7 D win (lits7 D f p) p ∧ cost7 c (lits7 D f p) = c.lit * (f : Int)
  | 0, p, h => by
    rw [lits7, Tz7, cost7]
    exact ⟨by omega, by simp⟩
  | f + 1, p, h => by
    obtain ⟨i1, i2⟩ := lits7_tz D win c f (p + 1) (by omega)
    rw [lits7]
    refine ⟨⟨by omega, .inl ⟨rfl, i1⟩⟩, ?_⟩
    rw [cost7, i2]
    simp only [if_true]
    rw [Int.natCast_succ, Int.mul_add, Int.mul_one, Int.add_comm]
theorem lea7_lits (D : List Int) (win : Nat) (c : Pr7) (hf : 0 ≤ c.far) : (lea7 D win c 0).1 ≤ c.lit * (D.length : Int) := by
  obtain ⟨h1, h2⟩ := lits7_tz D win c D.length 0 (by omega)
  have := lea7_least (c := c) hf _ _ h1
  rw [h2] at this
  exact this
theorem lea7_nonneg {D : List Int} {win : Nat} {c : Pr7} (h1 : 0 ≤ c.lit) (h2 : 0 ≤ c.mat) (h3 : 0 ≤ c.far) : ∀ f p, p ≤ D.length → D.length ≤ p + f → 0 ≤ (lea7 D win c p).1
  | 0, p, a, b => by
    obtain rfl : p = D.length := by omega
    rw [lea7_end]; exact Int.le_refl _
  | f + 1, p, a, b => by
    by_cases hp : p < D.length
    · rcases (lea7_spec D win c p hp).2.2 with e | ⟨l, a1, a2, a3, a4, e⟩
      · rw [e]
        have := lea7_nonneg (D := D) (win := win) h1 h2 h3 f (p + 1) (by omega) (by omega)
        simp only
        omega
      · rw [e]
        have := lea7_nonneg (D := D) (win := win) h1 h2 h3 f (p + l) (by omega) (by omega)
        have h4 : 0 ≤ c.far * (bits7 (nst7 D p l win) : Int) := Int.mul_nonneg h3 (by omega)
        simp only [val7, mc7]
        omega
    · obtain rfl : p = D.length := by omega
      rw [lea7_end]; exact Int.le_refl _
end Go.Proofs.YtcifalelnfeggaaGreatDoor

namespace Go.Proofs.YtcifalelnfeggaaGreatDoor
open Go.RowKit
set_option linter.unusedVariables false

/-! Tokens in memory: three cells each. -/
def Tok7.val (t : Tok7) : Value := .agg #[.int .u8 t.lit, .int .i64 t.len, .int .i64 t.dist]
structure TkAt (w : World) (g o : Nat) (t : Tok7) : Prop where
  c0 : w.cell? ⟨g, o, none⟩ = some (.int .u8 t.lit)
  c1 : w.cell? ⟨g, o + 1, none⟩ = some (.int .i64 t.len)
  c2 : w.cell? ⟨g, o + 2, none⟩ = some (.int .i64 t.dist)
theorem TkAt.of_block {w w' : World} {g o : Nat} {x : Tok7} (h : TkAt w g o x) (hb : w'.heap[g]? = w.heap[g]?) : TkAt w' g o x :=
  ⟨(World.cell?_of_block (a := ⟨g, o, none⟩) hb).trans h.c0, (World.cell?_of_block (a := ⟨g, o + 1, none⟩) hb).trans h.c1, (World.cell?_of_block (a := ⟨g, o + 2, none⟩) hb).trans h.c2⟩
theorem TkAt.lt {w : World} {g o : Nat} {x : Tok7} (h : TkAt w g o x) : g < w.heap.size := World.block_lt_of_cell? w _ h.c0
abbrev tk0 : Tok7 := ⟨0, 0, 0⟩
def Tok7.Fit (t : Tok7) : Prop := (0 ≤ t.lit ∧ t.lit ≤ 255) ∧ (-9223372036854775808 ≤ t.len ∧ t.len ≤ 9223372036854775807) ∧ (-9223372036854775808 ≤ t.dist ∧ t.dist ≤ 9223372036854775807)
structure SegT (w : World) (a : Option Addr) (l : List Tok7) : Prop where
  at_ : ∀ i, i < l.length → ∃ b off, a = some ⟨b, off, none⟩ ∧ TkAt w b (off + i * 3) (l.getD i tk0)
  fit : ∀ t ∈ l, t.Fit
theorem SegT.nil (w : World) (a : Option Addr) : SegT w a [] := ⟨fun i h => by simp at h, fun t h => by simp at h⟩
theorem SegT.kp {w w' : World} {S : Nat → Prop} {a : Option Addr} {l : List Tok7} (h : SegT w a l) (hb : Kp S w w') (hn : ∀ b off, a = some ⟨b, off, none⟩ → 0 < l.length → ¬ S b) : SegT w' a l := by
  refine ⟨fun i hi => ?_, h.fit⟩
  obtain ⟨b, off, ha, ht⟩ := h.at_ i hi
  exact ⟨b, off, ha, ht.of_block (hb.block b ht.lt (hn b off ha (by omega)))⟩
theorem SegT.old {w w' : World} {a : Option Addr} {l : List Tok7} (h : SegT w a l) (hb : Below w.heap.size w w') : SegT w' a l := h.kp (S := fun _ => False) (Kp.of_below hb) (fun _ _ _ _ e => e)
theorem SegT.lt {w : World} {a : Option Addr} {l : List Tok7} (h : SegT w a l) : ∀ b off, a = some ⟨b, off, none⟩ → 0 < l.length → b < w.heap.size := by
  intro b off e hl
  obtain ⟨b', off', ha, ht⟩ := h.at_ 0 hl
  rw [e] at ha
  cases ha
  exact ht.lt
theorem SegT.take {w : World} {a : Option Addr} {l : List Tok7} (h : SegT w a l) (n : Nat) : SegT w a (l.take n) := by
  refine ⟨fun i hi => ?_, fun t ht => h.fit t (List.mem_of_mem_take ht)⟩
  rw [List.length_take] at hi
  obtain ⟨b, off, ha, ht⟩ := h.at_ i (by omega)
  refine ⟨b, off, ha, ?_⟩
  have : (l.take n).getD i tk0 = l.getD i tk0 := by simp [List.getD, show i < n by omega]
  rw [this]
  exact ht
theorem getD_memT {l : List Tok7} {i : Nat} (h : i < l.length) : l.getD i tk0 ∈ l := by simp [List.getD, h]
theorem dropT {l : List Tok7} {i : Nat} (h : i < l.length) : l.drop i = l.getD i tk0 :: l.drop (i + 1) := by
  rw [List.drop_eq_getElem_cons h]
  simp [List.getD, h]
theorem takeT7 {l : List Tok7} {i : Nat} (h : i < l.length) : l.take (i + 1) = l.take i ++ [l.getD i tk0] := by
  rw [List.take_succ_eq_append_getElem h]; simp [List.getD, h]
theorem below_box {w : World} (cs : Array Value) (t : TypeId) : Below w.heap.size w (w.alloc (.cells cs t)) := (Below.refl _ _).alloc (Nat.le_refl _) _

/-! The document's May, Width, Check, Size. -/
set_option maxRecDepth 100000 in
set_option maxHeartbeats 1000000 in
theorem rmay7 (t : Tok7) (w : World) : Calls Tryz.prog 69 #[t.val] w fun e w' => e = .returned (.bool (decide (may7 t))) ∧ Below w.heap.size w w' := by
  obtain ⟨z, n, d⟩ := t
  unfold Tok7.val
  simp only
  by_cases h0 : n = 0
  · subst h0
    by_cases h1 : d = 0
    · have HM : Hid (decide (may7 ⟨z, 0, d⟩) = true) := by show _ = _; simp [may7, h1]
      rw [HM.out]
      subst h1
      go_enter Tryz.func69, Tryz.ntmps69
      go_wp2_with fail
      go_ret
      exact ⟨rfl, below_box _ _⟩
    · have HM : Hid (decide (may7 ⟨z, 0, d⟩) = false) := by show _ = _; simp [may7, h1]
      rw [HM.out]
      go_enter Tryz.func69, Tryz.ntmps69
      go_wp2_with fail
      go_ret
      exact ⟨by simp [h1], below_box _ _⟩
  · have hm : may7 ⟨z, n, d⟩ ↔ (3 ≤ n ∧ n ≤ 258 ∧ 1 ≤ d ∧ d ≤ 32768 ∧ z = 0) := by unfold may7; simp only; rw [if_neg h0]
    by_cases h1 : 3 ≤ n
    · by_cases h2 : n ≤ 258
      · by_cases h3 : 1 ≤ d
        · by_cases h4 : d ≤ 32768
          · by_cases h5 : z = 0
            · have HM : Hid (decide (may7 ⟨z, n, d⟩) = true) := decide_eq_true (hm.2 ⟨h1, h2, h3, h4, h5⟩)
              rw [HM.out]
              subst h5
              clear hm
              go_enter Tryz.func69, Tryz.ntmps69
              go_wp2_with fail
              go_ret
              exact ⟨rfl, below_box _ _⟩
            · have HM : Hid (decide (may7 ⟨z, n, d⟩) = false) := by show _ = _; simp [hm, h5]
              rw [HM.out]
              clear hm
              go_enter Tryz.func69, Tryz.ntmps69
              go_wp2_with fail
              go_ret
              exact ⟨by simp [h5], below_box _ _⟩
          · have HM : Hid (decide (may7 ⟨z, n, d⟩) = false) := by show _ = _; simp [hm, h4]
            rw [HM.out]
            clear hm
            go_enter Tryz.func69, Tryz.ntmps69
            go_wp2_with fail
            go_ret
            exact ⟨rfl, below_box _ _⟩
        · have HM : Hid (decide (may7 ⟨z, n, d⟩) = false) := by show _ = _; simp [hm, h3]
          rw [HM.out]
          clear hm
          go_enter Tryz.func69, Tryz.ntmps69
          go_wp2_with fail
          go_ret
          exact ⟨rfl, below_box _ _⟩
      · have HM : Hid (decide (may7 ⟨z, n, d⟩) = false) := by show _ = _; simp [hm, h2]
        rw [HM.out]
        clear hm
        go_enter Tryz.func69, Tryz.ntmps69
        go_wp2_with fail
        go_ret
        exact ⟨rfl, below_box _ _⟩
    · have HM : Hid (decide (may7 ⟨z, n, d⟩) = false) := by show _ = _; simp [hm, h1]
      rw [HM.out]
      clear hm
      go_enter Tryz.func69, Tryz.ntmps69
      go_wp2_with fail
      go_ret
      exact ⟨rfl, below_box _ _⟩
set_option maxRecDepth 100000 in
set_option maxHeartbeats 1000000 in
theorem rwidth7 (t : Tok7) (w : World) : Calls Tryz.prog 57 #[t.val] w fun e w' => e = .returned (.int .i64 (wid7 t : Int)) ∧ Below w.heap.size w w' := by
  have CM := rmay7 t
  obtain ⟨wA, hwA⟩ : ∃ wA, wA = w.alloc (.cells #[.int .u8 t.lit, .int .i64 t.len, .int .i64 t.dist] 98) := ⟨_, rfl⟩
  have bA : Below w.heap.size w wA := by rw [hwA]; exact below_box _ _
  have hA : TkAt wA w.heap.size 0 t := by
    have h : wA.heap[w.heap.size]? = some (.cells #[.int .u8 t.lit, .int .i64 t.len, .int .i64 t.dist] 98 (0, 0)) := by rw [hwA]; exact heap_alloc_new w _
    refine ⟨?_, ?_, ?_⟩ <;> simp [World.cell?, h]
  have hAl := hA.lt
  have CMA := CM wA
  have hF : may7 t → ¬ t.len = 0 → (wid7 t : Int) = t.len := fun h1 h2 => by
    unfold wid7
    rw [if_pos h1, if_neg h2]
    unfold may7 at h1
    rw [if_neg h2] at h1
    omega
  have hZ : ¬ may7 t → wid7 t = 0 := fun h => by unfold wid7; rw [if_neg h]
  have hO : may7 t → t.len = 0 → wid7 t = 1 := fun h1 h2 => by unfold wid7; rw [if_pos h1, if_pos h2]
  have HWA : Hid (wA = w.alloc (.cells #[.int .u8 t.lit, .int .i64 t.len, .int .i64 t.dist] 98)) := hwA
  have hB : ∀ w', Below wA.heap.size wA w' → w'.cell? ⟨w.heap.size, 1, none⟩ = some (.int .i64 t.len) := fun w' hb => (hb.cell (p := ⟨w.heap.size, 1, none⟩) hAl).trans hA.c1
  have HB : Hid _ := hB
  clear hwA hA hB CM
  obtain ⟨z, n, d⟩ := t
  unfold Tok7.val at CMA ⊢
  simp only at CMA hF hZ hO HWA HB ⊢
  by_cases hm : may7 ⟨z, n, d⟩
  · rw [decide_eq_true hm] at CMA
    by_cases h0 : n = 0
    · have HE : Hid (wid7 ⟨z, n, d⟩ = 1) := hO hm h0
      clear hF hZ hO
      generalize wid7 ⟨z, n, d⟩ = W at *
      subst h0
      go_enter Tryz.func57, Tryz.ntmps57
      go_wp2_with fail
      rw [← HWA.out]
      refine CMA.mono ?_
      rintro e w1 ⟨rfl, b1⟩
      have c1 := HB.out w1 b1
      go_wp2_with fail
      go_ret
      exact ⟨by rw [HE.out]; rfl, bA.trans (b1.mono bA.size)⟩
    · have HE : Hid ((wid7 ⟨z, n, d⟩ : Int) = n) := hF hm h0
      clear hF hZ hO
      generalize wid7 ⟨z, n, d⟩ = W at *
      go_enter Tryz.func57, Tryz.ntmps57
      go_wp2_with fail
      rw [← HWA.out]
      refine CMA.mono ?_
      rintro e w1 ⟨rfl, b1⟩
      have c1 := HB.out w1 b1
      go_wp2_with fail
      go_ret
      exact ⟨by rw [HE.out]; rfl, bA.trans (b1.mono bA.size)⟩
  · rw [decide_eq_false hm] at CMA
    have HE : Hid (wid7 ⟨z, n, d⟩ = 0) := hZ hm
    clear hF hZ hO
    generalize wid7 ⟨z, n, d⟩ = W at *
    go_enter Tryz.func57, Tryz.ntmps57
    go_wp2_with fail
    rw [← HWA.out]
    refine CMA.mono ?_
    rintro e w1 ⟨rfl, b1⟩
    go_wp2_with fail
    go_ret
    exact ⟨by rw [HE.out]; rfl, bA.trans (b1.mono bA.size)⟩
end Go.Proofs.YtcifalelnfeggaaGreatDoor
