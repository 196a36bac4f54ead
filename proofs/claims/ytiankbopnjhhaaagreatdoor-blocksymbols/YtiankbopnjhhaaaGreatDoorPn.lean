import Derived.Test.YtiankbopnjhhaaaGreatDoorPm
namespace Go.Proofs.YtiankbopnjhhaaaGreatDoor
open Go.RowKit
set_option linter.unusedVariables false

def SymQ (g n cap a m b : Nat) (X : Nat → Im) (w : World) : Prop :=
  Calls Tryz.prog 158 #[.slice (some ⟨g, 0, none⟩) n cap, .int .i64 a, .int .i64 m, .int .i64 b, cmpF] w fun e w' => e = .returned (.tuple #[]) ∧ ∃ Y, Sr w' g n Y ∧ w.grownBy w' (some g) ∧ Pm X Y a b ∧ so Y a b
def tF (X : Nat → Im) (a c : Nat) : Prop := ¬ (X c).wt < (X a).wt
def tL (X : Nat → Im) (m c : Nat) : Prop := (X m).wt < (X c).wt

set_option maxHeartbeats 4000000 in
set_option maxRecDepth 100000 in
theorem sym_first (g n cap a m b : Nat) (X : Nat → Im) (w : World) (h : Sr w g n X) (hg : g < w.heap.size) (hb : b ≤ n) (hl : n ≤ 100000) (hm : m = a + 1) (hmb : m < b) (hr : so X m b) (hs : sep X a m b) : SymQ g n cap a m b X w := by
  unfold SymQ
  have r1 : (m : Int) - (a : Int) = 1 := by omega
  have ham : a < m := by omega
  have HM : Hid (m = a + 1) := hm
  clear hm
  have HMono : Hid (∀ c c', m ≤ c' → c' ≤ c → c < b → tF X a c' → tF X a c) := by
    intro c c' h1 h2 h3 h4 h5
    unfold tF at h4
    rcases hr.le h1 h2 h3 with e | e
    · rw [e] at h4; exact h4 h5
    · unfold kl at e; omega
  go_enter Tryz.func158, Tryz.ntmps158
  go_wp2_with fail
  go_loopw [10, 11] (fun ti tj wr => ∃ i j : Nat, m ≤ i ∧ i ≤ j ∧ j ≤ b ∧ ti = .int .i64 (i : Int) ∧ tj = .int .i64 (j : Int) ∧ Sr wr g n X ∧ g < wr.heap.size ∧ w.grownBy wr (some g) ∧ Hid (srch (tF X a) m b i j)) (fun ti tj _ => (intOf tj).toNat - (intOf ti).toNat)
  case atStart => exact ⟨m, b, Nat.le_refl _, by omega, Nat.le_refl _, rfl, rfl, h, hg, World.grownBy.refl _ _, (⟨Nat.le_refl _, by omega, Nat.le_refl _, fun c h1 h2 => by omega, fun c h1 h2 => by omega⟩ : _ ∧ _)⟩
  case round =>
    obtain ⟨i, j, hmi, hij, hjb, rfl, rfl, hS, hgw, hG, HS⟩ := hrel
    by_cases hlt : i < j
    · have hlti : (i : Int) < (j : Int) := by omega
      obtain ⟨c, hc⟩ : ∃ c, c = (i + j) / 2 := ⟨_, rfl⟩
      have rc : ((i : Int) + (j : Int)) / 2 = (c : Int) := by omega
      have hic : i ≤ c := by omega
      have hcj : c < j := by omega
      clear hc
      have i1 := hS.it (k := c) (by omega)
      have i2 := hS.it (k := a) (by omega)
      have T0 := two_of i1 i2
      unfold Two at T0
      have z0 : (c : Int) < (n : Int) := by omega
      have z1 : (a : Int) < (n : Int) := by omega
      have z2 : (0 : Int) ≤ (c : Int) := by omega
      have z3 : (0 : Int) ≤ (a : Int) := by omega
      have hwp : IntKind.i64.wrap (c : Int) = (c : Int) := by rw [IntKind.wrap_i64]; omega
      have HC : Hid (∀ W, Below wr.heap.size wr W → Calls Tryz.prog 115 #[(X c).val, (X a).val] W fun e w' => e = .returned (.int .i64 (cmpV (X c) (X a))) ∧ Below wr.heap.size wr w') := fun W hW => (cmp_any (X c) (X a) W).mono fun e w' ⟨h1, h2⟩ => ⟨h1, hW.trans (h2.mono hW.size)⟩
      have HK : Hid (∀ W, Below wr.heap.size wr W → Two g c a (X c) (X a) W) := fun W hW => two_old (two_of i1 i2) hW
      unfold Two at HK
      unfold Im.val at HC
      have d1 : Below wr.heap.size wr wr.drew := (Below.refl _ _).drew
      have d0 : Below wr.heap.size wr wr := Below.refl _ _
      have HNEG : Hid (cmpV (X c) (X a) < 0 ↔ (X c).wt < (X a).wt) := cmpV_neg _ _
      have hbd := cmpV_bd (X c) (X a)
      generalize cmpV (X c) (X a) = cv at *
      clear i1 i2
      by_cases hcv : cv < 0
      · have HS2 : Hid (srch (tF X a) m b (c + 1) j) := srch_up HS.out HMono.out hic hcj (by have := HNEG.out.1 hcv; unfold tF; omega)
        go_wp2_with fail
        go_region_held3 (fun w' => (w'.cell? ⟨g, c * 4, none⟩ = some (.int .i64 (X c).wt) ∧ w'.cell? ⟨g, c * 4 + 1, none⟩ = some (.int .i64 (X c).sy) ∧ w'.cell? ⟨g, c * 4 + 2, none⟩ = some (.pointer (X c).fs) ∧ w'.cell? ⟨g, c * 4 + 3, none⟩ = some (.pointer (X c).sn)) ∧ (w'.cell? ⟨g, a * 4, none⟩ = some (.int .i64 (X a).wt) ∧ w'.cell? ⟨g, a * 4 + 1, none⟩ = some (.int .i64 (X a).sy) ∧ w'.cell? ⟨g, a * 4 + 2, none⟩ = some (.pointer (X a).fs) ∧ w'.cell? ⟨g, a * 4 + 3, none⟩ = some (.pointer (X a).sn)))
          (first | go_keep | (exact HK.out _ (by assumption)))
          (first | (go_at_call 115; refine (HC.out _ (by assumption)).mono ?_; rintro e w7 ⟨rfl, b7⟩))
        have S7 := hS.old hgw b7
        have G7 : w.grownBy w7 (some g) := grownBy_trans hG (grown_old b7 _)
        have L7 : g < w7.heap.size := Nat.lt_of_lt_of_le hgw b7.size
        clear T0 HC HK d1 d0 b7
        go_wp2
        go_roundw
        case rel => exact ⟨c + 1, j, by omega, by omega, hjb, by go_num, rfl, S7, L7, G7, HS2.out⟩
        case measure => simp [intOf]; omega
      · have HS2 : Hid (srch (tF X a) m b i c) := srch_down HS.out HMono.out hic hcj (by have := HNEG.out; unfold tF; intro hh; exact hcv (this.2 hh))
        go_wp2_with fail
        go_region_held3 (fun w' => (w'.cell? ⟨g, c * 4, none⟩ = some (.int .i64 (X c).wt) ∧ w'.cell? ⟨g, c * 4 + 1, none⟩ = some (.int .i64 (X c).sy) ∧ w'.cell? ⟨g, c * 4 + 2, none⟩ = some (.pointer (X c).fs) ∧ w'.cell? ⟨g, c * 4 + 3, none⟩ = some (.pointer (X c).sn)) ∧ (w'.cell? ⟨g, a * 4, none⟩ = some (.int .i64 (X a).wt) ∧ w'.cell? ⟨g, a * 4 + 1, none⟩ = some (.int .i64 (X a).sy) ∧ w'.cell? ⟨g, a * 4 + 2, none⟩ = some (.pointer (X a).fs) ∧ w'.cell? ⟨g, a * 4 + 3, none⟩ = some (.pointer (X a).sn)))
          (first | go_keep | (exact HK.out _ (by assumption)))
          (first | (go_at_call 115; refine (HC.out _ (by assumption)).mono ?_; rintro e w7 ⟨rfl, b7⟩))
        have S7 := hS.old hgw b7
        have G7 : w.grownBy w7 (some g) := grownBy_trans hG (grown_old b7 _)
        have L7 : g < w7.heap.size := Nat.lt_of_lt_of_le hgw b7.size
        clear T0 HC HK d1 d0 b7
        go_wp2
        go_roundw
        case rel => exact ⟨i, c, hmi, by omega, by omega, rfl, rfl, S7, L7, G7, HS2.out⟩
        case measure => simp [intOf]; omega
    · obtain rfl : i = j := by omega
      have hli : ¬ (i : Int) < (i : Int) := by omega
      obtain ⟨p, hp⟩ : ∃ p, p = i - 1 := ⟨_, rfl⟩
      have rp : (i : Int) - 1 = (p : Int) := by omega
      have hap : a ≤ p := by have := HM.out; omega
      have hpb : p < b := by omega
      have HSO : Hid (so (insU X a p) a b) := by
        have hm1 := HM.out
        obtain ⟨_, _, _, q4, q5⟩ := HS.out
        rw [hm1] at hr
        refine insU_so hr hap hpb (fun k h1 h2 => ?_) (fun k h1 h2 => ?_)
        · have := q4 k (by omega) (by omega)
          unfold tF at this
          exact (wt_iff (hs a k (Nat.le_refl _) ham (by omega) (by omega))).1 (by omega)
        · exact kl_of_wt (hs a k (Nat.le_refl _) ham (by omega) h2) (q5 k (by omega) h2)
      clear hp HS
      obtain ⟨w0, hw0⟩ : ∃ w0, w0 = wr := ⟨_, rfl⟩
      have HW0 : Hid (w0 = wr) := hw0
      have hS0 : Sr w0 g n X := by rw [hw0]; exact hS
      have hG0 : w.grownBy w0 (some g) := by rw [hw0]; exact hG
      clear hw0 hlt hli
      go_wp2_with fail
      go_loopw [13] (fun tk w2 => ∃ k : Nat, a ≤ k ∧ k ≤ p ∧ tk = .int .i64 (k : Int) ∧ Sr w2 g n (insU X a k) ∧ w0.grownBy w2 (some g) ∧ Hid (Pm X (insU X a k) a b)) (fun tk _ => p - (intOf tk).toNat)
      case atStart => exact ⟨a, Nat.le_refl _, hap, rfl, by rw [insU_self]; exact hS, by rw [HW0.out]; exact World.grownBy.refl _ _, (by rw [insU_self]; exact Pm.refl _ _ _ : Pm _ _ _ _)⟩
      case round =>
        clear hS hG
        obtain ⟨k, hak, hkp, rfl, hS, hG, HP⟩ := hrel
        by_cases hk : k < p
        · have hki : (k : Int) < (p : Int) := by omega
          obtain ⟨q, hq⟩ : ∃ q, q = k + 1 := ⟨_, rfl⟩
          have rq : (k : Int) + 1 = (q : Int) := by omega
          have HST : Hid (swI (insU X a k) k q = insU X a q) := by show _ = _; rw [hq]; exact insU_step X a k hak
          have HPQ : Hid (Pm X (insU X a q) a b) := by
            have := HP.out.trans (Pm.swap (insU X a k) (a := a) (b := b) (i := k) (j := q) (by omega) (by omega) (by omega) (by omega))
            rw [HST.out] at this
            exact this
          have hqp : q ≤ p ∧ a ≤ q ∧ k < q ∧ q < n := by omega
          clear hq
          have HSW := hS.swap (i := k) (j := q) (by omega) (by omega)
          have HGW := swap_grown wr g (k * 4) (q * 4) ((insU X a k) q) ((insU X a k) k)
          obtain ⟨x0, x1, x2, x3⟩ := hS.it (k := k) (by omega)
          obtain ⟨y0, y1, y2, y3⟩ := hS.it (k := q) (by omega)
          have f0 := hS.free (k * 4); have f1 := hS.free (k * 4 + 1); have f2 := hS.free (k * 4 + 2); have f3 := hS.free (k * 4 + 3)
          have g0 := hS.free (q * 4); have g1 := hS.free (q * 4 + 1); have g2 := hS.free (q * 4 + 2); have g3 := hS.free (q * 4 + 3)
          have z0 : (k : Int) < (n : Int) := by omega
          have z1 : (q : Int) < (n : Int) := by omega
          have z2 : (0 : Int) ≤ (k : Int) := by omega
          have z3 : (0 : Int) ≤ (q : Int) := by omega
          have zpq : k ≠ q := by omega
          have HSS : Hid _ := HSW
          have HGG : Hid _ := HGW
          clear HSW HGW hS
          generalize (insU X a k) k = xx at *
          generalize (insU X a k) q = yy at *
          go_wp2_with fail
          go_region
          rw [HST.out] at HSS
          go_wp2
          go_roundw
          case rel => exact ⟨q, by omega, by omega, rfl, HSS.out.drew, grownBy_drew (grownBy_trans hG HGG.out), HPQ.out⟩
          case measure => simp [intOf]; omega
        · obtain rfl : k = p := by omega
          go_wp2
          refine bodyPost_ret (results_none rfl _ _ _) rfl ?_
          exact ⟨rfl, insU X a k, hS, grownBy_trans hG0 hG, HP.out, HSO.out⟩
end Go.Proofs.YtiankbopnjhhaaaGreatDoor

namespace Go.Proofs.YtiankbopnjhhaaaGreatDoor
open Go.RowKit
set_option linter.unusedVariables false

set_option maxHeartbeats 4000000 in
set_option maxRecDepth 100000 in
theorem sym_last (g n cap a m b : Nat) (X : Nat → Im) (w : World) (h : Sr w g n X) (hg : g < w.heap.size) (hb : b ≤ n) (hl : n ≤ 100000) (ham : a + 1 < m) (hbm : b = m + 1) (hr : so X a m) (hs : sep X a m b) : SymQ g n cap a m b X w := by
  unfold SymQ
  have r0 : ¬ (m : Int) - (a : Int) = 1 := by omega
  have r0b : ((m : Int) - (a : Int) == 1) = false := by simpa using r0
  have r1 : (b : Int) - (m : Int) = 1 := by omega
  have hmb : m < b := by omega
  have HM : Hid (b = m + 1) := hbm
  clear hbm
  have HMono : Hid (∀ c c', a ≤ c' → c' ≤ c → c < m → tL X m c' → tL X m c) := by
    intro c c' h1 h2 h3 h4
    unfold tL at *
    rcases hr.le h1 h2 h3 with e | e
    · rw [← e]; exact h4
    · unfold kl at e; omega
  go_enter Tryz.func158, Tryz.ntmps158
  go_wp2_with fail
  go_loopw [14, 15] (fun ti tj wr => ∃ i j : Nat, a ≤ i ∧ i ≤ j ∧ j ≤ m ∧ ti = .int .i64 (i : Int) ∧ tj = .int .i64 (j : Int) ∧ Sr wr g n X ∧ g < wr.heap.size ∧ w.grownBy wr (some g) ∧ Hid (srch (tL X m) a m i j)) (fun ti tj _ => (intOf tj).toNat - (intOf ti).toNat)
  case atStart => exact ⟨a, m, Nat.le_refl _, by omega, Nat.le_refl _, rfl, rfl, h, hg, World.grownBy.refl _ _, (⟨Nat.le_refl _, by omega, Nat.le_refl _, fun c h1 h2 => by omega, fun c h1 h2 => by omega⟩ : _ ∧ _)⟩
  case round =>
    obtain ⟨i, j, hmi, hij, hjb, rfl, rfl, hS, hgw, hG, HS⟩ := hrel
    by_cases hlt : i < j
    · have hlti : (i : Int) < (j : Int) := by omega
      obtain ⟨c, hc⟩ : ∃ c, c = (i + j) / 2 := ⟨_, rfl⟩
      have rc : ((i : Int) + (j : Int)) / 2 = (c : Int) := by omega
      have hic : i ≤ c := by omega
      have hcj : c < j := by omega
      clear hc
      have i1 := hS.it (k := m) (by omega)
      have i2 := hS.it (k := c) (by omega)
      have T0 := two_of i1 i2
      unfold Two at T0
      have z0 : (m : Int) < (n : Int) := by omega
      have z1 : (c : Int) < (n : Int) := by omega
      have z2 : (0 : Int) ≤ (m : Int) := by omega
      have z3 : (0 : Int) ≤ (c : Int) := by omega
      have hwp : IntKind.i64.wrap (m : Int) = (m : Int) := by rw [IntKind.wrap_i64]; omega
      have HC : Hid (∀ W, Below wr.heap.size wr W → Calls Tryz.prog 115 #[(X m).val, (X c).val] W fun e w' => e = .returned (.int .i64 (cmpV (X m) (X c))) ∧ Below wr.heap.size wr w') := fun W hW => (cmp_any (X m) (X c) W).mono fun e w' ⟨h1, h2⟩ => ⟨h1, hW.trans (h2.mono hW.size)⟩
      have HK : Hid (∀ W, Below wr.heap.size wr W → Two g m c (X m) (X c) W) := fun W hW => two_old (two_of i1 i2) hW
      unfold Two at HK
      unfold Im.val at HC
      have d1 : Below wr.heap.size wr wr.drew := (Below.refl _ _).drew
      have d0 : Below wr.heap.size wr wr := Below.refl _ _
      have HNEG : Hid (cmpV (X m) (X c) < 0 ↔ (X m).wt < (X c).wt) := cmpV_neg _ _
      have hbd := cmpV_bd (X m) (X c)
      generalize cmpV (X m) (X c) = cv at *
      clear i1 i2
      by_cases hcv : cv < 0
      · have HS2 : Hid (srch (tL X m) a m i c) := srch_down HS.out HMono.out hic hcj (HNEG.out.1 hcv)
        go_wp2_with fail
        go_region_held3 (fun w' => (w'.cell? ⟨g, m * 4, none⟩ = some (.int .i64 (X m).wt) ∧ w'.cell? ⟨g, m * 4 + 1, none⟩ = some (.int .i64 (X m).sy) ∧ w'.cell? ⟨g, m * 4 + 2, none⟩ = some (.pointer (X m).fs) ∧ w'.cell? ⟨g, m * 4 + 3, none⟩ = some (.pointer (X m).sn)) ∧ (w'.cell? ⟨g, c * 4, none⟩ = some (.int .i64 (X c).wt) ∧ w'.cell? ⟨g, c * 4 + 1, none⟩ = some (.int .i64 (X c).sy) ∧ w'.cell? ⟨g, c * 4 + 2, none⟩ = some (.pointer (X c).fs) ∧ w'.cell? ⟨g, c * 4 + 3, none⟩ = some (.pointer (X c).sn)))
          (first | go_keep | (exact HK.out _ (by assumption)))
          (first | (go_at_call 115; refine (HC.out _ (by assumption)).mono ?_; rintro e w7 ⟨rfl, b7⟩))
        have S7 := hS.old hgw b7
        have G7 : w.grownBy w7 (some g) := grownBy_trans hG (grown_old b7 _)
        have L7 : g < w7.heap.size := Nat.lt_of_lt_of_le hgw b7.size
        clear T0 HC HK d1 d0 b7
        go_wp2
        go_roundw
        case rel => exact ⟨i, c, hmi, by omega, by omega, rfl, rfl, S7, L7, G7, HS2.out⟩
        case measure => simp [intOf]; omega
      · have hcd : decide (cv < 0) = false := decide_eq_false hcv
        have HS2 : Hid (srch (tL X m) a m (c + 1) j) := srch_up HS.out HMono.out hic hcj (by have := HNEG.out; unfold tL; intro hh; exact hcv (this.2 hh))
        go_wp2_with fail
        go_region_held3 (fun w' => (w'.cell? ⟨g, m * 4, none⟩ = some (.int .i64 (X m).wt) ∧ w'.cell? ⟨g, m * 4 + 1, none⟩ = some (.int .i64 (X m).sy) ∧ w'.cell? ⟨g, m * 4 + 2, none⟩ = some (.pointer (X m).fs) ∧ w'.cell? ⟨g, m * 4 + 3, none⟩ = some (.pointer (X m).sn)) ∧ (w'.cell? ⟨g, c * 4, none⟩ = some (.int .i64 (X c).wt) ∧ w'.cell? ⟨g, c * 4 + 1, none⟩ = some (.int .i64 (X c).sy) ∧ w'.cell? ⟨g, c * 4 + 2, none⟩ = some (.pointer (X c).fs) ∧ w'.cell? ⟨g, c * 4 + 3, none⟩ = some (.pointer (X c).sn)))
          (first | go_keep | (exact HK.out _ (by assumption)))
          (first | (go_at_call 115; refine (HC.out _ (by assumption)).mono ?_; rintro e w7 ⟨rfl, b7⟩))
        have S7 := hS.old hgw b7
        have G7 : w.grownBy w7 (some g) := grownBy_trans hG (grown_old b7 _)
        have L7 : g < w7.heap.size := Nat.lt_of_lt_of_le hgw b7.size
        clear T0 HC HK d1 d0 b7
        go_wp2
        go_roundw
        case rel => exact ⟨c + 1, j, by omega, by omega, hjb, by go_num, rfl, S7, L7, G7, HS2.out⟩
        case measure => simp [intOf]; omega
    · obtain rfl : i = j := by omega
      have hli : ¬ (i : Int) < (i : Int) := by omega
      have HSO : Hid (so (insA X m i) a b) := by
        obtain ⟨_, _, _, q4, q5⟩ := HS.out
        have hm1 := HM.out
        rw [hm1]
        refine insA_so hr hmi hjb (fun k h1 h2 => ?_) (fun k h1 h2 => ?_)
        · exact kl_of_wt (hs k m h1 (by omega) (Nat.le_refl _) hmb) (q4 k h1 h2)
        · have := q5 k h1 h2
          unfold tL at this
          exact (wt_iff (hs k m (by omega) h2 (Nat.le_refl _) hmb)).1 this
      clear HS
      obtain ⟨w0, hw0⟩ : ∃ w0, w0 = wr := ⟨_, rfl⟩
      have HW0 : Hid (w0 = wr) := hw0
      have hS0 : Sr w0 g n X := by rw [hw0]; exact hS
      have hG0 : w.grownBy w0 (some g) := by rw [hw0]; exact hG
      clear hw0 hlt hli
      go_wp2_with fail
      go_loopw [17] (fun tk w2 => ∃ k : Nat, i ≤ k ∧ k ≤ m ∧ tk = .int .i64 (k : Int) ∧ Sr w2 g n (insA X m k) ∧ w0.grownBy w2 (some g) ∧ Hid (Pm X (insA X m k) a b)) (fun tk _ => (intOf tk).toNat)
      case atStart => exact ⟨m, hjb, Nat.le_refl _, rfl, by rw [insA_self]; exact hS, by rw [HW0.out]; exact World.grownBy.refl _ _, (by rw [insA_self]; exact Pm.refl _ _ _ : Pm _ _ _ _)⟩
      case round =>
        clear hS hG
        obtain ⟨k, hak, hkp, rfl, hS, hG, HP⟩ := hrel
        by_cases hk : i < k
        · have hki : (i : Int) < (k : Int) := by omega
          obtain ⟨q, hq⟩ : ∃ q, k = q + 1 := ⟨k - 1, by omega⟩
          have rq : (k : Int) - 1 = (q : Int) := by omega
          have HST : Hid (swI (insA X m k) k q = insA X m q) := by
            have := insA_step X m k (by omega) hkp
            have e : k - 1 = q := by omega
            rw [e] at this
            exact this
          have HPQ : Hid (Pm X (insA X m q) a b) := by
            have := HP.out.trans (Pm.swap (insA X m k) (a := a) (b := b) (i := k) (j := q) (by omega) (by omega) (by omega) (by omega))
            rw [HST.out] at this
            exact this
          have hqp : i ≤ q ∧ q ≤ m ∧ q < k ∧ q < n ∧ k < n := by omega
          have hwp : IntKind.i64.wrap (q : Int) = (q : Int) := by rw [IntKind.wrap_i64]; omega
          clear hq
          have HSW := hS.swap (i := k) (j := q) (by omega) (by omega)
          have HGW := swap_grown wr g (k * 4) (q * 4) ((insA X m k) q) ((insA X m k) k)
          obtain ⟨x0, x1, x2, x3⟩ := hS.it (k := k) (by omega)
          obtain ⟨y0, y1, y2, y3⟩ := hS.it (k := q) (by omega)
          have f0 := hS.free (k * 4); have f1 := hS.free (k * 4 + 1); have f2 := hS.free (k * 4 + 2); have f3 := hS.free (k * 4 + 3)
          have g0 := hS.free (q * 4); have g1 := hS.free (q * 4 + 1); have g2 := hS.free (q * 4 + 2); have g3 := hS.free (q * 4 + 3)
          have z0 : (k : Int) < (n : Int) := by omega
          have z1 : (q : Int) < (n : Int) := by omega
          have z2 : (0 : Int) ≤ (k : Int) := by omega
          have z3 : (0 : Int) ≤ (q : Int) := by omega
          have zpq : k ≠ q := by omega
          have HSS : Hid _ := HSW
          have HGG : Hid _ := HGW
          clear HSW HGW hS
          generalize (insA X m k) k = xx at *
          generalize (insA X m k) q = yy at *
          go_wp2_with fail
          go_region
          rw [HST.out] at HSS
          go_wp2
          go_roundw
          case rel => exact ⟨q, by omega, by omega, rfl, HSS.out.drew, grownBy_drew (grownBy_trans hG HGG.out), HPQ.out⟩
          case measure => simp [intOf]; omega
        · obtain rfl : k = i := by omega
          go_wp2
          refine bodyPost_ret (results_none rfl _ _ _) rfl ?_
          exact ⟨rfl, insA X m k, hS, grownBy_trans hG0 hG, HP.out, HSO.out⟩
end Go.Proofs.YtiankbopnjhhaaaGreatDoor
