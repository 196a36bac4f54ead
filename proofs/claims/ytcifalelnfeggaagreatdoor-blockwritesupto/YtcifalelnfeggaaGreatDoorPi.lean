import Derived.Test.YtcifalelnfeggaaGreatDoorPh
import Derived.Test.YtcifalelnfeggaaGreatDoorPc
namespace Go.Proofs.YtcifalelnfeggaaGreatDoor
open Go.RowKit
set_option linter.unusedVariables false

def SymQ (g n cap a m b : Nat) (X : Nat → Im) (w : World) : Prop :=
  Calls Tryz.prog 158 #[.slice (some ⟨g, 0, none⟩) n cap, .int .i64 a, .int .i64 m, .int .i64 b, cmpF] w fun e w' => e = .returned (.tuple #[]) ∧ ∃ Y, Sr w' g n Y ∧ w.grownBy w' (some g) ∧ Pm X Y a b ∧ so Y a b
def tF (X : Nat → Im) (a c : Nat) : Prop := ¬ (X c).wt < (X a).wt
def tL (X : Nat → Im) (m c : Nat) : Prop := (X m).wt < (X c).wt

set_option maxHeartbeats 4000000 in
set_option maxRecDepth 100000 in
theorem sym_first (g n cap a m b : Nat) (X : Nat → Im) (w : World) (h : Sr w g n X) (hg : g < w.heap.size) (hb : b ≤ n) (hl : n ≤ 100000) (hm : m = a + 1) (hmb : m < b) (hr : so X m b) (hs : sep X a m b) : SymQ g n cap a m b X w := by
  unfold SymQ
  have r1 : (m : Int) - (a : Int) = 1 := by omega
  have ham : a < m := by omega
  have HM : Hid (m = a + 1) := hm
  clear hm
  have HMono : Hid (∀ c c', m ≤ c' → c' ≤ c → c < b → tF X a c' → tF X a c) := by
    intro c c' h1 h2 h3 h4 h5
    unfold tF at h4
    rcases hr.le h1 h2 h3 with e | e
    · rw [e] at h4; exact h4 h5
    · unfold kl at e; omega
  go_enter Tryz.func158, Tryz.ntmps158
  go_wp2_with fail
  go_loopw [10, 11] (fun ti tj wr => ∃ i j : Nat, m ≤ i ∧ i ≤ j ∧ j ≤ b ∧ ti = .int .i64 (i : Int) ∧ tj = .int .i64 (j : Int) ∧ Sr wr g n X ∧ g < wr.heap.size ∧ w.grownBy wr (some g) ∧ Hid (srch (tF X a) m b i j)) (fun ti tj _ => (intOf tj).toNat - (intOf ti).toNat)
  case atStart => exact ⟨m, b, Nat.le_refl _, by omega, Nat.le_refl _, rfl, rfl, h, hg, World.grownBy.refl _ _, (⟨Nat.le_refl _, by omega, Nat.le_refl _, fun c h1 h2 => by omega, fun c h1 h2 => by omega⟩ : _ ∧ _)⟩
  case round =>
    obtain ⟨i, j, hmi, hij, hjb, rfl, rfl, hS, hgw, hG, HS⟩ := hrel
    by_cases hlt : i < j
    · have hlti : (i : Int) < (j : Int) := by omega
      obtain ⟨c, hc⟩ : ∃ c, c = (i + j) / 2 := ⟨_, rfl⟩
      have rc : ((i : Int) + (j : Int)) / 2 = (c : Int) := by omega
      have hic : i ≤ c := by omega
      have hcj : c < j := by omega
      clear hc
      have i1 := hS.it (k := c) (by omega)
      have i2 := hS.it (k := a) (by omega)
      have T0 := two_of i1 i2
      unfold Two at T0
      have z0 : (c : Int) < (n : Int) := by omega
      have z1 : (a : Int) < (n : Int) := by omega
      have z2 : (0 : Int) ≤ (c : Int) := by omega
      have z3 : (0 : Int) ≤ (a : Int) := by omega
      have hwp : IntKind.i64.wrap (c : Int) = (c : Int) := by rw [IntKind.wrap_i64]; omega
      have HC : Hid (∀ W, Below wr.heap.size wr W → Calls Tryz.prog 115 #[(X c).val, (X a).val] W fun e w' => e = .returned (.int .i64 (cmpV (X c) (X a))) ∧ Below wr.heap.size wr w') := fun W hW => (cmp_any (X c) (X a) W).mono fun e w' ⟨h1, h2⟩ => ⟨h1, hW.trans (h2.mono hW.size)⟩
      have HK : Hid (∀ W, Below wr.heap.size wr W → Two g c a (X c) (X a) W) := fun W hW => two_old (two_of i1 i2) hW
      unfold Two at HK
      unfold Im.val at HC
      have d1 : Below wr.heap.size wr wr.drew := (Below.refl _ _).drew
      have d0 : Below wr.heap.size wr wr := Below.refl _ _
      have HNEG : Hid (cmpV (X c) (X a) < 0 ↔ (X c).wt < (X a).wt) := cmpV_neg _ _
      have hbd := cmpV_bd (X c) (X a)
      generalize cmpV (X c) (X a) = cv at *
      clear i1 i2
      by_cases hcv : cv < 0
      · have HS2 : Hid (srch (tF X a) m b (c + 1) j) := srch_up HS.out HMono.out hic hcj (by have := HNEG.out.1 hcv; unfold tF; omega)
        go_wp2_with fail
        go_region_held3 (fun w' => (w'.cell? ⟨g, c * 4, none⟩ = some (.int .i64 (X c).wt) ∧ w'.cell? ⟨g, c * 4 + 1, none⟩ = some (.int .i64 (X c).sy) ∧ w'.cell? ⟨g, c * 4 + 2, none⟩ = some (.pointer (X c).fs) ∧ w'.cell? ⟨g, c * 4 + 3, none⟩ = some (.pointer (X c).sn)) ∧ (w'.cell? ⟨g, a * 4, none⟩ = some (.int .i64 (X a).wt) ∧ w'.cell? ⟨g, a * 4 + 1, none⟩ = some (.int .i64 (X a).sy) ∧ w'.cell? ⟨g, a * 4 + 2, none⟩ = some (.pointer (X a).fs) ∧ w'.cell? ⟨g, a * 4 + 3, none⟩ = some (.pointer (X a).sn)))
          (first | go_keep | (exact HK.out _ (by assumption)))
          (first | (go_at_call 115; refine (HC.out _ (by assumption)).mono ?_; rintro e w7 ⟨rfl, b7⟩))
        have S7 := hS.old hgw b7
        have G7 : w.grownBy w7 (some g) := grownBy_trans hG (grown_old b7 _)
        have L7 : g < w7.heap.size := Nat.lt_of_lt_of_le hgw b7.size
        clear T0 HC HK d1 d0 b7
        go_wp2
        go_roundw
        case rel => exact ⟨c + 1, j, by omega, by omega, hjb, by go_num, rfl, S7, L7, G7, HS2.out⟩
        case measure => simp [intOf]; omega
      · have HS2 : Hid (srch (tF X a) m b i c) := srch_down HS.out HMono.out hic hcj (by have := HNEG.out; unfold tF; intro hh; exact hcv (this.2 hh))
        go_wp2_with fail
        go_region_held3 (fun w' => (w'.cell? ⟨g, c * 4, none⟩ = some (.int .i64 (X c).wt) ∧ w'.cell? ⟨g, c * 4 + 1, none⟩ = some (.int .i64 (X c).sy) ∧ w'.cell? ⟨g, c * 4 + 2, none⟩ = some (.pointer (X c).fs) ∧ w'.cell? ⟨g, c * 4 + 3, none⟩ = some (.pointer (X c).sn)) ∧ (w'.cell? ⟨g, a * 4, none⟩ = some (.int .i64 (X a).wt) ∧ w'.cell? ⟨g, a * 4 + 1, none⟩ = some (.int .i64 (X a).sy) ∧ w'.cell? ⟨g, a * 4 + 2, none⟩ = some (.pointer (X a).fs) ∧ w'.cell? ⟨g, a * 4 + 3, none⟩ = some (.pointer (X a).sn)))
          (first | go_keep | (exact HK.out _ (by assumption)))
          (first | (go_at_call 115; refine (HC.out _ (by assumption)).mono ?_; rintro e w7 ⟨rfl, b7⟩))
        have S7 := hS.old hgw b7
        have G7 : w.grownBy w7 (some g) := grownBy_trans hG (grown_old b7 _)
        have L7 : g < w7.heap.size := Nat.lt_of_lt_of_le hgw b7.size
        clear T0 HC HK d1 d0 b7
        go_wp2
        go_roundw
        case rel => exact ⟨i, c, hmi, by omega, by omega, rfl, rfl, S7, L7, G7, HS2.out⟩
        case measure => simp [intOf]; omega
    · obtain rfl : i = j := by omega
      have hli : ¬ (i : Int) < (i : Int) := by omega
      obtain ⟨p, hp⟩ : ∃ p, p = i - 1 := ⟨_, rfl⟩
      have rp : (i : Int) - 1 = (p : Int) := by omega
      have hap : a ≤ p := by have := HM.out; omega
      have hpb : p < b := by omega
      have HSO : Hid (so (insU X a p) a b) := by
        have hm1 := HM.out
        obtain ⟨_, _, _, q4, q5⟩ := HS.out
        rw [hm1] at hr
        refine insU_so hr hap hpb (fun k h1 h2 => ?_) (fun k h1 h2 => ?_)
        · have := q4 k (by omega) (by omega)
          unfold tF at this
          exact (wt_iff (hs a k (Nat.le_refl _) ham (by omega) (by omega))).1 (by omega)
        · exact kl_of_wt (hs a k (Nat.le_refl _) ham (by omega) h2) (q5 k (by omega) h2)
      clear hp HS
      obtain ⟨w0, hw0⟩ : ∃ w0, w0 = wr := ⟨_, rfl⟩
      have HW0 : Hid (w0 = wr) := hw0
      have hS0 : Sr w0 g n X := by rw [hw0]; exact hS
      have hG0 : w.grownBy w0 (some g) := by rw [hw0]; exact hG
      clear hw0 hlt hli
      go_wp2_with fail
      go_loopw [13] (fun tk w2 => ∃ k : Nat, a ≤ k ∧ k ≤ p ∧ tk = .int .i64 (k : Int) ∧ Sr w2 g n (insU X a k) ∧ w0.grownBy w2 (some g) ∧ Hid (Pm X (insU X a k) a b)) (fun tk _ => p - (intOf tk).toNat)
      case atStart => exact ⟨a, Nat.le_refl _, hap, rfl, by rw [insU_self]; exact hS, by rw [HW0.out]; exact World.grownBy.refl _ _, (by rw [insU_self]; exact Pm.refl _ _ _ : Pm _ _ _ _)⟩
      case round =>
        clear hS hG
        obtain ⟨k, hak, hkp, rfl, hS, hG, HP⟩ := hrel
        by_cases hk : k < p
        · have hki : (k : Int) < (p : Int) := by omega
          obtain ⟨q, hq⟩ : ∃ q, q = k + 1 := ⟨_, rfl⟩
          have rq : (k : Int) + 1 = (q : Int) := by omega
          have HST : Hid (swI (insU X a k) k q = insU X a q) := by show _ = _; rw [hq]; exact insU_step X a k hak
          have HPQ : Hid (Pm X (insU X a q) a b) := by
            have := HP.out.trans (Pm.swap (insU X a k) (a := a) (b := b) (i := k) (j := q) (by omega) (by omega) (by omega) (by omega))
            rw [HST.out] at this
            exact this
          have hqp : q ≤ p ∧ a ≤ q ∧ k < q ∧ q < n := by omega
          clear hq
          have HSW := hS.swap (i := k) (j := q) (by omega) (by omega)
          have HGW := swap_grown wr g (k * 4) (q * 4) ((insU X a k) q) ((insU X a k) k)
          obtain ⟨x0, x1, x2, x3⟩ := hS.it (k := k) (by omega)
          obtain ⟨y0, y1, y2, y3⟩ := hS.it (k := q) (by omega)
          have f0 := hS.free (k * 4); have f1 := hS.free (k * 4 + 1); have f2 := hS.free (k * 4 + 2); have f3 := hS.free (k * 4 + 3)
          have g0 := hS.free (q * 4); have g1 := hS.free (q * 4 + 1); have g2 := hS.free (q * 4 + 2); have g3 := hS.free (q * 4 + 3)
          have z0 : (k : Int) < (n : Int) := by omega
          have z1 : (q : Int) < (n : Int) := by omega
          have z2 : (0 : Int) ≤ (k : Int) := by omega
          have z3 : (0 : Int) ≤ (q : Int) := by omega
          have zpq : k ≠ q := by omega
          have HSS : Hid _ := HSW
          have HGG : Hid _ := HGW
          clear HSW HGW hS
          generalize (insU X a k) k = xx at *
          generalize (insU X a k) q = yy at *
          go_wp2_with fail
          go_region
          rw [HST.out] at HSS
          go_wp2
          go_roundw
          case rel => exact ⟨q, by omega, by omega, rfl, HSS.out.drew, grownBy_drew (grownBy_trans hG HGG.out), HPQ.out⟩
          case measure => simp [intOf]; omega
        · obtain rfl : k = p := by omega
          go_wp2
          refine bodyPost_ret (results_none rfl _ _ _) rfl ?_
          exact ⟨rfl, insU X a k, hS, grownBy_trans hG0 hG, HP.out, HSO.out⟩
end Go.Proofs.YtcifalelnfeggaaGreatDoor

namespace Go.Proofs.YtcifalelnfeggaaGreatDoor
open Go.RowKit
set_option linter.unusedVariables false

set_option maxHeartbeats 4000000 in
set_option maxRecDepth 100000 in
theorem sym_last (g n cap a m b : Nat) (X : Nat → Im) (w : World) (h : Sr w g n X) (hg : g < w.heap.size) (hb : b ≤ n) (hl : n ≤ 100000) (ham : a + 1 < m) (hbm : b = m + 1) (hr : so X a m) (hs : sep X a m b) : SymQ g n cap a m b X w := by
  unfold SymQ
  have r0 : ¬ (m : Int) - (a : Int) = 1 := by omega
  have r0b : ((m : Int) - (a : Int) == 1) = false := by simpa using r0
  have r1 : (b : Int) - (m : Int) = 1 := by omega
  have hmb : m < b := by omega
  have HM : Hid (b = m + 1) := hbm
  clear hbm
  have HMono : Hid (∀ c c', a ≤ c' → c' ≤ c → c < m → tL X m c' → tL X m c) := by
    intro c c' h1 h2 h3 h4
    unfold tL at *
    rcases hr.le h1 h2 h3 with e | e
    · rw [← e]; exact h4
    · unfold kl at e; omega
  go_enter Tryz.func158, Tryz.ntmps158
  go_wp2_with fail
  go_loopw [14, 15] (fun ti tj wr => ∃ i j : Nat, a ≤ i ∧ i ≤ j ∧ j ≤ m ∧ ti = .int .i64 (i : Int) ∧ tj = .int .i64 (j : Int) ∧ Sr wr g n X ∧ g < wr.heap.size ∧ w.grownBy wr (some g) ∧ Hid (srch (tL X m) a m i j)) (fun ti tj _ => (intOf tj).toNat - (intOf ti).toNat)
  case atStart => exact ⟨a, m, Nat.le_refl _, by omega, Nat.le_refl _, rfl, rfl, h, hg, World.grownBy.refl _ _, (⟨Nat.le_refl _, by omega, Nat.le_refl _, fun c h1 h2 => by omega, fun c h1 h2 => by omega⟩ : _ ∧ _)⟩
  case round =>
    obtain ⟨i, j, hmi, hij, hjb, rfl, rfl, hS, hgw, hG, HS⟩ := hrel
    by_cases hlt : i < j
    · have hlti : (i : Int) < (j : Int) := by omega
      obtain ⟨c, hc⟩ : ∃ c, c = (i + j) / 2 := ⟨_, rfl⟩
      have rc : ((i : Int) + (j : Int)) / 2 = (c : Int) := by omega
      have hic : i ≤ c := by omega
      have hcj : c < j := by omega
      clear hc
      have i1 := hS.it (k := m) (by omega)
      have i2 := hS.it (k := c) (by omega)
      have T0 := two_of i1 i2
      unfold Two at T0
      have z0 : (m : Int) < (n : Int) := by omega
      have z1 : (c : Int) < (n : Int) := by omega
      have z2 : (0 : Int) ≤ (m : Int) := by omega
      have z3 : (0 : Int) ≤ (c : Int) := by omega
      have hwp : IntKind.i64.wrap (m : Int) = (m : Int) := by rw [IntKind.wrap_i64]; omega
      have HC : Hid (∀ W, Below wr.heap.size wr W → Calls Tryz.prog 115 #[(X m).val, (X c).val] W fun e w' => e = .returned (.int .i64 (cmpV (X m) (X c))) ∧ Below wr.heap.size wr w') := fun W hW => (cmp_any (X m) (X c) W).mono fun e w' ⟨h1, h2⟩ => ⟨h1, hW.trans (h2.mono hW.size)⟩
      have HK : Hid (∀ W, Below wr.heap.size wr W → Two g m c (X m) (X c) W) := fun W hW => two_old (two_of i1 i2) hW
      unfold Two at HK
      unfold Im.val at HC
      have d1 : Below wr.heap.size wr wr.drew := (Below.refl _ _).drew
      have d0 : Below wr.heap.size wr wr := Below.refl _ _
      have HNEG : Hid (cmpV (X m) (X c) < 0 ↔ (X m).wt < (X c).wt) := cmpV_neg _ _
      have hbd := cmpV_bd (X m) (X c)
      generalize cmpV (X m) (X c) = cv at *
      clear i1 i2
      by_cases hcv : cv < 0
      · have HS2 : Hid (srch (tL X m) a m i c) := srch_down HS.out HMono.out hic hcj (HNEG.out.1 hcv)
        go_wp2_with fail
        go_region_held3 (fun w' => (w'.cell? ⟨g, m * 4, none⟩ = some (.int .i64 (X m).wt) ∧ w'.cell? ⟨g, m * 4 + 1, none⟩ = some (.int .i64 (X m).sy) ∧ w'.cell? ⟨g, m * 4 + 2, none⟩ = some (.pointer (X m).fs) ∧ w'.cell? ⟨g, m * 4 + 3, none⟩ = some (.pointer (X m).sn)) ∧ (w'.cell? ⟨g, c * 4, none⟩ = some (.int .i64 (X c).wt) ∧ w'.cell? ⟨g, c * 4 + 1, none⟩ = some (.int .i64 (X c).sy) ∧ w'.cell? ⟨g, c * 4 + 2, none⟩ = some (.pointer (X c).fs) ∧ w'.cell? ⟨g, c * 4 + 3, none⟩ = some (.pointer (X c).sn)))
          (first | go_keep | (exact HK.out _ (by assumption)))
          (first | (go_at_call 115; refine (HC.out _ (by assumption)).mono ?_; rintro e w7 ⟨rfl, b7⟩))
        have S7 := hS.old hgw b7
        have G7 : w.grownBy w7 (some g) := grownBy_trans hG (grown_old b7 _)
        have L7 : g < w7.heap.size := Nat.lt_of_lt_of_le hgw b7.size
        clear T0 HC HK d1 d0 b7
        go_wp2
        go_roundw
        case rel => exact ⟨i, c, hmi, by omega, by omega, rfl, rfl, S7, L7, G7, HS2.out⟩
        case measure => simp [intOf]; omega
      · have hcd : decide (cv < 0) = false := decide_eq_false hcv
        have HS2 : Hid (srch (tL X m) a m (c + 1) j) := srch_up HS.out HMono.out hic hcj (by have := HNEG.out; unfold tL; intro hh; exact hcv (this.2 hh))
        go_wp2_with fail
        go_region_held3 (fun w' => (w'.cell? ⟨g, m * 4, none⟩ = some (.int .i64 (X m).wt) ∧ w'.cell? ⟨g, m * 4 + 1, none⟩ = some (.int .i64 (X m).sy) ∧ w'.cell? ⟨g, m * 4 + 2, none⟩ = some (.pointer (X m).fs) ∧ w'.cell? ⟨g, m * 4 + 3, none⟩ = some (.pointer (X m).sn)) ∧ (w'.cell? ⟨g, c * 4, none⟩ = some (.int .i64 (X c).wt) ∧ w'.cell? ⟨g, c * 4 + 1, none⟩ = some (.int .i64 (X c).sy) ∧ w'.cell? ⟨g, c * 4 + 2, none⟩ = some (.pointer (X c).fs) ∧ w'.cell? ⟨g, c * 4 + 3, none⟩ = some (.pointer (X c).sn)))
          (first | go_keep | (exact HK.out _ (by assumption)))
          (first | (go_at_call 115; refine (HC.out _ (by assumption)).mono ?_; rintro e w7 ⟨rfl, b7⟩))
        have S7 := hS.old hgw b7
        have G7 : w.grownBy w7 (some g) := grownBy_trans hG (grown_old b7 _)
        have L7 : g < w7.heap.size := Nat.lt_of_lt_of_le hgw b7.size
        clear T0 HC HK d1 d0 b7
        go_wp2
        go_roundw
        case rel => exact ⟨c + 1, j, by omega, by omega, hjb, by go_num, rfl, S7, L7, G7, HS2.out⟩
        case measure => simp [intOf]; omega
    · obtain rfl : i = j := by omega
      have hli : ¬ (i : Int) < (i : Int) := by omega
      have HSO : Hid (so (insA X m i) a b) := by
        obtain ⟨_, _, _, q4, q5⟩ := HS.out
        have hm1 := HM.out
        rw [hm1]
        refine insA_so hr hmi hjb (fun k h1 h2 => ?_) (fun k h1 h2 => ?_)
        · exact kl_of_wt (hs k m h1 (by omega) (Nat.le_refl _) hmb) (q4 k h1 h2)
        · have := q5 k h1 h2
          unfold tL at this
          exact (wt_iff (hs k m (by omega) h2 (Nat.le_refl _) hmb)).1 this
      clear HS
      obtain ⟨w0, hw0⟩ : ∃ w0, w0 = wr := ⟨_, rfl⟩
      have HW0 : Hid (w0 = wr) := hw0
      have hS0 : Sr w0 g n X := by rw [hw0]; exact hS
      have hG0 : w.grownBy w0 (some g) := by rw [hw0]; exact hG
      clear hw0 hlt hli
      go_wp2_with fail
      go_loopw [17] (fun tk w2 => ∃ k : Nat, i ≤ k ∧ k ≤ m ∧ tk = .int .i64 (k : Int) ∧ Sr w2 g n (insA X m k) ∧ w0.grownBy w2 (some g) ∧ Hid (Pm X (insA X m k) a b)) (fun tk _ => (intOf tk).toNat)
      case atStart => exact ⟨m, hjb, Nat.le_refl _, rfl, by rw [insA_self]; exact hS, by rw [HW0.out]; exact World.grownBy.refl _ _, (by rw [insA_self]; exact Pm.refl _ _ _ : Pm _ _ _ _)⟩
      case round =>
        clear hS hG
        obtain ⟨k, hak, hkp, rfl, hS, hG, HP⟩ := hrel
        by_cases hk : i < k
        · have hki : (i : Int) < (k : Int) := by omega
          obtain ⟨q, hq⟩ : ∃ q, k = q + 1 := ⟨k - 1, by omega⟩
          have rq : (k : Int) - 1 = (q : Int) := by omega
          have HST : Hid (swI (insA X m k) k q = insA X m q) := by
            have := insA_step X m k (by omega) hkp
            have e : k - 1 = q := by omega
            rw [e] at this
            exact this
          have HPQ : Hid (Pm X (insA X m q) a b) := by
            have := HP.out.trans (Pm.swap (insA X m k) (a := a) (b := b) (i := k) (j := q) (by omega) (by omega) (by omega) (by omega))
            rw [HST.out] at this
            exact this
          have hqp : i ≤ q ∧ q ≤ m ∧ q < k ∧ q < n ∧ k < n := by omega
          have hwp : IntKind.i64.wrap (q : Int) = (q : Int) := by rw [IntKind.wrap_i64]; omega
          clear hq
          have HSW := hS.swap (i := k) (j := q) (by omega) (by omega)
          have HGW := swap_grown wr g (k * 4) (q * 4) ((insA X m k) q) ((insA X m k) k)
          obtain ⟨x0, x1, x2, x3⟩ := hS.it (k := k) (by omega)
          obtain ⟨y0, y1, y2, y3⟩ := hS.it (k := q) (by omega)
          have f0 := hS.free (k * 4); have f1 := hS.free (k * 4 + 1); have f2 := hS.free (k * 4 + 2); have f3 := hS.free (k * 4 + 3)
          have g0 := hS.free (q * 4); have g1 := hS.free (q * 4 + 1); have g2 := hS.free (q * 4 + 2); have g3 := hS.free (q * 4 + 3)
          have z0 : (k : Int) < (n : Int) := by omega
          have z1 : (q : Int) < (n : Int) := by omega
          have z2 : (0 : Int) ≤ (k : Int) := by omega
          have z3 : (0 : Int) ≤ (q : Int) := by omega
          have zpq : k ≠ q := by omega
          have HSS : Hid _ := HSW
          have HGG : Hid _ := HGW
          clear HSW HGW hS
          generalize (insA X m k) k = xx at *
          generalize (insA X m k) q = yy at *
          go_wp2_with fail
          go_region
          rw [HST.out] at HSS
          go_wp2
          go_roundw
          case rel => exact ⟨q, by omega, by omega, rfl, HSS.out.drew, grownBy_drew (grownBy_trans hG HGG.out), HPQ.out⟩
          case measure => simp [intOf]; omega
        · obtain rfl : k = i := by omega
          go_wp2
          refine bodyPost_ret (results_none rfl _ _ _) rfl ?_
          exact ⟨rfl, insA X m k, hS, grownBy_trans hG0 hG, HP.out, HSO.out⟩
end Go.Proofs.YtcifalelnfeggaaGreatDoor

namespace Go.Proofs.YtcifalelnfeggaaGreatDoor
open Go.RowKit
set_option linter.unusedVariables false

set_option maxHeartbeats 8000000 in
set_option maxRecDepth 100000 in
theorem sym_gen (g n cap a m b : Nat) (X : Nat → Im) (w : World) (h : Sr w g n X) (hg : g < w.heap.size) (hb : b ≤ n) (hl : n ≤ 100000) (ham : a + 1 < m) (hmb : m + 1 < b) (hr1 : so X a m) (hr2 : so X m b) (hs : sep X a m b)
    (IH : ∀ (a' m' b' : Nat) (X' : Nat → Im) (w' : World), b' - a' < b - a → Sr w' g n X' → g < w'.heap.size → b' ≤ n → a' < m' → m' < b' → so X' a' m' → so X' m' b' → sep X' a' m' b' → SymQ g n cap a' m' b' X' w') : SymQ g n cap a m b X w := by
  unfold SymQ
  obtain ⟨mid, hmid⟩ : ∃ mid, mid = (a + b) / 2 := ⟨_, rfl⟩
  have SY : Sy X a m b mid := ⟨by omega, by omega, hmid, hr1, hr2, hs⟩
  obtain ⟨b1, b2, b3, b4, hbc⟩ := SY.bounds
  have HSY : Hid (Sy X a m b mid) := SY
  have HIH : Hid _ := IH
  obtain ⟨N, hN⟩ : ∃ N, N = mid + m := ⟨_, rfl⟩
  have r0 : ¬ (m : Int) - (a : Int) = 1 := by omega
  have r0b : ((m : Int) - (a : Int) == 1) = false := by simpa using r0
  have r1 : ¬ (b : Int) - (m : Int) = 1 := by omega
  have r1b : ((b : Int) - (m : Int) == 1) = false := by simpa using r1
  have rm : ((a : Int) + (b : Int)) / 2 = (mid : Int) := by omega
  have rN : (mid : Int) + (m : Int) = (N : Int) := by omega
  obtain ⟨p, hp⟩ : ∃ p, p = mid + m - 1 := ⟨_, rfl⟩
  have rp : (N : Int) - 1 = (p : Int) := by omega
  obtain ⟨lo, hlo⟩ : ∃ lo, lo = slo a m b mid := ⟨_, rfl⟩
  obtain ⟨hi, hhi⟩ : ∃ hi, hi = shi m mid := ⟨_, rfl⟩
  have HMono : Hid (∀ c c', lo ≤ c' → c' ≤ c → c < hi → tst X p c' → tst X p c) := by rw [hlo, hhi, hp]; exact SY.mono
  have HBC : Hid (∀ c, lo ≤ c → c < hi → m ≤ p - c ∧ p - c < b ∧ a ≤ c ∧ c < m ∧ c ≤ p) := by
    intro c h1 h2
    rw [hlo] at h1
    rw [hhi] at h2
    have := hbc c h1 h2
    omega
  have HLH : Hid (a ≤ lo ∧ lo ≤ hi ∧ hi ≤ m ∧ hi ≤ mid) := by rw [hlo, hhi]; exact ⟨b1, b2, b3, b4⟩
  have HTN : Hid (∀ st, srch (tst X p) lo hi st st → _) := fun st hst => by rw [hlo, hhi, hp] at hst; exact SY.turned hst
  have HDF : Hid (N = mid + m ∧ mid = (a + b) / 2 ∧ (m > mid → lo = mid + m - b ∧ hi = mid) ∧ (¬ m > mid → lo = a ∧ hi = m)) := by
    refine ⟨hN, hmid, fun h => ?_, fun h => ?_⟩
    · rw [hlo, hhi]; unfold slo shi; rw [if_pos h, if_pos h]; exact ⟨rfl, rfl⟩
    · rw [hlo, hhi]; unfold slo shi; rw [if_neg h, if_neg h]; exact ⟨rfl, rfl⟩
  have hpn : p < 300000 ∧ N < 300000 ∧ mid < b ∧ a ≤ mid ∧ hi ≤ n ∧ lo ≤ hi := by omega
  clear SY IH hmid b1 b2 b3 b4 hbc hN hp hlo hhi
  go_enter Tryz.func158, Tryz.ntmps158
  by_cases hcm : mid < m
  · have hcmi : (mid : Int) < (m : Int) := by omega
    have rl : (N : Int) - (b : Int) = (lo : Int) := by have := HDF.out; omega
    have HRH : Hid (mid = hi) := by have := HDF.out; show _ = _; omega
    go_wp2_with fail
    go_loopw [20, 21] (fun ti tj wr => ∃ s r : Nat, lo ≤ s ∧ s ≤ r ∧ r ≤ hi ∧ ti = .int .i64 (s : Int) ∧ tj = .int .i64 (r : Int) ∧ Sr wr g n X ∧ g < wr.heap.size ∧ w.grownBy wr (some g) ∧ Hid (srch (tst X p) lo hi s r)) (fun ti tj _ => (intOf tj).toNat - (intOf ti).toNat)
    case atStart => exact ⟨lo, mid, by omega, by have := HRH.out; omega, by have := HRH.out; omega, rfl, rfl, h, hg, World.grownBy.refl _ _, (by rw [HRH.out]; exact ⟨Nat.le_refl _, by omega, Nat.le_refl _, fun c h1 h2 => by omega, fun c h1 h2 => by omega⟩ : srch _ _ _ _ _)⟩
    case round =>
      obtain ⟨s, r, hls, hsr, hrh, rfl, rfl, hS, hgw, hG, HS⟩ := hrel
      by_cases hlt : s < r
      · have hlti : (s : Int) < (r : Int) := by omega
        obtain ⟨c, hc⟩ : ∃ c, c = (s + r) / 2 := ⟨_, rfl⟩
        have rc : ((s : Int) + (r : Int)) / 2 = (c : Int) := by omega
        have hic : s ≤ c := by omega
        have hcj : c < r := by omega
        obtain ⟨q, hq⟩ : ∃ q, q = p - c := ⟨_, rfl⟩
        have hbc := HBC.out c (by omega) (by omega)
        have rq : (p : Int) - (c : Int) = (q : Int) := by omega
        have HQ : Hid (q = p - c) := hq
        have hqb : q < b ∧ c < m := by omega
        clear hc hq hbc
        have i1 := hS.it (k := q) (by omega)
        have i2 := hS.it (k := c) (by omega)
        have T0 := two_of i1 i2
        unfold Two at T0
        have z0 : (q : Int) < (n : Int) := by omega
        have z1 : (c : Int) < (n : Int) := by omega
        have z2 : (0 : Int) ≤ (q : Int) := by omega
        have z3 : (0 : Int) ≤ (c : Int) := by omega
        have hwp : IntKind.i64.wrap (q : Int) = (q : Int) := by rw [IntKind.wrap_i64]; omega
        have HC : Hid (∀ W, Below wr.heap.size wr W → Calls Tryz.prog 115 #[(X q).val, (X c).val] W fun e w' => e = .returned (.int .i64 (cmpV (X q) (X c))) ∧ Below wr.heap.size wr w') := fun W hW => (cmp_any (X q) (X c) W).mono fun e w' ⟨h1, h2⟩ => ⟨h1, hW.trans (h2.mono hW.size)⟩
        have HK : Hid (∀ W, Below wr.heap.size wr W → Two g q c (X q) (X c) W) := fun W hW => two_old (two_of i1 i2) hW
        unfold Two at HK
        unfold Im.val at HC
        have d1 : Below wr.heap.size wr wr.drew := (Below.refl _ _).drew
        have d0 : Below wr.heap.size wr wr := Below.refl _ _
        have HNEG : Hid (cmpV (X q) (X c) < 0 ↔ (X q).wt < (X c).wt) := cmpV_neg _ _
        have hbd := cmpV_bd (X q) (X c)
        generalize cmpV (X q) (X c) = cv at *
        clear i1 i2
        by_cases hcv : cv < 0
        · have HS2 : Hid (srch (tst X p) lo hi s c) := srch_down HS.out HMono.out hic hcj (by have := HNEG.out.1 hcv; unfold tst; rw [← HQ.out]; exact this)
          go_wp2_with fail
          go_region_held3 (fun w' => (w'.cell? ⟨g, q * 4, none⟩ = some (.int .i64 (X q).wt) ∧ w'.cell? ⟨g, q * 4 + 1, none⟩ = some (.int .i64 (X q).sy) ∧ w'.cell? ⟨g, q * 4 + 2, none⟩ = some (.pointer (X q).fs) ∧ w'.cell? ⟨g, q * 4 + 3, none⟩ = some (.pointer (X q).sn)) ∧ (w'.cell? ⟨g, c * 4, none⟩ = some (.int .i64 (X c).wt) ∧ w'.cell? ⟨g, c * 4 + 1, none⟩ = some (.int .i64 (X c).sy) ∧ w'.cell? ⟨g, c * 4 + 2, none⟩ = some (.pointer (X c).fs) ∧ w'.cell? ⟨g, c * 4 + 3, none⟩ = some (.pointer (X c).sn)))
            (first | go_keep | (exact HK.out _ (by assumption)))
            (first | (go_at_call 115; refine (HC.out _ (by assumption)).mono ?_; rintro e w7 ⟨rfl, b7⟩))
          have S7 := hS.old hgw b7
          have G7 : w.grownBy w7 (some g) := grownBy_trans hG (grown_old b7 _)
          have L7 : g < w7.heap.size := Nat.lt_of_lt_of_le hgw b7.size
          clear T0 HC HK d1 d0 b7
          go_wp2
          go_roundw
          case rel => exact ⟨s, c, hls, by omega, by omega, rfl, rfl, S7, L7, G7, HS2.out⟩
          case measure => simp [intOf]; omega
        · have hcd : decide (cv < 0) = false := decide_eq_false hcv
          have HS2 : Hid (srch (tst X p) lo hi (c + 1) r) := srch_up HS.out HMono.out hic hcj (by have := HNEG.out; unfold tst; rw [← HQ.out]; intro hh; exact hcv (this.2 hh))
          go_wp2_with fail
          go_region_held3 (fun w' => (w'.cell? ⟨g, q * 4, none⟩ = some (.int .i64 (X q).wt) ∧ w'.cell? ⟨g, q * 4 + 1, none⟩ = some (.int .i64 (X q).sy) ∧ w'.cell? ⟨g, q * 4 + 2, none⟩ = some (.pointer (X q).fs) ∧ w'.cell? ⟨g, q * 4 + 3, none⟩ = some (.pointer (X q).sn)) ∧ (w'.cell? ⟨g, c * 4, none⟩ = some (.int .i64 (X c).wt) ∧ w'.cell? ⟨g, c * 4 + 1, none⟩ = some (.int .i64 (X c).sy) ∧ w'.cell? ⟨g, c * 4 + 2, none⟩ = some (.pointer (X c).fs) ∧ w'.cell? ⟨g, c * 4 + 3, none⟩ = some (.pointer (X c).sn)))
            (first | go_keep | (exact HK.out _ (by assumption)))
            (first | (go_at_call 115; refine (HC.out _ (by assumption)).mono ?_; rintro e w7 ⟨rfl, b7⟩))
          have S7 := hS.old hgw b7
          have G7 : w.grownBy w7 (some g) := grownBy_trans hG (grown_old b7 _)
          have L7 : g < w7.heap.size := Nat.lt_of_lt_of_le hgw b7.size
          clear T0 HC HK d1 d0 b7
          go_wp2
          go_roundw
          case rel => exact ⟨c + 1, r, by omega, by omega, hrh, by go_num, rfl, S7, L7, G7, HS2.out⟩
          case measure => simp [intOf]; omega
      · obtain rfl : s = r := by omega
        obtain ⟨en, hen⟩ : ∃ en, en = mid + m - s := ⟨_, rfl⟩
        obtain ⟨t1, t2, t3, t4, t5, t6, ⟨l1', l2', l3'⟩, ⟨q1', q2', q3'⟩, cr'⟩ := HTN.out s HS.out
        rw [← hen] at t4 t5 t6 l1' l2' l3' q1' q2' q3' cr'
        have ren : (N : Int) - (s : Int) = (en : Int) := by have := HDF.out; omega
        have l1 : Hid _ := l1'
        have l2 : Hid _ := l2'
        have l3 : Hid _ := l3'
        have q1 : Hid _ := q1'
        have q2 : Hid _ := q2'
        have q3 : Hid _ := q3'
        have cr : Hid _ := cr'
        have hab4 : a + 4 ≤ b := by omega
        have hsm : a < mid ∧ mid + m = s + en := by have := HDF.out; omega
        clear l1' l2' l3' q1' q2' q3' cr' HS hen hlt HMono HBC HTN hr1 hr2 hs h
        by_cases cA : s < m ∧ s < mid
        · by_cases c2 : a < s
          · by_cases c3 : en < b
            · skip
              have k0 : (s : Int) < (m : Int) := by omega
              have k1 : (m : Int) < (en : Int) := by omega
              have k2 : (a : Int) < (s : Int) := by omega
              have k3 : (s : Int) < (mid : Int) := by omega
              have k4 : (mid : Int) < (en : Int) := by omega
              have k5 : (en : Int) < (b : Int) := by omega
              go_wp2_with fail
              refine (rotate_any g cap n s m en X wr hS (by omega) (by omega) (by omega) hl _).mono ?_
              rintro e w2 ⟨rfl, S2, G2', P2'⟩
              have G2 := grownBy_trans hG G2'
              have L2 : g < w2.heap.size := Nat.lt_of_lt_of_le hgw G2'.size
              have P2 : Hid (Pm X (rot X s m en) a b) := P2'.wide (by omega) (by omega) (by omega)
              clear G2' P2'
              generalize rot X s m en = Y at *
              have C1 := HIH.out a s mid Y w2 (by omega) S2 L2 (by omega) (by omega) (by omega) l1.out l2.out l3.out
              unfold SymQ at C1
              go_wp2_with fail
              refine C1.mono ?_
              rintro e w3 ⟨rfl, Y1, S3, G3', P3', so3'⟩
              have G3 := grownBy_trans G2 G3'
              have L3 : g < w3.heap.size := Nat.lt_of_lt_of_le L2 G3'.size
              have P3 : Hid (Pm Y Y1 a mid ∧ so Y1 a mid) := ⟨P3', so3'⟩
              clear G3' P3' so3' C1
              have l4 : Hid (so Y1 mid en) := fun i j h1 h2 h3 => by rw [P3.out.1.2 i (by omega), P3.out.1.2 j (by omega)]; exact q1.out i j h1 h2 h3
              have l5 : Hid (so Y1 en b) := fun i j h1 h2 h3 => by rw [P3.out.1.2 i (by omega), P3.out.1.2 j (by omega)]; exact q2.out i j h1 h2 h3
              have l6 : Hid (sep Y1 mid en b) := fun i j h1 h2 h3 h4 => by rw [P3.out.1.2 i (by omega), P3.out.1.2 j (by omega)]; exact q3.out i j h1 h2 h3 h4
              have C2 := HIH.out mid en b Y1 w3 (by omega) S3 L3 (by omega) (by omega) (by omega) l4.out l5.out l6.out
              unfold SymQ at C2
              go_wp2_with fail
              refine C2.mono ?_
              rintro e w4 ⟨rfl, Z, S4, G4', P4', so4'⟩
              have G4 := grownBy_trans G3 G4'
              have P4 : Hid (Pm Y1 Z mid b ∧ so Z mid b) := ⟨P4', so4'⟩
              clear G4' P4' so4' C2
              go_wp2
              go_end0
              exact ⟨rfl, Z, S4, G4, (P2.out.trans (P3.out.1.wide (Nat.le_refl _) (by omega) (by omega))).trans (P4.out.1.wide (by omega) (by omega) (Nat.le_refl _)), so_join (by omega) (by omega) P3.out.1 P3.out.2 P4.out.1 P4.out.2 cr.out⟩
            · skip
              have k0 : (s : Int) < (m : Int) := by omega
              have k1 : (m : Int) < (en : Int) := by omega
              have k2 : (a : Int) < (s : Int) := by omega
              have k3 : (s : Int) < (mid : Int) := by omega
              have k4 : (mid : Int) < (en : Int) := by omega
              have k5 : ¬ (en : Int) < (b : Int) := by omega
              go_wp2_with fail
              refine (rotate_any g cap n s m en X wr hS (by omega) (by omega) (by omega) hl _).mono ?_
              rintro e w2 ⟨rfl, S2, G2', P2'⟩
              have G2 := grownBy_trans hG G2'
              have L2 : g < w2.heap.size := Nat.lt_of_lt_of_le hgw G2'.size
              have P2 : Hid (Pm X (rot X s m en) a b) := P2'.wide (by omega) (by omega) (by omega)
              clear G2' P2'
              generalize rot X s m en = Y at *
              have C1 := HIH.out a s mid Y w2 (by omega) S2 L2 (by omega) (by omega) (by omega) l1.out l2.out l3.out
              unfold SymQ at C1
              go_wp2_with fail
              refine C1.mono ?_
              rintro e w3 ⟨rfl, Y1, S3, G3', P3', so3'⟩
              have G3 := grownBy_trans G2 G3'
              have L3 : g < w3.heap.size := Nat.lt_of_lt_of_le L2 G3'.size
              have P3 : Hid (Pm Y Y1 a mid ∧ so Y1 a mid) := ⟨P3', so3'⟩
              clear G3' P3' so3' C1
              have l4 : Hid (so Y1 mid en) := fun i j h1 h2 h3 => by rw [P3.out.1.2 i (by omega), P3.out.1.2 j (by omega)]; exact q1.out i j h1 h2 h3
              have l5 : Hid (so Y1 en b) := fun i j h1 h2 h3 => by rw [P3.out.1.2 i (by omega), P3.out.1.2 j (by omega)]; exact q2.out i j h1 h2 h3
              have l6 : Hid (sep Y1 mid en b) := fun i j h1 h2 h3 h4 => by rw [P3.out.1.2 i (by omega), P3.out.1.2 j (by omega)]; exact q3.out i j h1 h2 h3 h4
              obtain ⟨Z, hZ⟩ : ∃ Z, Z = Y1 := ⟨_, rfl⟩
              have S4 : Sr w3 g n Z := by rw [hZ]; exact S3
              have G4 := G3
              have P4 : Hid (Pm Y1 Z mid b ∧ so Z mid b) := by rw [hZ]; exact ⟨Pm.refl _ _ _, by have e : en = b := (by omega); rw [← e]; exact l4.out⟩
              clear hZ
              go_wp2
              go_end0
              exact ⟨rfl, Z, S4, G4, (P2.out.trans (P3.out.1.wide (Nat.le_refl _) (by omega) (by omega))).trans (P4.out.1.wide (by omega) (by omega) (Nat.le_refl _)), so_join (by omega) (by omega) P3.out.1 P3.out.2 P4.out.1 P4.out.2 cr.out⟩
          · have EAS : Hid (s = a) := by show _ = _; omega
            by_cases c3 : en < b
            · skip
              have k0 : (s : Int) < (m : Int) := by omega
              have k1 : (m : Int) < (en : Int) := by omega
              have k2 : ¬ (a : Int) < (s : Int) := by omega
              have k3 : (mid : Int) < (en : Int) := by omega
              have k4 : (en : Int) < (b : Int) := by omega
              go_wp2_with fail
              refine (rotate_any g cap n s m en X wr hS (by omega) (by omega) (by omega) hl _).mono ?_
              rintro e w2 ⟨rfl, S2, G2', P2'⟩
              have G2 := grownBy_trans hG G2'
              have L2 : g < w2.heap.size := Nat.lt_of_lt_of_le hgw G2'.size
              have P2 : Hid (Pm X (rot X s m en) a b) := P2'.wide (by omega) (by omega) (by omega)
              clear G2' P2'
              generalize rot X s m en = Y at *
              obtain ⟨Y1, hY1⟩ : ∃ Y1, Y1 = Y := ⟨_, rfl⟩
              have S3 : Sr w2 g n Y1 := by rw [hY1]; exact S2
              have G3 := G2
              have L3 := L2
              have P3 : Hid (Pm Y Y1 a mid ∧ so Y1 a mid) := by rw [hY1]; exact ⟨Pm.refl _ _ _, by have l2x := l2.out; rw [EAS.out] at l2x; exact l2x⟩
              clear hY1
              have l4 : Hid (so Y1 mid en) := fun i j h1 h2 h3 => by rw [P3.out.1.2 i (by omega), P3.out.1.2 j (by omega)]; exact q1.out i j h1 h2 h3
              have l5 : Hid (so Y1 en b) := fun i j h1 h2 h3 => by rw [P3.out.1.2 i (by omega), P3.out.1.2 j (by omega)]; exact q2.out i j h1 h2 h3
              have l6 : Hid (sep Y1 mid en b) := fun i j h1 h2 h3 h4 => by rw [P3.out.1.2 i (by omega), P3.out.1.2 j (by omega)]; exact q3.out i j h1 h2 h3 h4
              have C2 := HIH.out mid en b Y1 w2 (by omega) S3 L3 (by omega) (by omega) (by omega) l4.out l5.out l6.out
              unfold SymQ at C2
              go_wp2_with fail
              refine C2.mono ?_
              rintro e w4 ⟨rfl, Z, S4, G4', P4', so4'⟩
              have G4 := grownBy_trans G3 G4'
              have P4 : Hid (Pm Y1 Z mid b ∧ so Z mid b) := ⟨P4', so4'⟩
              clear G4' P4' so4' C2
              go_wp2
              go_end0
              exact ⟨rfl, Z, S4, G4, (P2.out.trans (P3.out.1.wide (Nat.le_refl _) (by omega) (by omega))).trans (P4.out.1.wide (by omega) (by omega) (Nat.le_refl _)), so_join (by omega) (by omega) P3.out.1 P3.out.2 P4.out.1 P4.out.2 cr.out⟩
            · skip
              have k0 : (s : Int) < (m : Int) := by omega
              have k1 : (m : Int) < (en : Int) := by omega
              have k2 : ¬ (a : Int) < (s : Int) := by omega
              have k3 : (mid : Int) < (en : Int) := by omega
              have k4 : ¬ (en : Int) < (b : Int) := by omega
              go_wp2_with fail
              refine (rotate_any g cap n s m en X wr hS (by omega) (by omega) (by omega) hl _).mono ?_
              rintro e w2 ⟨rfl, S2, G2', P2'⟩
              have G2 := grownBy_trans hG G2'
              have L2 : g < w2.heap.size := Nat.lt_of_lt_of_le hgw G2'.size
              have P2 : Hid (Pm X (rot X s m en) a b) := P2'.wide (by omega) (by omega) (by omega)
              clear G2' P2'
              generalize rot X s m en = Y at *
              obtain ⟨Y1, hY1⟩ : ∃ Y1, Y1 = Y := ⟨_, rfl⟩
              have S3 : Sr w2 g n Y1 := by rw [hY1]; exact S2
              have G3 := G2
              have L3 := L2
              have P3 : Hid (Pm Y Y1 a mid ∧ so Y1 a mid) := by rw [hY1]; exact ⟨Pm.refl _ _ _, by have l2x := l2.out; rw [EAS.out] at l2x; exact l2x⟩
              clear hY1
              have l4 : Hid (so Y1 mid en) := fun i j h1 h2 h3 => by rw [P3.out.1.2 i (by omega), P3.out.1.2 j (by omega)]; exact q1.out i j h1 h2 h3
              have l5 : Hid (so Y1 en b) := fun i j h1 h2 h3 => by rw [P3.out.1.2 i (by omega), P3.out.1.2 j (by omega)]; exact q2.out i j h1 h2 h3
              have l6 : Hid (sep Y1 mid en b) := fun i j h1 h2 h3 h4 => by rw [P3.out.1.2 i (by omega), P3.out.1.2 j (by omega)]; exact q3.out i j h1 h2 h3 h4
              obtain ⟨Z, hZ⟩ : ∃ Z, Z = Y1 := ⟨_, rfl⟩
              have S4 : Sr w2 g n Z := by rw [hZ]; exact S3
              have G4 := G3
              have P4 : Hid (Pm Y1 Z mid b ∧ so Z mid b) := by rw [hZ]; exact ⟨Pm.refl _ _ _, by have e : en = b := (by omega); rw [← e]; exact l4.out⟩
              clear hZ
              go_wp2
              go_end0
              exact ⟨rfl, Z, S4, G4, (P2.out.trans (P3.out.1.wide (Nat.le_refl _) (by omega) (by omega))).trans (P4.out.1.wide (by omega) (by omega) (Nat.le_refl _)), so_join (by omega) (by omega) P3.out.1 P3.out.2 P4.out.1 P4.out.2 cr.out⟩
        · have ESM : Hid (s = mid) := by have := HLH.out; have := HRH.out; show _ = _; omega
          have EEN : Hid (en = m) := by have := ESM.out; show _ = _; omega
          have k0 : (s : Int) < (m : Int) := by omega
          have k1 : ¬ (m : Int) < (en : Int) := by omega
          have k2 : (a : Int) < (s : Int) := by omega
          have k3 : ¬ (s : Int) < (mid : Int) := by omega
          have k4 : (mid : Int) < (en : Int) := by omega
          have k5 : (en : Int) < (b : Int) := by omega
          have hrx : rot X s m en = X := by rw [EEN.out]; exact rot_right X s m
          have S2 : Sr wr g n (rot X s m en) := by rw [hrx]; exact hS
          have G2 := hG
          have L2 := hgw
          have P2 : Hid (Pm X (rot X s m en) a b) := by rw [hrx]; exact Pm.refl _ _ _
          clear hrx
          generalize rot X s m en = Y at *
          obtain ⟨Y1, hY1⟩ : ∃ Y1, Y1 = Y := ⟨_, rfl⟩
          have S3 : Sr wr g n Y1 := by rw [hY1]; exact S2
          have G3 := G2
          have L3 := L2
          have P3 : Hid (Pm Y Y1 a mid ∧ so Y1 a mid) := by rw [hY1]; exact ⟨Pm.refl _ _ _, by have l1x := l1.out; rw [ESM.out] at l1x; exact l1x⟩
          clear hY1
          have l4 : Hid (so Y1 mid en) := fun i j h1 h2 h3 => by rw [P3.out.1.2 i (by omega), P3.out.1.2 j (by omega)]; exact q1.out i j h1 h2 h3
          have l5 : Hid (so Y1 en b) := fun i j h1 h2 h3 => by rw [P3.out.1.2 i (by omega), P3.out.1.2 j (by omega)]; exact q2.out i j h1 h2 h3
          have l6 : Hid (sep Y1 mid en b) := fun i j h1 h2 h3 h4 => by rw [P3.out.1.2 i (by omega), P3.out.1.2 j (by omega)]; exact q3.out i j h1 h2 h3 h4
          have C2 := HIH.out mid en b Y1 wr (by omega) S3 L3 (by omega) (by omega) (by omega) l4.out l5.out l6.out
          unfold SymQ at C2
          go_wp2_with fail
          refine C2.mono ?_
          rintro e w4 ⟨rfl, Z, S4, G4', P4', so4'⟩
          have G4 := grownBy_trans G3 G4'
          have P4 : Hid (Pm Y1 Z mid b ∧ so Z mid b) := ⟨P4', so4'⟩
          clear G4' P4' so4' C2
          go_wp2
          go_end0
          exact ⟨rfl, Z, S4, G4, (P2.out.trans (P3.out.1.wide (Nat.le_refl _) (by omega) (by omega))).trans (P4.out.1.wide (by omega) (by omega) (Nat.le_refl _)), so_join (by omega) (by omega) P3.out.1 P3.out.2 P4.out.1 P4.out.2 cr.out⟩
  · have hcmi : ¬ (mid : Int) < (m : Int) := by omega
    have HRH : Hid (m = hi) := by have := HDF.out; show _ = _; omega
    have HRL : Hid (a = lo) := by have := HDF.out; show _ = _; omega
    go_wp2_with fail
    go_loopw [20, 21] (fun ti tj wr => ∃ s r : Nat, lo ≤ s ∧ s ≤ r ∧ r ≤ hi ∧ ti = .int .i64 (s : Int) ∧ tj = .int .i64 (r : Int) ∧ Sr wr g n X ∧ g < wr.heap.size ∧ w.grownBy wr (some g) ∧ Hid (srch (tst X p) lo hi s r)) (fun ti tj _ => (intOf tj).toNat - (intOf ti).toNat)
    case atStart => exact ⟨a, m, by have := HRL.out; omega, by have := HRH.out; have := HRL.out; omega, by have := HRH.out; omega, rfl, rfl, h, hg, World.grownBy.refl _ _, (by rw [HRL.out, HRH.out]; have := hpn; exact ⟨Nat.le_refl _, by omega, Nat.le_refl _, fun c h1 h2 => by omega, fun c h1 h2 => by omega⟩ : srch _ _ _ _ _)⟩
    case round =>
      obtain ⟨s, r, hls, hsr, hrh, rfl, rfl, hS, hgw, hG, HS⟩ := hrel
      by_cases hlt : s < r
      · have hlti : (s : Int) < (r : Int) := by omega
        obtain ⟨c, hc⟩ : ∃ c, c = (s + r) / 2 := ⟨_, rfl⟩
        have rc : ((s : Int) + (r : Int)) / 2 = (c : Int) := by omega
        have hic : s ≤ c := by omega
        have hcj : c < r := by omega
        obtain ⟨q, hq⟩ : ∃ q, q = p - c := ⟨_, rfl⟩
        have hbc := HBC.out c (by omega) (by omega)
        have rq : (p : Int) - (c : Int) = (q : Int) := by omega
        have HQ : Hid (q = p - c) := hq
        have hqb : q < b ∧ c < m := by omega
        clear hc hq hbc
        have i1 := hS.it (k := q) (by omega)
        have i2 := hS.it (k := c) (by omega)
        have T0 := two_of i1 i2
        unfold Two at T0
        have z0 : (q : Int) < (n : Int) := by omega
        have z1 : (c : Int) < (n : Int) := by omega
        have z2 : (0 : Int) ≤ (q : Int) := by omega
        have z3 : (0 : Int) ≤ (c : Int) := by omega
        have hwp : IntKind.i64.wrap (q : Int) = (q : Int) := by rw [IntKind.wrap_i64]; omega
        have HC : Hid (∀ W, Below wr.heap.size wr W → Calls Tryz.prog 115 #[(X q).val, (X c).val] W fun e w' => e = .returned (.int .i64 (cmpV (X q) (X c))) ∧ Below wr.heap.size wr w') := fun W hW => (cmp_any (X q) (X c) W).mono fun e w' ⟨h1, h2⟩ => ⟨h1, hW.trans (h2.mono hW.size)⟩
        have HK : Hid (∀ W, Below wr.heap.size wr W → Two g q c (X q) (X c) W) := fun W hW => two_old (two_of i1 i2) hW
        unfold Two at HK
        unfold Im.val at HC
        have d1 : Below wr.heap.size wr wr.drew := (Below.refl _ _).drew
        have d0 : Below wr.heap.size wr wr := Below.refl _ _
        have HNEG : Hid (cmpV (X q) (X c) < 0 ↔ (X q).wt < (X c).wt) := cmpV_neg _ _
        have hbd := cmpV_bd (X q) (X c)
        generalize cmpV (X q) (X c) = cv at *
        clear i1 i2
        by_cases hcv : cv < 0
        · have HS2 : Hid (srch (tst X p) lo hi s c) := srch_down HS.out HMono.out hic hcj (by have := HNEG.out.1 hcv; unfold tst; rw [← HQ.out]; exact this)
          go_wp2_with fail
          go_region_held3 (fun w' => (w'.cell? ⟨g, q * 4, none⟩ = some (.int .i64 (X q).wt) ∧ w'.cell? ⟨g, q * 4 + 1, none⟩ = some (.int .i64 (X q).sy) ∧ w'.cell? ⟨g, q * 4 + 2, none⟩ = some (.pointer (X q).fs) ∧ w'.cell? ⟨g, q * 4 + 3, none⟩ = some (.pointer (X q).sn)) ∧ (w'.cell? ⟨g, c * 4, none⟩ = some (.int .i64 (X c).wt) ∧ w'.cell? ⟨g, c * 4 + 1, none⟩ = some (.int .i64 (X c).sy) ∧ w'.cell? ⟨g, c * 4 + 2, none⟩ = some (.pointer (X c).fs) ∧ w'.cell? ⟨g, c * 4 + 3, none⟩ = some (.pointer (X c).sn)))
            (first | go_keep | (exact HK.out _ (by assumption)))
            (first | (go_at_call 115; refine (HC.out _ (by assumption)).mono ?_; rintro e w7 ⟨rfl, b7⟩))
          have S7 := hS.old hgw b7
          have G7 : w.grownBy w7 (some g) := grownBy_trans hG (grown_old b7 _)
          have L7 : g < w7.heap.size := Nat.lt_of_lt_of_le hgw b7.size
          clear T0 HC HK d1 d0 b7
          go_wp2
          go_roundw
          case rel => exact ⟨s, c, hls, by omega, by omega, rfl, rfl, S7, L7, G7, HS2.out⟩
          case measure => simp [intOf]; omega
        · have hcd : decide (cv < 0) = false := decide_eq_false hcv
          have HS2 : Hid (srch (tst X p) lo hi (c + 1) r) := srch_up HS.out HMono.out hic hcj (by have := HNEG.out; unfold tst; rw [← HQ.out]; intro hh; exact hcv (this.2 hh))
          go_wp2_with fail
          go_region_held3 (fun w' => (w'.cell? ⟨g, q * 4, none⟩ = some (.int .i64 (X q).wt) ∧ w'.cell? ⟨g, q * 4 + 1, none⟩ = some (.int .i64 (X q).sy) ∧ w'.cell? ⟨g, q * 4 + 2, none⟩ = some (.pointer (X q).fs) ∧ w'.cell? ⟨g, q * 4 + 3, none⟩ = some (.pointer (X q).sn)) ∧ (w'.cell? ⟨g, c * 4, none⟩ = some (.int .i64 (X c).wt) ∧ w'.cell? ⟨g, c * 4 + 1, none⟩ = some (.int .i64 (X c).sy) ∧ w'.cell? ⟨g, c * 4 + 2, none⟩ = some (.pointer (X c).fs) ∧ w'.cell? ⟨g, c * 4 + 3, none⟩ = some (.pointer (X c).sn)))
            (first | go_keep | (exact HK.out _ (by assumption)))
            (first | (go_at_call 115; refine (HC.out _ (by assumption)).mono ?_; rintro e w7 ⟨rfl, b7⟩))
          have S7 := hS.old hgw b7
          have G7 : w.grownBy w7 (some g) := grownBy_trans hG (grown_old b7 _)
          have L7 : g < w7.heap.size := Nat.lt_of_lt_of_le hgw b7.size
          clear T0 HC HK d1 d0 b7
          go_wp2
          go_roundw
          case rel => exact ⟨c + 1, r, by omega, by omega, hrh, by go_num, rfl, S7, L7, G7, HS2.out⟩
          case measure => simp [intOf]; omega
      · obtain rfl : s = r := by omega
        obtain ⟨en, hen⟩ : ∃ en, en = mid + m - s := ⟨_, rfl⟩
        obtain ⟨t1, t2, t3, t4, t5, t6, ⟨l1', l2', l3'⟩, ⟨q1', q2', q3'⟩, cr'⟩ := HTN.out s HS.out
        rw [← hen] at t4 t5 t6 l1' l2' l3' q1' q2' q3' cr'
        have ren : (N : Int) - (s : Int) = (en : Int) := by have := HDF.out; omega
        have l1 : Hid _ := l1'
        have l2 : Hid _ := l2'
        have l3 : Hid _ := l3'
        have q1 : Hid _ := q1'
        have q2 : Hid _ := q2'
        have q3 : Hid _ := q3'
        have cr : Hid _ := cr'
        have hab4 : a + 4 ≤ b := by omega
        have hsm : a < mid ∧ mid + m = s + en := by have := HDF.out; omega
        clear l1' l2' l3' q1' q2' q3' cr' HS hen hlt HMono HBC HTN hr1 hr2 hs h
        by_cases cA : s < m ∧ s < mid
        · by_cases c2 : a < s
          · by_cases c3 : en < b
            · skip
              have k0 : (s : Int) < (m : Int) := by omega
              have k1 : (m : Int) < (en : Int) := by omega
              have k2 : (a : Int) < (s : Int) := by omega
              have k3 : (s : Int) < (mid : Int) := by omega
              have k4 : (mid : Int) < (en : Int) := by omega
              have k5 : (en : Int) < (b : Int) := by omega
              go_wp2_with fail
              refine (rotate_any g cap n s m en X wr hS (by omega) (by omega) (by omega) hl _).mono ?_
              rintro e w2 ⟨rfl, S2, G2', P2'⟩
              have G2 := grownBy_trans hG G2'
              have L2 : g < w2.heap.size := Nat.lt_of_lt_of_le hgw G2'.size
              have P2 : Hid (Pm X (rot X s m en) a b) := P2'.wide (by omega) (by omega) (by omega)
              clear G2' P2'
              generalize rot X s m en = Y at *
              have C1 := HIH.out a s mid Y w2 (by omega) S2 L2 (by omega) (by omega) (by omega) l1.out l2.out l3.out
              unfold SymQ at C1
              go_wp2_with fail
              refine C1.mono ?_
              rintro e w3 ⟨rfl, Y1, S3, G3', P3', so3'⟩
              have G3 := grownBy_trans G2 G3'
              have L3 : g < w3.heap.size := Nat.lt_of_lt_of_le L2 G3'.size
              have P3 : Hid (Pm Y Y1 a mid ∧ so Y1 a mid) := ⟨P3', so3'⟩
              clear G3' P3' so3' C1
              have l4 : Hid (so Y1 mid en) := fun i j h1 h2 h3 => by rw [P3.out.1.2 i (by omega), P3.out.1.2 j (by omega)]; exact q1.out i j h1 h2 h3
              have l5 : Hid (so Y1 en b) := fun i j h1 h2 h3 => by rw [P3.out.1.2 i (by omega), P3.out.1.2 j (by omega)]; exact q2.out i j h1 h2 h3
              have l6 : Hid (sep Y1 mid en b) := fun i j h1 h2 h3 h4 => by rw [P3.out.1.2 i (by omega), P3.out.1.2 j (by omega)]; exact q3.out i j h1 h2 h3 h4
              have C2 := HIH.out mid en b Y1 w3 (by omega) S3 L3 (by omega) (by omega) (by omega) l4.out l5.out l6.out
              unfold SymQ at C2
              go_wp2_with fail
              refine C2.mono ?_
              rintro e w4 ⟨rfl, Z, S4, G4', P4', so4'⟩
              have G4 := grownBy_trans G3 G4'
              have P4 : Hid (Pm Y1 Z mid b ∧ so Z mid b) := ⟨P4', so4'⟩
              clear G4' P4' so4' C2
              go_wp2
              go_end0
              exact ⟨rfl, Z, S4, G4, (P2.out.trans (P3.out.1.wide (Nat.le_refl _) (by omega) (by omega))).trans (P4.out.1.wide (by omega) (by omega) (Nat.le_refl _)), so_join (by omega) (by omega) P3.out.1 P3.out.2 P4.out.1 P4.out.2 cr.out⟩
            · skip
              have k0 : (s : Int) < (m : Int) := by omega
              have k1 : (m : Int) < (en : Int) := by omega
              have k2 : (a : Int) < (s : Int) := by omega
              have k3 : (s : Int) < (mid : Int) := by omega
              have k4 : (mid : Int) < (en : Int) := by omega
              have k5 : ¬ (en : Int) < (b : Int) := by omega
              go_wp2_with fail
              refine (rotate_any g cap n s m en X wr hS (by omega) (by omega) (by omega) hl _).mono ?_
              rintro e w2 ⟨rfl, S2, G2', P2'⟩
              have G2 := grownBy_trans hG G2'
              have L2 : g < w2.heap.size := Nat.lt_of_lt_of_le hgw G2'.size
              have P2 : Hid (Pm X (rot X s m en) a b) := P2'.wide (by omega) (by omega) (by omega)
              clear G2' P2'
              generalize rot X s m en = Y at *
              have C1 := HIH.out a s mid Y w2 (by omega) S2 L2 (by omega) (by omega) (by omega) l1.out l2.out l3.out
              unfold SymQ at C1
              go_wp2_with fail
              refine C1.mono ?_
              rintro e w3 ⟨rfl, Y1, S3, G3', P3', so3'⟩
              have G3 := grownBy_trans G2 G3'
              have L3 : g < w3.heap.size := Nat.lt_of_lt_of_le L2 G3'.size
              have P3 : Hid (Pm Y Y1 a mid ∧ so Y1 a mid) := ⟨P3', so3'⟩
              clear G3' P3' so3' C1
              have l4 : Hid (so Y1 mid en) := fun i j h1 h2 h3 => by rw [P3.out.1.2 i (by omega), P3.out.1.2 j (by omega)]; exact q1.out i j h1 h2 h3
              have l5 : Hid (so Y1 en b) := fun i j h1 h2 h3 => by rw [P3.out.1.2 i (by omega), P3.out.1.2 j (by omega)]; exact q2.out i j h1 h2 h3
              have l6 : Hid (sep Y1 mid en b) := fun i j h1 h2 h3 h4 => by rw [P3.out.1.2 i (by omega), P3.out.1.2 j (by omega)]; exact q3.out i j h1 h2 h3 h4
              obtain ⟨Z, hZ⟩ : ∃ Z, Z = Y1 := ⟨_, rfl⟩
              have S4 : Sr w3 g n Z := by rw [hZ]; exact S3
              have G4 := G3
              have P4 : Hid (Pm Y1 Z mid b ∧ so Z mid b) := by rw [hZ]; exact ⟨Pm.refl _ _ _, by have e : en = b := (by omega); rw [← e]; exact l4.out⟩
              clear hZ
              go_wp2
              go_end0
              exact ⟨rfl, Z, S4, G4, (P2.out.trans (P3.out.1.wide (Nat.le_refl _) (by omega) (by omega))).trans (P4.out.1.wide (by omega) (by omega) (Nat.le_refl _)), so_join (by omega) (by omega) P3.out.1 P3.out.2 P4.out.1 P4.out.2 cr.out⟩
          · have EAS : Hid (s = a) := by show _ = _; omega
            by_cases c3 : en < b
            · skip
              have k0 : (s : Int) < (m : Int) := by omega
              have k1 : (m : Int) < (en : Int) := by omega
              have k2 : ¬ (a : Int) < (s : Int) := by omega
              have k3 : (mid : Int) < (en : Int) := by omega
              have k4 : (en : Int) < (b : Int) := by omega
              go_wp2_with fail
              refine (rotate_any g cap n s m en X wr hS (by omega) (by omega) (by omega) hl _).mono ?_
              rintro e w2 ⟨rfl, S2, G2', P2'⟩
              have G2 := grownBy_trans hG G2'
              have L2 : g < w2.heap.size := Nat.lt_of_lt_of_le hgw G2'.size
              have P2 : Hid (Pm X (rot X s m en) a b) := P2'.wide (by omega) (by omega) (by omega)
              clear G2' P2'
              generalize rot X s m en = Y at *
              obtain ⟨Y1, hY1⟩ : ∃ Y1, Y1 = Y := ⟨_, rfl⟩
              have S3 : Sr w2 g n Y1 := by rw [hY1]; exact S2
              have G3 := G2
              have L3 := L2
              have P3 : Hid (Pm Y Y1 a mid ∧ so Y1 a mid) := by rw [hY1]; exact ⟨Pm.refl _ _ _, by have l2x := l2.out; rw [EAS.out] at l2x; exact l2x⟩
              clear hY1
              have l4 : Hid (so Y1 mid en) := fun i j h1 h2 h3 => by rw [P3.out.1.2 i (by omega), P3.out.1.2 j (by omega)]; exact q1.out i j h1 h2 h3
              have l5 : Hid (so Y1 en b) := fun i j h1 h2 h3 => by rw [P3.out.1.2 i (by omega), P3.out.1.2 j (by omega)]; exact q2.out i j h1 h2 h3
              have l6 : Hid (sep Y1 mid en b) := fun i j h1 h2 h3 h4 => by rw [P3.out.1.2 i (by omega), P3.out.1.2 j (by omega)]; exact q3.out i j h1 h2 h3 h4
              have C2 := HIH.out mid en b Y1 w2 (by omega) S3 L3 (by omega) (by omega) (by omega) l4.out l5.out l6.out
              unfold SymQ at C2
              go_wp2_with fail
              refine C2.mono ?_
              rintro e w4 ⟨rfl, Z, S4, G4', P4', so4'⟩
              have G4 := grownBy_trans G3 G4'
              have P4 : Hid (Pm Y1 Z mid b ∧ so Z mid b) := ⟨P4', so4'⟩
              clear G4' P4' so4' C2
              go_wp2
              go_end0
              exact ⟨rfl, Z, S4, G4, (P2.out.trans (P3.out.1.wide (Nat.le_refl _) (by omega) (by omega))).trans (P4.out.1.wide (by omega) (by omega) (Nat.le_refl _)), so_join (by omega) (by omega) P3.out.1 P3.out.2 P4.out.1 P4.out.2 cr.out⟩
            · skip
              have k0 : (s : Int) < (m : Int) := by omega
              have k1 : (m : Int) < (en : Int) := by omega
              have k2 : ¬ (a : Int) < (s : Int) := by omega
              have k3 : (mid : Int) < (en : Int) := by omega
              have k4 : ¬ (en : Int) < (b : Int) := by omega
              go_wp2_with fail
              refine (rotate_any g cap n s m en X wr hS (by omega) (by omega) (by omega) hl _).mono ?_
              rintro e w2 ⟨rfl, S2, G2', P2'⟩
              have G2 := grownBy_trans hG G2'
              have L2 : g < w2.heap.size := Nat.lt_of_lt_of_le hgw G2'.size
              have P2 : Hid (Pm X (rot X s m en) a b) := P2'.wide (by omega) (by omega) (by omega)
              clear G2' P2'
              generalize rot X s m en = Y at *
              obtain ⟨Y1, hY1⟩ : ∃ Y1, Y1 = Y := ⟨_, rfl⟩
              have S3 : Sr w2 g n Y1 := by rw [hY1]; exact S2
              have G3 := G2
              have L3 := L2
              have P3 : Hid (Pm Y Y1 a mid ∧ so Y1 a mid) := by rw [hY1]; exact ⟨Pm.refl _ _ _, by have l2x := l2.out; rw [EAS.out] at l2x; exact l2x⟩
              clear hY1
              have l4 : Hid (so Y1 mid en) := fun i j h1 h2 h3 => by rw [P3.out.1.2 i (by omega), P3.out.1.2 j (by omega)]; exact q1.out i j h1 h2 h3
              have l5 : Hid (so Y1 en b) := fun i j h1 h2 h3 => by rw [P3.out.1.2 i (by omega), P3.out.1.2 j (by omega)]; exact q2.out i j h1 h2 h3
              have l6 : Hid (sep Y1 mid en b) := fun i j h1 h2 h3 h4 => by rw [P3.out.1.2 i (by omega), P3.out.1.2 j (by omega)]; exact q3.out i j h1 h2 h3 h4
              obtain ⟨Z, hZ⟩ : ∃ Z, Z = Y1 := ⟨_, rfl⟩
              have S4 : Sr w2 g n Z := by rw [hZ]; exact S3
              have G4 := G3
              have P4 : Hid (Pm Y1 Z mid b ∧ so Z mid b) := by rw [hZ]; exact ⟨Pm.refl _ _ _, by have e : en = b := (by omega); rw [← e]; exact l4.out⟩
              clear hZ
              go_wp2
              go_end0
              exact ⟨rfl, Z, S4, G4, (P2.out.trans (P3.out.1.wide (Nat.le_refl _) (by omega) (by omega))).trans (P4.out.1.wide (by omega) (by omega) (Nat.le_refl _)), so_join (by omega) (by omega) P3.out.1 P3.out.2 P4.out.1 P4.out.2 cr.out⟩
        · have ESM : Hid (s = m) := by have := HLH.out; have := HRH.out; show _ = _; omega
          have EEN : Hid (en = mid) := by have := ESM.out; show _ = _; omega
          by_cases c2 : s < mid
          · skip
            have k0 : ¬ (s : Int) < (m : Int) := by omega
            have k1 : (a : Int) < (s : Int) := by omega
            have k2 : (s : Int) < (mid : Int) := by omega
            have k3 : ¬ (mid : Int) < (en : Int) := by omega
            have hrx : rot X s m en = X := by rw [ESM.out]; exact rot_left X m en
            have S2 : Sr wr g n (rot X s m en) := by rw [hrx]; exact hS
            have G2 := hG
            have L2 := hgw
            have P2 : Hid (Pm X (rot X s m en) a b) := by rw [hrx]; exact Pm.refl _ _ _
            clear hrx
            generalize rot X s m en = Y at *
            have C1 := HIH.out a s mid Y wr (by omega) S2 L2 (by omega) (by omega) (by omega) l1.out l2.out l3.out
            unfold SymQ at C1
            go_wp2_with fail
            refine C1.mono ?_
            rintro e w3 ⟨rfl, Y1, S3, G3', P3', so3'⟩
            have G3 := grownBy_trans G2 G3'
            have L3 : g < w3.heap.size := Nat.lt_of_lt_of_le L2 G3'.size
            have P3 : Hid (Pm Y Y1 a mid ∧ so Y1 a mid) := ⟨P3', so3'⟩
            clear G3' P3' so3' C1
            have l4 : Hid (so Y1 mid en) := fun i j h1 h2 h3 => by rw [P3.out.1.2 i (by omega), P3.out.1.2 j (by omega)]; exact q1.out i j h1 h2 h3
            have l5 : Hid (so Y1 en b) := fun i j h1 h2 h3 => by rw [P3.out.1.2 i (by omega), P3.out.1.2 j (by omega)]; exact q2.out i j h1 h2 h3
            have l6 : Hid (sep Y1 mid en b) := fun i j h1 h2 h3 h4 => by rw [P3.out.1.2 i (by omega), P3.out.1.2 j (by omega)]; exact q3.out i j h1 h2 h3 h4
            obtain ⟨Z, hZ⟩ : ∃ Z, Z = Y1 := ⟨_, rfl⟩
            have S4 : Sr w3 g n Z := by rw [hZ]; exact S3
            have G4 := G3
            have P4 : Hid (Pm Y1 Z mid b ∧ so Z mid b) := by rw [hZ]; exact ⟨Pm.refl _ _ _, by have l5x := l5.out; rw [EEN.out] at l5x; exact l5x⟩
            clear hZ
            go_wp2
            go_end0
            exact ⟨rfl, Z, S4, G4, (P2.out.trans (P3.out.1.wide (Nat.le_refl _) (by omega) (by omega))).trans (P4.out.1.wide (by omega) (by omega) (Nat.le_refl _)), so_join (by omega) (by omega) P3.out.1 P3.out.2 P4.out.1 P4.out.2 cr.out⟩
          · have EMS : Hid (s = mid) := by show _ = _; omega
            have k0 : ¬ (s : Int) < (m : Int) := by omega
            have k1 : (a : Int) < (s : Int) := by omega
            have k2 : ¬ (s : Int) < (mid : Int) := by omega
            have k3 : ¬ (mid : Int) < (en : Int) := by omega
            have hrx : rot X s m en = X := by rw [ESM.out]; exact rot_left X m en
            have S2 : Sr wr g n (rot X s m en) := by rw [hrx]; exact hS
            have G2 := hG
            have L2 := hgw
            have P2 : Hid (Pm X (rot X s m en) a b) := by rw [hrx]; exact Pm.refl _ _ _
            clear hrx
            generalize rot X s m en = Y at *
            obtain ⟨Y1, hY1⟩ : ∃ Y1, Y1 = Y := ⟨_, rfl⟩
            have S3 : Sr wr g n Y1 := by rw [hY1]; exact S2
            have G3 := G2
            have L3 := L2
            have P3 : Hid (Pm Y Y1 a mid ∧ so Y1 a mid) := by rw [hY1]; exact ⟨Pm.refl _ _ _, by have l1x := l1.out; rw [EMS.out] at l1x; exact l1x⟩
            clear hY1
            have l4 : Hid (so Y1 mid en) := fun i j h1 h2 h3 => by rw [P3.out.1.2 i (by omega), P3.out.1.2 j (by omega)]; exact q1.out i j h1 h2 h3
            have l5 : Hid (so Y1 en b) := fun i j h1 h2 h3 => by rw [P3.out.1.2 i (by omega), P3.out.1.2 j (by omega)]; exact q2.out i j h1 h2 h3
            have l6 : Hid (sep Y1 mid en b) := fun i j h1 h2 h3 h4 => by rw [P3.out.1.2 i (by omega), P3.out.1.2 j (by omega)]; exact q3.out i j h1 h2 h3 h4
            obtain ⟨Z, hZ⟩ : ∃ Z, Z = Y1 := ⟨_, rfl⟩
            have S4 : Sr wr g n Z := by rw [hZ]; exact S3
            have G4 := G3
            have P4 : Hid (Pm Y1 Z mid b ∧ so Z mid b) := by rw [hZ]; exact ⟨Pm.refl _ _ _, by have l5x := l5.out; rw [EEN.out] at l5x; exact l5x⟩
            clear hZ
            go_wp2
            go_end0
            exact ⟨rfl, Z, S4, G4, (P2.out.trans (P3.out.1.wide (Nat.le_refl _) (by omega) (by omega))).trans (P4.out.1.wide (by omega) (by omega) (Nat.le_refl _)), so_join (by omega) (by omega) P3.out.1 P3.out.2 P4.out.1 P4.out.2 cr.out⟩
end Go.Proofs.YtcifalelnfeggaaGreatDoor

namespace Go.Proofs.YtcifalelnfeggaaGreatDoor
open Go.RowKit
set_option linter.unusedVariables false

theorem sym_any (g n cap : Nat) (hl : n ≤ 100000) : ∀ (N a m b : Nat) (X : Nat → Im) (w : World), b - a ≤ N → Sr w g n X → g < w.heap.size → b ≤ n → a < m → m < b → so X a m → so X m b → sep X a m b → SymQ g n cap a m b X w := by
  intro N
  induction N using Nat.strongRecOn with
  | ind N ih =>
    intro a m b X w hN hS hg hb ham hmb h1 h2 h3
    by_cases c1 : m = a + 1
    · exact sym_first g n cap a m b X w hS hg hb hl c1 hmb h2 h3
    · by_cases c2 : b = m + 1
      · exact sym_last g n cap a m b X w hS hg hb hl (by omega) c2 h1 h3
      · exact sym_gen g n cap a m b X w hS hg hb hl (by omega) (by omega) h1 h2 h3 (fun a' m' b' X' w' hlt s1 s2 s3 s4 s5 s6 s7 s8 => ih (b' - a') (by omega) a' m' b' X' w' (Nat.le_refl _) s1 s2 s3 s4 s5 s6 s7 s8)

/-- Blocks of 20 up to a are in order. -/
structure Iv (X Y : Nat → Im) (n a : Nat) : Prop where
  pm : Pm X Y 0 n
  so : ∀ i j, i < j → j < a → i / 20 = j / 20 → kl (Y i) (Y j)
  se : ∀ i j, i < j → j < n → (i / 20 < j / 20 ∨ a ≤ i) → (Y i).sy < (Y j).sy
theorem Iv.step {X Y Z : Nat → Im} {n a e : Nat} (h : Iv X Y n a) (ha : a % 20 = 0) (h1 : a ≤ e) (h2 : e ≤ a + 20) (h3 : e ≤ n) (p : Pm Y Z a e) (s : Go.Proofs.YtcifalelnfeggaaGreatDoor.so Z a e) : Iv X Z n e := by
  have key : ∀ i, i < n → ∃ i', i' < n ∧ Z i = Y i' ∧ i' / 20 = i / 20 ∧ (i < a → i' = i) ∧ (e ≤ i → i' = i) ∧ (a ≤ i → a ≤ i') := by
    intro i hi
    by_cases c : a ≤ i ∧ i < e
    · obtain ⟨i', q1, q2, q3⟩ := p.mem c.1 c.2
      exact ⟨i', by omega, q3, by omega, by omega, by omega, by omega⟩
    · exact ⟨i, hi, p.2 i (by omega), rfl, fun _ => rfl, fun _ => rfl, fun q => q⟩
  refine ⟨h.pm.trans (p.wide (Nat.zero_le _) h1 h3), fun i j hij hj hb => ?_, fun i j hij hj hb => ?_⟩
  · by_cases c : a ≤ i
    · exact s i j c hij hj
    · have hja : j < a := by omega
      rw [p.2 i (by omega), p.2 j (by omega)]
      exact h.so i j hij hja hb
  · obtain ⟨i', a1, a2, a3, a4, a5, a6⟩ := key i (by omega)
    obtain ⟨j', b1, b2, b3, b4, b5, b6⟩ := key j hj
    rw [a2, b2]
    rcases hb with hb | hb
    · exact h.se i' j' (by omega) b1 (.inl (by omega))
    · have e1 := a5 hb
      have e2 := b5 (by omega)
      rw [e1, e2]
      exact h.se i j hij hj (.inr (by omega))
/-- Blocks of twice bs up to a, of bs from there on, are in order. -/
structure Jv (X Y : Nat → Im) (n bs a : Nat) : Prop where
  pm : Pm X Y 0 n
  so : ∀ i j, i < j → j < n → ((j < a ∧ i / (2 * bs) = j / (2 * bs)) ∨ (a ≤ i ∧ i / bs = j / bs)) → kl (Y i) (Y j)
  se : ∀ i j, i < j → j < n → (i / (2 * bs) < j / (2 * bs) ∨ (a ≤ i ∧ i / bs < j / bs)) → (Y i).sy < (Y j).sy
theorem Iv.whole {X Y : Nat → Im} {n : Nat} (h : Iv X Y n n) : Jv X Y n 20 0 :=
  ⟨h.pm, fun i j hij hj hb => h.so i j hij hj (by omega), fun i j hij hj hb => h.se i j hij hj (.inl (by omega))⟩
def bsOk (bs : Nat) : Prop := bs = 20 ∨ bs = 40 ∨ bs = 80 ∨ bs = 160
theorem Jv.pre {X Y : Nat → Im} {n bs a e : Nat} (h : Jv X Y n bs a) (hb : bsOk bs) (ha : a % (2 * bs) = 0) (h1 : a + bs < e) (h2 : e ≤ a + 2 * bs) (h3 : e ≤ n) :
    Go.Proofs.YtcifalelnfeggaaGreatDoor.so Y a (a + bs) ∧ Go.Proofs.YtcifalelnfeggaaGreatDoor.so Y (a + bs) e ∧ sep Y a (a + bs) e := by
  rcases hb with rfl | rfl | rfl | rfl
  all_goals
    refine ⟨fun i j p q r => h.so i j q (by omega) (.inr ⟨p, by omega⟩), fun i j p q r => h.so i j q (by omega) (.inr ⟨by omega, by omega⟩), fun i j p q r t => h.se i j (by omega) (by omega) (.inr ⟨p, by omega⟩)⟩
theorem Jv.step {X Y Z : Nat → Im} {n bs a e : Nat} (h : Jv X Y n bs a) (hb : bsOk bs) (ha : a % (2 * bs) = 0) (h1 : a < e) (h2 : e ≤ a + 2 * bs) (h3 : e ≤ n) (h4 : e = a + 2 * bs ∨ e = n) (p : Pm Y Z a e) (s : Go.Proofs.YtcifalelnfeggaaGreatDoor.so Z a e) : Jv X Z n bs e := by
  rcases hb with rfl | rfl | rfl | rfl
  all_goals
    refine ⟨h.pm.trans (p.wide (Nat.zero_le _) (by omega) h3), fun i j hij hj hb => ?_, fun i j hij hj hb => ?_⟩
    · by_cases c : a ≤ i ∧ j < e
      · exact s i j c.1 hij c.2
      · have c1 : i < a ∨ e ≤ i := by omega
        have c2 : j < a ∨ e ≤ j := by omega
        rw [p.2 i c1, p.2 j c2]
        exact h.so i j hij hj (by omega)
    · obtain ⟨i', a1, a2, a3⟩ : ∃ i', i' < n ∧ Z i = Y i' ∧ ((a ≤ i ∧ i < e ∧ a ≤ i' ∧ i' < e) ∨ (i' = i ∧ (i < a ∨ e ≤ i))) := by
        by_cases c : a ≤ i ∧ i < e
        · obtain ⟨i', q1, q2, q3⟩ := p.mem c.1 c.2
          exact ⟨i', by omega, q3, .inl ⟨c.1, c.2, q1, q2⟩⟩
        · exact ⟨i, by omega, p.2 i (by omega), .inr ⟨rfl, by omega⟩⟩
      obtain ⟨j', b1, b2, b3⟩ : ∃ j', j' < n ∧ Z j = Y j' ∧ ((a ≤ j ∧ j < e ∧ a ≤ j' ∧ j' < e) ∨ (j' = j ∧ (j < a ∨ e ≤ j))) := by
        by_cases c : a ≤ j ∧ j < e
        · obtain ⟨j', q1, q2, q3⟩ := p.mem c.1 c.2
          exact ⟨j', by omega, q3, .inl ⟨c.1, c.2, q1, q2⟩⟩
        · exact ⟨j, hj, p.2 j (by omega), .inr ⟨rfl, by omega⟩⟩
      rw [a2, b2]
      exact h.se i' j' (by omega) b1 (by omega)
theorem Jv.double {X Y : Nat → Im} {n bs : Nat} (h : Jv X Y n bs n) (hb : bsOk bs) : Jv X Y n (2 * bs) 0 := by
  rcases hb with rfl | rfl | rfl | rfl
  all_goals exact ⟨h.pm, fun i j hij hj hb => h.so i j hij hj (.inl ⟨hj, by omega⟩), fun i j hij hj hb => h.se i j hij hj (.inl (by omega))⟩
/-- What is left over is one block. -/
theorem Jv.rest {X Y : Nat → Im} {n bs a : Nat} (h : Jv X Y n bs a) (hb : bsOk bs) (ha : a % (2 * bs) = 0) (h1 : a ≤ n) (h2 : n ≤ a + bs) : Jv X Y n bs n := by
  rcases hb with rfl | rfl | rfl | rfl
  all_goals exact ⟨h.pm, fun i j hij hj hb => h.so i j hij hj (by omega), fun i j hij hj hb => h.se i j hij hj (by omega)⟩
theorem Jv.last {X Y : Nat → Im} {n bs : Nat} (h : Jv X Y n bs 0) (hn : n ≤ bs) : Pm X Y 0 n ∧ Go.Proofs.YtcifalelnfeggaaGreatDoor.so Y 0 n :=
  ⟨h.pm, fun i j _ hij hj => h.so i j hij hj (.inr ⟨Nat.zero_le _, by rw [Nat.div_eq_of_lt (by omega), Nat.div_eq_of_lt (by omega)]⟩)⟩

set_option maxHeartbeats 2000000 in
set_option maxRecDepth 100000 in
theorem stable_any (g cap n : Nat) (X : Nat → Im) (w : World) (h : Sr w g n X) (hg : g < w.heap.size) (hl : n ≤ 288) (hs : ∀ i j, i < j → j < n → (X i).sy < (X j).sy) :
    Calls Tryz.prog 137 #[.slice (some ⟨g, 0, none⟩) n cap, .int .i64 n, cmpF] w fun e w' => e = .returned (.tuple #[]) ∧ ∃ Y, Sr w' g n Y ∧ w.grownBy w' (some g) ∧ Pm X Y 0 n ∧ so Y 0 n := by
  go_enter Tryz.func137, Tryz.ntmps137
  go_wp2_with fail
  go_loopw [7, 8] (fun ta tb wr => ∃ (a b : Nat) (Y : Nat → Im), a ≤ n ∧ b = a + 20 ∧ ta = .int .i64 (a : Int) ∧ tb = .int .i64 (b : Int) ∧ Sr wr g n Y ∧ g < wr.heap.size ∧ w.grownBy wr (some g) ∧ Hid (Iv X Y n a ∧ a % 20 = 0)) (fun ta _ _ => n + 1 - (intOf ta).toNat)
  case atStart => exact ⟨0, 20, X, Nat.zero_le _, rfl, rfl, rfl, h, hg, World.grownBy.refl _ _, (⟨⟨Pm.refl _ _ _, fun i j h1 h2 => by omega, fun i j h1 h2 _ => hs i j h1 h2⟩, rfl⟩ : _ ∧ _)⟩
  case round =>
    obtain ⟨a, b, Y, han, hb, rfl, rfl, hS, hgw, hG, HI⟩ := hrel
    have HB : Hid (b = a + 20) := hb
    have hab : a ≤ b ∧ b ≤ 308 := by omega
    clear hb
    by_cases hbn : b ≤ n
    · have hbni : (b : Int) ≤ (n : Int) := by omega
      have CI := insSort_any g cap n a b Y wr hS hgw (by omega) hbn (by omega) (fun i j h1 h2 h3 => HI.out.1.se i j h2 (by omega) (.inr h1))
      go_wp2_with fail
      refine CI.mono ?_
      rintro e w2 ⟨rfl, Z, S2, G2, P2, so2⟩
      have HI2 : Hid (Iv X Z n b ∧ b % 20 = 0) := ⟨HI.out.1.step HI.out.2 (by omega) (by have := HB.out; omega) hbn P2 so2, by have := HB.out; have := HI.out.2; omega⟩
      clear P2 so2 CI
      go_wp2
      go_roundw
      case rel => exact ⟨b, b + 20, Z, hbn, rfl, rfl, by go_num, S2, Nat.lt_of_lt_of_le hgw G2.size, grownBy_trans hG G2, HI2.out⟩
      case measure => have := HB.out; simp [intOf]; omega
    · have hbni : ¬ (b : Int) ≤ (n : Int) := by omega
      have CI := insSort_any g cap n a n Y wr hS hgw han (Nat.le_refl _) (by omega) (fun i j h1 h2 h3 => HI.out.1.se i j h2 (by omega) (.inr h1))
      go_wp2_with fail
      refine CI.mono ?_
      rintro e w2 ⟨rfl, Z, S2, G2, P2, so2⟩
      have HJ : Hid (Jv X Z n 20 0) := (HI.out.1.step HI.out.2 han (by have := HB.out; omega) (Nat.le_refl _) P2 so2).whole
      have G2' := grownBy_trans hG G2
      have L2 : g < w2.heap.size := Nat.lt_of_lt_of_le hgw G2.size
      clear P2 so2 CI HI hS hgw hG G2 HB hbn hbni han
      go_wp2_with fail
      go_loopw [6, 7, 8] (fun ts ta tb wr => ∃ (bs : Nat) (va vb : Int) (Y : Nat → Im), 0 < bs ∧ bs ≤ 320 ∧ ts = .int .i64 (bs : Int) ∧ ta = .int .i64 va ∧ tb = .int .i64 vb ∧ Sr wr g n Y ∧ g < wr.heap.size ∧ w.grownBy wr (some g) ∧ Hid (Jv X Y n bs 0 ∧ (bsOk bs ∨ bs = 320))) (fun ts _ _ _ => 400 - (intOf ts).toNat)
      case atStart => exact ⟨20, _, _, Z, by omega, by omega, rfl, rfl, rfl, S2, L2, G2', (⟨HJ.out, .inl (.inl rfl)⟩ : _ ∧ _)⟩
      case round =>
        clear HJ S2 L2 G2'
        obtain ⟨bs, va, vb, Y, hbs0, hbs, rfl, rfl, rfl, hS, hgw, hG, HJ⟩ := hrel
        by_cases hbn : bs < n
        · have hbni : (bs : Int) < (n : Int) := by omega
          have HOK : Hid (bsOk bs) := by
            rcases HJ.out.2 with e | e
            · exact e
            · omega
          obtain ⟨d, hd⟩ : ∃ d, d = 2 * bs := ⟨_, rfl⟩
          have rd : 2 * (bs : Int) = (d : Int) := by omega
          have HD : Hid (d = 2 * bs) := hd
          have hdb : d ≤ 640 ∧ bs < d := by omega
          clear hd
          have rd2 : (bs : Int) * 2 = (d : Int) := by omega
          obtain ⟨w0, hw0⟩ : ∃ w0, w0 = wr := ⟨_, rfl⟩
          have HW0 : Hid (w0 = wr) := hw0
          have HB1 : Hid (bsOk d ∨ d = 320) := by
            have e := HD.out
            rcases HOK.out with e1 | e1 | e1 | e1
            · exact .inl (.inr (.inl (by omega)))
            · exact .inl (.inr (.inr (.inl (by omega))))
            · exact .inl (.inr (.inr (.inr (by omega))))
            · exact .inr (by omega)
          have HDB : Hid (d ≤ 320) := by
            have e := HD.out
            rcases HOK.out with e1 | e1 | e1 | e1 <;> (show _ ≤ _; omega)
          clear hw0
          go_wp2_with fail
          go_loopw [7, 8] (fun ta tb w2 => ∃ (a b : Nat) (V : Nat → Im), a ≤ n ∧ b = a + d ∧ ta = .int .i64 (a : Int) ∧ tb = .int .i64 (b : Int) ∧ Sr w2 g n V ∧ g < w2.heap.size ∧ w0.grownBy w2 (some g) ∧ Hid (Jv X V n bs a ∧ a % (2 * bs) = 0)) (fun ta _ _ => n + 1 - (intOf ta).toNat)
          case atStart => exact ⟨0, d, Y, Nat.zero_le _, by omega, rfl, rfl, hS, hgw, by rw [HW0.out]; exact World.grownBy.refl _ _, (⟨HJ.out.1, by simp⟩ : _ ∧ _)⟩
          case round =>
            have hG0 : w.grownBy w0 (some g) := by rw [HW0.out]; exact hG
            clear hS hgw hG HJ
            obtain ⟨a, b, V, han, hbe, rfl, rfl, hS, hgw, hG, HJ⟩ := hrel
            have HB : Hid (b = a + d) := hbe
            obtain ⟨m, hm⟩ : ∃ m, m = a + bs := ⟨_, rfl⟩
            have rm : (a : Int) + (bs : Int) = (m : Int) := by omega
            have HM : Hid (m = a + bs) := hm
            have hmb : a < m ∧ m < b ∧ b ≤ 928 := by omega
            clear hbe hm
            by_cases hbn2 : b ≤ n
            · have hbni2 : (b : Int) ≤ (n : Int) := by omega
              obtain ⟨x1, x2, x3⟩ := HJ.out.1.pre HOK.out HJ.out.2 (e := b) (by have := HM.out; omega) (by have := HB.out; have := HD.out; omega) hbn2
              rw [← HM.out] at x1 x2 x3
              have CS := sym_any g n cap (by omega) (b - a) a m b V wr (Nat.le_refl _) hS hgw hbn2 hmb.1 hmb.2.1 x1 x2 x3
              unfold SymQ at CS
              clear x1 x2 x3
              go_wp2_with fail
              refine CS.mono ?_
              rintro e w2 ⟨rfl, Z, S2, G2, P2, so2⟩
              have HJ2 : Hid (Jv X Z n bs b ∧ b % (2 * bs) = 0) := ⟨HJ.out.1.step HOK.out HJ.out.2 (by omega) (by have := HB.out; have := HD.out; omega) hbn2 (.inl (by have := HB.out; have := HD.out; omega)) P2 so2, by have e1 := HB.out; have e2 := HD.out; have e3 := HJ.out.2; rw [e1, e2, Nat.add_mod_right]; exact e3⟩
              clear P2 so2 CS
              go_wp2
              go_roundw
              case rel => exact ⟨b, b + d, Z, hbn2, rfl, rfl, by go_num, S2, Nat.lt_of_lt_of_le hgw G2.size, grownBy_trans hG G2, HJ2.out⟩
              case measure => simp [intOf]; omega
            · have hbni2 : ¬ (b : Int) ≤ (n : Int) := by omega
              by_cases hmn : m < n
              · have hmni : (m : Int) < (n : Int) := by omega
                obtain ⟨x1, x2, x3⟩ := HJ.out.1.pre HOK.out HJ.out.2 (e := n) (by have := HM.out; omega) (by have := HB.out; have := HD.out; omega) (Nat.le_refl _)
                rw [← HM.out] at x1 x2 x3
                have CS := sym_any g n cap (by omega) (n - a) a m n V wr (Nat.le_refl _) hS hgw (Nat.le_refl _) hmb.1 hmn x1 x2 x3
                unfold SymQ at CS
                clear x1 x2 x3
                go_wp2_with fail
                refine CS.mono ?_
                rintro e w2 ⟨rfl, Z, S2, G2, P2, so2⟩
                have HJ2 : Hid (Jv X Z n d 0 ∧ (bsOk d ∨ d = 320)) := ⟨by have := (HJ.out.1.step HOK.out HJ.out.2 (by omega) (by have := HB.out; have := HD.out; omega) (Nat.le_refl _) (.inr rfl) P2 so2).double HOK.out; rw [← HD.out] at this; exact this, HB1.out⟩
                clear P2 so2 CS
                go_wp2
                go_roundw
                case rel => exact ⟨d, _, _, Z, by omega, HDB.out, rfl, rfl, rfl, S2, Nat.lt_of_lt_of_le hgw G2.size, grownBy_trans hG0 (grownBy_trans hG G2), HJ2.out⟩
                case measure => have := HDB.out; simp [intOf]; omega
              · have hmni : ¬ (m : Int) < (n : Int) := by omega
                have HJ2 : Hid (Jv X V n d 0 ∧ (bsOk d ∨ d = 320)) := ⟨by have := (HJ.out.1.rest HOK.out HJ.out.2 han (by have := HM.out; omega)).double HOK.out; rw [← HD.out] at this; exact this, HB1.out⟩
                go_wp2
                go_roundw
                case rel => exact ⟨d, _, _, V, by omega, HDB.out, rfl, rfl, rfl, hS, hgw, grownBy_trans hG0 hG, HJ2.out⟩
                case measure => have := HDB.out; simp [intOf]; omega
        · have hbni : ¬ (bs : Int) < (n : Int) := by omega
          go_wp2
          go_end0
          exact ⟨rfl, Y, hS, hG, HJ.out.1.last (by omega)⟩

set_option maxRecDepth 100000 in
theorem sortStable_any (g cap n : Nat) (X : Nat → Im) (w : World) (h : Sr w g n X) (hg : g < w.heap.size) (hl : n ≤ 288) (hs : ∀ i j, i < j → j < n → (X i).sy < (X j).sy) :
    Calls Tryz.prog 114 #[.slice (some ⟨g, 0, none⟩) n cap, cmpF] w fun e w' => e = .returned (.tuple #[]) ∧ ∃ Y, Sr w' g n Y ∧ w.grownBy w' (some g) ∧ Pm X Y 0 n ∧ so Y 0 n := by
  go_enter Tryz.func114, Tryz.ntmps114
  go_wp2_with fail
  refine (stable_any g cap n X _ h hg hl hs).mono ?_
  rintro e w2 ⟨rfl, r⟩
  go_wp2
  go_end0
  exact ⟨rfl, r⟩
end Go.Proofs.YtcifalelnfeggaaGreatDoor

namespace Go.Proofs.YtcifalelnfeggaaGreatDoor
open Go.RowKit
set_option linter.unusedVariables false

set_option maxRecDepth 100000 in
theorem insSort_nil (X : Value) (w : World) : Calls Tryz.prog 157 #[X, .int .i64 0, .int .i64 0, cmpF] w fun e w' => e = .returned (.tuple #[]) ∧ w' = w := by
  go_enter Tryz.func157, Tryz.ntmps157
  go_wp2
  go_loopw [8] (fun ti wr => ti = .int .i64 1 ∧ wr = w) (fun _ _ => 0)
  case atStart => exact ⟨by go_num, rfl⟩
  case round =>
    obtain ⟨rfl, rfl⟩ := hrel
    go_wp2
    go_end0
    exact ⟨rfl, rfl⟩
set_option maxRecDepth 100000 in
theorem stable_nil (X : Value) (w : World) : Calls Tryz.prog 137 #[X, .int .i64 0, cmpF] w fun e w' => e = .returned (.tuple #[]) ∧ w' = w := by
  go_enter Tryz.func137, Tryz.ntmps137
  go_wp2_with fail
  go_loopw [7, 8] (fun ta tb wr => ta = .int .i64 0 ∧ tb = .int .i64 20 ∧ wr = w) (fun _ _ _ => 0)
  case atStart => exact ⟨rfl, rfl, rfl⟩
  case round =>
    obtain ⟨rfl, rfl, rfl⟩ := hrel
    go_wp2_with fail
    refine (insSort_nil _ _).mono ?_
    rintro e w' ⟨rfl, hw'⟩
    subst w'
    go_wp2_with fail
    go_loopw [6, 7, 8] (fun ts ta tb w2 => ts = .int .i64 20 ∧ ta = .int .i64 0 ∧ tb = .int .i64 20 ∧ w2 = wr) (fun _ _ _ _ => 0)
    case atStart => exact ⟨rfl, rfl, rfl, rfl⟩
    case round =>
      obtain ⟨rfl, rfl, rfl, rfl⟩ := hrel
      go_wp2
      go_end0
      exact ⟨rfl, rfl⟩
set_option maxRecDepth 100000 in
theorem sortStable_nil (cap : Nat) (w : World) : Calls Tryz.prog 114 #[.slice none 0 cap, cmpF] w fun e w' => e = .returned (.tuple #[]) ∧ w' = w := by
  go_enter Tryz.func114, Tryz.ntmps114
  go_wp2_with fail
  refine (stable_nil _ _).mono ?_
  rintro e w' ⟨rfl, hw'⟩
  subst w'
  go_wp2
  go_end0
  exact ⟨rfl, rfl⟩

/-- The symbols in use, in their order, as items. -/
def leafI (zs : List Int) (i : Nat) : Im := ⟨zs.getD i 0, i, none, none⟩
def leafL (zs : List Int) (k : Nat) : List Im := ((List.range k).filter fun i => decide (zs.getD i 0 ≠ 0)).map (leafI zs)
theorem leafL_snoc (zs : List Int) (k : Nat) : leafL zs (k + 1) = leafL zs k ++ (if zs.getD k 0 = 0 then [] else [leafI zs k]) := by
  unfold leafL
  rw [List.range_succ, List.filter_append, List.map_append]
  congr 1
  by_cases h : zs.getD k 0 = 0
  · rw [if_pos h, List.filter_cons, if_neg (by simpa using h), List.filter_nil, List.map_nil]
  · rw [if_neg h, List.filter_cons, if_pos (decide_eq_true h), List.filter_nil, List.map_cons, List.map_nil]
theorem leafL_len (zs : List Int) (k : Nat) : (leafL zs k).length ≤ k := by
  unfold leafL
  rw [List.length_map]
  have := List.length_filter_le (fun i => decide (zs.getD i 0 ≠ 0)) (List.range k)
  simpa using this
def Im.cells (x : Im) : List Value := [.int .i64 x.wt, .int .i64 x.sy, .pointer x.fs, .pointer x.sn]
def flatI (l : List Im) : List Value := l.flatMap Im.cells
theorem flatI_len (l : List Im) : (flatI l).length = l.length * 4 := by
  unfold flatI
  induction l with
  | nil => rfl
  | cons x r ih => simp [Im.cells, ih]; omega
theorem flatI_get : ∀ (l : List Im) (k : Nat) (x : Im), l[k]? = some x → (flatI l)[k * 4]? = some (.int .i64 x.wt) ∧ (flatI l)[k * 4 + 1]? = some (.int .i64 x.sy) ∧ (flatI l)[k * 4 + 2]? = some (.pointer x.fs) ∧ (flatI l)[k * 4 + 3]? = some (.pointer x.sn)
  | [], k, x, h => by simp at h
  | y :: r, 0, x, h => by
    simp at h
    subst h
    simp [flatI, Im.cells]
  | y :: r, k + 1, x, h => by
    have := flatI_get r k x (by simpa using h)
    have e : flatI (y :: r) = .int .i64 y.wt :: .int .i64 y.sy :: .pointer y.fs :: .pointer y.sn :: flatI r := rfl
    rw [e, show (k + 1) * 4 = k * 4 + 1 + 1 + 1 + 1 by omega]
    simpa [List.getElem?_cons_succ, show k * 4 + 1 + 1 + 1 + 1 + 1 = (k * 4 + 1) + 1 + 1 + 1 + 1 by omega] using this
theorem flatI_one (l : List Im) : ∀ u ∈ flatI l, u.oneCell' = true := by
  intro u hu
  unfold flatI at hu
  obtain ⟨x, _, hx⟩ := List.mem_flatMap.1 hu
  unfold Im.cells at hx
  simp only [List.mem_cons, List.not_mem_nil, or_false] at hx
  rcases hx with rfl | rfl | rfl | rfl <;> rfl
theorem flatI_app (l r : List Im) : flatI (l ++ r) = flatI l ++ flatI r := by unfold flatI; rw [List.flatMap_append]
/-- A row of the call's own, as items that lie there. -/
theorem own_row4 {w : World} {base n g cap : Nat} {e : TypeId} {l : List Im} (h : w.ownsRow base e 4 (.slice (some ⟨g, 0, none⟩) n cap) n (flatI l)) (hl : l.length = n) : Sr w g n (fun k => l.getD k ⟨0, 0, none, none⟩) := by
  have hc : ∀ j u, (flatI l)[j]? = some u → w.cell? ⟨g, j, none⟩ = some u := by
    intro j u hu
    have := h.cells (g := g) rfl j u hu
    have hadd : (⟨g, 0, none⟩ : Addr).add j = ⟨g, j, none⟩ := by unfold Addr.add; split <;> simp_all
    rwa [hadd] at this
  refine ⟨⟨fun k hk => ?_⟩, fun k => ?_⟩
  · have hg : l[k]? = some (l.getD k ⟨0, 0, none, none⟩) := by simp [List.getD, show k < l.length by omega]
    obtain ⟨q0, q1, q2, q3⟩ := flatI_get l k _ hg
    rw [Nat.zero_add]
    exact ⟨hc _ _ q0, hc _ _ q1, hc _ _ q2, hc _ _ q3⟩
  · rcases h.2 with ⟨h1, _⟩ | ⟨g', cap', cur, hv, _, hh, _⟩
    · cases h1
    · simp only [Value.slice.injEq, Option.some.injEq, Addr.mk.injEq] at hv
      obtain ⟨⟨rfl, _⟩, _⟩ := hv
      simp [World.frozen?, hh]
theorem info_item : (Tryz.prog.info? 158).map (fun i => (i.zero, i.size, i.bytes)) = some (some (.agg #[.int .i64 0, .int .i64 0, .pointer none, .pointer none]), 4, 32) := by kernel_rfl
end Go.Proofs.YtcifalelnfeggaaGreatDoor
