import Derived.Test.YtcifalelnfeggaaGreatDoorPj
import Derived.Test.YtcifalelnfeggaaGreatDoorPc
import Derived.WalkLawsBesides
namespace Go.Proofs.YtcifalelnfeggaaGreatDoor
open Go.RowKit
set_option linter.unusedVariables false

set_option maxHeartbeats 8000000 in
set_option maxRecDepth 100000 in
theorem sym_gen (g n cap a m b : Nat) (X : Nat → Im) (w : World) (h : Sr w g n X) (hg : g < w.heap.size) (hb : b ≤ n) (hl : n ≤ 100000) (ham : a + 1 < m) (hmb : m + 1 < b) (hr1 : so X a m) (hr2 : so X m b) (hs : sep X a m b)
    (IH : ∀ (a' m' b' : Nat) (X' : Nat → Im) (w' : World), b' - a' < b - a → Sr w' g n X' → g < w'.heap.size → b' ≤ n → a' < m' → m' < b' → so X' a' m' → so X' m' b' → sep X' a' m' b' → SymQ g n cap a' m' b' X' w') : SymQ g n cap a m b X w := by
  unfold SymQ
  obtain ⟨mid, hmid⟩ : ∃ mid, mid = (a + b) / 2 := ⟨_, rfl⟩
  have SY : Sy X a m b mid := ⟨by omega, by omega, hmid, hr1, hr2, hs⟩
  obtain ⟨b1, b2, b3, b4, hbc⟩ := SY.bounds
  have HSY : Hid (Sy X a m b mid) := SY
  have HIH : Hid _ := IH
  obtain ⟨N, hN⟩ : ∃ N, N = mid + m := ⟨_, rfl⟩
  have r0 : ¬ (m : Int) - (a : Int) = 1 := by omega
  have r0b : ((m : Int) - (a : Int) == 1) = false := by simpa using r0
  have r1 : ¬ (b : Int) - (m : Int) = 1 := by omega
  have r1b : ((b : Int) - (m : Int) == 1) = false := by simpa using r1
  have rm : ((a : Int) + (b : Int)) / 2 = (mid : Int) := by omega
  have rN : (mid : Int) + (m : Int) = (N : Int) := by omega
  obtain ⟨p, hp⟩ : ∃ p, p = mid + m - 1 := ⟨_, rfl⟩
  have rp : (N : Int) - 1 = (p : Int) := by omega
  obtain ⟨lo, hlo⟩ : ∃ lo, lo = slo a m b mid := ⟨_, rfl⟩
  obtain ⟨hi, hhi⟩ : ∃ hi, hi = shi m mid := ⟨_, rfl⟩
  have HMono : Hid (∀ c c', lo ≤ c' → c' ≤ c → c < hi → tst X p c' → tst X p c) := by rw [hlo, hhi, hp]; exact SY.mono
  have HBC : Hid (∀ c, lo ≤ c → c < hi → m ≤ p - c ∧ p - c < b ∧ a ≤ c ∧ c < m ∧ c ≤ p) := by
    intro c h1 h2
    rw [hlo] at h1
    rw [hhi] at h2
    have := hbc c h1 h2
    omega
  have HLH : Hid (a ≤ lo ∧ lo ≤ hi ∧ hi ≤ m ∧ hi ≤ mid) := by rw [hlo, hhi]; exact ⟨b1, b2, b3, b4⟩
  have HTN : Hid (∀ st, srch (tst X p) lo hi st st → _) := fun st hst => by rw [hlo, hhi, hp] at hst; exact SY.turned hst
  have HDF : Hid (N = mid + m ∧ mid = (a + b) / 2 ∧ (m > mid → lo = mid + m - b ∧ hi = mid) ∧ (¬ m > mid → lo = a ∧ hi = m)) := by
    refine ⟨hN, hmid, fun h => ?_, fun h => ?_⟩
    · rw [hlo, hhi]; unfold slo shi; rw [if_pos h, if_pos h]; exact ⟨rfl, rfl⟩
    · rw [hlo, hhi]; unfold slo shi; rw [if_neg h, if_neg h]; exact ⟨rfl, rfl⟩
  have hpn : p < 300000 ∧ N < 300000 ∧ mid < b ∧ a ≤ mid ∧ hi ≤ n ∧ lo ≤ hi := by omega
  clear SY IH hmid b1 b2 b3 b4 hbc hN hp hlo hhi
  go_enter Tryz.func158, Tryz.ntmps158
  by_cases hcm : mid < m
  · have hcmi : (mid : Int) < (m : Int) := by omega
    have rl : (N : Int) - (b : Int) = (lo : Int) := by have := HDF.out; omega
    have HRH : Hid (mid = hi) := by have := HDF.out; show _ = _; omega
    go_wp2_with fail
    go_loopw [20, 21] (fun ti tj wr => ∃ s r : Nat, lo ≤ s ∧ s ≤ r ∧ r ≤ hi ∧ ti = .int .i64 (s : Int) ∧ tj = .int .i64 (r : Int) ∧ Sr wr g n X ∧ g < wr.heap.size ∧ w.grownBy wr (some g) ∧ Hid (srch (tst X p) lo hi s r)) (fun ti tj _ => (intOf tj).toNat - (intOf ti).toNat)
    case atStart => exact ⟨lo, mid, by omega, by have := HRH.out; omega, by have := HRH.out; omega, rfl, rfl, h, hg, World.grownBy.refl _ _, (by rw [HRH.out]; exact ⟨Nat.le_refl _, by omega, Nat.le_refl _, fun c h1 h2 => by omega, fun c h1 h2 => by omega⟩ : srch _ _ _ _ _)⟩
    case round =>
      obtain ⟨s, r, hls, hsr, hrh, rfl, rfl, hS, hgw, hG, HS⟩ := hrel
      by_cases hlt : s < r
      · have hlti : (s : Int) < (r : Int) := by omega
        obtain ⟨c, hc⟩ : ∃ c, c = (s + r) / 2 := ⟨_, rfl⟩
        have rc : ((s : Int) + (r : Int)) / 2 = (c : Int) := by omega
        have hic : s ≤ c := by omega
        have hcj : c < r := by omega
        obtain ⟨q, hq⟩ : ∃ q, q = p - c := ⟨_, rfl⟩
        have hbc := HBC.out c (by omega) (by omega)
        have rq : (p : Int) - (c : Int) = (q : Int) := by omega
        have HQ : Hid (q = p - c) := hq
        have hqb : q < b ∧ c < m := by omega
        clear hc hq hbc
        have i1 := hS.it (k := q) (by omega)
        have i2 := hS.it (k := c) (by omega)
        have T0 := two_of i1 i2
        unfold Two at T0
        have z0 : (q : Int) < (n : Int) := by omega
        have z1 : (c : Int) < (n : Int) := by omega
        have z2 : (0 : Int) ≤ (q : Int) := by omega
        have z3 : (0 : Int) ≤ (c : Int) := by omega
        have hwp : IntKind.i64.wrap (q : Int) = (q : Int) := by rw [IntKind.wrap_i64]; omega
        have HC : Hid (∀ W, Below wr.heap.size wr W → Calls Tryz.prog 115 #[(X q).val, (X c).val] W fun e w' => e = .returned (.int .i64 (cmpV (X q) (X c))) ∧ Below wr.heap.size wr w') := fun W hW => (cmp_any (X q) (X c) W).mono fun e w' ⟨h1, h2⟩ => ⟨h1, hW.trans (h2.mono hW.size)⟩
        have HK : Hid (∀ W, Below wr.heap.size wr W → Two g q c (X q) (X c) W) := fun W hW => two_old (two_of i1 i2) hW
        unfold Two at HK
        unfold Im.val at HC
        have d1 : Below wr.heap.size wr wr.drew := (Below.refl _ _).drew
        have d0 : Below wr.heap.size wr wr := Below.refl _ _
        have HNEG : Hid (cmpV (X q) (X c) < 0 ↔ (X q).wt < (X c).wt) := cmpV_neg _ _
        have hbd := cmpV_bd (X q) (X c)
        generalize cmpV (X q) (X c) = cv at *
        clear i1 i2
        by_cases hcv : cv < 0
        · have HS2 : Hid (srch (tst X p) lo hi s c) := srch_down HS.out HMono.out hic hcj (by have := HNEG.out.1 hcv; unfold tst; rw [← HQ.out]; exact this)
          go_wp2_with fail
          go_region_held3 (fun w' => (w'.cell? ⟨g, q * 4, none⟩ = some (.int .i64 (X q).wt) ∧ w'.cell? ⟨g, q * 4 + 1, none⟩ = some (.int .i64 (X q).sy) ∧ w'.cell? ⟨g, q * 4 + 2, none⟩ = some (.pointer (X q).fs) ∧ w'.cell? ⟨g, q * 4 + 3, none⟩ = some (.pointer (X q).sn)) ∧ (w'.cell? ⟨g, c * 4, none⟩ = some (.int .i64 (X c).wt) ∧ w'.cell? ⟨g, c * 4 + 1, none⟩ = some (.int .i64 (X c).sy) ∧ w'.cell? ⟨g, c * 4 + 2, none⟩ = some (.pointer (X c).fs) ∧ w'.cell? ⟨g, c * 4 + 3, none⟩ = some (.pointer (X c).sn)))
            (first | go_keep | (exact HK.out _ (by assumption)))
            (first | (go_at_call 115; refine (HC.out _ (by assumption)).mono ?_; rintro e w7 ⟨rfl, b7⟩))
          have S7 := hS.old hgw b7
          have G7 : w.grownBy w7 (some g) := grownBy_trans hG (grown_old b7 _)
          have L7 : g < w7.heap.size := Nat.lt_of_lt_of_le hgw b7.size
          clear T0 HC HK d1 d0 b7
          go_wp2
          go_roundw
          case rel => exact ⟨s, c, hls, by omega, by omega, rfl, rfl, S7, L7, G7, HS2.out⟩
          case measure => simp [intOf]; omega
        · have hcd : decide (cv < 0) = false := decide_eq_false hcv
          have HS2 : Hid (srch (tst X p) lo hi (c + 1) r) := srch_up HS.out HMono.out hic hcj (by have := HNEG.out; unfold tst; rw [← HQ.out]; intro hh; exact hcv (this.2 hh))
          go_wp2_with fail
          go_region_held3 (fun w' => (w'.cell? ⟨g, q * 4, none⟩ = some (.int .i64 (X q).wt) ∧ w'.cell? ⟨g, q * 4 + 1, none⟩ = some (.int .i64 (X q).sy) ∧ w'.cell? ⟨g, q * 4 + 2, none⟩ = some (.pointer (X q).fs) ∧ w'.cell? ⟨g, q * 4 + 3, none⟩ = some (.pointer (X q).sn)) ∧ (w'.cell? ⟨g, c * 4, none⟩ = some (.int .i64 (X c).wt) ∧ w'.cell? ⟨g, c * 4 + 1, none⟩ = some (.int .i64 (X c).sy) ∧ w'.cell? ⟨g, c * 4 + 2, none⟩ = some (.pointer (X c).fs) ∧ w'.cell? ⟨g, c * 4 + 3, none⟩ = some (.pointer (X c).sn)))
            (first | go_keep | (exact HK.out _ (by assumption)))
            (first | (go_at_call 115; refine (HC.out _ (by assumption)).mono ?_; rintro e w7 ⟨rfl, b7⟩))
          have S7 := hS.old hgw b7
          have G7 : w.grownBy w7 (some g) := grownBy_trans hG (grown_old b7 _)
          have L7 : g < w7.heap.size := Nat.lt_of_lt_of_le hgw b7.size
          clear T0 HC HK d1 d0 b7
          go_wp2
          go_roundw
          case rel => exact ⟨c + 1, r, by omega, by omega, hrh, by go_num, rfl, S7, L7, G7, HS2.out⟩
          case measure => simp [intOf]; omega
      · obtain rfl : s = r := by omega
        obtain ⟨en, hen⟩ : ∃ en, en = mid + m - s := ⟨_, rfl⟩
        obtain ⟨t1, t2, t3, t4, t5, t6, ⟨l1', l2', l3'⟩, ⟨q1', q2', q3'⟩, cr'⟩ := HTN.out s HS.out
        rw [← hen] at t4 t5 t6 l1' l2' l3' q1' q2' q3' cr'
        have ren : (N : Int) - (s : Int) = (en : Int) := by have := HDF.out; omega
        have l1 : Hid _ := l1'
        have l2 : Hid _ := l2'
        have l3 : Hid _ := l3'
        have q1 : Hid _ := q1'
        have q2 : Hid _ := q2'
        have q3 : Hid _ := q3'
        have cr : Hid _ := cr'
        have hab4 : a + 4 ≤ b := by omega
        have hsm : a < mid ∧ mid + m = s + en := by have := HDF.out; omega
        clear l1' l2' l3' q1' q2' q3' cr' HS hen hlt HMono HBC HTN hr1 hr2 hs h
        by_cases cA : s < m ∧ s < mid
        · by_cases c2 : a < s
          · by_cases c3 : en < b
            · skip
              have k0 : (s : Int) < (m : Int) := by omega
              have k1 : (m : Int) < (en : Int) := by omega
              have k2 : (a : Int) < (s : Int) := by omega
              have k3 : (s : Int) < (mid : Int) := by omega
              have k4 : (mid : Int) < (en : Int) := by omega
              have k5 : (en : Int) < (b : Int) := by omega
              go_wp2_with fail
              refine (rotate_any g cap n s m en X wr hS (by omega) (by omega) (by omega) hl _).mono ?_
              rintro e w2 ⟨rfl, S2, G2', P2'⟩
              have G2 := grownBy_trans hG G2'
              have L2 : g < w2.heap.size := Nat.lt_of_lt_of_le hgw G2'.size
              have P2 : Hid (Pm X (rot X s m en) a b) := P2'.wide (by omega) (by omega) (by omega)
              clear G2' P2'
              generalize rot X s m en = Y at *
              have C1 := HIH.out a s mid Y w2 (by omega) S2 L2 (by omega) (by omega) (by omega) l1.out l2.out l3.out
              unfold SymQ at C1
              go_wp2_with fail
              refine C1.mono ?_
              rintro e w3 ⟨rfl, Y1, S3, G3', P3', so3'⟩
              have G3 := grownBy_trans G2 G3'
              have L3 : g < w3.heap.size := Nat.lt_of_lt_of_le L2 G3'.size
              have P3 : Hid (Pm Y Y1 a mid ∧ so Y1 a mid) := ⟨P3', so3'⟩
              clear G3' P3' so3' C1
              have l4 : Hid (so Y1 mid en) := fun i j h1 h2 h3 => by rw [P3.out.1.2 i (by omega), P3.out.1.2 j (by omega)]; exact q1.out i j h1 h2 h3
              have l5 : Hid (so Y1 en b) := fun i j h1 h2 h3 => by rw [P3.out.1.2 i (by omega), P3.out.1.2 j (by omega)]; exact q2.out i j h1 h2 h3
              have l6 : Hid (sep Y1 mid en b) := fun i j h1 h2 h3 h4 => by rw [P3.out.1.2 i (by omega), P3.out.1.2 j (by omega)]; exact q3.out i j h1 h2 h3 h4
              have C2 := HIH.out mid en b Y1 w3 (by omega) S3 L3 (by omega) (by omega) (by omega) l4.out l5.out l6.out
              unfold SymQ at C2
              go_wp2_with fail
              refine C2.mono ?_
              rintro e w4 ⟨rfl, Z, S4, G4', P4', so4'⟩
              have G4 := grownBy_trans G3 G4'
              have P4 : Hid (Pm Y1 Z mid b ∧ so Z mid b) := ⟨P4', so4'⟩
              clear G4' P4' so4' C2
              go_wp2
              go_end0
              exact ⟨rfl, Z, S4, G4, (P2.out.trans (P3.out.1.wide (Nat.le_refl _) (by omega) (by omega))).trans (P4.out.1.wide (by omega) (by omega) (Nat.le_refl _)), so_join (by omega) (by omega) P3.out.1 P3.out.2 P4.out.1 P4.out.2 cr.out⟩
            · skip
              have k0 : (s : Int) < (m : Int) := by omega
              have k1 : (m : Int) < (en : Int) := by omega
              have k2 : (a : Int) < (s : Int) := by omega
              have k3 : (s : Int) < (mid : Int) := by omega
              have k4 : (mid : Int) < (en : Int) := by omega
              have k5 : ¬ (en : Int) < (b : Int) := by omega
              go_wp2_with fail
              refine (rotate_any g cap n s m en X wr hS (by omega) (by omega) (by omega) hl _).mono ?_
              rintro e w2 ⟨rfl, S2, G2', P2'⟩
              have G2 := grownBy_trans hG G2'
              have L2 : g < w2.heap.size := Nat.lt_of_lt_of_le hgw G2'.size
              have P2 : Hid (Pm X (rot X s m en) a b) := P2'.wide (by omega) (by omega) (by omega)
              clear G2' P2'
              generalize rot X s m en = Y at *
              have C1 := HIH.out a s mid Y w2 (by omega) S2 L2 (by omega) (by omega) (by omega) l1.out l2.out l3.out
              unfold SymQ at C1
              go_wp2_with fail
              refine C1.mono ?_
              rintro e w3 ⟨rfl, Y1, S3, G3', P3', so3'⟩
              have G3 := grownBy_trans G2 G3'
              have L3 : g < w3.heap.size := Nat.lt_of_lt_of_le L2 G3'.size
              have P3 : Hid (Pm Y Y1 a mid ∧ so Y1 a mid) := ⟨P3', so3'⟩
              clear G3' P3' so3' C1
              have l4 : Hid (so Y1 mid en) := fun i j h1 h2 h3 => by rw [P3.out.1.2 i (by omega), P3.out.1.2 j (by omega)]; exact q1.out i j h1 h2 h3
              have l5 : Hid (so Y1 en b) := fun i j h1 h2 h3 => by rw [P3.out.1.2 i (by omega), P3.out.1.2 j (by omega)]; exact q2.out i j h1 h2 h3
              have l6 : Hid (sep Y1 mid en b) := fun i j h1 h2 h3 h4 => by rw [P3.out.1.2 i (by omega), P3.out.1.2 j (by omega)]; exact q3.out i j h1 h2 h3 h4
              obtain ⟨Z, hZ⟩ : ∃ Z, Z = Y1 := ⟨_, rfl⟩
              have S4 : Sr w3 g n Z := by rw [hZ]; exact S3
              have G4 := G3
              have P4 : Hid (Pm Y1 Z mid b ∧ so Z mid b) := by rw [hZ]; exact ⟨Pm.refl _ _ _, by have e : en = b := (by omega); rw [← e]; exact l4.out⟩
              clear hZ
              go_wp2
              go_end0
              exact ⟨rfl, Z, S4, G4, (P2.out.trans (P3.out.1.wide (Nat.le_refl _) (by omega) (by omega))).trans (P4.out.1.wide (by omega) (by omega) (Nat.le_refl _)), so_join (by omega) (by omega) P3.out.1 P3.out.2 P4.out.1 P4.out.2 cr.out⟩
          · have EAS : Hid (s = a) := by show _ = _; omega
            by_cases c3 : en < b
            · skip
              have k0 : (s : Int) < (m : Int) := by omega
              have k1 : (m : Int) < (en : Int) := by omega
              have k2 : ¬ (a : Int) < (s : Int) := by omega
              have k3 : (mid : Int) < (en : Int) := by omega
              have k4 : (en : Int) < (b : Int) := by omega
              go_wp2_with fail
              refine (rotate_any g cap n s m en X wr hS (by omega) (by omega) (by omega) hl _).mono ?_
              rintro e w2 ⟨rfl, S2, G2', P2'⟩
              have G2 := grownBy_trans hG G2'
              have L2 : g < w2.heap.size := Nat.lt_of_lt_of_le hgw G2'.size
              have P2 : Hid (Pm X (rot X s m en) a b) := P2'.wide (by omega) (by omega) (by omega)
              clear G2' P2'
              generalize rot X s m en = Y at *
              obtain ⟨Y1, hY1⟩ : ∃ Y1, Y1 = Y := ⟨_, rfl⟩
              have S3 : Sr w2 g n Y1 := by rw [hY1]; exact S2
              have G3 := G2
              have L3 := L2
              have P3 : Hid (Pm Y Y1 a mid ∧ so Y1 a mid) := by rw [hY1]; exact ⟨Pm.refl _ _ _, by have l2x := l2.out; rw [EAS.out] at l2x; exact l2x⟩
              clear hY1
              have l4 : Hid (so Y1 mid en) := fun i j h1 h2 h3 => by rw [P3.out.1.2 i (by omega), P3.out.1.2 j (by omega)]; exact q1.out i j h1 h2 h3
              have l5 : Hid (so Y1 en b) := fun i j h1 h2 h3 => by rw [P3.out.1.2 i (by omega), P3.out.1.2 j (by omega)]; exact q2.out i j h1 h2 h3
              have l6 : Hid (sep Y1 mid en b) := fun i j h1 h2 h3 h4 => by rw [P3.out.1.2 i (by omega), P3.out.1.2 j (by omega)]; exact q3.out i j h1 h2 h3 h4
              have C2 := HIH.out mid en b Y1 w2 (by omega) S3 L3 (by omega) (by omega) (by omega) l4.out l5.out l6.out
              unfold SymQ at C2
              go_wp2_with fail
              refine C2.mono ?_
              rintro e w4 ⟨rfl, Z, S4, G4', P4', so4'⟩
              have G4 := grownBy_trans G3 G4'
              have P4 : Hid (Pm Y1 Z mid b ∧ so Z mid b) := ⟨P4', so4'⟩
              clear G4' P4' so4' C2
              go_wp2
              go_end0
              exact ⟨rfl, Z, S4, G4, (P2.out.trans (P3.out.1.wide (Nat.le_refl _) (by omega) (by omega))).trans (P4.out.1.wide (by omega) (by omega) (Nat.le_refl _)), so_join (by omega) (by omega) P3.out.1 P3.out.2 P4.out.1 P4.out.2 cr.out⟩
            · skip
              have k0 : (s : Int) < (m : Int) := by omega
              have k1 : (m : Int) < (en : Int) := by omega
              have k2 : ¬ (a : Int) < (s : Int) := by omega
              have k3 : (mid : Int) < (en : Int) := by omega
              have k4 : ¬ (en : Int) < (b : Int) := by omega
              go_wp2_with fail
              refine (rotate_any g cap n s m en X wr hS (by omega) (by omega) (by omega) hl _).mono ?_
              rintro e w2 ⟨rfl, S2, G2', P2'⟩
              have G2 := grownBy_trans hG G2'
              have L2 : g < w2.heap.size := Nat.lt_of_lt_of_le hgw G2'.size
              have P2 : Hid (Pm X (rot X s m en) a b) := P2'.wide (by omega) (by omega) (by omega)
              clear G2' P2'
              generalize rot X s m en = Y at *
              obtain ⟨Y1, hY1⟩ : ∃ Y1, Y1 = Y := ⟨_, rfl⟩
              have S3 : Sr w2 g n Y1 := by rw [hY1]; exact S2
              have G3 := G2
              have L3 := L2
              have P3 : Hid (Pm Y Y1 a mid ∧ so Y1 a mid) := by rw [hY1]; exact ⟨Pm.refl _ _ _, by have l2x := l2.out; rw [EAS.out] at l2x; exact l2x⟩
              clear hY1
              have l4 : Hid (so Y1 mid en) := fun i j h1 h2 h3 => by rw [P3.out.1.2 i (by omega), P3.out.1.2 j (by omega)]; exact q1.out i j h1 h2 h3
              have l5 : Hid (so Y1 en b) := fun i j h1 h2 h3 => by rw [P3.out.1.2 i (by omega), P3.out.1.2 j (by omega)]; exact q2.out i j h1 h2 h3
              have l6 : Hid (sep Y1 mid en b) := fun i j h1 h2 h3 h4 => by rw [P3.out.1.2 i (by omega), P3.out.1.2 j (by omega)]; exact q3.out i j h1 h2 h3 h4
              obtain ⟨Z, hZ⟩ : ∃ Z, Z = Y1 := ⟨_, rfl⟩
              have S4 : Sr w2 g n Z := by rw [hZ]; exact S3
              have G4 := G3
              have P4 : Hid (Pm Y1 Z mid b ∧ so Z mid b) := by rw [hZ]; exact ⟨Pm.refl _ _ _, by have e : en = b := (by omega); rw [← e]; exact l4.out⟩
              clear hZ
              go_wp2
              go_end0
              exact ⟨rfl, Z, S4, G4, (P2.out.trans (P3.out.1.wide (Nat.le_refl _) (by omega) (by omega))).trans (P4.out.1.wide (by omega) (by omega) (Nat.le_refl _)), so_join (by omega) (by omega) P3.out.1 P3.out.2 P4.out.1 P4.out.2 cr.out⟩
        · have ESM : Hid (s = mid) := by have := HLH.out; have := HRH.out; show _ = _; omega
          have EEN : Hid (en = m) := by have := ESM.out; show _ = _; omega
          have k0 : (s : Int) < (m : Int) := by omega
          have k1 : ¬ (m : Int) < (en : Int) := by omega
          have k2 : (a : Int) < (s : Int) := by omega
          have k3 : ¬ (s : Int) < (mid : Int) := by omega
          have k4 : (mid : Int) < (en : Int) := by omega
          have k5 : (en : Int) < (b : Int) := by omega
          have hrx : rot X s m en = X := by rw [EEN.out]; exact rot_right X s m
          have S2 : Sr wr g n (rot X s m en) := by rw [hrx]; exact hS
          have G2 := hG
          have L2 := hgw
          have P2 : Hid (Pm X (rot X s m en) a b) := by rw [hrx]; exact Pm.refl _ _ _
          clear hrx
          generalize rot X s m en = Y at *
          obtain ⟨Y1, hY1⟩ : ∃ Y1, Y1 = Y := ⟨_, rfl⟩
          have S3 : Sr wr g n Y1 := by rw [hY1]; exact S2
          have G3 := G2
          have L3 := L2
          have P3 : Hid (Pm Y Y1 a mid ∧ so Y1 a mid) := by rw [hY1]; exact ⟨Pm.refl _ _ _, by have l1x := l1.out; rw [ESM.out] at l1x; exact l1x⟩
          clear hY1
          have l4 : Hid (so Y1 mid en) := fun i j h1 h2 h3 => by rw [P3.out.1.2 i (by omega), P3.out.1.2 j (by omega)]; exact q1.out i j h1 h2 h3
          have l5 : Hid (so Y1 en b) := fun i j h1 h2 h3 => by rw [P3.out.1.2 i (by omega), P3.out.1.2 j (by omega)]; exact q2.out i j h1 h2 h3
          have l6 : Hid (sep Y1 mid en b) := fun i j h1 h2 h3 h4 => by rw [P3.out.1.2 i (by omega), P3.out.1.2 j (by omega)]; exact q3.out i j h1 h2 h3 h4
          have C2 := HIH.out mid en b Y1 wr (by omega) S3 L3 (by omega) (by omega) (by omega) l4.out l5.out l6.out
          unfold SymQ at C2
          go_wp2_with fail
          refine C2.mono ?_
          rintro e w4 ⟨rfl, Z, S4, G4', P4', so4'⟩
          have G4 := grownBy_trans G3 G4'
          have P4 : Hid (Pm Y1 Z mid b ∧ so Z mid b) := ⟨P4', so4'⟩
          clear G4' P4' so4' C2
          go_wp2
          go_end0
          exact ⟨rfl, Z, S4, G4, (P2.out.trans (P3.out.1.wide (Nat.le_refl _) (by omega) (by omega))).trans (P4.out.1.wide (by omega) (by omega) (Nat.le_refl _)), so_join (by omega) (by omega) P3.out.1 P3.out.2 P4.out.1 P4.out.2 cr.out⟩
  · have hcmi : ¬ (mid : Int) < (m : Int) := by omega
    have HRH : Hid (m = hi) := by have := HDF.out; show _ = _; omega
    have HRL : Hid (a = lo) := by have := HDF.out; show _ = _; omega
    go_wp2_with fail
    go_loopw [20, 21] (fun ti tj wr => ∃ s r : Nat, lo ≤ s ∧ s ≤ r ∧ r ≤ hi ∧ ti = .int .i64 (s : Int) ∧ tj = .int .i64 (r : Int) ∧ Sr wr g n X ∧ g < wr.heap.size ∧ w.grownBy wr (some g) ∧ Hid (srch (tst X p) lo hi s r)) (fun ti tj _ => (intOf tj).toNat - (intOf ti).toNat)
    case atStart => exact ⟨a, m, by have := HRL.out; omega, by have := HRH.out; have := HRL.out; omega, by have := HRH.out; omega, rfl, rfl, h, hg, World.grownBy.refl _ _, (by rw [HRL.out, HRH.out]; have := hpn; exact ⟨Nat.le_refl _, by omega, Nat.le_refl _, fun c h1 h2 => by omega, fun c h1 h2 => by omega⟩ : srch _ _ _ _ _)⟩
    case round =>
      obtain ⟨s, r, hls, hsr, hrh, rfl, rfl, hS, hgw, hG, HS⟩ := hrel
      by_cases hlt : s < r
      · have hlti : (s : Int) < (r : Int) := by omega
        obtain ⟨c, hc⟩ : ∃ c, c = (s + r) / 2 := ⟨_, rfl⟩
        have rc : ((s : Int) + (r : Int)) / 2 = (c : Int) := by omega
        have hic : s ≤ c := by omega
        have hcj : c < r := by omega
        obtain ⟨q, hq⟩ : ∃ q, q = p - c := ⟨_, rfl⟩
        have hbc := HBC.out c (by omega) (by omega)
        have rq : (p : Int) - (c : Int) = (q : Int) := by omega
        have HQ : Hid (q = p - c) := hq
        have hqb : q < b ∧ c < m := by omega
        clear hc hq hbc
        have i1 := hS.it (k := q) (by omega)
        have i2 := hS.it (k := c) (by omega)
        have T0 := two_of i1 i2
        unfold Two at T0
        have z0 : (q : Int) < (n : Int) := by omega
        have z1 : (c : Int) < (n : Int) := by omega
        have z2 : (0 : Int) ≤ (q : Int) := by omega
        have z3 : (0 : Int) ≤ (c : Int) := by omega
        have hwp : IntKind.i64.wrap (q : Int) = (q : Int) := by rw [IntKind.wrap_i64]; omega
        have HC : Hid (∀ W, Below wr.heap.size wr W → Calls Tryz.prog 115 #[(X q).val, (X c).val] W fun e w' => e = .returned (.int .i64 (cmpV (X q) (X c))) ∧ Below wr.heap.size wr w') := fun W hW => (cmp_any (X q) (X c) W).mono fun e w' ⟨h1, h2⟩ => ⟨h1, hW.trans (h2.mono hW.size)⟩
        have HK : Hid (∀ W, Below wr.heap.size wr W → Two g q c (X q) (X c) W) := fun W hW => two_old (two_of i1 i2) hW
        unfold Two at HK
        unfold Im.val at HC
        have d1 : Below wr.heap.size wr wr.drew := (Below.refl _ _).drew
        have d0 : Below wr.heap.size wr wr := Below.refl _ _
        have HNEG : Hid (cmpV (X q) (X c) < 0 ↔ (X q).wt < (X c).wt) := cmpV_neg _ _
        have hbd := cmpV_bd (X q) (X c)
        generalize cmpV (X q) (X c) = cv at *
        clear i1 i2
        by_cases hcv : cv < 0
        · have HS2 : Hid (srch (tst X p) lo hi s c) := srch_down HS.out HMono.out hic hcj (by have := HNEG.out.1 hcv; unfold tst; rw [← HQ.out]; exact this)
          go_wp2_with fail
          go_region_held3 (fun w' => (w'.cell? ⟨g, q * 4, none⟩ = some (.int .i64 (X q).wt) ∧ w'.cell? ⟨g, q * 4 + 1, none⟩ = some (.int .i64 (X q).sy) ∧ w'.cell? ⟨g, q * 4 + 2, none⟩ = some (.pointer (X q).fs) ∧ w'.cell? ⟨g, q * 4 + 3, none⟩ = some (.pointer (X q).sn)) ∧ (w'.cell? ⟨g, c * 4, none⟩ = some (.int .i64 (X c).wt) ∧ w'.cell? ⟨g, c * 4 + 1, none⟩ = some (.int .i64 (X c).sy) ∧ w'.cell? ⟨g, c * 4 + 2, none⟩ = some (.pointer (X c).fs) ∧ w'.cell? ⟨g, c * 4 + 3, none⟩ = some (.pointer (X c).sn)))
            (first | go_keep | (exact HK.out _ (by assumption)))
            (first | (go_at_call 115; refine (HC.out _ (by assumption)).mono ?_; rintro e w7 ⟨rfl, b7⟩))
          have S7 := hS.old hgw b7
          have G7 : w.grownBy w7 (some g) := grownBy_trans hG (grown_old b7 _)
          have L7 : g < w7.heap.size := Nat.lt_of_lt_of_le hgw b7.size
          clear T0 HC HK d1 d0 b7
          go_wp2
          go_roundw
          case rel => exact ⟨s, c, hls, by omega, by omega, rfl, rfl, S7, L7, G7, HS2.out⟩
          case measure => simp [intOf]; omega
        · have hcd : decide (cv < 0) = false := decide_eq_false hcv
          have HS2 : Hid (srch (tst X p) lo hi (c + 1) r) := srch_up HS.out HMono.out hic hcj (by have := HNEG.out; unfold tst; rw [← HQ.out]; intro hh; exact hcv (this.2 hh))
          go_wp2_with fail
          go_region_held3 (fun w' => (w'.cell? ⟨g, q * 4, none⟩ = some (.int .i64 (X q).wt) ∧ w'.cell? ⟨g, q * 4 + 1, none⟩ = some (.int .i64 (X q).sy) ∧ w'.cell? ⟨g, q * 4 + 2, none⟩ = some (.pointer (X q).fs) ∧ w'.cell? ⟨g, q * 4 + 3, none⟩ = some (.pointer (X q).sn)) ∧ (w'.cell? ⟨g, c * 4, none⟩ = some (.int .i64 (X c).wt) ∧ w'.cell? ⟨g, c * 4 + 1, none⟩ = some (.int .i64 (X c).sy) ∧ w'.cell? ⟨g, c * 4 + 2, none⟩ = some (.pointer (X c).fs) ∧ w'.cell? ⟨g, c * 4 + 3, none⟩ = some (.pointer (X c).sn)))
            (first | go_keep | (exact HK.out _ (by assumption)))
            (first | (go_at_call 115; refine (HC.out _ (by assumption)).mono ?_; rintro e w7 ⟨rfl, b7⟩))
          have S7 := hS.old hgw b7
          have G7 : w.grownBy w7 (some g) := grownBy_trans hG (grown_old b7 _)
          have L7 : g < w7.heap.size := Nat.lt_of_lt_of_le hgw b7.size
          clear T0 HC HK d1 d0 b7
          go_wp2
          go_roundw
          case rel => exact ⟨c + 1, r, by omega, by omega, hrh, by go_num, rfl, S7, L7, G7, HS2.out⟩
          case measure => simp [intOf]; omega
      · obtain rfl : s = r := by omega
        obtain ⟨en, hen⟩ : ∃ en, en = mid + m - s := ⟨_, rfl⟩
        obtain ⟨t1, t2, t3, t4, t5, t6, ⟨l1', l2', l3'⟩, ⟨q1', q2', q3'⟩, cr'⟩ := HTN.out s HS.out
        rw [← hen] at t4 t5 t6 l1' l2' l3' q1' q2' q3' cr'
        have ren : (N : Int) - (s : Int) = (en : Int) := by have := HDF.out; omega
        have l1 : Hid _ := l1'
        have l2 : Hid _ := l2'
        have l3 : Hid _ := l3'
        have q1 : Hid _ := q1'
        have q2 : Hid _ := q2'
        have q3 : Hid _ := q3'
        have cr : Hid _ := cr'
        have hab4 : a + 4 ≤ b := by omega
        have hsm : a < mid ∧ mid + m = s + en := by have := HDF.out; omega
        clear l1' l2' l3' q1' q2' q3' cr' HS hen hlt HMono HBC HTN hr1 hr2 hs h
        by_cases cA : s < m ∧ s < mid
        · by_cases c2 : a < s
          · by_cases c3 : en < b
            · skip
              have k0 : (s : Int) < (m : Int) := by omega
              have k1 : (m : Int) < (en : Int) := by omega
              have k2 : (a : Int) < (s : Int) := by omega
              have k3 : (s : Int) < (mid : Int) := by omega
              have k4 : (mid : Int) < (en : Int) := by omega
              have k5 : (en : Int) < (b : Int) := by omega
              go_wp2_with fail
              refine (rotate_any g cap n s m en X wr hS (by omega) (by omega) (by omega) hl _).mono ?_
              rintro e w2 ⟨rfl, S2, G2', P2'⟩
              have G2 := grownBy_trans hG G2'
              have L2 : g < w2.heap.size := Nat.lt_of_lt_of_le hgw G2'.size
              have P2 : Hid (Pm X (rot X s m en) a b) := P2'.wide (by omega) (by omega) (by omega)
              clear G2' P2'
              generalize rot X s m en = Y at *
              have C1 := HIH.out a s mid Y w2 (by omega) S2 L2 (by omega) (by omega) (by omega) l1.out l2.out l3.out
              unfold SymQ at C1
              go_wp2_with fail
              refine C1.mono ?_
              rintro e w3 ⟨rfl, Y1, S3, G3', P3', so3'⟩
              have G3 := grownBy_trans G2 G3'
              have L3 : g < w3.heap.size := Nat.lt_of_lt_of_le L2 G3'.size
              have P3 : Hid (Pm Y Y1 a mid ∧ so Y1 a mid) := ⟨P3', so3'⟩
              clear G3' P3' so3' C1
              have l4 : Hid (so Y1 mid en) := fun i j h1 h2 h3 => by rw [P3.out.1.2 i (by omega), P3.out.1.2 j (by omega)]; exact q1.out i j h1 h2 h3
              have l5 : Hid (so Y1 en b) := fun i j h1 h2 h3 => by rw [P3.out.1.2 i (by omega), P3.out.1.2 j (by omega)]; exact q2.out i j h1 h2 h3
              have l6 : Hid (sep Y1 mid en b) := fun i j h1 h2 h3 h4 => by rw [P3.out.1.2 i (by omega), P3.out.1.2 j (by omega)]; exact q3.out i j h1 h2 h3 h4
              have C2 := HIH.out mid en b Y1 w3 (by omega) S3 L3 (by omega) (by omega) (by omega) l4.out l5.out l6.out
              unfold SymQ at C2
              go_wp2_with fail
              refine C2.mono ?_
              rintro e w4 ⟨rfl, Z, S4, G4', P4', so4'⟩
              have G4 := grownBy_trans G3 G4'
              have P4 : Hid (Pm Y1 Z mid b ∧ so Z mid b) := ⟨P4', so4'⟩
              clear G4' P4' so4' C2
              go_wp2
              go_end0
              exact ⟨rfl, Z, S4, G4, (P2.out.trans (P3.out.1.wide (Nat.le_refl _) (by omega) (by omega))).trans (P4.out.1.wide (by omega) (by omega) (Nat.le_refl _)), so_join (by omega) (by omega) P3.out.1 P3.out.2 P4.out.1 P4.out.2 cr.out⟩
            · skip
              have k0 : (s : Int) < (m : Int) := by omega
              have k1 : (m : Int) < (en : Int) := by omega
              have k2 : (a : Int) < (s : Int) := by omega
              have k3 : (s : Int) < (mid : Int) := by omega
              have k4 : (mid : Int) < (en : Int) := by omega
              have k5 : ¬ (en : Int) < (b : Int) := by omega
              go_wp2_with fail
              refine (rotate_any g cap n s m en X wr hS (by omega) (by omega) (by omega) hl _).mono ?_
              rintro e w2 ⟨rfl, S2, G2', P2'⟩
              have G2 := grownBy_trans hG G2'
              have L2 : g < w2.heap.size := Nat.lt_of_lt_of_le hgw G2'.size
              have P2 : Hid (Pm X (rot X s m en) a b) := P2'.wide (by omega) (by omega) (by omega)
              clear G2' P2'
              generalize rot X s m en = Y at *
              have C1 := HIH.out a s mid Y w2 (by omega) S2 L2 (by omega) (by omega) (by omega) l1.out l2.out l3.out
              unfold SymQ at C1
              go_wp2_with fail
              refine C1.mono ?_
              rintro e w3 ⟨rfl, Y1, S3, G3', P3', so3'⟩
              have G3 := grownBy_trans G2 G3'
              have L3 : g < w3.heap.size := Nat.lt_of_lt_of_le L2 G3'.size
              have P3 : Hid (Pm Y Y1 a mid ∧ so Y1 a mid) := ⟨P3', so3'⟩
              clear G3' P3' so3' C1
              have l4 : Hid (so Y1 mid en) := fun i j h1 h2 h3 => by rw [P3.out.1.2 i (by omega), P3.out.1.2 j (by omega)]; exact q1.out i j h1 h2 h3
              have l5 : Hid (so Y1 en b) := fun i j h1 h2 h3 => by rw [P3.out.1.2 i (by omega), P3.out.1.2 j (by omega)]; exact q2.out i j h1 h2 h3
              have l6 : Hid (sep Y1 mid en b) := fun i j h1 h2 h3 h4 => by rw [P3.out.1.2 i (by omega), P3.out.1.2 j (by omega)]; exact q3.out i j h1 h2 h3 h4
              obtain ⟨Z, hZ⟩ : ∃ Z, Z = Y1 := ⟨_, rfl⟩
              have S4 : Sr w3 g n Z := by rw [hZ]; exact S3
              have G4 := G3
              have P4 : Hid (Pm Y1 Z mid b ∧ so Z mid b) := by rw [hZ]; exact ⟨Pm.refl _ _ _, by have e : en = b := (by omega); rw [← e]; exact l4.out⟩
              clear hZ
              go_wp2
              go_end0
              exact ⟨rfl, Z, S4, G4, (P2.out.trans (P3.out.1.wide (Nat.le_refl _) (by omega) (by omega))).trans (P4.out.1.wide (by omega) (by omega) (Nat.le_refl _)), so_join (by omega) (by omega) P3.out.1 P3.out.2 P4.out.1 P4.out.2 cr.out⟩
          · have EAS : Hid (s = a) := by show _ = _; omega
            by_cases c3 : en < b
            · skip
              have k0 : (s : Int) < (m : Int) := by omega
              have k1 : (m : Int) < (en : Int) := by omega
              have k2 : ¬ (a : Int) < (s : Int) := by omega
              have k3 : (mid : Int) < (en : Int) := by omega
              have k4 : (en : Int) < (b : Int) := by omega
              go_wp2_with fail
              refine (rotate_any g cap n s m en X wr hS (by omega) (by omega) (by omega) hl _).mono ?_
              rintro e w2 ⟨rfl, S2, G2', P2'⟩
              have G2 := grownBy_trans hG G2'
              have L2 : g < w2.heap.size := Nat.lt_of_lt_of_le hgw G2'.size
              have P2 : Hid (Pm X (rot X s m en) a b) := P2'.wide (by omega) (by omega) (by omega)
              clear G2' P2'
              generalize rot X s m en = Y at *
              obtain ⟨Y1, hY1⟩ : ∃ Y1, Y1 = Y := ⟨_, rfl⟩
              have S3 : Sr w2 g n Y1 := by rw [hY1]; exact S2
              have G3 := G2
              have L3 := L2
              have P3 : Hid (Pm Y Y1 a mid ∧ so Y1 a mid) := by rw [hY1]; exact ⟨Pm.refl _ _ _, by have l2x := l2.out; rw [EAS.out] at l2x; exact l2x⟩
              clear hY1
              have l4 : Hid (so Y1 mid en) := fun i j h1 h2 h3 => by rw [P3.out.1.2 i (by omega), P3.out.1.2 j (by omega)]; exact q1.out i j h1 h2 h3
              have l5 : Hid (so Y1 en b) := fun i j h1 h2 h3 => by rw [P3.out.1.2 i (by omega), P3.out.1.2 j (by omega)]; exact q2.out i j h1 h2 h3
              have l6 : Hid (sep Y1 mid en b) := fun i j h1 h2 h3 h4 => by rw [P3.out.1.2 i (by omega), P3.out.1.2 j (by omega)]; exact q3.out i j h1 h2 h3 h4
              have C2 := HIH.out mid en b Y1 w2 (by omega) S3 L3 (by omega) (by omega) (by omega) l4.out l5.out l6.out
              unfold SymQ at C2
              go_wp2_with fail
              refine C2.mono ?_
              rintro e w4 ⟨rfl, Z, S4, G4', P4', so4'⟩
              have G4 := grownBy_trans G3 G4'
              have P4 : Hid (Pm Y1 Z mid b ∧ so Z mid b) := ⟨P4', so4'⟩
              clear G4' P4' so4' C2
              go_wp2
              go_end0
              exact ⟨rfl, Z, S4, G4, (P2.out.trans (P3.out.1.wide (Nat.le_refl _) (by omega) (by omega))).trans (P4.out.1.wide (by omega) (by omega) (Nat.le_refl _)), so_join (by omega) (by omega) P3.out.1 P3.out.2 P4.out.1 P4.out.2 cr.out⟩
            · skip
              have k0 : (s : Int) < (m : Int) := by omega
              have k1 : (m : Int) < (en : Int) := by omega
              have k2 : ¬ (a : Int) < (s : Int) := by omega
              have k3 : (mid : Int) < (en : Int) := by omega
              have k4 : ¬ (en : Int) < (b : Int) := by omega
              go_wp2_with fail
              refine (rotate_any g cap n s m en X wr hS (by omega) (by omega) (by omega) hl _).mono ?_
              rintro e w2 ⟨rfl, S2, G2', P2'⟩
              have G2 := grownBy_trans hG G2'
              have L2 : g < w2.heap.size := Nat.lt_of_lt_of_le hgw G2'.size
              have P2 : Hid (Pm X (rot X s m en) a b) := P2'.wide (by omega) (by omega) (by omega)
              clear G2' P2'
              generalize rot X s m en = Y at *
              obtain ⟨Y1, hY1⟩ : ∃ Y1, Y1 = Y := ⟨_, rfl⟩
              have S3 : Sr w2 g n Y1 := by rw [hY1]; exact S2
              have G3 := G2
              have L3 := L2
              have P3 : Hid (Pm Y Y1 a mid ∧ so Y1 a mid) := by rw [hY1]; exact ⟨Pm.refl _ _ _, by have l2x := l2.out; rw [EAS.out] at l2x; exact l2x⟩
              clear hY1
              have l4 : Hid (so Y1 mid en) := fun i j h1 h2 h3 => by rw [P3.out.1.2 i (by omega), P3.out.1.2 j (by omega)]; exact q1.out i j h1 h2 h3
              have l5 : Hid (so Y1 en b) := fun i j h1 h2 h3 => by rw [P3.out.1.2 i (by omega), P3.out.1.2 j (by omega)]; exact q2.out i j h1 h2 h3
              have l6 : Hid (sep Y1 mid en b) := fun i j h1 h2 h3 h4 => by rw [P3.out.1.2 i (by omega), P3.out.1.2 j (by omega)]; exact q3.out i j h1 h2 h3 h4
              obtain ⟨Z, hZ⟩ : ∃ Z, Z = Y1 := ⟨_, rfl⟩
              have S4 : Sr w2 g n Z := by rw [hZ]; exact S3
              have G4 := G3
              have P4 : Hid (Pm Y1 Z mid b ∧ so Z mid b) := by rw [hZ]; exact ⟨Pm.refl _ _ _, by have e : en = b := (by omega); rw [← e]; exact l4.out⟩
              clear hZ
              go_wp2
              go_end0
              exact ⟨rfl, Z, S4, G4, (P2.out.trans (P3.out.1.wide (Nat.le_refl _) (by omega) (by omega))).trans (P4.out.1.wide (by omega) (by omega) (Nat.le_refl _)), so_join (by omega) (by omega) P3.out.1 P3.out.2 P4.out.1 P4.out.2 cr.out⟩
        · have ESM : Hid (s = m) := by have := HLH.out; have := HRH.out; show _ = _; omega
          have EEN : Hid (en = mid) := by have := ESM.out; show _ = _; omega
          by_cases c2 : s < mid
          · skip
            have k0 : ¬ (s : Int) < (m : Int) := by omega
            have k1 : (a : Int) < (s : Int) := by omega
            have k2 : (s : Int) < (mid : Int) := by omega
            have k3 : ¬ (mid : Int) < (en : Int) := by omega
            have hrx : rot X s m en = X := by rw [ESM.out]; exact rot_left X m en
            have S2 : Sr wr g n (rot X s m en) := by rw [hrx]; exact hS
            have G2 := hG
            have L2 := hgw
            have P2 : Hid (Pm X (rot X s m en) a b) := by rw [hrx]; exact Pm.refl _ _ _
            clear hrx
            generalize rot X s m en = Y at *
            have C1 := HIH.out a s mid Y wr (by omega) S2 L2 (by omega) (by omega) (by omega) l1.out l2.out l3.out
            unfold SymQ at C1
            go_wp2_with fail
            refine C1.mono ?_
            rintro e w3 ⟨rfl, Y1, S3, G3', P3', so3'⟩
            have G3 := grownBy_trans G2 G3'
            have L3 : g < w3.heap.size := Nat.lt_of_lt_of_le L2 G3'.size
            have P3 : Hid (Pm Y Y1 a mid ∧ so Y1 a mid) := ⟨P3', so3'⟩
            clear G3' P3' so3' C1
            have l4 : Hid (so Y1 mid en) := fun i j h1 h2 h3 => by rw [P3.out.1.2 i (by omega), P3.out.1.2 j (by omega)]; exact q1.out i j h1 h2 h3
            have l5 : Hid (so Y1 en b) := fun i j h1 h2 h3 => by rw [P3.out.1.2 i (by omega), P3.out.1.2 j (by omega)]; exact q2.out i j h1 h2 h3
            have l6 : Hid (sep Y1 mid en b) := fun i j h1 h2 h3 h4 => by rw [P3.out.1.2 i (by omega), P3.out.1.2 j (by omega)]; exact q3.out i j h1 h2 h3 h4
            obtain ⟨Z, hZ⟩ : ∃ Z, Z = Y1 := ⟨_, rfl⟩
            have S4 : Sr w3 g n Z := by rw [hZ]; exact S3
            have G4 := G3
            have P4 : Hid (Pm Y1 Z mid b ∧ so Z mid b) := by rw [hZ]; exact ⟨Pm.refl _ _ _, by have l5x := l5.out; rw [EEN.out] at l5x; exact l5x⟩
            clear hZ
            go_wp2
            go_end0
            exact ⟨rfl, Z, S4, G4, (P2.out.trans (P3.out.1.wide (Nat.le_refl _) (by omega) (by omega))).trans (P4.out.1.wide (by omega) (by omega) (Nat.le_refl _)), so_join (by omega) (by omega) P3.out.1 P3.out.2 P4.out.1 P4.out.2 cr.out⟩
          · have EMS : Hid (s = mid) := by show _ = _; omega
            have k0 : ¬ (s : Int) < (m : Int) := by omega
            have k1 : (a : Int) < (s : Int) := by omega
            have k2 : ¬ (s : Int) < (mid : Int) := by omega
            have k3 : ¬ (mid : Int) < (en : Int) := by omega
            have hrx : rot X s m en = X := by rw [ESM.out]; exact rot_left X m en
            have S2 : Sr wr g n (rot X s m en) := by rw [hrx]; exact hS
            have G2 := hG
            have L2 := hgw
            have P2 : Hid (Pm X (rot X s m en) a b) := by rw [hrx]; exact Pm.refl _ _ _
            clear hrx
            generalize rot X s m en = Y at *
            obtain ⟨Y1, hY1⟩ : ∃ Y1, Y1 = Y := ⟨_, rfl⟩
            have S3 : Sr wr g n Y1 := by rw [hY1]; exact S2
            have G3 := G2
            have L3 := L2
            have P3 : Hid (Pm Y Y1 a mid ∧ so Y1 a mid) := by rw [hY1]; exact ⟨Pm.refl _ _ _, by have l1x := l1.out; rw [EMS.out] at l1x; exact l1x⟩
            clear hY1
            have l4 : Hid (so Y1 mid en) := fun i j h1 h2 h3 => by rw [P3.out.1.2 i (by omega), P3.out.1.2 j (by omega)]; exact q1.out i j h1 h2 h3
            have l5 : Hid (so Y1 en b) := fun i j h1 h2 h3 => by rw [P3.out.1.2 i (by omega), P3.out.1.2 j (by omega)]; exact q2.out i j h1 h2 h3
            have l6 : Hid (sep Y1 mid en b) := fun i j h1 h2 h3 h4 => by rw [P3.out.1.2 i (by omega), P3.out.1.2 j (by omega)]; exact q3.out i j h1 h2 h3 h4
            obtain ⟨Z, hZ⟩ : ∃ Z, Z = Y1 := ⟨_, rfl⟩
            have S4 : Sr wr g n Z := by rw [hZ]; exact S3
            have G4 := G3
            have P4 : Hid (Pm Y1 Z mid b ∧ so Z mid b) := by rw [hZ]; exact ⟨Pm.refl _ _ _, by have l5x := l5.out; rw [EEN.out] at l5x; exact l5x⟩
            clear hZ
            go_wp2
            go_end0
            exact ⟨rfl, Z, S4, G4, (P2.out.trans (P3.out.1.wide (Nat.le_refl _) (by omega) (by omega))).trans (P4.out.1.wide (by omega) (by omega) (Nat.le_refl _)), so_join (by omega) (by omega) P3.out.1 P3.out.2 P4.out.1 P4.out.2 cr.out⟩
end Go.Proofs.YtcifalelnfeggaaGreatDoor

namespace Go.Proofs.YtcifalelnfeggaaGreatDoor
open Go.RowKit
set_option linter.unusedVariables false

theorem sym_any (g n cap : Nat) (hl : n ≤ 100000) : ∀ (N a m b : Nat) (X : Nat → Im) (w : World), b - a ≤ N → Sr w g n X → g < w.heap.size → b ≤ n → a < m → m < b → so X a m → so X m b → sep X a m b → SymQ g n cap a m b X w := by
  intro N
  induction N using Nat.strongRecOn with
  | ind N ih =>
    intro a m b X w hN hS hg hb ham hmb h1 h2 h3
    by_cases c1 : m = a + 1
    · exact sym_first g n cap a m b X w hS hg hb hl c1 hmb h2 h3
    · by_cases c2 : b = m + 1
      · exact sym_last g n cap a m b X w hS hg hb hl (by omega) c2 h1 h3
      · exact sym_gen g n cap a m b X w hS hg hb hl (by omega) (by omega) h1 h2 h3 (fun a' m' b' X' w' hlt s1 s2 s3 s4 s5 s6 s7 s8 => ih (b' - a') (by omega) a' m' b' X' w' (Nat.le_refl _) s1 s2 s3 s4 s5 s6 s7 s8)

/-- Blocks of 20 up to a are in order. -/
structure Iv (X Y : Nat → Im) (n a : Nat) : Prop where
  pm : Pm X Y 0 n
  so : ∀ i j, i < j → j < a → i / 20 = j / 20 → kl (Y i) (Y j)
  se : ∀ i j, i < j → j < n → (i / 20 < j / 20 ∨ a ≤ i) → (Y i).sy < (Y j).sy
theorem Iv.step {X Y Z : Nat → Im} {n a e : Nat} (h : Iv X Y n a) (ha : a % 20 = 0) (h1 : a ≤ e) (h2 : e ≤ a + 20) (h3 : e ≤ n) (p : Pm Y Z a e) (s : Go.Proofs.YtcifalelnfeggaaGreatDoor.so Z a e) : Iv X Z n e := by
  have key : ∀ i, i < n → ∃ i', i' < n ∧ Z i = Y i' ∧ i' / 20 = i / 20 ∧ (i < a → i' = i) ∧ (e ≤ i → i' = i) ∧ (a ≤ i → a ≤ i') := by
    intro i hi
    by_cases c : a ≤ i ∧ i < e
    · obtain ⟨i', q1, q2, q3⟩ := p.mem c.1 c.2
      exact ⟨i', by omega, q3, by omega, by omega, by omega, by omega⟩
    · exact ⟨i, hi, p.2 i (by omega), rfl, fun _ => rfl, fun _ => rfl, fun q => q⟩
  refine ⟨h.pm.trans (p.wide (Nat.zero_le _) h1 h3), fun i j hij hj hb => ?_, fun i j hij hj hb => ?_⟩
  · by_cases c : a ≤ i
    · exact s i j c hij hj
    · have hja : j < a := by omega
      rw [p.2 i (by omega), p.2 j (by omega)]
      exact h.so i j hij hja hb
  · obtain ⟨i', a1, a2, a3, a4, a5, a6⟩ := key i (by omega)
    obtain ⟨j', b1, b2, b3, b4, b5, b6⟩ := key j hj
    rw [a2, b2]
    rcases hb with hb | hb
    · exact h.se i' j' (by omega) b1 (.inl (by omega))
    · have e1 := a5 hb
      have e2 := b5 (by omega)
      rw [e1, e2]
      exact h.se i j hij hj (.inr (by omega))
/-- Blocks of twice bs up to a, of bs from there on, are in order. -/
structure Jv (X Y : Nat → Im) (n bs a : Nat) : Prop where
  pm : Pm X Y 0 n
  so : ∀ i j, i < j → j < n → ((j < a ∧ i / (2 * bs) = j / (2 * bs)) ∨ (a ≤ i ∧ i / bs = j / bs)) → kl (Y i) (Y j)
  se : ∀ i j, i < j → j < n → (i / (2 * bs) < j / (2 * bs) ∨ (a ≤ i ∧ i / bs < j / bs)) → (Y i).sy < (Y j).sy
theorem Iv.whole {X Y : Nat → Im} {n : Nat} (h : Iv X Y n n) : Jv X Y n 20 0 :=
  ⟨h.pm, fun i j hij hj hb => h.so i j hij hj (by omega), fun i j hij hj hb => h.se i j hij hj (.inl (by omega))⟩
def bsOk (bs : Nat) : Prop := bs = 20 ∨ bs = 40 ∨ bs = 80 ∨ bs = 160
theorem Jv.pre {X Y : Nat → Im} {n bs a e : Nat} (h : Jv X Y n bs a) (hb : bsOk bs) (ha : a % (2 * bs) = 0) (h1 : a + bs < e) (h2 : e ≤ a + 2 * bs) (h3 : e ≤ n) :
    Go.Proofs.YtcifalelnfeggaaGreatDoor.so Y a (a + bs) ∧ Go.Proofs.YtcifalelnfeggaaGreatDoor.so Y (a + bs) e ∧ sep Y a (a + bs) e := by
  rcases hb with rfl | rfl | rfl | rfl
  all_goals
    refine ⟨fun i j p q r => h.so i j q (by omega) (.inr ⟨p, by omega⟩), fun i j p q r => h.so i j q (by omega) (.inr ⟨by omega, by omega⟩), fun i j p q r t => h.se i j (by omega) (by omega) (.inr ⟨p, by omega⟩)⟩
theorem Jv.step {X Y Z : Nat → Im} {n bs a e : Nat} (h : Jv X Y n bs a) (hb : bsOk bs) (ha : a % (2 * bs) = 0) (h1 : a < e) (h2 : e ≤ a + 2 * bs) (h3 : e ≤ n) (h4 : e = a + 2 * bs ∨ e = n) (p : Pm Y Z a e) (s : Go.Proofs.YtcifalelnfeggaaGreatDoor.so Z a e) : Jv X Z n bs e := by
  rcases hb with rfl | rfl | rfl | rfl
  all_goals
    refine ⟨h.pm.trans (p.wide (Nat.zero_le _) (by omega) h3), fun i j hij hj hb => ?_, fun i j hij hj hb => ?_⟩
    · by_cases c : a ≤ i ∧ j < e
      · exact s i j c.1 hij c.2
      · have c1 : i < a ∨ e ≤ i := by omega
        have c2 : j < a ∨ e ≤ j := by omega
        rw [p.2 i c1, p.2 j c2]
        exact h.so i j hij hj (by omega)
    · obtain ⟨i', a1, a2, a3⟩ : ∃ i', i' < n ∧ Z i = Y i' ∧ ((a ≤ i ∧ i < e ∧ a ≤ i' ∧ i' < e) ∨ (i' = i ∧ (i < a ∨ e ≤ i))) := by
        by_cases c : a ≤ i ∧ i < e
        · obtain ⟨i', q1, q2, q3⟩ := p.mem c.1 c.2
          exact ⟨i', by omega, q3, .inl ⟨c.1, c.2, q1, q2⟩⟩
        · exact ⟨i, by omega, p.2 i (by omega), .inr ⟨rfl, by omega⟩⟩
      obtain ⟨j', b1, b2, b3⟩ : ∃ j', j' < n ∧ Z j = Y j' ∧ ((a ≤ j ∧ j < e ∧ a ≤ j' ∧ j' < e) ∨ (j' = j ∧ (j < a ∨ e ≤ j))) := by
        by_cases c : a ≤ j ∧ j < e
        · obtain ⟨j', q1, q2, q3⟩ := p.mem c.1 c.2
          exact ⟨j', by omega, q3, .inl ⟨c.1, c.2, q1, q2⟩⟩
        · exact ⟨j, hj, p.2 j (by omega), .inr ⟨rfl, by omega⟩⟩
      rw [a2, b2]
      exact h.se i' j' (by omega) b1 (by omega)
theorem Jv.double {X Y : Nat → Im} {n bs : Nat} (h : Jv X Y n bs n) (hb : bsOk bs) : Jv X Y n (2 * bs) 0 := by
  rcases hb with rfl | rfl | rfl | rfl
  all_goals exact ⟨h.pm, fun i j hij hj hb => h.so i j hij hj (.inl ⟨hj, by omega⟩), fun i j hij hj hb => h.se i j hij hj (.inl (by omega))⟩
/-- What is left over is one block. -/
theorem Jv.rest {X Y : Nat → Im} {n bs a : Nat} (h : Jv X Y n bs a) (hb : bsOk bs) (ha : a % (2 * bs) = 0) (h1 : a ≤ n) (h2 : n ≤ a + bs) : Jv X Y n bs n := by
  rcases hb with rfl | rfl | rfl | rfl
  all_goals exact ⟨h.pm, fun i j hij hj hb => h.so i j hij hj (by omega), fun i j hij hj hb => h.se i j hij hj (by omega)⟩
theorem Jv.last {X Y : Nat → Im} {n bs : Nat} (h : Jv X Y n bs 0) (hn : n ≤ bs) : Pm X Y 0 n ∧ Go.Proofs.YtcifalelnfeggaaGreatDoor.so Y 0 n :=
  ⟨h.pm, fun i j _ hij hj => h.so i j hij hj (.inr ⟨Nat.zero_le _, by rw [Nat.div_eq_of_lt (by omega), Nat.div_eq_of_lt (by omega)]⟩)⟩

set_option maxHeartbeats 2000000 in
set_option maxRecDepth 100000 in
theorem stable_any (g cap n : Nat) (X : Nat → Im) (w : World) (h : Sr w g n X) (hg : g < w.heap.size) (hl : n ≤ 288) (hs : ∀ i j, i < j → j < n → (X i).sy < (X j).sy) :
    Calls Tryz.prog 137 #[.slice (some ⟨g, 0, none⟩) n cap, .int .i64 n, cmpF] w fun e w' => e = .returned (.tuple #[]) ∧ ∃ Y, Sr w' g n Y ∧ w.grownBy w' (some g) ∧ Pm X Y 0 n ∧ so Y 0 n := by
  go_enter Tryz.func137, Tryz.ntmps137
  go_wp2_with fail
  go_loopw [7, 8] (fun ta tb wr => ∃ (a b : Nat) (Y : Nat → Im), a ≤ n ∧ b = a + 20 ∧ ta = .int .i64 (a : Int) ∧ tb = .int .i64 (b : Int) ∧ Sr wr g n Y ∧ g < wr.heap.size ∧ w.grownBy wr (some g) ∧ Hid (Iv X Y n a ∧ a % 20 = 0)) (fun ta _ _ => n + 1 - (intOf ta).toNat)
  case atStart => exact ⟨0, 20, X, Nat.zero_le _, rfl, rfl, rfl, h, hg, World.grownBy.refl _ _, (⟨⟨Pm.refl _ _ _, fun i j h1 h2 => by omega, fun i j h1 h2 _ => hs i j h1 h2⟩, rfl⟩ : _ ∧ _)⟩
  case round =>
    obtain ⟨a, b, Y, han, hb, rfl, rfl, hS, hgw, hG, HI⟩ := hrel
    have HB : Hid (b = a + 20) := hb
    have hab : a ≤ b ∧ b ≤ 308 := by omega
    clear hb
    by_cases hbn : b ≤ n
    · have hbni : (b : Int) ≤ (n : Int) := by omega
      have CI := insSort_any g cap n a b Y wr hS hgw (by omega) hbn (by omega) (fun i j h1 h2 h3 => HI.out.1.se i j h2 (by omega) (.inr h1))
      go_wp2_with fail
      refine CI.mono ?_
      rintro e w2 ⟨rfl, Z, S2, G2, P2, so2⟩
      have HI2 : Hid (Iv X Z n b ∧ b % 20 = 0) := ⟨HI.out.1.step HI.out.2 (by omega) (by have := HB.out; omega) hbn P2 so2, by have := HB.out; have := HI.out.2; omega⟩
      clear P2 so2 CI
      go_wp2
      go_roundw
      case rel => exact ⟨b, b + 20, Z, hbn, rfl, rfl, by go_num, S2, Nat.lt_of_lt_of_le hgw G2.size, grownBy_trans hG G2, HI2.out⟩
      case measure => have := HB.out; simp [intOf]; omega
    · have hbni : ¬ (b : Int) ≤ (n : Int) := by omega
      have CI := insSort_any g cap n a n Y wr hS hgw han (Nat.le_refl _) (by omega) (fun i j h1 h2 h3 => HI.out.1.se i j h2 (by omega) (.inr h1))
      go_wp2_with fail
      refine CI.mono ?_
      rintro e w2 ⟨rfl, Z, S2, G2, P2, so2⟩
      have HJ : Hid (Jv X Z n 20 0) := (HI.out.1.step HI.out.2 han (by have := HB.out; omega) (Nat.le_refl _) P2 so2).whole
      have G2' := grownBy_trans hG G2
      have L2 : g < w2.heap.size := Nat.lt_of_lt_of_le hgw G2.size
      clear P2 so2 CI HI hS hgw hG G2 HB hbn hbni han
      go_wp2_with fail
      go_loopw [6, 7, 8] (fun ts ta tb wr => ∃ (bs : Nat) (va vb : Int) (Y : Nat → Im), 0 < bs ∧ bs ≤ 320 ∧ ts = .int .i64 (bs : Int) ∧ ta = .int .i64 va ∧ tb = .int .i64 vb ∧ Sr wr g n Y ∧ g < wr.heap.size ∧ w.grownBy wr (some g) ∧ Hid (Jv X Y n bs 0 ∧ (bsOk bs ∨ bs = 320))) (fun ts _ _ _ => 400 - (intOf ts).toNat)
      case atStart => exact ⟨20, _, _, Z, by omega, by omega, rfl, rfl, rfl, S2, L2, G2', (⟨HJ.out, .inl (.inl rfl)⟩ : _ ∧ _)⟩
      case round =>
        clear HJ S2 L2 G2'
        obtain ⟨bs, va, vb, Y, hbs0, hbs, rfl, rfl, rfl, hS, hgw, hG, HJ⟩ := hrel
        by_cases hbn : bs < n
        · have hbni : (bs : Int) < (n : Int) := by omega
          have HOK : Hid (bsOk bs) := by
            rcases HJ.out.2 with e | e
            · exact e
            · omega
          obtain ⟨d, hd⟩ : ∃ d, d = 2 * bs := ⟨_, rfl⟩
          have rd : 2 * (bs : Int) = (d : Int) := by omega
          have HD : Hid (d = 2 * bs) := hd
          have hdb : d ≤ 640 ∧ bs < d := by omega
          clear hd
          have rd2 : (bs : Int) * 2 = (d : Int) := by omega
          obtain ⟨w0, hw0⟩ : ∃ w0, w0 = wr := ⟨_, rfl⟩
          have HW0 : Hid (w0 = wr) := hw0
          have HB1 : Hid (bsOk d ∨ d = 320) := by
            have e := HD.out
            rcases HOK.out with e1 | e1 | e1 | e1
            · exact .inl (.inr (.inl (by omega)))
            · exact .inl (.inr (.inr (.inl (by omega))))
            · exact .inl (.inr (.inr (.inr (by omega))))
            · exact .inr (by omega)
          have HDB : Hid (d ≤ 320) := by
            have e := HD.out
            rcases HOK.out with e1 | e1 | e1 | e1 <;> (show _ ≤ _; omega)
          clear hw0
          go_wp2_with fail
          go_loopw [7, 8] (fun ta tb w2 => ∃ (a b : Nat) (V : Nat → Im), a ≤ n ∧ b = a + d ∧ ta = .int .i64 (a : Int) ∧ tb = .int .i64 (b : Int) ∧ Sr w2 g n V ∧ g < w2.heap.size ∧ w0.grownBy w2 (some g) ∧ Hid (Jv X V n bs a ∧ a % (2 * bs) = 0)) (fun ta _ _ => n + 1 - (intOf ta).toNat)
          case atStart => exact ⟨0, d, Y, Nat.zero_le _, by omega, rfl, rfl, hS, hgw, by rw [HW0.out]; exact World.grownBy.refl _ _, (⟨HJ.out.1, by simp⟩ : _ ∧ _)⟩
          case round =>
            have hG0 : w.grownBy w0 (some g) := by rw [HW0.out]; exact hG
            clear hS hgw hG HJ
            obtain ⟨a, b, V, han, hbe, rfl, rfl, hS, hgw, hG, HJ⟩ := hrel
            have HB : Hid (b = a + d) := hbe
            obtain ⟨m, hm⟩ : ∃ m, m = a + bs := ⟨_, rfl⟩
            have rm : (a : Int) + (bs : Int) = (m : Int) := by omega
            have HM : Hid (m = a + bs) := hm
            have hmb : a < m ∧ m < b ∧ b ≤ 928 := by omega
            clear hbe hm
            by_cases hbn2 : b ≤ n
            · have hbni2 : (b : Int) ≤ (n : Int) := by omega
              obtain ⟨x1, x2, x3⟩ := HJ.out.1.pre HOK.out HJ.out.2 (e := b) (by have := HM.out; omega) (by have := HB.out; have := HD.out; omega) hbn2
              rw [← HM.out] at x1 x2 x3
              have CS := sym_any g n cap (by omega) (b - a) a m b V wr (Nat.le_refl _) hS hgw hbn2 hmb.1 hmb.2.1 x1 x2 x3
              unfold SymQ at CS
              clear x1 x2 x3
              go_wp2_with fail
              refine CS.mono ?_
              rintro e w2 ⟨rfl, Z, S2, G2, P2, so2⟩
              have HJ2 : Hid (Jv X Z n bs b ∧ b % (2 * bs) = 0) := ⟨HJ.out.1.step HOK.out HJ.out.2 (by omega) (by have := HB.out; have := HD.out; omega) hbn2 (.inl (by have := HB.out; have := HD.out; omega)) P2 so2, by have e1 := HB.out; have e2 := HD.out; have e3 := HJ.out.2; rw [e1, e2, Nat.add_mod_right]; exact e3⟩
              clear P2 so2 CS
              go_wp2
              go_roundw
              case rel => exact ⟨b, b + d, Z, hbn2, rfl, rfl, by go_num, S2, Nat.lt_of_lt_of_le hgw G2.size, grownBy_trans hG G2, HJ2.out⟩
              case measure => simp [intOf]; omega
            · have hbni2 : ¬ (b : Int) ≤ (n : Int) := by omega
              by_cases hmn : m < n
              · have hmni : (m : Int) < (n : Int) := by omega
                obtain ⟨x1, x2, x3⟩ := HJ.out.1.pre HOK.out HJ.out.2 (e := n) (by have := HM.out; omega) (by have := HB.out; have := HD.out; omega) (Nat.le_refl _)
                rw [← HM.out] at x1 x2 x3
                have CS := sym_any g n cap (by omega) (n - a) a m n V wr (Nat.le_refl _) hS hgw (Nat.le_refl _) hmb.1 hmn x1 x2 x3
                unfold SymQ at CS
                clear x1 x2 x3
                go_wp2_with fail
                refine CS.mono ?_
                rintro e w2 ⟨rfl, Z, S2, G2, P2, so2⟩
                have HJ2 : Hid (Jv X Z n d 0 ∧ (bsOk d ∨ d = 320)) := ⟨by have := (HJ.out.1.step HOK.out HJ.out.2 (by omega) (by have := HB.out; have := HD.out; omega) (Nat.le_refl _) (.inr rfl) P2 so2).double HOK.out; rw [← HD.out] at this; exact this, HB1.out⟩
                clear P2 so2 CS
                go_wp2
                go_roundw
                case rel => exact ⟨d, _, _, Z, by omega, HDB.out, rfl, rfl, rfl, S2, Nat.lt_of_lt_of_le hgw G2.size, grownBy_trans hG0 (grownBy_trans hG G2), HJ2.out⟩
                case measure => have := HDB.out; simp [intOf]; omega
              · have hmni : ¬ (m : Int) < (n : Int) := by omega
                have HJ2 : Hid (Jv X V n d 0 ∧ (bsOk d ∨ d = 320)) := ⟨by have := (HJ.out.1.rest HOK.out HJ.out.2 han (by have := HM.out; omega)).double HOK.out; rw [← HD.out] at this; exact this, HB1.out⟩
                go_wp2
                go_roundw
                case rel => exact ⟨d, _, _, V, by omega, HDB.out, rfl, rfl, rfl, hS, hgw, grownBy_trans hG0 hG, HJ2.out⟩
                case measure => have := HDB.out; simp [intOf]; omega
        · have hbni : ¬ (bs : Int) < (n : Int) := by omega
          go_wp2
          go_end0
          exact ⟨rfl, Y, hS, hG, HJ.out.1.last (by omega)⟩

set_option maxRecDepth 100000 in
theorem sortStable_any (g cap n : Nat) (X : Nat → Im) (w : World) (h : Sr w g n X) (hg : g < w.heap.size) (hl : n ≤ 288) (hs : ∀ i j, i < j → j < n → (X i).sy < (X j).sy) :
    Calls Tryz.prog 114 #[.slice (some ⟨g, 0, none⟩) n cap, cmpF] w fun e w' => e = .returned (.tuple #[]) ∧ ∃ Y, Sr w' g n Y ∧ w.grownBy w' (some g) ∧ Pm X Y 0 n ∧ so Y 0 n := by
  go_enter Tryz.func114, Tryz.ntmps114
  go_wp2_with fail
  refine (stable_any g cap n X _ h hg hl hs).mono ?_
  rintro e w2 ⟨rfl, r⟩
  go_wp2
  go_end0
  exact ⟨rfl, r⟩
end Go.Proofs.YtcifalelnfeggaaGreatDoor

namespace Go.Proofs.YtcifalelnfeggaaGreatDoor
open Go.RowKit
set_option linter.unusedVariables false

set_option maxRecDepth 100000 in
theorem insSort_nil (X : Value) (w : World) : Calls Tryz.prog 157 #[X, .int .i64 0, .int .i64 0, cmpF] w fun e w' => e = .returned (.tuple #[]) ∧ w' = w := by
  go_enter Tryz.func157, Tryz.ntmps157
  go_wp2
  go_loopw [8] (fun ti wr => ti = .int .i64 1 ∧ wr = w) (fun _ _ => 0)
  case atStart => exact ⟨by go_num, rfl⟩
  case round =>
    obtain ⟨rfl, rfl⟩ := hrel
    go_wp2
    go_end0
    exact ⟨rfl, rfl⟩
set_option maxRecDepth 100000 in
theorem stable_nil (X : Value) (w : World) : Calls Tryz.prog 137 #[X, .int .i64 0, cmpF] w fun e w' => e = .returned (.tuple #[]) ∧ w' = w := by
  go_enter Tryz.func137, Tryz.ntmps137
  go_wp2_with fail
  go_loopw [7, 8] (fun ta tb wr => ta = .int .i64 0 ∧ tb = .int .i64 20 ∧ wr = w) (fun _ _ _ => 0)
  case atStart => exact ⟨rfl, rfl, rfl⟩
  case round =>
    obtain ⟨rfl, rfl, rfl⟩ := hrel
    go_wp2_with fail
    refine (insSort_nil _ _).mono ?_
    rintro e w' ⟨rfl, hw'⟩
    subst w'
    go_wp2_with fail
    go_loopw [6, 7, 8] (fun ts ta tb w2 => ts = .int .i64 20 ∧ ta = .int .i64 0 ∧ tb = .int .i64 20 ∧ w2 = wr) (fun _ _ _ _ => 0)
    case atStart => exact ⟨rfl, rfl, rfl, rfl⟩
    case round =>
      obtain ⟨rfl, rfl, rfl, rfl⟩ := hrel
      go_wp2
      go_end0
      exact ⟨rfl, rfl⟩
set_option maxRecDepth 100000 in
theorem sortStable_nil (cap : Nat) (w : World) : Calls Tryz.prog 114 #[.slice none 0 cap, cmpF] w fun e w' => e = .returned (.tuple #[]) ∧ w' = w := by
  go_enter Tryz.func114, Tryz.ntmps114
  go_wp2_with fail
  refine (stable_nil _ _).mono ?_
  rintro e w' ⟨rfl, hw'⟩
  subst w'
  go_wp2
  go_end0
  exact ⟨rfl, rfl⟩

/-- The symbols in use, in their order, as items. -/
def leafI (zs : List Int) (i : Nat) : Im := ⟨zs.getD i 0, i, none, none⟩
def leafL (zs : List Int) (k : Nat) : List Im := ((List.range k).filter fun i => decide (zs.getD i 0 ≠ 0)).map (leafI zs)
theorem leafL_snoc (zs : List Int) (k : Nat) : leafL zs (k + 1) = leafL zs k ++ (if zs.getD k 0 = 0 then [] else [leafI zs k]) := by
  unfold leafL
  rw [List.range_succ, List.filter_append, List.map_append]
  congr 1
  by_cases h : zs.getD k 0 = 0
  · rw [if_pos h, List.filter_cons, if_neg (by simpa using h), List.filter_nil, List.map_nil]
  · rw [if_neg h, List.filter_cons, if_pos (decide_eq_true h), List.filter_nil, List.map_cons, List.map_nil]
theorem leafL_len (zs : List Int) (k : Nat) : (leafL zs k).length ≤ k := by
  unfold leafL
  rw [List.length_map]
  have := List.length_filter_le (fun i => decide (zs.getD i 0 ≠ 0)) (List.range k)
  simpa using this
def Im.cells (x : Im) : List Value := [.int .i64 x.wt, .int .i64 x.sy, .pointer x.fs, .pointer x.sn]
def flatI (l : List Im) : List Value := l.flatMap Im.cells
theorem flatI_len (l : List Im) : (flatI l).length = l.length * 4 := by
  unfold flatI
  induction l with
  | nil => rfl
  | cons x r ih => simp [Im.cells, ih]; omega
theorem flatI_get : ∀ (l : List Im) (k : Nat) (x : Im), l[k]? = some x → (flatI l)[k * 4]? = some (.int .i64 x.wt) ∧ (flatI l)[k * 4 + 1]? = some (.int .i64 x.sy) ∧ (flatI l)[k * 4 + 2]? = some (.pointer x.fs) ∧ (flatI l)[k * 4 + 3]? = some (.pointer x.sn)
  | [], k, x, h => by simp at h
  | y :: r, 0, x, h => by
    simp at h
    subst h
    simp [flatI, Im.cells]
  | y :: r, k + 1, x, h => by
    have := flatI_get r k x (by simpa using h)
    have e : flatI (y :: r) = .int .i64 y.wt :: .int .i64 y.sy :: .pointer y.fs :: .pointer y.sn :: flatI r := rfl
    rw [e, show (k + 1) * 4 = k * 4 + 1 + 1 + 1 + 1 by omega]
    simpa [List.getElem?_cons_succ, show k * 4 + 1 + 1 + 1 + 1 + 1 = (k * 4 + 1) + 1 + 1 + 1 + 1 by omega] using this
theorem flatI_one (l : List Im) : ∀ u ∈ flatI l, u.oneCell' = true := by
  intro u hu
  unfold flatI at hu
  obtain ⟨x, _, hx⟩ := List.mem_flatMap.1 hu
  unfold Im.cells at hx
  simp only [List.mem_cons, List.not_mem_nil, or_false] at hx
  rcases hx with rfl | rfl | rfl | rfl <;> rfl
theorem flatI_app (l r : List Im) : flatI (l ++ r) = flatI l ++ flatI r := by unfold flatI; rw [List.flatMap_append]
/-- A row of the call's own, as items that lie there. -/
theorem own_row4 {w : World} {base n g cap : Nat} {e : TypeId} {l : List Im} (h : w.ownsRow base e 4 (.slice (some ⟨g, 0, none⟩) n cap) n (flatI l)) (hl : l.length = n) : Sr w g n (fun k => l.getD k ⟨0, 0, none, none⟩) := by
  have hc : ∀ j u, (flatI l)[j]? = some u → w.cell? ⟨g, j, none⟩ = some u := by
    intro j u hu
    have := h.cells (g := g) rfl j u hu
    have hadd : (⟨g, 0, none⟩ : Addr).add j = ⟨g, j, none⟩ := by unfold Addr.add; split <;> simp_all
    rwa [hadd] at this
  refine ⟨⟨fun k hk => ?_⟩, fun k => ?_⟩
  · have hg : l[k]? = some (l.getD k ⟨0, 0, none, none⟩) := by simp [List.getD, show k < l.length by omega]
    obtain ⟨q0, q1, q2, q3⟩ := flatI_get l k _ hg
    rw [Nat.zero_add]
    exact ⟨hc _ _ q0, hc _ _ q1, hc _ _ q2, hc _ _ q3⟩
  · rcases h.2 with ⟨h1, _⟩ | ⟨g', cap', cur, hv, _, hh, _⟩
    · cases h1
    · simp only [Value.slice.injEq, Option.some.injEq, Addr.mk.injEq] at hv
      obtain ⟨⟨rfl, _⟩, _⟩ := hv
      simp [World.frozen?, hh]
theorem info_item : (Tryz.prog.info? 158).map (fun i => (i.zero, i.size, i.bytes)) = some (some (.agg #[.int .i64 0, .int .i64 0, .pointer none, .pointer none]), 4, 32) := by kernel_rfl
end Go.Proofs.YtcifalelnfeggaaGreatDoor

namespace Go.Proofs.YtcifalelnfeggaaGreatDoor
open Go.RowKit
set_option linter.unusedVariables false

/-- Items that lie somewhere, behind a row of the call's own. -/
theorem wpList_app4 {P : Program} {ops : Array Oper} {rest : List Oper} {o : Oper} {a : Act} {Q : Exit → Act → World → Prop} (hgd : o.guard = none) (s x : Operand) (t : TypeId)
    (ho : o.op = .call { callee := .builtin .append, args := #[s, x], argTypes := #[t, t] })
    (base : Nat) (e : TypeId) (i : TypeInfo) (z : Value) (bytes : Nat) (ht : P.underlying t = some (.slice e)) (hi : P.info? e = some i) (hz : i.zero = some z)
    (hsize : i.size = 4) (hby : i.bytes = bytes) (hzs : z.cells.size = 4)
    {w : World} {ra : Option Addr} {n rc : Nat} {l : List Im} (hown : w.ownsRow base e 4 (.slice ra n rc) n (flatI l)) {ad : Addr} {m cap : Nat} {r : List Im} (hl : r.length = m) (hnews : ∀ j u, (flatI r)[j]? = some u → w.cell? (ad.add j) = some u)
    (hs : a.eval s = .slice ra n rc) (hx : a.eval x = .slice (some ad) m cap)
    (h63 : n + m ≤ 140737488355328) (hbytes : (n + m) * bytes ≤ 140737488355328) (hbase : base ≤ w.heap.size)
    (h : ∀ (b : Option Addr) (c : Nat) (w' : World), w'.ownsRow base e 4 (.slice b (n + m) c) (n + m) (flatI (l ++ r)) → w.grownBy w' (Value.slice ra n rc).ownBlock → Below base w w' → wpList P ops Q rest (a.put o.dst (.slice b (n + m) c)) w') : wpList P ops Q (o :: rest) a w := by
  refine wpList_append_own _ hgd s x t ho base e i z 4 bytes ht hi hz hsize hby hzs (by decide) _ n (flatI l) hs hown ad m cap (flatI r) hx (by rw [flatI_len, hl]) hnews (flatI_one r) (by unfold maxLen; omega) hbytes hbase ?_
  intro v' w' h1 h2 _
  obtain ⟨b, c, rfl⟩ : ∃ b c, v' = .slice b (n + m) c := by
    rcases h1.2 with ⟨rfl, h0⟩ | ⟨g, cp, cur, rfl, _⟩
    · exact ⟨none, 0, by rw [h0]⟩
    · exact ⟨_, _, rfl⟩
  exact h b c w' (by rw [flatI_app]; exact h1) h2 ((Below.refl _ _).grown h2 hbase (fun k hk => (hown.lt k hk).1))
theorem own_shape4 {w : World} {base n : Nat} {e : TypeId} {v : Value} {xs : List Value} (h : w.ownsRow base e 4 v n xs) (hn : 0 < n) : ∃ g cap, v = .slice (some ⟨g, 0, none⟩) n cap ∧ n ≤ cap ∧ base ≤ g ∧ g < w.heap.size := by
  rcases h.2 with ⟨_, h0⟩ | ⟨g, cap, cur, rfl, hg, hh, hc, _⟩
  · omega
  · exact ⟨g, cap, rfl, hc, hg, (Array.getElem?_eq_some_iff.1 hh).1⟩
theorem new_cells (w : World) (x : Im) : ∀ j u, (flatI [x])[j]? = some u → (w.alloc (.cells #[.int .i64 x.wt, .int .i64 x.sy, .pointer x.fs, .pointer x.sn] 158)).cell? ((⟨w.heap.size, 0, none⟩ : Addr).add j) = some u := by
  intro j u hu
  have hadd : (⟨w.heap.size, 0, none⟩ : Addr).add j = ⟨w.heap.size, j, none⟩ := by unfold Addr.add; split <;> simp_all
  rw [hadd]
  have hh := heap_alloc_new w (.cells #[.int .i64 x.wt, .int .i64 x.sy, .pointer x.fs, .pointer x.sn] 158)
  simp only [World.cell?, hh]
  simp only [flatI, Im.cells, List.flatMap_cons, List.flatMap_nil, List.append_nil] at hu
  simpa using hu
/-- What comes of the leaves: a row in order, of all the symbols in use. -/
structure Lf (w : World) (a : Option Addr) (m cap B : Nat) (zs : List Int) (Y : Nat → Im) : Prop where
  len : m = (leafL zs zs.length).length
  pm : (lst Y 0 m).Perm (leafL zs zs.length)
  ord : so Y 0 m
  nil : m = 0 → a = none ∧ cap = 0
  row : 0 < m → ∃ g, a = some ⟨g, 0, none⟩ ∧ Sr w g m Y ∧ B ≤ g ∧ g < w.heap.size ∧ m ≤ cap

theorem leaf_sy {zs : List Int} {k i j : Nat} (h : i < j) (hj : j < (leafL zs k).length) : ((leafL zs k).getD i ⟨0, 0, none, none⟩).sy < ((leafL zs k).getD j ⟨0, 0, none, none⟩).sy := by
  have hp : (leafL zs k).Pairwise (fun x y => x.sy < y.sy) := by
    unfold leafL
    rw [List.pairwise_map]
    refine (List.pairwise_lt_range.filter _).imp ?_
    intro a b hab
    show (a : Int) < (b : Int)
    omega
  have hi : i < (leafL zs k).length := by omega
  have := List.pairwise_iff_getElem.1 hp i j hi hj h
  simpa [List.getD, hi, hj] using this
theorem lst_getD (l : List Im) (d : Im) : lst (fun k => l.getD k d) 0 l.length = l := by
  unfold lst
  apply List.ext_getElem?
  intro k
  rw [List.getElem?_map]
  by_cases h : k < l.length
  · simp [h, List.getD]
  · simp [h]

set_option maxRecDepth 100000 in
set_option maxHeartbeats 2000000 in
theorem leaves_any (a : Option Addr) (zs : List Int) (n cap : Nat) (hn : Hid (zs.length = n)) (w : World) (hs : SegZ w a zs) (hl : n ≤ 288) :
    Calls Tryz.prog 93 #[.slice a n cap] w fun e w' => ∃ b m c Y, e = .returned (.slice b m c) ∧ Lf w' b m c w.heap.size zs Y ∧ Below w.heap.size w w' := by
  obtain ⟨i0, hi, hz0, hz1, hz2⟩ := info_parts info_item
  go_enter Tryz.func93, Tryz.ntmps93
  go_wp2_with fail
  go_loopw [3, 8] (fun to ti wr => ∃ (k : Nat) (b : Option Addr) (c : Nat) (L : List Im), k ≤ n ∧ ti = .int .i64 (k : Int) ∧ to = .slice b L.length c ∧ L.length ≤ k ∧ (L.length = 0 → b = none ∧ c = 0) ∧ wr.ownsRow w.heap.size 158 4 (.slice b L.length c) L.length (flatI L) ∧ Below w.heap.size w wr ∧ Hid (L = leafL zs k)) (fun _ ti _ => n - (intOf ti).toNat)
  case atStart => exact ⟨0, none, 0, [], Nat.zero_le _, rfl, rfl, Nat.le_refl _, (fun _ => ⟨rfl, rfl⟩), ⟨rfl, .inl ⟨rfl, rfl⟩⟩, Below.refl _ _, (rfl : _ = _)⟩
  case round =>
    obtain ⟨k, b, c, L, hk, rfl, rfl, hLk, hL0, OR, BR, HL⟩ := hrel
    have HL0 : Hid (L.length = 0 → b = none ∧ c = 0) := hL0
    clear hL0
    have hs := hs.old BR
    by_cases h1 : k < n
    · have h1i : (k : Int) < (n : Int) := by omega
      obtain ⟨b1, o1, rfl, c1⟩ := hs.at_ k (by have := hn.out; omega)
      have HU : Hid (leafL zs (k + 1) = leafL zs k ++ (if zs.getD k 0 = 0 then [] else [⟨zs.getD k 0, k, none, none⟩])) := leafL_snoc zs k
      have db := hs.bd k
      generalize zs.getD k 0 = z at *
      by_cases hz : z = 0
      · subst hz
        go_wp2
        go_roundw
        case rel => exact ⟨k + 1, b, c, L, by omega, by go_num, rfl, by omega, HL0.out, OR, BR, (by show _ = _; rw [HU.out, HL.out]; simp)⟩
        case measure => simp [intOf]; omega
      · have hzb : (z != 0) = true := by simpa using hz
        have hbs := BR.size
        go_wp2_with (at_builtin; refine wpList_app4 rfl (.tmp 15) (.tmp 19) 154 rfl w.heap.size 158 i0 _ 32 Tryz.underlying154 hi hz0 hz1 hz2 rfl (OR.alloc _) (m := 1) (r := [⟨z, k, none, none⟩]) rfl (new_cells wr ⟨z, k, none, none⟩) rfl rfl (by omega) (by omega) (by simp; omega) ?_; intro b2 c2 w2 OR2 hg2 B2)
        have B3 : Below w.heap.size w w2 := BR.trans (((Below.refl _ _).alloc hbs _).trans B2)
        have e1 : (L ++ [(⟨z, k, none, none⟩ : Im)]).length = L.length + 1 := by simp
        rw [← e1] at OR2
        clear hg2 B2 OR
        go_roundw
        case rel => exact ⟨k + 1, b2, c2, L ++ [⟨z, k, none, none⟩], by omega, by go_num, by rw [e1], by omega, (fun h => by omega), OR2, B3, (by show _ = _; rw [HU.out, HL.out, if_neg hz])⟩
        case measure => simp [intOf]; omega
    · obtain rfl : k = n := by omega
      have HL2 : Hid (L = leafL zs zs.length) := by show _ = _; rw [HL.out, hn.out]
      by_cases hL0 : L.length = 0
      · obtain ⟨rfl, rfl⟩ := HL0.out hL0
        have hLnil : L = [] := List.eq_nil_of_length_eq_zero hL0
        rw [hL0]
        go_wp2_with fail
        refine (sortStable_nil _ _).mono ?_
        rintro e w' ⟨rfl, hw'⟩
        subst w'
        go_wp2
        go_ret
        have hz : leafL zs zs.length = [] := by rw [← HL2.out]; exact hLnil
        exact ⟨none, 0, 0, fun k => L.getD k ⟨0, 0, none, none⟩, rfl, ⟨by rw [hz]; rfl, by rw [hz]; exact List.Perm.refl _, fun i j _ _ h => by omega, fun _ => ⟨rfl, rfl⟩, fun h => by omega⟩, BR⟩
      · obtain ⟨g, c', hv, hcap, hgb, hgs⟩ := own_shape4 OR (by omega)
        simp only [Value.slice.injEq] at hv
        obtain ⟨rfl, _, rfl⟩ := hv
        have S1 := own_row4 OR rfl
        have HSY : Hid (∀ i j, i < j → j < L.length → ((fun k => L.getD k ⟨0, 0, none, none⟩) i).sy < ((fun k => L.getD k ⟨0, 0, none, none⟩) j).sy) := by
          intro i j h2 h3
          have e := HL2.out
          simp only [e] at h3 ⊢
          exact leaf_sy h2 h3
        have HPL : Hid (lst (fun k => L.getD k ⟨0, 0, none, none⟩) 0 L.length = L) := lst_getD L _
        have CS := sortStable_any g c L.length (fun k => L.getD k ⟨0, 0, none, none⟩) wr S1 hgs (by omega) HSY.out
        obtain ⟨m, hm⟩ : ∃ m, m = L.length := ⟨_, rfl⟩
        have HM : Hid (m = L.length) := hm
        rw [← hm] at CS hcap ⊢
        have hm0 : 0 < m := by omega
        clear hm S1 OR hL0 hLk
        go_wp2_with fail
        refine CS.mono ?_
        rintro e w2 ⟨rfl, Y, S2, G2, P2, so2⟩
        go_wp2
        go_ret
        have B2 : Below w.heap.size w w2 := BR.trans ((Below.refl _ _).grown G2 BR.size (by intro k e; cases e; exact hgb))
        refine ⟨some ⟨g, 0, none⟩, m, c, Y, rfl, ⟨by rw [HM.out, HL2.out], ?_, so2, fun h => by omega, fun _ => ⟨g, rfl, S2, hgb, Nat.lt_of_lt_of_le hgs G2.size, hcap⟩⟩, B2⟩
        have h3 := P2.1
        rw [HM.out] at h3 ⊢
        rw [HPL.out] at h3
        exact h3.trans (by rw [HL2.out])
end Go.Proofs.YtcifalelnfeggaaGreatDoor
