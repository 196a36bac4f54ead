import Derived.Test.YtiankbopnjhhaaaGreatDoorPn
namespace Go.Proofs.YtiankbopnjhhaaaGreatDoor
open Go.RowKit
set_option linter.unusedVariables false

set_option maxHeartbeats 8000000 in
set_option maxRecDepth 100000 in
theorem sym_gen (g n cap a m b : Nat) (X : Nat → Im) (w : World) (h : Sr w g n X) (hg : g < w.heap.size) (hb : b ≤ n) (hl : n ≤ 100000) (ham : a + 1 < m) (hmb : m + 1 < b) (hr1 : so X a m) (hr2 : so X m b) (hs : sep X a m b)
    (IH : ∀ (a' m' b' : Nat) (X' : Nat → Im) (w' : World), b' - a' < b - a → Sr w' g n X' → g < w'.heap.size → b' ≤ n → a' < m' → m' < b' → so X' a' m' → so X' m' b' → sep X' a' m' b' → SymQ g n cap a' m' b' X' w') : SymQ g n cap a m b X w := by
  unfold SymQ
  obtain ⟨mid, hmid⟩ : ∃ mid, mid = (a + b) / 2 := ⟨_, rfl⟩
  have SY : Sy X a m b mid := ⟨by omega, by omega, hmid, hr1, hr2, hs⟩
  obtain ⟨b1, b2, b3, b4, hbc⟩ := SY.bounds
  have HSY : Hid (Sy X a m b mid) := SY
  have HIH : Hid _ := IH
  obtain ⟨N, hN⟩ : ∃ N, N = mid + m := ⟨_, rfl⟩
  have r0 : ¬ (m : Int) - (a : Int) = 1 := by omega
  have r0b : ((m : Int) - (a : Int) == 1) = false := by simpa using r0
  have r1 : ¬ (b : Int) - (m : Int) = 1 := by omega
  have r1b : ((b : Int) - (m : Int) == 1) = false := by simpa using r1
  have rm : ((a : Int) + (b : Int)) / 2 = (mid : Int) := by omega
  have rN : (mid : Int) + (m : Int) = (N : Int) := by omega
  obtain ⟨p, hp⟩ : ∃ p, p = mid + m - 1 := ⟨_, rfl⟩
  have rp : (N : Int) - 1 = (p : Int) := by omega
  obtain ⟨lo, hlo⟩ : ∃ lo, lo = slo a m b mid := ⟨_, rfl⟩
  obtain ⟨hi, hhi⟩ : ∃ hi, hi = shi m mid := ⟨_, rfl⟩
  have HMono : Hid (∀ c c', lo ≤ c' → c' ≤ c → c < hi → tst X p c' → tst X p c) := by rw [hlo, hhi, hp]; exact SY.mono
  have HBC : Hid (∀ c, lo ≤ c → c < hi → m ≤ p - c ∧ p - c < b ∧ a ≤ c ∧ c < m ∧ c ≤ p) := by
    intro c h1 h2
    rw [hlo] at h1
    rw [hhi] at h2
    have := hbc c h1 h2
    omega
  have HLH : Hid (a ≤ lo ∧ lo ≤ hi ∧ hi ≤ m ∧ hi ≤ mid) := by rw [hlo, hhi]; exact ⟨b1, b2, b3, b4⟩
  have HTN : Hid (∀ st, srch (tst X p) lo hi st st → _) := fun st hst => by rw [hlo, hhi, hp] at hst; exact SY.turned hst
  have HDF : Hid (N = mid + m ∧ mid = (a + b) / 2 ∧ (m > mid → lo = mid + m - b ∧ hi = mid) ∧ (¬ m > mid → lo = a ∧ hi = m)) := by
    refine ⟨hN, hmid, fun h => ?_, fun h => ?_⟩
    · rw [hlo, hhi]; unfold slo shi; rw [if_pos h, if_pos h]; exact ⟨rfl, rfl⟩
    · rw [hlo, hhi]; unfold slo shi; rw [if_neg h, if_neg h]; exact ⟨rfl, rfl⟩
  have hpn : p < 300000 ∧ N < 300000 ∧ mid < b ∧ a ≤ mid ∧ hi ≤ n ∧ lo ≤ hi := by omega
  clear SY IH hmid b1 b2 b3 b4 hbc hN hp hlo hhi
  go_enter Tryz.func158, Tryz.ntmps158
  by_cases hcm : mid < m
  · have hcmi : (mid : Int) < (m : Int) := by omega
    have rl : (N : Int) - (b : Int) = (lo : Int) := by have := HDF.out; omega
    have HRH : Hid (mid = hi) := by have := HDF.out; show _ = _; omega
    go_wp2_with fail
    go_loopw [20, 21] (fun ti tj wr => ∃ s r : Nat, lo ≤ s ∧ s ≤ r ∧ r ≤ hi ∧ ti = .int .i64 (s : Int) ∧ tj = .int .i64 (r : Int) ∧ Sr wr g n X ∧ g < wr.heap.size ∧ w.grownBy wr (some g) ∧ Hid (srch (tst X p) lo hi s r)) (fun ti tj _ => (intOf tj).toNat - (intOf ti).toNat)
    case atStart => exact ⟨lo, mid, by omega, by have := HRH.out; omega, by have := HRH.out; omega, rfl, rfl, h, hg, World.grownBy.refl _ _, (by rw [HRH.out]; exact ⟨Nat.le_refl _, by omega, Nat.le_refl _, fun c h1 h2 => by omega, fun c h1 h2 => by omega⟩ : srch _ _ _ _ _)⟩
    case round =>
      obtain ⟨s, r, hls, hsr, hrh, rfl, rfl, hS, hgw, hG, HS⟩ := hrel
      by_cases hlt : s < r
      · have hlti : (s : Int) < (r : Int) := by omega
        obtain ⟨c, hc⟩ : ∃ c, c = (s + r) / 2 := ⟨_, rfl⟩
        have rc : ((s : Int) + (r : Int)) / 2 = (c : Int) := by omega
        have hic : s ≤ c := by omega
        have hcj : c < r := by omega
        obtain ⟨q, hq⟩ : ∃ q, q = p - c := ⟨_, rfl⟩
        have hbc := HBC.out c (by omega) (by omega)
        have rq : (p : Int) - (c : Int) = (q : Int) := by omega
        have HQ : Hid (q = p - c) := hq
        have hqb : q < b ∧ c < m := by omega
        clear hc hq hbc
        have i1 := hS.it (k := q) (by omega)
        have i2 := hS.it (k := c) (by omega)
        have T0 := two_of i1 i2
        unfold Two at T0
        have z0 : (q : Int) < (n : Int) := by omega
        have z1 : (c : Int) < (n : Int) := by omega
        have z2 : (0 : Int) ≤ (q : Int) := by omega
        have z3 : (0 : Int) ≤ (c : Int) := by omega
        have hwp : IntKind.i64.wrap (q : Int) = (q : Int) := by rw [IntKind.wrap_i64]; omega
        have HC : Hid (∀ W, Below wr.heap.size wr W → Calls Tryz.prog 115 #[(X q).val, (X c).val] W fun e w' => e = .returned (.int .i64 (cmpV (X q) (X c))) ∧ Below wr.heap.size wr w') := fun W hW => (cmp_any (X q) (X c) W).mono fun e w' ⟨h1, h2⟩ => ⟨h1, hW.trans (h2.mono hW.size)⟩
        have HK : Hid (∀ W, Below wr.heap.size wr W → Two g q c (X q) (X c) W) := fun W hW => two_old (two_of i1 i2) hW
        unfold Two at HK
        unfold Im.val at HC
        have d1 : Below wr.heap.size wr wr.drew := (Below.refl _ _).drew
        have d0 : Below wr.heap.size wr wr := Below.refl _ _
        have HNEG : Hid (cmpV (X q) (X c) < 0 ↔ (X q).wt < (X c).wt) := cmpV_neg _ _
        have hbd := cmpV_bd (X q) (X c)
        generalize cmpV (X q) (X c) = cv at *
        clear i1 i2
        by_cases hcv : cv < 0
        · have HS2 : Hid (srch (tst X p) lo hi s c) := srch_down HS.out HMono.out hic hcj (by have := HNEG.out.1 hcv; unfold tst; rw [← HQ.out]; exact this)
          go_wp2_with fail
          go_region_held3 (fun w' => (w'.cell? ⟨g, q * 4, none⟩ = some (.int .i64 (X q).wt) ∧ w'.cell? ⟨g, q * 4 + 1, none⟩ = some (.int .i64 (X q).sy) ∧ w'.cell? ⟨g, q * 4 + 2, none⟩ = some (.pointer (X q).fs) ∧ w'.cell? ⟨g, q * 4 + 3, none⟩ = some (.pointer (X q).sn)) ∧ (w'.cell? ⟨g, c * 4, none⟩ = some (.int .i64 (X c).wt) ∧ w'.cell? ⟨g, c * 4 + 1, none⟩ = some (.int .i64 (X c).sy) ∧ w'.cell? ⟨g, c * 4 + 2, none⟩ = some (.pointer (X c).fs) ∧ w'.cell? ⟨g, c * 4 + 3, none⟩ = some (.pointer (X c).sn)))
            (first | go_keep | (exact HK.out _ (by assumption)))
            (first | (go_at_call 115; refine (HC.out _ (by assumption)).mono ?_; rintro e w7 ⟨rfl, b7⟩))
          have S7 := hS.old hgw b7
          have G7 : w.grownBy w7 (some g) := grownBy_trans hG (grown_old b7 _)
          have L7 : g < w7.heap.size := Nat.lt_of_lt_of_le hgw b7.size
          clear T0 HC HK d1 d0 b7
          go_wp2
          go_roundw
          case rel => exact ⟨s, c, hls, by omega, by omega, rfl, rfl, S7, L7, G7, HS2.out⟩
          case measure => simp [intOf]; omega
        · have hcd : decide (cv < 0) = false := decide_eq_false hcv
          have HS2 : Hid (srch (tst X p) lo hi (c + 1) r) := srch_up HS.out HMono.out hic hcj (by have := HNEG.out; unfold tst; rw [← HQ.out]; intro hh; exact hcv (this.2 hh))
          go_wp2_with fail
          go_region_held3 (fun w' => (w'.cell? ⟨g, q * 4, none⟩ = some (.int .i64 (X q).wt) ∧ w'.cell? ⟨g, q * 4 + 1, none⟩ = some (.int .i64 (X q).sy) ∧ w'.cell? ⟨g, q * 4 + 2, none⟩ = some (.pointer (X q).fs) ∧ w'.cell? ⟨g, q * 4 + 3, none⟩ = some (.pointer (X q).sn)) ∧ (w'.cell? ⟨g, c * 4, none⟩ = some (.int .i64 (X c).wt) ∧ w'.cell? ⟨g, c * 4 + 1, none⟩ = some (.int .i64 (X c).sy) ∧ w'.cell? ⟨g, c * 4 + 2, none⟩ = some (.pointer (X c).fs) ∧ w'.cell? ⟨g, c * 4 + 3, none⟩ = some (.pointer (X c).sn)))
            (first | go_keep | (exact HK.out _ (by assumption)))
            (first | (go_at_call 115; refine (HC.out _ (by assumption)).mono ?_; rintro e w7 ⟨rfl, b7⟩))
          have S7 := hS.old hgw b7
          have G7 : w.grownBy w7 (some g) := grownBy_trans hG (grown_old b7 _)
          have L7 : g < w7.heap.size := Nat.lt_of_lt_of_le hgw b7.size
          clear T0 HC HK d1 d0 b7
          go_wp2
          go_roundw
          case rel => exact ⟨c + 1, r, by omega, by omega, hrh, by go_num, rfl, S7, L7, G7, HS2.out⟩
          case measure => simp [intOf]; omega
      · obtain rfl : s = r := by omega
        obtain ⟨en, hen⟩ : ∃ en, en = mid + m - s := ⟨_, rfl⟩
        obtain ⟨t1, t2, t3, t4, t5, t6, ⟨l1', l2', l3'⟩, ⟨q1', q2', q3'⟩, cr'⟩ := HTN.out s HS.out
        rw [← hen] at t4 t5 t6 l1' l2' l3' q1' q2' q3' cr'
        have ren : (N : Int) - (s : Int) = (en : Int) := by have := HDF.out; omega
        have l1 : Hid _ := l1'
        have l2 : Hid _ := l2'
        have l3 : Hid _ := l3'
        have q1 : Hid _ := q1'
        have q2 : Hid _ := q2'
        have q3 : Hid _ := q3'
        have cr : Hid _ := cr'
        have hab4 : a + 4 ≤ b := by omega
        have hsm : a < mid ∧ mid + m = s + en := by have := HDF.out; omega
        clear l1' l2' l3' q1' q2' q3' cr' HS hen hlt HMono HBC HTN hr1 hr2 hs h
        by_cases cA : s < m ∧ s < mid
        · by_cases c2 : a < s
          · by_cases c3 : en < b
            · skip
              have k0 : (s : Int) < (m : Int) := by omega
              have k1 : (m : Int) < (en : Int) := by omega
              have k2 : (a : Int) < (s : Int) := by omega
              have k3 : (s : Int) < (mid : Int) := by omega
              have k4 : (mid : Int) < (en : Int) := by omega
              have k5 : (en : Int) < (b : Int) := by omega
              go_wp2_with fail
              refine (rotate_any g cap n s m en X wr hS (by omega) (by omega) (by omega) hl _).mono ?_
              rintro e w2 ⟨rfl, S2, G2', P2'⟩
              have G2 := grownBy_trans hG G2'
              have L2 : g < w2.heap.size := Nat.lt_of_lt_of_le hgw G2'.size
              have P2 : Hid (Pm X (rot X s m en) a b) := P2'.wide (by omega) (by omega) (by omega)
              clear G2' P2'
              generalize rot X s m en = Y at *
              have C1 := HIH.out a s mid Y w2 (by omega) S2 L2 (by omega) (by omega) (by omega) l1.out l2.out l3.out
              unfold SymQ at C1
              go_wp2_with fail
              refine C1.mono ?_
              rintro e w3 ⟨rfl, Y1, S3, G3', P3', so3'⟩
              have G3 := grownBy_trans G2 G3'
              have L3 : g < w3.heap.size := Nat.lt_of_lt_of_le L2 G3'.size
              have P3 : Hid (Pm Y Y1 a mid ∧ so Y1 a mid) := ⟨P3', so3'⟩
              clear G3' P3' so3' C1
              have l4 : Hid (so Y1 mid en) := fun i j h1 h2 h3 => by rw [P3.out.1.2 i (by omega), P3.out.1.2 j (by omega)]; exact q1.out i j h1 h2 h3
              have l5 : Hid (so Y1 en b) := fun i j h1 h2 h3 => by rw [P3.out.1.2 i (by omega), P3.out.1.2 j (by omega)]; exact q2.out i j h1 h2 h3
              have l6 : Hid (sep Y1 mid en b) := fun i j h1 h2 h3 h4 => by rw [P3.out.1.2 i (by omega), P3.out.1.2 j (by omega)]; exact q3.out i j h1 h2 h3 h4
              have C2 := HIH.out mid en b Y1 w3 (by omega) S3 L3 (by omega) (by omega) (by omega) l4.out l5.out l6.out
              unfold SymQ at C2
              go_wp2_with fail
              refine C2.mono ?_
              rintro e w4 ⟨rfl, Z, S4, G4', P4', so4'⟩
              have G4 := grownBy_trans G3 G4'
              have P4 : Hid (Pm Y1 Z mid b ∧ so Z mid b) := ⟨P4', so4'⟩
              clear G4' P4' so4' C2
              go_wp2
              go_end0
              exact ⟨rfl, Z, S4, G4, (P2.out.trans (P3.out.1.wide (Nat.le_refl _) (by omega) (by omega))).trans (P4.out.1.wide (by omega) (by omega) (Nat.le_refl _)), so_join (by omega) (by omega) P3.out.1 P3.out.2 P4.out.1 P4.out.2 cr.out⟩
            · skip
              have k0 : (s : Int) < (m : Int) := by omega
              have k1 : (m : Int) < (en : Int) := by omega
              have k2 : (a : Int) < (s : Int) := by omega
              have k3 : (s : Int) < (mid : Int) := by omega
              have k4 : (mid : Int) < (en : Int) := by omega
              have k5 : ¬ (en : Int) < (b : Int) := by omega
              go_wp2_with fail
              refine (rotate_any g cap n s m en X wr hS (by omega) (by omega) (by omega) hl _).mono ?_
              rintro e w2 ⟨rfl, S2, G2', P2'⟩
              have G2 := grownBy_trans hG G2'
              have L2 : g < w2.heap.size := Nat.lt_of_lt_of_le hgw G2'.size
              have P2 : Hid (Pm X (rot X s m en) a b) := P2'.wide (by omega) (by omega) (by omega)
              clear G2' P2'
              generalize rot X s m en = Y at *
              have C1 := HIH.out a s mid Y w2 (by omega) S2 L2 (by omega) (by omega) (by omega) l1.out l2.out l3.out
              unfold SymQ at C1
              go_wp2_with fail
              refine C1.mono ?_
              rintro e w3 ⟨rfl, Y1, S3, G3', P3', so3'⟩
              have G3 := grownBy_trans G2 G3'
              have L3 : g < w3.heap.size := Nat.lt_of_lt_of_le L2 G3'.size
              have P3 : Hid (Pm Y Y1 a mid ∧ so Y1 a mid) := ⟨P3', so3'⟩
              clear G3' P3' so3' C1
              have l4 : Hid (so Y1 mid en) := fun i j h1 h2 h3 => by rw [P3.out.1.2 i (by omega), P3.out.1.2 j (by omega)]; exact q1.out i j h1 h2 h3
              have l5 : Hid (so Y1 en b) := fun i j h1 h2 h3 => by rw [P3.out.1.2 i (by omega), P3.out.1.2 j (by omega)]; exact q2.out i j h1 h2 h3
              have l6 : Hid (sep Y1 mid en b) := fun i j h1 h2 h3 h4 => by rw [P3.out.1.2 i (by omega), P3.out.1.2 j (by omega)]; exact q3.out i j h1 h2 h3 h4
              obtain ⟨Z, hZ⟩ : ∃ Z, Z = Y1 := ⟨_, rfl⟩
              have S4 : Sr w3 g n Z := by rw [hZ]; exact S3
              have G4 := G3
              have P4 : Hid (Pm Y1 Z mid b ∧ so Z mid b) := by rw [hZ]; exact ⟨Pm.refl _ _ _, by have e : en = b := (by omega); rw [← e]; exact l4.out⟩
              clear hZ
              go_wp2
              go_end0
              exact ⟨rfl, Z, S4, G4, (P2.out.trans (P3.out.1.wide (Nat.le_refl _) (by omega) (by omega))).trans (P4.out.1.wide (by omega) (by omega) (Nat.le_refl _)), so_join (by omega) (by omega) P3.out.1 P3.out.2 P4.out.1 P4.out.2 cr.out⟩
          · have EAS : Hid (s = a) := by show _ = _; omega
            by_cases c3 : en < b
            · skip
              have k0 : (s : Int) < (m : Int) := by omega
              have k1 : (m : Int) < (en : Int) := by omega
              have k2 : ¬ (a : Int) < (s : Int) := by omega
              have k3 : (mid : Int) < (en : Int) := by omega
              have k4 : (en : Int) < (b : Int) := by omega
              go_wp2_with fail
              refine (rotate_any g cap n s m en X wr hS (by omega) (by omega) (by omega) hl _).mono ?_
              rintro e w2 ⟨rfl, S2, G2', P2'⟩
              have G2 := grownBy_trans hG G2'
              have L2 : g < w2.heap.size := Nat.lt_of_lt_of_le hgw G2'.size
              have P2 : Hid (Pm X (rot X s m en) a b) := P2'.wide (by omega) (by omega) (by omega)
              clear G2' P2'
              generalize rot X s m en = Y at *
              obtain ⟨Y1, hY1⟩ : ∃ Y1, Y1 = Y := ⟨_, rfl⟩
              have S3 : Sr w2 g n Y1 := by rw [hY1]; exact S2
              have G3 := G2
              have L3 := L2
              have P3 : Hid (Pm Y Y1 a mid ∧ so Y1 a mid) := by rw [hY1]; exact ⟨Pm.refl _ _ _, by have l2x := l2.out; rw [EAS.out] at l2x; exact l2x⟩
              clear hY1
              have l4 : Hid (so Y1 mid en) := fun i j h1 h2 h3 => by rw [P3.out.1.2 i (by omega), P3.out.1.2 j (by omega)]; exact q1.out i j h1 h2 h3
              have l5 : Hid (so Y1 en b) := fun i j h1 h2 h3 => by rw [P3.out.1.2 i (by omega), P3.out.1.2 j (by omega)]; exact q2.out i j h1 h2 h3
              have l6 : Hid (sep Y1 mid en b) := fun i j h1 h2 h3 h4 => by rw [P3.out.1.2 i (by omega), P3.out.1.2 j (by omega)]; exact q3.out i j h1 h2 h3 h4
              have C2 := HIH.out mid en b Y1 w2 (by omega) S3 L3 (by omega) (by omega) (by omega) l4.out l5.out l6.out
              unfold SymQ at C2
              go_wp2_with fail
              refine C2.mono ?_
              rintro e w4 ⟨rfl, Z, S4, G4', P4', so4'⟩
              have G4 := grownBy_trans G3 G4'
              have P4 : Hid (Pm Y1 Z mid b ∧ so Z mid b) := ⟨P4', so4'⟩
              clear G4' P4' so4' C2
              go_wp2
              go_end0
              exact ⟨rfl, Z, S4, G4, (P2.out.trans (P3.out.1.wide (Nat.le_refl _) (by omega) (by omega))).trans (P4.out.1.wide (by omega) (by omega) (Nat.le_refl _)), so_join (by omega) (by omega) P3.out.1 P3.out.2 P4.out.1 P4.out.2 cr.out⟩
            · skip
              have k0 : (s : Int) < (m : Int) := by omega
              have k1 : (m : Int) < (en : Int) := by omega
              have k2 : ¬ (a : Int) < (s : Int) := by omega
              have k3 : (mid : Int) < (en : Int) := by omega
              have k4 : ¬ (en : Int) < (b : Int) := by omega
              go_wp2_with fail
              refine (rotate_any g cap n s m en X wr hS (by omega) (by omega) (by omega) hl _).mono ?_
              rintro e w2 ⟨rfl, S2, G2', P2'⟩
              have G2 := grownBy_trans hG G2'
              have L2 : g < w2.heap.size := Nat.lt_of_lt_of_le hgw G2'.size
              have P2 : Hid (Pm X (rot X s m en) a b) := P2'.wide (by omega) (by omega) (by omega)
              clear G2' P2'
              generalize rot X s m en = Y at *
              obtain ⟨Y1, hY1⟩ : ∃ Y1, Y1 = Y := ⟨_, rfl⟩
              have S3 : Sr w2 g n Y1 := by rw [hY1]; exact S2
              have G3 := G2
              have L3 := L2
              have P3 : Hid (Pm Y Y1 a mid ∧ so Y1 a mid) := by rw [hY1]; exact ⟨Pm.refl _ _ _, by have l2x := l2.out; rw [EAS.out] at l2x; exact l2x⟩
              clear hY1
              have l4 : Hid (so Y1 mid en) := fun i j h1 h2 h3 => by rw [P3.out.1.2 i (by omega), P3.out.1.2 j (by omega)]; exact q1.out i j h1 h2 h3
              have l5 : Hid (so Y1 en b) := fun i j h1 h2 h3 => by rw [P3.out.1.2 i (by omega), P3.out.1.2 j (by omega)]; exact q2.out i j h1 h2 h3
              have l6 : Hid (sep Y1 mid en b) := fun i j h1 h2 h3 h4 => by rw [P3.out.1.2 i (by omega), P3.out.1.2 j (by omega)]; exact q3.out i j h1 h2 h3 h4
              obtain ⟨Z, hZ⟩ : ∃ Z, Z = Y1 := ⟨_, rfl⟩
              have S4 : Sr w2 g n Z := by rw [hZ]; exact S3
              have G4 := G3
              have P4 : Hid (Pm Y1 Z mid b ∧ so Z mid b) := by rw [hZ]; exact ⟨Pm.refl _ _ _, by have e : en = b := (by omega); rw [← e]; exact l4.out⟩
              clear hZ
              go_wp2
              go_end0
              exact ⟨rfl, Z, S4, G4, (P2.out.trans (P3.out.1.wide (Nat.le_refl _) (by omega) (by omega))).trans (P4.out.1.wide (by omega) (by omega) (Nat.le_refl _)), so_join (by omega) (by omega) P3.out.1 P3.out.2 P4.out.1 P4.out.2 cr.out⟩
        · have ESM : Hid (s = mid) := by have := HLH.out; have := HRH.out; show _ = _; omega
          have EEN : Hid (en = m) := by have := ESM.out; show _ = _; omega
          have k0 : (s : Int) < (m : Int) := by omega
          have k1 : ¬ (m : Int) < (en : Int) := by omega
          have k2 : (a : Int) < (s : Int) := by omega
          have k3 : ¬ (s : Int) < (mid : Int) := by omega
          have k4 : (mid : Int) < (en : Int) := by omega
          have k5 : (en : Int) < (b : Int) := by omega
          have hrx : rot X s m en = X := by rw [EEN.out]; exact rot_right X s m
          have S2 : Sr wr g n (rot X s m en) := by rw [hrx]; exact hS
          have G2 := hG
          have L2 := hgw
          have P2 : Hid (Pm X (rot X s m en) a b) := by rw [hrx]; exact Pm.refl _ _ _
          clear hrx
          generalize rot X s m en = Y at *
          obtain ⟨Y1, hY1⟩ : ∃ Y1, Y1 = Y := ⟨_, rfl⟩
          have S3 : Sr wr g n Y1 := by rw [hY1]; exact S2
          have G3 := G2
          have L3 := L2
          have P3 : Hid (Pm Y Y1 a mid ∧ so Y1 a mid) := by rw [hY1]; exact ⟨Pm.refl _ _ _, by have l1x := l1.out; rw [ESM.out] at l1x; exact l1x⟩
          clear hY1
          have l4 : Hid (so Y1 mid en) := fun i j h1 h2 h3 => by rw [P3.out.1.2 i (by omega), P3.out.1.2 j (by omega)]; exact q1.out i j h1 h2 h3
          have l5 : Hid (so Y1 en b) := fun i j h1 h2 h3 => by rw [P3.out.1.2 i (by omega), P3.out.1.2 j (by omega)]; exact q2.out i j h1 h2 h3
          have l6 : Hid (sep Y1 mid en b) := fun i j h1 h2 h3 h4 => by rw [P3.out.1.2 i (by omega), P3.out.1.2 j (by omega)]; exact q3.out i j h1 h2 h3 h4
          have C2 := HIH.out mid en b Y1 wr (by omega) S3 L3 (by omega) (by omega) (by omega) l4.out l5.out l6.out
          unfold SymQ at C2
          go_wp2_with fail
          refine C2.mono ?_
          rintro e w4 ⟨rfl, Z, S4, G4', P4', so4'⟩
          have G4 := grownBy_trans G3 G4'
          have P4 : Hid (Pm Y1 Z mid b ∧ so Z mid b) := ⟨P4', so4'⟩
          clear G4' P4' so4' C2
          go_wp2
          go_end0
          exact ⟨rfl, Z, S4, G4, (P2.out.trans (P3.out.1.wide (Nat.le_refl _) (by omega) (by omega))).trans (P4.out.1.wide (by omega) (by omega) (Nat.le_refl _)), so_join (by omega) (by omega) P3.out.1 P3.out.2 P4.out.1 P4.out.2 cr.out⟩
  · have hcmi : ¬ (mid : Int) < (m : Int) := by omega
    have HRH : Hid (m = hi) := by have := HDF.out; show _ = _; omega
    have HRL : Hid (a = lo) := by have := HDF.out; show _ = _; omega
    go_wp2_with fail
    go_loopw [20, 21] (fun ti tj wr => ∃ s r : Nat, lo ≤ s ∧ s ≤ r ∧ r ≤ hi ∧ ti = .int .i64 (s : Int) ∧ tj = .int .i64 (r : Int) ∧ Sr wr g n X ∧ g < wr.heap.size ∧ w.grownBy wr (some g) ∧ Hid (srch (tst X p) lo hi s r)) (fun ti tj _ => (intOf tj).toNat - (intOf ti).toNat)
    case atStart => exact ⟨a, m, by have := HRL.out; omega, by have := HRH.out; have := HRL.out; omega, by have := HRH.out; omega, rfl, rfl, h, hg, World.grownBy.refl _ _, (by rw [HRL.out, HRH.out]; have := hpn; exact ⟨Nat.le_refl _, by omega, Nat.le_refl _, fun c h1 h2 => by omega, fun c h1 h2 => by omega⟩ : srch _ _ _ _ _)⟩
    case round =>
      obtain ⟨s, r, hls, hsr, hrh, rfl, rfl, hS, hgw, hG, HS⟩ := hrel
      by_cases hlt : s < r
      · have hlti : (s : Int) < (r : Int) := by omega
        obtain ⟨c, hc⟩ : ∃ c, c = (s + r) / 2 := ⟨_, rfl⟩
        have rc : ((s : Int) + (r : Int)) / 2 = (c : Int) := by omega
        have hic : s ≤ c := by omega
        have hcj : c < r := by omega
        obtain ⟨q, hq⟩ : ∃ q, q = p - c := ⟨_, rfl⟩
        have hbc := HBC.out c (by omega) (by omega)
        have rq : (p : Int) - (c : Int) = (q : Int) := by omega
        have HQ : Hid (q = p - c) := hq
        have hqb : q < b ∧ c < m := by omega
        clear hc hq hbc
        have i1 := hS.it (k := q) (by omega)
        have i2 := hS.it (k := c) (by omega)
        have T0 := two_of i1 i2
        unfold Two at T0
        have z0 : (q : Int) < (n : Int) := by omega
        have z1 : (c : Int) < (n : Int) := by omega
        have z2 : (0 : Int) ≤ (q : Int) := by omega
        have z3 : (0 : Int) ≤ (c : Int) := by omega
        have hwp : IntKind.i64.wrap (q : Int) = (q : Int) := by rw [IntKind.wrap_i64]; omega
        have HC : Hid (∀ W, Below wr.heap.size wr W → Calls Tryz.prog 115 #[(X q).val, (X c).val] W fun e w' => e = .returned (.int .i64 (cmpV (X q) (X c))) ∧ Below wr.heap.size wr w') := fun W hW => (cmp_any (X q) (X c) W).mono fun e w' ⟨h1, h2⟩ => ⟨h1, hW.trans (h2.mono hW.size)⟩
        have HK : Hid (∀ W, Below wr.heap.size wr W → Two g q c (X q) (X c) W) := fun W hW => two_old (two_of i1 i2) hW
        unfold Two at HK
        unfold Im.val at HC
        have d1 : Below wr.heap.size wr wr.drew := (Below.refl _ _).drew
        have d0 : Below wr.heap.size wr wr := Below.refl _ _
        have HNEG : Hid (cmpV (X q) (X c) < 0 ↔ (X q).wt < (X c).wt) := cmpV_neg _ _
        have hbd := cmpV_bd (X q) (X c)
        generalize cmpV (X q) (X c) = cv at *
        clear i1 i2
        by_cases hcv : cv < 0
        · have HS2 : Hid (srch (tst X p) lo hi s c) := srch_down HS.out HMono.out hic hcj (by have := HNEG.out.1 hcv; unfold tst; rw [← HQ.out]; exact this)
          go_wp2_with fail
          go_region_held3 (fun w' => (w'.cell? ⟨g, q * 4, none⟩ = some (.int .i64 (X q).wt) ∧ w'.cell? ⟨g, q * 4 + 1, none⟩ = some (.int .i64 (X q).sy) ∧ w'.cell? ⟨g, q * 4 + 2, none⟩ = some (.pointer (X q).fs) ∧ w'.cell? ⟨g, q * 4 + 3, none⟩ = some (.pointer (X q).sn)) ∧ (w'.cell? ⟨g, c * 4, none⟩ = some (.int .i64 (X c).wt) ∧ w'.cell? ⟨g, c * 4 + 1, none⟩ = some (.int .i64 (X c).sy) ∧ w'.cell? ⟨g, c * 4 + 2, none⟩ = some (.pointer (X c).fs) ∧ w'.cell? ⟨g, c * 4 + 3, none⟩ = some (.pointer (X c).sn)))
            (first | go_keep | (exact HK.out _ (by assumption)))
            (first | (go_at_call 115; refine (HC.out _ (by assumption)).mono ?_; rintro e w7 ⟨rfl, b7⟩))
          have S7 := hS.old hgw b7
          have G7 : w.grownBy w7 (some g) := grownBy_trans hG (grown_old b7 _)
          have L7 : g < w7.heap.size := Nat.lt_of_lt_of_le hgw b7.size
          clear T0 HC HK d1 d0 b7
          go_wp2
          go_roundw
          case rel => exact ⟨s, c, hls, by omega, by omega, rfl, rfl, S7, L7, G7, HS2.out⟩
          case measure => simp [intOf]; omega
        · have hcd : decide (cv < 0) = false := decide_eq_false hcv
          have HS2 : Hid (srch (tst X p) lo hi (c + 1) r) := srch_up HS.out HMono.out hic hcj (by have := HNEG.out; unfold tst; rw [← HQ.out]; intro hh; exact hcv (this.2 hh))
          go_wp2_with fail
          go_region_held3 (fun w' => (w'.cell? ⟨g, q * 4, none⟩ = some (.int .i64 (X q).wt) ∧ w'.cell? ⟨g, q * 4 + 1, none⟩ = some (.int .i64 (X q).sy) ∧ w'.cell? ⟨g, q * 4 + 2, none⟩ = some (.pointer (X q).fs) ∧ w'.cell? ⟨g, q * 4 + 3, none⟩ = some (.pointer (X q).sn)) ∧ (w'.cell? ⟨g, c * 4, none⟩ = some (.int .i64 (X c).wt) ∧ w'.cell? ⟨g, c * 4 + 1, none⟩ = some (.int .i64 (X c).sy) ∧ w'.cell? ⟨g, c * 4 + 2, none⟩ = some (.pointer (X c).fs) ∧ w'.cell? ⟨g, c * 4 + 3, none⟩ = some (.pointer (X c).sn)))
            (first | go_keep | (exact HK.out _ (by assumption)))
            (first | (go_at_call 115; refine (HC.out _ (by assumption)).mono ?_; rintro e w7 ⟨rfl, b7⟩))
          have S7 := hS.old hgw b7
          have G7 : w.grownBy w7 (some g) := grownBy_trans hG (grown_old b7 _)
          have L7 : g < w7.heap.size := Nat.lt_of_lt_of_le hgw b7.size
          clear T0 HC HK d1 d0 b7
          go_wp2
          go_roundw
          case rel => exact ⟨c + 1, r, by omega, by omega, hrh, by go_num, rfl, S7, L7, G7, HS2.out⟩
          case measure => simp [intOf]; omega
      · obtain rfl : s = r := by omega
        obtain ⟨en, hen⟩ : ∃ en, en = mid + m - s := ⟨_, rfl⟩
        obtain ⟨t1, t2, t3, t4, t5, t6, ⟨l1', l2', l3'⟩, ⟨q1', q2', q3'⟩, cr'⟩ := HTN.out s HS.out
        rw [← hen] at t4 t5 t6 l1' l2' l3' q1' q2' q3' cr'
        have ren : (N : Int) - (s : Int) = (en : Int) := by have := HDF.out; omega
        have l1 : Hid _ := l1'
        have l2 : Hid _ := l2'
        have l3 : Hid _ := l3'
        have q1 : Hid _ := q1'
        have q2 : Hid _ := q2'
        have q3 : Hid _ := q3'
        have cr : Hid _ := cr'
        have hab4 : a + 4 ≤ b := by omega
        have hsm : a < mid ∧ mid + m = s + en := by have := HDF.out; omega
        clear l1' l2' l3' q1' q2' q3' cr' HS hen hlt HMono HBC HTN hr1 hr2 hs h
        by_cases cA : s < m ∧ s < mid
        · by_cases c2 : a < s
          · by_cases c3 : en < b
            · skip
              have k0 : (s : Int) < (m : Int) := by omega
              have k1 : (m : Int) < (en : Int) := by omega
              have k2 : (a : Int) < (s : Int) := by omega
              have k3 : (s : Int) < (mid : Int) := by omega
              have k4 : (mid : Int) < (en : Int) := by omega
              have k5 : (en : Int) < (b : Int) := by omega
              go_wp2_with fail
              refine (rotate_any g cap n s m en X wr hS (by omega) (by omega) (by omega) hl _).mono ?_
              rintro e w2 ⟨rfl, S2, G2', P2'⟩
              have G2 := grownBy_trans hG G2'
              have L2 : g < w2.heap.size := Nat.lt_of_lt_of_le hgw G2'.size
              have P2 : Hid (Pm X (rot X s m en) a b) := P2'.wide (by omega) (by omega) (by omega)
              clear G2' P2'
              generalize rot X s m en = Y at *
              have C1 := HIH.out a s mid Y w2 (by omega) S2 L2 (by omega) (by omega) (by omega) l1.out l2.out l3.out
              unfold SymQ at C1
              go_wp2_with fail
              refine C1.mono ?_
              rintro e w3 ⟨rfl, Y1, S3, G3', P3', so3'⟩
              have G3 := grownBy_trans G2 G3'
              have L3 : g < w3.heap.size := Nat.lt_of_lt_of_le L2 G3'.size
              have P3 : Hid (Pm Y Y1 a mid ∧ so Y1 a mid) := ⟨P3', so3'⟩
              clear G3' P3' so3' C1
              have l4 : Hid (so Y1 mid en) := fun i j h1 h2 h3 => by rw [P3.out.1.2 i (by omega), P3.out.1.2 j (by omega)]; exact q1.out i j h1 h2 h3
              have l5 : Hid (so Y1 en b) := fun i j h1 h2 h3 => by rw [P3.out.1.2 i (by omega), P3.out.1.2 j (by omega)]; exact q2.out i j h1 h2 h3
              have l6 : Hid (sep Y1 mid en b) := fun i j h1 h2 h3 h4 => by rw [P3.out.1.2 i (by omega), P3.out.1.2 j (by omega)]; exact q3.out i j h1 h2 h3 h4
              have C2 := HIH.out mid en b Y1 w3 (by omega) S3 L3 (by omega) (by omega) (by omega) l4.out l5.out l6.out
              unfold SymQ at C2
              go_wp2_with fail
              refine C2.mono ?_
              rintro e w4 ⟨rfl, Z, S4, G4', P4', so4'⟩
              have G4 := grownBy_trans G3 G4'
              have P4 : Hid (Pm Y1 Z mid b ∧ so Z mid b) := ⟨P4', so4'⟩
              clear G4' P4' so4' C2
              go_wp2
              go_end0
              exact ⟨rfl, Z, S4, G4, (P2.out.trans (P3.out.1.wide (Nat.le_refl _) (by omega) (by omega))).trans (P4.out.1.wide (by omega) (by omega) (Nat.le_refl _)), so_join (by omega) (by omega) P3.out.1 P3.out.2 P4.out.1 P4.out.2 cr.out⟩
            · skip
              have k0 : (s : Int) < (m : Int) := by omega
              have k1 : (m : Int) < (en : Int) := by omega
              have k2 : (a : Int) < (s : Int) := by omega
              have k3 : (s : Int) < (mid : Int) := by omega
              have k4 : (mid : Int) < (en : Int) := by omega
              have k5 : ¬ (en : Int) < (b : Int) := by omega
              go_wp2_with fail
              refine (rotate_any g cap n s m en X wr hS (by omega) (by omega) (by omega) hl _).mono ?_
              rintro e w2 ⟨rfl, S2, G2', P2'⟩
              have G2 := grownBy_trans hG G2'
              have L2 : g < w2.heap.size := Nat.lt_of_lt_of_le hgw G2'.size
              have P2 : Hid (Pm X (rot X s m en) a b) := P2'.wide (by omega) (by omega) (by omega)
              clear G2' P2'
              generalize rot X s m en = Y at *
              have C1 := HIH.out a s mid Y w2 (by omega) S2 L2 (by omega) (by omega) (by omega) l1.out l2.out l3.out
              unfold SymQ at C1
              go_wp2_with fail
              refine C1.mono ?_
              rintro e w3 ⟨rfl, Y1, S3, G3', P3', so3'⟩
              have G3 := grownBy_trans G2 G3'
              have L3 : g < w3.heap.size := Nat.lt_of_lt_of_le L2 G3'.size
              have P3 : Hid (Pm Y Y1 a mid ∧ so Y1 a mid) := ⟨P3', so3'⟩
              clear G3' P3' so3' C1
              have l4 : Hid (so Y1 mid en) := fun i j h1 h2 h3 => by rw [P3.out.1.2 i (by omega), P3.out.1.2 j (by omega)]; exact q1.out i j h1 h2 h3
              have l5 : Hid (so Y1 en b) := fun i j h1 h2 h3 => by rw [P3.out.1.2 i (by omega), P3.out.1.2 j (by omega)]; exact q2.out i j h1 h2 h3
              have l6 : Hid (sep Y1 mid en b) := fun i j h1 h2 h3 h4 => by rw [P3.out.1.2 i (by omega), P3.out.1.2 j (by omega)]; exact q3.out i j h1 h2 h3 h4
              obtain ⟨Z, hZ⟩ : ∃ Z, Z = Y1 := ⟨_, rfl⟩
              have S4 : Sr w3 g n Z := by rw [hZ]; exact S3
              have G4 := G3
              have P4 : Hid (Pm Y1 Z mid b ∧ so Z mid b) := by rw [hZ]; exact ⟨Pm.refl _ _ _, by have e : en = b := (by omega); rw [← e]; exact l4.out⟩
              clear hZ
              go_wp2
              go_end0
              exact ⟨rfl, Z, S4, G4, (P2.out.trans (P3.out.1.wide (Nat.le_refl _) (by omega) (by omega))).trans (P4.out.1.wide (by omega) (by omega) (Nat.le_refl _)), so_join (by omega) (by omega) P3.out.1 P3.out.2 P4.out.1 P4.out.2 cr.out⟩
          · have EAS : Hid (s = a) := by show _ = _; omega
            by_cases c3 : en < b
            · skip
              have k0 : (s : Int) < (m : Int) := by omega
              have k1 : (m : Int) < (en : Int) := by omega
              have k2 : ¬ (a : Int) < (s : Int) := by omega
              have k3 : (mid : Int) < (en : Int) := by omega
              have k4 : (en : Int) < (b : Int) := by omega
              go_wp2_with fail
              refine (rotate_any g cap n s m en X wr hS (by omega) (by omega) (by omega) hl _).mono ?_
              rintro e w2 ⟨rfl, S2, G2', P2'⟩
              have G2 := grownBy_trans hG G2'
              have L2 : g < w2.heap.size := Nat.lt_of_lt_of_le hgw G2'.size
              have P2 : Hid (Pm X (rot X s m en) a b) := P2'.wide (by omega) (by omega) (by omega)
              clear G2' P2'
              generalize rot X s m en = Y at *
              obtain ⟨Y1, hY1⟩ : ∃ Y1, Y1 = Y := ⟨_, rfl⟩
              have S3 : Sr w2 g n Y1 := by rw [hY1]; exact S2
              have G3 := G2
              have L3 := L2
              have P3 : Hid (Pm Y Y1 a mid ∧ so Y1 a mid) := by rw [hY1]; exact ⟨Pm.refl _ _ _, by have l2x := l2.out; rw [EAS.out] at l2x; exact l2x⟩
              clear hY1
              have l4 : Hid (so Y1 mid en) := fun i j h1 h2 h3 => by rw [P3.out.1.2 i (by omega), P3.out.1.2 j (by omega)]; exact q1.out i j h1 h2 h3
              have l5 : Hid (so Y1 en b) := fun i j h1 h2 h3 => by rw [P3.out.1.2 i (by omega), P3.out.1.2 j (by omega)]; exact q2.out i j h1 h2 h3
              have l6 : Hid (sep Y1 mid en b) := fun i j h1 h2 h3 h4 => by rw [P3.out.1.2 i (by omega), P3.out.1.2 j (by omega)]; exact q3.out i j h1 h2 h3 h4
              have C2 := HIH.out mid en b Y1 w2 (by omega) S3 L3 (by omega) (by omega) (by omega) l4.out l5.out l6.out
              unfold SymQ at C2
              go_wp2_with fail
              refine C2.mono ?_
              rintro e w4 ⟨rfl, Z, S4, G4', P4', so4'⟩
              have G4 := grownBy_trans G3 G4'
              have P4 : Hid (Pm Y1 Z mid b ∧ so Z mid b) := ⟨P4', so4'⟩
              clear G4' P4' so4' C2
              go_wp2
              go_end0
              exact ⟨rfl, Z, S4, G4, (P2.out.trans (P3.out.1.wide (Nat.le_refl _) (by omega) (by omega))).trans (P4.out.1.wide (by omega) (by omega) (Nat.le_refl _)), so_join (by omega) (by omega) P3.out.1 P3.out.2 P4.out.1 P4.out.2 cr.out⟩
            · skip
              have k0 : (s : Int) < (m : Int) := by omega
              have k1 : (m : Int) < (en : Int) := by omega
              have k2 : ¬ (a : Int) < (s : Int) := by omega
              have k3 : (mid : Int) < (en : Int) := by omega
              have k4 : ¬ (en : Int) < (b : Int) := by omega
              go_wp2_with fail
              refine (rotate_any g cap n s m en X wr hS (by omega) (by omega) (by omega) hl _).mono ?_
              rintro e w2 ⟨rfl, S2, G2', P2'⟩
              have G2 := grownBy_trans hG G2'
              have L2 : g < w2.heap.size := Nat.lt_of_lt_of_le hgw G2'.size
              have P2 : Hid (Pm X (rot X s m en) a b) := P2'.wide (by omega) (by omega) (by omega)
              clear G2' P2'
              generalize rot X s m en = Y at *
              obtain ⟨Y1, hY1⟩ : ∃ Y1, Y1 = Y := ⟨_, rfl⟩
              have S3 : Sr w2 g n Y1 := by rw [hY1]; exact S2
              have G3 := G2
              have L3 := L2
              have P3 : Hid (Pm Y Y1 a mid ∧ so Y1 a mid) := by rw [hY1]; exact ⟨Pm.refl _ _ _, by have l2x := l2.out; rw [EAS.out] at l2x; exact l2x⟩
              clear hY1
              have l4 : Hid (so Y1 mid en) := fun i j h1 h2 h3 => by rw [P3.out.1.2 i (by omega), P3.out.1.2 j (by omega)]; exact q1.out i j h1 h2 h3
              have l5 : Hid (so Y1 en b) := fun i j h1 h2 h3 => by rw [P3.out.1.2 i (by omega), P3.out.1.2 j (by omega)]; exact q2.out i j h1 h2 h3
              have l6 : Hid (sep Y1 mid en b) := fun i j h1 h2 h3 h4 => by rw [P3.out.1.2 i (by omega), P3.out.1.2 j (by omega)]; exact q3.out i j h1 h2 h3 h4
              obtain ⟨Z, hZ⟩ : ∃ Z, Z = Y1 := ⟨_, rfl⟩
              have S4 : Sr w2 g n Z := by rw [hZ]; exact S3
              have G4 := G3
              have P4 : Hid (Pm Y1 Z mid b ∧ so Z mid b) := by rw [hZ]; exact ⟨Pm.refl _ _ _, by have e : en = b := (by omega); rw [← e]; exact l4.out⟩
              clear hZ
              go_wp2
              go_end0
              exact ⟨rfl, Z, S4, G4, (P2.out.trans (P3.out.1.wide (Nat.le_refl _) (by omega) (by omega))).trans (P4.out.1.wide (by omega) (by omega) (Nat.le_refl _)), so_join (by omega) (by omega) P3.out.1 P3.out.2 P4.out.1 P4.out.2 cr.out⟩
        · have ESM : Hid (s = m) := by have := HLH.out; have := HRH.out; show _ = _; omega
          have EEN : Hid (en = mid) := by have := ESM.out; show _ = _; omega
          by_cases c2 : s < mid
          · skip
            have k0 : ¬ (s : Int) < (m : Int) := by omega
            have k1 : (a : Int) < (s : Int) := by omega
            have k2 : (s : Int) < (mid : Int) := by omega
            have k3 : ¬ (mid : Int) < (en : Int) := by omega
            have hrx : rot X s m en = X := by rw [ESM.out]; exact rot_left X m en
            have S2 : Sr wr g n (rot X s m en) := by rw [hrx]; exact hS
            have G2 := hG
            have L2 := hgw
            have P2 : Hid (Pm X (rot X s m en) a b) := by rw [hrx]; exact Pm.refl _ _ _
            clear hrx
            generalize rot X s m en = Y at *
            have C1 := HIH.out a s mid Y wr (by omega) S2 L2 (by omega) (by omega) (by omega) l1.out l2.out l3.out
            unfold SymQ at C1
            go_wp2_with fail
            refine C1.mono ?_
            rintro e w3 ⟨rfl, Y1, S3, G3', P3', so3'⟩
            have G3 := grownBy_trans G2 G3'
            have L3 : g < w3.heap.size := Nat.lt_of_lt_of_le L2 G3'.size
            have P3 : Hid (Pm Y Y1 a mid ∧ so Y1 a mid) := ⟨P3', so3'⟩
            clear G3' P3' so3' C1
            have l4 : Hid (so Y1 mid en) := fun i j h1 h2 h3 => by rw [P3.out.1.2 i (by omega), P3.out.1.2 j (by omega)]; exact q1.out i j h1 h2 h3
            have l5 : Hid (so Y1 en b) := fun i j h1 h2 h3 => by rw [P3.out.1.2 i (by omega), P3.out.1.2 j (by omega)]; exact q2.out i j h1 h2 h3
            have l6 : Hid (sep Y1 mid en b) := fun i j h1 h2 h3 h4 => by rw [P3.out.1.2 i (by omega), P3.out.1.2 j (by omega)]; exact q3.out i j h1 h2 h3 h4
            obtain ⟨Z, hZ⟩ : ∃ Z, Z = Y1 := ⟨_, rfl⟩
            have S4 : Sr w3 g n Z := by rw [hZ]; exact S3
            have G4 := G3
            have P4 : Hid (Pm Y1 Z mid b ∧ so Z mid b) := by rw [hZ]; exact ⟨Pm.refl _ _ _, by have l5x := l5.out; rw [EEN.out] at l5x; exact l5x⟩
            clear hZ
            go_wp2
            go_end0
            exact ⟨rfl, Z, S4, G4, (P2.out.trans (P3.out.1.wide (Nat.le_refl _) (by omega) (by omega))).trans (P4.out.1.wide (by omega) (by omega) (Nat.le_refl _)), so_join (by omega) (by omega) P3.out.1 P3.out.2 P4.out.1 P4.out.2 cr.out⟩
          · have EMS : Hid (s = mid) := by show _ = _; omega
            have k0 : ¬ (s : Int) < (m : Int) := by omega
            have k1 : (a : Int) < (s : Int) := by omega
            have k2 : ¬ (s : Int) < (mid : Int) := by omega
            have k3 : ¬ (mid : Int) < (en : Int) := by omega
            have hrx : rot X s m en = X := by rw [ESM.out]; exact rot_left X m en
            have S2 : Sr wr g n (rot X s m en) := by rw [hrx]; exact hS
            have G2 := hG
            have L2 := hgw
            have P2 : Hid (Pm X (rot X s m en) a b) := by rw [hrx]; exact Pm.refl _ _ _
            clear hrx
            generalize rot X s m en = Y at *
            obtain ⟨Y1, hY1⟩ : ∃ Y1, Y1 = Y := ⟨_, rfl⟩
            have S3 : Sr wr g n Y1 := by rw [hY1]; exact S2
            have G3 := G2
            have L3 := L2
            have P3 : Hid (Pm Y Y1 a mid ∧ so Y1 a mid) := by rw [hY1]; exact ⟨Pm.refl _ _ _, by have l1x := l1.out; rw [EMS.out] at l1x; exact l1x⟩
            clear hY1
            have l4 : Hid (so Y1 mid en) := fun i j h1 h2 h3 => by rw [P3.out.1.2 i (by omega), P3.out.1.2 j (by omega)]; exact q1.out i j h1 h2 h3
            have l5 : Hid (so Y1 en b) := fun i j h1 h2 h3 => by rw [P3.out.1.2 i (by omega), P3.out.1.2 j (by omega)]; exact q2.out i j h1 h2 h3
            have l6 : Hid (sep Y1 mid en b) := fun i j h1 h2 h3 h4 => by rw [P3.out.1.2 i (by omega), P3.out.1.2 j (by omega)]; exact q3.out i j h1 h2 h3 h4
            obtain ⟨Z, hZ⟩ : ∃ Z, Z = Y1 := ⟨_, rfl⟩
            have S4 : Sr wr g n Z := by rw [hZ]; exact S3
            have G4 := G3
            have P4 : Hid (Pm Y1 Z mid b ∧ so Z mid b) := by rw [hZ]; exact ⟨Pm.refl _ _ _, by have l5x := l5.out; rw [EEN.out] at l5x; exact l5x⟩
            clear hZ
            go_wp2
            go_end0
            exact ⟨rfl, Z, S4, G4, (P2.out.trans (P3.out.1.wide (Nat.le_refl _) (by omega) (by omega))).trans (P4.out.1.wide (by omega) (by omega) (Nat.le_refl _)), so_join (by omega) (by omega) P3.out.1 P3.out.2 P4.out.1 P4.out.2 cr.out⟩
end Go.Proofs.YtiankbopnjhhaaaGreatDoor
