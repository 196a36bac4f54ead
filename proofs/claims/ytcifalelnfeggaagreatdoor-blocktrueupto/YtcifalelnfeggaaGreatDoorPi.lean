import Derived.Test.YtcifalelnfeggaaGreatDoorPh
namespace Go.Proofs.YtcifalelnfeggaaGreatDoor
open Go.RowKit
set_option linter.unusedVariables false

theorem Sr.grown {w w' : World} {g n : Nat} {X : Nat → Im} (h : Sr w g n X) (hg : w.grownBy w' none) (hl : g < w.heap.size) : Sr w' g n X :=
  h.old hl ⟨hg.os, hg.tape, hg.output, hg.size, fun i hi => hg.block i hi (by simp)⟩
/-- Two items of the row, as cells. -/
def Two (g p q : Nat) (x y : Im) (w' : World) : Prop :=
  (w'.cell? ⟨g, p * 4, none⟩ = some (.int .i64 x.wt) ∧ w'.cell? ⟨g, p * 4 + 1, none⟩ = some (.int .i64 x.sy) ∧ w'.cell? ⟨g, p * 4 + 2, none⟩ = some (.pointer x.fs) ∧ w'.cell? ⟨g, p * 4 + 3, none⟩ = some (.pointer x.sn)) ∧
  (w'.cell? ⟨g, q * 4, none⟩ = some (.int .i64 y.wt) ∧ w'.cell? ⟨g, q * 4 + 1, none⟩ = some (.int .i64 y.sy) ∧ w'.cell? ⟨g, q * 4 + 2, none⟩ = some (.pointer y.fs) ∧ w'.cell? ⟨g, q * 4 + 3, none⟩ = some (.pointer y.sn))
theorem two_of {w : World} {g p q : Nat} {x y : Im} (h : ItAt w g (p * 4) x) (k : ItAt w g (q * 4) y) : Two g p q x y w := ⟨⟨h.c0, h.c1, h.c2, h.c3⟩, ⟨k.c0, k.c1, k.c2, k.c3⟩⟩
theorem two_old {w w' : World} {g p q : Nat} {x y : Im} (h : Two g p q x y w) (hb : Below w.heap.size w w') : Two g p q x y w' := by
  have k1 : ItAt w g (p * 4) x := ⟨h.1.1, h.1.2.1, h.1.2.2.1, h.1.2.2.2⟩
  have k2 : ItAt w g (q * 4) y := ⟨h.2.1, h.2.2.1, h.2.2.2.1, h.2.2.2.2⟩
  exact two_of (k1.of_block (hb.block g k1.lt)) (k2.of_block (hb.block g k2.lt))

set_option maxRecDepth 100000 in
set_option maxHeartbeats 4000000 in
theorem insSort_any (g cap n a b : Nat) (X : Nat → Im) (w : World) (h : Sr w g n X) (hg : g < w.heap.size) (hab : a ≤ b) (hb : b ≤ n) (hl : n ≤ 100000) (hs : ∀ i j, a ≤ i → i < j → j < b → (X i).sy < (X j).sy) :
    Calls Tryz.prog 157 #[.slice (some ⟨g, 0, none⟩) n cap, .int .i64 a, .int .i64 b, cmpF] w fun e w' => e = .returned (.tuple #[]) ∧ ∃ Y, Sr w' g n Y ∧ w.grownBy w' (some g) ∧ Pm X Y a b ∧ so Y a b := by
  go_enter Tryz.func157, Tryz.ntmps157
  go_wp2
  go_loopw [8] (fun ti wr => ∃ (i : Nat) (Y : Nat → Im), a < i ∧ (i ≤ b ∨ i = a + 1) ∧ ti = .int .i64 (i : Int) ∧ Sr wr g n Y ∧ w.grownBy wr (some g) ∧ Hid (Pm X Y a (min i b) ∧ so Y a (min i b))) (fun ti _ => b + 1 - (intOf ti).toNat)
  case atStart => exact ⟨a + 1, X, by omega, .inr rfl, by go_num, h, World.grownBy.refl _ _, (⟨Pm.refl _ _ _, fun i j h1 h2 h3 => by omega⟩ : _ ∧ _)⟩
  case round =>
    obtain ⟨i, Y, hai, hib, rfl, hS, hG, HY⟩ := hrel
    by_cases hi : i < b
    · have hii : (i : Int) < (b : Int) := by omega
      have HY1 : Hid (Pm X Y a i ∧ so Y a i) := by
        have := HY.out
        rw [Nat.min_eq_left (by omega)] at this
        exact this
      have HSY : Hid (∀ k, a ≤ k → k < i → (Y k).sy < (Y i).sy) := by
        intro k h1 h2
        obtain ⟨q, h3, h4, h5⟩ := HY1.out.1.mem (k := k) h1 h2
        rw [HY1.out.1.2 i (by omega), h5]
        exact hs q i h3 h4 hi
      clear HY
      obtain ⟨w0, hw0⟩ : ∃ w0, w0 = wr := ⟨_, rfl⟩
      have HW0 : Hid (w0 = wr) := hw0
      clear hw0
      go_wp2_with fail
      go_loopw [9] (fun tj w2 => ∃ j : Nat, a ≤ j ∧ j ≤ i ∧ tj = .int .i64 (j : Int) ∧ Sr w2 g n (insA Y i j) ∧ w0.grownBy w2 (some g) ∧ Hid (Pm Y (insA Y i j) a (i + 1) ∧ ∀ k, j ≤ k → k < i → (Y i).wt < (Y k).wt)) (fun tj _ => (intOf tj).toNat)
      case atStart => exact ⟨i, by omega, Nat.le_refl _, rfl, by rw [insA_self]; exact hS, by rw [HW0.out]; exact World.grownBy.refl _ _, (⟨by rw [insA_self]; exact Pm.refl _ _ _, fun k h1 h2 => by omega⟩ : _ ∧ _)⟩
      case round =>
        obtain ⟨j, haj, hji, rfl, hS2, hG2, HJ⟩ := hrel
        clear hS
        have HOUT : Hid ((∀ k, a ≤ k → k < j → kl (Y k) (Y i)) → Pm X (insA Y i j) a (min (i + 1) b) ∧ so (insA Y i j) a (min (i + 1) b)) := by
          intro hk
          rw [Nat.min_eq_left (by omega)]
          exact ⟨(HY1.out.1.wide (Nat.le_refl _) (by omega) (by omega)).trans HJ.out.1, insA_so HY1.out.2 haj hji hk (fun k h1 h2 => by have := HJ.out.2 k h1 h2; unfold kl; omega)⟩
        by_cases hja : a < j
        · have hjai : (a : Int) < (j : Int) := by omega
          obtain ⟨q, hq⟩ : ∃ q, j = q + 1 := ⟨j - 1, by omega⟩
          have i1 := hS2.it (k := j) (by omega)
          have i2 := hS2.it (k := q) (by omega)
          have e1 : insA Y i j j = Y i := by unfold insA; rw [if_neg (by omega), if_pos rfl]
          have e2 : insA Y i j q = Y q := by unfold insA; rw [if_pos (by omega)]
          rw [e1] at i1
          rw [e2] at i2
          have T0 := two_of i1 i2
          unfold Two at T0
          have HQ : Hid (j = q + 1) := hq
          have rq : (j : Int) - 1 = (q : Int) := by omega
          have z0 : (j : Int) < (n : Int) := by omega
          have z1 : (q : Int) < (n : Int) := by omega
          have hjq : j ≠ q := by omega
          have z2 : (0 : Int) ≤ (q : Int) := by omega
          have hwp : IntKind.i64.wrap (q : Int) = (q : Int) := by rw [IntKind.wrap_i64]; omega
          have hwp2 : RowKit.wrap64 (q : Int) = (q : Int) := by rw [← IntWalk.i64_left]; exact hwp
          have HSTEP : Hid (swI (insA Y i j) j q = insA Y i q) := by
            have := insA_step Y i j (by omega) hji
            have e3 : j - 1 = q := by omega
            rw [e3] at this
            exact this
          have hgw : g < wr.heap.size := i1.lt
          have HE : Hid (insA Y i j j = Y i ∧ insA Y i j q = Y q) := ⟨e1, e2⟩
          have HC : Hid (∀ W, Below wr.heap.size wr W → Calls Tryz.prog 115 #[(Y i).val, (Y q).val] W fun e w' => e = .returned (.int .i64 (cmpV (Y i) (Y q))) ∧ Below wr.heap.size wr w') := fun W hW => (cmp_any (Y i) (Y q) W).mono fun e w' ⟨h1, h2⟩ => ⟨h1, hW.trans (h2.mono hW.size)⟩
          have HK : Hid (∀ W, Below wr.heap.size wr W → Two g j q (Y i) (Y q) W) := fun W hW => two_old (two_of i1 i2) hW
          unfold Two at HK
          unfold Im.val at HC
          have d1 : Below wr.heap.size wr wr.drew := (Below.refl _ _).drew
          have d0 : Below wr.heap.size wr wr := Below.refl _ _
          have HNEG : Hid (cmpV (Y i) (Y q) < 0 ↔ (Y i).wt < (Y q).wt) := cmpV_neg _ _
          have hbd := cmpV_bd (Y i) (Y q)
          generalize cmpV (Y i) (Y q) = cv at *
          have HXI : Hid (Sr wr g n (insA Y i j)) := hS2
          clear hS2 i1 i2 e1 e2 hq
          by_cases hcv : cv < 0
          · go_wp2_with fail
            go_region_held3 (fun w' => (w'.cell? ⟨g, j * 4, none⟩ = some (.int .i64 (Y i).wt) ∧ w'.cell? ⟨g, j * 4 + 1, none⟩ = some (.int .i64 (Y i).sy) ∧ w'.cell? ⟨g, j * 4 + 2, none⟩ = some (.pointer (Y i).fs) ∧ w'.cell? ⟨g, j * 4 + 3, none⟩ = some (.pointer (Y i).sn)) ∧ (w'.cell? ⟨g, q * 4, none⟩ = some (.int .i64 (Y q).wt) ∧ w'.cell? ⟨g, q * 4 + 1, none⟩ = some (.int .i64 (Y q).sy) ∧ w'.cell? ⟨g, q * 4 + 2, none⟩ = some (.pointer (Y q).fs) ∧ w'.cell? ⟨g, q * 4 + 3, none⟩ = some (.pointer (Y q).sn)))
              (first | go_keep | (exact HK.out _ (by assumption)))
              (first | (go_at_call 115; refine (HC.out _ (by assumption)).mono ?_; rintro e w7 ⟨rfl, b7⟩))
            have S7 := HXI.out.old hgw b7
            have G7 : w0.grownBy w7 (some g) := grownBy_trans hG2 (grown_old b7 _)
            have HSW := S7.swap (i := j) (j := q) (by omega) (by omega)
            have HGW := swap_grown w7 g (j * 4) (q * 4) (Y q) (Y i)
            rw [HE.out.1, HE.out.2, HSTEP.out] at HSW
            have i1 := S7.it (k := j) (by omega)
            have i2 := S7.it (k := q) (by omega)
            rw [HE.out.1] at i1
            rw [HE.out.2] at i2
            obtain ⟨x0, x1, x2, x3⟩ := i1
            obtain ⟨y0, y1, y2, y3⟩ := i2
            have f0 := S7.free (j * 4); have f1 := S7.free (j * 4 + 1); have f2 := S7.free (j * 4 + 2); have f3 := S7.free (j * 4 + 3)
            have g0 := S7.free (q * 4); have g1 := S7.free (q * 4 + 1); have g2 := S7.free (q * 4 + 2); have g3 := S7.free (q * 4 + 3)
            have HSS : Hid _ := HSW
            have HGG : Hid _ := HGW
            have HPQ : Hid (Pm Y (insA Y i q) a (i + 1) ∧ ∀ k, q ≤ k → k < i → (Y i).wt < (Y k).wt) := by
              refine ⟨?_, fun k h1 h2 => ?_⟩
              · have := HJ.out.1.trans (Pm.swap (insA Y i j) (a := a) (b := i + 1) (i := j) (j := q) (by omega) (by omega) (by have := HQ.out; omega) (by omega))
                rw [HSTEP.out] at this
                exact this
              · by_cases e : k = q
                · rw [e]; exact HNEG.out.1 hcv
                · exact HJ.out.2 k (by have := HQ.out; omega) h2
            clear HSW HGW S7 T0 HC HK d1 d0 b7 HXI HE HSTEP
            go_wp2_with fail
            go_region
            go_wp2
            go_roundw
            case rel => exact ⟨q, by have := HQ.out; omega, by have := HQ.out; omega, rfl, HSS.out.drew, grownBy_drew (grownBy_trans G7 HGG.out), HPQ.out⟩
            case measure => have := HQ.out; simp [intOf]; omega
          · go_wp2_with fail
            go_region_held3 (fun w' => (w'.cell? ⟨g, j * 4, none⟩ = some (.int .i64 (Y i).wt) ∧ w'.cell? ⟨g, j * 4 + 1, none⟩ = some (.int .i64 (Y i).sy) ∧ w'.cell? ⟨g, j * 4 + 2, none⟩ = some (.pointer (Y i).fs) ∧ w'.cell? ⟨g, j * 4 + 3, none⟩ = some (.pointer (Y i).sn)) ∧ (w'.cell? ⟨g, q * 4, none⟩ = some (.int .i64 (Y q).wt) ∧ w'.cell? ⟨g, q * 4 + 1, none⟩ = some (.int .i64 (Y q).sy) ∧ w'.cell? ⟨g, q * 4 + 2, none⟩ = some (.pointer (Y q).fs) ∧ w'.cell? ⟨g, q * 4 + 3, none⟩ = some (.pointer (Y q).sn)))
              (first | go_keep | (exact HK.out _ (by assumption)))
              (first | (go_at_call 115; refine (HC.out _ (by assumption)).mono ?_; rintro e w7 ⟨rfl, b7⟩))
            have S7 := HXI.out.old hgw b7
            have G7 : w0.grownBy w7 (some g) := grownBy_trans hG2 (grown_old b7 _)
            have HO := HOUT.out (fun k h1 h2 => by
              have h3 := HSY.out k h1 (by omega)
              refine kl_of_wt h3 ?_
              have h4 : ¬ (Y i).wt < (Y q).wt := fun h => by have := HNEG.out.2 h; omega
              rcases HY1.out.2.le h1 (show k ≤ q by have := HQ.out; omega) (by have := HQ.out; omega) with e | e
              · rw [e]; exact h4
              · unfold kl at e; omega)
            have HOO : Hid _ := HO
            clear T0 HC HK d1 d0 b7 HXI HO
            go_wp2
            go_roundw
            case rel => exact ⟨i + 1, insA Y i j, by omega, .inl (by omega), by go_num, S7, grownBy_trans hG (HW0.out ▸ G7), HOO.out⟩
            case measure => simp [intOf]; omega
        · obtain rfl : j = a := by omega
          have HO := HOUT.out (fun k h1 h2 => by omega)
          have HOO : Hid _ := HO
          clear HO
          have hdj : decide ((j : Int) < (j : Int)) = false := decide_eq_false (by omega)
          go_wp2_with fail
          go_quiet (fail)
          go_wp2
          go_roundw
          case rel => exact ⟨i + 1, insA Y i j, by omega, .inl (by omega), by go_num, ⟨hS2.row.drewN nq, hS2.free⟩, grownBy_drewN (grownBy_trans hG (HW0.out ▸ hG2)) nq, HOO.out⟩
          case measure => simp [intOf]; omega
    · go_wp2
      go_end0
      refine ⟨rfl, Y, hS, hG, ?_⟩
      have := HY.out
      rw [Nat.min_eq_right (by omega)] at this
      exact this
end Go.Proofs.YtcifalelnfeggaaGreatDoor

namespace Go.Proofs.YtcifalelnfeggaaGreatDoor
open Go.RowKit
set_option linter.unusedVariables false

set_option maxRecDepth 100000 in
set_option maxHeartbeats 2000000 in
theorem rotate_any (g cap n a m b : Nat) (X : Nat → Im) (w : World) (h : Sr w g n X) (ham : a < m) (hmb : m < b) (hb : b ≤ n) (hl : n ≤ 100000) (f : Value) :
    Calls Tryz.prog 170 #[.slice (some ⟨g, 0, none⟩) n cap, .int .i64 a, .int .i64 m, .int .i64 b, f] w fun e w' => e = .returned (.tuple #[]) ∧ Sr w' g n (rot X a m b) ∧ w.grownBy w' (some g) ∧ Pm X (rot X a m b) a b := by
  obtain ⟨i0, hi0⟩ : ∃ i0, i0 = m - a := ⟨_, rfl⟩
  obtain ⟨j0, hj0⟩ : ∃ j0, j0 = b - m := ⟨_, rfl⟩
  have r1 : (m : Int) - (a : Int) = (i0 : Int) := by omega
  have r2 : (b : Int) - (m : Int) = (j0 : Int) := by omega
  have HI : Hid (i0 = m - a ∧ j0 = b - m) := ⟨hi0, hj0⟩
  clear hi0 hj0
  go_enter Tryz.func170, Tryz.ntmps170
  go_wp2
  go_loopw [10, 11] (fun ti tj wr => ∃ (i j : Nat) (Y : Nat → Im), 0 < i ∧ 0 < j ∧ i ≤ m ∧ m + j ≤ n ∧ ti = .int .i64 (i : Int) ∧ tj = .int .i64 (j : Int) ∧ Sr wr g n Y ∧ w.grownBy wr (some g) ∧ Hid (rot Y (m - i) m (m + j) = rot X a m b ∧ Pm X Y a b ∧ a ≤ m - i ∧ m + j ≤ b)) (fun ti tj _ => (intOf ti).toNat + (intOf tj).toNat)
  case atStart =>
    obtain ⟨e1, e2⟩ := HI.out
    exact ⟨i0, j0, X, by omega, by omega, by omega, by omega, rfl, rfl, h, World.grownBy.refl _ _, (⟨by rw [show m - i0 = a by omega, show m + j0 = b by omega], Pm.refl _ _ _, by omega, by omega⟩ : _ ∧ _)⟩
  case round =>
    obtain ⟨i, j, Y, hi, hj, him, hjn, rfl, rfl, hS, hG, HY⟩ := hrel
    clear r1 r2
    by_cases c1 : i = j
    · subst c1
      obtain ⟨p, hp⟩ : ∃ p, p = m - i := ⟨_, rfl⟩
      have rp : (m : Int) - (i : Int) = (p : Int) := by omega
      have CS := swapRange_any g cap n p m i Y wr hS (by omega) hjn hl f
      have HE : Hid (swr Y p m i = rot X a m b) := by show _ = _; rw [hp, rot_same Y m i him]; exact HY.out.1
      have HP : Hid (Pm X (rot X a m b) a b → True) := fun _ => trivial
      have HPP : Hid (a ≤ p ∧ p ≤ m) := ⟨by have := HY.out; omega, by omega⟩
      clear hp
      go_wp2_with fail
      refine CS.mono ?_
      rintro e w2 ⟨rfl, s2, g2, p2⟩
      rw [HE.out] at s2 p2
      go_wp2
      go_end0
      exact ⟨rfl, s2, grownBy_trans hG g2, HY.out.2.1.trans (p2.wide HPP.out.1 (by have := HPP.out.2; omega) HY.out.2.2.2)⟩
    · have c1i : ((i : Int) != (j : Int)) = true := by simp; omega
      by_cases c2 : j < i
      · have c2i : (j : Int) < (i : Int) := by omega
        obtain ⟨p, hp⟩ : ∃ p, p = m - i := ⟨_, rfl⟩
        have rp : (m : Int) - (i : Int) = (p : Int) := by omega
        obtain ⟨d, hd⟩ : ∃ d, d = i - j := ⟨_, rfl⟩
        have rd : (i : Int) - (j : Int) = (d : Int) := by omega
        have CS := swapRange_any g cap n p m j Y wr hS (by omega) hjn hl f
        have HE : Hid (rot (swr Y p m j) (m - d) m (m + j) = rot X a m b) := by show _ = _; rw [hp, hd, rot_more Y m i j him hj c2]; exact HY.out.1
        have HPP : Hid (a ≤ p ∧ p ≤ m ∧ a ≤ m - d) := ⟨by have := HY.out; omega, by omega, by have := HY.out; omega⟩
        have hd0 : 0 < d ∧ d ≤ m ∧ d < i := by omega
        clear hp hd
        go_wp2_with fail
        refine CS.mono ?_
        rintro e w2 ⟨rfl, s2, g2, p2⟩
        have HP2 : Hid _ := HY.out.2.1.trans (p2.wide HPP.out.1 (by have := HPP.out.2; omega) HY.out.2.2.2)
        clear p2
        go_wp2
        go_roundw
        case rel => exact ⟨d, j, swr Y p m j, by omega, by omega, by omega, by omega, rfl, rfl, s2, grownBy_trans hG g2, (⟨HE.out, HP2.out, HPP.out.2.2, HY.out.2.2.2⟩ : _ ∧ _)⟩
        case measure => simp [intOf]; omega
      · have c2i : ¬ (j : Int) < (i : Int) := by omega
        obtain ⟨p, hp⟩ : ∃ p, p = m - i := ⟨_, rfl⟩
        have rp : (m : Int) - (i : Int) = (p : Int) := by omega
        obtain ⟨d, hd⟩ : ∃ d, d = j - i := ⟨_, rfl⟩
        have rd : (j : Int) - (i : Int) = (d : Int) := by omega
        obtain ⟨q, hq⟩ : ∃ q, q = m + j - i := ⟨_, rfl⟩
        have rq : (m : Int) + (j : Int) - (i : Int) = (q : Int) := by omega
        have CS := swapRange_any g cap n p q i Y wr hS (by omega) (by omega) hl f
        have HE : Hid (rot (swr Y p q i) (m - i) m (m + d) = rot X a m b) := by show _ = _; rw [hp, hd, hq, rot_less Y m i j him hi (by omega)]; exact HY.out.1
        have HPP : Hid (a ≤ p ∧ p ≤ m ∧ a ≤ m - i ∧ p ≤ q ∧ q + i ≤ b ∧ m + d ≤ b) := by have := HY.out; exact ⟨by omega, by omega, by omega, by omega, by omega, by omega⟩
        have hd0 : 0 < d ∧ m + d ≤ n ∧ d < j := by omega
        clear hp hd hq
        go_wp2_with fail
        refine CS.mono ?_
        rintro e w2 ⟨rfl, s2, g2, p2⟩
        have HP2 : Hid _ := HY.out.2.1.trans (p2.wide HPP.out.1 (by have := HPP.out; omega) HPP.out.2.2.2.2.1)
        clear p2
        go_wp2
        go_roundw
        case rel => exact ⟨i, d, swr Y p q i, by omega, by omega, by omega, by omega, rfl, rfl, s2, grownBy_trans hG g2, (⟨HE.out, HP2.out, HPP.out.2.2.1, HPP.out.2.2.2.2.2⟩ : _ ∧ _)⟩
        case measure => simp [intOf]; omega
end Go.Proofs.YtcifalelnfeggaaGreatDoor

namespace Go.Proofs.YtcifalelnfeggaaGreatDoor
open Go.RowKit
set_option linter.unusedVariables false

def SymQ (g n cap a m b : Nat) (X : Nat → Im) (w : World) : Prop :=
  Calls Tryz.prog 158 #[.slice (some ⟨g, 0, none⟩) n cap, .int .i64 a, .int .i64 m, .int .i64 b, cmpF] w fun e w' => e = .returned (.tuple #[]) ∧ ∃ Y, Sr w' g n Y ∧ w.grownBy w' (some g) ∧ Pm X Y a b ∧ so Y a b
def tF (X : Nat → Im) (a c : Nat) : Prop := ¬ (X c).wt < (X a).wt
def tL (X : Nat → Im) (m c : Nat) : Prop := (X m).wt < (X c).wt

set_option maxHeartbeats 4000000 in
set_option maxRecDepth 100000 in
theorem sym_first (g n cap a m b : Nat) (X : Nat → Im) (w : World) (h : Sr w g n X) (hg : g < w.heap.size) (hb : b ≤ n) (hl : n ≤ 100000) (hm : m = a + 1) (hmb : m < b) (hr : so X m b) (hs : sep X a m b) : SymQ g n cap a m b X w := by
  unfold SymQ
  have r1 : (m : Int) - (a : Int) = 1 := by omega
  have ham : a < m := by omega
  have HM : Hid (m = a + 1) := hm
  clear hm
  have HMono : Hid (∀ c c', m ≤ c' → c' ≤ c → c < b → tF X a c' → tF X a c) := by
    intro c c' h1 h2 h3 h4 h5
    unfold tF at h4
    rcases hr.le h1 h2 h3 with e | e
    · rw [e] at h4; exact h4 h5
    · unfold kl at e; omega
  go_enter Tryz.func158, Tryz.ntmps158
  go_wp2_with fail
  go_loopw [10, 11] (fun ti tj wr => ∃ i j : Nat, m ≤ i ∧ i ≤ j ∧ j ≤ b ∧ ti = .int .i64 (i : Int) ∧ tj = .int .i64 (j : Int) ∧ Sr wr g n X ∧ g < wr.heap.size ∧ w.grownBy wr (some g) ∧ Hid (srch (tF X a) m b i j)) (fun ti tj _ => (intOf tj).toNat - (intOf ti).toNat)
  case atStart => exact ⟨m, b, Nat.le_refl _, by omega, Nat.le_refl _, rfl, rfl, h, hg, World.grownBy.refl _ _, (⟨Nat.le_refl _, by omega, Nat.le_refl _, fun c h1 h2 => by omega, fun c h1 h2 => by omega⟩ : _ ∧ _)⟩
  case round =>
    obtain ⟨i, j, hmi, hij, hjb, rfl, rfl, hS, hgw, hG, HS⟩ := hrel
    by_cases hlt : i < j
    · have hlti : (i : Int) < (j : Int) := by omega
      obtain ⟨c, hc⟩ : ∃ c, c = (i + j) / 2 := ⟨_, rfl⟩
      have rc : ((i : Int) + (j : Int)) / 2 = (c : Int) := by omega
      have hic : i ≤ c := by omega
      have hcj : c < j := by omega
      clear hc
      have i1 := hS.it (k := c) (by omega)
      have i2 := hS.it (k := a) (by omega)
      have T0 := two_of i1 i2
      unfold Two at T0
      have z0 : (c : Int) < (n : Int) := by omega
      have z1 : (a : Int) < (n : Int) := by omega
      have z2 : (0 : Int) ≤ (c : Int) := by omega
      have z3 : (0 : Int) ≤ (a : Int) := by omega
      have hwp : IntKind.i64.wrap (c : Int) = (c : Int) := by rw [IntKind.wrap_i64]; omega
      have HC : Hid (∀ W, Below wr.heap.size wr W → Calls Tryz.prog 115 #[(X c).val, (X a).val] W fun e w' => e = .returned (.int .i64 (cmpV (X c) (X a))) ∧ Below wr.heap.size wr w') := fun W hW => (cmp_any (X c) (X a) W).mono fun e w' ⟨h1, h2⟩ => ⟨h1, hW.trans (h2.mono hW.size)⟩
      have HK : Hid (∀ W, Below wr.heap.size wr W → Two g c a (X c) (X a) W) := fun W hW => two_old (two_of i1 i2) hW
      unfold Two at HK
      unfold Im.val at HC
      have d1 : Below wr.heap.size wr wr.drew := (Below.refl _ _).drew
      have d0 : Below wr.heap.size wr wr := Below.refl _ _
      have HNEG : Hid (cmpV (X c) (X a) < 0 ↔ (X c).wt < (X a).wt) := cmpV_neg _ _
      have hbd := cmpV_bd (X c) (X a)
      generalize cmpV (X c) (X a) = cv at *
      clear i1 i2
      by_cases hcv : cv < 0
      · have HS2 : Hid (srch (tF X a) m b (c + 1) j) := srch_up HS.out HMono.out hic hcj (by have := HNEG.out.1 hcv; unfold tF; omega)
        go_wp2_with fail
        go_region_held3 (fun w' => (w'.cell? ⟨g, c * 4, none⟩ = some (.int .i64 (X c).wt) ∧ w'.cell? ⟨g, c * 4 + 1, none⟩ = some (.int .i64 (X c).sy) ∧ w'.cell? ⟨g, c * 4 + 2, none⟩ = some (.pointer (X c).fs) ∧ w'.cell? ⟨g, c * 4 + 3, none⟩ = some (.pointer (X c).sn)) ∧ (w'.cell? ⟨g, a * 4, none⟩ = some (.int .i64 (X a).wt) ∧ w'.cell? ⟨g, a * 4 + 1, none⟩ = some (.int .i64 (X a).sy) ∧ w'.cell? ⟨g, a * 4 + 2, none⟩ = some (.pointer (X a).fs) ∧ w'.cell? ⟨g, a * 4 + 3, none⟩ = some (.pointer (X a).sn)))
          (first | go_keep | (exact HK.out _ (by assumption)))
          (first | (go_at_call 115; refine (HC.out _ (by assumption)).mono ?_; rintro e w7 ⟨rfl, b7⟩))
        have S7 := hS.old hgw b7
        have G7 : w.grownBy w7 (some g) := grownBy_trans hG (grown_old b7 _)
        have L7 : g < w7.heap.size := Nat.lt_of_lt_of_le hgw b7.size
        clear T0 HC HK d1 d0 b7
        go_wp2
        go_roundw
        case rel => exact ⟨c + 1, j, by omega, by omega, hjb, by go_num, rfl, S7, L7, G7, HS2.out⟩
        case measure => simp [intOf]; omega
      · have HS2 : Hid (srch (tF X a) m b i c) := srch_down HS.out HMono.out hic hcj (by have := HNEG.out; unfold tF; intro hh; exact hcv (this.2 hh))
        go_wp2_with fail
        go_region_held3 (fun w' => (w'.cell? ⟨g, c * 4, none⟩ = some (.int .i64 (X c).wt) ∧ w'.cell? ⟨g, c * 4 + 1, none⟩ = some (.int .i64 (X c).sy) ∧ w'.cell? ⟨g, c * 4 + 2, none⟩ = some (.pointer (X c).fs) ∧ w'.cell? ⟨g, c * 4 + 3, none⟩ = some (.pointer (X c).sn)) ∧ (w'.cell? ⟨g, a * 4, none⟩ = some (.int .i64 (X a).wt) ∧ w'.cell? ⟨g, a * 4 + 1, none⟩ = some (.int .i64 (X a).sy) ∧ w'.cell? ⟨g, a * 4 + 2, none⟩ = some (.pointer (X a).fs) ∧ w'.cell? ⟨g, a * 4 + 3, none⟩ = some (.pointer (X a).sn)))
          (first | go_keep | (exact HK.out _ (by assumption)))
          (first | (go_at_call 115; refine (HC.out _ (by assumption)).mono ?_; rintro e w7 ⟨rfl, b7⟩))
        have S7 := hS.old hgw b7
        have G7 : w.grownBy w7 (some g) := grownBy_trans hG (grown_old b7 _)
        have L7 : g < w7.heap.size := Nat.lt_of_lt_of_le hgw b7.size
        clear T0 HC HK d1 d0 b7
        go_wp2
        go_roundw
        case rel => exact ⟨i, c, hmi, by omega, by omega, rfl, rfl, S7, L7, G7, HS2.out⟩
        case measure => simp [intOf]; omega
    · obtain rfl : i = j := by omega
      have hli : ¬ (i : Int) < (i : Int) := by omega
      obtain ⟨p, hp⟩ : ∃ p, p = i - 1 := ⟨_, rfl⟩
      have rp : (i : Int) - 1 = (p : Int) := by omega
      have hap : a ≤ p := by have := HM.out; omega
      have hpb : p < b := by omega
      have HSO : Hid (so (insU X a p) a b) := by
        have hm1 := HM.out
        obtain ⟨_, _, _, q4, q5⟩ := HS.out
        rw [hm1] at hr
        refine insU_so hr hap hpb (fun k h1 h2 => ?_) (fun k h1 h2 => ?_)
        · have := q4 k (by omega) (by omega)
          unfold tF at this
          exact (wt_iff (hs a k (Nat.le_refl _) ham (by omega) (by omega))).1 (by omega)
        · exact kl_of_wt (hs a k (Nat.le_refl _) ham (by omega) h2) (q5 k (by omega) h2)
      clear hp HS
      obtain ⟨w0, hw0⟩ : ∃ w0, w0 = wr := ⟨_, rfl⟩
      have HW0 : Hid (w0 = wr) := hw0
      have hS0 : Sr w0 g n X := by rw [hw0]; exact hS
      have hG0 : w.grownBy w0 (some g) := by rw [hw0]; exact hG
      clear hw0 hlt hli
      go_wp2_with fail
      go_loopw [13] (fun tk w2 => ∃ k : Nat, a ≤ k ∧ k ≤ p ∧ tk = .int .i64 (k : Int) ∧ Sr w2 g n (insU X a k) ∧ w0.grownBy w2 (some g) ∧ Hid (Pm X (insU X a k) a b)) (fun tk _ => p - (intOf tk).toNat)
      case atStart => exact ⟨a, Nat.le_refl _, hap, rfl, by rw [insU_self]; exact hS, by rw [HW0.out]; exact World.grownBy.refl _ _, (by rw [insU_self]; exact Pm.refl _ _ _ : Pm _ _ _ _)⟩
      case round =>
        clear hS hG
        obtain ⟨k, hak, hkp, rfl, hS, hG, HP⟩ := hrel
        by_cases hk : k < p
        · have hki : (k : Int) < (p : Int) := by omega
          obtain ⟨q, hq⟩ : ∃ q, q = k + 1 := ⟨_, rfl⟩
          have rq : (k : Int) + 1 = (q : Int) := by omega
          have HST : Hid (swI (insU X a k) k q = insU X a q) := by show _ = _; rw [hq]; exact insU_step X a k hak
          have HPQ : Hid (Pm X (insU X a q) a b) := by
            have := HP.out.trans (Pm.swap (insU X a k) (a := a) (b := b) (i := k) (j := q) (by omega) (by omega) (by omega) (by omega))
            rw [HST.out] at this
            exact this
          have hqp : q ≤ p ∧ a ≤ q ∧ k < q ∧ q < n := by omega
          clear hq
          have HSW := hS.swap (i := k) (j := q) (by omega) (by omega)
          have HGW := swap_grown wr g (k * 4) (q * 4) ((insU X a k) q) ((insU X a k) k)
          obtain ⟨x0, x1, x2, x3⟩ := hS.it (k := k) (by omega)
          obtain ⟨y0, y1, y2, y3⟩ := hS.it (k := q) (by omega)
          have f0 := hS.free (k * 4); have f1 := hS.free (k * 4 + 1); have f2 := hS.free (k * 4 + 2); have f3 := hS.free (k * 4 + 3)
          have g0 := hS.free (q * 4); have g1 := hS.free (q * 4 + 1); have g2 := hS.free (q * 4 + 2); have g3 := hS.free (q * 4 + 3)
          have z0 : (k : Int) < (n : Int) := by omega
          have z1 : (q : Int) < (n : Int) := by omega
          have z2 : (0 : Int) ≤ (k : Int) := by omega
          have z3 : (0 : Int) ≤ (q : Int) := by omega
          have zpq : k ≠ q := by omega
          have HSS : Hid _ := HSW
          have HGG : Hid _ := HGW
          clear HSW HGW hS
          generalize (insU X a k) k = xx at *
          generalize (insU X a k) q = yy at *
          go_wp2_with fail
          go_region
          rw [HST.out] at HSS
          go_wp2
          go_roundw
          case rel => exact ⟨q, by omega, by omega, rfl, HSS.out.drew, grownBy_drew (grownBy_trans hG HGG.out), HPQ.out⟩
          case measure => simp [intOf]; omega
        · obtain rfl : k = p := by omega
          go_wp2
          refine bodyPost_ret (results_none rfl _ _ _) rfl ?_
          exact ⟨rfl, insU X a k, hS, grownBy_trans hG0 hG, HP.out, HSO.out⟩
end Go.Proofs.YtcifalelnfeggaaGreatDoor

namespace Go.Proofs.YtcifalelnfeggaaGreatDoor
open Go.RowKit
set_option linter.unusedVariables false

set_option maxHeartbeats 4000000 in
set_option maxRecDepth 100000 in
theorem sym_last (g n cap a m b : Nat) (X : Nat → Im) (w : World) (h : Sr w g n X) (hg : g < w.heap.size) (hb : b ≤ n) (hl : n ≤ 100000) (ham : a + 1 < m) (hbm : b = m + 1) (hr : so X a m) (hs : sep X a m b) : SymQ g n cap a m b X w := by
  unfold SymQ
  have r0 : ¬ (m : Int) - (a : Int) = 1 := by omega
  have r0b : ((m : Int) - (a : Int) == 1) = false := by simpa using r0
  have r1 : (b : Int) - (m : Int) = 1 := by omega
  have hmb : m < b := by omega
  have HM : Hid (b = m + 1) := hbm
  clear hbm
  have HMono : Hid (∀ c c', a ≤ c' → c' ≤ c → c < m → tL X m c' → tL X m c) := by
    intro c c' h1 h2 h3 h4
    unfold tL at *
    rcases hr.le h1 h2 h3 with e | e
    · rw [← e]; exact h4
    · unfold kl at e; omega
  go_enter Tryz.func158, Tryz.ntmps158
  go_wp2_with fail
  go_loopw [14, 15] (fun ti tj wr => ∃ i j : Nat, a ≤ i ∧ i ≤ j ∧ j ≤ m ∧ ti = .int .i64 (i : Int) ∧ tj = .int .i64 (j : Int) ∧ Sr wr g n X ∧ g < wr.heap.size ∧ w.grownBy wr (some g) ∧ Hid (srch (tL X m) a m i j)) (fun ti tj _ => (intOf tj).toNat - (intOf ti).toNat)
  case atStart => exact ⟨a, m, Nat.le_refl _, by omega, Nat.le_refl _, rfl, rfl, h, hg, World.grownBy.refl _ _, (⟨Nat.le_refl _, by omega, Nat.le_refl _, fun c h1 h2 => by omega, fun c h1 h2 => by omega⟩ : _ ∧ _)⟩
  case round =>
    obtain ⟨i, j, hmi, hij, hjb, rfl, rfl, hS, hgw, hG, HS⟩ := hrel
    by_cases hlt : i < j
    · have hlti : (i : Int) < (j : Int) := by omega
      obtain ⟨c, hc⟩ : ∃ c, c = (i + j) / 2 := ⟨_, rfl⟩
      have rc : ((i : Int) + (j : Int)) / 2 = (c : Int) := by omega
      have hic : i ≤ c := by omega
      have hcj : c < j := by omega
      clear hc
      have i1 := hS.it (k := m) (by omega)
      have i2 := hS.it (k := c) (by omega)
      have T0 := two_of i1 i2
      unfold Two at T0
      have z0 : (m : Int) < (n : Int) := by omega
      have z1 : (c : Int) < (n : Int) := by omega
      have z2 : (0 : Int) ≤ (m : Int) := by omega
      have z3 : (0 : Int) ≤ (c : Int) := by omega
      have hwp : IntKind.i64.wrap (m : Int) = (m : Int) := by rw [IntKind.wrap_i64]; omega
      have HC : Hid (∀ W, Below wr.heap.size wr W → Calls Tryz.prog 115 #[(X m).val, (X c).val] W fun e w' => e = .returned (.int .i64 (cmpV (X m) (X c))) ∧ Below wr.heap.size wr w') := fun W hW => (cmp_any (X m) (X c) W).mono fun e w' ⟨h1, h2⟩ => ⟨h1, hW.trans (h2.mono hW.size)⟩
      have HK : Hid (∀ W, Below wr.heap.size wr W → Two g m c (X m) (X c) W) := fun W hW => two_old (two_of i1 i2) hW
      unfold Two at HK
      unfold Im.val at HC
      have d1 : Below wr.heap.size wr wr.drew := (Below.refl _ _).drew
      have d0 : Below wr.heap.size wr wr := Below.refl _ _
      have HNEG : Hid (cmpV (X m) (X c) < 0 ↔ (X m).wt < (X c).wt) := cmpV_neg _ _
      have hbd := cmpV_bd (X m) (X c)
      generalize cmpV (X m) (X c) = cv at *
      clear i1 i2
      by_cases hcv : cv < 0
      · have HS2 : Hid (srch (tL X m) a m i c) := srch_down HS.out HMono.out hic hcj (HNEG.out.1 hcv)
        go_wp2_with fail
        go_region_held3 (fun w' => (w'.cell? ⟨g, m * 4, none⟩ = some (.int .i64 (X m).wt) ∧ w'.cell? ⟨g, m * 4 + 1, none⟩ = some (.int .i64 (X m).sy) ∧ w'.cell? ⟨g, m * 4 + 2, none⟩ = some (.pointer (X m).fs) ∧ w'.cell? ⟨g, m * 4 + 3, none⟩ = some (.pointer (X m).sn)) ∧ (w'.cell? ⟨g, c * 4, none⟩ = some (.int .i64 (X c).wt) ∧ w'.cell? ⟨g, c * 4 + 1, none⟩ = some (.int .i64 (X c).sy) ∧ w'.cell? ⟨g, c * 4 + 2, none⟩ = some (.pointer (X c).fs) ∧ w'.cell? ⟨g, c * 4 + 3, none⟩ = some (.pointer (X c).sn)))
          (first | go_keep | (exact HK.out _ (by assumption)))
          (first | (go_at_call 115; refine (HC.out _ (by assumption)).mono ?_; rintro e w7 ⟨rfl, b7⟩))
        have S7 := hS.old hgw b7
        have G7 : w.grownBy w7 (some g) := grownBy_trans hG (grown_old b7 _)
        have L7 : g < w7.heap.size := Nat.lt_of_lt_of_le hgw b7.size
        clear T0 HC HK d1 d0 b7
        go_wp2
        go_roundw
        case rel => exact ⟨i, c, hmi, by omega, by omega, rfl, rfl, S7, L7, G7, HS2.out⟩
        case measure => simp [intOf]; omega
      · have hcd : decide (cv < 0) = false := decide_eq_false hcv
        have HS2 : Hid (srch (tL X m) a m (c + 1) j) := srch_up HS.out HMono.out hic hcj (by have := HNEG.out; unfold tL; intro hh; exact hcv (this.2 hh))
        go_wp2_with fail
        go_region_held3 (fun w' => (w'.cell? ⟨g, m * 4, none⟩ = some (.int .i64 (X m).wt) ∧ w'.cell? ⟨g, m * 4 + 1, none⟩ = some (.int .i64 (X m).sy) ∧ w'.cell? ⟨g, m * 4 + 2, none⟩ = some (.pointer (X m).fs) ∧ w'.cell? ⟨g, m * 4 + 3, none⟩ = some (.pointer (X m).sn)) ∧ (w'.cell? ⟨g, c * 4, none⟩ = some (.int .i64 (X c).wt) ∧ w'.cell? ⟨g, c * 4 + 1, none⟩ = some (.int .i64 (X c).sy) ∧ w'.cell? ⟨g, c * 4 + 2, none⟩ = some (.pointer (X c).fs) ∧ w'.cell? ⟨g, c * 4 + 3, none⟩ = some (.pointer (X c).sn)))
          (first | go_keep | (exact HK.out _ (by assumption)))
          (first | (go_at_call 115; refine (HC.out _ (by assumption)).mono ?_; rintro e w7 ⟨rfl, b7⟩))
        have S7 := hS.old hgw b7
        have G7 : w.grownBy w7 (some g) := grownBy_trans hG (grown_old b7 _)
        have L7 : g < w7.heap.size := Nat.lt_of_lt_of_le hgw b7.size
        clear T0 HC HK d1 d0 b7
        go_wp2
        go_roundw
        case rel => exact ⟨c + 1, j, by omega, by omega, hjb, by go_num, rfl, S7, L7, G7, HS2.out⟩
        case measure => simp [intOf]; omega
    · obtain rfl : i = j := by omega
      have hli : ¬ (i : Int) < (i : Int) := by omega
      have HSO : Hid (so (insA X m i) a b) := by
        obtain ⟨_, _, _, q4, q5⟩ := HS.out
        have hm1 := HM.out
        rw [hm1]
        refine insA_so hr hmi hjb (fun k h1 h2 => ?_) (fun k h1 h2 => ?_)
        · exact kl_of_wt (hs k m h1 (by omega) (Nat.le_refl _) hmb) (q4 k h1 h2)
        · have := q5 k h1 h2
          unfold tL at this
          exact (wt_iff (hs k m (by omega) h2 (Nat.le_refl _) hmb)).1 this
      clear HS
      obtain ⟨w0, hw0⟩ : ∃ w0, w0 = wr := ⟨_, rfl⟩
      have HW0 : Hid (w0 = wr) := hw0
      have hS0 : Sr w0 g n X := by rw [hw0]; exact hS
      have hG0 : w.grownBy w0 (some g) := by rw [hw0]; exact hG
      clear hw0 hlt hli
      go_wp2_with fail
      go_loopw [17] (fun tk w2 => ∃ k : Nat, i ≤ k ∧ k ≤ m ∧ tk = .int .i64 (k : Int) ∧ Sr w2 g n (insA X m k) ∧ w0.grownBy w2 (some g) ∧ Hid (Pm X (insA X m k) a b)) (fun tk _ => (intOf tk).toNat)
      case atStart => exact ⟨m, hjb, Nat.le_refl _, rfl, by rw [insA_self]; exact hS, by rw [HW0.out]; exact World.grownBy.refl _ _, (by rw [insA_self]; exact Pm.refl _ _ _ : Pm _ _ _ _)⟩
      case round =>
        clear hS hG
        obtain ⟨k, hak, hkp, rfl, hS, hG, HP⟩ := hrel
        by_cases hk : i < k
        · have hki : (i : Int) < (k : Int) := by omega
          obtain ⟨q, hq⟩ : ∃ q, k = q + 1 := ⟨k - 1, by omega⟩
          have rq : (k : Int) - 1 = (q : Int) := by omega
          have HST : Hid (swI (insA X m k) k q = insA X m q) := by
            have := insA_step X m k (by omega) hkp
            have e : k - 1 = q := by omega
            rw [e] at this
            exact this
          have HPQ : Hid (Pm X (insA X m q) a b) := by
            have := HP.out.trans (Pm.swap (insA X m k) (a := a) (b := b) (i := k) (j := q) (by omega) (by omega) (by omega) (by omega))
            rw [HST.out] at this
            exact this
          have hqp : i ≤ q ∧ q ≤ m ∧ q < k ∧ q < n ∧ k < n := by omega
          have hwp : IntKind.i64.wrap (q : Int) = (q : Int) := by rw [IntKind.wrap_i64]; omega
          clear hq
          have HSW := hS.swap (i := k) (j := q) (by omega) (by omega)
          have HGW := swap_grown wr g (k * 4) (q * 4) ((insA X m k) q) ((insA X m k) k)
          obtain ⟨x0, x1, x2, x3⟩ := hS.it (k := k) (by omega)
          obtain ⟨y0, y1, y2, y3⟩ := hS.it (k := q) (by omega)
          have f0 := hS.free (k * 4); have f1 := hS.free (k * 4 + 1); have f2 := hS.free (k * 4 + 2); have f3 := hS.free (k * 4 + 3)
          have g0 := hS.free (q * 4); have g1 := hS.free (q * 4 + 1); have g2 := hS.free (q * 4 + 2); have g3 := hS.free (q * 4 + 3)
          have z0 : (k : Int) < (n : Int) := by omega
          have z1 : (q : Int) < (n : Int) := by omega
          have z2 : (0 : Int) ≤ (k : Int) := by omega
          have z3 : (0 : Int) ≤ (q : Int) := by omega
          have zpq : k ≠ q := by omega
          have HSS : Hid _ := HSW
          have HGG : Hid _ := HGW
          clear HSW HGW hS
          generalize (insA X m k) k = xx at *
          generalize (insA X m k) q = yy at *
          go_wp2_with fail
          go_region
          rw [HST.out] at HSS
          go_wp2
          go_roundw
          case rel => exact ⟨q, by omega, by omega, rfl, HSS.out.drew, grownBy_drew (grownBy_trans hG HGG.out), HPQ.out⟩
          case measure => simp [intOf]; omega
        · obtain rfl : k = i := by omega
          go_wp2
          refine bodyPost_ret (results_none rfl _ _ _) rfl ?_
          exact ⟨rfl, insA X m k, hS, grownBy_trans hG0 hG, HP.out, HSO.out⟩
end Go.Proofs.YtcifalelnfeggaaGreatDoor

namespace Go.Proofs.YtcifalelnfeggaaGreatDoor
open Go.RowKit
set_option linter.unusedVariables false

set_option maxHeartbeats 8000000 in
set_option maxRecDepth 100000 in
theorem sym_gen (g n cap a m b : Nat) (X : Nat → Im) (w : World) (h : Sr w g n X) (hg : g < w.heap.size) (hb : b ≤ n) (hl : n ≤ 100000) (ham : a + 1 < m) (hmb : m + 1 < b) (hr1 : so X a m) (hr2 : so X m b) (hs : sep X a m b)
    (IH : ∀ (a' m' b' : Nat) (X' : Nat → Im) (w' : World), b' - a' < b - a → Sr w' g n X' → g < w'.heap.size → b' ≤ n → a' < m' → m' < b' → so X' a' m' → so X' m' b' → sep X' a' m' b' → SymQ g n cap a' m' b' X' w') : SymQ g n cap a m b X w := by
  unfold SymQ
  obtain ⟨mid, hmid⟩ : ∃ mid, mid = (a + b) / 2 := ⟨_, rfl⟩
  have SY : Sy X a m b mid := ⟨by omega, by omega, hmid, hr1, hr2, hs⟩
  obtain ⟨b1, b2, b3, b4, hbc⟩ := SY.bounds
  have HSY : Hid (Sy X a m b mid) := SY
  have HIH : Hid _ := IH
  obtain ⟨N, hN⟩ : ∃ N, N = mid + m := ⟨_, rfl⟩
  have r0 : ¬ (m : Int) - (a : Int) = 1 := by omega
  have r0b : ((m : Int) - (a : Int) == 1) = false := by simpa using r0
  have r1 : ¬ (b : Int) - (m : Int) = 1 := by omega
  have r1b : ((b : Int) - (m : Int) == 1) = false := by simpa using r1
  have rm : ((a : Int) + (b : Int)) / 2 = (mid : Int) := by omega
  have rN : (mid : Int) + (m : Int) = (N : Int) := by omega
  obtain ⟨p, hp⟩ : ∃ p, p = mid + m - 1 := ⟨_, rfl⟩
  have rp : (N : Int) - 1 = (p : Int) := by omega
  obtain ⟨lo, hlo⟩ : ∃ lo, lo = slo a m b mid := ⟨_, rfl⟩
  obtain ⟨hi, hhi⟩ : ∃ hi, hi = shi m mid := ⟨_, rfl⟩
  have HMono : Hid (∀ c c', lo ≤ c' → c' ≤ c → c < hi → tst X p c' → tst X p c) := by rw [hlo, hhi, hp]; exact SY.mono
  have HBC : Hid (∀ c, lo ≤ c → c < hi → m ≤ p - c ∧ p - c < b ∧ a ≤ c ∧ c < m ∧ c ≤ p) := by
    intro c h1 h2
    rw [hlo] at h1
    rw [hhi] at h2
    have := hbc c h1 h2
    omega
  have HLH : Hid (a ≤ lo ∧ lo ≤ hi ∧ hi ≤ m ∧ hi ≤ mid) := by rw [hlo, hhi]; exact ⟨b1, b2, b3, b4⟩
  have HTN : Hid (∀ st, srch (tst X p) lo hi st st → _) := fun st hst => by rw [hlo, hhi, hp] at hst; exact SY.turned hst
  have HDF : Hid (N = mid + m ∧ mid = (a + b) / 2 ∧ (m > mid → lo = mid + m - b ∧ hi = mid) ∧ (¬ m > mid → lo = a ∧ hi = m)) := by
    refine ⟨hN, hmid, fun h => ?_, fun h => ?_⟩
    · rw [hlo, hhi]; unfold slo shi; rw [if_pos h, if_pos h]; exact ⟨rfl, rfl⟩
    · rw [hlo, hhi]; unfold slo shi; rw [if_neg h, if_neg h]; exact ⟨rfl, rfl⟩
  have hpn : p < 300000 ∧ N < 300000 ∧ mid < b ∧ a ≤ mid ∧ hi ≤ n ∧ lo ≤ hi := by omega
  clear SY IH hmid b1 b2 b3 b4 hbc hN hp hlo hhi
  go_enter Tryz.func158, Tryz.ntmps158
  by_cases hcm : mid < m
  · have hcmi : (mid : Int) < (m : Int) := by omega
    have rl : (N : Int) - (b : Int) = (lo : Int) := by have := HDF.out; omega
    have HRH : Hid (mid = hi) := by have := HDF.out; show _ = _; omega
    go_wp2_with fail
    go_loopw [20, 21] (fun ti tj wr => ∃ s r : Nat, lo ≤ s ∧ s ≤ r ∧ r ≤ hi ∧ ti = .int .i64 (s : Int) ∧ tj = .int .i64 (r : Int) ∧ Sr wr g n X ∧ g < wr.heap.size ∧ w.grownBy wr (some g) ∧ Hid (srch (tst X p) lo hi s r)) (fun ti tj _ => (intOf tj).toNat - (intOf ti).toNat)
    case atStart => exact ⟨lo, mid, by omega, by have := HRH.out; omega, by have := HRH.out; omega, rfl, rfl, h, hg, World.grownBy.refl _ _, (by rw [HRH.out]; exact ⟨Nat.le_refl _, by omega, Nat.le_refl _, fun c h1 h2 => by omega, fun c h1 h2 => by omega⟩ : srch _ _ _ _ _)⟩
    case round =>
      obtain ⟨s, r, hls, hsr, hrh, rfl, rfl, hS, hgw, hG, HS⟩ := hrel
      by_cases hlt : s < r
      · have hlti : (s : Int) < (r : Int) := by omega
        obtain ⟨c, hc⟩ : ∃ c, c = (s + r) / 2 := ⟨_, rfl⟩
        have rc : ((s : Int) + (r : Int)) / 2 = (c : Int) := by omega
        have hic : s ≤ c := by omega
        have hcj : c < r := by omega
        obtain ⟨q, hq⟩ : ∃ q, q = p - c := ⟨_, rfl⟩
        have hbc := HBC.out c (by omega) (by omega)
        have rq : (p : Int) - (c : Int) = (q : Int) := by omega
        have HQ : Hid (q = p - c) := hq
        have hqb : q < b ∧ c < m := by omega
        clear hc hq hbc
        have i1 := hS.it (k := q) (by omega)
        have i2 := hS.it (k := c) (by omega)
        have T0 := two_of i1 i2
        unfold Two at T0
        have z0 : (q : Int) < (n : Int) := by omega
        have z1 : (c : Int) < (n : Int) := by omega
        have z2 : (0 : Int) ≤ (q : Int) := by omega
        have z3 : (0 : Int) ≤ (c : Int) := by omega
        have hwp : IntKind.i64.wrap (q : Int) = (q : Int) := by rw [IntKind.wrap_i64]; omega
        have HC : Hid (∀ W, Below wr.heap.size wr W → Calls Tryz.prog 115 #[(X q).val, (X c).val] W fun e w' => e = .returned (.int .i64 (cmpV (X q) (X c))) ∧ Below wr.heap.size wr w') := fun W hW => (cmp_any (X q) (X c) W).mono fun e w' ⟨h1, h2⟩ => ⟨h1, hW.trans (h2.mono hW.size)⟩
        have HK : Hid (∀ W, Below wr.heap.size wr W → Two g q c (X q) (X c) W) := fun W hW => two_old (two_of i1 i2) hW
        unfold Two at HK
        unfold Im.val at HC
        have d1 : Below wr.heap.size wr wr.drew := (Below.refl _ _).drew
        have d0 : Below wr.heap.size wr wr := Below.refl _ _
        have HNEG : Hid (cmpV (X q) (X c) < 0 ↔ (X q).wt < (X c).wt) := cmpV_neg _ _
        have hbd := cmpV_bd (X q) (X c)
        generalize cmpV (X q) (X c) = cv at *
        clear i1 i2
        by_cases hcv : cv < 0
        · have HS2 : Hid (srch (tst X p) lo hi s c) := srch_down HS.out HMono.out hic hcj (by have := HNEG.out.1 hcv; unfold tst; rw [← HQ.out]; exact this)
          go_wp2_with fail
          go_region_held3 (fun w' => (w'.cell? ⟨g, q * 4, none⟩ = some (.int .i64 (X q).wt) ∧ w'.cell? ⟨g, q * 4 + 1, none⟩ = some (.int .i64 (X q).sy) ∧ w'.cell? ⟨g, q * 4 + 2, none⟩ = some (.pointer (X q).fs) ∧ w'.cell? ⟨g, q * 4 + 3, none⟩ = some (.pointer (X q).sn)) ∧ (w'.cell? ⟨g, c * 4, none⟩ = some (.int .i64 (X c).wt) ∧ w'.cell? ⟨g, c * 4 + 1, none⟩ = some (.int .i64 (X c).sy) ∧ w'.cell? ⟨g, c * 4 + 2, none⟩ = some (.pointer (X c).fs) ∧ w'.cell? ⟨g, c * 4 + 3, none⟩ = some (.pointer (X c).sn)))
            (first | go_keep | (exact HK.out _ (by assumption)))
            (first | (go_at_call 115; refine (HC.out _ (by assumption)).mono ?_; rintro e w7 ⟨rfl, b7⟩))
          have S7 := hS.old hgw b7
          have G7 : w.grownBy w7 (some g) := grownBy_trans hG (grown_old b7 _)
          have L7 : g < w7.heap.size := Nat.lt_of_lt_of_le hgw b7.size
          clear T0 HC HK d1 d0 b7
          go_wp2
          go_roundw
          case rel => exact ⟨s, c, hls, by omega, by omega, rfl, rfl, S7, L7, G7, HS2.out⟩
          case measure => simp [intOf]; omega
        · have hcd : decide (cv < 0) = false := decide_eq_false hcv
          have HS2 : Hid (srch (tst X p) lo hi (c + 1) r) := srch_up HS.out HMono.out hic hcj (by have := HNEG.out; unfold tst; rw [← HQ.out]; intro hh; exact hcv (this.2 hh))
          go_wp2_with fail
          go_region_held3 (fun w' => (w'.cell? ⟨g, q * 4, none⟩ = some (.int .i64 (X q).wt) ∧ w'.cell? ⟨g, q * 4 + 1, none⟩ = some (.int .i64 (X q).sy) ∧ w'.cell? ⟨g, q * 4 + 2, none⟩ = some (.pointer (X q).fs) ∧ w'.cell? ⟨g, q * 4 + 3, none⟩ = some (.pointer (X q).sn)) ∧ (w'.cell? ⟨g, c * 4, none⟩ = some (.int .i64 (X c).wt) ∧ w'.cell? ⟨g, c * 4 + 1, none⟩ = some (.int .i64 (X c).sy) ∧ w'.cell? ⟨g, c * 4 + 2, none⟩ = some (.pointer (X c).fs) ∧ w'.cell? ⟨g, c * 4 + 3, none⟩ = some (.pointer (X c).sn)))
            (first | go_keep | (exact HK.out _ (by assumption)))
            (first | (go_at_call 115; refine (HC.out _ (by assumption)).mono ?_; rintro e w7 ⟨rfl, b7⟩))
          have S7 := hS.old hgw b7
          have G7 : w.grownBy w7 (some g) := grownBy_trans hG (grown_old b7 _)
          have L7 : g < w7.heap.size := Nat.lt_of_lt_of_le hgw b7.size
          clear T0 HC HK d1 d0 b7
          go_wp2
          go_roundw
          case rel => exact ⟨c + 1, r, by omega, by omega, hrh, by go_num, rfl, S7, L7, G7, HS2.out⟩
          case measure => simp [intOf]; omega
      · obtain rfl : s = r := by omega
        obtain ⟨en, hen⟩ : ∃ en, en = mid + m - s := ⟨_, rfl⟩
        obtain ⟨t1, t2, t3, t4, t5, t6, ⟨l1', l2', l3'⟩, ⟨q1', q2', q3'⟩, cr'⟩ := HTN.out s HS.out
        rw [← hen] at t4 t5 t6 l1' l2' l3' q1' q2' q3' cr'
        have ren : (N : Int) - (s : Int) = (en : Int) := by have := HDF.out; omega
        have l1 : Hid _ := l1'
        have l2 : Hid _ := l2'
        have l3 : Hid _ := l3'
        have q1 : Hid _ := q1'
        have q2 : Hid _ := q2'
        have q3 : Hid _ := q3'
        have cr : Hid _ := cr'
        have hab4 : a + 4 ≤ b := by omega
        have hsm : a < mid ∧ mid + m = s + en := by have := HDF.out; omega
        clear l1' l2' l3' q1' q2' q3' cr' HS hen hlt HMono HBC HTN hr1 hr2 hs h
        by_cases cA : s < m ∧ s < mid
        · by_cases c2 : a < s
          · by_cases c3 : en < b
            · skip
              have k0 : (s : Int) < (m : Int) := by omega
              have k1 : (m : Int) < (en : Int) := by omega
              have k2 : (a : Int) < (s : Int) := by omega
              have k3 : (s : Int) < (mid : Int) := by omega
              have k4 : (mid : Int) < (en : Int) := by omega
              have k5 : (en : Int) < (b : Int) := by omega
              go_wp2_with fail
              refine (rotate_any g cap n s m en X wr hS (by omega) (by omega) (by omega) hl _).mono ?_
              rintro e w2 ⟨rfl, S2, G2', P2'⟩
              have G2 := grownBy_trans hG G2'
              have L2 : g < w2.heap.size := Nat.lt_of_lt_of_le hgw G2'.size
              have P2 : Hid (Pm X (rot X s m en) a b) := P2'.wide (by omega) (by omega) (by omega)
              clear G2' P2'
              generalize rot X s m en = Y at *
              have C1 := HIH.out a s mid Y w2 (by omega) S2 L2 (by omega) (by omega) (by omega) l1.out l2.out l3.out
              unfold SymQ at C1
              go_wp2_with fail
              refine C1.mono ?_
              rintro e w3 ⟨rfl, Y1, S3, G3', P3', so3'⟩
              have G3 := grownBy_trans G2 G3'
              have L3 : g < w3.heap.size := Nat.lt_of_lt_of_le L2 G3'.size
              have P3 : Hid (Pm Y Y1 a mid ∧ so Y1 a mid) := ⟨P3', so3'⟩
              clear G3' P3' so3' C1
              have l4 : Hid (so Y1 mid en) := fun i j h1 h2 h3 => by rw [P3.out.1.2 i (by omega), P3.out.1.2 j (by omega)]; exact q1.out i j h1 h2 h3
              have l5 : Hid (so Y1 en b) := fun i j h1 h2 h3 => by rw [P3.out.1.2 i (by omega), P3.out.1.2 j (by omega)]; exact q2.out i j h1 h2 h3
              have l6 : Hid (sep Y1 mid en b) := fun i j h1 h2 h3 h4 => by rw [P3.out.1.2 i (by omega), P3.out.1.2 j (by omega)]; exact q3.out i j h1 h2 h3 h4
              have C2 := HIH.out mid en b Y1 w3 (by omega) S3 L3 (by omega) (by omega) (by omega) l4.out l5.out l6.out
              unfold SymQ at C2
              go_wp2_with fail
              refine C2.mono ?_
              rintro e w4 ⟨rfl, Z, S4, G4', P4', so4'⟩
              have G4 := grownBy_trans G3 G4'
              have P4 : Hid (Pm Y1 Z mid b ∧ so Z mid b) := ⟨P4', so4'⟩
              clear G4' P4' so4' C2
              go_wp2
              go_end0
              exact ⟨rfl, Z, S4, G4, (P2.out.trans (P3.out.1.wide (Nat.le_refl _) (by omega) (by omega))).trans (P4.out.1.wide (by omega) (by omega) (Nat.le_refl _)), so_join (by omega) (by omega) P3.out.1 P3.out.2 P4.out.1 P4.out.2 cr.out⟩
            · skip
              have k0 : (s : Int) < (m : Int) := by omega
              have k1 : (m : Int) < (en : Int) := by omega
              have k2 : (a : Int) < (s : Int) := by omega
              have k3 : (s : Int) < (mid : Int) := by omega
              have k4 : (mid : Int) < (en : Int) := by omega
              have k5 : ¬ (en : Int) < (b : Int) := by omega
              go_wp2_with fail
              refine (rotate_any g cap n s m en X wr hS (by omega) (by omega) (by omega) hl _).mono ?_
              rintro e w2 ⟨rfl, S2, G2', P2'⟩
              have G2 := grownBy_trans hG G2'
              have L2 : g < w2.heap.size := Nat.lt_of_lt_of_le hgw G2'.size
              have P2 : Hid (Pm X (rot X s m en) a b) := P2'.wide (by omega) (by omega) (by omega)
              clear G2' P2'
              generalize rot X s m en = Y at *
              have C1 := HIH.out a s mid Y w2 (by omega) S2 L2 (by omega) (by omega) (by omega) l1.out l2.out l3.out
              unfold SymQ at C1
              go_wp2_with fail
              refine C1.mono ?_
              rintro e w3 ⟨rfl, Y1, S3, G3', P3', so3'⟩
              have G3 := grownBy_trans G2 G3'
              have L3 : g < w3.heap.size := Nat.lt_of_lt_of_le L2 G3'.size
              have P3 : Hid (Pm Y Y1 a mid ∧ so Y1 a mid) := ⟨P3', so3'⟩
              clear G3' P3' so3' C1
              have l4 : Hid (so Y1 mid en) := fun i j h1 h2 h3 => by rw [P3.out.1.2 i (by omega), P3.out.1.2 j (by omega)]; exact q1.out i j h1 h2 h3
              have l5 : Hid (so Y1 en b) := fun i j h1 h2 h3 => by rw [P3.out.1.2 i (by omega), P3.out.1.2 j (by omega)]; exact q2.out i j h1 h2 h3
              have l6 : Hid (sep Y1 mid en b) := fun i j h1 h2 h3 h4 => by rw [P3.out.1.2 i (by omega), P3.out.1.2 j (by omega)]; exact q3.out i j h1 h2 h3 h4
              obtain ⟨Z, hZ⟩ : ∃ Z, Z = Y1 := ⟨_, rfl⟩
              have S4 : Sr w3 g n Z := by rw [hZ]; exact S3
              have G4 := G3
              have P4 : Hid (Pm Y1 Z mid b ∧ so Z mid b) := by rw [hZ]; exact ⟨Pm.refl _ _ _, by have e : en = b := (by omega); rw [← e]; exact l4.out⟩
              clear hZ
              go_wp2
              go_end0
              exact ⟨rfl, Z, S4, G4, (P2.out.trans (P3.out.1.wide (Nat.le_refl _) (by omega) (by omega))).trans (P4.out.1.wide (by omega) (by omega) (Nat.le_refl _)), so_join (by omega) (by omega) P3.out.1 P3.out.2 P4.out.1 P4.out.2 cr.out⟩
          · have EAS : Hid (s = a) := by show _ = _; omega
            by_cases c3 : en < b
            · skip
              have k0 : (s : Int) < (m : Int) := by omega
              have k1 : (m : Int) < (en : Int) := by omega
              have k2 : ¬ (a : Int) < (s : Int) := by omega
              have k3 : (mid : Int) < (en : Int) := by omega
              have k4 : (en : Int) < (b : Int) := by omega
              go_wp2_with fail
              refine (rotate_any g cap n s m en X wr hS (by omega) (by omega) (by omega) hl _).mono ?_
              rintro e w2 ⟨rfl, S2, G2', P2'⟩
              have G2 := grownBy_trans hG G2'
              have L2 : g < w2.heap.size := Nat.lt_of_lt_of_le hgw G2'.size
              have P2 : Hid (Pm X (rot X s m en) a b) := P2'.wide (by omega) (by omega) (by omega)
              clear G2' P2'
              generalize rot X s m en = Y at *
              obtain ⟨Y1, hY1⟩ : ∃ Y1, Y1 = Y := ⟨_, rfl⟩
              have S3 : Sr w2 g n Y1 := by rw [hY1]; exact S2
              have G3 := G2
              have L3 := L2
              have P3 : Hid (Pm Y Y1 a mid ∧ so Y1 a mid) := by rw [hY1]; exact ⟨Pm.refl _ _ _, by have l2x := l2.out; rw [EAS.out] at l2x; exact l2x⟩
              clear hY1
              have l4 : Hid (so Y1 mid en) := fun i j h1 h2 h3 => by rw [P3.out.1.2 i (by omega), P3.out.1.2 j (by omega)]; exact q1.out i j h1 h2 h3
              have l5 : Hid (so Y1 en b) := fun i j h1 h2 h3 => by rw [P3.out.1.2 i (by omega), P3.out.1.2 j (by omega)]; exact q2.out i j h1 h2 h3
              have l6 : Hid (sep Y1 mid en b) := fun i j h1 h2 h3 h4 => by rw [P3.out.1.2 i (by omega), P3.out.1.2 j (by omega)]; exact q3.out i j h1 h2 h3 h4
              have C2 := HIH.out mid en b Y1 w2 (by omega) S3 L3 (by omega) (by omega) (by omega) l4.out l5.out l6.out
              unfold SymQ at C2
              go_wp2_with fail
              refine C2.mono ?_
              rintro e w4 ⟨rfl, Z, S4, G4', P4', so4'⟩
              have G4 := grownBy_trans G3 G4'
              have P4 : Hid (Pm Y1 Z mid b ∧ so Z mid b) := ⟨P4', so4'⟩
              clear G4' P4' so4' C2
              go_wp2
              go_end0
              exact ⟨rfl, Z, S4, G4, (P2.out.trans (P3.out.1.wide (Nat.le_refl _) (by omega) (by omega))).trans (P4.out.1.wide (by omega) (by omega) (Nat.le_refl _)), so_join (by omega) (by omega) P3.out.1 P3.out.2 P4.out.1 P4.out.2 cr.out⟩
            · skip
              have k0 : (s : Int) < (m : Int) := by omega
              have k1 : (m : Int) < (en : Int) := by omega
              have k2 : ¬ (a : Int) < (s : Int) := by omega
              have k3 : (mid : Int) < (en : Int) := by omega
              have k4 : ¬ (en : Int) < (b : Int) := by omega
              go_wp2_with fail
              refine (rotate_any g cap n s m en X wr hS (by omega) (by omega) (by omega) hl _).mono ?_
              rintro e w2 ⟨rfl, S2, G2', P2'⟩
              have G2 := grownBy_trans hG G2'
              have L2 : g < w2.heap.size := Nat.lt_of_lt_of_le hgw G2'.size
              have P2 : Hid (Pm X (rot X s m en) a b) := P2'.wide (by omega) (by omega) (by omega)
              clear G2' P2'
              generalize rot X s m en = Y at *
              obtain ⟨Y1, hY1⟩ : ∃ Y1, Y1 = Y := ⟨_, rfl⟩
              have S3 : Sr w2 g n Y1 := by rw [hY1]; exact S2
              have G3 := G2
              have L3 := L2
              have P3 : Hid (Pm Y Y1 a mid ∧ so Y1 a mid) := by rw [hY1]; exact ⟨Pm.refl _ _ _, by have l2x := l2.out; rw [EAS.out] at l2x; exact l2x⟩
              clear hY1
              have l4 : Hid (so Y1 mid en) := fun i j h1 h2 h3 => by rw [P3.out.1.2 i (by omega), P3.out.1.2 j (by omega)]; exact q1.out i j h1 h2 h3
              have l5 : Hid (so Y1 en b) := fun i j h1 h2 h3 => by rw [P3.out.1.2 i (by omega), P3.out.1.2 j (by omega)]; exact q2.out i j h1 h2 h3
              have l6 : Hid (sep Y1 mid en b) := fun i j h1 h2 h3 h4 => by rw [P3.out.1.2 i (by omega), P3.out.1.2 j (by omega)]; exact q3.out i j h1 h2 h3 h4
              obtain ⟨Z, hZ⟩ : ∃ Z, Z = Y1 := ⟨_, rfl⟩
              have S4 : Sr w2 g n Z := by rw [hZ]; exact S3
              have G4 := G3
              have P4 : Hid (Pm Y1 Z mid b ∧ so Z mid b) := by rw [hZ]; exact ⟨Pm.refl _ _ _, by have e : en = b := (by omega); rw [← e]; exact l4.out⟩
              clear hZ
              go_wp2
              go_end0
              exact ⟨rfl, Z, S4, G4, (P2.out.trans (P3.out.1.wide (Nat.le_refl _) (by omega) (by omega))).trans (P4.out.1.wide (by omega) (by omega) (Nat.le_refl _)), so_join (by omega) (by omega) P3.out.1 P3.out.2 P4.out.1 P4.out.2 cr.out⟩
        · have ESM : Hid (s = mid) := by have := HLH.out; have := HRH.out; show _ = _; omega
          have EEN : Hid (en = m) := by have := ESM.out; show _ = _; omega
          have k0 : (s : Int) < (m : Int) := by omega
          have k1 : ¬ (m : Int) < (en : Int) := by omega
          have k2 : (a : Int) < (s : Int) := by omega
          have k3 : ¬ (s : Int) < (mid : Int) := by omega
          have k4 : (mid : Int) < (en : Int) := by omega
          have k5 : (en : Int) < (b : Int) := by omega
          have hrx : rot X s m en = X := by rw [EEN.out]; exact rot_right X s m
          have S2 : Sr wr g n (rot X s m en) := by rw [hrx]; exact hS
          have G2 := hG
          have L2 := hgw
          have P2 : Hid (Pm X (rot X s m en) a b) := by rw [hrx]; exact Pm.refl _ _ _
          clear hrx
          generalize rot X s m en = Y at *
          obtain ⟨Y1, hY1⟩ : ∃ Y1, Y1 = Y := ⟨_, rfl⟩
          have S3 : Sr wr g n Y1 := by rw [hY1]; exact S2
          have G3 := G2
          have L3 := L2
          have P3 : Hid (Pm Y Y1 a mid ∧ so Y1 a mid) := by rw [hY1]; exact ⟨Pm.refl _ _ _, by have l1x := l1.out; rw [ESM.out] at l1x; exact l1x⟩
          clear hY1
          have l4 : Hid (so Y1 mid en) := fun i j h1 h2 h3 => by rw [P3.out.1.2 i (by omega), P3.out.1.2 j (by omega)]; exact q1.out i j h1 h2 h3
          have l5 : Hid (so Y1 en b) := fun i j h1 h2 h3 => by rw [P3.out.1.2 i (by omega), P3.out.1.2 j (by omega)]; exact q2.out i j h1 h2 h3
          have l6 : Hid (sep Y1 mid en b) := fun i j h1 h2 h3 h4 => by rw [P3.out.1.2 i (by omega), P3.out.1.2 j (by omega)]; exact q3.out i j h1 h2 h3 h4
          have C2 := HIH.out mid en b Y1 wr (by omega) S3 L3 (by omega) (by omega) (by omega) l4.out l5.out l6.out
          unfold SymQ at C2
          go_wp2_with fail
          refine C2.mono ?_
          rintro e w4 ⟨rfl, Z, S4, G4', P4', so4'⟩
          have G4 := grownBy_trans G3 G4'
          have P4 : Hid (Pm Y1 Z mid b ∧ so Z mid b) := ⟨P4', so4'⟩
          clear G4' P4' so4' C2
          go_wp2
          go_end0
          exact ⟨rfl, Z, S4, G4, (P2.out.trans (P3.out.1.wide (Nat.le_refl _) (by omega) (by omega))).trans (P4.out.1.wide (by omega) (by omega) (Nat.le_refl _)), so_join (by omega) (by omega) P3.out.1 P3.out.2 P4.out.1 P4.out.2 cr.out⟩
  · have hcmi : ¬ (mid : Int) < (m : Int) := by omega
    have HRH : Hid (m = hi) := by have := HDF.out; show _ = _; omega
    have HRL : Hid (a = lo) := by have := HDF.out; show _ = _; omega
    go_wp2_with fail
    go_loopw [20, 21] (fun ti tj wr => ∃ s r : Nat, lo ≤ s ∧ s ≤ r ∧ r ≤ hi ∧ ti = .int .i64 (s : Int) ∧ tj = .int .i64 (r : Int) ∧ Sr wr g n X ∧ g < wr.heap.size ∧ w.grownBy wr (some g) ∧ Hid (srch (tst X p) lo hi s r)) (fun ti tj _ => (intOf tj).toNat - (intOf ti).toNat)
    case atStart => exact ⟨a, m, by have := HRL.out; omega, by have := HRH.out; have := HRL.out; omega, by have := HRH.out; omega, rfl, rfl, h, hg, World.grownBy.refl _ _, (by rw [HRL.out, HRH.out]; have := hpn; exact ⟨Nat.le_refl _, by omega, Nat.le_refl _, fun c h1 h2 => by omega, fun c h1 h2 => by omega⟩ : srch _ _ _ _ _)⟩
    case round =>
      obtain ⟨s, r, hls, hsr, hrh, rfl, rfl, hS, hgw, hG, HS⟩ := hrel
      by_cases hlt : s < r
      · have hlti : (s : Int) < (r : Int) := by omega
        obtain ⟨c, hc⟩ : ∃ c, c = (s + r) / 2 := ⟨_, rfl⟩
        have rc : ((s : Int) + (r : Int)) / 2 = (c : Int) := by omega
        have hic : s ≤ c := by omega
        have hcj : c < r := by omega
        obtain ⟨q, hq⟩ : ∃ q, q = p - c := ⟨_, rfl⟩
        have hbc := HBC.out c (by omega) (by omega)
        have rq : (p : Int) - (c : Int) = (q : Int) := by omega
        have HQ : Hid (q = p - c) := hq
        have hqb : q < b ∧ c < m := by omega
        clear hc hq hbc
        have i1 := hS.it (k := q) (by omega)
        have i2 := hS.it (k := c) (by omega)
        have T0 := two_of i1 i2
        unfold Two at T0
        have z0 : (q : Int) < (n : Int) := by omega
        have z1 : (c : Int) < (n : Int) := by omega
        have z2 : (0 : Int) ≤ (q : Int) := by omega
        have z3 : (0 : Int) ≤ (c : Int) := by omega
        have hwp : IntKind.i64.wrap (q : Int) = (q : Int) := by rw [IntKind.wrap_i64]; omega
        have HC : Hid (∀ W, Below wr.heap.size wr W → Calls Tryz.prog 115 #[(X q).val, (X c).val] W fun e w' => e = .returned (.int .i64 (cmpV (X q) (X c))) ∧ Below wr.heap.size wr w') := fun W hW => (cmp_any (X q) (X c) W).mono fun e w' ⟨h1, h2⟩ => ⟨h1, hW.trans (h2.mono hW.size)⟩
        have HK : Hid (∀ W, Below wr.heap.size wr W → Two g q c (X q) (X c) W) := fun W hW => two_old (two_of i1 i2) hW
        unfold Two at HK
        unfold Im.val at HC
        have d1 : Below wr.heap.size wr wr.drew := (Below.refl _ _).drew
        have d0 : Below wr.heap.size wr wr := Below.refl _ _
        have HNEG : Hid (cmpV (X q) (X c) < 0 ↔ (X q).wt < (X c).wt) := cmpV_neg _ _
        have hbd := cmpV_bd (X q) (X c)
        generalize cmpV (X q) (X c) = cv at *
        clear i1 i2
        by_cases hcv : cv < 0
        · have HS2 : Hid (srch (tst X p) lo hi s c) := srch_down HS.out HMono.out hic hcj (by have := HNEG.out.1 hcv; unfold tst; rw [← HQ.out]; exact this)
          go_wp2_with fail
          go_region_held3 (fun w' => (w'.cell? ⟨g, q * 4, none⟩ = some (.int .i64 (X q).wt) ∧ w'.cell? ⟨g, q * 4 + 1, none⟩ = some (.int .i64 (X q).sy) ∧ w'.cell? ⟨g, q * 4 + 2, none⟩ = some (.pointer (X q).fs) ∧ w'.cell? ⟨g, q * 4 + 3, none⟩ = some (.pointer (X q).sn)) ∧ (w'.cell? ⟨g, c * 4, none⟩ = some (.int .i64 (X c).wt) ∧ w'.cell? ⟨g, c * 4 + 1, none⟩ = some (.int .i64 (X c).sy) ∧ w'.cell? ⟨g, c * 4 + 2, none⟩ = some (.pointer (X c).fs) ∧ w'.cell? ⟨g, c * 4 + 3, none⟩ = some (.pointer (X c).sn)))
            (first | go_keep | (exact HK.out _ (by assumption)))
            (first | (go_at_call 115; refine (HC.out _ (by assumption)).mono ?_; rintro e w7 ⟨rfl, b7⟩))
          have S7 := hS.old hgw b7
          have G7 : w.grownBy w7 (some g) := grownBy_trans hG (grown_old b7 _)
          have L7 : g < w7.heap.size := Nat.lt_of_lt_of_le hgw b7.size
          clear T0 HC HK d1 d0 b7
          go_wp2
          go_roundw
          case rel => exact ⟨s, c, hls, by omega, by omega, rfl, rfl, S7, L7, G7, HS2.out⟩
          case measure => simp [intOf]; omega
        · have hcd : decide (cv < 0) = false := decide_eq_false hcv
          have HS2 : Hid (srch (tst X p) lo hi (c + 1) r) := srch_up HS.out HMono.out hic hcj (by have := HNEG.out; unfold tst; rw [← HQ.out]; intro hh; exact hcv (this.2 hh))
          go_wp2_with fail
          go_region_held3 (fun w' => (w'.cell? ⟨g, q * 4, none⟩ = some (.int .i64 (X q).wt) ∧ w'.cell? ⟨g, q * 4 + 1, none⟩ = some (.int .i64 (X q).sy) ∧ w'.cell? ⟨g, q * 4 + 2, none⟩ = some (.pointer (X q).fs) ∧ w'.cell? ⟨g, q * 4 + 3, none⟩ = some (.pointer (X q).sn)) ∧ (w'.cell? ⟨g, c * 4, none⟩ = some (.int .i64 (X c).wt) ∧ w'.cell? ⟨g, c * 4 + 1, none⟩ = some (.int .i64 (X c).sy) ∧ w'.cell? ⟨g, c * 4 + 2, none⟩ = some (.pointer (X c).fs) ∧ w'.cell? ⟨g, c * 4 + 3, none⟩ = some (.pointer (X c).sn)))
            (first | go_keep | (exact HK.out _ (by assumption)))
            (first | (go_at_call 115; refine (HC.out _ (by assumption)).mono ?_; rintro e w7 ⟨rfl, b7⟩))
          have S7 := hS.old hgw b7
          have G7 : w.grownBy w7 (some g) := grownBy_trans hG (grown_old b7 _)
          have L7 : g < w7.heap.size := Nat.lt_of_lt_of_le hgw b7.size
          clear T0 HC HK d1 d0 b7
          go_wp2
          go_roundw
          case rel => exact ⟨c + 1, r, by omega, by omega, hrh, by go_num, rfl, S7, L7, G7, HS2.out⟩
          case measure => simp [intOf]; omega
      · obtain rfl : s = r := by omega
        obtain ⟨en, hen⟩ : ∃ en, en = mid + m - s := ⟨_, rfl⟩
        obtain ⟨t1, t2, t3, t4, t5, t6, ⟨l1', l2', l3'⟩, ⟨q1', q2', q3'⟩, cr'⟩ := HTN.out s HS.out
        rw [← hen] at t4 t5 t6 l1' l2' l3' q1' q2' q3' cr'
        have ren : (N : Int) - (s : Int) = (en : Int) := by have := HDF.out; omega
        have l1 : Hid _ := l1'
        have l2 : Hid _ := l2'
        have l3 : Hid _ := l3'
        have q1 : Hid _ := q1'
        have q2 : Hid _ := q2'
        have q3 : Hid _ := q3'
        have cr : Hid _ := cr'
        have hab4 : a + 4 ≤ b := by omega
        have hsm : a < mid ∧ mid + m = s + en := by have := HDF.out; omega
        clear l1' l2' l3' q1' q2' q3' cr' HS hen hlt HMono HBC HTN hr1 hr2 hs h
        by_cases cA : s < m ∧ s < mid
        · by_cases c2 : a < s
          · by_cases c3 : en < b
            · skip
              have k0 : (s : Int) < (m : Int) := by omega
              have k1 : (m : Int) < (en : Int) := by omega
              have k2 : (a : Int) < (s : Int) := by omega
              have k3 : (s : Int) < (mid : Int) := by omega
              have k4 : (mid : Int) < (en : Int) := by omega
              have k5 : (en : Int) < (b : Int) := by omega
              go_wp2_with fail
              refine (rotate_any g cap n s m en X wr hS (by omega) (by omega) (by omega) hl _).mono ?_
              rintro e w2 ⟨rfl, S2, G2', P2'⟩
              have G2 := grownBy_trans hG G2'
              have L2 : g < w2.heap.size := Nat.lt_of_lt_of_le hgw G2'.size
              have P2 : Hid (Pm X (rot X s m en) a b) := P2'.wide (by omega) (by omega) (by omega)
              clear G2' P2'
              generalize rot X s m en = Y at *
              have C1 := HIH.out a s mid Y w2 (by omega) S2 L2 (by omega) (by omega) (by omega) l1.out l2.out l3.out
              unfold SymQ at C1
              go_wp2_with fail
              refine C1.mono ?_
              rintro e w3 ⟨rfl, Y1, S3, G3', P3', so3'⟩
              have G3 := grownBy_trans G2 G3'
              have L3 : g < w3.heap.size := Nat.lt_of_lt_of_le L2 G3'.size
              have P3 : Hid (Pm Y Y1 a mid ∧ so Y1 a mid) := ⟨P3', so3'⟩
              clear G3' P3' so3' C1
              have l4 : Hid (so Y1 mid en) := fun i j h1 h2 h3 => by rw [P3.out.1.2 i (by omega), P3.out.1.2 j (by omega)]; exact q1.out i j h1 h2 h3
              have l5 : Hid (so Y1 en b) := fun i j h1 h2 h3 => by rw [P3.out.1.2 i (by omega), P3.out.1.2 j (by omega)]; exact q2.out i j h1 h2 h3
              have l6 : Hid (sep Y1 mid en b) := fun i j h1 h2 h3 h4 => by rw [P3.out.1.2 i (by omega), P3.out.1.2 j (by omega)]; exact q3.out i j h1 h2 h3 h4
              have C2 := HIH.out mid en b Y1 w3 (by omega) S3 L3 (by omega) (by omega) (by omega) l4.out l5.out l6.out
              unfold SymQ at C2
              go_wp2_with fail
              refine C2.mono ?_
              rintro e w4 ⟨rfl, Z, S4, G4', P4', so4'⟩
              have G4 := grownBy_trans G3 G4'
              have P4 : Hid (Pm Y1 Z mid b ∧ so Z mid b) := ⟨P4', so4'⟩
              clear G4' P4' so4' C2
              go_wp2
              go_end0
              exact ⟨rfl, Z, S4, G4, (P2.out.trans (P3.out.1.wide (Nat.le_refl _) (by omega) (by omega))).trans (P4.out.1.wide (by omega) (by omega) (Nat.le_refl _)), so_join (by omega) (by omega) P3.out.1 P3.out.2 P4.out.1 P4.out.2 cr.out⟩
            · skip
              have k0 : (s : Int) < (m : Int) := by omega
              have k1 : (m : Int) < (en : Int) := by omega
              have k2 : (a : Int) < (s : Int) := by omega
              have k3 : (s : Int) < (mid : Int) := by omega
              have k4 : (mid : Int) < (en : Int) := by omega
              have k5 : ¬ (en : Int) < (b : Int) := by omega
              go_wp2_with fail
              refine (rotate_any g cap n s m en X wr hS (by omega) (by omega) (by omega) hl _).mono ?_
              rintro e w2 ⟨rfl, S2, G2', P2'⟩
              have G2 := grownBy_trans hG G2'
              have L2 : g < w2.heap.size := Nat.lt_of_lt_of_le hgw G2'.size
              have P2 : Hid (Pm X (rot X s m en) a b) := P2'.wide (by omega) (by omega) (by omega)
              clear G2' P2'
              generalize rot X s m en = Y at *
              have C1 := HIH.out a s mid Y w2 (by omega) S2 L2 (by omega) (by omega) (by omega) l1.out l2.out l3.out
              unfold SymQ at C1
              go_wp2_with fail
              refine C1.mono ?_
              rintro e w3 ⟨rfl, Y1, S3, G3', P3', so3'⟩
              have G3 := grownBy_trans G2 G3'
              have L3 : g < w3.heap.size := Nat.lt_of_lt_of_le L2 G3'.size
              have P3 : Hid (Pm Y Y1 a mid ∧ so Y1 a mid) := ⟨P3', so3'⟩
              clear G3' P3' so3' C1
              have l4 : Hid (so Y1 mid en) := fun i j h1 h2 h3 => by rw [P3.out.1.2 i (by omega), P3.out.1.2 j (by omega)]; exact q1.out i j h1 h2 h3
              have l5 : Hid (so Y1 en b) := fun i j h1 h2 h3 => by rw [P3.out.1.2 i (by omega), P3.out.1.2 j (by omega)]; exact q2.out i j h1 h2 h3
              have l6 : Hid (sep Y1 mid en b) := fun i j h1 h2 h3 h4 => by rw [P3.out.1.2 i (by omega), P3.out.1.2 j (by omega)]; exact q3.out i j h1 h2 h3 h4
              obtain ⟨Z, hZ⟩ : ∃ Z, Z = Y1 := ⟨_, rfl⟩
              have S4 : Sr w3 g n Z := by rw [hZ]; exact S3
              have G4 := G3
              have P4 : Hid (Pm Y1 Z mid b ∧ so Z mid b) := by rw [hZ]; exact ⟨Pm.refl _ _ _, by have e : en = b := (by omega); rw [← e]; exact l4.out⟩
              clear hZ
              go_wp2
              go_end0
              exact ⟨rfl, Z, S4, G4, (P2.out.trans (P3.out.1.wide (Nat.le_refl _) (by omega) (by omega))).trans (P4.out.1.wide (by omega) (by omega) (Nat.le_refl _)), so_join (by omega) (by omega) P3.out.1 P3.out.2 P4.out.1 P4.out.2 cr.out⟩
          · have EAS : Hid (s = a) := by show _ = _; omega
            by_cases c3 : en < b
            · skip
              have k0 : (s : Int) < (m : Int) := by omega
              have k1 : (m : Int) < (en : Int) := by omega
              have k2 : ¬ (a : Int) < (s : Int) := by omega
              have k3 : (mid : Int) < (en : Int) := by omega
              have k4 : (en : Int) < (b : Int) := by omega
              go_wp2_with fail
              refine (rotate_any g cap n s m en X wr hS (by omega) (by omega) (by omega) hl _).mono ?_
              rintro e w2 ⟨rfl, S2, G2', P2'⟩
              have G2 := grownBy_trans hG G2'
              have L2 : g < w2.heap.size := Nat.lt_of_lt_of_le hgw G2'.size
              have P2 : Hid (Pm X (rot X s m en) a b) := P2'.wide (by omega) (by omega) (by omega)
              clear G2' P2'
              generalize rot X s m en = Y at *
              obtain ⟨Y1, hY1⟩ : ∃ Y1, Y1 = Y := ⟨_, rfl⟩
              have S3 : Sr w2 g n Y1 := by rw [hY1]; exact S2
              have G3 := G2
              have L3 := L2
              have P3 : Hid (Pm Y Y1 a mid ∧ so Y1 a mid) := by rw [hY1]; exact ⟨Pm.refl _ _ _, by have l2x := l2.out; rw [EAS.out] at l2x; exact l2x⟩
              clear hY1
              have l4 : Hid (so Y1 mid en) := fun i j h1 h2 h3 => by rw [P3.out.1.2 i (by omega), P3.out.1.2 j (by omega)]; exact q1.out i j h1 h2 h3
              have l5 : Hid (so Y1 en b) := fun i j h1 h2 h3 => by rw [P3.out.1.2 i (by omega), P3.out.1.2 j (by omega)]; exact q2.out i j h1 h2 h3
              have l6 : Hid (sep Y1 mid en b) := fun i j h1 h2 h3 h4 => by rw [P3.out.1.2 i (by omega), P3.out.1.2 j (by omega)]; exact q3.out i j h1 h2 h3 h4
              have C2 := HIH.out mid en b Y1 w2 (by omega) S3 L3 (by omega) (by omega) (by omega) l4.out l5.out l6.out
              unfold SymQ at C2
              go_wp2_with fail
              refine C2.mono ?_
              rintro e w4 ⟨rfl, Z, S4, G4', P4', so4'⟩
              have G4 := grownBy_trans G3 G4'
              have P4 : Hid (Pm Y1 Z mid b ∧ so Z mid b) := ⟨P4', so4'⟩
              clear G4' P4' so4' C2
              go_wp2
              go_end0
              exact ⟨rfl, Z, S4, G4, (P2.out.trans (P3.out.1.wide (Nat.le_refl _) (by omega) (by omega))).trans (P4.out.1.wide (by omega) (by omega) (Nat.le_refl _)), so_join (by omega) (by omega) P3.out.1 P3.out.2 P4.out.1 P4.out.2 cr.out⟩
            · skip
              have k0 : (s : Int) < (m : Int) := by omega
              have k1 : (m : Int) < (en : Int) := by omega
              have k2 : ¬ (a : Int) < (s : Int) := by omega
              have k3 : (mid : Int) < (en : Int) := by omega
              have k4 : ¬ (en : Int) < (b : Int) := by omega
              go_wp2_with fail
              refine (rotate_any g cap n s m en X wr hS (by omega) (by omega) (by omega) hl _).mono ?_
              rintro e w2 ⟨rfl, S2, G2', P2'⟩
              have G2 := grownBy_trans hG G2'
              have L2 : g < w2.heap.size := Nat.lt_of_lt_of_le hgw G2'.size
              have P2 : Hid (Pm X (rot X s m en) a b) := P2'.wide (by omega) (by omega) (by omega)
              clear G2' P2'
              generalize rot X s m en = Y at *
              obtain ⟨Y1, hY1⟩ : ∃ Y1, Y1 = Y := ⟨_, rfl⟩
              have S3 : Sr w2 g n Y1 := by rw [hY1]; exact S2
              have G3 := G2
              have L3 := L2
              have P3 : Hid (Pm Y Y1 a mid ∧ so Y1 a mid) := by rw [hY1]; exact ⟨Pm.refl _ _ _, by have l2x := l2.out; rw [EAS.out] at l2x; exact l2x⟩
              clear hY1
              have l4 : Hid (so Y1 mid en) := fun i j h1 h2 h3 => by rw [P3.out.1.2 i (by omega), P3.out.1.2 j (by omega)]; exact q1.out i j h1 h2 h3
              have l5 : Hid (so Y1 en b) := fun i j h1 h2 h3 => by rw [P3.out.1.2 i (by omega), P3.out.1.2 j (by omega)]; exact q2.out i j h1 h2 h3
              have l6 : Hid (sep Y1 mid en b) := fun i j h1 h2 h3 h4 => by rw [P3.out.1.2 i (by omega), P3.out.1.2 j (by omega)]; exact q3.out i j h1 h2 h3 h4
              obtain ⟨Z, hZ⟩ : ∃ Z, Z = Y1 := ⟨_, rfl⟩
              have S4 : Sr w2 g n Z := by rw [hZ]; exact S3
              have G4 := G3
              have P4 : Hid (Pm Y1 Z mid b ∧ so Z mid b) := by rw [hZ]; exact ⟨Pm.refl _ _ _, by have e : en = b := (by omega); rw [← e]; exact l4.out⟩
              clear hZ
              go_wp2
              go_end0
              exact ⟨rfl, Z, S4, G4, (P2.out.trans (P3.out.1.wide (Nat.le_refl _) (by omega) (by omega))).trans (P4.out.1.wide (by omega) (by omega) (Nat.le_refl _)), so_join (by omega) (by omega) P3.out.1 P3.out.2 P4.out.1 P4.out.2 cr.out⟩
        · have ESM : Hid (s = m) := by have := HLH.out; have := HRH.out; show _ = _; omega
          have EEN : Hid (en = mid) := by have := ESM.out; show _ = _; omega
          by_cases c2 : s < mid
          · skip
            have k0 : ¬ (s : Int) < (m : Int) := by omega
            have k1 : (a : Int) < (s : Int) := by omega
            have k2 : (s : Int) < (mid : Int) := by omega
            have k3 : ¬ (mid : Int) < (en : Int) := by omega
            have hrx : rot X s m en = X := by rw [ESM.out]; exact rot_left X m en
            have S2 : Sr wr g n (rot X s m en) := by rw [hrx]; exact hS
            have G2 := hG
            have L2 := hgw
            have P2 : Hid (Pm X (rot X s m en) a b) := by rw [hrx]; exact Pm.refl _ _ _
            clear hrx
            generalize rot X s m en = Y at *
            have C1 := HIH.out a s mid Y wr (by omega) S2 L2 (by omega) (by omega) (by omega) l1.out l2.out l3.out
            unfold SymQ at C1
            go_wp2_with fail
            refine C1.mono ?_
            rintro e w3 ⟨rfl, Y1, S3, G3', P3', so3'⟩
            have G3 := grownBy_trans G2 G3'
            have L3 : g < w3.heap.size := Nat.lt_of_lt_of_le L2 G3'.size
            have P3 : Hid (Pm Y Y1 a mid ∧ so Y1 a mid) := ⟨P3', so3'⟩
            clear G3' P3' so3' C1
            have l4 : Hid (so Y1 mid en) := fun i j h1 h2 h3 => by rw [P3.out.1.2 i (by omega), P3.out.1.2 j (by omega)]; exact q1.out i j h1 h2 h3
            have l5 : Hid (so Y1 en b) := fun i j h1 h2 h3 => by rw [P3.out.1.2 i (by omega), P3.out.1.2 j (by omega)]; exact q2.out i j h1 h2 h3
            have l6 : Hid (sep Y1 mid en b) := fun i j h1 h2 h3 h4 => by rw [P3.out.1.2 i (by omega), P3.out.1.2 j (by omega)]; exact q3.out i j h1 h2 h3 h4
            obtain ⟨Z, hZ⟩ : ∃ Z, Z = Y1 := ⟨_, rfl⟩
            have S4 : Sr w3 g n Z := by rw [hZ]; exact S3
            have G4 := G3
            have P4 : Hid (Pm Y1 Z mid b ∧ so Z mid b) := by rw [hZ]; exact ⟨Pm.refl _ _ _, by have l5x := l5.out; rw [EEN.out] at l5x; exact l5x⟩
            clear hZ
            go_wp2
            go_end0
            exact ⟨rfl, Z, S4, G4, (P2.out.trans (P3.out.1.wide (Nat.le_refl _) (by omega) (by omega))).trans (P4.out.1.wide (by omega) (by omega) (Nat.le_refl _)), so_join (by omega) (by omega) P3.out.1 P3.out.2 P4.out.1 P4.out.2 cr.out⟩
          · have EMS : Hid (s = mid) := by show _ = _; omega
            have k0 : ¬ (s : Int) < (m : Int) := by omega
            have k1 : (a : Int) < (s : Int) := by omega
            have k2 : ¬ (s : Int) < (mid : Int) := by omega
            have k3 : ¬ (mid : Int) < (en : Int) := by omega
            have hrx : rot X s m en = X := by rw [ESM.out]; exact rot_left X m en
            have S2 : Sr wr g n (rot X s m en) := by rw [hrx]; exact hS
            have G2 := hG
            have L2 := hgw
            have P2 : Hid (Pm X (rot X s m en) a b) := by rw [hrx]; exact Pm.refl _ _ _
            clear hrx
            generalize rot X s m en = Y at *
            obtain ⟨Y1, hY1⟩ : ∃ Y1, Y1 = Y := ⟨_, rfl⟩
            have S3 : Sr wr g n Y1 := by rw [hY1]; exact S2
            have G3 := G2
            have L3 := L2
            have P3 : Hid (Pm Y Y1 a mid ∧ so Y1 a mid) := by rw [hY1]; exact ⟨Pm.refl _ _ _, by have l1x := l1.out; rw [EMS.out] at l1x; exact l1x⟩
            clear hY1
            have l4 : Hid (so Y1 mid en) := fun i j h1 h2 h3 => by rw [P3.out.1.2 i (by omega), P3.out.1.2 j (by omega)]; exact q1.out i j h1 h2 h3
            have l5 : Hid (so Y1 en b) := fun i j h1 h2 h3 => by rw [P3.out.1.2 i (by omega), P3.out.1.2 j (by omega)]; exact q2.out i j h1 h2 h3
            have l6 : Hid (sep Y1 mid en b) := fun i j h1 h2 h3 h4 => by rw [P3.out.1.2 i (by omega), P3.out.1.2 j (by omega)]; exact q3.out i j h1 h2 h3 h4
            obtain ⟨Z, hZ⟩ : ∃ Z, Z = Y1 := ⟨_, rfl⟩
            have S4 : Sr wr g n Z := by rw [hZ]; exact S3
            have G4 := G3
            have P4 : Hid (Pm Y1 Z mid b ∧ so Z mid b) := by rw [hZ]; exact ⟨Pm.refl _ _ _, by have l5x := l5.out; rw [EEN.out] at l5x; exact l5x⟩
            clear hZ
            go_wp2
            go_end0
            exact ⟨rfl, Z, S4, G4, (P2.out.trans (P3.out.1.wide (Nat.le_refl _) (by omega) (by omega))).trans (P4.out.1.wide (by omega) (by omega) (Nat.le_refl _)), so_join (by omega) (by omega) P3.out.1 P3.out.2 P4.out.1 P4.out.2 cr.out⟩
end Go.Proofs.YtcifalelnfeggaaGreatDoor
