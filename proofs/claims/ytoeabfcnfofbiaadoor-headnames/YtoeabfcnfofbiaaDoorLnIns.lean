
import Derived.Test.YtoeabfcnfofbiaaDoorLnCmp
namespace Go.Proofs.YtoeabfcnfofbiaaDoor
open Go.RowKit
set_option linter.unusedVariables false

theorem Sr.grown {w w' : World} {g n : Nat} {X : Nat → Im} (h : Sr w g n X) (hg : w.grownBy w' none) (hl : g < w.heap.size) : Sr w' g n X :=
  h.old hl ⟨hg.os, hg.tape, hg.output, hg.size, fun i hi => hg.block i hi (by simp)⟩
/-- Two items of the row, as cells. -/
def Two (g p q : Nat) (x y : Im) (w' : World) : Prop :=
  (w'.cell? ⟨g, p * 4, none⟩ = some (.int .i64 x.wt) ∧ w'.cell? ⟨g, p * 4 + 1, none⟩ = some (.int .i64 x.sy) ∧ w'.cell? ⟨g, p * 4 + 2, none⟩ = some (.pointer x.fs) ∧ w'.cell? ⟨g, p * 4 + 3, none⟩ = some (.pointer x.sn)) ∧
  (w'.cell? ⟨g, q * 4, none⟩ = some (.int .i64 y.wt) ∧ w'.cell? ⟨g, q * 4 + 1, none⟩ = some (.int .i64 y.sy) ∧ w'.cell? ⟨g, q * 4 + 2, none⟩ = some (.pointer y.fs) ∧ w'.cell? ⟨g, q * 4 + 3, none⟩ = some (.pointer y.sn))
theorem two_of {w : World} {g p q : Nat} {x y : Im} (h : ItAt w g (p * 4) x) (k : ItAt w g (q * 4) y) : Two g p q x y w := ⟨⟨h.c0, h.c1, h.c2, h.c3⟩, ⟨k.c0, k.c1, k.c2, k.c3⟩⟩
theorem two_old {w w' : World} {g p q : Nat} {x y : Im} (h : Two g p q x y w) (hb : Below w.heap.size w w') : Two g p q x y w' := by
  have k1 : ItAt w g (p * 4) x := ⟨h.1.1, h.1.2.1, h.1.2.2.1, h.1.2.2.2⟩
  have k2 : ItAt w g (q * 4) y := ⟨h.2.1, h.2.2.1, h.2.2.2.1, h.2.2.2.2⟩
  exact two_of (k1.of_block (hb.block g k1.lt)) (k2.of_block (hb.block g k2.lt))

set_option maxRecDepth 100000 in
set_option maxHeartbeats 4000000 in
theorem insSort_any (g cap n a b : Nat) (X : Nat → Im) (w : World) (h : Sr w g n X) (hg : g < w.heap.size) (hab : a ≤ b) (hb : b ≤ n) (hl : n ≤ 100000) (hs : ∀ i j, a ≤ i → i < j → j < b → (X i).sy < (X j).sy) :
    Calls Tryd.prog 121 #[.slice (some ⟨g, 0, none⟩) n cap, .int .i64 a, .int .i64 b, cmpF] w fun e w' => e = .returned (.tuple #[]) ∧ ∃ Y, Sr w' g n Y ∧ w.grownBy w' (some g) ∧ Pm X Y a b ∧ so Y a b := by
  go_enter Tryd.func121, Tryd.ntmps121
  go_wp2
  go_loopw [8] (fun ti wr => ∃ (i : Nat) (Y : Nat → Im), a < i ∧ (i ≤ b ∨ i = a + 1) ∧ ti = .int .i64 (i : Int) ∧ Sr wr g n Y ∧ w.grownBy wr (some g) ∧ Hid (Pm X Y a (min i b) ∧ so Y a (min i b))) (fun ti _ => b + 1 - (intOf ti).toNat)
  case atStart => exact ⟨a + 1, X, by omega, .inr rfl, by go_num, h, World.grownBy.refl _ _, (⟨Pm.refl _ _ _, fun i j h1 h2 h3 => by omega⟩ : _ ∧ _)⟩
  case round =>
    obtain ⟨i, Y, hai, hib, rfl, hS, hG, HY⟩ := hrel
    by_cases hi : i < b
    · have hii : (i : Int) < (b : Int) := by omega
      have HY1 : Hid (Pm X Y a i ∧ so Y a i) := by
        have := HY.out
        rw [Nat.min_eq_left (by omega)] at this
        exact this
      have HSY : Hid (∀ k, a ≤ k → k < i → (Y k).sy < (Y i).sy) := by
        intro k h1 h2
        obtain ⟨q, h3, h4, h5⟩ := HY1.out.1.mem (k := k) h1 h2
        rw [HY1.out.1.2 i (by omega), h5]
        exact hs q i h3 h4 hi
      clear HY
      obtain ⟨w0, hw0⟩ : ∃ w0, w0 = wr := ⟨_, rfl⟩
      have HW0 : Hid (w0 = wr) := hw0
      clear hw0
      go_wp2_with fail
      go_loopw [9] (fun tj w2 => ∃ j : Nat, a ≤ j ∧ j ≤ i ∧ tj = .int .i64 (j : Int) ∧ Sr w2 g n (insA Y i j) ∧ w0.grownBy w2 (some g) ∧ Hid (Pm Y (insA Y i j) a (i + 1) ∧ ∀ k, j ≤ k → k < i → (Y i).wt < (Y k).wt)) (fun tj _ => (intOf tj).toNat)
      case atStart => exact ⟨i, by omega, Nat.le_refl _, rfl, by rw [insA_self]; exact hS, by rw [HW0.out]; exact World.grownBy.refl _ _, (⟨by rw [insA_self]; exact Pm.refl _ _ _, fun k h1 h2 => by omega⟩ : _ ∧ _)⟩
      case round =>
        obtain ⟨j, haj, hji, rfl, hS2, hG2, HJ⟩ := hrel
        clear hS
        have HOUT : Hid ((∀ k, a ≤ k → k < j → kl (Y k) (Y i)) → Pm X (insA Y i j) a (min (i + 1) b) ∧ so (insA Y i j) a (min (i + 1) b)) := by
          intro hk
          rw [Nat.min_eq_left (by omega)]
          exact ⟨(HY1.out.1.wide (Nat.le_refl _) (by omega) (by omega)).trans HJ.out.1, insA_so HY1.out.2 haj hji hk (fun k h1 h2 => by have := HJ.out.2 k h1 h2; unfold kl; omega)⟩
        by_cases hja : a < j
        · have hjai : (a : Int) < (j : Int) := by omega
          obtain ⟨q, hq⟩ : ∃ q, j = q + 1 := ⟨j - 1, by omega⟩
          have i1 := hS2.it (k := j) (by omega)
          have i2 := hS2.it (k := q) (by omega)
          have e1 : insA Y i j j = Y i := by unfold insA; rw [if_neg (by omega), if_pos rfl]
          have e2 : insA Y i j q = Y q := by unfold insA; rw [if_pos (by omega)]
          rw [e1] at i1
          rw [e2] at i2
          have T0 := two_of i1 i2
          unfold Two at T0
          have HQ : Hid (j = q + 1) := hq
          have rq : (j : Int) - 1 = (q : Int) := by omega
          have z0 : (j : Int) < (n : Int) := by omega
          have z1 : (q : Int) < (n : Int) := by omega
          have hjq : j ≠ q := by omega
          have z2 : (0 : Int) ≤ (q : Int) := by omega
          have hwp : IntKind.i64.wrap (q : Int) = (q : Int) := by rw [IntKind.wrap_i64]; omega
          have hwp2 : RowKit.wrap64 (q : Int) = (q : Int) := by rw [← IntWalk.i64_left]; exact hwp
          have HSTEP : Hid (swI (insA Y i j) j q = insA Y i q) := by
            have := insA_step Y i j (by omega) hji
            have e3 : j - 1 = q := by omega
            rw [e3] at this
            exact this
          have hgw : g < wr.heap.size := i1.lt
          have HE : Hid (insA Y i j j = Y i ∧ insA Y i j q = Y q) := ⟨e1, e2⟩
          have HC : Hid (∀ W, Below wr.heap.size wr W → Calls Tryd.prog 106 #[(Y i).val, (Y q).val] W fun e w' => e = .returned (.int .i64 (cmpV (Y i) (Y q))) ∧ Below wr.heap.size wr w') := fun W hW => (cmp_any (Y i) (Y q) W).mono fun e w' ⟨h1, h2⟩ => ⟨h1, hW.trans (h2.mono hW.size)⟩
          have HK : Hid (∀ W, Below wr.heap.size wr W → Two g j q (Y i) (Y q) W) := fun W hW => two_old (two_of i1 i2) hW
          unfold Two at HK
          unfold Im.val at HC
          have d1 : Below wr.heap.size wr wr.drew := (Below.refl _ _).drew
          have d0 : Below wr.heap.size wr wr := Below.refl _ _
          have HNEG : Hid (cmpV (Y i) (Y q) < 0 ↔ (Y i).wt < (Y q).wt) := cmpV_neg _ _
          have hbd := cmpV_bd (Y i) (Y q)
          generalize cmpV (Y i) (Y q) = cv at *
          have HXI : Hid (Sr wr g n (insA Y i j)) := hS2
          clear hS2 i1 i2 e1 e2 hq
          by_cases hcv : cv < 0
          · go_wp2_with fail
            go_region_held3 (fun w' => (w'.cell? ⟨g, j * 4, none⟩ = some (.int .i64 (Y i).wt) ∧ w'.cell? ⟨g, j * 4 + 1, none⟩ = some (.int .i64 (Y i).sy) ∧ w'.cell? ⟨g, j * 4 + 2, none⟩ = some (.pointer (Y i).fs) ∧ w'.cell? ⟨g, j * 4 + 3, none⟩ = some (.pointer (Y i).sn)) ∧ (w'.cell? ⟨g, q * 4, none⟩ = some (.int .i64 (Y q).wt) ∧ w'.cell? ⟨g, q * 4 + 1, none⟩ = some (.int .i64 (Y q).sy) ∧ w'.cell? ⟨g, q * 4 + 2, none⟩ = some (.pointer (Y q).fs) ∧ w'.cell? ⟨g, q * 4 + 3, none⟩ = some (.pointer (Y q).sn)))
              (first | go_keep | (exact HK.out _ (by assumption)))
              (first | (go_at_call 106; refine (HC.out _ (by assumption)).mono ?_; rintro e w7 ⟨rfl, b7⟩))
            have S7 := HXI.out.old hgw b7
            have G7 : w0.grownBy w7 (some g) := grownBy_trans hG2 (grown_old b7 _)
            have HSW := S7.swap (i := j) (j := q) (by omega) (by omega)
            have HGW := swap_grown w7 g (j * 4) (q * 4) (Y q) (Y i)
            rw [HE.out.1, HE.out.2, HSTEP.out] at HSW
            have i1 := S7.it (k := j) (by omega)
            have i2 := S7.it (k := q) (by omega)
            rw [HE.out.1] at i1
            rw [HE.out.2] at i2
            obtain ⟨x0, x1, x2, x3⟩ := i1
            obtain ⟨y0, y1, y2, y3⟩ := i2
            have f0 := S7.free (j * 4); have f1 := S7.free (j * 4 + 1); have f2 := S7.free (j * 4 + 2); have f3 := S7.free (j * 4 + 3)
            have g0 := S7.free (q * 4); have g1 := S7.free (q * 4 + 1); have g2 := S7.free (q * 4 + 2); have g3 := S7.free (q * 4 + 3)
            have HSS : Hid _ := HSW
            have HGG : Hid _ := HGW
            have HPQ : Hid (Pm Y (insA Y i q) a (i + 1) ∧ ∀ k, q ≤ k → k < i → (Y i).wt < (Y k).wt) := by
              refine ⟨?_, fun k h1 h2 => ?_⟩
              · have := HJ.out.1.trans (Pm.swap (insA Y i j) (a := a) (b := i + 1) (i := j) (j := q) (by omega) (by omega) (by have := HQ.out; omega) (by omega))
                rw [HSTEP.out] at this
                exact this
              · by_cases e : k = q
                · rw [e]; exact HNEG.out.1 hcv
                · exact HJ.out.2 k (by have := HQ.out; omega) h2
            clear HSW HGW S7 T0 HC HK d1 d0 b7 HXI HE HSTEP
            go_wp2_with fail
            go_region
            go_wp2
            go_roundw
            case rel => exact ⟨q, by have := HQ.out; omega, by have := HQ.out; omega, rfl, HSS.out.drew, grownBy_drew (grownBy_trans G7 HGG.out), HPQ.out⟩
            case measure => have := HQ.out; simp [intOf]; omega
          · go_wp2_with fail
            go_region_held3 (fun w' => (w'.cell? ⟨g, j * 4, none⟩ = some (.int .i64 (Y i).wt) ∧ w'.cell? ⟨g, j * 4 + 1, none⟩ = some (.int .i64 (Y i).sy) ∧ w'.cell? ⟨g, j * 4 + 2, none⟩ = some (.pointer (Y i).fs) ∧ w'.cell? ⟨g, j * 4 + 3, none⟩ = some (.pointer (Y i).sn)) ∧ (w'.cell? ⟨g, q * 4, none⟩ = some (.int .i64 (Y q).wt) ∧ w'.cell? ⟨g, q * 4 + 1, none⟩ = some (.int .i64 (Y q).sy) ∧ w'.cell? ⟨g, q * 4 + 2, none⟩ = some (.pointer (Y q).fs) ∧ w'.cell? ⟨g, q * 4 + 3, none⟩ = some (.pointer (Y q).sn)))
              (first | go_keep | (exact HK.out _ (by assumption)))
              (first | (go_at_call 106; refine (HC.out _ (by assumption)).mono ?_; rintro e w7 ⟨rfl, b7⟩))
            have S7 := HXI.out.old hgw b7
            have G7 : w0.grownBy w7 (some g) := grownBy_trans hG2 (grown_old b7 _)
            have HO := HOUT.out (fun k h1 h2 => by
              have h3 := HSY.out k h1 (by omega)
              refine kl_of_wt h3 ?_
              have h4 : ¬ (Y i).wt < (Y q).wt := fun h => by have := HNEG.out.2 h; omega
              rcases HY1.out.2.le h1 (show k ≤ q by have := HQ.out; omega) (by have := HQ.out; omega) with e | e
              · rw [e]; exact h4
              · unfold kl at e; omega)
            have HOO : Hid _ := HO
            clear T0 HC HK d1 d0 b7 HXI HO
            go_wp2
            go_roundw
            case rel => exact ⟨i + 1, insA Y i j, by omega, .inl (by omega), by go_num, S7, grownBy_trans hG (HW0.out ▸ G7), HOO.out⟩
            case measure => simp [intOf]; omega
        · obtain rfl : j = a := by omega
          have HO := HOUT.out (fun k h1 h2 => by omega)
          have HOO : Hid _ := HO
          clear HO
          have hdj : decide ((j : Int) < (j : Int)) = false := decide_eq_false (by omega)
          go_wp2_with fail
          go_quiet (fail)
          go_wp2
          go_roundw
          case rel => exact ⟨i + 1, insA Y i j, by omega, .inl (by omega), by go_num, ⟨hS2.row.drewN nq, hS2.free⟩, grownBy_drewN (grownBy_trans hG (HW0.out ▸ hG2)) nq, HOO.out⟩
          case measure => simp [intOf]; omega
    · go_wp2
      go_end0
      refine ⟨rfl, Y, hS, hG, ?_⟩
      have := HY.out
      rw [Nat.min_eq_right (by omega)] at this
      exact this
end Go.Proofs.YtoeabfcnfofbiaaDoor
