
import Derived.Test.YthebboppbebffaaRgKeepsW
namespace Go.Proofs.Ythebboppbebffaa
open Go.RowKit
set_option linter.unusedVariables false

/-- What stands at the head of a round: both rings, into which the same was put. -/
structure LgI (w wr : World) (b b2 x y : Nat) (F G : Nat → Prop) (L : List Int) : Prop where
  r : RP wr b F x L
  s : RP wr b2 G y L
  dj : Dj F G
  bel : Below w.heap.size w wr
  new : ∀ k, F k ∨ G k → w.heap.size ≤ k
theorem LgI.old {w wr w' : World} {b b2 x y : Nat} {F G : Nat → Prop} {L : List Int} (h : LgI w wr b b2 x y F G L) (hb : Below wr.heap.size wr w') : LgI w w' b b2 x y F G L :=
  ⟨h.r.old hb, h.s.old hb, h.dj, h.bel.trans (hb.mono h.bel.size), h.new⟩
theorem held_mono {x y : Nat} (h : x ≤ y) (L : List Int) : heldN x L ≤ heldN y L := by unfold heldN; omega
theorem cop_far {x : Nat} {L : List Int} {D N : Int} (h : copE x L D N = 61) : copL x L D N = L ∧ copX x L D N = [] := by
  unfold copE at h
  unfold copL copX
  split at h
  · omega
  · rename_i hc
    rw [if_neg hc, if_neg hc]
    exact ⟨rfl, rfl⟩
theorem cop_eq {x y : Nat} (hxy : x ≤ y) {L : List Int} {D N : Int} (h : ¬ copE x L D N = 61) : copE y L D N = copE x L D N ∧ copX y L D N = copX x L D N ∧ copL y L D N = copL x L D N := by
  have hm := held_mono hxy L
  unfold copE at h ⊢
  unfold copX copL
  by_cases hc : 0 ≤ N ∧ N ≤ 258 ∧ 1 ≤ D ∧ D ≤ (heldN x L : Int)
  · have hc2 : 0 ≤ N ∧ N ≤ 258 ∧ 1 ≤ D ∧ D ≤ (heldN y L : Int) := by omega
    rw [if_pos hc, if_pos hc2, if_pos hc, if_pos hc2, if_pos hc, if_pos hc2]
    exact ⟨rfl, rfl, rfl⟩
  · rw [if_neg hc] at h
    have hn : N < 0 ∨ 258 < N := by
      by_cases e : N < 0 ∨ 258 < N
      · exact e
      · rw [if_neg e] at h; omega
    have hc2 : ¬ (0 ≤ N ∧ N ≤ 258 ∧ 1 ≤ D ∧ D ≤ (heldN y L : Int)) := by omega
    rw [if_neg hc, if_neg hc2, if_neg hc, if_neg hc2, if_neg hc, if_neg hc2]
    exact ⟨rfl, rfl, rfl⟩
theorem at_eq {x y : Nat} (hxy : x ≤ y) {L : List Int} {D : Int} (h : atE x L D = 0) : atE y L D = 0 ∧ atV y L D = atV x L D := by
  have hm := held_mono hxy L
  unfold atE at h ⊢
  unfold atV
  split at h
  · rename_i hc
    have hc2 : 1 ≤ D ∧ D ≤ (heldN y L : Int) := by omega
    rw [if_pos hc, if_pos hc2, if_pos hc2]
    exact ⟨rfl, rfl⟩
  · omega
set_option maxRecDepth 100000 in
set_option maxHeartbeats 1600000 in
theorem larger_walk (w : World) (u v : Int) (x y : Nat) (hx : 1 ≤ x) (hxy : x ≤ y) (hy : y ≤ 32768) (ca : Option Addr) (n cc : Nat) (O : Nat → CallD) (h : SegC w ca n O) (hb : Hid (totC O n + 258 * n ≤ 70368744177000))
    (CU : ∃ x' : Nat, (∀ W, Calls Try.prog 23 #[.int .u64 u] W fun e w' => e = .returned (.int .i64 (x' : Int)) ∧ w' = W) ∧ ∃ y' : Nat, (∀ W, Calls Try.prog 23 #[.int .u64 v] W fun e w' => e = .returned (.int .i64 (y' : Int)) ∧ w' = W) ∧ ((x' ≤ y' ∧ x = x' ∧ y = y') ∨ (y' < x' ∧ x = y' ∧ y = x'))) :
    Calls Try.prog 6 #[.int .u64 u, .int .u64 v, .slice ca n cc] w fun e w' => e = .returned (.bool true) ∧ Below w.heap.size w w' := by
  obtain ⟨x', C1, y', C2, ho⟩ := CU
  have N1 : Hid (∀ W, Calls Try.prog 11 #[.int .i64 (x : Int)] W fun e w' => ∃ b F, e = .returned (.tuple #[.pointer (some ⟨b, 0, none⟩), .int .i64 0]) ∧ RP w' b F x [] ∧ Below W.heap.size W w' ∧ ∀ k, F k → W.heap.size ≤ k) := pnew_ok x hx (by omega)
  have N2 : Hid (∀ W, Calls Try.prog 11 #[.int .i64 (y : Int)] W fun e w' => ∃ b F, e = .returned (.tuple #[.pointer (some ⟨b, 0, none⟩), .int .i64 0]) ∧ RP w' b F y [] ∧ Below W.heap.size W w' ∧ ∀ k, F k → W.heap.size ≤ k) := pnew_ok y (by omega) hy
  have D1 : Hid (∀ W, Calls Try.prog 23 #[.int .u64 u] W fun e w' => e = .returned (.int .i64 (x' : Int)) ∧ w' = W) := C1
  have D2 : Hid (∀ W, Calls Try.prog 23 #[.int .u64 v] W fun e w' => e = .returned (.int .i64 (y' : Int)) ∧ w' = W) := C2
  have hnb : n ≤ 70368744177000 := by have := hb.out; omega
  clear C1 C2
  go_enter Try.func6, Try.ntmps6
  go_wp2_with fail
  refine (D1.out w).mono ?_
  rintro e w1 ⟨rfl, hw1⟩
  subst w1
  go_wp2_with fail
  refine (D2.out w).mono ?_
  rintro e w1 ⟨rfl, hw1⟩
  subst w1
  rcases ho with ⟨hle, rfl, rfl⟩ | ⟨hle, rfl, rfl⟩
  case' inl => have hle2 : ¬ (y : Int) < (x : Int) := by omega
  case' inr => have hle2 : (x : Int) < (y : Int) := by omega
  all_goals
    clear D1 D2
    go_wp2_with fail
    refine (N1.out w).mono ?_
    rintro e w1 ⟨b, F, rfl, R1, B1, F1⟩
    go_wp2_with fail
    refine (N2.out w1).mono ?_
    rintro e w2 ⟨b2, G, rfl, R2, B2, F2⟩
    go_wp2_with fail
    refine (awake6_any w2).mono ?_
    rintro e w3 ⟨rfl, B3⟩
    have z1 := B1.size
    have z2 := B2.size
    have I0 : LgI w w3 b b2 x y F G [] := ⟨(R1.old B2).old B3, R2.old B3, fun k e1 e2 => by have := R1.lt k e1; have := F2 k e2; omega, (B1.trans (B2.mono z1)).trans (B3.mono (by omega)), fun k e => e.elim (fun e => F1 k e) (fun e => by have := F2 k e; omega)⟩
    clear R1 B1 F1 R2 B2 F2 B3 z1 z2 N1 N2
    go_wp2_with fail
    go_loopw [13] (fun ti wr => ∃ (i : Nat) (F G : Nat → Prop) (L : List Int), i ≤ n ∧ ti = .int .i64 (i : Int) ∧ LgI w wr b b2 x y F G L ∧ Hid (L.length ≤ totC O i + 258 * i)) (fun ti _ => n - (intOf ti).toNat)
    case atStart => exact ⟨0, F, G, [], by omega, rfl, I0, (by show _ ≤ _; simp)⟩
    case round =>
      obtain ⟨i, F', G', L, hi, rfl, I, HL⟩ := hrel
      clear I0 F G
      by_cases hin : i < n
      · have hii : (i : Int) < (n : Int) := by omega
        have h' := h.old I.bel
        obtain ⟨g, off, hca, c0, c1, c2, c3⟩ := h'.at_ i hin
        subst hca
        have ht := totC_le O hin
        have hseg := h'.seg i hin
        have hs0 := h.seg i hin
        have hcap := h'.cap i hin
        have hnil := h'.nil i hin
        have HT : Hid (totC O (i + 1) = totC O i + (O i).p.length) := rfl
        generalize O i = o at *
        obtain ⟨K, ba, p, bc, D, N⟩ := o
        simp only at c0 c1 c2 c3 ht hseg hs0 hcap hnil HT
        have hlb : L.length + p.length + 258 ≤ 70368744177000 := by have := HL.out; have := hb.out; omega
        obtain ⟨wB, hwB⟩ : ∃ wB, wB = wr.alloc (.cells #[.int .i64 K, .slice ba p.length bc, .int .i64 D, .int .i64 N] 36) := ⟨_, rfl⟩
        have bB : Below wr.heap.size wr wB := by rw [hwB]; exact (Below.refl _ _).alloc (Nat.le_refl _) _
        have cB : wB.cell? ⟨wr.heap.size, 0, none⟩ = some (.int .i64 K) ∧ wB.cell? ⟨wr.heap.size, 1, none⟩ = some (.slice ba p.length bc) ∧ wB.cell? ⟨wr.heap.size, 2, none⟩ = some (.int .i64 D) ∧ wB.cell? ⟨wr.heap.size, 3, none⟩ = some (.int .i64 N) := by rw [hwB]; exact four_cells (heap_alloc_new _ _)
        have zB : wB.heap.size = wr.heap.size + 1 := by rw [hwB]; simp
        have HWB : Hid (wB = wr.alloc (.cells #[.int .i64 K, .slice ba p.length bc, .int .i64 D, .int .i64 N] 36)) := hwB
        clear hwB
        have hobF : ¬ F' wr.heap.size := fun e => by have := I.r.lt _ e; omega
        have hobG : ¬ G' wr.heap.size := fun e => by have := I.s.lt _ e; omega
        have IB := I.old bB
        have sB : Seg wB ba p := hseg.old bB
        have hoB : wr.heap.size < wB.heap.size := by omega
        obtain ⟨d0, d1, d2, d3⟩ := cB
        have hfar : ∀ g off, ba = some ⟨g, off, none⟩ → 0 < p.length → ¬ F' g ∧ ¬ G' g := fun g off e h0 => by
          have h3 := hs0.lt g off e h0
          exact ⟨fun e => by have := I.new g (.inl e); omega, fun e => by have := I.new g (.inr e); omega⟩
        clear I h' hseg
        obtain ⟨ob, hob⟩ : ∃ ob, ob = wr.heap.size := ⟨_, rfl⟩
        have HOB : Hid (ob = wr.heap.size) := hob
        rw [← hob] at d0 d1 d2 d3 hobF hobG hoB
        clear hob zB bB
        by_cases hK0 : K = 0
        · subst hK0
          go_wp2_with fail
          rw [← HWB.out, ← HOB.out]
          refine (pput_any ba p p.length bc rfl IB.r sB hcap hnil (fun g off e h0 => (hfar g off e h0).1) (by omega)).mono ?_
          rintro e w5 ⟨rfl, F5, R5, K5, P5⟩
          have e1 : w5.cell? ⟨ob, 1, none⟩ = some (.slice ba p.length bc) := (World.cell?_of_block (a := ⟨ob, 1, none⟩) (K5.block ob hoB hobF)).trans d1
          have s5 : Seg w5 ba p := sB.kp K5 (fun g off e h0 => (hfar g off e h0).1)
          have S5 := IB.s.kp K5 IB.dj.symm
          have b5 := IB.bel.trans (K5.below (fun k e => IB.new k (.inl e)) IB.bel.size)
          have J5 : Dj F5 G' := IB.dj.fresh P5 (fun k e => IB.s.lt k e)
          have n5 : ∀ k, F5 k → w.heap.size ≤ k := fun k e => by
            rcases P5 k e with e | e
            · exact IB.new k (.inl e)
            · have := IB.bel.size; omega
          clear d0 d1 d2 d3
          go_wp2_with fail
          refine (pput_any ba p p.length bc rfl S5 s5 hcap hnil (fun g off e h0 => (hfar g off e h0).2) (by omega)).mono ?_
          rintro e w6 ⟨rfl, G6, S6, K6, P6⟩
          have I6 : LgI w w6 b b2 x y F5 G6 (L ++ p) := by
            refine ⟨R5.kp K6 J5, S6, (J5.symm.fresh P6 (fun k e => R5.lt k e)).symm, b5.trans (K6.below (fun k e => IB.new k (.inr e)) b5.size), ?_⟩
            rintro k (e | e)
            · exact n5 k e
            · rcases P6 k e with e | e
              · exact IB.new k (.inr e)
              · have := b5.size; omega
          have HLn : Hid ((L ++ p).length ≤ totC O (i + 1) + 258 * (i + 1)) := by show _ ≤ _; have := HL.out; rw [HT.out, List.length_append]; omega
          have hll : (L ++ p).length ≤ 70368744177000 := by rw [List.length_append]; omega
          clear R5 K5 P5 e1 s5 S5 b5 J5 n5 S6 K6 P6 IB
          have HI : Hid _ := I6
          have hm0 := held_mono hxy (L ++ p)
          have hm1 : ¬ (heldN y (L ++ p) : Int) < (heldN x (L ++ p) : Int) := by omega
          have T1 := ptotal_any (I6).r (by omega)
          have T2 : Hid (∀ W, Below (w6).heap.size (w6) W → Calls Try.prog 15 #[.pointer (some ⟨b2, 0, none⟩)] W fun e w' => e = .returned (.int .i64 ((L ++ p).length : Int)) ∧ Below W.heap.size W w') := fun W hW => ptotal_any (HI.out.s.old hW) (by omega)
          have T3 : Hid (∀ W, Below (w6).heap.size (w6) W → Calls Try.prog 16 #[.pointer (some ⟨b, 0, none⟩)] W fun e w' => e = .returned (.int .i64 (heldN x (L ++ p) : Int)) ∧ Below W.heap.size W w') := fun W hW => pheld_any (HI.out.r.old hW) (by omega)
          have T4 : Hid (∀ W, Below (w6).heap.size (w6) W → Calls Try.prog 16 #[.pointer (some ⟨b2, 0, none⟩)] W fun e w' => e = .returned (.int .i64 (heldN y (L ++ p) : Int)) ∧ Below W.heap.size W w') := fun W hW => pheld_any (HI.out.s.old hW) (by omega)
          clear hm0
          generalize heldN x (L ++ p) = h1 at *
          generalize heldN y (L ++ p) = h2 at *
          go_wp2_with fail
          refine T1.mono ?_
          rintro e w21 ⟨rfl, B21⟩
          clear T1
          go_wp2_with fail
          refine (T2.out w21 B21).mono ?_
          rintro e w22 ⟨rfl, B22'⟩
          have B22 := B21.trans (B22'.mono B21.size)
          clear B21 B22'
          go_wp2_with fail
          refine (T3.out w22 B22).mono ?_
          rintro e w23 ⟨rfl, B23'⟩
          have B23 := B22.trans (B23'.mono B22.size)
          clear B22 B23'
          go_wp2_with fail
          refine (T4.out w23 B23).mono ?_
          rintro e w24 ⟨rfl, B24'⟩
          have B24 := B23.trans (B24'.mono B23.size)
          have I24 := HI.out.old B24
          clear B23 B24' T2 T3 T4
          go_wp2_with fail
          go_roundw
          case rel => exact ⟨i + 1, _, _, L ++ p, by omega, by go_num, I24, HLn⟩
          case measure => simp [intOf]; omega
        · by_cases hK2 : K = 2
          · subst hK2
            have CP := pcopy_u D N IB.r (by omega)
            have hcl := copL_len x L D N
            have HEq : Hid (¬ copE x L D N = 61 → copE y L D N = copE x L D N ∧ copX y L D N = copX x L D N ∧ copL y L D N = copL x L D N) := fun h => cop_eq hxy h
            have HFar : Hid (copE x L D N = 61 → copL x L D N = L) := fun h => (cop_far h).1
            have HXb : Hid ((∀ z ∈ copL x L D N, 0 ≤ z ∧ z ≤ 255) → ∀ z ∈ copX x L D N, 0 ≤ z ∧ z ≤ 255) := copX_bd
            have HC2 : Hid (∀ W, RP W b2 G' y L → Calls Try.prog 18 #[.pointer (some ⟨b2, 0, none⟩), .int .i64 D, .int .i64 N] W fun e w' => CopU RP W b2 y G' (copX y L D N) (copL y L D N) (copE y L D N) e w') := fun W h => pcopy_u D N h (by omega)
            by_cases hE : copE x L D N = 61
            · rw [hE] at CP
              have hL5 := HFar.out hE
              rw [hL5] at CP
              generalize copX x L D N = X at *
              go_wp2_with fail
              rw [← HWB.out, ← HOB.out]
              refine CP.mono ?_
              rintro e w5 ⟨oa, oc, F5, rfl, O5, R5, K5, P5, _⟩
              have I5 : LgI w w5 b b2 x y F5 G' L := by
                refine ⟨R5, IB.s.kp K5 IB.dj.symm, IB.dj.fresh P5 (fun k e => IB.s.lt k e), IB.bel.trans (K5.below (fun k e => IB.new k (.inl e)) IB.bel.size), ?_⟩
                rintro k (e | e)
                · rcases P5 k e with e | e
                  · exact IB.new k (.inl e)
                  · have := IB.bel.size; omega
                · exact IB.new k (.inr e)
              have HLn : Hid (L.length ≤ totC O (i + 1) + 258 * (i + 1)) := by show _ ≤ _; have := HL.out; rw [HT.out]; omega
              clear CP O5 R5 K5 P5 IB d0 d1 d2 d3 HEq HFar HXb HC2
              go_wp2_with fail
              go_roundw
              case rel => exact ⟨i + 1, _, _, L, by omega, by go_num, I5, HLn⟩
              case measure => simp [intOf]; omega
            · obtain ⟨q1, q2, q3⟩ := HEq.out hE
              rw [q1, q2, q3] at HC2
              clear q1 q2 q3 HEq HFar
              generalize copX x L D N = X at *
              generalize copL x L D N = L5 at *
              generalize copE x L D N = E at *
              have hEi : (E == 61) = false := by simp [hE]
              obtain ⟨m, hm⟩ : ∃ m, m = X.length := ⟨_, rfl⟩
              have HM : Hid (X.length = m) := hm.symm
              clear hm
              go_wp2_with fail
              rw [← HWB.out, ← HOB.out]
              refine CP.mono ?_
              rintro e w5 ⟨oa, oc, F5, rfl, O5, R5, K5, P5, J5'⟩
              rw [HM.out] at O5 J5' ⊢
              have e2 : w5.cell? ⟨ob, 2, none⟩ = some (.int .i64 D) := (World.cell?_of_block (a := ⟨ob, 2, none⟩) (K5.block ob hoB hobF)).trans d2
              have e3 : w5.cell? ⟨ob, 3, none⟩ = some (.int .i64 N) := (World.cell?_of_block (a := ⟨ob, 3, none⟩) (K5.block ob hoB hobF)).trans d3
              have S5 := IB.s.kp K5 IB.dj.symm
              have b5 := IB.bel.trans (K5.below (fun k e => IB.new k (.inl e)) IB.bel.size)
              have J5 : Dj F5 G' := IB.dj.fresh P5 (fun k e => IB.s.lt k e)
              have hXb := HXb.out R5.bd
              have n5 : ∀ k, F5 k → w.heap.size ≤ k := fun k e => by
                rcases P5 k e with e | e
                · exact IB.new k (.inl e)
                · have := IB.bel.size; omega
              clear d0 d1 d2 d3 CP
              go_wp2_with fail
              refine (HC2.out w5 S5).mono ?_
              rintro e w6 ⟨oa6, oc6, G6, rfl, O6, S6, K6, P6, J6⟩
              rw [HM.out] at O6 J6 ⊢
              have O56 := own_kp O5 K6 (fun k e1 e2 => by have := (O5.lt k e1).1; have := IB.s.lt k e2; omega)
              obtain ⟨r1, _, _, hv1, t1, _⟩ := own_seg O56 (M := 255) (by decide) hXb
              cases hv1
              obtain ⟨r2, _, _, hv2, t2, _⟩ := own_seg O6 (M := 255) (by decide) hXb
              cases hv2
              have CS := same6_any oa oa6 X X oc oc6 w6 t1 t2
              rw [HM.out, show (X == X) = true by simp] at CS
              have I6 : LgI w w6 b b2 x y F5 G6 L5 := by
                refine ⟨R5.kp K6 J5, S6, (J5.symm.fresh P6 (fun k e => R5.lt k e)).symm, b5.trans (K6.below (fun k e => IB.new k (.inr e)) b5.size), ?_⟩
                rintro k (e | e)
                · exact n5 k e
                · rcases P6 k e with e | e
                  · exact IB.new k (.inr e)
                  · have := b5.size; omega
              have HLn : Hid (L5.length ≤ totC O (i + 1) + 258 * (i + 1)) := by show _ ≤ _; have := HL.out; rw [HT.out]; omega
              have hll : L5.length ≤ 70368744177000 := by omega
              clear R5 K5 P5 e2 e3 S5 b5 J5 n5 S6 K6 P6 IB O5 O6 O56 t1 t2 r1 r2 J5' J6 hXb HXb HC2
              go_wp2_with fail
              refine CS.mono ?_
              rintro e w7 ⟨rfl, hw7⟩
              subst w7
              clear CS
              have HI : Hid _ := I6
              have hm0 := held_mono hxy (L5)
              have hm1 : ¬ (heldN y (L5) : Int) < (heldN x (L5) : Int) := by omega
              have T1 := ptotal_any (I6).r (by omega)
              have T2 : Hid (∀ W, Below (w6).heap.size (w6) W → Calls Try.prog 15 #[.pointer (some ⟨b2, 0, none⟩)] W fun e w' => e = .returned (.int .i64 ((L5).length : Int)) ∧ Below W.heap.size W w') := fun W hW => ptotal_any (HI.out.s.old hW) (by omega)
              have T3 : Hid (∀ W, Below (w6).heap.size (w6) W → Calls Try.prog 16 #[.pointer (some ⟨b, 0, none⟩)] W fun e w' => e = .returned (.int .i64 (heldN x (L5) : Int)) ∧ Below W.heap.size W w') := fun W hW => pheld_any (HI.out.r.old hW) (by omega)
              have T4 : Hid (∀ W, Below (w6).heap.size (w6) W → Calls Try.prog 16 #[.pointer (some ⟨b2, 0, none⟩)] W fun e w' => e = .returned (.int .i64 (heldN y (L5) : Int)) ∧ Below W.heap.size W w') := fun W hW => pheld_any (HI.out.s.old hW) (by omega)
              clear hm0
              generalize heldN x (L5) = h1 at *
              generalize heldN y (L5) = h2 at *
              go_wp2_with fail
              refine T1.mono ?_
              rintro e w21 ⟨rfl, B21⟩
              clear T1
              go_wp2_with fail
              refine (T2.out w21 B21).mono ?_
              rintro e w22 ⟨rfl, B22'⟩
              have B22 := B21.trans (B22'.mono B21.size)
              clear B21 B22'
              go_wp2_with fail
              refine (T3.out w22 B22).mono ?_
              rintro e w23 ⟨rfl, B23'⟩
              have B23 := B22.trans (B23'.mono B22.size)
              clear B22 B23'
              go_wp2_with fail
              refine (T4.out w23 B23).mono ?_
              rintro e w24 ⟨rfl, B24'⟩
              have B24 := B23.trans (B24'.mono B23.size)
              have I24 := HI.out.old B24
              clear B23 B24' T2 T3 T4
              go_wp2_with fail
              go_roundw
              case rel => exact ⟨i + 1, _, _, L5, by omega, by go_num, I24, HLn⟩
              case measure => simp [intOf]; omega
          · have HC1 := pat_any D IB.r (by omega)
            have HC2 : Hid (∀ W, Below wB.heap.size wB W → Calls Try.prog 17 #[.pointer (some ⟨b2, 0, none⟩), .int .i64 D] W fun e w' => e = .returned (.tuple #[.int .u8 (atV y L D), .int .i64 (atE y L D)]) ∧ Below W.heap.size W w') := fun W hW => pat_any D (IB.s.old hW) (by omega)
            have HEq : Hid (atE x L D = 0 → atE y L D = 0 ∧ atV y L D = atV x L D) := fun h => at_eq hxy h
            have HLn : Hid (L.length ≤ totC O (i + 1) + 258 * (i + 1)) := by show _ ≤ _; have := HL.out; rw [HT.out]; omega
            by_cases hE : atE x L D = 0
            · obtain ⟨q1, q2⟩ := HEq.out hE
              rw [q1, q2] at HC2
              rw [hE] at HC1
              clear q1 q2 HEq hE
              generalize atV x L D = av at *
              go_wp2_with fail
              rw [← HWB.out, ← HOB.out]
              refine HC1.mono ?_
              rintro e w5 ⟨rfl, B5⟩
              have e2 : w5.cell? ⟨ob, 2, none⟩ = some (.int .i64 D) := (B5.cell (p := ⟨ob, 2, none⟩) hoB).trans d2
              clear d0 d1 d2 d3 HC1
              go_wp2_with fail
              refine (HC2.out w5 B5).mono ?_
              rintro e w6 ⟨rfl, B6'⟩
              have I6 := IB.old (B5.trans (B6'.mono B5.size))
              clear B5 B6' IB e2 HC2
              have HI : Hid _ := I6
              have hm0 := held_mono hxy (L)
              have hm1 : ¬ (heldN y (L) : Int) < (heldN x (L) : Int) := by omega
              have T1 := ptotal_any (I6).r (by omega)
              have T2 : Hid (∀ W, Below (w6).heap.size (w6) W → Calls Try.prog 15 #[.pointer (some ⟨b2, 0, none⟩)] W fun e w' => e = .returned (.int .i64 ((L).length : Int)) ∧ Below W.heap.size W w') := fun W hW => ptotal_any (HI.out.s.old hW) (by omega)
              have T3 : Hid (∀ W, Below (w6).heap.size (w6) W → Calls Try.prog 16 #[.pointer (some ⟨b, 0, none⟩)] W fun e w' => e = .returned (.int .i64 (heldN x (L) : Int)) ∧ Below W.heap.size W w') := fun W hW => pheld_any (HI.out.r.old hW) (by omega)
              have T4 : Hid (∀ W, Below (w6).heap.size (w6) W → Calls Try.prog 16 #[.pointer (some ⟨b2, 0, none⟩)] W fun e w' => e = .returned (.int .i64 (heldN y (L) : Int)) ∧ Below W.heap.size W w') := fun W hW => pheld_any (HI.out.s.old hW) (by omega)
              clear hm0
              generalize heldN x (L) = h1 at *
              generalize heldN y (L) = h2 at *
              go_wp2_with fail
              refine T1.mono ?_
              rintro e w21 ⟨rfl, B21⟩
              clear T1
              go_wp2_with fail
              refine (T2.out w21 B21).mono ?_
              rintro e w22 ⟨rfl, B22'⟩
              have B22 := B21.trans (B22'.mono B21.size)
              clear B21 B22'
              go_wp2_with fail
              refine (T3.out w22 B22).mono ?_
              rintro e w23 ⟨rfl, B23'⟩
              have B23 := B22.trans (B23'.mono B22.size)
              clear B22 B23'
              go_wp2_with fail
              refine (T4.out w23 B23).mono ?_
              rintro e w24 ⟨rfl, B24'⟩
              have B24 := B23.trans (B24'.mono B23.size)
              have I24 := HI.out.old B24
              clear B23 B24' T2 T3 T4
              go_wp2_with fail
              go_roundw
              case rel => exact ⟨i + 1, _, _, L, by omega, by go_num, I24, HLn⟩
              case measure => simp [intOf]; omega
            · have hEi : (atE x L D == 0) = false := by simp [hE]
              clear HEq
              generalize atV x L D = av at *
              generalize atE x L D = ae at *
              generalize atV y L D = av2 at *
              generalize atE y L D = ae2 at *
              go_wp2_with fail
              rw [← HWB.out, ← HOB.out]
              refine HC1.mono ?_
              rintro e w5 ⟨rfl, B5⟩
              have e2 : w5.cell? ⟨ob, 2, none⟩ = some (.int .i64 D) := (B5.cell (p := ⟨ob, 2, none⟩) hoB).trans d2
              clear d0 d1 d2 d3 HC1
              go_wp2_with fail
              refine (HC2.out w5 B5).mono ?_
              rintro e w6 ⟨rfl, B6'⟩
              have I6 := IB.old (B5.trans (B6'.mono B5.size))
              clear B5 B6' IB e2 HC2
              have HI : Hid _ := I6
              have hm0 := held_mono hxy (L)
              have hm1 : ¬ (heldN y (L) : Int) < (heldN x (L) : Int) := by omega
              have T1 := ptotal_any (I6).r (by omega)
              have T2 : Hid (∀ W, Below (w6).heap.size (w6) W → Calls Try.prog 15 #[.pointer (some ⟨b2, 0, none⟩)] W fun e w' => e = .returned (.int .i64 ((L).length : Int)) ∧ Below W.heap.size W w') := fun W hW => ptotal_any (HI.out.s.old hW) (by omega)
              have T3 : Hid (∀ W, Below (w6).heap.size (w6) W → Calls Try.prog 16 #[.pointer (some ⟨b, 0, none⟩)] W fun e w' => e = .returned (.int .i64 (heldN x (L) : Int)) ∧ Below W.heap.size W w') := fun W hW => pheld_any (HI.out.r.old hW) (by omega)
              have T4 : Hid (∀ W, Below (w6).heap.size (w6) W → Calls Try.prog 16 #[.pointer (some ⟨b2, 0, none⟩)] W fun e w' => e = .returned (.int .i64 (heldN y (L) : Int)) ∧ Below W.heap.size W w') := fun W hW => pheld_any (HI.out.s.old hW) (by omega)
              clear hm0
              generalize heldN x (L) = h1 at *
              generalize heldN y (L) = h2 at *
              go_wp2_with fail
              refine T1.mono ?_
              rintro e w21 ⟨rfl, B21⟩
              clear T1
              go_wp2_with fail
              refine (T2.out w21 B21).mono ?_
              rintro e w22 ⟨rfl, B22'⟩
              have B22 := B21.trans (B22'.mono B21.size)
              clear B21 B22'
              go_wp2_with fail
              refine (T3.out w22 B22).mono ?_
              rintro e w23 ⟨rfl, B23'⟩
              have B23 := B22.trans (B23'.mono B22.size)
              clear B22 B23'
              go_wp2_with fail
              refine (T4.out w23 B23).mono ?_
              rintro e w24 ⟨rfl, B24'⟩
              have B24 := B23.trans (B24'.mono B23.size)
              have I24 := HI.out.old B24
              clear B23 B24' T2 T3 T4
              go_wp2_with fail
              go_roundw
              case rel => exact ⟨i + 1, _, _, L, by omega, by go_num, I24, HLn⟩
              case measure => simp [intOf]; omega
      · have hie : i = n := by omega
        subst hie
        have HB : Hid _ := I.bel
        clear I h
        go_wp2_with fail
        go_ret
        exact ⟨rfl, HB.out⟩
theorem ringLarger_walk (w : World) (u : Int) (u0 : 0 ≤ u) (u1 : u ≤ 18446744073709551615) (v : Int) (v0 : 0 ≤ v) (v1 : v ≤ 18446744073709551615) (ca : Option Addr) (n cc : Nat) (O : Nat → CallD) (h : SegC w ca n O) (hb : totC O n + 258 * n ≤ 70368744177000) :
    Calls Try.prog 6 #[.int .u64 u, .int .u64 v, .slice ca n cc] w fun e w' => e = .returned (.bool true) ∧ Below w.heap.size w w' := by
  obtain ⟨x, x1, x2, CX⟩ := size6_any u u0 u1
  obtain ⟨y, y1, y2, CY⟩ := size6_any v v0 v1
  by_cases hxy : x ≤ y
  · exact larger_walk w u v x y x1 hxy y2 ca n cc O h hb ⟨x, CX, y, CY, .inl ⟨hxy, rfl, rfl⟩⟩
  · exact larger_walk w u v y x y1 (by omega) x2 ca n cc O h hb ⟨x, CX, y, CY, .inr ⟨by omega, rfl, rfl⟩⟩
end Go.Proofs.Ythebboppbebffaa
