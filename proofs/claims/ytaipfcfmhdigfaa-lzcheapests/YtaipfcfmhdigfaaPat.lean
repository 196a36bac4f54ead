import Derived.Test.YtaipfcfmhdigfaaPas
namespace Go.Proofs.Ytaipfcfmhdigfaa
open Go.RowKit
set_option linter.unusedVariables false

/-! The landed lz: a place is brought down its tree. -/
def SeQ (B fb m g : Nat) (D : List Int) (a : Option Addr) (n cap W s : Nat) (w : World) (v0 : Value) (L0 : List (Nat × Nat)) (e : Ending) (w' : World) : Prop := ∃ (la' : Option Addr) (ln' lc' : Nat) (A' : Nat → Int), e = .returned (.slice la' ln' lc') ∧ FL B fb m g D a n cap W (s + 1) A' w w' v0 la' ln' lc' (L0 ++ rec7 D s W) ∧ Fo7 D W (s + 1) A'
def SeI (B fb m g : Nat) (D : List Int) (a : Option Addr) (n cap W s : Nat) (A0 : Nat → Int) (t0 : Bt7) (L0 : List (Nat × Nat)) (w : World) (v0 : Value) (t2 t8 t9 t10 t11 t12 t13 : Value) (wr : World) : Prop := ∃ (t : Bt7) (A : Nat → Int) (v : Int) (less more n1 n2 most : Nat) (la : Option Addr) (ln lc : Nat) (L : List (Nat × Nat)),
  t2 = .slice la ln lc ∧ t8 = .int .i64 v ∧ t9 = .int .i64 (less : Int) ∧ t10 = .int .i64 (more : Int) ∧ t11 = .int .i64 (n1 : Int) ∧ t12 = .int .i64 (n2 : Int) ∧ t13 = .int .i64 (most : Int) ∧ Sn7 D W s A0 t0 L0 t A v less more n1 n2 most L ∧ FL B fb m g D a n cap W (s + 1) A w wr v0 la ln lc L
set_option maxRecDepth 100000 in
set_option maxHeartbeats 8000000 in
theorem psef7_ok (B fb m g : Nat) (D : List Int) (a : Option Addr) (n cap W s : Nat) (A0 : Nat → Int) (la0 : Option Addr) (ln0 lc0 : Nat) (L0 : List (Nat × Nat)) (hn : Hid (D.length = n)) (w : World) (h : FL B fb m g D a n cap W s A0 w w (.slice la0 ln0 lc0) la0 ln0 lc0 L0) (hFo : Fo7 D W s A0) (hs : s + 2 < n) (hl : n ≤ 1048576) (hW : W ≤ 32768) (hln0 : ln0 ≤ 268435456) :
    Calls Try.prog 52 #[.pointer (some ⟨fb, 0, none⟩), .int .i64 (s : Int), .slice la0 ln0 lc0] w (SeQ B fb m g D a n cap W s w (.slice la0 ln0 lc0) L0) := by
  obtain ⟨i0, hi, hz0, hz1, hz2⟩ := info_parts info_rch
  suffices H : ∀ v0, v0 = Value.slice la0 ln0 lc0 → Calls Try.prog 52 #[.pointer (some ⟨fb, 0, none⟩), .int .i64 (s : Int), .slice la0 ln0 lc0] w (SeQ B fb m g D a n cap W s w v0 L0) from H _ rfl
  intro v0 hv0
  have HV0 : Hid (v0 = Value.slice la0 ln0 lc0) := hv0
  obtain ⟨c0, c1, c2, c3⟩ := h.f.cells
  have hws : IntKind.i64.wrap ((n : Int) - (s : Int)) = ((n - s : Nat) : Int) := by rw [IntWalk.i64_in _ (by omega)]; omega
  obtain ⟨rr, hr⟩ : ∃ rr, rr = n - s := ⟨_, rfl⟩
  rw [← hr] at hws
  have hri : (n : Int) - (s : Int) = (rr : Int) := by omega
  obtain ⟨lim, hlim⟩ : ∃ lim, lim = min 258 rr := ⟨_, rfl⟩
  have hlimI : (if (rr : Int) < 258 then (rr : Int) else 258) = (lim : Int) := by split <;> omega
  have hl3 : ¬ (lim : Int) < 3 := by omega
  have hl2 : 3 ≤ lim ∧ lim ≤ 258 ∧ s + lim ≤ n := by omega
  have HLM : Hid (lim = lim7 D s) := by show _ = _; unfold lim7; rw [hn.out, hlim, hr]
  have HLM2 : Hid (lim = min 258 (n - s)) := by show _ = _; rw [hlim, hr]
  have hr3 : ¬ (rr : Int) < 3 := by omega
  have hsD : s + 2 < D.length := by rw [hn.out]; exact hs
  obtain ⟨t0, ht0⟩ := hFo (D.getD s 0) (D.getD (s + 1) 0) (D.getD (s + 2) 0)
  have HTR : Hid (Tr7 D W s A0 (D.getD s 0) (D.getD (s + 1) 0) (D.getD (s + 2) 0) t0) := ht0
  have HFO : Hid (Fo7 D W s A0) := hFo
  have HST := sn7_start hsD ht0 L0
  have CP := pplant7 B fb m g D a n cap W s A0 hn w h.f hs hl
  have hL0 : Hid (∀ w1, Fst w1 B fb m g D a n cap W (s + 1) A0 → Kp (fun k => k = m) w w1 → FL B fb m g D a n cap W (s + 1) A0 w w1 v0 la0 ln0 lc0 L0) := fun w1 h1 h2 => by
    subst hv0
    exact ⟨own_kp3 h.own h2 (fun k e => (h.sep k e).2.1), h.len, h1, h.sep, Fresh.refl7 _ _, h2.mono (fun k _ e => .inl e)⟩
  generalize lst7 D s (D.getD s 0) (D.getD (s + 1) 0) (D.getD (s + 2) 0) = pv at *
  have HSn : Hid (Sn7 D W s A0 t0 L0 t0 A0 pv (2 * s) (2 * s + 1) 3 3 2 L0) := HST
  have hlen0 : L0.length = ln0 := h.len
  have HLEN : Hid (L0.length = ln0) := hlen0
  have hw2s : IntKind.i64.wrap (2 * (s : Int)) = ((2 * s : Nat) : Int) := by rw [IntWalk.i64_in _ (by omega)]; omega
  obtain ⟨s2, hs2⟩ : ∃ s2, s2 = 2 * s := ⟨_, rfl⟩
  rw [← hs2] at hw2s HSn
  have hs2i : 2 * (s : Int) = (s2 : Int) := by omega
  have hw3s : IntKind.i64.wrap ((s2 : Int) + 1) = ((s2 + 1 : Nat) : Int) := by rw [IntWalk.i64_in _ (by omega)]; omega
  obtain ⟨s3, hs3⟩ : ∃ s3, s3 = s2 + 1 := ⟨_, rfl⟩
  rw [← hs3] at hw3s HSn
  have hs3i : (s2 : Int) + 1 = (s3 : Int) := by omega
  clear hr hlim h ht0 hFo HST hlen0 hs2 hs3 hv0
  go_enter Try.func52, Try.ntmps52
  go_wp2_with fail
  refine CP.mono ?_
  rintro e w1 ⟨rfl, hF1, k1⟩
  have hL1 := hL0.out w1 hF1 k1
  have HL1 : Hid (FL B fb m g D a n cap W (s + 1) A0 w w1 v0 la0 ln0 lc0 L0) := hL1
  clear hL0 hF1 k1 CP hL1 c0 c1 c2 c3
  go_wp2_with fail
  go_loopw [2, 8, 9, 10, 11, 12, 13] (fun t2 t8 t9 t10 t11 t12 t13 wr => SeI B fb m g D a n cap W s A0 t0 L0 w v0 t2 t8 t9 t10 t11 t12 t13 wr) (fun _ t8 _ _ _ _ _ _ => (intOf t8 + 1).toNat)
  case atStart => exact ⟨t0, A0, pv, s2, s3, 3, 3, 2, la0, ln0, lc0, L0, rfl, rfl, rfl, rfl, rfl, rfl, rfl, HSn.out, HL1.out⟩
  case round =>
    clear HL1 HSn
    obtain ⟨t, A, v, less, more, n1, n2, most, la, ln, lc, L, rfl, rfl, rfl, rfl, rfl, rfl, rfl, hSn, hL⟩ := hrel
    have hk1 := hSn.k1
    have hk2 := hSn.k2
    cases t with
    | nil =>
      obtain ⟨hv, hE1, hE2⟩ := sn7_nil hSn
      subst hv
      obtain ⟨c0, c1, c2, c3⟩ := hL.f.cells
      have r1 := hL.f.row.at_ less (by omega)
      have r2 := hL.f.row.at_ more (by omega)
      have rf := hL.f.row.fr
      have hfg := hL.f.fg
      have hln : (less : Int) < ((2 * n : Nat) : Int) := by omega
      have hmn : (more : Int) < ((2 * n : Nat) : Int) := by omega
      have hlm : less ≠ more := hSn.cn.ne
      have HFIN : Hid (∀ wz, wz = (wr.drew.setCell ⟨g, less, none⟩ (.int .i64 (-1))).setCell ⟨g, more, none⟩ (.int .i64 (-1)) → SeQ B fb m g D a n cap W s w v0 L0 (.returned (.slice la ln lc)) wz) := fun wz e => by
        subst e
        exact ⟨la, ln, lc, _, rfl, by rw [← hE1]; exact ((hL.old (w2 := wr.drew) ⟨rfl, rfl, rfl, Nat.le_refl _, fun _ _ => rfl⟩).set (i := less) (by omega) (-1)).set (i := more) (by omega) (-1), fo7_next HFO.out (by rw [hn.out]; omega) HTR.out hE2⟩
      obtain ⟨N, hN⟩ : ∃ N, N = 2 * n := ⟨_, rfl⟩
      rw [← hN] at c3 hln hmn
      clear hE1 hE2 hL hSn hN
      go_wp2_with fail
      have hkS : ∀ (W1 : World) (i : Nat) (x : Value), W1.cell? ⟨fb, 3, none⟩ = some (.slice (some ⟨g, 0, none⟩) N N) → (W1.setCell ⟨g, i, none⟩ x).cell? ⟨fb, 3, none⟩ = some (.slice (some ⟨g, 0, none⟩) N N) := fun W1 i x h => (World.cell?_setCell_other _ _ _ _ (by intro e; cases e; exact hfg rfl)).trans h
      have hk1 := hkS wr less (.int .i64 (-1)) c3
      have hk2 := hkS _ more (.int .i64 (-1)) hk1
      have hk3 := hkS wr more (.int .i64 (-1)) c3
      clear hkS
      go_region_held3 (fun w' => w'.cell? ⟨fb, 3, none⟩ = some (.slice (some ⟨g, 0, none⟩) N N)) (first | go_keep | exact hk1 | exact hk2 | exact hk3) (fail)
      all_goals go_wp2
      all_goals go_ret
      all_goals exact HFIN.out _ rfl
    | node p l r =>
      obtain ⟨hv, hps, hkn, hal, g1, g2, g3, g4, g5⟩ := sn7_facts hSn (by omega)
      subst hv
      have hp1 : ¬ (p : Int) = -1 := by omega
      have hp2 : ((p : Int) != -1) = true := by simp [hp1]
      obtain ⟨dd, hdd⟩ : ∃ dd, dd = s - p := ⟨_, rfl⟩
      have hwd : IntKind.i64.wrap ((s : Int) - (p : Int)) = (dd : Int) := by rw [IntWalk.i64_in _ (by omega)]; omega
      have hddi : (s : Int) - (p : Int) = (dd : Int) := by omega
      by_cases hwi : W < dd
      · have hwii : ¬ (dd : Int) ≤ (W : Int) := by omega
        have hwij : ¬ s ≤ W + p := by omega
        obtain ⟨hE1, hE2⟩ := sn7_far hSn (by omega)
        clear hdd hkn hal g1 g2 g3 g4 g5
        obtain ⟨c0, c1, c2, c3⟩ := hL.f.cells
        have r1 := hL.f.row.at_ less (by omega)
        have r2 := hL.f.row.at_ more (by omega)
        have rf := hL.f.row.fr
        have hfg := hL.f.fg
        have hln : (less : Int) < ((2 * n : Nat) : Int) := by omega
        have hmn : (more : Int) < ((2 * n : Nat) : Int) := by omega
        have hlm : less ≠ more := hSn.cn.ne
        have HFIN : Hid (∀ wz, wz = (wr.drew.setCell ⟨g, less, none⟩ (.int .i64 (-1))).setCell ⟨g, more, none⟩ (.int .i64 (-1)) → SeQ B fb m g D a n cap W s w v0 L0 (.returned (.slice la ln lc)) wz) := fun wz e => by
          subst e
          exact ⟨la, ln, lc, _, rfl, by rw [← hE1]; exact ((hL.old (w2 := wr.drew) ⟨rfl, rfl, rfl, Nat.le_refl _, fun _ _ => rfl⟩).set (i := less) (by omega) (-1)).set (i := more) (by omega) (-1), fo7_next HFO.out (by rw [hn.out]; omega) HTR.out hE2⟩
        obtain ⟨N, hN⟩ : ∃ N, N = 2 * n := ⟨_, rfl⟩
        rw [← hN] at c3 hln hmn
        clear hE1 hE2 hL hSn hN
        go_wp2_with fail
        have hkS : ∀ (W1 : World) (i : Nat) (x : Value), W1.cell? ⟨fb, 3, none⟩ = some (.slice (some ⟨g, 0, none⟩) N N) → (W1.setCell ⟨g, i, none⟩ x).cell? ⟨fb, 3, none⟩ = some (.slice (some ⟨g, 0, none⟩) N N) := fun W1 i x h => (World.cell?_setCell_other _ _ _ _ (by intro e; cases e; exact hfg rfl)).trans h
        have hk1 := hkS wr less (.int .i64 (-1)) c3
        have hk2 := hkS _ more (.int .i64 (-1)) hk1
        have hk3 := hkS wr more (.int .i64 (-1)) c3
        clear hkS
        go_region_held3 (fun w' => w'.cell? ⟨fb, 3, none⟩ = some (.slice (some ⟨g, 0, none⟩) N N)) (first | go_keep | exact hk1 | exact hk2 | exact hk3) (fail)
        all_goals go_wp2
        all_goals go_ret
        all_goals exact HFIN.out _ rfl
      · have hwii : (dd : Int) ≤ (W : Int) := by omega
        have hwij : s ≤ W + p := by omega
        have hlw := sn7_len hSn
        have hm258 := hSn.m2
        have HRI : Hid (¬ al7 D p s = lim7 D s → sf7 D p (al7 D p s) < sf7 D s (al7 D p s) → Sn7 D W s A0 t0 L0 r (updI A less (p : Int)) (A (2 * p + 1)) (2 * p + 1) more (al7 D p s) n2 (max most (al7 D p s)) (new7 D s p most L) ∧ updI A less (p : Int) (2 * p + 1) = A (2 * p + 1) ∧ -1 ≤ A (2 * p + 1) ∧ A (2 * p + 1) < (p : Int)) := fun h1 h2 => sn7_right hSn (by omega) (by omega) h1 h2
        have HLE : Hid (¬ al7 D p s = lim7 D s → ¬ sf7 D p (al7 D p s) < sf7 D s (al7 D p s) → Sn7 D W s A0 t0 L0 l (updI A more (p : Int)) (A (2 * p)) less (2 * p) n1 (al7 D p s) (max most (al7 D p s)) (new7 D s p most L) ∧ updI A more (p : Int) (2 * p) = A (2 * p) ∧ -1 ≤ A (2 * p) ∧ A (2 * p) < (p : Int)) := fun h1 h2 => sn7_left hSn (by omega) (by omega) h1 h2
        have HSN : Hid (Sn7 D W s A0 t0 L0 (.node p l r) A (p : Int) less more n1 n2 most L) := hSn
        obtain ⟨k0, hk0⟩ : ∃ k0, k0 = min n1 n2 := ⟨_, rfl⟩
        have hmin : (if (n2 : Int) < (n1 : Int) then (n2 : Int) else (n1 : Int)) = (k0 : Int) := by split <;> omega
        have hmin2 : (if n2 < n1 then (n2 : Int) else (n1 : Int)) = (k0 : Int) := by split <;> omega
        rw [← hk0] at hkn
        obtain ⟨c0, c1, c2, c3⟩ := hL.f.cells
        have CA := psame7 D a n cap p s k0 lim hn wr hL.f.seg hps (by omega) hkn HLM2.out (by omega)
        have HL : Hid (FL B fb m g D a n cap W (s + 1) A w wr v0 la ln lc L) := hL
        have hBr : B ≤ wr.heap.size := Nat.le_trans hL.f.bf (Nat.le_of_lt hL.f.lt)
        have hlnb : ln ≤ 268435712 := by have := hL.len; have := HLEN.out; omega
        obtain ⟨x2, hx2⟩ : ∃ x2, x2 = 2 * p := ⟨_, rfl⟩
        obtain ⟨x3, hx3⟩ : ∃ x3, x3 = x2 + 1 := ⟨_, rfl⟩
        have hw2 : IntKind.i64.wrap (2 * (p : Int)) = (x2 : Int) := by rw [IntWalk.i64_in _ (by omega)]; omega
        have hw3 : IntKind.i64.wrap ((x2 : Int) + 1) = (x3 : Int) := by rw [IntWalk.i64_in _ (by omega)]; omega
        have hi2 : 2 * (p : Int) = (x2 : Int) := by omega
        have hi3 : (x2 : Int) + 1 = (x3 : Int) := by omega
        have hfg := hL.f.fg
        have q1 : less ≠ x2 := by omega
        have q2 : less ≠ x3 := by omega
        have q3 : more ≠ x2 := by omega
        have q4 : more ≠ x3 := by omega
        have hale := al7_le D p s
        clear hk0 hSn hL hkn
        obtain ⟨al, hala⟩ : ∃ al, al = al7 D p s := ⟨_, rfl⟩
        have HALA : Hid (al = al7 D p s) := hala
        rw [← hala] at CA HRI HLE hal hale
        have hu1 : IntKind.u16.wrap (al : Int) = (al : Int) := by rw [IntKind.wrap_u16]; omega
        have hu2 : IntKind.u16.wrap (dd : Int) = (dd : Int) := by rw [IntKind.wrap_u16]; omega
        clear hala
        go_wp2_with fail
        refine CA.mono ?_
        rintro e w2 ⟨rfl, b2⟩
        have hL2 := (show FL B fb m g D a n cap W (s + 1) A w wr v0 la ln lc L from HL.out).old b2
        have O2 := hL2.own
        have hs2 : B ≤ w2.heap.size := Nat.le_trans hBr b2.size
        have HL2 : Hid (FL B fb m g D a n cap W (s + 1) A w w2 v0 la ln lc L) := hL2
        clear hL2 CA HL c0 c1 c2 c3
        by_cases hap : most < al
        · have hapi : (most : Int) < (al : Int) := by omega
          have HNEW : Hid (new7 D s p most L = L ++ [(al, dd)]) := by show _ = _; unfold new7; rw [← HALA.out, if_pos hap, hdd]
          obtain ⟨mo, hmo⟩ : ∃ mo, mo = al := ⟨_, rfl⟩
          have HMO : Hid (max most al = al) := Nat.max_eq_right (by omega)
          rw [HMO.out] at HRI HLE
          clear hdd
          by_cases hfu : al = lim7 D s
          · skip
            have hel : al = lim := by have := HLM.out; omega
            subst hel
            have HFU : Hid (al = lim7 D s) := hfu
            clear hfu
            go_wp2_with (first | (at_builtin; refine wpList_appRF rfl (.tmp 61) (.tmp 69) 83 rfl B 88 i0 _ 4 Try.underlying83 hi hz0 hz1 hz2 rfl w2 al dd O2 rfl rfl (by omega) (by omega) hs2 ?_; intro gg gc w3 own3 hk3 hat3))
            have hL3 : FL B fb m g D a n cap W (s + 1) A w w3 v0 (some ⟨gg, 0, none⟩) (ln + 1) gc (new7 D s p most L) := by rw [HNEW.out]; exact HL2.out.push own3 hk3 hat3
            clear own3 hk3 hat3
            obtain ⟨c0, c1, c2, c3⟩ := hL3.f.cells
            have rows := hL3.f.row
            have segs := hL3.f.seg
            have r1 := rows.at_ less (by omega)
            have r2 := rows.at_ more (by omega)
            have rf := rows.fr
            have HL3 : Hid (FL B fb m g D a n cap W (s + 1) A w w3 v0 (some ⟨gg, 0, none⟩) (ln + 1) gc (new7 D s p most L)) := hL3
            obtain ⟨N, hN⟩ : ∃ N, N = 2 * n := ⟨_, rfl⟩
            rw [← hN] at c3
            have hlN : (less : Int) < (N : Int) := by omega
            have hw2b : IntKind.i64.wrap (x2 : Int) = (x2 : Int) := IntWalk.i64_in _ (by omega)
            have hw3b : IntKind.i64.wrap (x3 : Int) = (x3 : Int) := IntWalk.i64_in _ (by omega)
            have h20 : (0 : Int) ≤ (x2 : Int) := by omega
            have h30 : (0 : Int) ≤ (x3 : Int) := by omega
            have hl0 : (0 : Int) ≤ (less : Int) := by omega
            have hm0 : (0 : Int) ≤ (more : Int) := by omega
            have hmN : (more : Int) < (N : Int) := by omega
            have h2N : (x2 : Int) < (N : Int) := by omega
            have h3N : (x3 : Int) < (N : Int) := by omega
            have HNN : Hid (N = 2 * n) := hN
            clear hN hL3
            have HFIN : Hid (∀ wz, wz = (w3.drew.setCell ⟨g, less, none⟩ (.int .i64 (A (2 * p)))).setCell ⟨g, more, none⟩ (.int .i64 (A (2 * p + 1))) → SeQ B fb m g D a n cap W s w v0 L0 (.returned (.slice (some ⟨gg, 0, none⟩) (ln + 1) gc)) wz) := fun wz e => by
              subst e
              have hE := sn7_full HSN.out (by omega) (by rw [← HALA.out]; exact HFU.out)
              exact ⟨(some ⟨gg, 0, none⟩), (ln + 1), gc, _, rfl, by rw [← hE.1]; exact ((HL3.out.old (w2 := w3.drew) ⟨rfl, rfl, rfl, Nat.le_refl _, fun _ _ => rfl⟩).set (i := less) (by omega) (A (2 * p))).set (i := more) (by omega) (A (2 * p + 1)), fo7_next HFO.out (by rw [hn.out]; omega) HTR.out hE.2⟩
            have r5 := rows.at_ (2 * p) (by omega)
            have r6 := rows.at_ (2 * p + 1) (by omega)
            rw [← hx2] at r5 r6 HFIN
            rw [← hx3] at r6 HFIN
            generalize A x2 = av2 at *
            generalize A x3 = av3 at *
            clear rows hx2 hx3
            have hkS : ∀ (W1 : World) (i : Nat) (x : Value), i ≠ x2 → i ≠ x3 → (W1.cell? ⟨fb, 3, none⟩ = some (.slice (some ⟨g, 0, none⟩) N N) ∧ W1.cell? ⟨g, x2, none⟩ = some (.int .i64 av2) ∧ W1.cell? ⟨g, x3, none⟩ = some (.int .i64 av3)) → ((W1.setCell ⟨g, i, none⟩ x).cell? ⟨fb, 3, none⟩ = some (.slice (some ⟨g, 0, none⟩) N N) ∧ (W1.setCell ⟨g, i, none⟩ x).cell? ⟨g, x2, none⟩ = some (.int .i64 av2) ∧ (W1.setCell ⟨g, i, none⟩ x).cell? ⟨g, x3, none⟩ = some (.int .i64 av3)) := fun W1 i x e1 e2 h => ⟨(World.cell?_setCell_other _ _ _ _ (by intro e; cases e; exact hfg rfl)).trans h.1, (sc_other7 e1).trans h.2.1, (sc_other7 e2).trans h.2.2⟩
            have hk1 := hkS w3 less (.int .i64 av2) q1 q2 ⟨c3, r5, r6⟩
            have hk2 := hkS _ more (.int .i64 av3) q3 q4 hk1
            have hk3 := hkS w3 more (.int .i64 av3) q3 q4 ⟨c3, r5, r6⟩
            clear hkS
            go_region_held3 (fun w' => w'.cell? ⟨fb, 3, none⟩ = some (.slice (some ⟨g, 0, none⟩) N N) ∧ w'.cell? ⟨g, x2, none⟩ = some (.int .i64 av2) ∧ w'.cell? ⟨g, x3, none⟩ = some (.int .i64 av3)) (first | go_keep | exact hk1 | exact hk2 | exact hk3) (fail)
            all_goals go_wp2
            all_goals go_ret
            all_goals exact HFIN.out _ rfl
          · skip
            have hnl : ¬ (al : Int) = (lim : Int) := by have := HLM.out; omega
            go_wp2_with (first | (at_builtin; refine wpList_appRF rfl (.tmp 61) (.tmp 69) 83 rfl B 88 i0 _ 4 Try.underlying83 hi hz0 hz1 hz2 rfl w2 al dd O2 rfl rfl (by omega) (by omega) hs2 ?_; intro gg gc w3 own3 hk3 hat3))
            have hL3 : FL B fb m g D a n cap W (s + 1) A w w3 v0 (some ⟨gg, 0, none⟩) (ln + 1) gc (new7 D s p most L) := by rw [HNEW.out]; exact HL2.out.push own3 hk3 hat3
            clear own3 hk3 hat3
            obtain ⟨c0, c1, c2, c3⟩ := hL3.f.cells
            have rows := hL3.f.row
            have segs := hL3.f.seg
            have r1 := rows.at_ less (by omega)
            have r2 := rows.at_ more (by omega)
            have rf := rows.fr
            have HL3 : Hid (FL B fb m g D a n cap W (s + 1) A w w3 v0 (some ⟨gg, 0, none⟩) (ln + 1) gc (new7 D s p most L)) := hL3
            obtain ⟨N, hN⟩ : ∃ N, N = 2 * n := ⟨_, rfl⟩
            rw [← hN] at c3
            have hlN : (less : Int) < (N : Int) := by omega
            have hw2b : IntKind.i64.wrap (x2 : Int) = (x2 : Int) := IntWalk.i64_in _ (by omega)
            have hw3b : IntKind.i64.wrap (x3 : Int) = (x3 : Int) := IntWalk.i64_in _ (by omega)
            have h20 : (0 : Int) ≤ (x2 : Int) := by omega
            have h30 : (0 : Int) ≤ (x3 : Int) := by omega
            have hl0 : (0 : Int) ≤ (less : Int) := by omega
            have hm0 : (0 : Int) ≤ (more : Int) := by omega
            have hmN : (more : Int) < (N : Int) := by omega
            have h2N : (x2 : Int) < (N : Int) := by omega
            have h3N : (x3 : Int) < (N : Int) := by omega
            have HNN : Hid (N = 2 * n) := hN
            clear hN hL3
            have hy1 : sf7 D p al = D.getD (p + al) 0 := rfl
            have hy2 : sf7 D s al = D.getD (s + al) 0 := rfl
            have hall : al < lim7 D s := by omega
            have hlml : lim7 D s ≤ n - s := by have := HLM.out; unfold lim7; rw [hn.out]; omega
            obtain ⟨x5, hx5⟩ : ∃ x5, x5 = p + al := ⟨_, rfl⟩
            obtain ⟨x6, hx6⟩ : ∃ x6, x6 = s + al := ⟨_, rfl⟩
            have hw5 : IntKind.i64.wrap ((p : Int) + (al : Int)) = (x5 : Int) := by rw [IntWalk.i64_in _ (by omega)]; omega
            have hw6 : IntKind.i64.wrap ((s : Int) + (al : Int)) = (x6 : Int) := by rw [IntWalk.i64_in _ (by omega)]; omega
            have hi5 : (p : Int) + (al : Int) = (x5 : Int) := by omega
            have hi6 : (s : Int) + (al : Int) = (x6 : Int) := by omega
            have h5n : (x5 : Int) < (n : Int) := by omega
            have h6n : (x6 : Int) < (n : Int) := by omega
            obtain ⟨ga, oa, rfl, c5⟩ := segs.at_ x5 (by rw [hn.out]; omega)
            obtain ⟨g', oa', hgg, c6⟩ := segs.at_ x6 (by rw [hn.out]; omega)
            cases hgg
            have b5 := segs.bd x5
            have b6 := segs.bd x6
            rw [← hx5] at hy1
            rw [← hx6] at hy2
            rw [hy1, hy2] at HRI HLE
            clear hy1 hy2 hx5 hx6 segs
            generalize D.getD x5 0 = u5 at *
            generalize D.getD x6 0 = u6 at *
            by_cases hside : u5 < u6
            · obtain ⟨hS2, hA2, hv1, hv2⟩ := HRI.out hfu hside
              have HS2 : Hid _ := hS2
              have r6 := rows.at_ (2 * p + 1) (by omega)
              rw [← hx2, ← hx3] at r6 hA2 hv1 hv2 HS2
              have HL4 : Hid (∀ k, FL B fb m g D (some ⟨ga, oa, none⟩) n cap W (s + 1) (updI A less (p : Int)) w ((w3.drewN k).setCell ⟨g, less, none⟩ (.int .i64 (p : Int))) v0 (some ⟨gg, 0, none⟩) (ln + 1) gc (new7 D s p most L)) := fun k => (HL3.out.drewN k).set (by omega) _
              generalize A x3 = av3 at *
              have r6n : ∀ k, ((w3.drewN k).setCell ⟨g, less, none⟩ (.int .i64 (p : Int))).cell? ⟨g, x3, none⟩ = some (.int .i64 av3) := fun k => by rw [sc_other7 (by omega)]; exact r6
              clear rows hx2 hx3 HRI HLE hS2 hA2
              go_quiet (fail)
              go_wp2
              go_roundw
              case rel => exact ⟨_, _, av3, x3, more, al, n2, al, (some ⟨gg, 0, none⟩), (ln + 1), gc, new7 D s p most L, rfl, rfl, rfl, rfl, rfl, rfl, rfl, HS2.out, HL4.out _⟩
              case measure => simp [intOf]; omega
            · obtain ⟨hS2, hA2, hv1, hv2⟩ := HLE.out hfu (by omega)
              have HS2 : Hid _ := hS2
              have r6 := rows.at_ (2 * p) (by omega)
              rw [← hx2] at r6 hA2 hv1 hv2 HS2
              have HL4 : Hid (∀ k, FL B fb m g D (some ⟨ga, oa, none⟩) n cap W (s + 1) (updI A more (p : Int)) w ((w3.drewN k).setCell ⟨g, more, none⟩ (.int .i64 (p : Int))) v0 (some ⟨gg, 0, none⟩) (ln + 1) gc (new7 D s p most L)) := fun k => (HL3.out.drewN k).set (by omega) _
              generalize A x2 = av3 at *
              have r6n : ∀ k, ((w3.drewN k).setCell ⟨g, more, none⟩ (.int .i64 (p : Int))).cell? ⟨g, x2, none⟩ = some (.int .i64 av3) := fun k => by rw [sc_other7 (by omega)]; exact r6
              clear rows hx2 hx3 HRI HLE hS2 hA2
              go_quiet (fail)
              go_wp2
              go_roundw
              case rel => exact ⟨_, _, av3, less, x2, n1, al, al, (some ⟨gg, 0, none⟩), (ln + 1), gc, new7 D s p most L, rfl, rfl, rfl, rfl, rfl, rfl, rfl, HS2.out, HL4.out _⟩
              case measure => simp [intOf]; omega
        · have hapi : ¬ (most : Int) < (al : Int) := by omega
          have HNEW : Hid (new7 D s p most L = L) := by show _ = _; unfold new7; rw [← HALA.out, if_neg hap]
          have HMO : Hid (max most al = most) := Nat.max_eq_left (by omega)
          rw [HMO.out] at HRI HLE
          clear hdd
          by_cases hfu : al = lim7 D s
          · skip
            have hel : al = lim := by have := HLM.out; omega
            subst hel
            have HFU : Hid (al = lim7 D s) := hfu
            clear hfu
            go_wp2_with fail
            have hL3 : FL B fb m g D a n cap W (s + 1) A w w2 v0 la ln lc (new7 D s p most L) := by rw [HNEW.out]; exact HL2.out
            obtain ⟨c0, c1, c2, c3⟩ := hL3.f.cells
            have rows := hL3.f.row
            have segs := hL3.f.seg
            have r1 := rows.at_ less (by omega)
            have r2 := rows.at_ more (by omega)
            have rf := rows.fr
            have HL3 : Hid (FL B fb m g D a n cap W (s + 1) A w w2 v0 la ln lc (new7 D s p most L)) := hL3
            obtain ⟨N, hN⟩ : ∃ N, N = 2 * n := ⟨_, rfl⟩
            rw [← hN] at c3
            have hlN : (less : Int) < (N : Int) := by omega
            have hw2b : IntKind.i64.wrap (x2 : Int) = (x2 : Int) := IntWalk.i64_in _ (by omega)
            have hw3b : IntKind.i64.wrap (x3 : Int) = (x3 : Int) := IntWalk.i64_in _ (by omega)
            have h20 : (0 : Int) ≤ (x2 : Int) := by omega
            have h30 : (0 : Int) ≤ (x3 : Int) := by omega
            have hl0 : (0 : Int) ≤ (less : Int) := by omega
            have hm0 : (0 : Int) ≤ (more : Int) := by omega
            have hmN : (more : Int) < (N : Int) := by omega
            have h2N : (x2 : Int) < (N : Int) := by omega
            have h3N : (x3 : Int) < (N : Int) := by omega
            have HNN : Hid (N = 2 * n) := hN
            clear hN hL3
            have HFIN : Hid (∀ wz, wz = (w2.drew.setCell ⟨g, less, none⟩ (.int .i64 (A (2 * p)))).setCell ⟨g, more, none⟩ (.int .i64 (A (2 * p + 1))) → SeQ B fb m g D a n cap W s w v0 L0 (.returned (.slice la ln lc)) wz) := fun wz e => by
              subst e
              have hE := sn7_full HSN.out (by omega) (by rw [← HALA.out]; exact HFU.out)
              exact ⟨la, ln, lc, _, rfl, by rw [← hE.1]; exact ((HL3.out.old (w2 := w2.drew) ⟨rfl, rfl, rfl, Nat.le_refl _, fun _ _ => rfl⟩).set (i := less) (by omega) (A (2 * p))).set (i := more) (by omega) (A (2 * p + 1)), fo7_next HFO.out (by rw [hn.out]; omega) HTR.out hE.2⟩
            have r5 := rows.at_ (2 * p) (by omega)
            have r6 := rows.at_ (2 * p + 1) (by omega)
            rw [← hx2] at r5 r6 HFIN
            rw [← hx3] at r6 HFIN
            generalize A x2 = av2 at *
            generalize A x3 = av3 at *
            clear rows hx2 hx3
            have hkS : ∀ (W1 : World) (i : Nat) (x : Value), i ≠ x2 → i ≠ x3 → (W1.cell? ⟨fb, 3, none⟩ = some (.slice (some ⟨g, 0, none⟩) N N) ∧ W1.cell? ⟨g, x2, none⟩ = some (.int .i64 av2) ∧ W1.cell? ⟨g, x3, none⟩ = some (.int .i64 av3)) → ((W1.setCell ⟨g, i, none⟩ x).cell? ⟨fb, 3, none⟩ = some (.slice (some ⟨g, 0, none⟩) N N) ∧ (W1.setCell ⟨g, i, none⟩ x).cell? ⟨g, x2, none⟩ = some (.int .i64 av2) ∧ (W1.setCell ⟨g, i, none⟩ x).cell? ⟨g, x3, none⟩ = some (.int .i64 av3)) := fun W1 i x e1 e2 h => ⟨(World.cell?_setCell_other _ _ _ _ (by intro e; cases e; exact hfg rfl)).trans h.1, (sc_other7 e1).trans h.2.1, (sc_other7 e2).trans h.2.2⟩
            have hk1 := hkS w2 less (.int .i64 av2) q1 q2 ⟨c3, r5, r6⟩
            have hk2 := hkS _ more (.int .i64 av3) q3 q4 hk1
            have hk3 := hkS w2 more (.int .i64 av3) q3 q4 ⟨c3, r5, r6⟩
            clear hkS
            go_region_held3 (fun w' => w'.cell? ⟨fb, 3, none⟩ = some (.slice (some ⟨g, 0, none⟩) N N) ∧ w'.cell? ⟨g, x2, none⟩ = some (.int .i64 av2) ∧ w'.cell? ⟨g, x3, none⟩ = some (.int .i64 av3)) (first | go_keep | exact hk1 | exact hk2 | exact hk3) (fail)
            all_goals go_wp2
            all_goals go_ret
            all_goals exact HFIN.out _ rfl
          · skip
            have hnl : ¬ (al : Int) = (lim : Int) := by have := HLM.out; omega
            go_wp2_with fail
            have hL3 : FL B fb m g D a n cap W (s + 1) A w w2 v0 la ln lc (new7 D s p most L) := by rw [HNEW.out]; exact HL2.out
            obtain ⟨c0, c1, c2, c3⟩ := hL3.f.cells
            have rows := hL3.f.row
            have segs := hL3.f.seg
            have r1 := rows.at_ less (by omega)
            have r2 := rows.at_ more (by omega)
            have rf := rows.fr
            have HL3 : Hid (FL B fb m g D a n cap W (s + 1) A w w2 v0 la ln lc (new7 D s p most L)) := hL3
            obtain ⟨N, hN⟩ : ∃ N, N = 2 * n := ⟨_, rfl⟩
            rw [← hN] at c3
            have hlN : (less : Int) < (N : Int) := by omega
            have hw2b : IntKind.i64.wrap (x2 : Int) = (x2 : Int) := IntWalk.i64_in _ (by omega)
            have hw3b : IntKind.i64.wrap (x3 : Int) = (x3 : Int) := IntWalk.i64_in _ (by omega)
            have h20 : (0 : Int) ≤ (x2 : Int) := by omega
            have h30 : (0 : Int) ≤ (x3 : Int) := by omega
            have hl0 : (0 : Int) ≤ (less : Int) := by omega
            have hm0 : (0 : Int) ≤ (more : Int) := by omega
            have hmN : (more : Int) < (N : Int) := by omega
            have h2N : (x2 : Int) < (N : Int) := by omega
            have h3N : (x3 : Int) < (N : Int) := by omega
            have HNN : Hid (N = 2 * n) := hN
            clear hN hL3
            have hy1 : sf7 D p al = D.getD (p + al) 0 := rfl
            have hy2 : sf7 D s al = D.getD (s + al) 0 := rfl
            have hall : al < lim7 D s := by omega
            have hlml : lim7 D s ≤ n - s := by have := HLM.out; unfold lim7; rw [hn.out]; omega
            obtain ⟨x5, hx5⟩ : ∃ x5, x5 = p + al := ⟨_, rfl⟩
            obtain ⟨x6, hx6⟩ : ∃ x6, x6 = s + al := ⟨_, rfl⟩
            have hw5 : IntKind.i64.wrap ((p : Int) + (al : Int)) = (x5 : Int) := by rw [IntWalk.i64_in _ (by omega)]; omega
            have hw6 : IntKind.i64.wrap ((s : Int) + (al : Int)) = (x6 : Int) := by rw [IntWalk.i64_in _ (by omega)]; omega
            have hi5 : (p : Int) + (al : Int) = (x5 : Int) := by omega
            have hi6 : (s : Int) + (al : Int) = (x6 : Int) := by omega
            have h5n : (x5 : Int) < (n : Int) := by omega
            have h6n : (x6 : Int) < (n : Int) := by omega
            obtain ⟨ga, oa, rfl, c5⟩ := segs.at_ x5 (by rw [hn.out]; omega)
            obtain ⟨g', oa', hgg, c6⟩ := segs.at_ x6 (by rw [hn.out]; omega)
            cases hgg
            have b5 := segs.bd x5
            have b6 := segs.bd x6
            rw [← hx5] at hy1
            rw [← hx6] at hy2
            rw [hy1, hy2] at HRI HLE
            clear hy1 hy2 hx5 hx6 segs
            generalize D.getD x5 0 = u5 at *
            generalize D.getD x6 0 = u6 at *
            by_cases hside : u5 < u6
            · obtain ⟨hS2, hA2, hv1, hv2⟩ := HRI.out hfu hside
              have HS2 : Hid _ := hS2
              have r6 := rows.at_ (2 * p + 1) (by omega)
              rw [← hx2, ← hx3] at r6 hA2 hv1 hv2 HS2
              have HL4 : Hid (∀ k, FL B fb m g D (some ⟨ga, oa, none⟩) n cap W (s + 1) (updI A less (p : Int)) w ((w2.drewN k).setCell ⟨g, less, none⟩ (.int .i64 (p : Int))) v0 la ln lc (new7 D s p most L)) := fun k => (HL3.out.drewN k).set (by omega) _
              generalize A x3 = av3 at *
              have r6n : ∀ k, ((w2.drewN k).setCell ⟨g, less, none⟩ (.int .i64 (p : Int))).cell? ⟨g, x3, none⟩ = some (.int .i64 av3) := fun k => by rw [sc_other7 (by omega)]; exact r6
              clear rows hx2 hx3 HRI HLE hS2 hA2
              go_quiet (fail)
              go_wp2
              go_roundw
              case rel => exact ⟨_, _, av3, x3, more, al, n2, most, la, ln, lc, new7 D s p most L, rfl, rfl, rfl, rfl, rfl, rfl, rfl, HS2.out, HL4.out _⟩
              case measure => simp [intOf]; omega
            · obtain ⟨hS2, hA2, hv1, hv2⟩ := HLE.out hfu (by omega)
              have HS2 : Hid _ := hS2
              have r6 := rows.at_ (2 * p) (by omega)
              rw [← hx2] at r6 hA2 hv1 hv2 HS2
              have HL4 : Hid (∀ k, FL B fb m g D (some ⟨ga, oa, none⟩) n cap W (s + 1) (updI A more (p : Int)) w ((w2.drewN k).setCell ⟨g, more, none⟩ (.int .i64 (p : Int))) v0 la ln lc (new7 D s p most L)) := fun k => (HL3.out.drewN k).set (by omega) _
              generalize A x2 = av3 at *
              have r6n : ∀ k, ((w2.drewN k).setCell ⟨g, more, none⟩ (.int .i64 (p : Int))).cell? ⟨g, x2, none⟩ = some (.int .i64 av3) := fun k => by rw [sc_other7 (by omega)]; exact r6
              clear rows hx2 hx3 HRI HLE hS2 hA2
              go_quiet (fail)
              go_wp2
              go_roundw
              case rel => exact ⟨_, _, av3, less, x2, n1, al, most, la, ln, lc, new7 D s p most L, rfl, rfl, rfl, rfl, rfl, rfl, rfl, HS2.out, HL4.out _⟩
              case measure => simp [intOf]; omega
set_option maxRecDepth 100000 in
set_option maxHeartbeats 1000000 in
theorem psef7_short (B fb m g : Nat) (D : List Int) (a : Option Addr) (n cap W s s0 : Nat) (A : Nat → Int) (la0 : Option Addr) (ln0 lc0 : Nat) (hn : Hid (D.length = n)) (w : World) (h : Fst w B fb m g D a n cap W s0 A) (hs : s < n) (h3 : n - s < 3) (hl : n ≤ 1048576) :
    Calls Try.prog 52 #[.pointer (some ⟨fb, 0, none⟩), .int .i64 (s : Int), .slice la0 ln0 lc0] w fun e w' => e = .returned (.slice la0 ln0 lc0) ∧ w' = w := by
  obtain ⟨c0, c1, c2, c3⟩ := h.cells
  have hws : IntKind.i64.wrap ((n : Int) - (s : Int)) = ((n - s : Nat) : Int) := by rw [IntWalk.i64_in _ (by omega)]; omega
  obtain ⟨rr, hr⟩ : ∃ rr, rr = n - s := ⟨_, rfl⟩
  rw [← hr] at hws
  have hri : (n : Int) - (s : Int) = (rr : Int) := by omega
  have hr3 : (rr : Int) < 3 := by omega
  have hmn : (if (rr : Int) < 258 then (rr : Int) else 258) = (rr : Int) := if_pos (by omega)
  clear hr h
  go_enter Try.func52, Try.ntmps52
  go_wp2_with fail
  all_goals first
    | (go_ret
       exact ⟨rfl, rfl⟩)
    | omega
end Go.Proofs.Ytaipfcfmhdigfaa
