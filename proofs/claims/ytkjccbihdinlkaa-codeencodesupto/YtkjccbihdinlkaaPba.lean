import Derived.Test.YtkjccbihdinlkaaPay
import Derived.Test.YtkjccbihdinlkaaPaz
namespace Go.Proofs.Ytkjccbihdinlkaa
open Go.RowKit
set_option linter.unusedVariables false

/-- The part of the law behind the whole's own writing over: an encoder over any symbols. -/
def EncBit (zs ys : List Int) (j : Nat) : List Bool := (ys.take j).flatMap (putB zs)
theorem encBit_zero (zs ys : List Int) : EncBit zs ys 0 = [] := by simp [EncBit]
theorem encBit_succ (zs : List Int) {ys : List Int} {j : Nat} (h : j < ys.length) : EncBit zs ys (j + 1) = EncBit zs ys j ++ putB zs (ys.getD j 0) := by
  unfold EncBit
  rw [take_snocZ h, List.flatMap_append]
  simp
theorem encBit_len {zs : List Int} (h : errC zs = 0) (ys : List Int) : ∀ j, j ≤ ys.length → (EncBit zs ys j).length ≤ 15 * j
  | 0, _ => by rw [encBit_zero]; simp
  | j + 1, hj => by
    rw [encBit_succ zs (by omega), List.length_append]
    have h1 := encBit_len h ys j (by omega)
    have h2 := putB_le h (ys.getD j 0)
    omega

theorem own_nilcap {w : World} {base n c : Nat} {e : TypeId} {b : Option Addr} {xs : List Value} (h : w.ownsRow base e 1 (.slice b n c) n xs) : b = none → c = 0 := by
  rcases h.2 with ⟨h1, h2⟩ | ⟨g, cp, cur, h1, _⟩
  · simp only [Value.slice.injEq] at h1
    exact fun _ => h1.2.2
  · simp only [Value.slice.injEq] at h1
    intro h
    rw [h] at h1
    cases h1.1

set_option maxRecDepth 100000 in
set_option maxHeartbeats 2000000 in
theorem codeEncodes_walk (w : World) (a : Option Addr) (zs : List Int) (ca : Nat) (hs : SegZ w a zs) (hc : zs.length ≤ ca) (hn : a = none → ca = 0) (hl : zs.length ≤ 1048576)
    (b : Option Addr) (ys : List Int) (cb : Nat) (hy : SegZ w b ys) (hcy : ys.length ≤ cb) (hny : b = none → cb = 0) (hly : ys.length ≤ 1048576) :
    Calls Try.prog 5 #[.slice a zs.length ca, .slice b ys.length cb] w fun e w' => e = .returned (.bool true) ∧ Below w.heap.size w w' := by
  obtain ⟨i0, hi, hz0, hz1, hz2⟩ := info_parts info_b1
  obtain ⟨n, hnn⟩ : ∃ n, n = zs.length := ⟨_, rfl⟩
  have HN : Hid (zs.length = n) := hnn.symm
  obtain ⟨m, hmm⟩ : ∃ m, m = ys.length := ⟨_, rfl⟩
  have HM : Hid (ys.length = m) := hmm.symm
  have C1 := lend5_any a zs ca w hs hn (by omega)
  rw [← hnn] at hl C1 ⊢
  rw [← hmm] at hly ⊢
  clear hnn hmm hc hcy
  have hbd := lent5_bd hs.mem
  obtain ⟨M, hM3⟩ : ∃ M, M = n + 3 := ⟨_, rfl⟩
  have HLL : Hid ((lent5 zs).length = M) := by show _ = _; simp [lent5, HN.out, hM3]
  have hM : M ≤ 1048579 := by omega
  clear hM3
  by_cases hok : errC zs = 0
  · have HOK : Hid (errC zs = 0) := hok
    clear hok
    go_enter Try.func5, Try.ntmps5
    go_wp2_with fail
    refine C1.mono ?_
    rintro e w1 ⟨g1, c1, rfl, O1, hc1, B1⟩
    have S1 := own_segZ O1 hbd
    have P1 : SegZ w1 (some ⟨g1, 0, none⟩) zs := S1.left
    have hg1 := own_blk O1 _ rfl
    rw [HLL.out] at O1
    rw [HN.out, HLL.out]
    go_wp2_with fail
    refine (newEnc_far (some ⟨g1, 0, none⟩) zs n c1 HN w1 P1 (by intro h; cases h) (by omega)).mono ?_
    rintro e w2 ⟨h1, _, B2⟩
    obtain ⟨be, rfl, hbe, hEn, hFar⟩ := h1 HOK.out
    clear h1
    have x2 : Below w.heap.size w w2 := B1.trans (B2.mono B1.size)
    go_wp2_with fail
    refine (rcheck_any a zs n ca HN w2 (hs.old x2) (by omega)).mono ?_
    rintro e w2' ⟨rfl, hw2⟩
    subst w2'
    rw [HOK.out]
    have CK := kept5_any (some ⟨g1, 0, none⟩) (lent5 zs) c1 a zs ca w2 (S1.old B2) (hs.old x2) hn (by rw [HN.out]; omega) (by rw [HLL.out]; omega)
    rw [HLL.out, HN.out] at CK
    have et2 : (lent5 zs == lent5 zs) = true := by simp
    rw [et2] at CK
    go_wp2_with fail
    refine CK.mono ?_
    rintro e w3 ⟨rfl, B3⟩
    have x3 : Below w.heap.size w w3 := x2.trans (B3.mono x2.size)
    have O3 := own_below (own_below O1 B2) B3
    have HFar : Hid (∀ W, Kp (fun k => k < w1.heap.size) w2 W → En W be w2.heap.size zs) := hFar
    clear CK et2 S1 P1 C1 hEn O1 hFar
    go_wp2_with fail
    go_loopw [38] (fun tj wr => ∃ (j : Nat) (A : List Int), j ≤ M ∧ Hid (A.length = M) ∧ tj = .int .i64 (j : Int) ∧ wr.ownsRow w.heap.size 3 1 (.slice (some ⟨g1, 0, none⟩) M c1) M (A.map (Value.int .i64)) ∧ Kp (fun k => k = g1) w3 wr) (fun tj _ => M - (intOf tj).toNat)
    case atStart => exact ⟨0, lent5 zs, by omega, HLL.out, rfl, O3, Kp.refl _ _⟩
    case round =>
      obtain ⟨j, A, hj, HA, rfl, OJ, KJ⟩ := hrel
      clear O3
      by_cases hjm : j < M
      · have hji : (j : Int) < (M : Int) := by omega
        obtain ⟨a0, fz⟩ := own_cell1 OJ (i := j) (by have := HA.out; omega)
        have f0 := fz j
        obtain ⟨OS, GS⟩ := OJ.stored j (.int .i64 3)
        rw [← List.map_set] at OS
        have HOS : Hid _ := OS
        have HB : Hid _ := KJ.trans (S' := fun k => k = g1) (Kp.grown GS (fun i hi => by cases hi; rfl)) (fun _ _ e => e)
        have HA2 : Hid ((A.set j 3).length = M) := by show _ = _; rw [List.length_set]; exact HA.out
        clear OS GS fz
        generalize A.getD j 0 = zz at *
        go_wp2_with fail
        go_roundw
        case rel => exact ⟨j + 1, A.set j 3, by omega, HA2, by go_num, HOS.out, HB.out⟩
        case measure => simp [intOf]; omega
      · obtain rfl : j = M := by omega
        have hEn : En wr be w2.heap.size zs := HFar.out wr ((Kp.of_below B3).trans (S' := fun k => k = g1) KJ (fun i _ e => by show i < _; omega))
        have x4 : Below w.heap.size w wr := x3.trans (KJ.below (fun i e => by omega) x3.size)
        have hw2r : w2.heap.size ≤ wr.heap.size := Nat.le_trans B3.size KJ.size
        have hbl := hEn.lt
        clear OJ KJ x3 B3 x2 B2 B1 HFar hbd hg1 HLL hM hj hjm HA
        go_wp2_with fail
        have hx1 := heap_new wr (.cells #[.slice none 0 0, .int .u64 0, .int .i64 0] 47)
        have b1 : Below wr.heap.size wr (wr.alloc (.cells #[.slice none 0 0, .int .u64 0, .int .i64 0] 47)) := (Below.refl _ _).alloc (Nat.le_refl _) _
        have z1 : (wr.alloc (.cells #[.slice none 0 0, .int .u64 0, .int .i64 0] 47)).heap.size = wr.heap.size + 1 := by simp
        generalize wr.alloc (.cells #[.slice none 0 0, .int .u64 0, .int .i64 0] 47) = w4 at *
        have hx2 := heap_new w4 (.cells #[.slice none 0 0] 50)
        have b2 : Below w4.heap.size w4 (w4.alloc (.cells #[.slice none 0 0] 50)) := (Below.refl _ _).alloc (Nat.le_refl _) _
        have z2 : (w4.alloc (.cells #[.slice none 0 0] 50)).heap.size = w4.heap.size + 1 := by simp
        generalize w4.alloc (.cells #[.slice none 0 0] 50) = w5 at *
        obtain ⟨bw, ebw⟩ : ∃ bw, bw = wr.heap.size := ⟨_, rfl⟩
        obtain ⟨bx, ebx⟩ : ∃ bx, bx = bw + 1 := ⟨_, rfl⟩
        obtain ⟨B, eB⟩ : ∃ B, B = bx + 1 := ⟨_, rfl⟩
        have t4 : w4.heap.size = bx := by omega
        have t5 : w5.heap.size = B := by omega
        rw [← ebw] at hx1
        rw [t4] at hx2 b2
        rw [← ebw, ← ebx]
        have HO : Hid (bw < bx ∧ bx < B ∧ w2.heap.size ≤ bw ∧ w.heap.size ≤ bw ∧ w5.heap.size = B) := ⟨by omega, by omega, by omega, by have := x4.size; omega, t5⟩
        have b5 : Below bw wr w5 := (b1.mono (by omega)).trans (b2.mono (by omega))
        have hP : Pair w5 bw bx B (.slice none 0 0) (.slice none 0 0) (EncBit zs ys 0) := by
          rw [encBit_zero]
          exact ⟨WrL.new ((b2.block bw (by omega)).trans hx1) (by omega), RwL.new hx2 (by omega), fun k e => by simp [Value.ownBlock] at e⟩
        have hEn5 : En w5 be w2.heap.size zs := hEn.old (b5.mono (by omega))
        have x5 : Below w.heap.size w w5 := x4.trans (b5.mono (by have := x4.size; omega))
        clear hx1 hx2 b1 b2 z1 z2 t4 t5 b5 hEn x4 hw2r ebw ebx eB hbl hbe hc1
        go_loopw [56] (fun tj wr' => ∃ (j : Nat) (v u : Value), j ≤ m ∧ tj = .int .i64 (j : Int) ∧ Pair wr' bw bx B v u (EncBit zs ys j) ∧ Below bw w5 wr') (fun tj _ => m - (intOf tj).toNat)
        case atStart => exact ⟨0, _, _, by omega, rfl, hP, Below.refl _ _⟩
        case round =>
          obtain ⟨j, v, u, hj, rfl, PJ, BJ⟩ := hrel
          clear hP
          have xJ : Below w.heap.size w wr := x5.trans (BJ.mono HO.out.2.2.2.1)
          have hEJ : En wr be w2.heap.size zs := hEn5.old (BJ.mono HO.out.2.2.1)
          by_cases hjm : j < m
          · have hji : (j : Int) < (m : Int) := by omega
            have hjy : j < ys.length := by have := HM.out; omega
            obtain ⟨gy, oy, rfl, cy⟩ := (hy.old xJ).at_ j hjy
            have sb := hy.bd j
            have CB := bits5_any a zs n ca HN (ys.getD j 0) wr (hs.old xJ) HOK.out sb.1 sb.2
            have HS : Hid (EncBit zs ys (j + 1) = EncBit zs ys j ++ putB zs (ys.getD j 0)) := encBit_succ zs hjy
            have hLl := encBit_len HOK.out ys j (by omega)
            have hPl := putB_le HOK.out (ys.getD j 0)
            have CC : Hid (∀ W, En W be w2.heap.size zs → Calls Try.prog 21 #[.pointer (some ⟨be, 0, none⟩), .int .i64 (ys.getD j 0)] W fun e w' => e = .returned (.int .i64 ((putB zs (ys.getD j 0)).length : Int)) ∧ w' = W) := fun W hE => by
              rw [← putB_cost HOK.out]
              exact cost5_any be _ zs _ W hE
            have HER := putB_err HOK.out (ys.getD j 0)
            have CP : Hid (∀ W, En W be w2.heap.size zs → WrL W bw B v (EncBit zs ys j) → Calls Try.prog 22 #[.pointer (some ⟨be, 0, none⟩), .pointer (some ⟨bw, 0, none⟩), .int .i64 (ys.getD j 0)] W fun e w' => e = .returned (.int .i64 (errP zs (ys.getD j 0))) ∧ ∃ v', WrL w' bw B v' (EncBit zs ys j ++ putB zs (ys.getD j 0)) ∧ Kp (WS bw v) W w' ∧ Fresh W v v') := fun W hE hW => put5_any be _ zs _ bw B v _ W hE hW (by omega)
            generalize ys.getD j 0 = s at *
            generalize putB zs s = P at *
            generalize errP zs s = ep at *
            generalize EncBit zs ys j = L at *
            have HQ : Hid (P.length ≤ 15) := hPl
            have hor : (P.length = 0 ∧ ep = 53) ∨ (¬ P.length = 0 ∧ ep = 0) := by
              by_cases hp0 : P.length = 0
              · exact .inl ⟨hp0, by rw [HER, if_pos hp0]⟩
              · exact .inr ⟨hp0, by rw [HER, if_neg hp0]⟩
            clear HER hPl
            obtain ⟨q, hq⟩ : ∃ q, q = P.length := ⟨_, rfl⟩
            have HP : Hid (P.length = q) := hq.symm
            rw [← hq] at hor CB CC
            clear hq
            have hne : bx ≠ bw ∧ bw < B ∧ bx < B ∧ B ≤ wr.heap.size := by have := HO.out; have := BJ.size; omega
            have HNE : Hid _ := hne
            clear hne
            rcases hor with ⟨rfl, rfl⟩ | ⟨hq0, rfl⟩
            all_goals
              first | (have hq0i : ¬ (q : Int) = 0 := by omega) | skip
              go_wp2_with fail
              refine CB.mono ?_
              rintro e w6 ⟨b6, c6, rfl, O6, B6⟩
              have S6 : SegB w6 b6 P := own_segB O6
              have hb6 := own_blk O6
              have hn6 := own_nilcap O6
              have hE6 : En w6 be w2.heap.size zs := hEJ.old (B6.mono (by have := HO.out; have := BJ.size; omega))
              have P6 := PJ.old B6
              go_wp2_with fail
              refine (CC.out _ hE6).mono ?_
              rintro e w7 ⟨rfl, hw7⟩
              subst w7
              go_wp2_with fail
              refine (CP.out _ hE6 P6.g).mono ?_
              rintro e w7 ⟨rfl, v', g7, k7, f7⟩
              have hvl := PJ.g.own_lt
              have S7 : SegB w7 b6 P := S6.of_cells fun bb off i vv hi ha hc => by
                have h6 := (hb6 _ ha).1
                have hlt := World.block_lt_of_cell? w6 _ hc
                have hS : ¬ WS bw v bb := by
                  rintro (e | e)
                  · have := HNE.out; simp at h6; omega
                  · have := (hvl _ e).2.1; simp at h6; omega
                exact (World.cell?_of_block (a := ⟨bb, off + i, none⟩) (k7.block bb hlt hS)).trans hc
              have x7 := P6.x.apartW P6.g k7 (Ne.symm HNE.out.1) HNE.out.2.1 HNE.out.2.2.1 P6.ap
              obtain ⟨ua, uc, rfl, r7⟩ := x7
              have hd0 := r7.cell0
              have hdf := r7.free 0
              have hr7 := r7.ne
              have hB7 := r7.bB
              have hl7 := r7.b_lt
              have hw7 := r7.own
              clear S6 O6 hb6 CB CC CP hE6
              go_wp2_with (first
                | (at_builtin; refine wpList_appB rfl (.tmp 80) (.tmp 81) 48 rfl B 4 i0 (.bool false) 1 Try.underlying48 hi hz0 hz1 hz2 rfl hw7 S7 hn6 rfl (by rw [HP.out]; rfl) (by have := HQ.out; omega) (by have := HQ.out; omega) hB7 ?_; intro a8 c8 w8 hown8 hg8 hf8
                   have hx0 := (hg8.cell_far ⟨bx, 0, none⟩ hl7 (Ne.symm hr7)).trans hd0
                   have hxf := (hg8.frozen_far ⟨bx, 0, none⟩ hl7 (Ne.symm hr7)).trans hdf))
              have hlen : (L ++ P).length = L.length + P.length := List.length_append
              have hst := r7.store (L' := L ++ P) (a' := a8) (cap' := c8) (Kp.grown hg8 (fun i e => e)) (by rw [hlen, List.map_append]; exact hown8) (by rw [hlen]; exact hf8)
              rw [hlen] at hst
              obtain ⟨v2, u2, hp2, kk, _, _⟩ := pair_wr P6 (Ne.symm HNE.out.1) HNE.out.2.1 HNE.out.2.2.1 g7 k7 f7 ⟨a8, c8, by rw [hlen], hst.1⟩ hst.2.1 (by rw [hlen] at *; exact hst.2.2)
              refine ⟨⟨j + 1, v2, u2, by omega, by go_num, by rw [HS.out]; exact hp2, ?_⟩, ?_⟩
              · have hxl := P6.x.own_lt
                have h6 := B6.size
                have hO := HO.out
                have hN := HNE.out
                refine BJ.trans ((B6.mono (by omega)).trans (kk.below (fun i e => ?_) (by omega)))
                rcases e with (e | e) | (e | e)
                · omega
                · have := (hvl _ e).1; omega
                · omega
                · have := (hxl _ e).1; omega
              · simp only [intOf]; omega
          · obtain rfl : j = m := by omega
            have hLl := encBit_len HOK.out ys j (by have := HM.out; omega)
            generalize EncBit zs ys j = L at *
            obtain ⟨T, hT⟩ : ∃ T, T = toB L := ⟨_, rfl⟩
            have hTbd := toB_bd L
            have HT : Hid (T = toB L) := hT
            rw [← hT] at hTbd
            clear hT
            have HL : Hid (∀ W, Below wr.heap.size wr W → Calls Try.prog 23 #[.pointer (some ⟨bw, 0, none⟩)] W fun e w' => e = .returned (.int .i64 (L.length : Int)) ∧ Below wr.heap.size wr w') := by
              intro W hW
              refine (len_any bw B v L W (PJ.old hW).g (by omega)).mono ?_
              rintro e w' ⟨rfl, hb⟩
              exact ⟨rfl, hW.trans (hb.mono hW.size)⟩
            have HB1 : Hid (∀ W, Below wr.heap.size wr W → Calls Try.prog 25 #[.pointer (some ⟨bw, 0, none⟩)] W fun e w' => ∃ a c, e = .returned (.slice a T.length c) ∧ Seg w' a T ∧ Below wr.heap.size wr w') := by
              intro W hW
              have := bytes_any bw B v L W (PJ.old hW).g (by omega)
              rw [← HT.out] at this
              refine this.mono ?_
              rintro e w' ⟨a', c', rfl, ho, hb⟩
              obtain ⟨_, a3, c3, hv, hs, _⟩ := own_seg ho (M := 255) (by decide) hTbd
              cases hv
              exact ⟨a', c', rfl, hs, hW.trans (hb.mono hW.size)⟩
            have HB2 : Hid (∀ W, Below wr.heap.size wr W → Calls Try.prog 26 #[.pointer (some ⟨bx, 0, none⟩)] W fun e w' => ∃ a c, e = .returned (.slice a T.length c) ∧ Seg w' a T ∧ Below W.heap.size W w' ∧ Below wr.heap.size wr w') := by
              intro W hW
              have := rbytes_any bx B u L W (PJ.old hW).x (by omega)
              rw [← HT.out] at this
              refine this.mono ?_
              rintro e w' ⟨a', c', rfl, ho, hb⟩
              obtain ⟨_, a3, c3, hv, hs, _⟩ := own_seg ho (M := 255) (by decide) hTbd
              cases hv
              exact ⟨a', c', rfl, hs, hb, hW.trans (hb.mono hW.size)⟩
            have HS : Hid (∀ W xa xc ya yc, Seg W xa T → Seg W ya T → Calls Try.prog 24 #[.slice xa T.length xc, .slice ya T.length yc] W fun e w' => e = .returned (.bool true) ∧ w' = W) := by
              intro W xa xc ya yc hx hy
              have := bsame_any xa ya T T xc yc W hx hy
              rw [beq_self_list] at this
              exact this
            have HPN : Hid (∀ W, Below wr.heap.size wr W → Calls Try.prog 22 #[.pointer (some ⟨be, 0, none⟩), .pointer none, .int .i64 0] W fun e w' => e = .returned (.int .i64 2) ∧ w' = W) := fun W hW => put5_made be _ zs 0 W (hEJ.old (hW.mono (by have := HO.out; have := BJ.size; omega)))
            have HLV : Hid (∀ W, Below wr.heap.size wr W → Calls Try.prog 9 #[] W fun e w' => e = .returned (.bool true) ∧ Below wr.heap.size wr w') := by
              intro W hW
              refine (lives5_any W).mono ?_
              rintro e w' ⟨rfl, hb⟩
              exact ⟨rfl, hW.trans (hb.mono hW.size)⟩
            obtain ⟨ua, uc, hu, r7⟩ := PJ.x
            have HC : Hid (∀ W, Below wr.heap.size wr W → W.cell? ⟨bx, 0, none⟩ = some (.slice ua L.length uc)) := fun W hW => (hW.cell (p := ⟨bx, 0, none⟩) r7.b_lt).trans r7.cell0
            have bt0 : Below wr.heap.size wr wr.drew := (Below.refl _ _).drew
            have hcd := HC.out _ bt0
            clear r7 hu PJ hEJ hEn5 x5 BJ
            go_wp2_with fail
            go_region_held3 (fun w' => w'.cell? ⟨bx, 0, none⟩ = some (.slice ua L.length uc))
              (first | go_keep | (exact HC.out _ (by assumption)))
              (first
                | (go_at_call 23; refine (HL.out _ (by assumption)).mono ?_; rintro e wl ⟨rfl, btl⟩)
                | (go_at_call 25; refine (HB1.out _ (by assumption)).mono ?_; rintro e wm ⟨am, cm, rfl, sm, btm⟩)
                | (go_at_call 26; refine (HB2.out _ (by assumption)).mono ?_; rintro e wn ⟨an, cn, rfl, sn, bn, btn⟩; have sm2 := sm.old bn)
                | (go_at_call 24; refine (HS.out _ _ _ _ _ (by assumption) (by assumption)).mono ?_; rintro e ws ⟨rfl, hws⟩; subst ws)
                | (go_at_call 22; refine (HPN.out _ (by assumption)).mono ?_; rintro e ws ⟨rfl, hws⟩; subst ws)
                | (go_at_call 9; refine (HLV.out _ (by assumption)).mono ?_; rintro e wv ⟨rfl, btv⟩))
            go_wp2
            go_ret
            exact ⟨rfl, xJ.trans (btv.mono xJ.size)⟩
  · have HNK : Hid (¬ errC zs = 0) := hok
    have key : ∀ E : Int, E = 50 ∨ E = 51 ∨ E = 52 → errC zs = E → Calls Try.prog 5 #[.slice a n ca, .slice b m cb] w fun e w' => e = .returned (.bool true) ∧ Below w.heap.size w w' := by
      intro E hE hEE
      have HEE : Hid (errC zs = E) := hEE
      clear hEE hok
      rcases hE with rfl | rfl | rfl
      all_goals
        go_enter Try.func5, Try.ntmps5
        go_wp2_with fail
        refine C1.mono ?_
        rintro e w1 ⟨g1, c1, rfl, O1, hc1, B1⟩
        have S1 := own_segZ O1 hbd
        have P1 : SegZ w1 (some ⟨g1, 0, none⟩) zs := S1.left
        have hg1 := own_blk O1 _ rfl
        rw [HLL.out] at O1
        rw [HN.out, HLL.out]
        go_wp2_with fail
        refine (newEnc_far (some ⟨g1, 0, none⟩) zs n c1 HN w1 P1 (by intro h; cases h) (by omega)).mono ?_
        rintro e w2 ⟨_, h1, B2⟩
        have h1 := h1 HNK.out
        rw [HEE.out] at h1
        subst h1
        have x2 : Below w.heap.size w w2 := B1.trans (B2.mono B1.size)
        go_wp2_with fail
        refine (rcheck_any a zs n ca HN w2 (hs.old x2) (by omega)).mono ?_
        rintro e w2' ⟨rfl, hw2⟩
        subst w2'
        rw [HEE.out]
        have CK := kept5_any (some ⟨g1, 0, none⟩) (lent5 zs) c1 a zs ca w2 (S1.old B2) (hs.old x2) hn (by rw [HN.out]; omega) (by rw [HLL.out]; omega)
        rw [HLL.out, HN.out] at CK
        have et2 : (lent5 zs == lent5 zs) = true := by simp
        rw [et2] at CK
        go_wp2_with fail
        refine CK.mono ?_
        rintro e w3 ⟨rfl, B3⟩
        have x3 : Below w.heap.size w w3 := x2.trans (B3.mono x2.size)
        have O3 := own_below (own_below O1 B2) B3
        clear CK et2 S1 P1 C1 O1
        go_wp2_with fail
        go_loopw [38] (fun tj wr => ∃ (j : Nat) (A : List Int), j ≤ M ∧ Hid (A.length = M) ∧ tj = .int .i64 (j : Int) ∧ wr.ownsRow w.heap.size 3 1 (.slice (some ⟨g1, 0, none⟩) M c1) M (A.map (Value.int .i64)) ∧ Below w.heap.size w wr) (fun tj _ => M - (intOf tj).toNat)
        case atStart => exact ⟨0, lent5 zs, by omega, HLL.out, rfl, O3, x3⟩
        case round =>
          obtain ⟨j, A, hj, HA, rfl, OJ, BJ⟩ := hrel
          clear O3
          by_cases hjm : j < M
          · have hji : (j : Int) < (M : Int) := by omega
            obtain ⟨a0, fz⟩ := own_cell1 OJ (i := j) (by have := HA.out; omega)
            have f0 := fz j
            obtain ⟨OS, GS⟩ := OJ.stored j (.int .i64 3)
            rw [← List.map_set] at OS
            have HOS : Hid _ := OS
            have HB : Hid _ := BJ.grown GS BJ.size (fun k hk => by cases hk; exact hg1.1)
            have HA2 : Hid ((A.set j 3).length = M) := by show _ = _; rw [List.length_set]; exact HA.out
            clear OS GS fz
            generalize A.getD j 0 = zz at *
            go_wp2_with fail
            go_roundw
            case rel => exact ⟨j + 1, A.set j 3, by omega, HA2, by go_num, HOS.out, HB.out⟩
            case measure => simp [intOf]; omega
          · obtain rfl : j = M := by omega
            clear OJ
            go_wp2_with fail
            refine (lives5_any wr).mono ?_
            rintro e w5 ⟨rfl, B5⟩
            go_wp2_with fail
            go_ret
            exact ⟨rfl, BJ.trans (B5.mono BJ.size)⟩
    rcases errC_cases zs with h | h | h | h
    · exact absurd h hok
    · exact key 50 (.inl rfl) h
    · exact key 51 (.inr (.inl rfl)) h
    · exact key 52 (.inr (.inr rfl)) h
end Go.Proofs.Ytkjccbihdinlkaa
