
import Derived.Test.YtoeabfcnfofbiaaDoorHdL2
import Derived.Test.YtoeabfcnfofbiaaDoorHdM2
import Derived.Deep.RegionHeld3
namespace Go.Proofs.YtoeabfcnfofbiaaDoor
open Go.RowKit
set_option linter.unusedVariables false

/-! HeadRuns. -/
theorem own_blk2 {w : World} {base n cap : Nat} {e : TypeId} {b : Option Addr} {xs : List Value} (h : w.ownsRow base e 2 (.slice b n cap) n xs) : ∀ x, b = some x → base ≤ x.block := by
  rcases h.2 with ⟨h1, _⟩ | ⟨g, cp, cur, h1, hb, _⟩
  · simp only [Value.slice.injEq] at h1
    intro x e; rw [h1.1] at e; cases e
  · simp only [Value.slice.injEq] at h1
    intro x e; rw [h1.1] at e; cases e; exact hb
theorem SegN.lt {w : World} {a : Option Addr} {R : List Rn8} (h : SegN w a R) : ∀ b off, a = some ⟨b, off, none⟩ → 0 < R.length → b < w.heap.size := by
  intro b off ha hl
  obtain ⟨b', off', ha', hc, _⟩ := h.at_ 0 hl
  rw [ha] at ha'
  cases ha'
  exact World.block_lt_of_cell? w _ hc
theorem SegN.kp' {S : Nat → Prop} {a b : World} {la : Option Addr} {L : List Rn8} (h : SegN a la L) (hk : Kp S a b) (hn : ∀ g o, la = some ⟨g, o, none⟩ → 0 < L.length → ¬ S g) : SegN b la L :=
  ⟨fun i hi => by
    obtain ⟨g, o, e, c1, c2⟩ := h.at_ i hi
    exact ⟨g, o, e, hk.cellN c1 (hn _ _ e (by omega)), hk.cellN c2 (hn _ _ e (by omega))⟩⟩
set_option maxRecDepth 100000 in
set_option maxHeartbeats 8000000 in
theorem headRuns_walk (w : World) (T : TabS w) (a : Option Addr) (zs : List Int) (cap : Nat) (hs : SegZ w a zs) (hc : zs.length ≤ cap) (hnil : a = none → cap = 0) (hl : zs.length * 8 ≤ 140737488351232) :
    Calls Tryd.prog 4 #[.slice a zs.length cap] w fun e w' => e = .returned (.bool true) ∧ Below w.heap.size w w' := by
  obtain ⟨i0, hi, hz0, hz1, hz2⟩ := info_parts info_arun8
  obtain ⟨n, hnn⟩ : ∃ n, n = zs.length := ⟨_, rfl⟩
  have HN : Hid (zs.length = n) := hnn.symm
  have HLD : Hid (∀ W, SegZ W a zs → Calls Tryd.prog 13 #[.slice a n cap] W fun e w' => ∃ g cap', e = .returned (.slice (some ⟨g, 0, none⟩) (lentZ zs).length cap') ∧
      w'.ownsRow W.heap.size 3 1 (.slice (some ⟨g, 0, none⟩) (lentZ zs).length cap') (lentZ zs).length ((lentZ zs).map (Value.int .i64)) ∧ (lentZ zs).length ≤ cap' ∧ Below W.heap.size W w') := fun W hW => by
    have := lend8 a zs cap W hW hnil hl
    rw [HN.out] at this
    exact this
  have hbd := lentZ_bd hs.mem
  rw [← hnn] at hl hc ⊢
  clear hnn
  obtain ⟨M, hM4⟩ : ∃ M, M = n + 4 := ⟨_, rfl⟩
  have HLL : Hid ((lentZ zs).length = M) := by show _ = _; simp [lentZ, HN.out, hM4]
  have hMn : n ≤ M := by omega
  have hMb : M ≤ 17592186043908 := by omega
  clear hM4
  have hR320 := (rns8_ok zs).2
  obtain ⟨R, hR⟩ : ∃ R, R = rns8 zs := ⟨_, rfl⟩
  obtain ⟨E, hE⟩ : ∃ E, E = rer8 zs := ⟨_, rfl⟩
  have HRR : Hid (rns8 zs = R) := hR.symm
  have HEE : Hid (rer8 zs = E) := hE.symm
  obtain ⟨nR, hnR⟩ : ∃ nR, nR = R.length := ⟨_, rfl⟩
  have HNR : Hid (R.length = nR) := hnR.symm
  rw [← hR, ← hnR] at hR320
  clear hR hE hnR
  have HAL : Hid (∀ W xa xc ya yc, SegN W xa R → SegN W ya R → Calls Tryd.prog 15 #[.slice xa nR xc, .slice ya nR yc] W fun e w' => e = .returned (.bool true) ∧ Below W.heap.size W w') := by
    intro W xa xc ya yc hx hy
    refine (alike8 xa ya R R nR nR xc yc HNR HNR W hx hy (by omega) (by omega)).mono ?_
    rintro e w' ⟨r, rfl, hr, b⟩
    exact ⟨by rw [hr.2 rfl], b⟩
  have HSL : Hid (∀ W xa xc ya yc, SegZ W xa (lentZ zs) → SegZ W ya (lentZ zs) → Calls Tryd.prog 16 #[.slice xa M xc, .slice ya M yc] W fun e w' => e = .returned (.bool true) ∧ Below W.heap.size W w') := by
    intro W xa xc ya yc hx hy
    have := same8 xa ya (lentZ zs) (lentZ zs) xc yc W hx hy (by rw [HLL.out]; omega) (by rw [HLL.out]; omega)
    rw [HLL.out, show (lentZ zs == lentZ zs) = true by simp] at this
    exact this
  go_enter Tryd.func4, Tryd.ntmps4
  go_wp2_with fail
  refine (rruns8 zs a n cap HN w hs).mono ?_
  rintro e w1 ⟨wb, wc, rfl, OW1, B1⟩
  rw [HRR.out] at OW1 ⊢
  rw [HNR.out] at OW1
  rw [HEE.out, HNR.out]
  have SW1 : SegN w1 wb R := own_segN OW1 HNR.out
  go_wp2_with fail
  refine (HLD.out _ (hs.old B1)).mono ?_
  rintro e w2 ⟨g, gcap, rfl, O2, hgc, B2⟩
  have SR2 : SegZ w2 (some ⟨g, 0, none⟩) (lentZ zs) := own_segZ O2 hbd
  have SL2 : SegZ w2 (some ⟨g, 0, none⟩) zs := SR2.left
  rw [HLL.out] at hgc O2 ⊢
  have hncap : (n : Int) ≤ (gcap : Int) := by omega
  have hnM : (n : Int) ≤ (M : Int) := by omega
  have x2 : Below w.heap.size w w2 := B1.trans (B2.mono B1.size)
  have SW2 : SegN w2 wb R := SW1.old B2
  have T2 : TabS w2 := SegZ.old T x2
  go_wp2_with fail
  refine (pruns8 zs (some ⟨g, 0, none⟩) n gcap HN (by omega) w2 SL2 T2).mono ?_
  rintro e w3 ⟨ba, ca, rfl, OA3, B3⟩
  rw [HRR.out, HNR.out] at OA3
  rw [HRR.out, HEE.out, HNR.out]
  go_wp2_with fail
  refine (pruns8 zs (some ⟨g, 0, none⟩) n gcap HN (by omega) w3 (SL2.old B3) (SegZ.old T2 B3)).mono ?_
  rintro e w4 ⟨bb, cb, rfl, OB4, B4⟩
  rw [HRR.out, HNR.out] at OB4
  rw [HRR.out, HEE.out, HNR.out]
  have SA4 : SegN w4 ba R := (own_segN OA3 HNR.out).old B4
  have SB4 : SegN w4 bb R := own_segN OB4 HNR.out
  have SW4 : SegN w4 wb R := (SW2.old B3).old B4
  have SR4 : SegZ w4 (some ⟨g, 0, none⟩) (lentZ zs) := (SR2.old B3).old B4
  have x3 : Below w.heap.size w w3 := x2.trans (B3.mono x2.size)
  have x4 : Below w.heap.size w w4 := x3.trans (B4.mono x3.size)
  go_wp2_with fail
  refine (num8 E w4).mono ?_
  rintro e w' ⟨rfl, hw'⟩
  subst w'
  go_wp2_with fail
  refine (num8 E w4).mono ?_
  rintro e w' ⟨rfl, hw'⟩
  subst w'
  go_wp2_with fail
  refine (HAL.out _ _ _ _ _ SA4 SW4).mono ?_
  rintro e w5 ⟨rfl, B5⟩
  have x5 : Below w.heap.size w w5 := x4.trans (B5.mono x4.size)
  go_wp2_with fail
  refine (HAL.out _ _ _ _ _ (SB4.old B5) (SW4.old B5)).mono ?_
  rintro e w6 ⟨rfl, B6⟩
  have x6 : Below w.heap.size w w6 := x5.trans (B6.mono x5.size)
  go_wp2_with fail
  refine (HLD.out _ (hs.old x6)).mono ?_
  rintro e w7 ⟨g7, gcap7, rfl, O7, hgc7, B7⟩
  have S7 : SegZ w7 (some ⟨g7, 0, none⟩) (lentZ zs) := own_segZ O7 hbd
  rw [HLL.out]
  go_wp2_with fail
  refine (HSL.out _ _ _ _ _ (((SR4.old B5).old B6).old B7) S7).mono ?_
  rintro e w8 ⟨rfl, B8⟩
  have b48 : Below w4.heap.size w4 w8 := B5.trans ((B6.mono B5.size).trans ((B7.mono (Nat.le_trans B5.size B6.size)).trans (B8.mono (Nat.le_trans B5.size (Nat.le_trans B6.size B7.size)))))
  have x8 : Below w.heap.size w w8 := x4.trans (b48.mono x4.size)
  have OA8 : w8.ownsRow w2.heap.size 38 2 (.slice ba nR ca) nR (flatN R) := own_belowN (own_belowN OA3 B4) b48
  have SB8 : SegN w8 bb R := SB4.old b48
  have SW8 : SegN w8 wb R := SW4.old b48
  have HFA : Hid (∀ k, (Value.slice ba nR ca).ownBlock = some k → w2.heap.size ≤ k ∧ k < w3.heap.size) := fun k e => OA3.lt k e
  have HFB : Hid (∀ q off, bb = some ⟨q, off, none⟩ → w3.heap.size ≤ q) := fun q off e => own_blk2 OB4 _ e
  have HFW : Hid (∀ q off, wb = some ⟨q, off, none⟩ → 0 < R.length → q < w2.heap.size) := fun q off e h => SW2.lt q off e h
  have s2 : w.heap.size ≤ w2.heap.size := x2.size
  have s38 : w3.heap.size ≤ w8.heap.size := by have := B4.size; have := b48.size; omega
  have s28 : w2.heap.size ≤ w8.heap.size := by have := B3.size; omega
  clear B1 B2 B3 B4 B5 B6 B7 B8 SW1 SW2 SR2 SL2 SA4 SB4 SW4 SR4 x3 x4 x5 x6 O2 OA3 OB4 O7 S7 hgc hgc7 b48 x2 HSL OW1 T2
  go_wp2_with fail
  go_loopw [10] (fun tj wr => ∃ (j : Nat) (xs : List Value), j ≤ nR ∧ tj = .int .i64 (j : Int) ∧ wr.ownsRow w2.heap.size 38 2 (.slice ba nR ca) nR xs ∧ Kp (fun k => (Value.slice ba nR ca).ownBlock = some k) w8 wr) (fun tj _ => nR - (intOf tj).toNat)
  case atStart => exact ⟨0, flatN R, by omega, rfl, OA8, Kp.refl _ _⟩
  case round =>
    obtain ⟨j, xs, hj, rfl, OJ, KJ⟩ := hrel
    clear OA8
    by_cases hjm : j < nR
    · have hji : (j : Int) < (nR : Int) := by omega
      obtain ⟨ga, ca', hv, _⟩ := own_shape2 OJ (by omega)
      simp only [Value.slice.injEq] at hv
      obtain ⟨rfl, _, rfl⟩ := hv
      obtain ⟨⟨v0, d0⟩, f0⟩ := own_cell2 OJ (j * 2) (by omega)
      obtain ⟨⟨v1, d1⟩, f1⟩ := own_cell2 OJ (j * 2 + 1) (by omega)
      have HS3 : Hid (∃ xs', ((wr.setCell ⟨ga, j * 2, none⟩ (.int .i64 81)).setCell ⟨ga, j * 2 + 1, none⟩ (.int .i64 81)).ownsRow w2.heap.size 38 2 (.slice (some ⟨ga, 0, none⟩) nR ca) nR xs') := by
        obtain ⟨x1, o1⟩ := own_set2 OJ (j * 2) (.int .i64 81)
        exact own_set2 o1 (j * 2 + 1) (.int .i64 81)
      have HK3 : Hid (Kp (fun k => (Value.slice (some ⟨ga, 0, none⟩) nR ca).ownBlock = some k) w8 ((wr.setCell ⟨ga, j * 2, none⟩ (.int .i64 81)).setCell ⟨ga, j * 2 + 1, none⟩ (.int .i64 81))) :=
        (KJ.trans (S' := fun k => k = ga) (Kp.set (S := fun k => k = ga) rfl _) (fun _ _ e => by simp [Value.ownBlock, e])).trans (S' := fun k => k = ga) (Kp.set (S := fun k => k = ga) rfl _) (fun _ _ e => by simp [Value.ownBlock, e])
      clear OJ KJ
      go_wp2_with fail
      go_roundw
      case rel =>
        obtain ⟨xs', o⟩ := HS3.out
        exact ⟨j + 1, xs', by omega, by go_num, o, HK3.out⟩
      case measure => simp [intOf]; omega
    · have hjn : j = nR := by omega
      subst hjn
      generalize wr = w9 at *
      go_wp2_with fail
      go_loopw [6, 11] (fun ta ti wr => ∃ (i ln c' : Nat) (xs : List Value) (b' : Option Addr), i ≤ 40 ∧ ti = .int .i64 (i : Int) ∧ ta = .slice b' ln c' ∧ ln ≤ 320 + i ∧ wr.ownsRow w2.heap.size 38 2 (.slice b' ln c') ln xs ∧ Kp (fun k => (Value.slice ba j ca).ownBlock = some k) w8 wr ∧ Hid (Fresh w8 (.slice ba j ca) (.slice b' ln c'))) (fun _ ti _ => 40 - (intOf ti).toNat)
      case atStart => exact ⟨0, j, ca, xs, ba, by omega, rfl, rfl, by omega, OJ, KJ, (fun k e => .inl e)⟩
      case round =>
        obtain ⟨i, ln, c', A', b', hi40, rfl, rfl, hln, OI, KI, FI⟩ := hrel
        clear OJ KJ
        by_cases hi4 : i < 40
        · have hi4i : (i : Int) < 40 := by omega
          have hsz := KI.size
          have hs8 : w2.heap.size ≤ wr.heap.size := by omega
          go_wp2_with (at_builtin; refine wpList_appNx rfl (.tmp 78) (.tmp 80) 32 rfl w2.heap.size 38 i0 _ 16 Tryd.underlying32 hi hz0 hz1 hz2 rfl wr ⟨82, 0⟩ OI rfl rfl (by omega) (by omega) hs8 ?_; intro gg cap2 wn xs2 hown8 hg8 hf8)
          have KN : Kp (fun k => (Value.slice ba j ca).ownBlock = some k) w8 wn := KI.trans (S' := fun k => (Value.slice b' ln c').ownBlock = some k) hg8 (fun k hk e => by
            rcases FI.out k e with h | h
            · exact h
            · omega)
          have FN : Hid (Fresh w8 (.slice ba j ca) (.slice (some ⟨gg, 0, none⟩) (ln + 1) cap2)) := fun k e => by
            rcases hf8 k e with h | h
            · exact FI.out k h
            · exact .inr (by omega)
          go_roundw
          case rel => exact ⟨i + 1, ln + 1, cap2, xs2, some ⟨gg, 0, none⟩, by omega, by go_num, rfl, by omega, hown8, KN, FN⟩
          case measure => simp [intOf]; omega
        · have hi40' : i = 40 := by omega
          have SBr : SegN wr bb R := SB8.kp' KI (fun q off e _ e2 => by
            have h1 := HFB.out q off e
            have h2 := (HFA.out q e2).2
            omega)
          have SWr : SegN wr wb R := SW8.kp' KI (fun q off e h e2 => by
            have h1 := HFW.out q off e h
            have h2 := (HFA.out q e2).1
            omega)
          have xr : Below w.heap.size w wr := x8.trans (KI.below (fun k e => by have h2 := (HFA.out k e).1; omega) (by omega))
          clear OI KI FI SB8 SW8
          subst hi40'
          go_wp2_with fail
          refine (HAL.out _ _ _ _ _ SBr SWr).mono ?_
          rintro e wa ⟨rfl, Ba⟩
          have xa : Below w.heap.size w wa := xr.trans (Ba.mono xr.size)
          go_wp2_with fail
          refine (awake8 wa (SegZ.old T xa)).mono ?_
          rintro e wz ⟨rfl, Bz⟩
          go_wp2_with fail
          go_ret
          exact ⟨rfl, xa.trans (Bz.mono xa.size)⟩
end Go.Proofs.YtoeabfcnfofbiaaDoor
