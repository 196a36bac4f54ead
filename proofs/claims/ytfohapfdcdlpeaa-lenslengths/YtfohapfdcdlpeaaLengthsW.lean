
import Derived.Test.YtfohapfdcdlpeaaLnRlen
import Derived.Test.YtfohapfdcdlpeaaLnLen3
import Derived.Test.YtfohapfdcdlpeaaLnLend
import Derived.Test.YtfohapfdcdlpeaaLnNum
import Derived.Test.YtfohapfdcdlpeaaLnAwake
import Derived.Deep.RegionHeld3
namespace Go.Proofs.Ytfohapfdcdlpeaa
open Go.RowKit
set_option linter.unusedVariables false

theorem lensR_le (lim : Int) (zs : List Int) : (lensR lim zs).length ≤ 288 := by
  unfold lensR
  split
  · rename_i h
    rw [lens_len]
    unfold errL at h
    split at h
    · cases h
    · split at h
      · rename_i h2
        exact (errOf_zero h2).1
      · omega
  · simp

theorem own_blk1 {w : World} {base n cap : Nat} {e : TypeId} {b : Option Addr} {xs : List Value} (h : w.ownsRow base e 1 (.slice b n cap) n xs) : ∀ x, b = some x → base ≤ x.block := by
  rcases h.2 with ⟨h1, _⟩ | ⟨g, cp, cur, h1, hb, _⟩
  · simp only [Value.slice.injEq] at h1
    intro x e; rw [h1.1] at e; cases e
  · simp only [Value.slice.injEq] at h1
    intro x e; rw [h1.1] at e; cases e; exact hb

set_option maxRecDepth 100000 in
set_option maxHeartbeats 8000000 in
theorem lensLengths_walk (w : World) (lim : Int) (hlim0 : -9223372036854775808 ≤ lim) (hlim1 : lim ≤ 9223372036854775807) (a : Option Addr) (zs : List Int) (cap : Nat) (hs : SegZ w a zs) (hc : zs.length ≤ cap) (hnil : a = none → cap = 0) (hl : zs.length * 8 ≤ 140737488351232) :
    Calls Try.prog 3 #[.int .i64 lim, .slice a zs.length cap] w fun e w' => e = .returned (.bool true) ∧ Below w.heap.size w w' := by
  obtain ⟨i0, hi, hz0, hz1, hz2⟩ := info_parts info_int
  obtain ⟨n, hnn⟩ : ∃ n, n = zs.length := ⟨_, rfl⟩
  have HN : Hid (zs.length = n) := hnn.symm
  have HLD : Hid (∀ W, SegZ W a zs → Calls Try.prog 5 #[.slice a n cap] W fun e w' => ∃ g cap', e = .returned (.slice (some ⟨g, 0, none⟩) (lentZ zs).length cap') ∧
      w'.ownsRow W.heap.size 3 1 (.slice (some ⟨g, 0, none⟩) (lentZ zs).length cap') (lentZ zs).length ((lentZ zs).map (Value.int .i64)) ∧ (lentZ zs).length ≤ cap' ∧ Below W.heap.size W w') := fun W hW => by
    have := lend_any a zs cap W hW hnil hl
    rw [HN.out] at this
    exact this
  have hbd := lentZ_bd hs.mem
  rw [← hnn] at hl hc ⊢
  clear hnn
  obtain ⟨M, hM4⟩ : ∃ M, M = n + 4 := ⟨_, rfl⟩
  have HLL : Hid ((lentZ zs).length = M) := by show _ = _; simp [lentZ, HN.out, hM4]
  have hMn : n ≤ M := by omega
  have hMb : M ≤ 17592186043908 := by omega
  clear hM4
  have hW288 := lensR_le lim zs
  obtain ⟨WL, hWL⟩ : ∃ WL, WL = lensR lim zs := ⟨_, rfl⟩
  obtain ⟨E, hE⟩ : ∃ E, E = errL lim zs := ⟨_, rfl⟩
  have HWL : Hid (lensR lim zs = WL) := hWL.symm
  have HEE : Hid (errL lim zs = E) := hE.symm
  obtain ⟨nW, hnW⟩ : ∃ nW, nW = WL.length := ⟨_, rfl⟩
  have HNW : Hid (WL.length = nW) := hnW.symm
  rw [← hWL, ← hnW] at hW288
  clear hWL hE hnW
  have HS : Hid (∀ W xa xc ya yc, SegZ W xa WL → SegZ W ya WL → Calls Try.prog 8 #[.slice xa nW xc, .slice ya nW yc] W fun e w' => e = .returned (.bool true) ∧ Below W.heap.size W w') := by
    intro W xa xc ya yc hx hy
    have := same_any xa ya WL WL xc yc W hx hy (by rw [HNW.out]; omega) (by rw [HNW.out]; omega)
    rw [HNW.out, show (WL == WL) = true by simp] at this
    exact this
  have HSL : Hid (∀ W xa xc ya yc, SegZ W xa (lentZ zs) → SegZ W ya (lentZ zs) → Calls Try.prog 8 #[.slice xa M xc, .slice ya M yc] W fun e w' => e = .returned (.bool true) ∧ Below W.heap.size W w') := by
    intro W xa xc ya yc hx hy
    have := same_any xa ya (lentZ zs) (lentZ zs) xc yc W hx hy (by rw [HLL.out]; omega) (by rw [HLL.out]; omega)
    rw [HLL.out, show (lentZ zs == lentZ zs) = true by simp] at this
    exact this
  go_enter Try.func3, Try.ntmps3
  go_wp2_with fail
  refine (rlengths_any lim a zs n cap HN w hs (by omega)).mono ?_
  rintro e w1 ⟨wb, wc, rfl, SW1, B1⟩
  rw [HWL.out] at SW1 ⊢
  rw [HEE.out, HNW.out]
  go_wp2_with fail
  refine (HLD.out _ (hs.old B1)).mono ?_
  rintro e w2 ⟨g, gcap, rfl, O2, hgc, B2⟩
  have SR2 : SegZ w2 (some ⟨g, 0, none⟩) (lentZ zs) := own_segZ O2 hbd
  have SL2 : SegZ w2 (some ⟨g, 0, none⟩) zs := SR2.left
  rw [HLL.out] at hgc O2 ⊢
  have hncap : (n : Int) ≤ (gcap : Int) := by omega
  have hnM : (n : Int) ≤ (M : Int) := by omega
  have x2 : Below w.heap.size w w2 := B1.trans (B2.mono B1.size)
  have SW2 : SegZ w2 wb WL := SW1.old B2
  go_wp2_with fail
  refine (lengths_own lim (some ⟨g, 0, none⟩) zs n gcap HN w2 SL2 (by omega)).mono ?_
  rintro e w3 ⟨ba, ca, rfl, OA3, B3⟩
  rw [HWL.out, HNW.out] at OA3
  rw [HWL.out, HEE.out, HNW.out]
  go_wp2_with fail
  refine (lengths_own lim (some ⟨g, 0, none⟩) zs n gcap HN w3 (SL2.old B3) (by omega)).mono ?_
  rintro e w4 ⟨bb, cb, rfl, OB4, B4⟩
  rw [HWL.out, HNW.out] at OB4
  rw [HWL.out, HEE.out, HNW.out]
  go_wp2_with fail
  refine (num_any E w4).mono ?_
  rintro e w' ⟨rfl, hw'⟩
  subst w'
  go_wp2_with fail
  refine (num_any E w4).mono ?_
  rintro e w' ⟨rfl, hw'⟩
  subst w'
  have SA4 : SegZ w4 ba WL := (own_segZ OA3 SW1.mem).old B4
  have SB4 : SegZ w4 bb WL := own_segZ OB4 SW1.mem
  have SW4 : SegZ w4 wb WL := (SW2.old B3).old B4
  have SR4 : SegZ w4 (some ⟨g, 0, none⟩) (lentZ zs) := (SR2.old B3).old B4
  have x3 : Below w.heap.size w w3 := x2.trans (B3.mono x2.size)
  have x4 : Below w.heap.size w w4 := x3.trans (B4.mono x3.size)
  go_wp2_with fail
  refine (HS.out _ _ _ _ _ SA4 SW4).mono ?_
  rintro e w5 ⟨rfl, B5⟩
  have x5 : Below w.heap.size w w5 := x4.trans (B5.mono x4.size)
  go_wp2_with fail
  refine (HS.out _ _ _ _ _ (SB4.old B5) (SW4.old B5)).mono ?_
  rintro e w6 ⟨rfl, B6⟩
  have x6 : Below w.heap.size w w6 := x5.trans (B6.mono x5.size)
  go_wp2_with fail
  refine (HLD.out _ (hs.old x6)).mono ?_
  rintro e w7 ⟨g7, gcap7, rfl, O7, hgc7, B7⟩
  have S7 : SegZ w7 (some ⟨g7, 0, none⟩) (lentZ zs) := own_segZ O7 hbd
  rw [HLL.out]
  go_wp2_with fail
  refine (HSL.out _ _ _ _ _ (((SR4.old B5).old B6).old B7) S7).mono ?_
  rintro e w8 ⟨rfl, B8⟩
  have b48 : Below w4.heap.size w4 w8 := B5.trans ((B6.mono B5.size).trans ((B7.mono (Nat.le_trans B5.size B6.size)).trans (B8.mono (Nat.le_trans B5.size (Nat.le_trans B6.size B7.size)))))
  have x8 : Below w.heap.size w w8 := x4.trans (b48.mono x4.size)
  have OA8 : w8.ownsRow w2.heap.size 3 1 (.slice ba nW ca) nW (WL.map (Value.int .i64)) := own_below (own_below OA3 B4) b48
  have OB8 := own_below OB4 b48
  have SB8 : SegZ w8 bb WL := SB4.old b48
  have SW8 : SegZ w8 wb WL := SW4.old b48
  have SL8 : SegZ w8 (some ⟨g, 0, none⟩) zs := (SR4.old b48).left
  -- what is no part of the first answer
  have HFA : Hid (∀ k, (Value.slice ba nW ca).ownBlock = some k → w2.heap.size ≤ k ∧ k < w3.heap.size) := fun k e => OA3.lt k e
  have HFB : Hid (∀ q off, bb = some ⟨q, off, none⟩ → w3.heap.size ≤ q) := fun q off e => by
    have := own_blk1 OB4 _ e
    exact this
  have HFW : Hid (∀ q off, wb = some ⟨q, off, none⟩ → 0 < WL.length → q < w2.heap.size) := fun q off e h => SW2.lt q off e h
  have HFR : Hid (g < w2.heap.size) := by
    show g < _
    exact (O2.lt g rfl).2
  have s2 : w.heap.size ≤ w2.heap.size := x2.size
  have s38 : w3.heap.size ≤ w8.heap.size := by have := B4.size; have := b48.size; omega
  have s28 : w2.heap.size ≤ w8.heap.size := by have := B3.size; omega
  clear B1 B2 B3 B4 B5 B6 B7 B8 SW1 SW2 SR2 SL2 SA4 SB4 SW4 SR4 x3 x4 x5 x6 O2 OA3 OB4 OB8 O7 S7 hgc hgc7 b48 x2 HSL
  go_wp2_with fail
  go_loopw [13] (fun tj wr => ∃ (j : Nat) (A : List Int), j ≤ nW ∧ tj = .int .i64 (j : Int) ∧ Hid (A.length = nW) ∧ wr.ownsRow w2.heap.size 3 1 (.slice ba nW ca) nW (A.map (Value.int .i64)) ∧ Kp (fun k => (Value.slice ba nW ca).ownBlock = some k) w8 wr) (fun tj _ => nW - (intOf tj).toNat)
  case atStart => exact ⟨0, WL, by omega, rfl, HNW.out, OA8, Kp.refl _ _⟩
  case round =>
    obtain ⟨j, A, hj, rfl, HA, OJ, KJ⟩ := hrel
    clear OA8
    by_cases hjm : j < nW
    · have hji : (j : Int) < (nW : Int) := by omega
      obtain ⟨ga, ca', hv, _⟩ := own_shape OJ (by omega)
      simp only [Value.slice.injEq] at hv
      obtain ⟨rfl, _, rfl⟩ := hv
      obtain ⟨d0, fz⟩ := own_cell1 OJ (i := j) (by have := HA.out; omega)
      have f0 := fz j
      obtain ⟨OS, GS⟩ := OJ.stored j (.int .i64 81)
      rw [← List.map_set] at OS
      have HOS : Hid _ := OS
      have HB : Hid _ := KJ.trans (S' := fun k => (Value.slice (some ⟨ga, 0, none⟩) nW ca).ownBlock = some k) (Kp.grown GS (fun i hi => by cases hi; rfl)) (fun _ _ e => e)
      have HA2 : Hid ((A.set j 81).length = nW) := by show _ = _; rw [List.length_set]; exact HA.out
      clear OS GS fz
      generalize A.getD j 0 = zz at *
      go_wp2_with fail
      go_roundw
      case rel => exact ⟨j + 1, A.set j 81, by omega, by go_num, HA2, HOS.out, HB.out⟩
      case measure => simp [intOf]; omega
    · have hjn : j = nW := by omega
      subst hjn
      generalize wr = w9 at *
      go_wp2_with fail
      go_loopw [9, 14] (fun ta ti wr => ∃ (i ln c' : Nat) (A : List Int) (b' : Option Addr), i ≤ 40 ∧ ti = .int .i64 (i : Int) ∧ ta = .slice b' ln c' ∧ ln ≤ 288 + i ∧ wr.ownsRow w2.heap.size 3 1 (.slice b' ln c') ln (A.map (Value.int .i64)) ∧ Kp (fun k => (Value.slice ba j ca).ownBlock = some k) w8 wr ∧ Hid (Fresh w8 (.slice ba j ca) (.slice b' ln c'))) (fun _ ti _ => 40 - (intOf ti).toNat)
      case atStart => exact ⟨0, j, ca, A, ba, by omega, rfl, rfl, by omega, OJ, KJ, (fun k e => .inl e)⟩
      case round =>
        obtain ⟨i, ln, c', A', b', hi40, rfl, rfl, hln, OI, KI, FI⟩ := hrel
        clear OJ KJ
        by_cases hi4 : i < 40
        · have hi4i : (i : Int) < 40 := by omega
          have hsz := KI.size
          have hs8 : w2.heap.size ≤ wr.heap.size := by omega
          go_wp2_with (at_builtin; refine wpList_app1 rfl (.tmp 83) (.tmp 84) 22 rfl w2.heap.size 3 i0 (.int .i64 0) 8 Try.underlying22 hi hz0 hz1 hz2 rfl wr (.int .i64 82) rfl OI rfl rfl (by omega) (by omega) hs8 ?_; intro gg cap2 wn hown8 hg8 hf8)
          have KN : Kp (fun k => (Value.slice ba j ca).ownBlock = some k) w8 wn := KI.trans (S' := fun k => (Value.slice b' ln c').ownBlock = some k) (Kp.grown hg8 (fun i e => e)) (fun k hk e => by
            rcases FI.out k e with h | h
            · exact h
            · omega)
          have FN : Hid (Fresh w8 (.slice ba j ca) (.slice (some ⟨gg, 0, none⟩) (ln + 1) cap2)) := fun k e => by
            rcases hf8 k e with h | h
            · exact FI.out k h
            · exact .inr (by omega)
          go_roundw
          case rel => exact ⟨i + 1, ln + 1, cap2, A' ++ [82], some ⟨gg, 0, none⟩, by omega, by go_num, rfl, by omega, by rw [List.map_append]; exact hown8, KN, FN⟩
          case measure => simp [intOf]; omega
        · have hi40' : i = 40 := by omega
          have SBr : SegZ wr bb WL := SB8.kp KI (fun q off e _ e2 => by
            have h1 := HFB.out q off e
            have h2 := (HFA.out q e2).2
            omega)
          have SWr : SegZ wr wb WL := SW8.kp KI (fun q off e h e2 => by
            have h1 := HFW.out q off e h
            have h2 := (HFA.out q e2).1
            omega)
          have SLr : SegZ wr (some ⟨g, 0, none⟩) zs := SL8.kp KI (fun q off e h e2 => by
            cases e
            have h1 : g < w2.heap.size := HFR.out
            have h2 := (HFA.out g e2).1
            omega)
          have xr : Below w.heap.size w wr := x8.trans (KI.below (fun k e => by have h2 := (HFA.out k e).1; omega) (by omega))
          clear OI KI FI SB8 SW8 SL8
          subst hi40'
          go_wp2_with fail
          refine (HS.out _ _ _ _ _ SBr SWr).mono ?_
          rintro e wa ⟨rfl, Ba⟩
          have xa : Below w.heap.size w wa := xr.trans (Ba.mono xr.size)
          go_wp2_with fail
          refine (lengths_any lim (some ⟨g, 0, none⟩) zs n gcap HN wa (SLr.old Ba) (by omega)).mono ?_
          rintro e wc' ⟨cc, ccap, rfl, SC, Bc⟩
          rw [HWL.out] at SC
          rw [HWL.out, HEE.out, HNW.out]
          have xc : Below w.heap.size w wc' := xa.trans (Bc.mono xa.size)
          go_wp2_with fail
          refine (num_any E wc').mono ?_
          rintro e w' ⟨rfl, hw'⟩
          subst w'
          go_wp2_with fail
          refine (HS.out _ _ _ _ _ SC ((SWr.old Ba).old Bc)).mono ?_
          rintro e wd ⟨rfl, Bd⟩
          have xd : Below w.heap.size w wd := xc.trans (Bd.mono xc.size)
          go_wp2_with fail
          refine (awake_any wd).mono ?_
          rintro e we ⟨rfl, Be⟩
          go_wp2
          go_ret
          exact ⟨rfl, xd.trans (Be.mono xd.size)⟩
end Go.Proofs.Ytfohapfdcdlpeaa
