
import Derived.Test.YtoeabfcnfofbiaaDoorHdL3
import Derived.Test.YtoeabfcnfofbiaaDoorHdP7
import Derived.Test.YtoeabfcnfofbiaaDoorLnMk
namespace Go.Proofs.YtoeabfcnfofbiaaDoor
open Go.RowKit
set_option linter.unusedVariables false

/-! HeadLens. -/
def room8 (R : List Rn8) : List Rn8 := R ++ [⟨71, 0⟩, ⟨72, 0⟩]
theorem SegN.left {w : World} {a : Option Addr} {xs ys : List Rn8} (h : SegN w a (xs ++ ys)) : SegN w a xs := ⟨fun i hi => by
  obtain ⟨b, off, e, c1, c2⟩ := h.at_ i (by simp; omega)
  have hg : (xs ++ ys).getD i ⟨0, 0⟩ = xs.getD i ⟨0, 0⟩ := by simp [List.getD, List.getElem?_append_left hi]
  rw [hg] at c1 c2
  exact ⟨b, off, e, c1, c2⟩⟩
theorem lzs8_le (R : List Rn8) : (lzs8 R).length ≤ 320 ∧ ∀ z ∈ lzs8 R, 0 ≤ z ∧ z ≤ 15 := by
  unfold lzs8
  cases h : lens8 R with
  | none => exact ⟨by simp, by simp⟩
  | some l => exact ⟨(lens8_bd h).2, (lens8_bd h).1⟩
theorem own_blk18 {w : World} {base n cap : Nat} {e : TypeId} {b : Option Addr} {xs : List Value} (h : w.ownsRow base e 1 (.slice b n cap) n xs) : ∀ x, b = some x → base ≤ x.block := by
  rcases h.2 with ⟨h1, _⟩ | ⟨g, cp, cur, h1, hb, _⟩
  · simp only [Value.slice.injEq] at h1
    intro x e; rw [h1.1] at e; cases e
  · simp only [Value.slice.injEq] at h1
    intro x e; rw [h1.1] at e; cases e; exact hb
/-- How far the copying has come. -/
def CpI (R : List Rn8) (w wr : World) (ty : TypeId) (n : Nat) (tp ti : Value) : Prop := ∃ (i oc : Nat) (oa : Option Addr), i ≤ n ∧ ti = .int .i64 (i : Int) ∧ tp = .slice oa i oc ∧ wr.ownsRow w.heap.size ty 2 (.slice oa i oc) i (flatN (R.take i)) ∧ Below w.heap.size w wr
set_option maxRecDepth 100000 in
set_option maxHeartbeats 8000000 in
theorem headLens_walk (w : World) (T : TabS w) (a : Option Addr) (R : List Rn8) (cap : Nat) (hs : SegN w a R) (hc : R.length ≤ cap) (hnil : a = none → cap = 0) (hl : R.length * 16 ≤ 140737488351232) :
    Calls Tryd.prog 5 #[.slice a R.length cap] w fun e w' => e = .returned (.bool true) ∧ Below w.heap.size w w' := by
  obtain ⟨i0, hi, hz0, hz1, hz2⟩ := info_parts info_arun8
  obtain ⟨i1, gi, gz0, gz1, gz2⟩ := info_parts info_run8
  obtain ⟨i2, ni, nz0, nz1, nz2⟩ := info_parts info_int
  obtain ⟨n, hnn⟩ : ∃ n, n = R.length := ⟨_, rfl⟩
  have HN : Hid (R.length = n) := hnn.symm
  rw [← hnn] at hl hc ⊢
  clear hnn
  have hZ := lzs8_le R
  obtain ⟨Z, hZe⟩ : ∃ Z, Z = lzs8 R := ⟨_, rfl⟩
  obtain ⟨E, hE⟩ : ∃ E, E = ler8 R := ⟨_, rfl⟩
  have HZZ : Hid (lzs8 R = Z) := hZe.symm
  have HEE : Hid (ler8 R = E) := hE.symm
  obtain ⟨nZ, hnZ⟩ : ∃ nZ, nZ = Z.length := ⟨_, rfl⟩
  have HNZ : Hid (Z.length = nZ) := hnZ.symm
  rw [← hZe, ← hnZ] at hZ
  have HZB : Hid (∀ z ∈ Z, -9223372036854775808 ≤ z ∧ z ≤ 9223372036854775807) := fun z hz => by have := hZ.2 z hz; omega
  have hZ3 := hZ.1
  clear hZe hE hnZ hZ
  have HSA : Hid (∀ W xa xc ya yc, SegZ W xa Z → SegZ W ya Z → Calls Tryd.prog 16 #[.slice xa nZ xc, .slice ya nZ yc] W fun e w' => e = .returned (.bool true) ∧ Below W.heap.size W w') := by
    intro W xa xc ya yc hx hy
    have := same8 xa ya Z Z xc yc W hx hy (by rw [HNZ.out]; omega) (by rw [HNZ.out]; omega)
    rw [HNZ.out, show (Z == Z) = true by simp] at this
    exact this
  have HAL : Hid (∀ W xa xc ya yc, SegN W xa R → SegN W ya R → Calls Tryd.prog 15 #[.slice xa n xc, .slice ya n yc] W fun e w' => e = .returned (.bool true) ∧ Below W.heap.size W w') := by
    intro W xa xc ya yc hx hy
    refine (alike8 xa ya R R n n xc yc HN HN W hx hy (by omega) (by omega)).mono ?_
    rintro e w' ⟨r, rfl, hr, b⟩
    exact ⟨by rw [hr.2 rfl], b⟩
  have HS : Hid (SegN w a R) := hs
  have HT : Hid (TabS w) := T
  clear hs T
  go_enter Tryd.func5, Tryd.ntmps5
  go_wp2_with fail
  go_loopw [3, 4] (fun tp ti wr => CpI R w wr 40 n tp ti) (fun _ ti _ => n - (intOf ti).toNat)
  case atStart => exact ⟨0, 0, none, by omega, rfl, rfl, World.ownsRow_nil _ _ _ _, Below.refl _ _⟩
  case round =>
    obtain ⟨i, oc, oa, hin, rfl, rfl, OO, BR⟩ := hrel
    by_cases hlt : i < n
    · have hlti : (i : Int) < (n : Int) := by omega
      have hil : i < R.length := by rw [HN.out]; exact hlt
      obtain ⟨b, off, rfl, cs, cc⟩ := ((show SegN w a R from HS.out).old BR).at_ i hil
      have HTK : Hid (R.take (i + 1) = R.take i ++ [R.getD i ⟨0, 0⟩]) := take_snocN hil
      generalize R.getD i ⟨0, 0⟩ = r at *
      obtain ⟨sy, ct⟩ := r
      simp only at cs cc
      have hsz := BR.size
      go_wp2_with fail
      go_region_law
        (refine step_append_lies _ (by rfl) _ _ _ (by rfl) w.heap.size 40 i1 _ 2 16 Tryd.underlying28 gi gz0 gz1 gz2 rfl (by omega) (.slice oa i oc) i (flatN (R.take i)) (by rfl) (OO.drew.alloc _)
            ⟨wr.heap.size, 0, none⟩ 1 1 [.int .i64 sy, .int .i64 ct] (by rfl) (by rfl) (World.news_of_block (cs := #[.int .i64 sy, .int .i64 ct]) (t := 40) (fr := (0, 0)) (heap_alloc_new wr.drew _)) (by simp [Value.oneCell'])
            (by omega) (by unfold maxLen; omega) (by omega) (by simp; omega) (wr.heap.size + 1) (by simp) ?_; intro gg cap2 w3 hown2 hgrow hat hlt2)
      all_goals
        have BA : Below w.heap.size w (wr.drew.alloc (.cells #[.int .i64 sy, .int .i64 ct] 40)) := BR.drew.alloc hsz _
        have B3 : Below w.heap.size w w3 := BA.trans ((Below.refl _ _).grown hgrow BA.size (fun j hj => (OO.lt j hj).1))
        have O3 : w3.ownsRow w.heap.size 40 2 (.slice (some ⟨gg, 0, none⟩) (i + 1) cap2) (i + 1) (flatN (R.take (i + 1))) := by
          rw [HTK.out, flatN_app]; exact hown2
        clear hown2 hgrow hat hlt2 BA OO BR cs cc
        go_wp2
        go_roundw
        case rel => exact ⟨i + 1, cap2, some ⟨gg, 0, none⟩, by omega, by go_num, rfl, O3, B3⟩
        case measure => simp [intOf]; omega
    · have hge : ¬ (i : Int) < (n : Int) := by omega
      obtain rfl : i = n := by omega
      have hTA : R.take i = R := List.take_of_length_le (by rw [HN.out]; omega)
      rw [hTA] at OO
      clear hTA
      have SP : SegN wr oa R := own_segN OO HN.out
      have HCAP : Hid (R.length = i) := HN
      generalize wr = w0 at *
      go_wp2_with fail
      refine (rlens8 R oa i oc HN w0 SP (by omega)).mono ?_
      rintro e w1 ⟨wb, wc, rfl, OW1, B1⟩
      rw [HZZ.out] at OW1 ⊢
      rw [HNZ.out] at OW1
      rw [HEE.out, HNZ.out]
      have SW1 : SegZ w1 wb Z := own_segZ OW1 HZB.out
      have x1 : Below w.heap.size w w1 := BR.trans (B1.mono BR.size)
      have SA1 : SegN w1 a R := (show SegN w a R from HS.out).old x1
      have SP1 : SegN w1 oa R := SP.old B1
      clear OW1 OO SP
      go_wp2_with (first
        | (at_builtin; refine wpList_appSN rfl (.const (.slice none 0 0)) (.tmp 39) 32 rfl 38 i0 _ 16 Tryd.underlying32 hi hz0 hz1 hz2 rfl w1 HN.out SA1 hnil rfl rfl (by omega) (by omega) ?_; intro rb rc w2 OR2 B2)
        | (at_builtin; refine wpList_appN2 rfl (.tmp 40) (.tmp 43) 32 rfl w1.heap.size 38 i0 _ 16 Tryd.underlying32 hi hz0 hz1 hz2 rfl w2 ⟨71, 0⟩ ⟨72, 0⟩ OR2 rfl rfl (by omega) (by omega) B2.size ?_; intro g gcap w3 OR3 B3; have hgcap := (own_shape2 OR3 (by omega)); have hri : (i : Int) ≤ ((i + 2 : Nat) : Int) := (by omega); have hic : (i : Int) ≤ (gcap : Int) := (by obtain ⟨_, _, hv, h2, _⟩ := hgcap; simp only [Value.slice.injEq] at hv; omega)))
      have SR3 : SegN w3 (some ⟨g, 0, none⟩) (R ++ [⟨71, 0⟩, ⟨72, 0⟩]) := own_segN OR3 (by rw [List.length_append, HCAP.out]; rfl)
      have SL3 := SR3.left
      have x2 : Below w.heap.size w w2 := x1.trans (B2.mono x1.size)
      have x3 : Below w.heap.size w w3 := x2.trans (B3.mono x1.size)
      have T3 : TabS w3 := SegZ.old HT.out x3
      have B13 : Below w1.heap.size w1 w3 := B2.trans B3
      have SW3 : SegZ w3 wb Z := SW1.old B13
      have SP3 : SegN w3 oa R := SP1.old B13
      clear SW1 SP1 SA1 OR2 OR3
      refine (plens8 R (some ⟨g, 0, none⟩) i gcap HN w3 SL3 (by omega) T3).mono ?_
      rintro e w4 ⟨ba, ca, rfl, OA4, B4⟩
      rw [HZZ.out, HNZ.out] at OA4
      rw [HZZ.out, HEE.out, HNZ.out]
      go_wp2_with fail
      refine (plens8 R (some ⟨g, 0, none⟩) i gcap HN w4 (SL3.old B4) (by omega) (SegZ.old T3 B4)).mono ?_
      rintro e w5 ⟨bb, cb, rfl, OB5, B5⟩
      rw [HZZ.out, HNZ.out] at OB5
      rw [HZZ.out, HEE.out, HNZ.out]
      have SA5 : SegZ w5 ba Z := (own_segZ OA4 HZB.out).old B5
      have SB5 : SegZ w5 bb Z := own_segZ OB5 HZB.out
      have B35 : Below w3.heap.size w3 w5 := B4.trans (B5.mono B4.size)
      have SW5 : SegZ w5 wb Z := SW3.old B35
      have SP5 : SegN w5 oa R := SP3.old B35
      have SR5 := SR3.old B35
      have x5 : Below w.heap.size w w5 := x3.trans (B35.mono x3.size)
      go_wp2_with fail
      refine (num8 E w5).mono ?_
      rintro e w' ⟨rfl, hw'⟩
      subst w'
      go_wp2_with fail
      refine (num8 E w5).mono ?_
      rintro e w' ⟨rfl, hw'⟩
      subst w'
      go_wp2_with fail
      refine (HSA.out _ _ _ _ _ SA5 SW5).mono ?_
      rintro e w6 ⟨rfl, B6⟩
      go_wp2_with fail
      refine (HSA.out _ _ _ _ _ (SB5.old B6) (SW5.old B6)).mono ?_
      rintro e w7 ⟨rfl, B7⟩
      have B57 : Below w5.heap.size w5 w7 := B6.trans (B7.mono B6.size)
      have SR7 := SR5.old B57
      go_wp2_with fail
      refine (HAL.out _ _ _ _ _ SR7.left (SP5.old B57)).mono ?_
      rintro e w8 ⟨rfl, B8⟩
      have b58 : Below w5.heap.size w5 w8 := B57.trans (B8.mono B57.size)
      have x8 : Below w.heap.size w w8 := x5.trans (b58.mono x5.size)
      have SR8 := SR5.old b58
      obtain ⟨gb, go, e71, c71, _⟩ := SR8.at_ i (by rw [List.length_append, HCAP.out]; simp)
      cases e71
      obtain ⟨gb, go, e72, c72, _⟩ := SR8.at_ (i + 1) (by rw [List.length_append, HCAP.out]; simp)
      cases e72
      have g71 : (R ++ [(⟨71, 0⟩ : Rn8), ⟨72, 0⟩]).getD i ⟨0, 0⟩ = ⟨71, 0⟩ := by
        have h := HCAP.out
        rw [List.getD_eq_getElem?_getD, List.getElem?_append_right (by omega), h]
        simp
      have g72 : (R ++ [(⟨71, 0⟩ : Rn8), ⟨72, 0⟩]).getD (i + 1) ⟨0, 0⟩ = ⟨72, 0⟩ := by
        have h := HCAP.out
        rw [List.getD_eq_getElem?_getD, List.getElem?_append_right (by omega), h, show i + 1 - i = 1 by omega]
        simp
      rw [g71] at c71
      rw [g72] at c72
      simp only [Nat.zero_add] at c71 c72
      have OA8 : w8.ownsRow w3.heap.size 3 1 (.slice ba nZ ca) nZ (Z.map (Value.int .i64)) := own_below (own_below OA4 B5) b58
      have SB8 : SegZ w8 bb Z := SB5.old b58
      have SW8 : SegZ w8 wb Z := SW5.old b58
      have HFA : Hid (∀ k, (Value.slice ba nZ ca).ownBlock = some k → w3.heap.size ≤ k ∧ k < w4.heap.size) := fun k e => OA4.lt k e
      have HFB : Hid (∀ q off, bb = some ⟨q, off, none⟩ → w4.heap.size ≤ q) := fun q off e => own_blk18 OB5 _ e
      have HFW : Hid (∀ q off, wb = some ⟨q, off, none⟩ → 0 < Z.length → q < w3.heap.size) := fun q off e h => SW3.lt q off e h
      have s3 : w.heap.size ≤ w3.heap.size := x3.size
      have s48 : w4.heap.size ≤ w8.heap.size := by have := B5.size; have := b58.size; omega
      have s38 : w3.heap.size ≤ w8.heap.size := by have := B4.size; omega
      clear B1 B2 B3 B4 B5 B6 B7 B8 SW3 SR3 SL3 SA5 SB5 SW5 SR5 SR7 SR8 SP3 SP5 x2 x3 x5 OA4 OB5 b58 B57 B35 B13 T3 g71 g72 hgcap
      go_wp2_with fail
      go_loopw [12] (fun tj wr => ∃ (j : Nat) (A : List Int), j ≤ nZ ∧ tj = .int .i64 (j : Int) ∧ Hid (A.length = nZ) ∧ wr.ownsRow w3.heap.size 3 1 (.slice ba nZ ca) nZ (A.map (Value.int .i64)) ∧ Kp (fun k => (Value.slice ba nZ ca).ownBlock = some k) w8 wr) (fun tj _ => nZ - (intOf tj).toNat)
      case atStart => exact ⟨0, Z, by omega, rfl, HNZ.out, OA8, Kp.refl _ _⟩
      case round =>
        obtain ⟨j, A, hj, rfl, HA, OJ, KJ⟩ := hrel
        clear OA8 c71 c72
        by_cases hjm : j < nZ
        · have hji : (j : Int) < (nZ : Int) := by omega
          obtain ⟨ga, ca', hv, _⟩ := own_shape OJ (by omega)
          simp only [Value.slice.injEq] at hv
          obtain ⟨rfl, _, rfl⟩ := hv
          obtain ⟨d0, fz⟩ := own_cell1 OJ (i := j) (by have := HA.out; omega)
          have f0 := fz j
          obtain ⟨OS, GS⟩ := OJ.stored j (.int .i64 81)
          rw [← List.map_set] at OS
          have HOS : Hid _ := OS
          have HB : Hid _ := KJ.trans (S' := fun k => (Value.slice (some ⟨ga, 0, none⟩) nZ ca).ownBlock = some k) (Kp.grown GS (fun i hi => by cases hi; rfl)) (fun _ _ e => e)
          have HA2 : Hid ((A.set j 81).length = nZ) := by show _ = _; rw [List.length_set]; exact HA.out
          clear OS GS fz
          generalize A.getD j 0 = zz at *
          go_wp2_with fail
          go_roundw
          case rel => exact ⟨j + 1, A.set j 81, by omega, by go_num, HA2, HOS.out, HB.out⟩
          case measure => simp [intOf]; omega
        · have hjn : j = nZ := by omega
          subst hjn
          generalize wr = w9 at *
          go_wp2_with fail
          go_loopw [8, 13] (fun ta ti wr => ∃ (i ln c' : Nat) (A : List Int) (b' : Option Addr), i ≤ 40 ∧ ti = .int .i64 (i : Int) ∧ ta = .slice b' ln c' ∧ ln ≤ 320 + i ∧ wr.ownsRow w3.heap.size 3 1 (.slice b' ln c') ln (A.map (Value.int .i64)) ∧ Kp (fun k => (Value.slice ba j ca).ownBlock = some k) w8 wr ∧ Hid (Fresh w8 (.slice ba j ca) (.slice b' ln c'))) (fun _ ti _ => 40 - (intOf ti).toNat)
          case atStart => exact ⟨0, j, ca, A, ba, by omega, rfl, rfl, by omega, OJ, KJ, (fun k e => .inl e)⟩
          case round =>
            obtain ⟨i', ln, c', A', b', hi40, rfl, rfl, hln, OI, KI, FI⟩ := hrel
            clear OJ KJ
            by_cases hi4 : i' < 40
            · have hi4i : (i' : Int) < 40 := by omega
              have hsz := KI.size
              have hs8 : w3.heap.size ≤ wr.heap.size := by omega
              go_wp2_with (at_builtin; refine wpList_app1 rfl (.tmp 124) (.tmp 125) 22 rfl w3.heap.size 3 i2 (.int .i64 0) 8 Tryd.underlying22 ni nz0 nz1 nz2 rfl wr (.int .i64 82) rfl OI rfl rfl (by omega) (by omega) hs8 ?_; intro gg cap2 wn hown8 hg8 hf8)
              have KN : Kp (fun k => (Value.slice ba j ca).ownBlock = some k) w8 wn := KI.trans (S' := fun k => (Value.slice b' ln c').ownBlock = some k) (Kp.grown hg8 (fun i e => e)) (fun k hk e => by
                rcases FI.out k e with h | h
                · exact h
                · omega)
              have FN : Hid (Fresh w8 (.slice ba j ca) (.slice (some ⟨gg, 0, none⟩) (ln + 1) cap2)) := fun k e => by
                rcases hf8 k e with h | h
                · exact FI.out k h
                · exact .inr (by omega)
              go_roundw
              case rel => exact ⟨i' + 1, ln + 1, cap2, A' ++ [82], some ⟨gg, 0, none⟩, by omega, by go_num, rfl, by omega, by rw [List.map_append]; exact hown8, KN, FN⟩
              case measure => simp [intOf]; omega
            · have hi40' : i' = 40 := by omega
              have SBr : SegZ wr bb Z := SB8.kp KI (fun q off e _ e2 => by
                have h1 := HFB.out q off e
                have h2 := (HFA.out q e2).2
                omega)
              have SWr : SegZ wr wb Z := SW8.kp KI (fun q off e h e2 => by
                have h1 := HFW.out q off e h
                have h2 := (HFA.out q e2).1
                omega)
              have xr : Below w.heap.size w wr := x8.trans (KI.below (fun k e => by have h2 := (HFA.out k e).1; omega) (by omega))
              clear OI KI FI SB8 SW8
              subst hi40'
              go_wp2_with fail
              refine (HSA.out _ _ _ _ _ SBr SWr).mono ?_
              rintro e wa ⟨rfl, Ba⟩
              have xa : Below w.heap.size w wa := xr.trans (Ba.mono xr.size)
              go_wp2_with fail
              refine (awake8 wa (SegZ.old HT.out xa)).mono ?_
              rintro e wz ⟨rfl, Bz⟩
              go_wp2_with fail
              go_ret
              exact ⟨rfl, xa.trans (Bz.mono xa.size)⟩
end Go.Proofs.YtoeabfcnfofbiaaDoor
