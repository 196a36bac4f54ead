import Derived.Test.YtodioefbfchckaaPv
import Derived.Test.YtodioefbfchckaaPw
namespace Go.Proofs.Ytodioefbfchckaa
open Go.RowKit Go.Shelf
set_option linter.unusedVariables false

/-! CutterOne. -/
theorem own_nil17 {w : World} {base n sz c : Nat} {e : TypeId} {p : Option Addr} {xs : List Value} (h : w.ownsRow base e sz (.slice p n c) n xs) : p = none → c = 0 := by
  intro hp
  rcases h.2 with ⟨h1, h2⟩ | ⟨g, cap, cur, h1, _⟩
  · injection h1
  · rw [hp] at h1
    injection h1 with h3
    cases h3
theorem own_cap17 {w : World} {base n sz c : Nat} {e : TypeId} {p : Option Addr} {zs : List Int} (h : w.ownsRow base e 1 (.slice p n c) n (zs.map (Value.int .u8))) (hb : ∀ z ∈ zs, 0 ≤ z ∧ z ≤ 255) : n ≤ c := by
  obtain ⟨-, a, c2, hv, -, -, hc, -⟩ := own_seg h (M := 255) (by decide) hb
  injection hv with h1 h2 h3
  rw [h3]; exact hc
set_option maxRecDepth 100000 in
theorem pmost17 (x : Int) (w : World) : (64 ≤ x ∧ x ≤ 65536 → Calls Try.prog 31 #[.int .i64 x] w fun e w' => e = .returned (.int .i64 (6 * x)) ∧ w' = w) ∧ (¬ (64 ≤ x ∧ x ≤ 65536) → Calls Try.prog 31 #[.int .i64 x] w fun e w' => e = .returned (.int .i64 0) ∧ w' = w) := by
  constructor
  · intro h
    have h1 : 64 ≤ x := h.1
    have h2 : x ≤ 65536 := h.2
    have C : Calls Try.prog 35 #[.int .i64 x] w fun e w' => e = .returned (.bool true) ∧ w' = w := by
      go_enter Try.func35, Try.ntmps35
      go_wp2
      go_ret
      exact ⟨rfl, rfl⟩
    have hw : IntKind.i64.wrap (6 * x) = 6 * x := IntWalk.i64_in _ (by omega)
    clear h
    go_enter Try.func31, Try.ntmps31
    go_wp2_with fail
    refine C.mono ?_
    rintro e w' ⟨rfl, hw'⟩
    subst w'
    go_wp2_with fail
    go_ret
    exact ⟨rfl, rfl⟩
  · intro h
    have C : Calls Try.prog 35 #[.int .i64 x] w fun e w' => e = .returned (.bool false) ∧ w' = w := by
      by_cases h1 : 64 ≤ x
      · have h2 : ¬ x ≤ 65536 := by omega
        clear h
        go_enter Try.func35, Try.ntmps35
        go_wp2
        go_ret
        exact ⟨rfl, rfl⟩
      · clear h
        go_enter Try.func35, Try.ntmps35
        go_wp2
        go_ret
        exact ⟨rfl, rfl⟩
    clear h
    go_enter Try.func31, Try.ntmps31
    go_wp2_with fail
    refine C.mono ?_
    rintro e w' ⟨rfl, hw'⟩
    subst w'
    go_wp2_with fail
    go_ret
    exact ⟨rfl, rfl⟩
theorem un17_ctl {z : List Int} (hz : ∀ t ∈ z, 0 ≤ t ∧ t ≤ 255) (h : (un17 z.length z []).1 = 0) : cn17 (un17 z.length z []).2 = z ∧ ce17 (un17 z.length z []).2 = 0 := by
  obtain ⟨T, h1, h2, h3⟩ := un17_enc z.length z [] (Nat.le_refl _) hz h
  rw [List.nil_append] at h1
  have h4 : T.all cok17 = true := List.all_eq_true.2 h3
  rw [h1]
  unfold cn17 ce17
  rw [if_pos h4, if_pos h4]
  exact ⟨h2, rfl⟩
theorem w17_cons {pos : Int} {S : List St16} {m k : Nat} {old size : Int} (h : W17 pos S m k old size) : ∃ s T, S = s :: T := by
  cases S with
  | nil =>
    have h1 := h.1.1
    have h3 := h.1.2.2
    have h4 := h.2.2.2.1
    have h5 := h.2.2.2.2
    simp only [List.length_nil, sa16, sc16] at h4 h5
    omega
  | cons s T => exact ⟨s, T, rfl⟩
set_option maxRecDepth 100000 in
set_option maxHeartbeats 32000000 in
theorem cutterOne_walk (pos window : Int) {za : Option Addr} {zc : Nat} {z : List Int} {sa : Option Addr} {sc : Nat} {da : Option Addr} {dc : Nat} {xa : Option Addr} {xc : Nat} {S : List St16} {D X : List Int} (w : World) (hz : Seg w za z) (zn : za = none → zc = 0) (hzc : z.length ≤ zc) (hzl : z.length ≤ 1048576) (hs : SegS w sa S) (hd : Seg w da D) (hx : Seg w xa X) (nm : da = none → dc = 0) (nk : xa = none → xc = 0) (hsm : S.length + D.length + X.length ≤ 1048576) (hwb : -9223372036854775808 ≤ window ∧ window ≤ 9223372036854775807) :
    Calls Try.prog 7 #[.slice za z.length zc, wn17 pos sa S.length sc da D.length dc xa X.length xc, .int .i64 window] w fun e w' => e = .returned (.bool true) ∧ Below w.heap.size w w' := by
  have hfd : ∀ (x : Option Addr) (n c : Nat) (y v : Value) (W : World), (Instr.field 25 (.agg #[.slice x n c, y, v]) 0).run Try.prog W = .ok (.slice x n c) W := fun _ _ _ _ _ _ => by kernel_rfl
  have hE : Ed17 w sa S.length S da D.length D xa X.length X := ⟨hs, hd, hx, rfl, rfl, rfl, by omega, by omega, by omega⟩
  obtain ⟨wA, hwA⟩ : ∃ wA, wA = w.alloc (.cells #[.int .i64 pos, .slice sa S.length sc, .slice da D.length dc, .slice xa X.length xc] 44) := ⟨_, rfl⟩
  have cA : Cb16 w #[.int .i64 pos, .slice sa S.length sc, .slice da D.length dc, .slice xa X.length xc] 44 wA := by rw [hwA]; exact cb16 _ _ _
  obtain ⟨b4, hb4⟩ : ∃ b4, b4 = w.heap.size := ⟨_, rfl⟩
  have qE : wA.heap[b4]? = some (.cells #[.int .i64 pos, .slice sa S.length sc, .slice da D.length dc, .slice xa X.length xc] 44 (0, 0)) := by rw [hb4]; exact cA.cl
  have bl := cA.bl
  have HWA : Hid (w.alloc (.cells #[.int .i64 pos, .slice sa S.length sc, .slice da D.length dc, .slice xa X.length xc] 44) = wA) := hwA.symm
  have HB4 : Hid (w.heap.size = b4) := hb4.symm
  have HCE : Hid (∀ W, Below wA.heap.size wA W → W.cell? ⟨b4, 0, none⟩ = some (.int .i64 pos) ∧ W.cell? ⟨b4, 1, none⟩ = some (.slice sa S.length sc) ∧ W.cell? ⟨b4, 2, none⟩ = some (.slice da D.length dc) ∧ W.cell? ⟨b4, 3, none⟩ = some (.slice xa X.length xc)) := fun W hW => four_cells ((hW.block b4 (Array.getElem?_eq_some_iff.1 qE).1).trans qE)
  have HBL : Hid (Below w.heap.size w wA) := bl
  have HSS : Hid (∀ W, Below wA.heap.size wA W → SegS W sa S) := fun W hW => hs.old (bl.trans (hW.mono bl.size))
  have HZZ : Hid (∀ W, Below wA.heap.size wA W → Seg W za z) := fun W hW => hz.old (bl.trans (hW.mono bl.size))
  have HC1 : Hid (∀ W, Below wA.heap.size wA W → Calls Try.prog 16 #[.agg #[.int .i64 pos, .slice sa S.length sc, .slice da D.length dc, .slice xa X.length xc]] W (FwQ17 W pos S D X)) := fun W hW => pfacew17 pos W (hE.old (bl.trans (hW.mono bl.size))) nm nk
  have HFT : Hid ((∀ t ∈ S, Fit16 t) ∧ (∀ t ∈ D, 0 ≤ t ∧ t ≤ 255) ∧ (∀ t ∈ X, 0 ≤ t ∧ t ≤ 255) ∧ (∀ t ∈ z, 0 ≤ t ∧ t ≤ 255)) := ⟨hs.fit, hd.mem, hx.mem, hz.mem⟩
  have HLN : Hid (S.length + D.length + X.length ≤ 1048576 ∧ z.length ≤ 1048576) := ⟨hsm, hzl⟩
  have UC := puc17 za z.length zc z wA (HZZ.out wA (Below.refl _ _)) rfl hzc zn (by omega)
  clear hz zn hzc hzl hs hd hx nm nk hsm hE hwA cA hb4 qE bl
  unfold wn17
  go_enter Try.func7, Try.ntmps7
  go_wp2_with fail
  rw [HWA.out, HB4.out]
  refine UC.mono ?_
  intro e1 w1 h1
  have hfit := un17_fit (f := 0) h1
  obtain ⟨p1, c1, rfl, s1, b1⟩ := ucq17_row h1
  have HB1 : Hid (Below wA.heap.size wA w1) := b1
  have hTL := un17_len z.length z []
  rw [List.length_nil] at hTL
  clear UC h1 b1
  by_cases he : (un17 z.length z []).1 = 0
  · have hct := un17_ctl HFT.out.2.2.2 he
    rw [he]
    generalize (un17 z.length z []).2 = T at *
    have CT := pctl17 p1 T.length c1 T w1 s1 rfl (by have := HLN.out; omega)
    clear he hfit s1
    go_wp2_with fail
    refine CT.mono ?_
    intro e2 w2 h2
    obtain ⟨p2, c2, rfl, o2, s2, b2⟩ := cnq17_row h2
    rw [hct.1] at s2
    rw [hct.1, hct.2]
    have HX : Hid (Below wA.heap.size wA w2) := HB1.out.trans (b2.mono HB1.out.size)
    have SM := bsame_any p2 za z z c2 zc w2 s2 (HZZ.out w2 HX.out)
    rw [show (z == z) = true by simp] at SM
    clear h2 o2 s2 b2 hct CT hTL HB1
    go_wp2_with fail
    refine SM.mono ?_
    rintro e3 w3 ⟨rfl, hw3⟩
    subst w3
    clear SM
    obtain ⟨a0, a1, a2, a3⟩ := HCE.out w2 HX.out
    go_wp2_with fail
    refine (HC1.out w2 HX.out).mono ?_
    rintro e4 w4 ⟨v1, v2, v3, rfl, hw, b4'⟩
    obtain ⟨sb, sd, db, dd, xb, xd, eq1, eq2, eq3, hEd, kd, kx⟩ := wn17_ed hw HFT.out.1 HFT.out.2.1 HFT.out.2.2.1 (by have := HLN.out; omega) (by have := HLN.out; omega) (by have := HLN.out; omega)
    subst eq1; subst eq2; subst eq3
    obtain ⟨wG, hwG⟩ : ∃ wG, wG = w4.alloc (.cells #[.int .i64 pos, .slice sb S.length sd, .slice db D.length dd, .slice xb X.length xd] 42) := ⟨_, rfl⟩
    have cG : Cb16 w4 #[.int .i64 pos, .slice sb S.length sd, .slice db D.length dd, .slice xb X.length xd] 42 wG := by rw [hwG]; exact cb16 _ _ _
    obtain ⟨b7, hb7⟩ : ∃ b7, b7 = w4.heap.size := ⟨_, rfl⟩
    have q7 : wG.heap[b7]? = some (.cells #[.int .i64 pos, .slice sb S.length sd, .slice db D.length dd, .slice xb X.length xd] 42 (0, 0)) := by rw [hb7]; exact cG.cl
    have HX4 : Hid (Below wA.heap.size wA w4) := HX.out.trans (b4'.mono HX.out.size)
    have HG : Hid (Below wA.heap.size wA wG) := HX4.out.trans (cG.bl.mono HX4.out.size)
    have HC7 : Hid (∀ W, Below wG.heap.size wG W → W.cell? ⟨b7, 0, none⟩ = some (.int .i64 pos) ∧ W.cell? ⟨b7, 1, none⟩ = some (.slice sb S.length sd) ∧ W.cell? ⟨b7, 2, none⟩ = some (.slice db D.length dd) ∧ W.cell? ⟨b7, 3, none⟩ = some (.slice xb X.length xd)) := fun W hW => four_cells ((hW.block b7 (Array.getElem?_eq_some_iff.1 q7).1).trans q7)
    have HSG : Hid (∀ W, Below wG.heap.size wG W → SegS W sb S) := fun W hW => ((hEd.old cG.bl).old hW).ss
    have HWG : Hid (w4.alloc (.cells #[.int .i64 pos, .slice sb S.length sd, .slice db D.length dd, .slice xb X.length xd] 42) = wG) := hwG.symm
    have HB7 : Hid (w4.heap.size = b7) := hb7.symm
    clear hw b4' hEd hwG cG hb7 q7 a0 a1 a2 a3 kd kx
    by_cases hin : 64 ≤ window ∧ window ≤ 65536
    · have h64 : 64 ≤ window := hin.1
      have h65 : window ≤ 65536 := hin.2
      have MO := fun W => (pmost17 window W).1 hin
      obtain ⟨n, hn⟩ : ∃ n, n = D.length + X.length := ⟨_, rfl⟩
      have hsn : IntKind.i64.wrap ((D.length : Int) + (X.length : Int)) = (n : Int) := by rw [IntWalk.i64_in _ (by have := HLN.out; omega)]; omega
      have HN : Hid (n = D.length + X.length) := hn
      have h6 : IntKind.i64.wrap (6 * window) = 6 * window := IntWalk.i64_in _ (by omega)
      obtain ⟨d0, d1, d2, d3⟩ := HCE.out wG HG.out
      clear hin hn
      rw [← HWG.out] at d0 d1 d2 d3
      by_cases hgt : window < (n : Int)
      · go_wp2_with fail
        refine (MO _).mono ?_
        rintro e5 w5 ⟨rfl, hw5⟩
        subst w5
        rw [HWG.out]
        go_wp2_with fail
        refine (plives17 wG).mono ?_
        rintro e6 w6 ⟨rfl, b6⟩
        go_wp2_with fail
        go_ret
        exact ⟨rfl, HBL.out.trans ((HG.out.trans (b6.mono HG.out.size)).mono HBL.out.size)⟩
      · have CK := pck17 (sc := sd) (dc := dd) (xc := xd) (da := db) (xa := xb) (m := D.length) (k := X.length) pos 16777216 (n : Int) wG (HSG.out wG (Below.refl _ _)) rfl (by have := HLN.out; omega) (by have := HLN.out; omega) (by have := HLN.out; omega) (by omega)
        obtain ⟨g0, g1, g2, g3⟩ := HC7.out wG (Below.refl _ _)
        rw [← HWG.out] at g0 g1 g2 g3
        rw [← HB7.out] at g0 g1 g2 g3
        by_cases hW : W17 pos S D.length X.length 16777216 (n : Int)
        · rw [cc17_ok hW] at CK
          have hok := w17_cok hW
          have hall : S.all cok17 = true := List.all_eq_true.2 hok
          have hcn : cn17 S = encA (nm17 S) := by unfold cn17; rw [if_pos hall]
          have hce : ce17 S = 0 := by unfold ce17; rw [if_pos hall]
          have hlen := w17_ctl hW
          have hback := un17_back S (encA (nm17 S)).length [] hok (Nat.le_refl _)
          rw [List.nil_append, ← hcn] at hback
          rw [← hcn] at hlen
          obtain ⟨s, T, hST⟩ := w17_cons hW
          have hfst : decL 0 0 (cn17 S) = (s.1, ((encI s.1).length : Int), 0) := by rw [hcn, hST]; exact first17 (hok s (by rw [hST]; simp))
          have hs1 := (cok17_iff s).1 (hok s (by rw [hST]; simp))
          have hl1 := encI_len s.1
          have hS0 : 0 < S.length := by rw [hST]; simp
          have hget : S.getD 0 z16 = s := by rw [hST]; rfl
          have HLC : Hid ((cn17 S).length ≤ 6 * n) := by rw [HN.out]; exact hlen
          clear hW hok hall hcn hlen hST
          go_wp2_with fail
          rw [HWG.out, HB7.out]
          refine CK.mono ?_
          rintro e5 w5 ⟨rfl, b5⟩
          have HB5 : Hid (Below wG.heap.size wG w5) := b5
          clear g0 g1 g2 g3 d0 d1 d2 d3 b5 CK
          obtain ⟨g0, g1, g2, g3⟩ := HC7.out w5 HB5.out
          have CT := pctl17 sb S.length sd S w5 (HSG.out w5 HB5.out) rfl (by have := HLN.out; omega)
          go_wp2_with fail
          refine CT.mono ?_
          intro e6 w6 h6'
          obtain ⟨p6, c6, rfl, o6, s6, b6⟩ := cnq17_row h6'
          have hc6 := own_cap17 (sz := 1) o6 (cn17_bd S)
          have hn6 := own_nil17 o6
          rw [hce]
          have HB6 : Hid (Below wG.heap.size wG w6) := HB5.out.trans (b6.mono HB5.out.size)
          have UC2 := puc17 p6 (cn17 S).length c6 (cn17 S) w6 s6 rfl hc6 hn6 (by have := HLC.out; have := HLN.out; have := HN.out; omega)
          clear g0 g1 g2 g3 h6' o6 b6 CT hce hc6 hn6
          go_wp2_with fail
          refine UC2.mono ?_
          intro e7 w7 h7
          obtain ⟨p7, c7, rfl, s7, b7'⟩ := ucq17_row h7
          rw [hback] at s7
          rw [hback]
          simp only at s7 ⊢
          have HB7' : Hid (Below wG.heap.size wG w7) := HB6.out.trans (b7'.mono HB6.out.size)
          have DC := decode_any p6 (cn17 S) c6 w7 (s6.old b7') (by have := HLC.out; have := HLN.out; have := HN.out; omega)
          rw [hfst] at DC
          simp only at DC
          have HS7 : Hid (SegS w7 p7 S) := s7
          clear UC2 h7 s6 s7 b7' hback hfst
          go_wp2_with fail
          refine DC.mono ?_
          rintro e8 w8 ⟨rfl, b8⟩
          have HB8 : Hid (Below wG.heap.size wG w8) := HB7'.out.trans (b8.mono HB7'.out.size)
          have HA8 : Hid (Below wA.heap.size wA w8) := HG.out.trans (HB8.out.mono HG.out.size)
          have HS8 : Hid (SegS w8 p7 S) := HS7.out.old b8
          obtain ⟨a0, a1, a2, a3⟩ := HCE.out w8 HA8.out
          obtain ⟨bq, off, hsa, hT⟩ := (HSS.out w8 HA8.out).at_ 0 hS0
          rw [hget] at hT
          have t0 := hT.c0
          simp only [Nat.zero_mul, Nat.add_zero] at t0
          obtain ⟨n1, hn1⟩ : ∃ n1, n1 = (encI s.1).length := ⟨_, rfl⟩
          rw [← hn1] at hl1 ⊢
          have hl2 : ¬ ((n1 : Int) < 1) := by omega
          have hws : IntKind.i64.wrap s.1 = s.1 := IntWalk.i64_in _ (by omega)
          have hsl : (0 : Int) < (S.length : Int) := by omega
          obtain ⟨L, hL⟩ : ∃ L, L = (cn17 S).length := ⟨_, rfl⟩
          rw [← hL] at HLC ⊢
          have hle : (L : Int) ≤ 6 * window := by have := HLC.out; omega
          subst hsa
          generalize s.1 = A at *
          clear DC b8 hn1 hT hget hL hl1 hs1 HS7
          go_wp2_with fail
          have HA8d : Hid (Below wA.heap.size wA w8.drew) := HA8.out.drew
          have PL := pplain17 (sa := p7) (n := S.length) (sc := c7) (da := none) (m := 0) (dc := 0) (xa := none) (k := 0) (xc := 0) w8.drew HS8.out.drew rfl (by have := HLN.out; omega)
          have PL : Hid (Calls Try.prog 13 #[.agg #[.slice p7 S.length c7, .slice none 0 0, .slice none 0 0]] w8.drew (PlQ17 w8.drew S (.slice none 0 0) (.slice none 0 0))) := PL
          clear a0 a2 a3 t0
          refine plain_region16 (fun V => V.cell? ⟨b4, 1, none⟩ = some (.slice (some ⟨bq, off, none⟩) S.length sc)) 18 (by kernel_rfl) (HCE.out _ HA8d.out).2.1 (fun hHeld => ?_)
          refine wpAnyK_take (i := 0) (v := .slice p7 S.length c7) rfl (by kernel_rfl) (by kernel_rfl) (by kernel_rfl) (by kernel_rfl) (fun _ _ _ h => h) (Or.inl ⟨by rfl, fun w hSw => by go_simp⟩) hHeld ?_
          simp only [List.getElem_toArray, List.getElem_cons_zero, Act.put, List.setIfInBounds_toArray, List.set_cons_zero, List.set_cons_succ]
          refine wpAnyK_take (i := 1) (v := .agg #[.slice p7 S.length c7, .slice none 0 0, .slice none 0 0]) rfl (by kernel_rfl) (by kernel_rfl) (by kernel_rfl) (by kernel_rfl) (fun _ _ _ h => h) (Or.inl ⟨by rfl, fun w hSw => by go_simp⟩) hHeld ?_
          simp only [List.getElem_toArray, List.getElem_cons_zero, List.getElem_cons_succ, Act.put, List.setIfInBounds_toArray, List.set_cons_zero, List.set_cons_succ]
          refine wpAnyK_take (i := 4) (v := .pointer (some ⟨b4, 1, none⟩)) rfl (by kernel_rfl) (by kernel_rfl) (by kernel_rfl) (by kernel_rfl) (fun _ _ _ h => h) (Or.inl ⟨by rfl, fun w hSw => by go_simp⟩) hHeld ?_
          simp only [List.getElem_toArray, List.getElem_cons_zero, List.getElem_cons_succ, Act.put, List.setIfInBounds_toArray, List.set_cons_zero, List.set_cons_succ]
          refine wpAnyK_take (i := 5) (v := .pointer (some ⟨b4, 1, none⟩)) rfl (by kernel_rfl) (by kernel_rfl) (by kernel_rfl) (by kernel_rfl) (fun _ _ _ h => h) (Or.inl ⟨by rfl, fun w hSw => by go_simp⟩) hHeld ?_
          simp only [List.getElem_toArray, List.getElem_cons_zero, List.getElem_cons_succ, Act.put, List.setIfInBounds_toArray, List.set_cons_zero, List.set_cons_succ]
          refine wpAnyK_take (i := 6) (v := .slice (some ⟨bq, off, none⟩) S.length sc) rfl (by kernel_rfl) (by kernel_rfl) (by kernel_rfl) (by kernel_rfl) (fun _ _ _ h => h) (Or.inl ⟨by rfl, fun w hSw => by go_simp⟩) hHeld ?_
          simp only [List.getElem_toArray, List.getElem_cons_zero, List.getElem_cons_succ, Act.put, List.setIfInBounds_toArray, List.set_cons_zero, List.set_cons_succ]
          refine wpAnyK_one (i := 2) (by kernel_rfl) rfl (fun K hK => ?_)
          (try simp only [List.getElem_toArray, List.getElem_cons_zero, List.getElem_cons_succ, Act.put, List.setIfInBounds_toArray, List.set_cons_zero, List.set_cons_succ])
          go_simp
          refine PL.out.mono ?_
          intro e9 w9 h9
          obtain ⟨p9, c9, rfl, s9, b9⟩ := plq17_row HFT.out.1 h9
          have HA9 : Hid (Below wA.heap.size wA w9) := HA8d.out.trans (b9.mono HA8d.out.size)
          refine hK.out _ _ (fun _ => (HCE.out _ HA9.out).2.1) (fun hHeld0 => ?_)
          have hHeld := hHeld0 (by decide)
          clear hHeld0 hK K
          (try simp only [List.getElem_toArray, List.getElem_cons_zero, List.getElem_cons_succ, Act.put, List.setIfInBounds_toArray, List.set_cons_zero, List.set_cons_succ])
          refine wpAnyK_one (i := 3) (by kernel_rfl) rfl (fun K hK => ?_)
          (try simp only [List.getElem_toArray, List.getElem_cons_zero, List.getElem_cons_succ, Act.put, List.setIfInBounds_toArray, List.set_cons_zero, List.set_cons_succ])
          go_simp
          refine hK.out _ _ (fun _ => (HCE.out _ HA9.out).2.1) (fun hHeld0 => ?_)
          have hHeld := hHeld0 (by decide)
          clear hHeld0 hK K
          (try simp only [List.getElem_toArray, List.getElem_cons_zero, List.getElem_cons_succ, Act.put, List.setIfInBounds_toArray, List.set_cons_zero, List.set_cons_succ])
          refine wpAnyK_one (i := 7) (by kernel_rfl) rfl (fun K hK => ?_)
          (try simp only [List.getElem_toArray, List.getElem_cons_zero, List.getElem_cons_succ, Act.put, List.setIfInBounds_toArray, List.set_cons_zero, List.set_cons_succ])
          go_simp
          refine (rsst17 p9 (some ⟨bq, off, none⟩) S.length c9 sc S w9 s9 (HSS.out w9 HA9.out) rfl (by have := HLN.out; omega)).mono ?_
          rintro e10 w10 ⟨rfl, b10⟩
          have HA10 : Hid (Below wA.heap.size wA w10) := HA9.out.trans (b10.mono HA9.out.size)
          refine hK.out _ _ (fun _ => (HCE.out _ HA10.out).2.1) (fun hHeld0 => ?_)
          have hHeld := hHeld0 (by decide)
          clear hHeld0 hK K
          (try simp only [List.getElem_toArray, List.getElem_cons_zero, List.getElem_cons_succ, Act.put, List.setIfInBounds_toArray, List.set_cons_zero, List.set_cons_succ])
          refine wpAnyK_one (i := 8) (by kernel_rfl) rfl (fun K hK => ?_)
          (try simp only [List.getElem_toArray, List.getElem_cons_zero, List.getElem_cons_succ, Act.put, List.setIfInBounds_toArray, List.set_cons_zero, List.set_cons_succ])
          go_simp
          refine hK.out _ _ (fun _ => (HCE.out _ HA10.out).2.1) (fun hHeld0 => ?_)
          have hHeld := hHeld0 (by decide)
          clear hHeld0 hK K
          (try simp only [List.getElem_toArray, List.getElem_cons_zero, List.getElem_cons_succ, Act.put, List.setIfInBounds_toArray, List.set_cons_zero, List.set_cons_succ])
          refine wpAnyK_take (i := 9) (v := .slice p6 L c6) rfl (by kernel_rfl) (by kernel_rfl) (by kernel_rfl) (by kernel_rfl) (fun _ _ _ h => h) (Or.inl ⟨by rfl, fun w hSw => by go_simp⟩) hHeld ?_
          simp only [List.getElem_toArray, List.getElem_cons_zero, List.getElem_cons_succ, Act.put, List.setIfInBounds_toArray, List.set_cons_zero, List.set_cons_succ]
          refine wpAnyK_take (i := 11) (v := .int .i64 window) rfl (by kernel_rfl) (by kernel_rfl) (by kernel_rfl) (by kernel_rfl) (fun _ _ _ h => h) (Or.inl ⟨by rfl, fun w hSw => by go_simp⟩) hHeld ?_
          simp only [List.getElem_toArray, List.getElem_cons_zero, List.getElem_cons_succ, Act.put, List.setIfInBounds_toArray, List.set_cons_zero, List.set_cons_succ]
          refine wpAnyK_take (i := 10) (v := .int .i64 (L : Int)) rfl (by kernel_rfl) (by kernel_rfl) (by kernel_rfl) (by kernel_rfl) (fun _ _ _ h => h) (Or.inl ⟨by rfl, fun w hSw => by go_simp⟩) hHeld ?_
          simp only [List.getElem_toArray, List.getElem_cons_zero, List.getElem_cons_succ, Act.put, List.setIfInBounds_toArray, List.set_cons_zero, List.set_cons_succ]
          refine wpAnyK_one (i := 12) (by kernel_rfl) rfl (fun K hK => ?_)
          (try simp only [List.getElem_toArray, List.getElem_cons_zero, List.getElem_cons_succ, Act.put, List.setIfInBounds_toArray, List.set_cons_zero, List.set_cons_succ])
          go_simp
          refine (MO _).mono ?_
          rintro e11 w11 ⟨rfl, hw11⟩
          subst w11
          refine hK.out _ _ (fun _ => (HCE.out _ HA10.out).2.1) (fun hHeld0 => ?_)
          have hHeld := hHeld0 (by decide)
          clear hHeld0 hK K
          (try simp only [List.getElem_toArray, List.getElem_cons_zero, List.getElem_cons_succ, Act.put, List.setIfInBounds_toArray, List.set_cons_zero, List.set_cons_succ])
          refine wpAnyK_one (i := 13) (by kernel_rfl) rfl (fun K hK => ?_)
          (try simp only [List.getElem_toArray, List.getElem_cons_zero, List.getElem_cons_succ, Act.put, List.setIfInBounds_toArray, List.set_cons_zero, List.set_cons_succ])
          go_simp
          refine hK.out _ _ (fun _ => (HCE.out _ HA10.out).2.1) (fun hHeld0 => ?_)
          have hHeld := hHeld0 (by decide)
          clear hHeld0 hK K
          (try simp only [List.getElem_toArray, List.getElem_cons_zero, List.getElem_cons_succ, Act.put, List.setIfInBounds_toArray, List.set_cons_zero, List.set_cons_succ])
          refine wpAnyK_one (i := 14) (by kernel_rfl) rfl (fun K hK => ?_)
          (try simp only [List.getElem_toArray, List.getElem_cons_zero, List.getElem_cons_succ, Act.put, List.setIfInBounds_toArray, List.set_cons_zero, List.set_cons_succ])
          go_simp
          refine hK.out _ _ (fun _ => (HCE.out _ HA10.out).2.1) (fun hHeld0 => ?_)
          have hHeld := hHeld0 (by decide)
          clear hHeld0 hK K
          (try simp only [List.getElem_toArray, List.getElem_cons_zero, List.getElem_cons_succ, Act.put, List.setIfInBounds_toArray, List.set_cons_zero, List.set_cons_succ])
          refine wpAnyK_one (i := 15) (by kernel_rfl) rfl (fun K hK => ?_)
          (try simp only [List.getElem_toArray, List.getElem_cons_zero, List.getElem_cons_succ, Act.put, List.setIfInBounds_toArray, List.set_cons_zero, List.set_cons_succ])
          go_simp
          refine hK.out _ _ (fun _ => (HCE.out _ HA10.out).2.1) (fun hHeld0 => ?_)
          have hHeld := hHeld0 (by decide)
          clear hHeld0 hK K
          (try simp only [List.getElem_toArray, List.getElem_cons_zero, List.getElem_cons_succ, Act.put, List.setIfInBounds_toArray, List.set_cons_zero, List.set_cons_succ])
          refine wpAnyK_one (i := 16) (by kernel_rfl) rfl (fun K hK => ?_)
          (try simp only [List.getElem_toArray, List.getElem_cons_zero, List.getElem_cons_succ, Act.put, List.setIfInBounds_toArray, List.set_cons_zero, List.set_cons_succ])
          go_simp
          refine (plives17 w10).mono ?_
          rintro e12 w12 ⟨rfl, b12⟩
          have HA12 : Hid (Below wA.heap.size wA w12) := HA10.out.trans (b12.mono HA10.out.size)
          refine hK.out _ _ (fun _ => (HCE.out _ HA12.out).2.1) (fun hHeld0 => ?_)
          have hHeld := hHeld0 (by decide)
          clear hHeld0 hK K
          (try simp only [List.getElem_toArray, List.getElem_cons_zero, List.getElem_cons_succ, Act.put, List.setIfInBounds_toArray, List.set_cons_zero, List.set_cons_succ])
          refine wpAnyK_one (i := 17) (by kernel_rfl) rfl (fun K hK => ?_)
          (try simp only [List.getElem_toArray, List.getElem_cons_zero, List.getElem_cons_succ, Act.put, List.setIfInBounds_toArray, List.set_cons_zero, List.set_cons_succ])
          go_simp
          refine hK.out _ _ (fun _ => (HCE.out _ HA12.out).2.1) (fun hHeld0 => ?_)
          have hHeld := hHeld0 (by decide)
          clear hHeld0 hK K
          (try simp only [List.getElem_toArray, List.getElem_cons_zero, List.getElem_cons_succ, Act.put, List.setIfInBounds_toArray, List.set_cons_zero, List.set_cons_succ])
          refine wpAnyK_one (i := 18) (by kernel_rfl) rfl (fun K hK => ?_)
          (try simp only [List.getElem_toArray, List.getElem_cons_zero, List.getElem_cons_succ, Act.put, List.setIfInBounds_toArray, List.set_cons_zero, List.set_cons_succ])
          go_simp
          refine hK.out _ _ (fun _ => (HCE.out _ HA12.out).2.1) (fun hHeld0 => ?_)
          clear hHeld0 hK K
          (try simp only [List.getElem_toArray, List.getElem_cons_zero, List.getElem_cons_succ, Act.put, List.setIfInBounds_toArray, List.set_cons_zero, List.set_cons_succ])
          refine wpAnyK_done (by kernel_rfl) ?_ _
          go_wp2_with fail
          go_ret
          exact ⟨rfl, HBL.out.trans (HA12.out.mono HBL.out.size)⟩
        · rw [cc17_no hW] at CK
          clear hW
          go_wp2_with fail
          rw [HWG.out, HB7.out]
          refine CK.mono ?_
          rintro e5 w5 ⟨rfl, b5⟩
          go_wp2_with fail
          refine (MO _).mono ?_
          rintro e6 w6 ⟨rfl, hw6⟩
          subst w6
          go_wp2_with fail
          refine (plives17 w5).mono ?_
          rintro e7 w7 ⟨rfl, b7'⟩
          have HB5 : Below wA.heap.size wA w5 := HG.out.trans (b5.mono HG.out.size)
          go_wp2_with fail
          go_ret
          exact ⟨rfl, HBL.out.trans ((HB5.trans (b7'.mono HB5.size)).mono HBL.out.size)⟩
    · have MO := fun W => (pmost17 window W).2 hin
      by_cases h64 : window < 64
      · clear hin
        go_wp2_with fail
        refine (MO _).mono ?_
        rintro e5 w5 ⟨rfl, hw5⟩
        subst w5
        rw [HWG.out]
        go_wp2_with fail
        refine (plives17 wG).mono ?_
        rintro e6 w6 ⟨rfl, b6⟩
        go_wp2_with fail
        go_ret
        exact ⟨rfl, HBL.out.trans ((HG.out.trans (b6.mono HG.out.size)).mono HBL.out.size)⟩
      · have h65 : 65536 < window := by omega
        clear hin
        go_wp2_with fail
        refine (MO _).mono ?_
        rintro e5 w5 ⟨rfl, hw5⟩
        subst w5
        rw [HWG.out]
        go_wp2_with fail
        refine (plives17 wG).mono ?_
        rintro e6 w6 ⟨rfl, b6⟩
        go_wp2_with fail
        go_ret
        exact ⟨rfl, HBL.out.trans ((HG.out.trans (b6.mono HG.out.size)).mono HBL.out.size)⟩
  · have he0 : ((un17 z.length z []).1 == 0) = false := by simp [he]
    have hT : (un17 z.length z []).2 = [] := un17_err _ _ _ he
    rw [hT]
    generalize (un17 z.length z []).1 = er at *
    have HX : Hid (Below wA.heap.size wA w1) := HB1.out
    have l0 : ([] : List St16).length = 0 := rfl
    rw [l0]
    clear he hfit s1 hT hTL l0 HB1
    obtain ⟨a0, a1, a2, a3⟩ := HCE.out w1 HX.out
    go_wp2_with fail
    refine (HC1.out w1 HX.out).mono ?_
    rintro e4 w4 ⟨v1, v2, v3, rfl, hw, b4'⟩
    obtain ⟨sb, sd, db, dd, xb, xd, eq1, eq2, eq3, hEd, kd, kx⟩ := wn17_ed hw HFT.out.1 HFT.out.2.1 HFT.out.2.2.1 (by have := HLN.out; omega) (by have := HLN.out; omega) (by have := HLN.out; omega)
    subst eq1; subst eq2; subst eq3
    obtain ⟨wG, hwG⟩ : ∃ wG, wG = w4.alloc (.cells #[.int .i64 pos, .slice sb S.length sd, .slice db D.length dd, .slice xb X.length xd] 42) := ⟨_, rfl⟩
    have cG : Cb16 w4 #[.int .i64 pos, .slice sb S.length sd, .slice db D.length dd, .slice xb X.length xd] 42 wG := by rw [hwG]; exact cb16 _ _ _
    obtain ⟨b7, hb7⟩ : ∃ b7, b7 = w4.heap.size := ⟨_, rfl⟩
    have q7 : wG.heap[b7]? = some (.cells #[.int .i64 pos, .slice sb S.length sd, .slice db D.length dd, .slice xb X.length xd] 42 (0, 0)) := by rw [hb7]; exact cG.cl
    have HX4 : Hid (Below wA.heap.size wA w4) := HX.out.trans (b4'.mono HX.out.size)
    have HG : Hid (Below wA.heap.size wA wG) := HX4.out.trans (cG.bl.mono HX4.out.size)
    have HC7 : Hid (∀ W, Below wG.heap.size wG W → W.cell? ⟨b7, 0, none⟩ = some (.int .i64 pos) ∧ W.cell? ⟨b7, 1, none⟩ = some (.slice sb S.length sd) ∧ W.cell? ⟨b7, 2, none⟩ = some (.slice db D.length dd) ∧ W.cell? ⟨b7, 3, none⟩ = some (.slice xb X.length xd)) := fun W hW => four_cells ((hW.block b7 (Array.getElem?_eq_some_iff.1 q7).1).trans q7)
    have HSG : Hid (∀ W, Below wG.heap.size wG W → SegS W sb S) := fun W hW => ((hEd.old cG.bl).old hW).ss
    have HWG : Hid (w4.alloc (.cells #[.int .i64 pos, .slice sb S.length sd, .slice db D.length dd, .slice xb X.length xd] 42) = wG) := hwG.symm
    have HB7 : Hid (w4.heap.size = b7) := hb7.symm
    clear hw b4' hEd hwG cG hb7 q7 a0 a1 a2 a3 kd kx
    by_cases hin : 64 ≤ window ∧ window ≤ 65536
    · have h64 : 64 ≤ window := hin.1
      have h65 : window ≤ 65536 := hin.2
      have MO := fun W => (pmost17 window W).1 hin
      obtain ⟨n, hn⟩ : ∃ n, n = D.length + X.length := ⟨_, rfl⟩
      have hsn : IntKind.i64.wrap ((D.length : Int) + (X.length : Int)) = (n : Int) := by rw [IntWalk.i64_in _ (by have := HLN.out; omega)]; omega
      have HN : Hid (n = D.length + X.length) := hn
      have h6 : IntKind.i64.wrap (6 * window) = 6 * window := IntWalk.i64_in _ (by omega)
      obtain ⟨d0, d1, d2, d3⟩ := HCE.out wG HG.out
      clear hin hn
      rw [← HWG.out] at d0 d1 d2 d3
      by_cases hgt : window < (n : Int)
      · go_wp2_with fail
        refine (MO _).mono ?_
        rintro e5 w5 ⟨rfl, hw5⟩
        subst w5
        rw [HWG.out]
        go_wp2_with fail
        refine (plives17 wG).mono ?_
        rintro e6 w6 ⟨rfl, b6⟩
        go_wp2_with fail
        go_ret
        exact ⟨rfl, HBL.out.trans ((HG.out.trans (b6.mono HG.out.size)).mono HBL.out.size)⟩
      · have CK := pck17 (sc := sd) (dc := dd) (xc := xd) (da := db) (xa := xb) (m := D.length) (k := X.length) pos 16777216 (n : Int) wG (HSG.out wG (Below.refl _ _)) rfl (by have := HLN.out; omega) (by have := HLN.out; omega) (by have := HLN.out; omega) (by omega)
        obtain ⟨g0, g1, g2, g3⟩ := HC7.out wG (Below.refl _ _)
        rw [← HWG.out] at g0 g1 g2 g3
        rw [← HB7.out] at g0 g1 g2 g3
        by_cases hW : W17 pos S D.length X.length 16777216 (n : Int)
        · rw [cc17_ok hW] at CK
          have hok := w17_cok hW
          have hall : S.all cok17 = true := List.all_eq_true.2 hok
          have hcn : cn17 S = encA (nm17 S) := by unfold cn17; rw [if_pos hall]
          have hce : ce17 S = 0 := by unfold ce17; rw [if_pos hall]
          have hlen := w17_ctl hW
          have hback := un17_back S (encA (nm17 S)).length [] hok (Nat.le_refl _)
          rw [List.nil_append, ← hcn] at hback
          rw [← hcn] at hlen
          obtain ⟨s, T, hST⟩ := w17_cons hW
          have hfst : decL 0 0 (cn17 S) = (s.1, ((encI s.1).length : Int), 0) := by rw [hcn, hST]; exact first17 (hok s (by rw [hST]; simp))
          have hs1 := (cok17_iff s).1 (hok s (by rw [hST]; simp))
          have hl1 := encI_len s.1
          have hS0 : 0 < S.length := by rw [hST]; simp
          have hget : S.getD 0 z16 = s := by rw [hST]; rfl
          have HLC : Hid ((cn17 S).length ≤ 6 * n) := by rw [HN.out]; exact hlen
          clear hW hok hall hcn hlen hST
          go_wp2_with fail
          rw [HWG.out, HB7.out]
          refine CK.mono ?_
          rintro e5 w5 ⟨rfl, b5⟩
          have HB5 : Hid (Below wG.heap.size wG w5) := b5
          clear g0 g1 g2 g3 d0 d1 d2 d3 b5 CK
          obtain ⟨g0, g1, g2, g3⟩ := HC7.out w5 HB5.out
          have CT := pctl17 sb S.length sd S w5 (HSG.out w5 HB5.out) rfl (by have := HLN.out; omega)
          go_wp2_with fail
          refine CT.mono ?_
          intro e6 w6 h6'
          obtain ⟨p6, c6, rfl, o6, s6, b6⟩ := cnq17_row h6'
          have hc6 := own_cap17 (sz := 1) o6 (cn17_bd S)
          have hn6 := own_nil17 o6
          rw [hce]
          have HB6 : Hid (Below wG.heap.size wG w6) := HB5.out.trans (b6.mono HB5.out.size)
          have UC2 := puc17 p6 (cn17 S).length c6 (cn17 S) w6 s6 rfl hc6 hn6 (by have := HLC.out; have := HLN.out; have := HN.out; omega)
          clear g0 g1 g2 g3 h6' o6 b6 CT hce hc6 hn6
          go_wp2_with fail
          refine UC2.mono ?_
          intro e7 w7 h7
          obtain ⟨p7, c7, rfl, s7, b7'⟩ := ucq17_row h7
          rw [hback] at s7
          rw [hback]
          simp only at s7 ⊢
          have HB7' : Hid (Below wG.heap.size wG w7) := HB6.out.trans (b7'.mono HB6.out.size)
          have DC := decode_any p6 (cn17 S) c6 w7 (s6.old b7') (by have := HLC.out; have := HLN.out; have := HN.out; omega)
          rw [hfst] at DC
          simp only at DC
          have HS7 : Hid (SegS w7 p7 S) := s7
          clear UC2 h7 s6 s7 b7' hback hfst
          go_wp2_with fail
          refine DC.mono ?_
          rintro e8 w8 ⟨rfl, b8⟩
          have HB8 : Hid (Below wG.heap.size wG w8) := HB7'.out.trans (b8.mono HB7'.out.size)
          have HA8 : Hid (Below wA.heap.size wA w8) := HG.out.trans (HB8.out.mono HG.out.size)
          have HS8 : Hid (SegS w8 p7 S) := HS7.out.old b8
          obtain ⟨a0, a1, a2, a3⟩ := HCE.out w8 HA8.out
          obtain ⟨bq, off, hsa, hT⟩ := (HSS.out w8 HA8.out).at_ 0 hS0
          rw [hget] at hT
          have t0 := hT.c0
          simp only [Nat.zero_mul, Nat.add_zero] at t0
          obtain ⟨n1, hn1⟩ : ∃ n1, n1 = (encI s.1).length := ⟨_, rfl⟩
          rw [← hn1] at hl1 ⊢
          have hl2 : ¬ ((n1 : Int) < 1) := by omega
          have hws : IntKind.i64.wrap s.1 = s.1 := IntWalk.i64_in _ (by omega)
          have hsl : (0 : Int) < (S.length : Int) := by omega
          obtain ⟨L, hL⟩ : ∃ L, L = (cn17 S).length := ⟨_, rfl⟩
          rw [← hL] at HLC ⊢
          have hle : (L : Int) ≤ 6 * window := by have := HLC.out; omega
          subst hsa
          generalize s.1 = A at *
          clear DC b8 hn1 hT hget hL hl1 hs1 HS7
          go_wp2_with fail
          have HA8d : Hid (Below wA.heap.size wA w8.drew) := HA8.out.drew
          have PL := pplain17 (sa := p7) (n := S.length) (sc := c7) (da := none) (m := 0) (dc := 0) (xa := none) (k := 0) (xc := 0) w8.drew HS8.out.drew rfl (by have := HLN.out; omega)
          have PL : Hid (Calls Try.prog 13 #[.agg #[.slice p7 S.length c7, .slice none 0 0, .slice none 0 0]] w8.drew (PlQ17 w8.drew S (.slice none 0 0) (.slice none 0 0))) := PL
          clear a0 a2 a3 t0
          refine plain_region16 (fun V => V.cell? ⟨b4, 1, none⟩ = some (.slice (some ⟨bq, off, none⟩) S.length sc)) 18 (by kernel_rfl) (HCE.out _ HA8d.out).2.1 (fun hHeld => ?_)
          refine wpAnyK_take (i := 0) (v := .slice p7 S.length c7) rfl (by kernel_rfl) (by kernel_rfl) (by kernel_rfl) (by kernel_rfl) (fun _ _ _ h => h) (Or.inl ⟨by rfl, fun w hSw => by go_simp⟩) hHeld ?_
          simp only [List.getElem_toArray, List.getElem_cons_zero, Act.put, List.setIfInBounds_toArray, List.set_cons_zero, List.set_cons_succ]
          refine wpAnyK_take (i := 1) (v := .agg #[.slice p7 S.length c7, .slice none 0 0, .slice none 0 0]) rfl (by kernel_rfl) (by kernel_rfl) (by kernel_rfl) (by kernel_rfl) (fun _ _ _ h => h) (Or.inl ⟨by rfl, fun w hSw => by go_simp⟩) hHeld ?_
          simp only [List.getElem_toArray, List.getElem_cons_zero, List.getElem_cons_succ, Act.put, List.setIfInBounds_toArray, List.set_cons_zero, List.set_cons_succ]
          refine wpAnyK_take (i := 4) (v := .pointer (some ⟨b4, 1, none⟩)) rfl (by kernel_rfl) (by kernel_rfl) (by kernel_rfl) (by kernel_rfl) (fun _ _ _ h => h) (Or.inl ⟨by rfl, fun w hSw => by go_simp⟩) hHeld ?_
          simp only [List.getElem_toArray, List.getElem_cons_zero, List.getElem_cons_succ, Act.put, List.setIfInBounds_toArray, List.set_cons_zero, List.set_cons_succ]
          refine wpAnyK_take (i := 5) (v := .pointer (some ⟨b4, 1, none⟩)) rfl (by kernel_rfl) (by kernel_rfl) (by kernel_rfl) (by kernel_rfl) (fun _ _ _ h => h) (Or.inl ⟨by rfl, fun w hSw => by go_simp⟩) hHeld ?_
          simp only [List.getElem_toArray, List.getElem_cons_zero, List.getElem_cons_succ, Act.put, List.setIfInBounds_toArray, List.set_cons_zero, List.set_cons_succ]
          refine wpAnyK_take (i := 6) (v := .slice (some ⟨bq, off, none⟩) S.length sc) rfl (by kernel_rfl) (by kernel_rfl) (by kernel_rfl) (by kernel_rfl) (fun _ _ _ h => h) (Or.inl ⟨by rfl, fun w hSw => by go_simp⟩) hHeld ?_
          simp only [List.getElem_toArray, List.getElem_cons_zero, List.getElem_cons_succ, Act.put, List.setIfInBounds_toArray, List.set_cons_zero, List.set_cons_succ]
          refine wpAnyK_one (i := 2) (by kernel_rfl) rfl (fun K hK => ?_)
          (try simp only [List.getElem_toArray, List.getElem_cons_zero, List.getElem_cons_succ, Act.put, List.setIfInBounds_toArray, List.set_cons_zero, List.set_cons_succ])
          go_simp
          refine PL.out.mono ?_
          intro e9 w9 h9
          obtain ⟨p9, c9, rfl, s9, b9⟩ := plq17_row HFT.out.1 h9
          have HA9 : Hid (Below wA.heap.size wA w9) := HA8d.out.trans (b9.mono HA8d.out.size)
          refine hK.out _ _ (fun _ => (HCE.out _ HA9.out).2.1) (fun hHeld0 => ?_)
          have hHeld := hHeld0 (by decide)
          clear hHeld0 hK K
          (try simp only [List.getElem_toArray, List.getElem_cons_zero, List.getElem_cons_succ, Act.put, List.setIfInBounds_toArray, List.set_cons_zero, List.set_cons_succ])
          refine wpAnyK_one (i := 3) (by kernel_rfl) rfl (fun K hK => ?_)
          (try simp only [List.getElem_toArray, List.getElem_cons_zero, List.getElem_cons_succ, Act.put, List.setIfInBounds_toArray, List.set_cons_zero, List.set_cons_succ])
          go_simp
          refine hK.out _ _ (fun _ => (HCE.out _ HA9.out).2.1) (fun hHeld0 => ?_)
          have hHeld := hHeld0 (by decide)
          clear hHeld0 hK K
          (try simp only [List.getElem_toArray, List.getElem_cons_zero, List.getElem_cons_succ, Act.put, List.setIfInBounds_toArray, List.set_cons_zero, List.set_cons_succ])
          refine wpAnyK_one (i := 7) (by kernel_rfl) rfl (fun K hK => ?_)
          (try simp only [List.getElem_toArray, List.getElem_cons_zero, List.getElem_cons_succ, Act.put, List.setIfInBounds_toArray, List.set_cons_zero, List.set_cons_succ])
          go_simp
          refine (rsst17 p9 (some ⟨bq, off, none⟩) S.length c9 sc S w9 s9 (HSS.out w9 HA9.out) rfl (by have := HLN.out; omega)).mono ?_
          rintro e10 w10 ⟨rfl, b10⟩
          have HA10 : Hid (Below wA.heap.size wA w10) := HA9.out.trans (b10.mono HA9.out.size)
          refine hK.out _ _ (fun _ => (HCE.out _ HA10.out).2.1) (fun hHeld0 => ?_)
          have hHeld := hHeld0 (by decide)
          clear hHeld0 hK K
          (try simp only [List.getElem_toArray, List.getElem_cons_zero, List.getElem_cons_succ, Act.put, List.setIfInBounds_toArray, List.set_cons_zero, List.set_cons_succ])
          refine wpAnyK_one (i := 8) (by kernel_rfl) rfl (fun K hK => ?_)
          (try simp only [List.getElem_toArray, List.getElem_cons_zero, List.getElem_cons_succ, Act.put, List.setIfInBounds_toArray, List.set_cons_zero, List.set_cons_succ])
          go_simp
          refine hK.out _ _ (fun _ => (HCE.out _ HA10.out).2.1) (fun hHeld0 => ?_)
          have hHeld := hHeld0 (by decide)
          clear hHeld0 hK K
          (try simp only [List.getElem_toArray, List.getElem_cons_zero, List.getElem_cons_succ, Act.put, List.setIfInBounds_toArray, List.set_cons_zero, List.set_cons_succ])
          refine wpAnyK_take (i := 9) (v := .slice p6 L c6) rfl (by kernel_rfl) (by kernel_rfl) (by kernel_rfl) (by kernel_rfl) (fun _ _ _ h => h) (Or.inl ⟨by rfl, fun w hSw => by go_simp⟩) hHeld ?_
          simp only [List.getElem_toArray, List.getElem_cons_zero, List.getElem_cons_succ, Act.put, List.setIfInBounds_toArray, List.set_cons_zero, List.set_cons_succ]
          refine wpAnyK_take (i := 11) (v := .int .i64 window) rfl (by kernel_rfl) (by kernel_rfl) (by kernel_rfl) (by kernel_rfl) (fun _ _ _ h => h) (Or.inl ⟨by rfl, fun w hSw => by go_simp⟩) hHeld ?_
          simp only [List.getElem_toArray, List.getElem_cons_zero, List.getElem_cons_succ, Act.put, List.setIfInBounds_toArray, List.set_cons_zero, List.set_cons_succ]
          refine wpAnyK_take (i := 10) (v := .int .i64 (L : Int)) rfl (by kernel_rfl) (by kernel_rfl) (by kernel_rfl) (by kernel_rfl) (fun _ _ _ h => h) (Or.inl ⟨by rfl, fun w hSw => by go_simp⟩) hHeld ?_
          simp only [List.getElem_toArray, List.getElem_cons_zero, List.getElem_cons_succ, Act.put, List.setIfInBounds_toArray, List.set_cons_zero, List.set_cons_succ]
          refine wpAnyK_one (i := 12) (by kernel_rfl) rfl (fun K hK => ?_)
          (try simp only [List.getElem_toArray, List.getElem_cons_zero, List.getElem_cons_succ, Act.put, List.setIfInBounds_toArray, List.set_cons_zero, List.set_cons_succ])
          go_simp
          refine (MO _).mono ?_
          rintro e11 w11 ⟨rfl, hw11⟩
          subst w11
          refine hK.out _ _ (fun _ => (HCE.out _ HA10.out).2.1) (fun hHeld0 => ?_)
          have hHeld := hHeld0 (by decide)
          clear hHeld0 hK K
          (try simp only [List.getElem_toArray, List.getElem_cons_zero, List.getElem_cons_succ, Act.put, List.setIfInBounds_toArray, List.set_cons_zero, List.set_cons_succ])
          refine wpAnyK_one (i := 13) (by kernel_rfl) rfl (fun K hK => ?_)
          (try simp only [List.getElem_toArray, List.getElem_cons_zero, List.getElem_cons_succ, Act.put, List.setIfInBounds_toArray, List.set_cons_zero, List.set_cons_succ])
          go_simp
          refine hK.out _ _ (fun _ => (HCE.out _ HA10.out).2.1) (fun hHeld0 => ?_)
          have hHeld := hHeld0 (by decide)
          clear hHeld0 hK K
          (try simp only [List.getElem_toArray, List.getElem_cons_zero, List.getElem_cons_succ, Act.put, List.setIfInBounds_toArray, List.set_cons_zero, List.set_cons_succ])
          refine wpAnyK_one (i := 14) (by kernel_rfl) rfl (fun K hK => ?_)
          (try simp only [List.getElem_toArray, List.getElem_cons_zero, List.getElem_cons_succ, Act.put, List.setIfInBounds_toArray, List.set_cons_zero, List.set_cons_succ])
          go_simp
          refine hK.out _ _ (fun _ => (HCE.out _ HA10.out).2.1) (fun hHeld0 => ?_)
          have hHeld := hHeld0 (by decide)
          clear hHeld0 hK K
          (try simp only [List.getElem_toArray, List.getElem_cons_zero, List.getElem_cons_succ, Act.put, List.setIfInBounds_toArray, List.set_cons_zero, List.set_cons_succ])
          refine wpAnyK_one (i := 15) (by kernel_rfl) rfl (fun K hK => ?_)
          (try simp only [List.getElem_toArray, List.getElem_cons_zero, List.getElem_cons_succ, Act.put, List.setIfInBounds_toArray, List.set_cons_zero, List.set_cons_succ])
          go_simp
          refine hK.out _ _ (fun _ => (HCE.out _ HA10.out).2.1) (fun hHeld0 => ?_)
          have hHeld := hHeld0 (by decide)
          clear hHeld0 hK K
          (try simp only [List.getElem_toArray, List.getElem_cons_zero, List.getElem_cons_succ, Act.put, List.setIfInBounds_toArray, List.set_cons_zero, List.set_cons_succ])
          refine wpAnyK_one (i := 16) (by kernel_rfl) rfl (fun K hK => ?_)
          (try simp only [List.getElem_toArray, List.getElem_cons_zero, List.getElem_cons_succ, Act.put, List.setIfInBounds_toArray, List.set_cons_zero, List.set_cons_succ])
          go_simp
          refine (plives17 w10).mono ?_
          rintro e12 w12 ⟨rfl, b12⟩
          have HA12 : Hid (Below wA.heap.size wA w12) := HA10.out.trans (b12.mono HA10.out.size)
          refine hK.out _ _ (fun _ => (HCE.out _ HA12.out).2.1) (fun hHeld0 => ?_)
          have hHeld := hHeld0 (by decide)
          clear hHeld0 hK K
          (try simp only [List.getElem_toArray, List.getElem_cons_zero, List.getElem_cons_succ, Act.put, List.setIfInBounds_toArray, List.set_cons_zero, List.set_cons_succ])
          refine wpAnyK_one (i := 17) (by kernel_rfl) rfl (fun K hK => ?_)
          (try simp only [List.getElem_toArray, List.getElem_cons_zero, List.getElem_cons_succ, Act.put, List.setIfInBounds_toArray, List.set_cons_zero, List.set_cons_succ])
          go_simp
          refine hK.out _ _ (fun _ => (HCE.out _ HA12.out).2.1) (fun hHeld0 => ?_)
          have hHeld := hHeld0 (by decide)
          clear hHeld0 hK K
          (try simp only [List.getElem_toArray, List.getElem_cons_zero, List.getElem_cons_succ, Act.put, List.setIfInBounds_toArray, List.set_cons_zero, List.set_cons_succ])
          refine wpAnyK_one (i := 18) (by kernel_rfl) rfl (fun K hK => ?_)
          (try simp only [List.getElem_toArray, List.getElem_cons_zero, List.getElem_cons_succ, Act.put, List.setIfInBounds_toArray, List.set_cons_zero, List.set_cons_succ])
          go_simp
          refine hK.out _ _ (fun _ => (HCE.out _ HA12.out).2.1) (fun hHeld0 => ?_)
          clear hHeld0 hK K
          (try simp only [List.getElem_toArray, List.getElem_cons_zero, List.getElem_cons_succ, Act.put, List.setIfInBounds_toArray, List.set_cons_zero, List.set_cons_succ])
          refine wpAnyK_done (by kernel_rfl) ?_ _
          go_wp2_with fail
          go_ret
          exact ⟨rfl, HBL.out.trans (HA12.out.mono HBL.out.size)⟩
        · rw [cc17_no hW] at CK
          clear hW
          go_wp2_with fail
          rw [HWG.out, HB7.out]
          refine CK.mono ?_
          rintro e5 w5 ⟨rfl, b5⟩
          go_wp2_with fail
          refine (MO _).mono ?_
          rintro e6 w6 ⟨rfl, hw6⟩
          subst w6
          go_wp2_with fail
          refine (plives17 w5).mono ?_
          rintro e7 w7 ⟨rfl, b7'⟩
          have HB5 : Below wA.heap.size wA w5 := HG.out.trans (b5.mono HG.out.size)
          go_wp2_with fail
          go_ret
          exact ⟨rfl, HBL.out.trans ((HB5.trans (b7'.mono HB5.size)).mono HBL.out.size)⟩
    · have MO := fun W => (pmost17 window W).2 hin
      by_cases h64 : window < 64
      · clear hin
        go_wp2_with fail
        refine (MO _).mono ?_
        rintro e5 w5 ⟨rfl, hw5⟩
        subst w5
        rw [HWG.out]
        go_wp2_with fail
        refine (plives17 wG).mono ?_
        rintro e6 w6 ⟨rfl, b6⟩
        go_wp2_with fail
        go_ret
        exact ⟨rfl, HBL.out.trans ((HG.out.trans (b6.mono HG.out.size)).mono HBL.out.size)⟩
      · have h65 : 65536 < window := by omega
        clear hin
        go_wp2_with fail
        refine (MO _).mono ?_
        rintro e5 w5 ⟨rfl, hw5⟩
        subst w5
        rw [HWG.out]
        go_wp2_with fail
        refine (plives17 wG).mono ?_
        rintro e6 w6 ⟨rfl, b6⟩
        go_wp2_with fail
        go_ret
        exact ⟨rfl, HBL.out.trans ((HG.out.trans (b6.mono HG.out.size)).mono HBL.out.size)⟩
end Go.Proofs.Ytodioefbfchckaa
