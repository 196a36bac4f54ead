import Derived.Test.YtcifalelnfeggaaGreatDoorPu
import Derived.Test.YtcifalelnfeggaaGreatDoorPa
import Derived.Deep.RegionHeld3
import Derived.Deep.RegionWith
namespace Go.Proofs.YtcifalelnfeggaaGreatDoor
open Go.RowKit
set_option linter.unusedVariables false

/-! BlockWrites. -/
theorem bN11_9 (j : Nat) : List.replicate j true ++ bN 1 1 = List.replicate (j + 1) true := by rw [List.replicate_succ']; rfl
def len9 : Value → Nat
  | .slice _ n _ => n
  | _ => 0
set_option maxRecDepth 100000 in
set_option maxHeartbeats 64000000 in
theorem blockWrites_walk (w : World) (tab : TabS w ∧ TabO w) (b : Int) (b1 : -9223372036854775808 ≤ b) (b2 : b ≤ 9223372036854775807) (a : Option Addr) (m cap : Nat) (K G : Nat → Int) (La : Nat → Bool) (Ta : Nat → Option Addr) (TL : Nat → List Tok7) (Tc : Nat → Nat) (hs : SegBl w a m K G La Ta TL Tc) (hm : m ≤ 1048576) (hT : tb9 TL m ≤ 3000000000) (hL : ∀ i, i < m → (TL i).length ≤ 1048576) :
    Calls Tryz.prog 7 #[.int .i64 b, .slice a m cap] w fun e w' => e = .returned (.bool true) ∧ Below w.heap.size w w' := by
  obtain ⟨iu, hiu, hu0, hu1, hu2⟩ := info_parts info_u8w
  have HT : Hid (TabS w ∧ TabO w) := tab
  have h2w : 2 ≤ w.heap.size := by
    have : 1 < w.heap.size := by simpa using World.block_lt_of_cell? w _ (tab.2.at8 0 (by omega))
    omega
  have hr1 : -7 ≤ b.tmod 8 ∧ b.tmod 8 ≤ 7 := by
    have h1 := Int.tmod_lt_of_pos b (show (0 : Int) < 8 by omega)
    have h2 := Int.lt_tmod_of_pos b (show (0 : Int) < 8 by omega)
    omega
  obtain ⟨r, hr⟩ : ∃ r, b.tmod 8 = r := ⟨_, rfl⟩
  rw [hr] at hr1
  have HSB : Hid (SegBl w a m K G La Ta TL Tc) := hs
  have HTB : Hid (tb9 TL m ≤ 3000000000) := hT
  have HLL : Hid (∀ i, i < m → (TL i).length ≤ 1048576) := hL
  clear tab hs hT hL
  go_enter Tryz.func7, Tryz.ntmps7
  go_wp2_with fail
  obtain ⟨W, hW⟩ : ∃ W, W = (w.alloc (.cells #[.slice none 0 0, .int .u64 0, .int .i64 0] 64)).alloc (.cells #[.slice none 0 0] 67) := ⟨_, rfl⟩
  rw [← hW]
  have hW2 : W.heap.size = w.heap.size + 2 := by rw [hW]; simp
  have BW : Below w.heap.size w W := by
    rw [hW]
    exact (below_box8 w _).trans ((below_box8 _ _).mono (by simp))
  have g1 : W.heap[w.heap.size]? = some (.cells #[.slice none 0 0, .int .u64 0, .int .i64 0] 64 (0, 0)) := by
    rw [hW, heap_alloc_old _ _ (by simp)]
    exact heap_alloc_new _ _
  have g2 : W.heap[w.heap.size + 1]? = some (.cells #[.slice none 0 0] 67 (0, 0)) := by
    have := heap_alloc_new (w.alloc (.cells #[.slice none 0 0, .int .u64 0, .int .i64 0] 64)) (.cells #[.slice none 0 0] 67)
    rw [show (w.alloc (.cells #[.slice none 0 0, .int .u64 0, .int .i64 0] 64)).heap.size = w.heap.size + 1 by simp, ← hW] at this
    exact this
  have HP0 : Pair W w.heap.size (w.heap.size + 1) (w.heap.size + 2) (.slice none 0 0) (.slice none 0 0) [] := ⟨WrL.new g1 (by omega), RwL.new g2 (by omega), fun k e => by simp [Value.ownBlock] at e⟩
  have HN1 : Hid (w.heap.size ≠ w.heap.size + 1 ∧ w.heap.size < w.heap.size + 2 ∧ w.heap.size + 1 < w.heap.size + 2) := ⟨by omega, by omega, by omega⟩
  have HKB : Hid (∀ (wa wz : World) (v u : Value) (L : List Bool), Pair wa w.heap.size (w.heap.size + 1) (w.heap.size + 2) v u L → Below w.heap.size w wa → Kp (PS w.heap.size (w.heap.size + 1) v u) wa wz → Below w.heap.size w wz) := fun wa wz v u L hp hb hk => by
    have hvl := hp.g.own_lt
    have hxl := hp.x.own_lt
    exact hb.trans (hk.below (fun k e => by
      rcases e with (e | e) | (e | e)
      · omega
      · have := (hvl _ e).1; omega
      · omega
      · have := (hxl _ e).1; omega) hb.size)
  clear hW g1 g2
  go_loopw [7] (fun ti wr => ∃ (j : Nat) (v u : Value), j ≤ 7 ∧ ti = .int .i64 (j : Int) ∧ Pair wr w.heap.size (w.heap.size + 1) (w.heap.size + 2) v u (List.replicate j true) ∧ Below w.heap.size w wr) (fun ti _ => 8 - (intOf ti).toNat)
  case atStart => exact ⟨0, _, _, by omega, rfl, HP0, BW⟩
  case round =>
    obtain ⟨j, v, u, hj7, rfl, PJ, BJ⟩ := hrel
    clear HP0 BW hW2
    by_cases hlt : (j : Int) < r
    · have HPJ : Hid (Pair wr w.heap.size (w.heap.size + 1) (w.heap.size + 2) v u (List.replicate j true)) := PJ
      have CP1 : Calls Tryz.prog 29 #[.pointer (some ⟨w.heap.size, 0, none⟩), .int .u64 1, .int .i64 1] wr fun e w' => e = .returned (.int .i64 0) ∧ ∃ v', WrL w' w.heap.size (w.heap.size + 2) v' (List.replicate j true ++ bN 1 1) ∧ Kp (WS w.heap.size v) wr w' ∧ Fresh wr v v' := put_ok w.heap.size (w.heap.size + 2) v (List.replicate j true) 1 1 wr PJ.g (by decide) (by omega) (by rw [List.length_replicate]; omega)
      have CR1 : Hid (∀ W', RwL W' (w.heap.size + 1) (w.heap.size + 2) u (List.replicate j true) → Calls Tryz.prog 30 #[.pointer (some ⟨w.heap.size + 1, 0, none⟩), .int .u64 1, .int .i64 1] W' fun e w' => e = .returned (.int .i64 0) ∧ ∃ v', RwL w' (w.heap.size + 1) (w.heap.size + 2) v' (List.replicate j true ++ bN 1 1) ∧ Kp (WS (w.heap.size + 1) u) W' w' ∧ Fresh W' u v') := fun W' h => rput_ok (w.heap.size + 1) (w.heap.size + 2) u (List.replicate j true) 1 1 W' h (by decide) (by omega) (by rw [List.length_replicate]; omega)
      clear PJ
      go_wp2_with fail
      refine CP1.mono ?_
      rintro e w7 ⟨rfl, v', g7, k7, f7⟩
      have x7 := HPJ.out.x.apartW HPJ.out.g k7 HN1.out.1 HN1.out.2.1 HN1.out.2.2 HPJ.out.ap
      clear CP1
      go_wp2_with fail
      refine (CR1.out _ x7).mono ?_
      rintro e w8 ⟨rfl, u', g8, k8, f8⟩
      obtain ⟨v2, u2, hp2, kk, _, _⟩ := pair_wr HPJ.out HN1.out.1 HN1.out.2.1 HN1.out.2.2 g7 k7 f7 g8 k8 f8
      have B8 : Below w.heap.size w w8 := HKB.out _ _ _ _ _ HPJ.out BJ kk
      rw [bN11_9] at hp2
      clear CR1 x7 g7 k7 f7 g8 k8 f8 kk
      go_wp2_with fail
      go_roundw
      case rel => exact ⟨j + 1, v2, u2, by omega, by go_num, hp2, B8⟩
      case measure => simp [intOf]; omega
    · have hL0 : (List.replicate j true).length ≤ tb9 TL 0 := by rw [List.length_replicate]; exact hj7
      obtain ⟨L0, hL0e⟩ : ∃ L0, L0 = List.replicate j true := ⟨_, rfl⟩
      rw [← hL0e] at PJ hL0
      clear hL0e
      go_wp2_with fail
      go_loopw [28] (fun ti wr => ∃ (i : Nat) (v u : Value) (L : List Bool), i ≤ m ∧ ti = .int .i64 (i : Int) ∧ Pair wr w.heap.size (w.heap.size + 1) (w.heap.size + 2) v u L ∧ L.length ≤ tb9 TL i ∧ Below w.heap.size w wr) (fun ti _ => m - (intOf ti).toNat)
      case atStart => exact ⟨0, v, u, L0, by omega, rfl, PJ, hL0, BJ⟩
      case round =>
        clear PJ BJ hL0 hj7 hlt hr hr1
        obtain ⟨i, v, u, L, him, rfl, PJ, hLl, BJ⟩ := hrel
        by_cases hlt : i < m
        · have hlti : (i : Int) < (m : Int) := by omega
          have hni : (TL i).length ≤ 1048576 := HLL.out i hlt
          have hLb : L.length ≤ 3000000000 := by
            have h1 := tb9_mono TL (m - i) i
            rw [show i + (m - i) = m by omega] at h1
            have := HTB.out
            omega
          have hLn : ∀ x : List Bool, x.length ≤ 5100 + 2100 * (TL i).length → (L ++ x).length ≤ tb9 TL (i + 1) := fun x hx => by
            rw [List.length_append, tb9]
            omega
          have HLN : Hid (∀ x : List Bool, x.length ≤ 5100 + 2100 * (TL i).length → (L ++ x).length ≤ tb9 TL (i + 1)) := hLn
          obtain ⟨g0, o0, rfl, x0, x1, x2, x3⟩ := (HSB.out.old BJ).at_ i hlt
          have hS := HSB.out.seg i hlt
          have hbd := HSB.out.bd i hlt
          have i7 : IntKind.i64.wrap ((i : Int) + 1) = (i : Int) + 1 := IntWalk.i64_in _ (by omega)
          generalize K i = k at *
          generalize G i = gw at *
          generalize La i = last at *
          generalize Ta i = ta at *
          generalize Tc i = tc at *
          generalize TL i = l at *
          obtain ⟨n, hn⟩ : ∃ n, n = l.length := ⟨_, rfl⟩
          have HN : Hid (l.length = n) := hn.symm
          rw [← hn] at hni x3
          have HPJ : Hid (Pair wr w.heap.size (w.heap.size + 1) (w.heap.size + 2) v u L) := PJ
          have HS0 : Hid (SegT w ta l) := hS
          have HBJ : Hid (Below w.heap.size w wr) := BJ
          have hwr : w.heap.size + 2 ≤ wr.heap.size := by
            have := PJ.g.b_lt
            have := PJ.x.b_lt
            obtain ⟨_, _, _, r7⟩ := PJ.x
            exact r7.bB
          have HFR : Hid (∀ q, wr.heap.size ≤ q → ¬ PS w.heap.size (w.heap.size + 1) v u q) := fun q hq e => by
            rcases e with (e | e) | (e | e)
            · omega
            · have := (PJ.g.own_lt _ e).2.1; omega
            · omega
            · have := (PJ.x.own_lt _ e).2.1; omega
          have y0 := heap_alloc_new wr (.cells #[.int .i64 k, .bool last, .int .i64 gw, .slice ta n tc] 71)
          have b0 := below_box8 wr (.cells #[.int .i64 k, .bool last, .int .i64 gw, .slice ta n tc] 71)
          have HBX : Hid (∀ W', Kp (PS w.heap.size (w.heap.size + 1) v u) (wr.alloc (.cells #[.int .i64 k, .bool last, .int .i64 gw, .slice ta n tc] 71)) W' → W'.cell? ⟨wr.heap.size, 0, none⟩ = some (.int .i64 k) ∧ W'.cell? ⟨wr.heap.size, 1, none⟩ = some (.bool last) ∧ W'.cell? ⟨wr.heap.size, 2, none⟩ = some (.int .i64 gw) ∧ W'.cell? ⟨wr.heap.size, 3, none⟩ = some (.slice ta n tc)) := fun W' hk => by
            have hh := hk.heap y0 (HFR.out _ (Nat.le_refl _))
            exact ⟨(cell_of_row W' _ 0 _ _ _ hh).trans rfl, (cell_of_row W' _ 1 _ _ _ hh).trans rfl, (cell_of_row W' _ 2 _ _ _ hh).trans rfl, (cell_of_row W' _ 3 _ _ _ hh).trans rfl⟩
          clear PJ hS BJ hLl hn hLn
          go_wp2_with fail
          have sb0 : (wr.alloc (.cells #[.int .i64 k, .bool last, .int .i64 gw, .slice ta n tc] 71)).heap.size = wr.heap.size + 1 := by simp
          generalize wr.alloc (.cells #[.int .i64 k, .bool last, .int .i64 gw, .slice ta n tc] 71) = wb at *
          have HBB : Hid (Below w.heap.size w wb) := HBJ.out.trans (b0.mono HBJ.out.size)
          have HPB : Hid (Pair wb w.heap.size (w.heap.size + 1) (w.heap.size + 2) v u L) := HPJ.out.old b0
          have CX := rxpd7 32768 l ta n tc HN wb (HS0.out.old HBB.out) (by omega)
          have hXl := xpd7_len9 32768 l
          have hSl := siz7_le l
          rw [HN.out] at hXl hSl
          have HSZ : Hid (∀ W', Below w.heap.size w W' → Calls Tryz.prog 32 #[.slice ta n tc] W' fun e w' => e = .returned (.int .i64 (siz7 l : Int)) ∧ Below W'.heap.size W' w') := fun W' hW' => rsize7 l ta n tc HN W' (HS0.out.old hW') (by omega)
          obtain ⟨S, hSe⟩ : ∃ S, S = siz7 l := ⟨_, rfl⟩
          rw [← hSe] at HSZ hSl
          obtain ⟨ob, hob⟩ : ∃ ob, ob = wr.heap.size := ⟨_, rfl⟩
          have HOB : Hid (wr.heap.size = ob) := hob.symm
          rw [HOB.out] at HBX ⊢
          have HSB1 : Hid (wb.heap.size = ob + 1) := by rw [hob]; exact sb0
          clear b0 y0 HPJ x0 x1 x2 x3 hob sb0 hSe
          refine CX.mono ?_
          rintro e w1 ⟨oa, oc, rfl, O1, b1⟩
          have HB1 : Hid (Below wb.heap.size wb w1) := b1
          have HO1 : Hid (w1.ownsRow wb.heap.size 5 1 (.slice oa (xpd7 32768 l).length oc) (xpd7 32768 l).length ((xpd7 32768 l).map (Value.int .u8))) := O1
          clear CX b1 O1
          go_wp2_with fail
          go_loopw [10] (fun td wr2 => ∃ (j : Nat) (da : Option Addr) (dc : Nat), td = .slice da (dj9 l j).length dc ∧ j ≤ S ∧ wr2.ownsRow wb.heap.size 5 1 (.slice da (dj9 l j).length dc) (dj9 l j).length ((dj9 l j).map (Value.int .u8)) ∧ Below wb.heap.size wb wr2) (fun td _ => S + 1 - len9 td)
          case atStart => exact ⟨0, oa, oc, by rw [dj9_len]; rfl, by omega, by rw [dj9_len]; simpa [dj9] using HO1.out, HB1.out⟩
          case round =>
            obtain ⟨j, da, dc, rfl, hjS, OD, BD⟩ := hrel
            clear HO1 HB1
            have hDb := dj9_bd l HS0.out.fit j
            have hdl := dj9_len l j
            have HDS : Hid (dj9 l (j + 1) = dj9 l j ++ [122]) := dj9_succ l j
            obtain ⟨D, hDe⟩ : ∃ D, D = dj9 l j := ⟨_, rfl⟩
            rw [← hDe] at hDb hdl OD HDS ⊢
            have HDE : Hid (D = dj9 l j) := hDe
            obtain ⟨dn, hdn⟩ : ∃ dn, dn = D.length := ⟨_, rfl⟩
            have HDN : Hid (D.length = dn) := hdn.symm
            rw [← hdn] at OD hdl ⊢
            have HDL : Hid (dn = (xpd7 32768 l).length + j) := hdl
            have hdn3 : dn ≤ 600000000 := by omega
            clear hdl
            have HOD : Hid (wr.ownsRow wb.heap.size 5 1 (.slice da dn dc) dn (D.map (Value.int .u8))) := OD
            have HBD : Hid (Below wb.heap.size wb wr) := BD
            have HDB : Hid (∀ z ∈ D, 0 ≤ z ∧ z ≤ 255) := hDb
            obtain ⟨y0, y1, y2, y3⟩ := HBX.out wr (Kp.of_below BD)
            have BDw : Below w.heap.size w wr := HBB.out.trans (BD.mono HBB.out.size)
            clear OD hDe hDb hdn BD
            go_wp2_with fail
            refine (HSZ.out wr BDw).mono ?_
            rintro e w3 ⟨rfl, b3⟩
            have HB3 : Hid (Below wb.heap.size wb w3) := HBD.out.trans (b3.mono HBD.out.size)
            have HO3 : Hid (w3.ownsRow wb.heap.size 5 1 (.slice da dn dc) dn (D.map (Value.int .u8))) := own_below HOD.out b3
            clear y0 y1 y2 y3
            obtain ⟨y0, y1, y2, y3⟩ := HBX.out w3 (Kp.of_below HB3.out)
            clear b3 BDw HOD HBD
            by_cases hmore : dn < S
            · have hmi : (dn : Int) < (S : Int) := by omega
              have hwb3 := HB3.out.size
              have O3 := HO3.out
              go_wp2_with (at_builtin; refine wpList_app1 rfl (.tmp 44) (.tmp 45) 59 rfl wb.heap.size 5 iu (.int .u8 0) 1 Tryz.underlying59 hiu hu0 hu1 hu2 rfl w3 (.int .u8 122) rfl O3 rfl rfl (by omega) (by omega) hwb3 ?_; intro gg cc w4 hown4 hg4 hf4)
              have B4 : Below wb.heap.size wb w4 := HB3.out.grown hg4 hwb3 (fun j e => (O3.lt j e).1)
              have hD1 : (dj9 l (j + 1)).length = dn + 1 := by rw [HDS.out, List.length_append, HDN.out]; rfl
              have O4 : w4.ownsRow wb.heap.size 5 1 (.slice (some ⟨gg, 0, none⟩) (dj9 l (j + 1)).length cc) (dj9 l (j + 1)).length ((dj9 l (j + 1)).map (Value.int .u8)) := by
                rw [hD1, HDS.out, List.map_append]
                exact hown4
              clear hown4 hg4 hf4 O3
              go_wp2_with fail
              go_roundw
              case rel => exact ⟨j + 1, some ⟨gg, 0, none⟩, cc, by rw [hD1], by have := HDL.out; omega, O4, B4⟩
              case measure => simp [len9]; omega
            · have hmi : ¬ (dn : Int) < (S : Int) := by omega
              by_cases hpos : 0 < gw
              · have O3 := HO3.out
                have hwb3 := HB3.out.size
                go_wp2_with (at_builtin; refine wpList_app1 rfl (.tmp 50) (.tmp 51) 59 rfl wb.heap.size 5 iu (.int .u8 0) 1 Tryz.underlying59 hiu hu0 hu1 hu2 rfl w3 (.int .u8 1) rfl O3 rfl rfl (by omega) (by omega) hwb3 ?_; intro gg cc w4 hown4 hg4 hf4; have B4 : Below wb.heap.size wb w4 := HB3.out.grown hg4 hwb3 (fun j e => (O3.lt j e).1); obtain ⟨z0, z1, z2, z3⟩ := HBX.out w4 (Kp.of_below B4))
                obtain ⟨D2, hD2⟩ : ∃ D2, D2 = D ++ [1] := ⟨_, rfl⟩
                obtain ⟨dn2, hdn2⟩ : ∃ dn2, dn2 = dn + 1 := ⟨_, rfl⟩
                have HDN2 : Hid (D2.length = dn2) := by rw [hD2, hdn2]; show _ = _; rw [List.length_append, HDN.out]; rfl
                have HDB2 : Hid (∀ z ∈ D2, 0 ≤ z ∧ z ≤ 255) := by
                  intro z hz
                  rw [hD2] at hz
                  rcases List.mem_append.1 hz with hz | hz
                  · exact HDB.out z hz
                  · simp at hz; omega
                obtain ⟨da2, hda2⟩ : ∃ da2 : Option Addr, da2 = some ⟨gg, 0, none⟩ := ⟨_, rfl⟩
                have O4 : w4.ownsRow wb.heap.size 5 1 (.slice da2 dn2 cc) dn2 (D2.map (Value.int .u8)) := by rw [hD2, hdn2, hda2, List.map_append]; exact hown4
                obtain ⟨-, a4, c4, hv4, SD2, hx4, -, -⟩ := own_seg (M := 255) O4 (by omega) HDB2.out
                cases hv4
                have hnil2 : da2 = none → cc = 0 := fun h => by rw [hda2] at h; cases h
                have hfd : ∀ g o, da2 = some ⟨g, o, none⟩ → 0 < D2.length → wb.heap.size ≤ g ∧ g < w4.heap.size := fun g o e _ => ⟨(hx4 _ e).2.2.1, (hx4 _ e).2.2.2⟩
                rw [← hdn2, ← hda2]
                have hpos2 : ¬ gw < 0 := by omega
                have hdn4 : dn2 ≤ 600000001 := by omega
                generalize cc = dc2 at *
                have BD2 := B4
                generalize w4 = wD at *
                clear hD2 hda2 O4 hown4 hg4 hf4 O3 hx4 B4 HO3 HB3 hdn2 z0 z1 z2 z3
                try clear y0 y1 y2 y3
                obtain ⟨y0, y1, y2, y3⟩ := HBX.out wD (Kp.of_below BD2)
                have BDw : Below w.heap.size w wD := HBB.out.trans (BD2.mono HBB.out.size)
                have CF := face9 l ta n tc HN wD (HS0.out.old BDw) (by omega)
                have HSD2 : Hid (Seg wD da2 D2) := SD2
                have HFD : Hid (∀ g o, da2 = some ⟨g, o, none⟩ → 0 < D2.length → wb.heap.size ≤ g ∧ g < wD.heap.size) := hfd
                have HBD2 : Hid (Below wb.heap.size wb wD) := BD2
                clear SD2 hfd BD2
                refine CF.mono ?_
                rintro e w5 ⟨gf, cf, rfl, OF, b5⟩
                have hfl : (faceL l).length = n + 2 := by unfold faceL; rw [List.length_append, HN.out]; rfl
                have hgf := (OF.lt gf rfl).1
                have SF5 : SegT w5 (some ⟨gf, 0, none⟩) (faceL l) := own_segT OF hfl (faceL_fit HS0.out.fit)
                have hcf : n + 2 ≤ cf := (own_factsT OF).1
                have HSF5 : Hid (SegT w5 (some ⟨gf, 0, none⟩) (faceL l) ∧ wD.heap.size ≤ gf) := ⟨SF5, hgf⟩
                have CL := lend_any da2 D2 dc2 w5 (HSD2.out.old b5) hnil2 (by rw [HDN2.out]; omega)
                rw [HDN2.out] at CL
                have HB5 : Hid (Below wb.heap.size wb w5) := HBD2.out.trans (b5.mono HBD2.out.size)
                have HB5d : Hid (Below wD.heap.size wD w5) := b5
                clear CF OF hfl hgf SF5 b5 BDw
                go_wp2_with fail
                refine CL.mono ?_
                rintro e w6 ⟨gl, cl, rfl, OL, b6⟩
                have hgl := (OL.lt gl rfl).1
                have hgl2 : gl < w6.heap.size := (OL.lt gl rfl).2
                obtain ⟨-, a6, c6, hv6, SL6, -, -, -⟩ := own_seg (M := 255) OL (by omega) (lent_bd HDB2.out)
                cases hv6
                have HSL6 : Hid (Seg w6 (some ⟨gl, 0, none⟩) (lentL D2) ∧ w5.heap.size ≤ gl) := ⟨SL6, hgl⟩
                have HB6 : Hid (Below wb.heap.size wb w6) := HB5.out.trans (b6.mono HB5.out.size)
                have HSF6 : Hid (SegT w6 (some ⟨gf, 0, none⟩) (faceL l)) := HSF5.out.1.old b6
                have HSD6 : Hid (Seg w6 da2 D2) := (HSD2.out.old HB5d.out).old b6
                have HPJ6 : Hid (Pair w6 w.heap.size (w.heap.size + 1) (w.heap.size + 2) v u L) := HPB.out.old HB6.out
                have HBW6 : Hid (Below w.heap.size w w6) := HBB.out.trans (HB6.out.mono HBB.out.size)
                have HSZ6 : Hid (ob + 1 ≤ wD.heap.size ∧ wD.heap.size ≤ w5.heap.size ∧ w5.heap.size ≤ w6.heap.size ∧ wb.heap.size = ob + 1) := ⟨by have := HBD2.out.size; have := HSB1.out; omega, HB5d.out.size, b6.size, HSB1.out⟩
                have HFR6 : Hid (∀ q, ob ≤ q → ¬ PS w.heap.size (w.heap.size + 1) v u q) := fun q hq => HFR.out q (by rw [HOB.out]; exact hq)
                clear y0 y1 y2 y3
                obtain ⟨y0, y1, y2, y3⟩ := HBX.out w6 (Kp.of_below HB6.out)
                have SP6 : SegT w6 (some ⟨gf, 0, none⟩) l := by
                  have := HSF6.out.take n
                  rwa [show (faceL l).take n = l by unfold faceL; rw [← HN.out]; simp] at this
                have SG6 : Seg w6 (some ⟨gl, 0, none⟩) D2 := by
                  have := SL6.take dn2
                  rwa [show (lentL D2).take dn2 = D2 by unfold lentL; rw [← HDN2.out]; simp] at this
                have CW := pwr9_any w.heap.size (w.heap.size + 2) v L last D2 (some ⟨gl, 0, none⟩) dn2 cl HDN2 (by omega) l (some ⟨gf, 0, none⟩) n cf HN k w6 HPJ6.out.g (by omega) SP6 SG6 (fun h => by cases h) (fun g o e h => by
                    cases e
                    exact ⟨fun q => HFR6.out gl (by have := HSZ6.out; have := HSL6.out.2; omega) (.inl q), hgl2⟩) (fun g o e h => by
                    cases e
                    exact fun q => HFR6.out gf (by have := HSZ6.out; have := HSF5.out.2; omega) (.inl q)) (HT.out.1.old HBW6.out) (HT.out.2.old HBW6.out) (by omega) (by omega)
                have HRW : Hid (∀ w7, Below w.heap.size w w7 → RwL w7 (w.heap.size + 1) (w.heap.size + 2) u L → Seg w7 da2 D2 → w6.heap.size ≤ w7.heap.size → Calls Tryz.prog 35 #[.pointer (some ⟨w.heap.size + 1, 0, none⟩), .int .i64 k, .bool last, .slice da2 dn2 dc2, .slice ta n tc] w7 fun e w' => e = .returned (.int .i64 (pwe9 k (L.length % 8) dn2 l)) ∧ RwI w7 w' (w.heap.size + 1) (w.heap.size + 2) u (L ++ if pwe9 k (L.length % 8) dn2 l = 0 then blk9 k.toNat (L.length % 8) last D2 l else [])) := fun w7 h1 h2 h3 h4 => by
                  refine rwr9_all (w.heap.size + 1) (w.heap.size + 2) u L last D2 da2 dn2 dc2 HDN2 l ta n tc HN (by omega) k w7 h2 (by omega) (HS0.out.old h1) h3 (fun g o e h => ?_) (fun g o e h => ?_)
                  · have hq := HFD.out g o e h
                    exact ⟨fun q => HFR6.out g (by have := HSZ6.out; omega) (.inr q), by have := HSZ6.out; omega⟩
                  · have hq := HS0.out.lt g o e h
                    rintro (q | q)
                    · omega
                    · have := (h2.own_lt g q).1; omega
                have hXX : (L ++ if pwe9 k (L.length % 8) dn2 l = 0 then blk9 k.toNat (L.length % 8) last D2 l else []).length ≤ tb9 TL (i + 1) := HLN.out _ (by
                  have := add9_le (k := k) (x := L.length % 8) (last := last) (D := D2) HS0.out.fit
                  unfold add9 at this
                  rw [HDN2.out] at this
                  exact this)
                obtain ⟨E, hE⟩ : ∃ E, E = pwe9 k (L.length % 8) dn2 l := ⟨_, rfl⟩
                obtain ⟨M, hMe⟩ : ∃ M, M = L ++ if pwe9 k (L.length % 8) dn2 l = 0 then blk9 k.toNat (L.length % 8) last D2 l else [] := ⟨_, rfl⟩
                rw [← hMe] at CW HRW hXX
                rw [← hE] at CW HRW
                have HXX : Hid (M.length ≤ tb9 TL (i + 1)) := hXX
                have hMb : M.length ≤ 3000000000 := by
                  have h1 := tb9_mono TL (m - (i + 1)) (i + 1)
                  rw [show i + 1 + (m - (i + 1)) = m by omega] at h1
                  have := HTB.out
                  omega
                clear CL OL SL6 hgl SP6 SG6 hE hMe hXX b6
                go_wp2_with fail
                refine CW.mono ?_
                rintro e w7 ⟨rfl, v7, r7, k7, f7⟩
                have k7p : Kp (PS w.heap.size (w.heap.size + 1) v u) w6 w7 := k7.mono (fun _ _ e => .inl e)
                have x7 := HPJ6.out.x.apartW HPJ6.out.g k7 HN1.out.1 HN1.out.2.1 HN1.out.2.2 HPJ6.out.ap
                have B7 : Below w.heap.size w w7 := HKB.out _ _ _ _ _ HPJ6.out HBW6.out k7p
                have kb6 : Kp (PS w.heap.size (w.heap.size + 1) v u) wb w6 := Kp.of_below HB6.out
                clear y0 y1 y2 y3
                obtain ⟨y0, y1, y2, y3⟩ := HBX.out w7 (kb6.trans k7p (fun _ _ e => e))
                have CR := HRW.out w7 B7 x7 (HSD6.out.kp k7p (fun g o e h => HFR6.out g (by have := HSZ6.out; have := HFD.out g o e h; omega))) k7.size
                clear CW HRW x7
                go_wp2_with fail
                refine CR.mono ?_
                rintro e w8 ⟨rfl, u8, r8, k8, f8⟩
                obtain ⟨v9, u9, hp9, kk9, _, _⟩ := pair_wr HPJ6.out HN1.out.1 HN1.out.2.1 HN1.out.2.2 r7 k7 f7 r8 k8 f8
                have B8 : Below w.heap.size w w8 := HKB.out _ _ _ _ _ HPJ6.out HBW6.out kk9
                have HBX8 : Hid (∀ W', Below w8.heap.size w8 W' → W'.cell? ⟨ob, 3, none⟩ = some (.slice ta n tc)) := fun W' hb => (HBX.out W' ((kb6.trans kk9 (fun _ _ e => e)).trans (S' := fun _ => False) (kp_of_below hb _) (fun _ _ e => e.elim))).2.2.2
                have SF8 : SegT w8 (some ⟨gf, 0, none⟩) (faceL l) := HSF6.out.kp kk9 (fun g o e h => by cases e; exact HFR6.out gf (by have := HSZ6.out; have := HSF5.out.2; omega))
                have SL8 : Seg w8 (some ⟨gl, 0, none⟩) (lentL D2) := HSL6.out.1.kp kk9 (fun g o e h => by cases e; exact HFR6.out gl (by have := HSZ6.out; have := HSL6.out.2; omega))
                have SD8 : Seg w8 da2 D2 := HSD6.out.kp kk9 (fun g o e h => HFR6.out g (by have := HSZ6.out; have := HFD.out g o e h; omega))
                have HP9 : Hid (Pair w8 w.heap.size (w.heap.size + 1) (w.heap.size + 2) v9 u9 M) := hp9
                have HB8 : Hid (Below w.heap.size w w8) := B8
                have HLE : Hid (∀ W', Below w8.heap.size w8 W' → Calls Tryz.prog 36 #[.pointer (some ⟨w.heap.size, 0, none⟩)] W' fun e w' => e = .returned (.int .i64 (M.length : Int)) ∧ Below w8.heap.size w8 w') := fun W' hW => by
                  refine (len_any w.heap.size (w.heap.size + 2) v9 M W' (HP9.out.old hW).g (by omega)).mono ?_
                  rintro e w' ⟨rfl, hb⟩
                  exact ⟨rfl, hW.trans (hb.mono hW.size)⟩
                have HKP : Hid (∀ W', Below w8.heap.size w8 W' → Calls Tryz.prog 22 #[.slice (some ⟨gf, 0, none⟩) (n + 2) cf, .slice ta n tc] W' fun e w' => e = .returned (.bool true) ∧ Below w8.heap.size w8 w') := fun W' hW => by
                  refine (kept9 l (some ⟨gf, 0, none⟩) ta n cf tc HN W' (SF8.old hW) (HS0.out.old (HB8.out.trans (hW.mono HB8.out.size))) hcf (by omega)).mono ?_
                  rintro e w' ⟨rfl, hb⟩
                  exact ⟨rfl, hW.trans (hb.mono hW.size)⟩
                have HKD : Hid (∀ W', Below w8.heap.size w8 W' → Calls Tryz.prog 37 #[.slice (some ⟨gl, 0, none⟩) (dn2 + 5) cl, .slice da2 dn2 dc2] W' fun e w' => e = .returned (.bool true) ∧ Below w8.heap.size w8 w') := fun W' hW => by
                  have := kept_any da2 (some ⟨gl, 0, none⟩) (lentL D2) D2 cl dc2 W' (SL8.old hW) (SD8.old hW) hnil2 (by rw [HDN2.out]; omega)
                  rw [show (lentL D2).length = dn2 + 5 by unfold lentL; rw [List.length_append, HDN2.out]; rfl, HDN2.out, beq_self9] at this
                  refine this.mono ?_
                  rintro e w' ⟨rfl, hb⟩
                  exact ⟨rfl, hW.trans (hb.mono hW.size)⟩
                obtain ⟨ua, uc, hu, r9⟩ := hp9.x
                have HCX : Hid (∀ W', Below w8.heap.size w8 W' → W'.cell? ⟨w.heap.size + 1, 0, none⟩ = some (.slice ua M.length uc)) := fun W' hW => (hW.cell (p := ⟨w.heap.size + 1, 0, none⟩) r9.b_lt).trans r9.cell0
                have bt0 : Below w8.heap.size w8 w8.drew := (Below.refl _ _).drew
                have q1 := HBX8.out _ bt0
                have q2 := HCX.out _ bt0
                clear CR r7 k7 f7 k7p r8 k8 f8 kk9 hp9 hu r9 SF8 SL8 SD8 kb6 y0 y1 y2 y3 B7 B8 HSF5 HSL6 HSF6 HSD6 HPJ6 HBW6 HFR6 HSZ6 HB5 HB5d HB6 HSD2 HFD HBD2
                go_wp2_with fail
                try clear HT
                try clear h2w
                try clear HTB
                try clear HLL
                try clear HN1
                try clear HKB
                try clear HSB
                try clear HBB
                try clear HPB
                try clear HN
                try clear HS0
                try clear HBJ
                try clear hwr
                try clear HFR
                try clear HOB
                try clear HSB1
                try clear HSZ
                try clear hXl
                try clear hSl
                try clear hiu
                try clear hu0
                try clear hu1
                try clear hu2
                try clear HDN2
                try clear HDB2
                try clear HDN
                try clear HDB
                try clear HDE
                try clear HDS
                try clear HDL
                try clear hcf
                try clear hnil2
                try clear hLb
                try clear hni
                try clear hbd
                try clear HBX
                try clear HLN
                try clear b1
                try clear b2
                try clear hMb
                try clear hdn4
                try clear hjS
                try clear hm
                try clear hmore
                try clear hdn3
                try clear hSD
                go_region_with (first
                  | (go_at_call 36; refine (HLE.out _ (by assumption)).mono ?_; rintro e wl ⟨rfl, btl⟩; have q1 := HBX8.out _ btl; have q2 := HCX.out _ btl)
                  | (go_at_call 22; refine (HKP.out _ (by assumption)).mono ?_; rintro e wk ⟨rfl, btk⟩; have q1 := HBX8.out _ btk; have q2 := HCX.out _ btk)
                  | (go_at_call 37; refine (HKD.out _ (by assumption)).mono ?_; rintro e wd ⟨rfl, btd⟩; have q1 := HBX8.out _ btd; have q2 := HCX.out _ btd))
                all_goals
                  go_wp2_with fail
                  go_roundw
                  case rel => exact ⟨i + 1, v9, u9, M, by omega, by go_num, HP9.out.old (by assumption), HXX.out, HB8.out.trans (Below.mono (by assumption) HB8.out.size)⟩
                  case measure => simp [intOf]; omega
              · by_cases hneg : gw < 0 ∧ 0 < dn
                · obtain ⟨hn0, hd0⟩ := hneg
                  have hd0i : (0 : Int) < (dn : Int) := by omega
                  obtain ⟨gg, rfl, hcc, hgg, hggl⟩ := own_shape1 HO3.out hd0
                  obtain ⟨-, a4, c4, hv4, SD, -⟩ := own_seg (M := 255) HO3.out (by omega) HDB.out
                  cases hv4
                  have SDD : Seg w3 (some ⟨gg, 0 + 1, none⟩) (D.drop 1) := SD.drop 1
                  have hdci : (dn : Int) ≤ (dc : Int) := by omega
                  have hgp : ¬ 0 < gw := by omega
                  obtain ⟨dd, rfl⟩ : ∃ dd, dn = dd + 1 := ⟨dn - 1, by omega⟩
                  obtain ⟨ce, rfl⟩ : ∃ ce, dc = ce + 1 := ⟨dc - 1, by omega⟩
                  have HDN2 : Hid ((D.drop 1).length = dd) := by show _ = _; rw [List.length_drop, HDN.out]; omega
                  have HDB2 : Hid (∀ z ∈ D.drop 1, 0 ≤ z ∧ z ≤ 255) := fun z hz => HDB.out z (List.mem_of_mem_drop hz)
                  have HSDD : Hid (Seg w3 (some ⟨gg, 0 + 1, none⟩) (D.drop 1)) := SDD
                  clear SD SDD hd0
                  by_cases hce : ce = 0
                  · have hdd : dd = 0 := by omega
                    subst hce
                    subst hdd
                    have hdi : (0 : Int) < ((0 + 1 : Nat) : Int) := by omega
                    go_wp2_with fail
                    have hD0 : D.drop 1 = [] := List.eq_nil_of_length_eq_zero HDN2.out
                    obtain ⟨D2, hD2⟩ : ∃ D2 : List Int, D2 = [] := ⟨_, rfl⟩
                    rw [hD0, ← hD2] at HDN2 HDB2
                    have HD2 : Hid (D2 = []) := hD2
                    obtain ⟨da2, hda2⟩ : ∃ da2 : Option Addr, da2 = some ⟨gg, 0, none⟩ := ⟨_, rfl⟩
                    have SD2 : Seg w3 da2 D2 := by rw [hD2]; exact SegK.nil (by decide) _ _
                    rw [← hda2]
                    have hnil2 : da2 = none → 0 = 0 := fun _ => rfl
                    have hfd : ∀ g o, da2 = some ⟨g, o, none⟩ → 0 < D2.length → wb.heap.size ≤ g ∧ g < w3.heap.size := fun g o e _ => by rw [hda2] at e; cases e; exact ⟨hgg, hggl⟩
                    have BD2 := HB3.out
                    clear hD0 hda2 hD2 HSDD HO3 HB3 hcc hdci hd0i
                    generalize w3 = wD at *
                    try clear y0 y1 y2 y3
                    obtain ⟨y0, y1, y2, y3⟩ := HBX.out wD (Kp.of_below BD2)
                    have BDw : Below w.heap.size w wD := HBB.out.trans (BD2.mono HBB.out.size)
                    have CF := face9 l ta n tc HN wD (HS0.out.old BDw) (by omega)
                    have HSD2 : Hid (Seg wD da2 D2) := SD2
                    have HFD : Hid (∀ g o, da2 = some ⟨g, o, none⟩ → 0 < D2.length → wb.heap.size ≤ g ∧ g < wD.heap.size) := hfd
                    have HBD2 : Hid (Below wb.heap.size wb wD) := BD2
                    clear SD2 hfd BD2
                    refine CF.mono ?_
                    rintro e w5 ⟨gf, cf, rfl, OF, b5⟩
                    have hfl : (faceL l).length = n + 2 := by unfold faceL; rw [List.length_append, HN.out]; rfl
                    have hgf := (OF.lt gf rfl).1
                    have SF5 : SegT w5 (some ⟨gf, 0, none⟩) (faceL l) := own_segT OF hfl (faceL_fit HS0.out.fit)
                    have hcf : n + 2 ≤ cf := (own_factsT OF).1
                    have HSF5 : Hid (SegT w5 (some ⟨gf, 0, none⟩) (faceL l) ∧ wD.heap.size ≤ gf) := ⟨SF5, hgf⟩
                    have CL := lend_any da2 D2 0 w5 (HSD2.out.old b5) (fun _ => rfl) (by rw [HDN2.out]; omega)
                    rw [HDN2.out] at CL
                    have HB5 : Hid (Below wb.heap.size wb w5) := HBD2.out.trans (b5.mono HBD2.out.size)
                    have HB5d : Hid (Below wD.heap.size wD w5) := b5
                    clear CF OF hfl hgf SF5 b5 BDw
                    go_wp2_with fail
                    refine CL.mono ?_
                    rintro e w6 ⟨gl, cl, rfl, OL, b6⟩
                    have hgl := (OL.lt gl rfl).1
                    have hgl2 : gl < w6.heap.size := (OL.lt gl rfl).2
                    obtain ⟨-, a6, c6, hv6, SL6, -, -, -⟩ := own_seg (M := 255) OL (by omega) (lent_bd HDB2.out)
                    cases hv6
                    have HSL6 : Hid (Seg w6 (some ⟨gl, 0, none⟩) (lentL D2) ∧ w5.heap.size ≤ gl) := ⟨SL6, hgl⟩
                    have HB6 : Hid (Below wb.heap.size wb w6) := HB5.out.trans (b6.mono HB5.out.size)
                    have HSF6 : Hid (SegT w6 (some ⟨gf, 0, none⟩) (faceL l)) := HSF5.out.1.old b6
                    have HSD6 : Hid (Seg w6 da2 D2) := (HSD2.out.old HB5d.out).old b6
                    have HPJ6 : Hid (Pair w6 w.heap.size (w.heap.size + 1) (w.heap.size + 2) v u L) := HPB.out.old HB6.out
                    have HBW6 : Hid (Below w.heap.size w w6) := HBB.out.trans (HB6.out.mono HBB.out.size)
                    have HSZ6 : Hid (ob + 1 ≤ wD.heap.size ∧ wD.heap.size ≤ w5.heap.size ∧ w5.heap.size ≤ w6.heap.size ∧ wb.heap.size = ob + 1) := ⟨by have := HBD2.out.size; have := HSB1.out; omega, HB5d.out.size, b6.size, HSB1.out⟩
                    have HFR6 : Hid (∀ q, ob ≤ q → ¬ PS w.heap.size (w.heap.size + 1) v u q) := fun q hq => HFR.out q (by rw [HOB.out]; exact hq)
                    clear y0 y1 y2 y3
                    obtain ⟨y0, y1, y2, y3⟩ := HBX.out w6 (Kp.of_below HB6.out)
                    have SP6 : SegT w6 (some ⟨gf, 0, none⟩) l := by
                      have := HSF6.out.take n
                      rwa [show (faceL l).take n = l by unfold faceL; rw [← HN.out]; simp] at this
                    have SG6 : Seg w6 (some ⟨gl, 0, none⟩) D2 := by rw [HD2.out]; exact SegK.nil (by decide) _ _
                    have CW := pwr9_any w.heap.size (w.heap.size + 2) v L last D2 (some ⟨gl, 0, none⟩) 0 cl HDN2 (by omega) l (some ⟨gf, 0, none⟩) n cf HN k w6 HPJ6.out.g (by omega) SP6 SG6 (fun h => by cases h) (fun g o e h => by
                        cases e
                        exact ⟨fun q => HFR6.out gl (by have := HSZ6.out; have := HSL6.out.2; omega) (.inl q), hgl2⟩) (fun g o e h => by
                        cases e
                        exact fun q => HFR6.out gf (by have := HSZ6.out; have := HSF5.out.2; omega) (.inl q)) (HT.out.1.old HBW6.out) (HT.out.2.old HBW6.out) (by omega) (by omega)
                    have HRW : Hid (∀ w7, Below w.heap.size w w7 → RwL w7 (w.heap.size + 1) (w.heap.size + 2) u L → Seg w7 da2 D2 → w6.heap.size ≤ w7.heap.size → Calls Tryz.prog 35 #[.pointer (some ⟨w.heap.size + 1, 0, none⟩), .int .i64 k, .bool last, .slice da2 0 0, .slice ta n tc] w7 fun e w' => e = .returned (.int .i64 (pwe9 k (L.length % 8) 0 l)) ∧ RwI w7 w' (w.heap.size + 1) (w.heap.size + 2) u (L ++ if pwe9 k (L.length % 8) 0 l = 0 then blk9 k.toNat (L.length % 8) last D2 l else [])) := fun w7 h1 h2 h3 h4 => by
                      refine rwr9_all (w.heap.size + 1) (w.heap.size + 2) u L last D2 da2 0 0 HDN2 l ta n tc HN (by omega) k w7 h2 (by omega) (HS0.out.old h1) h3 (fun g o e h => ?_) (fun g o e h => ?_)
                      · have hq := HFD.out g o e h
                        exact ⟨fun q => HFR6.out g (by have := HSZ6.out; omega) (.inr q), by have := HSZ6.out; omega⟩
                      · have hq := HS0.out.lt g o e h
                        rintro (q | q)
                        · omega
                        · have := (h2.own_lt g q).1; omega
                    have hXX : (L ++ if pwe9 k (L.length % 8) 0 l = 0 then blk9 k.toNat (L.length % 8) last D2 l else []).length ≤ tb9 TL (i + 1) := HLN.out _ (by
                      have := add9_le (k := k) (x := L.length % 8) (last := last) (D := D2) HS0.out.fit
                      unfold add9 at this
                      rw [HDN2.out] at this
                      exact this)
                    obtain ⟨E, hE⟩ : ∃ E, E = pwe9 k (L.length % 8) 0 l := ⟨_, rfl⟩
                    obtain ⟨M, hMe⟩ : ∃ M, M = L ++ if pwe9 k (L.length % 8) 0 l = 0 then blk9 k.toNat (L.length % 8) last D2 l else [] := ⟨_, rfl⟩
                    rw [← hMe] at CW HRW hXX
                    rw [← hE] at CW HRW
                    have HXX : Hid (M.length ≤ tb9 TL (i + 1)) := hXX
                    have hMb : M.length ≤ 3000000000 := by
                      have h1 := tb9_mono TL (m - (i + 1)) (i + 1)
                      rw [show i + 1 + (m - (i + 1)) = m by omega] at h1
                      have := HTB.out
                      omega
                    clear CL OL SL6 hgl SP6 SG6 hE hMe hXX b6
                    go_wp2_with fail
                    refine CW.mono ?_
                    rintro e w7 ⟨rfl, v7, r7, k7, f7⟩
                    have k7p : Kp (PS w.heap.size (w.heap.size + 1) v u) w6 w7 := k7.mono (fun _ _ e => .inl e)
                    have x7 := HPJ6.out.x.apartW HPJ6.out.g k7 HN1.out.1 HN1.out.2.1 HN1.out.2.2 HPJ6.out.ap
                    have B7 : Below w.heap.size w w7 := HKB.out _ _ _ _ _ HPJ6.out HBW6.out k7p
                    have kb6 : Kp (PS w.heap.size (w.heap.size + 1) v u) wb w6 := Kp.of_below HB6.out
                    clear y0 y1 y2 y3
                    obtain ⟨y0, y1, y2, y3⟩ := HBX.out w7 (kb6.trans k7p (fun _ _ e => e))
                    have CR := HRW.out w7 B7 x7 (HSD6.out.kp k7p (fun g o e h => HFR6.out g (by have := HSZ6.out; have := HFD.out g o e h; omega))) k7.size
                    clear CW HRW x7
                    go_wp2_with fail
                    refine CR.mono ?_
                    rintro e w8 ⟨rfl, u8, r8, k8, f8⟩
                    obtain ⟨v9, u9, hp9, kk9, _, _⟩ := pair_wr HPJ6.out HN1.out.1 HN1.out.2.1 HN1.out.2.2 r7 k7 f7 r8 k8 f8
                    have B8 : Below w.heap.size w w8 := HKB.out _ _ _ _ _ HPJ6.out HBW6.out kk9
                    have HBX8 : Hid (∀ W', Below w8.heap.size w8 W' → W'.cell? ⟨ob, 3, none⟩ = some (.slice ta n tc)) := fun W' hb => (HBX.out W' ((kb6.trans kk9 (fun _ _ e => e)).trans (S' := fun _ => False) (kp_of_below hb _) (fun _ _ e => e.elim))).2.2.2
                    have SF8 : SegT w8 (some ⟨gf, 0, none⟩) (faceL l) := HSF6.out.kp kk9 (fun g o e h => by cases e; exact HFR6.out gf (by have := HSZ6.out; have := HSF5.out.2; omega))
                    have SL8 : Seg w8 (some ⟨gl, 0, none⟩) (lentL D2) := HSL6.out.1.kp kk9 (fun g o e h => by cases e; exact HFR6.out gl (by have := HSZ6.out; have := HSL6.out.2; omega))
                    have SD8 : Seg w8 da2 D2 := HSD6.out.kp kk9 (fun g o e h => HFR6.out g (by have := HSZ6.out; have := HFD.out g o e h; omega))
                    have HP9 : Hid (Pair w8 w.heap.size (w.heap.size + 1) (w.heap.size + 2) v9 u9 M) := hp9
                    have HB8 : Hid (Below w.heap.size w w8) := B8
                    have HLE : Hid (∀ W', Below w8.heap.size w8 W' → Calls Tryz.prog 36 #[.pointer (some ⟨w.heap.size, 0, none⟩)] W' fun e w' => e = .returned (.int .i64 (M.length : Int)) ∧ Below w8.heap.size w8 w') := fun W' hW => by
                      refine (len_any w.heap.size (w.heap.size + 2) v9 M W' (HP9.out.old hW).g (by omega)).mono ?_
                      rintro e w' ⟨rfl, hb⟩
                      exact ⟨rfl, hW.trans (hb.mono hW.size)⟩
                    have HKP : Hid (∀ W', Below w8.heap.size w8 W' → Calls Tryz.prog 22 #[.slice (some ⟨gf, 0, none⟩) (n + 2) cf, .slice ta n tc] W' fun e w' => e = .returned (.bool true) ∧ Below w8.heap.size w8 w') := fun W' hW => by
                      refine (kept9 l (some ⟨gf, 0, none⟩) ta n cf tc HN W' (SF8.old hW) (HS0.out.old (HB8.out.trans (hW.mono HB8.out.size))) hcf (by omega)).mono ?_
                      rintro e w' ⟨rfl, hb⟩
                      exact ⟨rfl, hW.trans (hb.mono hW.size)⟩
                    have HKD : Hid (∀ W', Below w8.heap.size w8 W' → Calls Tryz.prog 37 #[.slice (some ⟨gl, 0, none⟩) (0 + 5) cl, .slice da2 0 0] W' fun e w' => e = .returned (.bool true) ∧ Below w8.heap.size w8 w') := fun W' hW => by
                      have := kept_any da2 (some ⟨gl, 0, none⟩) (lentL D2) D2 cl 0 W' (SL8.old hW) (SD8.old hW) (fun _ => rfl) (by rw [HDN2.out]; omega)
                      rw [show (lentL D2).length = 0 + 5 by unfold lentL; rw [List.length_append, HDN2.out]; rfl, HDN2.out, beq_self9] at this
                      refine this.mono ?_
                      rintro e w' ⟨rfl, hb⟩
                      exact ⟨rfl, hW.trans (hb.mono hW.size)⟩
                    obtain ⟨ua, uc, hu, r9⟩ := hp9.x
                    have HCX : Hid (∀ W', Below w8.heap.size w8 W' → W'.cell? ⟨w.heap.size + 1, 0, none⟩ = some (.slice ua M.length uc)) := fun W' hW => (hW.cell (p := ⟨w.heap.size + 1, 0, none⟩) r9.b_lt).trans r9.cell0
                    have bt0 : Below w8.heap.size w8 w8.drew := (Below.refl _ _).drew
                    have q1 := HBX8.out _ bt0
                    have q2 := HCX.out _ bt0
                    clear CR r7 k7 f7 k7p r8 k8 f8 kk9 hp9 hu r9 SF8 SL8 SD8 kb6 y0 y1 y2 y3 B7 B8 HSF5 HSL6 HSF6 HSD6 HPJ6 HBW6 HFR6 HSZ6 HB5 HB5d HB6 HSD2 HFD HBD2
                    go_wp2_with fail
                    try clear HT
                    try clear h2w
                    try clear HTB
                    try clear HLL
                    try clear HN1
                    try clear HKB
                    try clear HSB
                    try clear HBB
                    try clear HPB
                    try clear HN
                    try clear HS0
                    try clear HBJ
                    try clear hwr
                    try clear HFR
                    try clear HOB
                    try clear HSB1
                    try clear HSZ
                    try clear hXl
                    try clear hSl
                    try clear hiu
                    try clear hu0
                    try clear hu1
                    try clear hu2
                    try clear HDN2
                    try clear HDB2
                    try clear HDN
                    try clear HDB
                    try clear HDE
                    try clear HDS
                    try clear HDL
                    try clear hcf
                    try clear hnil2
                    try clear hLb
                    try clear hni
                    try clear hbd
                    try clear HBX
                    try clear HLN
                    try clear b1
                    try clear b2
                    try clear hMb
                    try clear hdn4
                    try clear hjS
                    try clear hm
                    try clear hmore
                    try clear hdn3
                    try clear hSD
                    go_region_with (first
                      | (go_at_call 36; refine (HLE.out _ (by assumption)).mono ?_; rintro e wl ⟨rfl, btl⟩; have q1 := HBX8.out _ btl; have q2 := HCX.out _ btl)
                      | (go_at_call 22; refine (HKP.out _ (by assumption)).mono ?_; rintro e wk ⟨rfl, btk⟩; have q1 := HBX8.out _ btk; have q2 := HCX.out _ btk)
                      | (go_at_call 37; refine (HKD.out _ (by assumption)).mono ?_; rintro e wd ⟨rfl, btd⟩; have q1 := HBX8.out _ btd; have q2 := HCX.out _ btd))
                    all_goals
                      go_wp2_with fail
                      go_roundw
                      case rel => exact ⟨i + 1, v9, u9, M, by omega, by go_num, HP9.out.old (by assumption), HXX.out, HB8.out.trans (Below.mono (by assumption) HB8.out.size)⟩
                      case measure => simp [intOf]; omega
                  · go_wp2_with fail
                    have SD2 := HSDD.out
                    obtain ⟨D2, hD2⟩ : ∃ D2 : List Int, D2 = D.drop 1 := ⟨_, rfl⟩
                    obtain ⟨da2, hda2⟩ : ∃ da2 : Option Addr, da2 = some ⟨gg, 0 + 1, none⟩ := ⟨_, rfl⟩
                    have hda3 : some (⟨gg, 1, none⟩ : Addr) = da2 := hda2.symm
                    rw [← hD2] at SD2 HDN2 HDB2
                    rw [← hda2] at SD2
                    rw [hda3]
                    have hnil2 : da2 = none → ce = 0 := fun h => by rw [hda2] at h; cases h
                    have hfd : ∀ g o, da2 = some ⟨g, o, none⟩ → 0 < D2.length → wb.heap.size ≤ g ∧ g < w3.heap.size := fun g o e _ => by rw [hda2] at e; cases e; exact ⟨hgg, hggl⟩
                    have hdn4 : dd ≤ 600000001 := by omega
                    have BD2 := HB3.out
                    clear hda3 hda2 hD2 HSDD HO3 HB3 hcc hdci hd0i
                    generalize w3 = wD at *
                    generalize dd = dn2 at *
                    generalize ce = dc2 at *
                    try clear y0 y1 y2 y3
                    obtain ⟨y0, y1, y2, y3⟩ := HBX.out wD (Kp.of_below BD2)
                    have BDw : Below w.heap.size w wD := HBB.out.trans (BD2.mono HBB.out.size)
                    have CF := face9 l ta n tc HN wD (HS0.out.old BDw) (by omega)
                    have HSD2 : Hid (Seg wD da2 D2) := SD2
                    have HFD : Hid (∀ g o, da2 = some ⟨g, o, none⟩ → 0 < D2.length → wb.heap.size ≤ g ∧ g < wD.heap.size) := hfd
                    have HBD2 : Hid (Below wb.heap.size wb wD) := BD2
                    clear SD2 hfd BD2
                    refine CF.mono ?_
                    rintro e w5 ⟨gf, cf, rfl, OF, b5⟩
                    have hfl : (faceL l).length = n + 2 := by unfold faceL; rw [List.length_append, HN.out]; rfl
                    have hgf := (OF.lt gf rfl).1
                    have SF5 : SegT w5 (some ⟨gf, 0, none⟩) (faceL l) := own_segT OF hfl (faceL_fit HS0.out.fit)
                    have hcf : n + 2 ≤ cf := (own_factsT OF).1
                    have HSF5 : Hid (SegT w5 (some ⟨gf, 0, none⟩) (faceL l) ∧ wD.heap.size ≤ gf) := ⟨SF5, hgf⟩
                    have CL := lend_any da2 D2 dc2 w5 (HSD2.out.old b5) hnil2 (by rw [HDN2.out]; omega)
                    rw [HDN2.out] at CL
                    have HB5 : Hid (Below wb.heap.size wb w5) := HBD2.out.trans (b5.mono HBD2.out.size)
                    have HB5d : Hid (Below wD.heap.size wD w5) := b5
                    clear CF OF hfl hgf SF5 b5 BDw
                    go_wp2_with fail
                    refine CL.mono ?_
                    rintro e w6 ⟨gl, cl, rfl, OL, b6⟩
                    have hgl := (OL.lt gl rfl).1
                    have hgl2 : gl < w6.heap.size := (OL.lt gl rfl).2
                    obtain ⟨-, a6, c6, hv6, SL6, -, -, -⟩ := own_seg (M := 255) OL (by omega) (lent_bd HDB2.out)
                    cases hv6
                    have HSL6 : Hid (Seg w6 (some ⟨gl, 0, none⟩) (lentL D2) ∧ w5.heap.size ≤ gl) := ⟨SL6, hgl⟩
                    have HB6 : Hid (Below wb.heap.size wb w6) := HB5.out.trans (b6.mono HB5.out.size)
                    have HSF6 : Hid (SegT w6 (some ⟨gf, 0, none⟩) (faceL l)) := HSF5.out.1.old b6
                    have HSD6 : Hid (Seg w6 da2 D2) := (HSD2.out.old HB5d.out).old b6
                    have HPJ6 : Hid (Pair w6 w.heap.size (w.heap.size + 1) (w.heap.size + 2) v u L) := HPB.out.old HB6.out
                    have HBW6 : Hid (Below w.heap.size w w6) := HBB.out.trans (HB6.out.mono HBB.out.size)
                    have HSZ6 : Hid (ob + 1 ≤ wD.heap.size ∧ wD.heap.size ≤ w5.heap.size ∧ w5.heap.size ≤ w6.heap.size ∧ wb.heap.size = ob + 1) := ⟨by have := HBD2.out.size; have := HSB1.out; omega, HB5d.out.size, b6.size, HSB1.out⟩
                    have HFR6 : Hid (∀ q, ob ≤ q → ¬ PS w.heap.size (w.heap.size + 1) v u q) := fun q hq => HFR.out q (by rw [HOB.out]; exact hq)
                    clear y0 y1 y2 y3
                    obtain ⟨y0, y1, y2, y3⟩ := HBX.out w6 (Kp.of_below HB6.out)
                    have SP6 : SegT w6 (some ⟨gf, 0, none⟩) l := by
                      have := HSF6.out.take n
                      rwa [show (faceL l).take n = l by unfold faceL; rw [← HN.out]; simp] at this
                    have SG6 : Seg w6 (some ⟨gl, 0, none⟩) D2 := by
                      have := SL6.take dn2
                      rwa [show (lentL D2).take dn2 = D2 by unfold lentL; rw [← HDN2.out]; simp] at this
                    have CW := pwr9_any w.heap.size (w.heap.size + 2) v L last D2 (some ⟨gl, 0, none⟩) dn2 cl HDN2 (by omega) l (some ⟨gf, 0, none⟩) n cf HN k w6 HPJ6.out.g (by omega) SP6 SG6 (fun h => by cases h) (fun g o e h => by
                        cases e
                        exact ⟨fun q => HFR6.out gl (by have := HSZ6.out; have := HSL6.out.2; omega) (.inl q), hgl2⟩) (fun g o e h => by
                        cases e
                        exact fun q => HFR6.out gf (by have := HSZ6.out; have := HSF5.out.2; omega) (.inl q)) (HT.out.1.old HBW6.out) (HT.out.2.old HBW6.out) (by omega) (by omega)
                    have HRW : Hid (∀ w7, Below w.heap.size w w7 → RwL w7 (w.heap.size + 1) (w.heap.size + 2) u L → Seg w7 da2 D2 → w6.heap.size ≤ w7.heap.size → Calls Tryz.prog 35 #[.pointer (some ⟨w.heap.size + 1, 0, none⟩), .int .i64 k, .bool last, .slice da2 dn2 dc2, .slice ta n tc] w7 fun e w' => e = .returned (.int .i64 (pwe9 k (L.length % 8) dn2 l)) ∧ RwI w7 w' (w.heap.size + 1) (w.heap.size + 2) u (L ++ if pwe9 k (L.length % 8) dn2 l = 0 then blk9 k.toNat (L.length % 8) last D2 l else [])) := fun w7 h1 h2 h3 h4 => by
                      refine rwr9_all (w.heap.size + 1) (w.heap.size + 2) u L last D2 da2 dn2 dc2 HDN2 l ta n tc HN (by omega) k w7 h2 (by omega) (HS0.out.old h1) h3 (fun g o e h => ?_) (fun g o e h => ?_)
                      · have hq := HFD.out g o e h
                        exact ⟨fun q => HFR6.out g (by have := HSZ6.out; omega) (.inr q), by have := HSZ6.out; omega⟩
                      · have hq := HS0.out.lt g o e h
                        rintro (q | q)
                        · omega
                        · have := (h2.own_lt g q).1; omega
                    have hXX : (L ++ if pwe9 k (L.length % 8) dn2 l = 0 then blk9 k.toNat (L.length % 8) last D2 l else []).length ≤ tb9 TL (i + 1) := HLN.out _ (by
                      have := add9_le (k := k) (x := L.length % 8) (last := last) (D := D2) HS0.out.fit
                      unfold add9 at this
                      rw [HDN2.out] at this
                      exact this)
                    obtain ⟨E, hE⟩ : ∃ E, E = pwe9 k (L.length % 8) dn2 l := ⟨_, rfl⟩
                    obtain ⟨M, hMe⟩ : ∃ M, M = L ++ if pwe9 k (L.length % 8) dn2 l = 0 then blk9 k.toNat (L.length % 8) last D2 l else [] := ⟨_, rfl⟩
                    rw [← hMe] at CW HRW hXX
                    rw [← hE] at CW HRW
                    have HXX : Hid (M.length ≤ tb9 TL (i + 1)) := hXX
                    have hMb : M.length ≤ 3000000000 := by
                      have h1 := tb9_mono TL (m - (i + 1)) (i + 1)
                      rw [show i + 1 + (m - (i + 1)) = m by omega] at h1
                      have := HTB.out
                      omega
                    clear CL OL SL6 hgl SP6 SG6 hE hMe hXX b6
                    go_wp2_with fail
                    refine CW.mono ?_
                    rintro e w7 ⟨rfl, v7, r7, k7, f7⟩
                    have k7p : Kp (PS w.heap.size (w.heap.size + 1) v u) w6 w7 := k7.mono (fun _ _ e => .inl e)
                    have x7 := HPJ6.out.x.apartW HPJ6.out.g k7 HN1.out.1 HN1.out.2.1 HN1.out.2.2 HPJ6.out.ap
                    have B7 : Below w.heap.size w w7 := HKB.out _ _ _ _ _ HPJ6.out HBW6.out k7p
                    have kb6 : Kp (PS w.heap.size (w.heap.size + 1) v u) wb w6 := Kp.of_below HB6.out
                    clear y0 y1 y2 y3
                    obtain ⟨y0, y1, y2, y3⟩ := HBX.out w7 (kb6.trans k7p (fun _ _ e => e))
                    have CR := HRW.out w7 B7 x7 (HSD6.out.kp k7p (fun g o e h => HFR6.out g (by have := HSZ6.out; have := HFD.out g o e h; omega))) k7.size
                    clear CW HRW x7
                    go_wp2_with fail
                    refine CR.mono ?_
                    rintro e w8 ⟨rfl, u8, r8, k8, f8⟩
                    obtain ⟨v9, u9, hp9, kk9, _, _⟩ := pair_wr HPJ6.out HN1.out.1 HN1.out.2.1 HN1.out.2.2 r7 k7 f7 r8 k8 f8
                    have B8 : Below w.heap.size w w8 := HKB.out _ _ _ _ _ HPJ6.out HBW6.out kk9
                    have HBX8 : Hid (∀ W', Below w8.heap.size w8 W' → W'.cell? ⟨ob, 3, none⟩ = some (.slice ta n tc)) := fun W' hb => (HBX.out W' ((kb6.trans kk9 (fun _ _ e => e)).trans (S' := fun _ => False) (kp_of_below hb _) (fun _ _ e => e.elim))).2.2.2
                    have SF8 : SegT w8 (some ⟨gf, 0, none⟩) (faceL l) := HSF6.out.kp kk9 (fun g o e h => by cases e; exact HFR6.out gf (by have := HSZ6.out; have := HSF5.out.2; omega))
                    have SL8 : Seg w8 (some ⟨gl, 0, none⟩) (lentL D2) := HSL6.out.1.kp kk9 (fun g o e h => by cases e; exact HFR6.out gl (by have := HSZ6.out; have := HSL6.out.2; omega))
                    have SD8 : Seg w8 da2 D2 := HSD6.out.kp kk9 (fun g o e h => HFR6.out g (by have := HSZ6.out; have := HFD.out g o e h; omega))
                    have HP9 : Hid (Pair w8 w.heap.size (w.heap.size + 1) (w.heap.size + 2) v9 u9 M) := hp9
                    have HB8 : Hid (Below w.heap.size w w8) := B8
                    have HLE : Hid (∀ W', Below w8.heap.size w8 W' → Calls Tryz.prog 36 #[.pointer (some ⟨w.heap.size, 0, none⟩)] W' fun e w' => e = .returned (.int .i64 (M.length : Int)) ∧ Below w8.heap.size w8 w') := fun W' hW => by
                      refine (len_any w.heap.size (w.heap.size + 2) v9 M W' (HP9.out.old hW).g (by omega)).mono ?_
                      rintro e w' ⟨rfl, hb⟩
                      exact ⟨rfl, hW.trans (hb.mono hW.size)⟩
                    have HKP : Hid (∀ W', Below w8.heap.size w8 W' → Calls Tryz.prog 22 #[.slice (some ⟨gf, 0, none⟩) (n + 2) cf, .slice ta n tc] W' fun e w' => e = .returned (.bool true) ∧ Below w8.heap.size w8 w') := fun W' hW => by
                      refine (kept9 l (some ⟨gf, 0, none⟩) ta n cf tc HN W' (SF8.old hW) (HS0.out.old (HB8.out.trans (hW.mono HB8.out.size))) hcf (by omega)).mono ?_
                      rintro e w' ⟨rfl, hb⟩
                      exact ⟨rfl, hW.trans (hb.mono hW.size)⟩
                    have HKD : Hid (∀ W', Below w8.heap.size w8 W' → Calls Tryz.prog 37 #[.slice (some ⟨gl, 0, none⟩) (dn2 + 5) cl, .slice da2 dn2 dc2] W' fun e w' => e = .returned (.bool true) ∧ Below w8.heap.size w8 w') := fun W' hW => by
                      have := kept_any da2 (some ⟨gl, 0, none⟩) (lentL D2) D2 cl dc2 W' (SL8.old hW) (SD8.old hW) hnil2 (by rw [HDN2.out]; omega)
                      rw [show (lentL D2).length = dn2 + 5 by unfold lentL; rw [List.length_append, HDN2.out]; rfl, HDN2.out, beq_self9] at this
                      refine this.mono ?_
                      rintro e w' ⟨rfl, hb⟩
                      exact ⟨rfl, hW.trans (hb.mono hW.size)⟩
                    obtain ⟨ua, uc, hu, r9⟩ := hp9.x
                    have HCX : Hid (∀ W', Below w8.heap.size w8 W' → W'.cell? ⟨w.heap.size + 1, 0, none⟩ = some (.slice ua M.length uc)) := fun W' hW => (hW.cell (p := ⟨w.heap.size + 1, 0, none⟩) r9.b_lt).trans r9.cell0
                    have bt0 : Below w8.heap.size w8 w8.drew := (Below.refl _ _).drew
                    have q1 := HBX8.out _ bt0
                    have q2 := HCX.out _ bt0
                    clear CR r7 k7 f7 k7p r8 k8 f8 kk9 hp9 hu r9 SF8 SL8 SD8 kb6 y0 y1 y2 y3 B7 B8 HSF5 HSL6 HSF6 HSD6 HPJ6 HBW6 HFR6 HSZ6 HB5 HB5d HB6 HSD2 HFD HBD2
                    go_wp2_with fail
                    try clear HT
                    try clear h2w
                    try clear HTB
                    try clear HLL
                    try clear HN1
                    try clear HKB
                    try clear HSB
                    try clear HBB
                    try clear HPB
                    try clear HN
                    try clear HS0
                    try clear HBJ
                    try clear hwr
                    try clear HFR
                    try clear HOB
                    try clear HSB1
                    try clear HSZ
                    try clear hXl
                    try clear hSl
                    try clear hiu
                    try clear hu0
                    try clear hu1
                    try clear hu2
                    try clear HDN2
                    try clear HDB2
                    try clear HDN
                    try clear HDB
                    try clear HDE
                    try clear HDS
                    try clear HDL
                    try clear hcf
                    try clear hnil2
                    try clear hLb
                    try clear hni
                    try clear hbd
                    try clear HBX
                    try clear HLN
                    try clear b1
                    try clear b2
                    try clear hMb
                    try clear hdn4
                    try clear hjS
                    try clear hm
                    try clear hmore
                    try clear hdn3
                    try clear hSD
                    go_region_with (first
                      | (go_at_call 36; refine (HLE.out _ (by assumption)).mono ?_; rintro e wl ⟨rfl, btl⟩; have q1 := HBX8.out _ btl; have q2 := HCX.out _ btl)
                      | (go_at_call 22; refine (HKP.out _ (by assumption)).mono ?_; rintro e wk ⟨rfl, btk⟩; have q1 := HBX8.out _ btk; have q2 := HCX.out _ btk)
                      | (go_at_call 37; refine (HKD.out _ (by assumption)).mono ?_; rintro e wd ⟨rfl, btd⟩; have q1 := HBX8.out _ btd; have q2 := HCX.out _ btd))
                    all_goals
                      go_wp2_with fail
                      go_roundw
                      case rel => exact ⟨i + 1, v9, u9, M, by omega, by go_num, HP9.out.old (by assumption), HXX.out, HB8.out.trans (Below.mono (by assumption) HB8.out.size)⟩
                      case measure => simp [intOf]; omega
                · have hz1 : ¬ 0 < gw := hpos
                  obtain ⟨-, a4, c4, hv4, SD2, hx4, -, -⟩ := own_seg (M := 255) HO3.out (by omega) HDB.out
                  cases hv4
                  have hnil2 : da = none → dc = 0 := fun h => own_nil9 HO3.out h
                  have hfd : ∀ g o, da = some ⟨g, o, none⟩ → 0 < D.length → wb.heap.size ≤ g ∧ g < w3.heap.size := fun g o e _ => ⟨(hx4 _ e).2.2.1, (hx4 _ e).2.2.2⟩
                  have HDN2 : Hid (D.length = dn) := HDN
                  have HDB2 : Hid (∀ z ∈ D, 0 ≤ z ∧ z ≤ 255) := HDB
                  have BD2 := HB3.out
                  generalize w3 = wD at *
                  generalize D = D2 at *
                  generalize da = da2 at *
                  generalize dc = dc2 at *
                  generalize dn = dn2 at *
                  clear hx4 HO3 HB3
                  by_cases hn0 : gw < 0
                  · have hd0 : dn2 = 0 := by
                      by_cases q : dn2 = 0
                      · exact q
                      · exact absurd ⟨hn0, by omega⟩ hneg
                    have hdi : ¬ (0 : Int) < (dn2 : Int) := by omega
                    have hdn4 : dn2 ≤ 600000001 := by omega
                    clear hd0
                    go_wp2_with fail
                    try clear y0 y1 y2 y3
                    obtain ⟨y0, y1, y2, y3⟩ := HBX.out wD (Kp.of_below BD2)
                    have BDw : Below w.heap.size w wD := HBB.out.trans (BD2.mono HBB.out.size)
                    have CF := face9 l ta n tc HN wD (HS0.out.old BDw) (by omega)
                    have HSD2 : Hid (Seg wD da2 D2) := SD2
                    have HFD : Hid (∀ g o, da2 = some ⟨g, o, none⟩ → 0 < D2.length → wb.heap.size ≤ g ∧ g < wD.heap.size) := hfd
                    have HBD2 : Hid (Below wb.heap.size wb wD) := BD2
                    clear SD2 hfd BD2
                    refine CF.mono ?_
                    rintro e w5 ⟨gf, cf, rfl, OF, b5⟩
                    have hfl : (faceL l).length = n + 2 := by unfold faceL; rw [List.length_append, HN.out]; rfl
                    have hgf := (OF.lt gf rfl).1
                    have SF5 : SegT w5 (some ⟨gf, 0, none⟩) (faceL l) := own_segT OF hfl (faceL_fit HS0.out.fit)
                    have hcf : n + 2 ≤ cf := (own_factsT OF).1
                    have HSF5 : Hid (SegT w5 (some ⟨gf, 0, none⟩) (faceL l) ∧ wD.heap.size ≤ gf) := ⟨SF5, hgf⟩
                    have CL := lend_any da2 D2 dc2 w5 (HSD2.out.old b5) hnil2 (by rw [HDN2.out]; omega)
                    rw [HDN2.out] at CL
                    have HB5 : Hid (Below wb.heap.size wb w5) := HBD2.out.trans (b5.mono HBD2.out.size)
                    have HB5d : Hid (Below wD.heap.size wD w5) := b5
                    clear CF OF hfl hgf SF5 b5 BDw
                    go_wp2_with fail
                    refine CL.mono ?_
                    rintro e w6 ⟨gl, cl, rfl, OL, b6⟩
                    have hgl := (OL.lt gl rfl).1
                    have hgl2 : gl < w6.heap.size := (OL.lt gl rfl).2
                    obtain ⟨-, a6, c6, hv6, SL6, -, -, -⟩ := own_seg (M := 255) OL (by omega) (lent_bd HDB2.out)
                    cases hv6
                    have HSL6 : Hid (Seg w6 (some ⟨gl, 0, none⟩) (lentL D2) ∧ w5.heap.size ≤ gl) := ⟨SL6, hgl⟩
                    have HB6 : Hid (Below wb.heap.size wb w6) := HB5.out.trans (b6.mono HB5.out.size)
                    have HSF6 : Hid (SegT w6 (some ⟨gf, 0, none⟩) (faceL l)) := HSF5.out.1.old b6
                    have HSD6 : Hid (Seg w6 da2 D2) := (HSD2.out.old HB5d.out).old b6
                    have HPJ6 : Hid (Pair w6 w.heap.size (w.heap.size + 1) (w.heap.size + 2) v u L) := HPB.out.old HB6.out
                    have HBW6 : Hid (Below w.heap.size w w6) := HBB.out.trans (HB6.out.mono HBB.out.size)
                    have HSZ6 : Hid (ob + 1 ≤ wD.heap.size ∧ wD.heap.size ≤ w5.heap.size ∧ w5.heap.size ≤ w6.heap.size ∧ wb.heap.size = ob + 1) := ⟨by have := HBD2.out.size; have := HSB1.out; omega, HB5d.out.size, b6.size, HSB1.out⟩
                    have HFR6 : Hid (∀ q, ob ≤ q → ¬ PS w.heap.size (w.heap.size + 1) v u q) := fun q hq => HFR.out q (by rw [HOB.out]; exact hq)
                    clear y0 y1 y2 y3
                    obtain ⟨y0, y1, y2, y3⟩ := HBX.out w6 (Kp.of_below HB6.out)
                    have SP6 : SegT w6 (some ⟨gf, 0, none⟩) l := by
                      have := HSF6.out.take n
                      rwa [show (faceL l).take n = l by unfold faceL; rw [← HN.out]; simp] at this
                    have SG6 : Seg w6 (some ⟨gl, 0, none⟩) D2 := by
                      have := SL6.take dn2
                      rwa [show (lentL D2).take dn2 = D2 by unfold lentL; rw [← HDN2.out]; simp] at this
                    have CW := pwr9_any w.heap.size (w.heap.size + 2) v L last D2 (some ⟨gl, 0, none⟩) dn2 cl HDN2 (by omega) l (some ⟨gf, 0, none⟩) n cf HN k w6 HPJ6.out.g (by omega) SP6 SG6 (fun h => by cases h) (fun g o e h => by
                        cases e
                        exact ⟨fun q => HFR6.out gl (by have := HSZ6.out; have := HSL6.out.2; omega) (.inl q), hgl2⟩) (fun g o e h => by
                        cases e
                        exact fun q => HFR6.out gf (by have := HSZ6.out; have := HSF5.out.2; omega) (.inl q)) (HT.out.1.old HBW6.out) (HT.out.2.old HBW6.out) (by omega) (by omega)
                    have HRW : Hid (∀ w7, Below w.heap.size w w7 → RwL w7 (w.heap.size + 1) (w.heap.size + 2) u L → Seg w7 da2 D2 → w6.heap.size ≤ w7.heap.size → Calls Tryz.prog 35 #[.pointer (some ⟨w.heap.size + 1, 0, none⟩), .int .i64 k, .bool last, .slice da2 dn2 dc2, .slice ta n tc] w7 fun e w' => e = .returned (.int .i64 (pwe9 k (L.length % 8) dn2 l)) ∧ RwI w7 w' (w.heap.size + 1) (w.heap.size + 2) u (L ++ if pwe9 k (L.length % 8) dn2 l = 0 then blk9 k.toNat (L.length % 8) last D2 l else [])) := fun w7 h1 h2 h3 h4 => by
                      refine rwr9_all (w.heap.size + 1) (w.heap.size + 2) u L last D2 da2 dn2 dc2 HDN2 l ta n tc HN (by omega) k w7 h2 (by omega) (HS0.out.old h1) h3 (fun g o e h => ?_) (fun g o e h => ?_)
                      · have hq := HFD.out g o e h
                        exact ⟨fun q => HFR6.out g (by have := HSZ6.out; omega) (.inr q), by have := HSZ6.out; omega⟩
                      · have hq := HS0.out.lt g o e h
                        rintro (q | q)
                        · omega
                        · have := (h2.own_lt g q).1; omega
                    have hXX : (L ++ if pwe9 k (L.length % 8) dn2 l = 0 then blk9 k.toNat (L.length % 8) last D2 l else []).length ≤ tb9 TL (i + 1) := HLN.out _ (by
                      have := add9_le (k := k) (x := L.length % 8) (last := last) (D := D2) HS0.out.fit
                      unfold add9 at this
                      rw [HDN2.out] at this
                      exact this)
                    obtain ⟨E, hE⟩ : ∃ E, E = pwe9 k (L.length % 8) dn2 l := ⟨_, rfl⟩
                    obtain ⟨M, hMe⟩ : ∃ M, M = L ++ if pwe9 k (L.length % 8) dn2 l = 0 then blk9 k.toNat (L.length % 8) last D2 l else [] := ⟨_, rfl⟩
                    rw [← hMe] at CW HRW hXX
                    rw [← hE] at CW HRW
                    have HXX : Hid (M.length ≤ tb9 TL (i + 1)) := hXX
                    have hMb : M.length ≤ 3000000000 := by
                      have h1 := tb9_mono TL (m - (i + 1)) (i + 1)
                      rw [show i + 1 + (m - (i + 1)) = m by omega] at h1
                      have := HTB.out
                      omega
                    clear CL OL SL6 hgl SP6 SG6 hE hMe hXX b6
                    go_wp2_with fail
                    refine CW.mono ?_
                    rintro e w7 ⟨rfl, v7, r7, k7, f7⟩
                    have k7p : Kp (PS w.heap.size (w.heap.size + 1) v u) w6 w7 := k7.mono (fun _ _ e => .inl e)
                    have x7 := HPJ6.out.x.apartW HPJ6.out.g k7 HN1.out.1 HN1.out.2.1 HN1.out.2.2 HPJ6.out.ap
                    have B7 : Below w.heap.size w w7 := HKB.out _ _ _ _ _ HPJ6.out HBW6.out k7p
                    have kb6 : Kp (PS w.heap.size (w.heap.size + 1) v u) wb w6 := Kp.of_below HB6.out
                    clear y0 y1 y2 y3
                    obtain ⟨y0, y1, y2, y3⟩ := HBX.out w7 (kb6.trans k7p (fun _ _ e => e))
                    have CR := HRW.out w7 B7 x7 (HSD6.out.kp k7p (fun g o e h => HFR6.out g (by have := HSZ6.out; have := HFD.out g o e h; omega))) k7.size
                    clear CW HRW x7
                    go_wp2_with fail
                    refine CR.mono ?_
                    rintro e w8 ⟨rfl, u8, r8, k8, f8⟩
                    obtain ⟨v9, u9, hp9, kk9, _, _⟩ := pair_wr HPJ6.out HN1.out.1 HN1.out.2.1 HN1.out.2.2 r7 k7 f7 r8 k8 f8
                    have B8 : Below w.heap.size w w8 := HKB.out _ _ _ _ _ HPJ6.out HBW6.out kk9
                    have HBX8 : Hid (∀ W', Below w8.heap.size w8 W' → W'.cell? ⟨ob, 3, none⟩ = some (.slice ta n tc)) := fun W' hb => (HBX.out W' ((kb6.trans kk9 (fun _ _ e => e)).trans (S' := fun _ => False) (kp_of_below hb _) (fun _ _ e => e.elim))).2.2.2
                    have SF8 : SegT w8 (some ⟨gf, 0, none⟩) (faceL l) := HSF6.out.kp kk9 (fun g o e h => by cases e; exact HFR6.out gf (by have := HSZ6.out; have := HSF5.out.2; omega))
                    have SL8 : Seg w8 (some ⟨gl, 0, none⟩) (lentL D2) := HSL6.out.1.kp kk9 (fun g o e h => by cases e; exact HFR6.out gl (by have := HSZ6.out; have := HSL6.out.2; omega))
                    have SD8 : Seg w8 da2 D2 := HSD6.out.kp kk9 (fun g o e h => HFR6.out g (by have := HSZ6.out; have := HFD.out g o e h; omega))
                    have HP9 : Hid (Pair w8 w.heap.size (w.heap.size + 1) (w.heap.size + 2) v9 u9 M) := hp9
                    have HB8 : Hid (Below w.heap.size w w8) := B8
                    have HLE : Hid (∀ W', Below w8.heap.size w8 W' → Calls Tryz.prog 36 #[.pointer (some ⟨w.heap.size, 0, none⟩)] W' fun e w' => e = .returned (.int .i64 (M.length : Int)) ∧ Below w8.heap.size w8 w') := fun W' hW => by
                      refine (len_any w.heap.size (w.heap.size + 2) v9 M W' (HP9.out.old hW).g (by omega)).mono ?_
                      rintro e w' ⟨rfl, hb⟩
                      exact ⟨rfl, hW.trans (hb.mono hW.size)⟩
                    have HKP : Hid (∀ W', Below w8.heap.size w8 W' → Calls Tryz.prog 22 #[.slice (some ⟨gf, 0, none⟩) (n + 2) cf, .slice ta n tc] W' fun e w' => e = .returned (.bool true) ∧ Below w8.heap.size w8 w') := fun W' hW => by
                      refine (kept9 l (some ⟨gf, 0, none⟩) ta n cf tc HN W' (SF8.old hW) (HS0.out.old (HB8.out.trans (hW.mono HB8.out.size))) hcf (by omega)).mono ?_
                      rintro e w' ⟨rfl, hb⟩
                      exact ⟨rfl, hW.trans (hb.mono hW.size)⟩
                    have HKD : Hid (∀ W', Below w8.heap.size w8 W' → Calls Tryz.prog 37 #[.slice (some ⟨gl, 0, none⟩) (dn2 + 5) cl, .slice da2 dn2 dc2] W' fun e w' => e = .returned (.bool true) ∧ Below w8.heap.size w8 w') := fun W' hW => by
                      have := kept_any da2 (some ⟨gl, 0, none⟩) (lentL D2) D2 cl dc2 W' (SL8.old hW) (SD8.old hW) hnil2 (by rw [HDN2.out]; omega)
                      rw [show (lentL D2).length = dn2 + 5 by unfold lentL; rw [List.length_append, HDN2.out]; rfl, HDN2.out, beq_self9] at this
                      refine this.mono ?_
                      rintro e w' ⟨rfl, hb⟩
                      exact ⟨rfl, hW.trans (hb.mono hW.size)⟩
                    obtain ⟨ua, uc, hu, r9⟩ := hp9.x
                    have HCX : Hid (∀ W', Below w8.heap.size w8 W' → W'.cell? ⟨w.heap.size + 1, 0, none⟩ = some (.slice ua M.length uc)) := fun W' hW => (hW.cell (p := ⟨w.heap.size + 1, 0, none⟩) r9.b_lt).trans r9.cell0
                    have bt0 : Below w8.heap.size w8 w8.drew := (Below.refl _ _).drew
                    have q1 := HBX8.out _ bt0
                    have q2 := HCX.out _ bt0
                    clear CR r7 k7 f7 k7p r8 k8 f8 kk9 hp9 hu r9 SF8 SL8 SD8 kb6 y0 y1 y2 y3 B7 B8 HSF5 HSL6 HSF6 HSD6 HPJ6 HBW6 HFR6 HSZ6 HB5 HB5d HB6 HSD2 HFD HBD2
                    go_wp2_with fail
                    try clear HT
                    try clear h2w
                    try clear HTB
                    try clear HLL
                    try clear HN1
                    try clear HKB
                    try clear HSB
                    try clear HBB
                    try clear HPB
                    try clear HN
                    try clear HS0
                    try clear HBJ
                    try clear hwr
                    try clear HFR
                    try clear HOB
                    try clear HSB1
                    try clear HSZ
                    try clear hXl
                    try clear hSl
                    try clear hiu
                    try clear hu0
                    try clear hu1
                    try clear hu2
                    try clear HDN2
                    try clear HDB2
                    try clear HDN
                    try clear HDB
                    try clear HDE
                    try clear HDS
                    try clear HDL
                    try clear hcf
                    try clear hnil2
                    try clear hLb
                    try clear hni
                    try clear hbd
                    try clear HBX
                    try clear HLN
                    try clear b1
                    try clear b2
                    try clear hMb
                    try clear hdn4
                    try clear hjS
                    try clear hm
                    try clear hmore
                    try clear hdn3
                    try clear hSD
                    go_region_with (first
                      | (go_at_call 36; refine (HLE.out _ (by assumption)).mono ?_; rintro e wl ⟨rfl, btl⟩; have q1 := HBX8.out _ btl; have q2 := HCX.out _ btl)
                      | (go_at_call 22; refine (HKP.out _ (by assumption)).mono ?_; rintro e wk ⟨rfl, btk⟩; have q1 := HBX8.out _ btk; have q2 := HCX.out _ btk)
                      | (go_at_call 37; refine (HKD.out _ (by assumption)).mono ?_; rintro e wd ⟨rfl, btd⟩; have q1 := HBX8.out _ btd; have q2 := HCX.out _ btd))
                    all_goals
                      go_wp2_with fail
                      go_roundw
                      case rel => exact ⟨i + 1, v9, u9, M, by omega, by go_num, HP9.out.old (by assumption), HXX.out, HB8.out.trans (Below.mono (by assumption) HB8.out.size)⟩
                      case measure => simp [intOf]; omega
                  · have hz2 : gw = 0 := by omega
                    subst hz2
                    have hdn4 : dn2 ≤ 600000001 := by omega
                    go_wp2_with fail
                    try clear y0 y1 y2 y3
                    obtain ⟨y0, y1, y2, y3⟩ := HBX.out wD (Kp.of_below BD2)
                    have BDw : Below w.heap.size w wD := HBB.out.trans (BD2.mono HBB.out.size)
                    have CF := face9 l ta n tc HN wD (HS0.out.old BDw) (by omega)
                    have HSD2 : Hid (Seg wD da2 D2) := SD2
                    have HFD : Hid (∀ g o, da2 = some ⟨g, o, none⟩ → 0 < D2.length → wb.heap.size ≤ g ∧ g < wD.heap.size) := hfd
                    have HBD2 : Hid (Below wb.heap.size wb wD) := BD2
                    clear SD2 hfd BD2
                    refine CF.mono ?_
                    rintro e w5 ⟨gf, cf, rfl, OF, b5⟩
                    have hfl : (faceL l).length = n + 2 := by unfold faceL; rw [List.length_append, HN.out]; rfl
                    have hgf := (OF.lt gf rfl).1
                    have SF5 : SegT w5 (some ⟨gf, 0, none⟩) (faceL l) := own_segT OF hfl (faceL_fit HS0.out.fit)
                    have hcf : n + 2 ≤ cf := (own_factsT OF).1
                    have HSF5 : Hid (SegT w5 (some ⟨gf, 0, none⟩) (faceL l) ∧ wD.heap.size ≤ gf) := ⟨SF5, hgf⟩
                    have CL := lend_any da2 D2 dc2 w5 (HSD2.out.old b5) hnil2 (by rw [HDN2.out]; omega)
                    rw [HDN2.out] at CL
                    have HB5 : Hid (Below wb.heap.size wb w5) := HBD2.out.trans (b5.mono HBD2.out.size)
                    have HB5d : Hid (Below wD.heap.size wD w5) := b5
                    clear CF OF hfl hgf SF5 b5 BDw
                    go_wp2_with fail
                    refine CL.mono ?_
                    rintro e w6 ⟨gl, cl, rfl, OL, b6⟩
                    have hgl := (OL.lt gl rfl).1
                    have hgl2 : gl < w6.heap.size := (OL.lt gl rfl).2
                    obtain ⟨-, a6, c6, hv6, SL6, -, -, -⟩ := own_seg (M := 255) OL (by omega) (lent_bd HDB2.out)
                    cases hv6
                    have HSL6 : Hid (Seg w6 (some ⟨gl, 0, none⟩) (lentL D2) ∧ w5.heap.size ≤ gl) := ⟨SL6, hgl⟩
                    have HB6 : Hid (Below wb.heap.size wb w6) := HB5.out.trans (b6.mono HB5.out.size)
                    have HSF6 : Hid (SegT w6 (some ⟨gf, 0, none⟩) (faceL l)) := HSF5.out.1.old b6
                    have HSD6 : Hid (Seg w6 da2 D2) := (HSD2.out.old HB5d.out).old b6
                    have HPJ6 : Hid (Pair w6 w.heap.size (w.heap.size + 1) (w.heap.size + 2) v u L) := HPB.out.old HB6.out
                    have HBW6 : Hid (Below w.heap.size w w6) := HBB.out.trans (HB6.out.mono HBB.out.size)
                    have HSZ6 : Hid (ob + 1 ≤ wD.heap.size ∧ wD.heap.size ≤ w5.heap.size ∧ w5.heap.size ≤ w6.heap.size ∧ wb.heap.size = ob + 1) := ⟨by have := HBD2.out.size; have := HSB1.out; omega, HB5d.out.size, b6.size, HSB1.out⟩
                    have HFR6 : Hid (∀ q, ob ≤ q → ¬ PS w.heap.size (w.heap.size + 1) v u q) := fun q hq => HFR.out q (by rw [HOB.out]; exact hq)
                    clear y0 y1 y2 y3
                    obtain ⟨y0, y1, y2, y3⟩ := HBX.out w6 (Kp.of_below HB6.out)
                    have SP6 : SegT w6 (some ⟨gf, 0, none⟩) l := by
                      have := HSF6.out.take n
                      rwa [show (faceL l).take n = l by unfold faceL; rw [← HN.out]; simp] at this
                    have SG6 : Seg w6 (some ⟨gl, 0, none⟩) D2 := by
                      have := SL6.take dn2
                      rwa [show (lentL D2).take dn2 = D2 by unfold lentL; rw [← HDN2.out]; simp] at this
                    have CW := pwr9_any w.heap.size (w.heap.size + 2) v L last D2 (some ⟨gl, 0, none⟩) dn2 cl HDN2 (by omega) l (some ⟨gf, 0, none⟩) n cf HN k w6 HPJ6.out.g (by omega) SP6 SG6 (fun h => by cases h) (fun g o e h => by
                        cases e
                        exact ⟨fun q => HFR6.out gl (by have := HSZ6.out; have := HSL6.out.2; omega) (.inl q), hgl2⟩) (fun g o e h => by
                        cases e
                        exact fun q => HFR6.out gf (by have := HSZ6.out; have := HSF5.out.2; omega) (.inl q)) (HT.out.1.old HBW6.out) (HT.out.2.old HBW6.out) (by omega) (by omega)
                    have HRW : Hid (∀ w7, Below w.heap.size w w7 → RwL w7 (w.heap.size + 1) (w.heap.size + 2) u L → Seg w7 da2 D2 → w6.heap.size ≤ w7.heap.size → Calls Tryz.prog 35 #[.pointer (some ⟨w.heap.size + 1, 0, none⟩), .int .i64 k, .bool last, .slice da2 dn2 dc2, .slice ta n tc] w7 fun e w' => e = .returned (.int .i64 (pwe9 k (L.length % 8) dn2 l)) ∧ RwI w7 w' (w.heap.size + 1) (w.heap.size + 2) u (L ++ if pwe9 k (L.length % 8) dn2 l = 0 then blk9 k.toNat (L.length % 8) last D2 l else [])) := fun w7 h1 h2 h3 h4 => by
                      refine rwr9_all (w.heap.size + 1) (w.heap.size + 2) u L last D2 da2 dn2 dc2 HDN2 l ta n tc HN (by omega) k w7 h2 (by omega) (HS0.out.old h1) h3 (fun g o e h => ?_) (fun g o e h => ?_)
                      · have hq := HFD.out g o e h
                        exact ⟨fun q => HFR6.out g (by have := HSZ6.out; omega) (.inr q), by have := HSZ6.out; omega⟩
                      · have hq := HS0.out.lt g o e h
                        rintro (q | q)
                        · omega
                        · have := (h2.own_lt g q).1; omega
                    have hXX : (L ++ if pwe9 k (L.length % 8) dn2 l = 0 then blk9 k.toNat (L.length % 8) last D2 l else []).length ≤ tb9 TL (i + 1) := HLN.out _ (by
                      have := add9_le (k := k) (x := L.length % 8) (last := last) (D := D2) HS0.out.fit
                      unfold add9 at this
                      rw [HDN2.out] at this
                      exact this)
                    obtain ⟨E, hE⟩ : ∃ E, E = pwe9 k (L.length % 8) dn2 l := ⟨_, rfl⟩
                    obtain ⟨M, hMe⟩ : ∃ M, M = L ++ if pwe9 k (L.length % 8) dn2 l = 0 then blk9 k.toNat (L.length % 8) last D2 l else [] := ⟨_, rfl⟩
                    rw [← hMe] at CW HRW hXX
                    rw [← hE] at CW HRW
                    have HXX : Hid (M.length ≤ tb9 TL (i + 1)) := hXX
                    have hMb : M.length ≤ 3000000000 := by
                      have h1 := tb9_mono TL (m - (i + 1)) (i + 1)
                      rw [show i + 1 + (m - (i + 1)) = m by omega] at h1
                      have := HTB.out
                      omega
                    clear CL OL SL6 hgl SP6 SG6 hE hMe hXX b6
                    go_wp2_with fail
                    refine CW.mono ?_
                    rintro e w7 ⟨rfl, v7, r7, k7, f7⟩
                    have k7p : Kp (PS w.heap.size (w.heap.size + 1) v u) w6 w7 := k7.mono (fun _ _ e => .inl e)
                    have x7 := HPJ6.out.x.apartW HPJ6.out.g k7 HN1.out.1 HN1.out.2.1 HN1.out.2.2 HPJ6.out.ap
                    have B7 : Below w.heap.size w w7 := HKB.out _ _ _ _ _ HPJ6.out HBW6.out k7p
                    have kb6 : Kp (PS w.heap.size (w.heap.size + 1) v u) wb w6 := Kp.of_below HB6.out
                    clear y0 y1 y2 y3
                    obtain ⟨y0, y1, y2, y3⟩ := HBX.out w7 (kb6.trans k7p (fun _ _ e => e))
                    have CR := HRW.out w7 B7 x7 (HSD6.out.kp k7p (fun g o e h => HFR6.out g (by have := HSZ6.out; have := HFD.out g o e h; omega))) k7.size
                    clear CW HRW x7
                    go_wp2_with fail
                    refine CR.mono ?_
                    rintro e w8 ⟨rfl, u8, r8, k8, f8⟩
                    obtain ⟨v9, u9, hp9, kk9, _, _⟩ := pair_wr HPJ6.out HN1.out.1 HN1.out.2.1 HN1.out.2.2 r7 k7 f7 r8 k8 f8
                    have B8 : Below w.heap.size w w8 := HKB.out _ _ _ _ _ HPJ6.out HBW6.out kk9
                    have HBX8 : Hid (∀ W', Below w8.heap.size w8 W' → W'.cell? ⟨ob, 3, none⟩ = some (.slice ta n tc)) := fun W' hb => (HBX.out W' ((kb6.trans kk9 (fun _ _ e => e)).trans (S' := fun _ => False) (kp_of_below hb _) (fun _ _ e => e.elim))).2.2.2
                    have SF8 : SegT w8 (some ⟨gf, 0, none⟩) (faceL l) := HSF6.out.kp kk9 (fun g o e h => by cases e; exact HFR6.out gf (by have := HSZ6.out; have := HSF5.out.2; omega))
                    have SL8 : Seg w8 (some ⟨gl, 0, none⟩) (lentL D2) := HSL6.out.1.kp kk9 (fun g o e h => by cases e; exact HFR6.out gl (by have := HSZ6.out; have := HSL6.out.2; omega))
                    have SD8 : Seg w8 da2 D2 := HSD6.out.kp kk9 (fun g o e h => HFR6.out g (by have := HSZ6.out; have := HFD.out g o e h; omega))
                    have HP9 : Hid (Pair w8 w.heap.size (w.heap.size + 1) (w.heap.size + 2) v9 u9 M) := hp9
                    have HB8 : Hid (Below w.heap.size w w8) := B8
                    have HLE : Hid (∀ W', Below w8.heap.size w8 W' → Calls Tryz.prog 36 #[.pointer (some ⟨w.heap.size, 0, none⟩)] W' fun e w' => e = .returned (.int .i64 (M.length : Int)) ∧ Below w8.heap.size w8 w') := fun W' hW => by
                      refine (len_any w.heap.size (w.heap.size + 2) v9 M W' (HP9.out.old hW).g (by omega)).mono ?_
                      rintro e w' ⟨rfl, hb⟩
                      exact ⟨rfl, hW.trans (hb.mono hW.size)⟩
                    have HKP : Hid (∀ W', Below w8.heap.size w8 W' → Calls Tryz.prog 22 #[.slice (some ⟨gf, 0, none⟩) (n + 2) cf, .slice ta n tc] W' fun e w' => e = .returned (.bool true) ∧ Below w8.heap.size w8 w') := fun W' hW => by
                      refine (kept9 l (some ⟨gf, 0, none⟩) ta n cf tc HN W' (SF8.old hW) (HS0.out.old (HB8.out.trans (hW.mono HB8.out.size))) hcf (by omega)).mono ?_
                      rintro e w' ⟨rfl, hb⟩
                      exact ⟨rfl, hW.trans (hb.mono hW.size)⟩
                    have HKD : Hid (∀ W', Below w8.heap.size w8 W' → Calls Tryz.prog 37 #[.slice (some ⟨gl, 0, none⟩) (dn2 + 5) cl, .slice da2 dn2 dc2] W' fun e w' => e = .returned (.bool true) ∧ Below w8.heap.size w8 w') := fun W' hW => by
                      have := kept_any da2 (some ⟨gl, 0, none⟩) (lentL D2) D2 cl dc2 W' (SL8.old hW) (SD8.old hW) hnil2 (by rw [HDN2.out]; omega)
                      rw [show (lentL D2).length = dn2 + 5 by unfold lentL; rw [List.length_append, HDN2.out]; rfl, HDN2.out, beq_self9] at this
                      refine this.mono ?_
                      rintro e w' ⟨rfl, hb⟩
                      exact ⟨rfl, hW.trans (hb.mono hW.size)⟩
                    obtain ⟨ua, uc, hu, r9⟩ := hp9.x
                    have HCX : Hid (∀ W', Below w8.heap.size w8 W' → W'.cell? ⟨w.heap.size + 1, 0, none⟩ = some (.slice ua M.length uc)) := fun W' hW => (hW.cell (p := ⟨w.heap.size + 1, 0, none⟩) r9.b_lt).trans r9.cell0
                    have bt0 : Below w8.heap.size w8 w8.drew := (Below.refl _ _).drew
                    have q1 := HBX8.out _ bt0
                    have q2 := HCX.out _ bt0
                    clear CR r7 k7 f7 k7p r8 k8 f8 kk9 hp9 hu r9 SF8 SL8 SD8 kb6 y0 y1 y2 y3 B7 B8 HSF5 HSL6 HSF6 HSD6 HPJ6 HBW6 HFR6 HSZ6 HB5 HB5d HB6 HSD2 HFD HBD2
                    go_wp2_with fail
                    try clear HT
                    try clear h2w
                    try clear HTB
                    try clear HLL
                    try clear HN1
                    try clear HKB
                    try clear HSB
                    try clear HBB
                    try clear HPB
                    try clear HN
                    try clear HS0
                    try clear HBJ
                    try clear hwr
                    try clear HFR
                    try clear HOB
                    try clear HSB1
                    try clear HSZ
                    try clear hXl
                    try clear hSl
                    try clear hiu
                    try clear hu0
                    try clear hu1
                    try clear hu2
                    try clear HDN2
                    try clear HDB2
                    try clear HDN
                    try clear HDB
                    try clear HDE
                    try clear HDS
                    try clear HDL
                    try clear hcf
                    try clear hnil2
                    try clear hLb
                    try clear hni
                    try clear hbd
                    try clear HBX
                    try clear HLN
                    try clear b1
                    try clear b2
                    try clear hMb
                    try clear hdn4
                    try clear hjS
                    try clear hm
                    try clear hmore
                    try clear hdn3
                    try clear hSD
                    go_region_with (first
                      | (go_at_call 36; refine (HLE.out _ (by assumption)).mono ?_; rintro e wl ⟨rfl, btl⟩; have q1 := HBX8.out _ btl; have q2 := HCX.out _ btl)
                      | (go_at_call 22; refine (HKP.out _ (by assumption)).mono ?_; rintro e wk ⟨rfl, btk⟩; have q1 := HBX8.out _ btk; have q2 := HCX.out _ btk)
                      | (go_at_call 37; refine (HKD.out _ (by assumption)).mono ?_; rintro e wd ⟨rfl, btd⟩; have q1 := HBX8.out _ btd; have q2 := HCX.out _ btd))
                    all_goals
                      go_wp2_with fail
                      go_roundw
                      case rel => exact ⟨i + 1, v9, u9, M, by omega, by go_num, HP9.out.old (by assumption), HXX.out, HB8.out.trans (Below.mono (by assumption) HB8.out.size)⟩
                      case measure => simp [intOf]; omega
        · obtain rfl : i = m := by omega
          have hLb : L.length ≤ 3000000000 := by have := HTB.out; omega
          obtain ⟨TT, hTT⟩ : ∃ T, T = toB L := ⟨_, rfl⟩
          have hTbd := toB_bd L
          have HBP : Hid (∀ W', Below wr.heap.size wr W' → Calls Tryz.prog 39 #[.pointer (some ⟨w.heap.size, 0, none⟩)] W' fun e w' => ∃ a c, e = .returned (.slice a TT.length c) ∧ Seg w' a TT ∧ Below W'.heap.size W' w') := fun W' hW => by
            have := bytes_any w.heap.size (w.heap.size + 2) v L W' (PJ.old hW).g (by omega)
            rw [← hTT] at this
            refine this.mono ?_
            rintro e w' ⟨a', c', rfl, ho, hb⟩
            obtain ⟨_, a3, c3, hv, hs, _⟩ := own_seg ho (M := 255) (by decide) (by rw [hTT]; exact hTbd)
            cases hv
            exact ⟨a', c', rfl, hs, hb⟩
          have HBR : Hid (∀ W', Below wr.heap.size wr W' → Calls Tryz.prog 40 #[.pointer (some ⟨w.heap.size + 1, 0, none⟩)] W' fun e w' => ∃ a c, e = .returned (.slice a TT.length c) ∧ Seg w' a TT ∧ Below W'.heap.size W' w') := fun W' hW => by
            have := rbytes_any (w.heap.size + 1) (w.heap.size + 2) u L W' (PJ.old hW).x (by omega)
            rw [← hTT] at this
            refine this.mono ?_
            rintro e w' ⟨a', c', rfl, ho, hb⟩
            obtain ⟨_, a3, c3, hv, hs, _⟩ := own_seg ho (M := 255) (by decide) (by rw [hTT]; exact hTbd)
            cases hv
            exact ⟨a', c', rfl, hs, hb⟩
          have CB := HBP.out wr (Below.refl _ _)
          have HBJ : Hid (Below w.heap.size w wr) := BJ
          clear PJ BJ hTT hTbd hLl HSB HLL HKB HN1
          go_wp2_with fail
          refine CB.mono ?_
          rintro e w1 ⟨a1, c1, rfl, S1, b1⟩
          have CB2 := HBR.out w1 b1
          have HS1 : Hid (Seg w1 a1 TT) := S1
          have HB1 : Hid (Below wr.heap.size wr w1) := b1
          clear CB S1 b1
          go_wp2_with fail
          refine CB2.mono ?_
          rintro e w2 ⟨a2, c2, rfl, S2, b2⟩
          have CS := bsame_any a1 a2 TT TT c1 c2 w2 (HS1.out.old b2) S2
          rw [beq_self9] at CS
          have HB2 : Hid (Below w.heap.size w w2) := HBJ.out.trans ((HB1.out.trans (b2.mono HB1.out.size)).mono HBJ.out.size)
          clear CB2 S2 b2
          go_wp2_with fail
          refine CS.mono ?_
          rintro e w3 ⟨rfl, hw3⟩
          rw [hw3]
          clear CS hw3 w3
          go_wp2_with fail
          refine (pwr9_nil _ _ _ _ w2).mono ?_
          rintro e w4 ⟨rfl, hw4⟩
          rw [hw4]
          clear hw4
          go_wp2_with fail
          refine (plives9 w2).mono ?_
          rintro e w5 ⟨rfl, b5⟩
          have B5 : Below w.heap.size w w5 := HB2.out.trans (b5.mono HB2.out.size)
          clear b5
          go_wp2_with fail
          go_ret
          exact ⟨rfl, B5⟩
end Go.Proofs.YtcifalelnfeggaaGreatDoor
