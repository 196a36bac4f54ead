import Derived.Test.YtmojfdccobebfaaGreatDoorPl
import Derived.Test.YtmojfdccobebfaaGreatDoorPs
import Derived.Laws.OwnMore
import Derived.Test.YtmojfdccobebfaaGreatDoorPk
namespace Go.Proofs.YtmojfdccobebfaaGreatDoor
open Go.RowKit Go.Shelf
set_option linter.unusedVariables false

/-! The document's four, Head. -/
set_option maxRecDepth 100000 in
theorem rfour18 (v : Int) (w : World) (h0 : 0 ≤ v) (h1 : v ≤ 4294967295) : Calls Tryz.prog 29 #[.int .u32 v] w fun e w' => e = .returned (.slice (some ⟨w.heap.size, 0, none⟩) 4 4) ∧
      w'.ownsRow w.heap.size 5 1 (.slice (some ⟨w.heap.size, 0, none⟩) 4 4) 4 ((fixL 4 v).map (Value.int .u8)) ∧ Below w.heap.size w w' := by
  have hd1 : v / 256 / 256 = v / 65536 := by omega
  have hd2 : v / 65536 / 256 = v / 16777216 := by omega
  have HL : Hid ((w.alloc (.cells #[.int .u8 (v % 256), .int .u8 (v / 256 % 256), .int .u8 (v / 65536 % 256), .int .u8 (v / 16777216)] 5)).ownsRow w.heap.size 5 1 (.slice (some ⟨w.heap.size, 0, none⟩) 4 4) 4 ((fixL 4 v).map (Value.int .u8))) := by
    have := World.ownsRow_lit (base := w.heap.size) (e := 5) (size := 1) w #[.int .u8 (v % 256), .int .u8 (v / 256 % 256), .int .u8 (v / 65536 % 256), .int .u8 (v / 16777216)] 4 (Nat.le_refl _) (by decide) rfl
    have e : fixL 4 v = [v % 256, v / 256 % 256, v / 65536 % 256, v / 16777216] := by
      simp only [fixL, hd1, hd2]
      rw [show v / 16777216 % 256 = v / 16777216 by omega]
    rw [e]
    exact this
  clear hd1 hd2
  go_enter Tryz.func29, Tryz.ntmps29
  go_wp2
  go_ret
  exact ⟨rfl, HL.out, (Below.refl _ _).alloc (Nat.le_refl _) _⟩
theorem seg418 {w : World} {g : Nat} {a b c d : Int} {t : TypeId} (h : w.heap[g]? = some (.cells #[.int .u64 a, .int .u64 b, .int .u64 c, .int .u64 d] t (0, 0))) (hb : ∀ z ∈ [a, b, c, d], 0 ≤ z ∧ z ≤ 18446744073709551615) : Seg64 w (some ⟨g, 0, none⟩) [a, b, c, d] := by
  refine ⟨fun i hi => ⟨g, 0, rfl, ?_⟩, by decide, getD_bd (by decide) hb⟩
  rw [Nat.zero_add]
  match i, hi with
  | 0, _ => exact cell18 h rfl
  | 1, _ => exact cell18 h rfl
  | 2, _ => exact cell18 h rfl
  | 3, _ => exact cell18 h rfl
set_option maxRecDepth 100000 in
set_option maxHeartbeats 8000000 in
theorem rhead18_ok (h : Hd18) (w : World) (hk : h.Ok) (hso : 0 ≤ h.so ∧ h.so ≤ 4294967295) (hsn : 0 ≤ h.sn ∧ h.sn ≤ 4294967295) :
    Calls Tryz.prog 12 #[.agg #[.int .i64 h.o, .int .i64 h.n, .int .u32 h.so, .int .u32 h.sn, .int .i64 h.wi, .int .i64 h.lo]] w (HdQ18 w (sum18 (hd18 h)) 0) := by
  obtain ⟨wA, b4, X⟩ := bx18 w h
  have HX : Hid (Bx18 w h wA b4) := X
  have HC : Hid (∀ V, Below wA.heap.size wA V → Cl18 V b4 h) := fun V hV => X.cl hV
  have HA : Hid (Below w.heap.size w wA) := X.bl
  have CK := rchk18 h wA
  rw [if_pos hk] at CK
  have HK : Hid h.Ok := hk
  have HLE : Hid (4 ≤ (encA (hv18 h)).length ∧ (encA (hv18 h)).length ≤ 40) := encA_hv18 h
  have HSO : Hid ((0 ≤ h.so ∧ h.so ≤ 4294967295) ∧ (0 ≤ h.sn ∧ h.sn ≤ 4294967295)) := ⟨hso, hsn⟩
  obtain ⟨l0, l1, l2, l3, l4, l5⟩ := X.cl (Below.refl _ _)
  rw [← X.wa] at l0 l1 l2 l3 l4 l5
  rw [← X.b] at l0 l1 l2 l3 l4 l5
  clear X hk hso hsn
  go_enter Tryz.func12, Tryz.ntmps12
  go_wp2_with fail
  rw [HX.out.wa, HX.out.b]
  clear l0 l1 l2 l3 l4 l5
  refine CK.mono ?_
  rintro e1 w1 ⟨rfl, b1⟩
  have HB1 : Hid (Below wA.heap.size wA w1) := b1
  clear b1 CK
  have hcv := Lib.run_convert_bytes_const (P := Tryz.prog) w1 30 5 #[.int .u8 83, .int .u8 65, .int .u8 80, .int .u8 82, .int .u8 1] 5 5 Tryz.underlying30 Tryz.underlying5
  have hsM := mag18_seg w1
  obtain ⟨wM, hwM⟩ : ∃ wM, wM = w1.alloc (.cells #[.int .u8 83, .int .u8 65, .int .u8 80, .int .u8 82, .int .u8 1] 5 (5, 6)) := ⟨_, rfl⟩
  have bM : Below w1.heap.size w1 wM := by rw [hwM]; exact (Below.refl _ _).alloc (Nat.le_refl _) _
  rw [← hwM] at hsM
  have HWM : Hid (w1.alloc (.cells #[.int .u8 83, .int .u8 65, .int .u8 80, .int .u8 82, .int .u8 1] 5 (5, 6)) = wM) := hwM.symm
  obtain ⟨gM, hgM⟩ : ∃ gM, gM = w1.heap.size := ⟨_, rfl⟩
  have zM : wM.heap.size = gM + 1 := by rw [hwM, hgM]; simp
  have HZM : Hid (wM.heap.size = gM + 1) := zM
  have HGM : Hid (w1.heap.size = gM) := hgM.symm
  rw [← hgM] at hsM
  have HBM : Hid (Below wA.heap.size wA wM) := HB1.out.trans (bM.mono HB1.out.size)
  have cE := cb16 wM #[.int .u64 h.o, .int .u64 h.n, .int .u64 h.wi, .int .u64 h.lo] 60
  obtain ⟨wE, hwE⟩ : ∃ wE, wE = wM.alloc (.cells #[.int .u64 h.o, .int .u64 h.n, .int .u64 h.wi, .int .u64 h.lo] 60) := ⟨_, rfl⟩
  rw [← hwE] at cE
  have qE := cE.cl
  rw [zM] at qE
  have EN := rencode_any (some ⟨gM + 1, 0, none⟩) (hv18 h) 4 wE (seg418 qE (hv18_bd HK.out)) (by simp [hv18])
  have EN : Hid (Calls Tryz.prog 28 #[.slice (some ⟨gM + 1, 0, none⟩) 4 4] wE fun e w' => ∃ v, e = .returned v ∧ w'.ownsRow wE.heap.size 5 1 v (encA (hv18 h)).length ((encA (hv18 h)).map (Value.int .u8)) ∧ Below wE.heap.size wE w') := EN
  have HWE : Hid (wM.alloc (.cells #[.int .u64 h.o, .int .u64 h.n, .int .u64 h.wi, .int .u64 h.lo] 60) = wE) := hwE.symm
  have HBE : Hid (Below wA.heap.size wA wE) := HBM.out.trans (cE.bl.mono HBM.out.size)
  have HSM : Hid (Seg wE (some ⟨gM, 0, none⟩) mag18) := hsM.old cE.bl
  obtain ⟨l0, l1, l2, l3, l4, l5⟩ := HC.out wM HBM.out
  rw [hwM] at l0 l1 l2 l3 l4 l5
  clear bM hwM hsM hgM cE hwE qE zM
  obtain ⟨L1, hL1⟩ : ∃ L1, L1 = mag18 ++ encA (hv18 h) := ⟨_, rfl⟩
  obtain ⟨L2, hL2⟩ : ∃ L2, L2 = L1 ++ fixL 4 h.so := ⟨_, rfl⟩
  obtain ⟨L3, hL3⟩ : ∃ L3, L3 = L2 ++ fixL 4 h.sn := ⟨_, rfl⟩
  have HL3 : Hid (hd18 h = L3) := by rw [hL3, hL2, hL1]; rfl
  have HL1 : Hid (L1 = mag18 ++ encA (hv18 h) ∧ L1.length = 5 + (encA (hv18 h)).length) := ⟨hL1, by rw [hL1, List.length_append]; rfl⟩
  have HL2 : Hid (L2 = L1 ++ fixL 4 h.so ∧ L2.length = L1.length + 4) := ⟨hL2, by rw [hL2, List.length_append, fixL_len]⟩
  have HL3' : Hid (L3 = L2 ++ fixL 4 h.sn ∧ L3.length = L2.length + 4) := ⟨hL3, by rw [hL3, List.length_append, fixL_len]⟩
  have HBD : Hid (∀ z ∈ L3, 0 ≤ z ∧ z ≤ 255) := by rw [← HL3.out]; exact hd18_bd HK.out
  clear hL1 hL2 hL3
  have hk4 := HK.out
  obtain ⟨k0, k1, k2, k3⟩ := hk4
  have u0 : IntKind.u64.wrap h.o = h.o := IntWalk.u64_in _ (by omega)
  have u1 : IntKind.u64.wrap h.n = h.n := IntWalk.u64_in _ (by omega)
  have u2 : IntKind.u64.wrap h.wi = h.wi := IntWalk.u64_in _ (by omega)
  have u3 : IntKind.u64.wrap h.lo = h.lo := IntWalk.u64_in _ (by omega)
  clear k0 k1 k2 k3
  go_wp2_with fail
  rw [HWM.out, HWE.out, HGM.out]
  clear hcv l0 l1 l2 l3 l4 l5 u0 u1 u2 u3
  refine EN.out.mono ?_
  rintro e3 w3 ⟨v3, rfl, o3, b3⟩
  obtain ⟨p3, c3, hv3⟩ := own_sl18 o3
  subst hv3
  have HB3 : Hid (Below wA.heap.size wA w3) := HBE.out.trans (b3.mono HBE.out.size)
  obtain ⟨p4, c4, w4, hr4, o4, b4'⟩ := appm18 w3 (HSM.out.old b3) o3 (by have := HLE.out; omega) (by have := HLE.out; omega)
  rw [← HL1.out.1, ← HL1.out.2] at o4
  rw [← HL1.out.2] at hr4
  have HB4' : Hid (Below wA.heap.size wA w4) := HB3.out.trans (b4'.mono HB3.out.size)
  have H34 : Hid (Below w3.heap.size w3 w4) := b4'
  obtain ⟨x0, x1, x2, x3, x4, x5⟩ := HC.out w4 HB4'.out
  have WD := rfour18 h.so w4 HSO.out.1.1 HSO.out.1.2
  have HO4 : Hid (w4.ownsRow w3.heap.size 5 1 (.slice p4 L1.length c4) L1.length (L1.map (Value.int .u8))) := o4
  clear o3 b3 o4 b4' EN
  generalize (encA (hv18 h)).length = lE at *
  go_wp2_with (first | (at_builtin; refine wpList_app18 rfl (.tmp 10) (.tmp 24) 30 rfl rfl rfl hr4 ?_))
  refine WD.mono ?_
  rintro e5 w5 ⟨rfl, o5, b5⟩
  have H35 : Hid (Below w3.heap.size w3 w5) := H34.out.trans (b5.mono H34.out.size)
  obtain ⟨g6, c6, w6, hr6, o6, b6⟩ := appL18 w5 HL2.out.1 (own_below HO4.out b5) o5 (by omega) (by have := HL1.out.2; have := HLE.out; omega) H35.out.size
  have H36 : Hid (Below w3.heap.size w3 w6) := H35.out.trans b6
  have HB6 : Hid (Below wA.heap.size wA w6) := HB3.out.trans (H36.out.mono HB3.out.size)
  have WD2 := rfour18 h.sn w6 HSO.out.2.1 HSO.out.2.2
  have HO6 : Hid (w6.ownsRow w3.heap.size 5 1 (.slice (some ⟨g6, 0, none⟩) L2.length c6) L2.length (L2.map (Value.int .u8))) := o6
  clear x0 x1 x2 x3 x4 x5 WD o5 b5 o6 b6 hr4
  obtain ⟨x0, x1, x2, x3, x4, x5⟩ := HC.out w6 HB6.out
  go_wp2_with (first | (at_builtin; refine wpList_app18 rfl (.tmp 26) (.tmp 29) 30 rfl rfl rfl hr6 ?_))
  refine WD2.mono ?_
  rintro e7 w7 ⟨rfl, o7, b7⟩
  have H37 : Hid (Below w3.heap.size w3 w7) := H36.out.trans (b7.mono H36.out.size)
  obtain ⟨g8, c8, w8, hr8, o8, b8⟩ := appL18 w7 HL3'.out.1 (own_below HO6.out b7) o7 (by omega) (by have := HL1.out.2; have := HL2.out.2; have := HLE.out; omega) H37.out.size
  have H38 : Hid (Below w3.heap.size w3 w8) := H37.out.trans b8
  have HB8 : Hid (Below wA.heap.size wA w8) := HB3.out.trans (H38.out.mono HB3.out.size)
  obtain ⟨-, a8, c8', hv8, sg8, -, -, -⟩ := own_seg o8 (M := 255) (by decide) HBD.out
  injection hv8 with y1 y2 y3
  subst y1
  have SM := rsum_one w8 w8.heap.size L3.length (some ⟨g8, 0, none⟩) L3 c8 1 30 sg8 rfl rfl (by have := HL1.out.2; have := HL2.out.2; have := HL3'.out.2; have := HLE.out; omega)
  have c9 := cb16 w8 #[.slice (some ⟨g8, 0, none⟩) L3.length c8] 30
  obtain ⟨w9, hw9⟩ : ∃ w9, w9 = w8.alloc (.cells #[.slice (some ⟨g8, 0, none⟩) L3.length c8] 30) := ⟨_, rfl⟩
  rw [← hw9] at SM c9
  have H39 : Hid (Below w3.heap.size w3 w9) := H38.out.trans (c9.bl.mono H38.out.size)
  have WD3 := rfour18 (wI (sumW L3)) w9 (wI_bd18 _).1 (wI_bd18 _).2
  have HO9 : Hid (w9.ownsRow w3.heap.size 5 1 (.slice (some ⟨g8, 0, none⟩) L3.length c8) L3.length (L3.map (Value.int .u8))) := own_below o8 c9.bl
  have HW9 : Hid (w8.alloc (.cells #[.slice (some ⟨g8, 0, none⟩) L3.length c8] 30) = w9) := hw9.symm
  clear x0 x1 x2 x3 x4 x5 WD2 o7 b7 o8 b8 hr6 y2 y3 sg8 c9 hw9
  have HNS : Hid (sum18 L3 = L3 ++ fixL 4 (wI (sumW L3))) := rfl
  generalize wI (sumW L3) = sv at *
  go_wp2_with (first | (at_builtin; refine wpList_app18 rfl (.tmp 31) (.tmp 34) 30 rfl rfl rfl hr8 ?_))
  rw [HW9.out]
  refine SM.mono ?_
  rintro e9 w9' ⟨rfl, hw9'⟩
  subst w9'
  clear SM hr8
  go_wp2_with fail
  refine WD3.mono ?_
  rintro e10 w10 ⟨rfl, o10, b10⟩
  have H310 : Hid (Below w3.heap.size w3 w10) := H39.out.trans (b10.mono H39.out.size)
  obtain ⟨g11, c11, w11, hr11, o11, b11⟩ := appL18 w10 HNS.out (own_below HO9.out b10) o10 (by omega) (by have := HL1.out.2; have := HL2.out.2; have := HL3'.out.2; have := HLE.out; omega) H310.out.size
  have H311 : Below w3.heap.size w3 w11 := H310.out.trans b11
  have HB11 : Below wA.heap.size wA w11 := HB3.out.trans (H311.mono HB3.out.size)
  have HQQ : Hid (HdQ18 w (sum18 L3) 0 (.returned (.tuple #[.slice (some ⟨g11, 0, none⟩) (sum18 L3).length c11, .int .i64 0])) w11) := ⟨_, c11, rfl, own_base o11 (Nat.le_trans HA.out.size HB3.out.size), HA.out.trans (HB11.mono HA.out.size)⟩
  clear WD3 o10 b10 o11 b11 H311 HB11
  generalize hsl : (sum18 L3).length = sl at *
  go_wp2_with (first | (at_builtin; refine wpList_app18 rfl (.tmp 36) (.tmp 40) 30 rfl rfl rfl hr11 ?_))
  go_ret2
  rw [HL3.out]
  exact HQQ.out
set_option maxRecDepth 100000 in
theorem rhead18_no (h : Hd18) (w : World) (hk : ¬ h.Ok) :
    Calls Tryz.prog 12 #[.agg #[.int .i64 h.o, .int .i64 h.n, .int .u32 h.so, .int .u32 h.sn, .int .i64 h.wi, .int .i64 h.lo]] w (HdQ18 w [] 180) := by
  obtain ⟨wA, b4, X⟩ := bx18 w h
  have HX : Hid (Bx18 w h wA b4) := X
  have CK := rchk18 h wA
  rw [if_neg hk] at CK
  obtain ⟨l0, l1, l2, l3, l4, l5⟩ := X.cl (Below.refl _ _)
  rw [← X.wa] at l0 l1 l2 l3 l4 l5
  rw [← X.b] at l0 l1 l2 l3 l4 l5
  clear X hk
  go_enter Tryz.func12, Tryz.ntmps12
  go_wp2_with fail
  rw [HX.out.wa, HX.out.b]
  refine CK.mono ?_
  rintro e1 w1 ⟨rfl, b1⟩
  have HQQ : Hid (HdQ18 w [] 180 (.returned (.tuple #[.slice none 0 0, .int .i64 180])) w1) := ⟨none, 0, rfl, ⟨rfl, .inl ⟨rfl, rfl⟩⟩, HX.out.bl.trans (b1.mono HX.out.bl.size)⟩
  clear b1 CK
  go_wp2_with fail
  go_ret2
  exact HQQ.out
theorem rhead18 (h : Hd18) (w : World) (hso : 0 ≤ h.so ∧ h.so ≤ 4294967295) (hsn : 0 ≤ h.sn ∧ h.sn ≤ 4294967295) :
    Calls Tryz.prog 12 #[.agg #[.int .i64 h.o, .int .i64 h.n, .int .u32 h.so, .int .u32 h.sn, .int .i64 h.wi, .int .i64 h.lo]] w (HdQ18 w (hh18 h) (he18 h)) := by
  unfold hh18 he18
  by_cases hk : h.Ok
  · rw [if_pos hk, if_pos hk]; exact rhead18_ok h w hk hso hsn
  · rw [if_neg hk, if_neg hk]; exact rhead18_no h w hk
end Go.Proofs.YtmojfdccobebfaaGreatDoor

namespace Go.Proofs.YtmojfdccobebfaaGreatDoor
open Go.RowKit Go.Shelf
set_option linter.unusedVariables false

/-! The law's own. -/
theorem appb18 (V : World) {base : Nat} {v : Value} {n : Nat} {xs : List Value} (x : Int) (hown : V.ownsRow base 5 1 v n xs) (hn : n + 1 ≤ 140737488355328) (hbase : base ≤ V.heap.size) :
    ∃ g rc w', (Builtin.append_ #[30, 30] 30 #[v, .slice (some ⟨V.heap.size, 0, none⟩) 1 1]).run Tryz.prog (V.alloc (.cells #[.int .u8 x] 5)) = .ok (.slice (some ⟨g, 0, none⟩) (n + 1) rc) w' ∧
      w'.ownsRow base 5 1 (.slice (some ⟨g, 0, none⟩) (n + 1) rc) (n + 1) (xs ++ [.int .u8 x]) ∧ Kp (fun k => v.ownBlock = some k) V w' ∧ (v.ownBlock = some g ∨ V.heap.size ≤ g) := by
  obtain ⟨i0, hi, hz0, hz1, hz2⟩ := info_parts info_u8g
  obtain ⟨g, rc, w', hr, h1, h2, h3, h4⟩ := run_append_lies (P := Tryz.prog) (V.alloc (.cells #[.int .u8 x] 5)) 30 30 base 5 i0 _ 1 1 Tryz.underlying30 hi hz0 hz1 hz2 rfl (by omega) v n xs (hown.alloc _) ⟨V.heap.size, 0, none⟩ 1 1 [.int .u8 x] rfl
    (World.news_of_block (heap_alloc_new V (.cells #[.int .u8 x] 5 (0, 0)))) (by intro u hu; simp at hu; rcases hu with rfl; rfl) (by omega) (by unfold maxLen; omega) (by omega) (by simp; omega) (V.heap.size + 1) (by simp)
  refine ⟨g, rc, w', hr, h1, (Kp.alloc V _).trans (Kp.grown (S := fun k => v.ownBlock = some k) h2 (fun i e => e)) (fun _ _ e => e), ?_⟩
  rcases h3 with h | h
  · exact .inl h
  · exact .inr (by omega)
/-- Where a slice's bytes lie. -/
def At18 (p : Option Addr) (L : List Int) (k : Nat) : Prop := ∃ off, p = some ⟨k, off, none⟩ ∧ 0 < L.length
structure Ow18 (w : World) (base : Nat) (pb pw : Option Addr) (L : List Int) (v : Value) (n : Nat) (V : World) : Prop where
  own : ∃ Y, V.ownsRow base 5 1 v n Y
  sb : Seg V pb L
  sw : Seg V pw L
  bl : Below base w V
  sz : base ≤ V.heap.size
  wz : w.heap.size ≤ V.heap.size
  ap : ∀ k, v.ownBlock = some k → ¬ At18 pb L k ∧ ¬ At18 pw L k
  lb : ∀ k, At18 pb L k ∨ At18 pw L k → k < w.heap.size
theorem Ow18.kp {w V V' : World} {base : Nat} {pb pw : Option Addr} {L : List Int} {v v' : Value} {n n' : Nat} (h : Ow18 w base pb pw L v n V) (hk : Kp (fun k => v.ownBlock = some k) V V') (ho : ∃ Y, V'.ownsRow base 5 1 v' n' Y) (ha : ∀ k, v'.ownBlock = some k → v.ownBlock = some k ∨ V.heap.size ≤ k) : Ow18 w base pb pw L v' n' V' := by
  have hlt : ∀ k, v.ownBlock = some k → base ≤ k := by
    obtain ⟨Y, hY⟩ := h.own
    exact fun k x => (hY.lt k x).1
  have bl := hk.below hlt h.sz
  refine ⟨ho, h.sb.kp hk (fun x off e hp hx => (h.ap x hx).1 ⟨off, e, hp⟩), h.sw.kp hk (fun x off e hp hx => (h.ap x hx).2 ⟨off, e, hp⟩), h.bl.trans bl, Nat.le_trans h.sz bl.size, Nat.le_trans h.wz bl.size, ?_, h.lb⟩
  intro k hk'
  rcases ha k hk' with x | x
  · exact h.ap k x
  · have := h.wz
    refine ⟨fun y => ?_, fun y => ?_⟩
    · have := h.lb k (.inl y); omega
    · have := h.lb k (.inr y); omega
set_option maxRecDepth 100000 in
set_option maxHeartbeats 4000000 in
theorem pown18 (base : Nat) (pa pb pw : Option Addr) (ca cb cw : Nat) (L : List Int) (w : World) (hbd : ∀ z ∈ L, 0 ≤ z ∧ z ≤ 255) (hl : L.length ≤ 1000000) (oA : w.ownsRow base 5 1 (.slice pa L.length ca) L.length (L.map (Value.int .u8))) (h : Ow18 w base pb pw L (.slice pa L.length ca) L.length w) :
    Calls Tryz.prog 18 #[.slice pa L.length ca, .slice pb L.length cb, .slice pw L.length cw] w fun e w' => e = .returned (.bool true) ∧ Below base w w' := by
  obtain ⟨-, a1, c1', hv1, sA, -, -, -⟩ := own_seg oA (M := 255) (by decide) hbd
  injection hv1 with h1 h2 h3
  subst h1
  have S1 := lsame18 pa pw L L ca cw w sA h.sw
  have S2 := lsame18 pb pw L L cb cw w h.sb h.sw
  rw [show (L == L) = true by simp] at S1 S2
  have HSM : Hid (∀ V, Seg V pb L → Seg V pw L → Calls Tryz.prog 21 #[.slice pb L.length cb, .slice pw L.length cw] V fun e w' => e = .returned (.bool true) ∧ w' = V) := fun V x y => by
    have := lsame18 pb pw L L cb cw V x y
    rwa [show (L == L) = true by simp] at this
  have H0 : Hid (Ow18 w base pb pw L (.slice pa L.length ca) L.length w) := h
  obtain ⟨m, hm⟩ : ∃ m, m = L.length := ⟨_, rfl⟩
  rw [← hm] at H0 S1 S2 HSM hl ⊢
  have HML : Hid (m ≤ 1000000) := hl
  clear h2 h3 sA h oA hbd hm hl
  go_enter Tryz.func18, Tryz.ntmps18
  go_wp2_with fail
  refine S1.mono ?_
  rintro e1 w1 ⟨rfl, hw1⟩
  subst w1
  go_wp2_with fail
  refine S2.mono ?_
  rintro e2 w2 ⟨rfl, hw2⟩
  subst w2
  clear S1 S2
  go_wp2_with fail
  go_loopw [7] (fun t7 V => ∃ i : Nat, i ≤ m ∧ t7 = .int .i64 (i : Int) ∧ Ow18 w base pb pw L (.slice pa m ca) m V) (fun t7 _ => m - (intOf t7).toNat)
  case atStart => exact ⟨0, by omega, rfl, H0.out⟩
  case round =>
    obtain ⟨i, him, rfl, hO⟩ := hrel
    clear H0
    by_cases hlt : i < m
    · have hi1 : (i : Int) < (m : Int) := by omega
      have hi0 : (0 : Int) ≤ (i : Int) := by omega
      have hib : i ≤ 1000000 := by have := HML.out; omega
      obtain ⟨Y, hY⟩ := hO.own
      obtain ⟨g, rfl⟩ : ∃ g, pa = some ⟨g, 0, none⟩ := by
        rcases hY.2 with ⟨_, h0⟩ | ⟨g, cp, cur, hv, _⟩
        · omega
        · injection hv with e; exact ⟨g, e⟩
      have hc := hY.cellAt i (by omega)
      have hf := hY.frozenAt i
      have hst := hY.stored i (.int .u8 91)
      have hylen : Y.length = m := by simpa using hY.1
      obtain ⟨u, hu⟩ : ∃ u, wr.cell? ⟨g, i, none⟩ = some u := by
        rw [hc]
        exact ⟨_, List.getElem?_eq_getElem (by omega)⟩
      have HN : Hid (Ow18 w base pb pw L (.slice (some ⟨g, 0, none⟩) m ca) m (wr.setCell ⟨g, i, none⟩ (.int .u8 91))) :=
        hO.kp (Kp.grown (S := fun k => (Value.slice (some ⟨g, 0, none⟩) m ca).ownBlock = some k) hst.2 (fun k e => e)) ⟨_, hst.1⟩ (fun k e => .inl e)
      clear hO hY hc hst hylen
      go_wp2_with fail
      go_roundw
      case rel => exact ⟨i + 1, by omega, by simp, HN.out⟩
      case measure => simp [intOf]; omega
    · have hime : i = m := by omega
      subst hime
      have hneg : ¬ (i : Int) < (i : Int) := by omega
      have HO : Hid (Ow18 w base pb pw L (.slice pa i ca) i wr) := hO
      clear hO hlt
      go_wp2_with fail
      go_loopw [0, 8] (fun t0 t8 V => ∃ j : Nat, ∃ v : Value, j ≤ 40 ∧ t8 = .int .i64 (j : Int) ∧ t0 = v ∧ Ow18 w base pb pw L v (i + j) V) (fun _ t8 _ => 40 - (intOf t8).toNat)
      case atStart => exact ⟨0, _, by omega, rfl, rfl, HO.out⟩
      case round =>
        obtain ⟨j, v, hj, rfl, rfl, hO⟩ := hrel
        obtain ⟨Y, hY⟩ := hO.own
        obtain ⟨p, c, hv⟩ := own_sl18 hY
        subst hv
        by_cases hj40 : j < 40
        · have hj1 : (j : Int) < 40 := by omega
          obtain ⟨g, rc, wE, hr, ow, k1, at1⟩ := appb18 wr 92 hY (by have := HML.out; omega) hO.sz
          have HN : Hid (Ow18 w base pb pw L (.slice (some ⟨g, 0, none⟩) (i + j + 1) rc) (i + (j + 1)) wE) :=
            hO.kp k1 ⟨_, ow⟩ (fun k e => by
              have e : some g = some k := e
              injection e with e
              subst e
              exact at1)
          clear hO hY ow k1 at1
          generalize i + j = n at *
          go_wp2_with (first | (at_builtin; refine wpList_app18 rfl (.tmp 32) (.tmp 33) 30 rfl rfl rfl hr ?_))
          go_roundw
          case rel => exact ⟨j + 1, _, by omega, by simp, rfl, HN.out⟩
          case measure => simp [intOf]; omega
        · have hj2 : j = 40 := by omega
          subst hj2
          have SM := HSM.out wr hO.sb hO.sw
          have HBL : Hid (Below base w wr) := hO.bl
          have hw40 : IntKind.i64.wrap ((i : Int) + 40) = ((i + 40 : Nat) : Int) := by rw [IntWalk.i64_in _ (by have := HML.out; omega)]; omega
          obtain ⟨n, hn⟩ : ∃ n, n = i + 40 := ⟨_, rfl⟩
          rw [← hn] at hw40 ⊢
          clear hO hY hn hj40
          go_wp2_with fail
          refine SM.mono ?_
          rintro e3 w3 ⟨rfl, hw3⟩
          subst w3
          go_wp2_with fail
          go_ret
          exact ⟨rfl, HBL.out⟩
end Go.Proofs.YtmojfdccobebfaaGreatDoor
