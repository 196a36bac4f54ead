import Derived.Test.YtmojfdccobebfaaGreatDoorPn
import Derived.Test.YtmojfdccobebfaaGreatDoorPo
import Derived.Laws.OwnMore
import Derived.Below
namespace Go.Proofs.YtmojfdccobebfaaGreatDoor
open Go.RowKit Go.Shelf
set_option linter.unusedVariables false

/-! The document's four, Head. -/
set_option maxRecDepth 100000 in
theorem rfour18 (v : Int) (w : World) (h0 : 0 ≤ v) (h1 : v ≤ 4294967295) : Calls Tryz.prog 29 #[.int .u32 v] w fun e w' => e = .returned (.slice (some ⟨w.heap.size, 0, none⟩) 4 4) ∧
      w'.ownsRow w.heap.size 5 1 (.slice (some ⟨w.heap.size, 0, none⟩) 4 4) 4 ((fixL 4 v).map (Value.int .u8)) ∧ Below w.heap.size w w' := by
  have hd1 : v / 256 / 256 = v / 65536 := by omega
  have hd2 : v / 65536 / 256 = v / 16777216 := by omega
  have HL : Hid ((w.alloc (.cells #[.int .u8 (v % 256), .int .u8 (v / 256 % 256), .int .u8 (v / 65536 % 256), .int .u8 (v / 16777216)] 5)).ownsRow w.heap.size 5 1 (.slice (some ⟨w.heap.size, 0, none⟩) 4 4) 4 ((fixL 4 v).map (Value.int .u8))) := by
    have := World.ownsRow_lit (base := w.heap.size) (e := 5) (size := 1) w #[.int .u8 (v % 256), .int .u8 (v / 256 % 256), .int .u8 (v / 65536 % 256), .int .u8 (v / 16777216)] 4 (Nat.le_refl _) (by decide) rfl
    have e : fixL 4 v = [v % 256, v / 256 % 256, v / 65536 % 256, v / 16777216] := by
      simp only [fixL, hd1, hd2]
      rw [show v / 16777216 % 256 = v / 16777216 by omega]
    rw [e]
    exact this
  clear hd1 hd2
  go_enter Tryz.func29, Tryz.ntmps29
  go_wp2
  go_ret
  exact ⟨rfl, HL.out, (Below.refl _ _).alloc (Nat.le_refl _) _⟩
theorem seg418 {w : World} {g : Nat} {a b c d : Int} {t : TypeId} (h : w.heap[g]? = some (.cells #[.int .u64 a, .int .u64 b, .int .u64 c, .int .u64 d] t (0, 0))) (hb : ∀ z ∈ [a, b, c, d], 0 ≤ z ∧ z ≤ 18446744073709551615) : Seg64 w (some ⟨g, 0, none⟩) [a, b, c, d] := by
  refine ⟨fun i hi => ⟨g, 0, rfl, ?_⟩, by decide, getD_bd (by decide) hb⟩
  rw [Nat.zero_add]
  match i, hi with
  | 0, _ => exact cell18 h rfl
  | 1, _ => exact cell18 h rfl
  | 2, _ => exact cell18 h rfl
  | 3, _ => exact cell18 h rfl
set_option maxRecDepth 100000 in
set_option maxHeartbeats 8000000 in
theorem rhead18_ok (h : Hd18) (w : World) (hk : h.Ok) (hso : 0 ≤ h.so ∧ h.so ≤ 4294967295) (hsn : 0 ≤ h.sn ∧ h.sn ≤ 4294967295) :
    Calls Tryz.prog 12 #[.agg #[.int .i64 h.o, .int .i64 h.n, .int .u32 h.so, .int .u32 h.sn, .int .i64 h.wi, .int .i64 h.lo]] w (HdQ18 w (sum18 (hd18 h)) 0) := by
  obtain ⟨wA, b4, X⟩ := bx18 w h
  have HX : Hid (Bx18 w h wA b4) := X
  have HC : Hid (∀ V, Below wA.heap.size wA V → Cl18 V b4 h) := fun V hV => X.cl hV
  have HA : Hid (Below w.heap.size w wA) := X.bl
  have CK := rchk18 h wA
  rw [if_pos hk] at CK
  have HK : Hid h.Ok := hk
  have HLE : Hid (4 ≤ (encA (hv18 h)).length ∧ (encA (hv18 h)).length ≤ 40) := encA_hv18 h
  have HSO : Hid ((0 ≤ h.so ∧ h.so ≤ 4294967295) ∧ (0 ≤ h.sn ∧ h.sn ≤ 4294967295)) := ⟨hso, hsn⟩
  obtain ⟨l0, l1, l2, l3, l4, l5⟩ := X.cl (Below.refl _ _)
  rw [← X.wa] at l0 l1 l2 l3 l4 l5
  rw [← X.b] at l0 l1 l2 l3 l4 l5
  clear X hk hso hsn
  go_enter Tryz.func12, Tryz.ntmps12
  go_wp2_with fail
  rw [HX.out.wa, HX.out.b]
  clear l0 l1 l2 l3 l4 l5
  refine CK.mono ?_
  rintro e1 w1 ⟨rfl, b1⟩
  have HB1 : Hid (Below wA.heap.size wA w1) := b1
  clear b1 CK
  have hcv := Lib.run_convert_bytes_const (P := Tryz.prog) w1 30 5 #[.int .u8 83, .int .u8 65, .int .u8 80, .int .u8 82, .int .u8 1] 5 5 Tryz.underlying30 Tryz.underlying5
  have hsM := mag18_seg w1
  obtain ⟨wM, hwM⟩ : ∃ wM, wM = w1.alloc (.cells #[.int .u8 83, .int .u8 65, .int .u8 80, .int .u8 82, .int .u8 1] 5 (5, 6)) := ⟨_, rfl⟩
  have bM : Below w1.heap.size w1 wM := by rw [hwM]; exact (Below.refl _ _).alloc (Nat.le_refl _) _
  rw [← hwM] at hsM
  have HWM : Hid (w1.alloc (.cells #[.int .u8 83, .int .u8 65, .int .u8 80, .int .u8 82, .int .u8 1] 5 (5, 6)) = wM) := hwM.symm
  obtain ⟨gM, hgM⟩ : ∃ gM, gM = w1.heap.size := ⟨_, rfl⟩
  have zM : wM.heap.size = gM + 1 := by rw [hwM, hgM]; simp
  have HZM : Hid (wM.heap.size = gM + 1) := zM
  have HGM : Hid (w1.heap.size = gM) := hgM.symm
  rw [← hgM] at hsM
  have HBM : Hid (Below wA.heap.size wA wM) := HB1.out.trans (bM.mono HB1.out.size)
  have cE := cb16 wM #[.int .u64 h.o, .int .u64 h.n, .int .u64 h.wi, .int .u64 h.lo] 60
  obtain ⟨wE, hwE⟩ : ∃ wE, wE = wM.alloc (.cells #[.int .u64 h.o, .int .u64 h.n, .int .u64 h.wi, .int .u64 h.lo] 60) := ⟨_, rfl⟩
  rw [← hwE] at cE
  have qE := cE.cl
  rw [zM] at qE
  have EN := rencode_any (some ⟨gM + 1, 0, none⟩) (hv18 h) 4 wE (seg418 qE (hv18_bd HK.out)) (by simp [hv18])
  have EN : Hid (Calls Tryz.prog 28 #[.slice (some ⟨gM + 1, 0, none⟩) 4 4] wE fun e w' => ∃ v, e = .returned v ∧ w'.ownsRow wE.heap.size 5 1 v (encA (hv18 h)).length ((encA (hv18 h)).map (Value.int .u8)) ∧ Below wE.heap.size wE w') := EN
  have HWE : Hid (wM.alloc (.cells #[.int .u64 h.o, .int .u64 h.n, .int .u64 h.wi, .int .u64 h.lo] 60) = wE) := hwE.symm
  have HBE : Hid (Below wA.heap.size wA wE) := HBM.out.trans (cE.bl.mono HBM.out.size)
  have HSM : Hid (Seg wE (some ⟨gM, 0, none⟩) mag18) := hsM.old cE.bl
  obtain ⟨l0, l1, l2, l3, l4, l5⟩ := HC.out wM HBM.out
  rw [hwM] at l0 l1 l2 l3 l4 l5
  clear bM hwM hsM hgM cE hwE qE zM
  obtain ⟨L1, hL1⟩ : ∃ L1, L1 = mag18 ++ encA (hv18 h) := ⟨_, rfl⟩
  obtain ⟨L2, hL2⟩ : ∃ L2, L2 = L1 ++ fixL 4 h.so := ⟨_, rfl⟩
  obtain ⟨L3, hL3⟩ : ∃ L3, L3 = L2 ++ fixL 4 h.sn := ⟨_, rfl⟩
  have HL3 : Hid (hd18 h = L3) := by rw [hL3, hL2, hL1]; rfl
  have HL1 : Hid (L1 = mag18 ++ encA (hv18 h) ∧ L1.length = 5 + (encA (hv18 h)).length) := ⟨hL1, by rw [hL1, List.length_append]; rfl⟩
  have HL2 : Hid (L2 = L1 ++ fixL 4 h.so ∧ L2.length = L1.length + 4) := ⟨hL2, by rw [hL2, List.length_append, fixL_len]⟩
  have HL3' : Hid (L3 = L2 ++ fixL 4 h.sn ∧ L3.length = L2.length + 4) := ⟨hL3, by rw [hL3, List.length_append, fixL_len]⟩
  have HBD : Hid (∀ z ∈ L3, 0 ≤ z ∧ z ≤ 255) := by rw [← HL3.out]; exact hd18_bd HK.out
  clear hL1 hL2 hL3
  have hk4 := HK.out
  obtain ⟨k0, k1, k2, k3⟩ := hk4
  have u0 : IntKind.u64.wrap h.o = h.o := IntWalk.u64_in _ (by omega)
  have u1 : IntKind.u64.wrap h.n = h.n := IntWalk.u64_in _ (by omega)
  have u2 : IntKind.u64.wrap h.wi = h.wi := IntWalk.u64_in _ (by omega)
  have u3 : IntKind.u64.wrap h.lo = h.lo := IntWalk.u64_in _ (by omega)
  clear k0 k1 k2 k3
  go_wp2_with fail
  rw [HWM.out, HWE.out, HGM.out]
  clear hcv l0 l1 l2 l3 l4 l5 u0 u1 u2 u3
  refine EN.out.mono ?_
  rintro e3 w3 ⟨v3, rfl, o3, b3⟩
  obtain ⟨p3, c3, hv3⟩ := own_sl18 o3
  subst hv3
  have HB3 : Hid (Below wA.heap.size wA w3) := HBE.out.trans (b3.mono HBE.out.size)
  obtain ⟨p4, c4, w4, hr4, o4, b4'⟩ := appm18 w3 (HSM.out.old b3) o3 (by have := HLE.out; omega) (by have := HLE.out; omega)
  rw [← HL1.out.1, ← HL1.out.2] at o4
  rw [← HL1.out.2] at hr4
  have HB4' : Hid (Below wA.heap.size wA w4) := HB3.out.trans (b4'.mono HB3.out.size)
  have H34 : Hid (Below w3.heap.size w3 w4) := b4'
  obtain ⟨x0, x1, x2, x3, x4, x5⟩ := HC.out w4 HB4'.out
  have WD := rfour18 h.so w4 HSO.out.1.1 HSO.out.1.2
  have HO4 : Hid (w4.ownsRow w3.heap.size 5 1 (.slice p4 L1.length c4) L1.length (L1.map (Value.int .u8))) := o4
  clear o3 b3 o4 b4' EN
  generalize (encA (hv18 h)).length = lE at *
  go_wp2_with (first | (at_builtin; refine wpList_app18 rfl (.tmp 10) (.tmp 24) 30 rfl rfl rfl hr4 ?_))
  refine WD.mono ?_
  rintro e5 w5 ⟨rfl, o5, b5⟩
  have H35 : Hid (Below w3.heap.size w3 w5) := H34.out.trans (b5.mono H34.out.size)
  obtain ⟨g6, c6, w6, hr6, o6, b6⟩ := appL18 w5 HL2.out.1 (own_below HO4.out b5) o5 (by omega) (by have := HL1.out.2; have := HLE.out; omega) H35.out.size
  have H36 : Hid (Below w3.heap.size w3 w6) := H35.out.trans b6
  have HB6 : Hid (Below wA.heap.size wA w6) := HB3.out.trans (H36.out.mono HB3.out.size)
  have WD2 := rfour18 h.sn w6 HSO.out.2.1 HSO.out.2.2
  have HO6 : Hid (w6.ownsRow w3.heap.size 5 1 (.slice (some ⟨g6, 0, none⟩) L2.length c6) L2.length (L2.map (Value.int .u8))) := o6
  clear x0 x1 x2 x3 x4 x5 WD o5 b5 o6 b6 hr4
  obtain ⟨x0, x1, x2, x3, x4, x5⟩ := HC.out w6 HB6.out
  go_wp2_with (first | (at_builtin; refine wpList_app18 rfl (.tmp 26) (.tmp 29) 30 rfl rfl rfl hr6 ?_))
  refine WD2.mono ?_
  rintro e7 w7 ⟨rfl, o7, b7⟩
  have H37 : Hid (Below w3.heap.size w3 w7) := H36.out.trans (b7.mono H36.out.size)
  obtain ⟨g8, c8, w8, hr8, o8, b8⟩ := appL18 w7 HL3'.out.1 (own_below HO6.out b7) o7 (by omega) (by have := HL1.out.2; have := HL2.out.2; have := HLE.out; omega) H37.out.size
  have H38 : Hid (Below w3.heap.size w3 w8) := H37.out.trans b8
  have HB8 : Hid (Below wA.heap.size wA w8) := HB3.out.trans (H38.out.mono HB3.out.size)
  obtain ⟨-, a8, c8', hv8, sg8, -, -, -⟩ := own_seg o8 (M := 255) (by decide) HBD.out
  injection hv8 with y1 y2 y3
  subst y1
  have SM := rsum_one w8 w8.heap.size L3.length (some ⟨g8, 0, none⟩) L3 c8 1 30 sg8 rfl rfl (by have := HL1.out.2; have := HL2.out.2; have := HL3'.out.2; have := HLE.out; omega)
  have c9 := cb16 w8 #[.slice (some ⟨g8, 0, none⟩) L3.length c8] 30
  obtain ⟨w9, hw9⟩ : ∃ w9, w9 = w8.alloc (.cells #[.slice (some ⟨g8, 0, none⟩) L3.length c8] 30) := ⟨_, rfl⟩
  rw [← hw9] at SM c9
  have H39 : Hid (Below w3.heap.size w3 w9) := H38.out.trans (c9.bl.mono H38.out.size)
  have WD3 := rfour18 (wI (sumW L3)) w9 (wI_bd18 _).1 (wI_bd18 _).2
  have HO9 : Hid (w9.ownsRow w3.heap.size 5 1 (.slice (some ⟨g8, 0, none⟩) L3.length c8) L3.length (L3.map (Value.int .u8))) := own_below o8 c9.bl
  have HW9 : Hid (w8.alloc (.cells #[.slice (some ⟨g8, 0, none⟩) L3.length c8] 30) = w9) := hw9.symm
  clear x0 x1 x2 x3 x4 x5 WD2 o7 b7 o8 b8 hr6 y2 y3 sg8 c9 hw9
  have HNS : Hid (sum18 L3 = L3 ++ fixL 4 (wI (sumW L3))) := rfl
  generalize wI (sumW L3) = sv at *
  go_wp2_with (first | (at_builtin; refine wpList_app18 rfl (.tmp 31) (.tmp 34) 30 rfl rfl rfl hr8 ?_))
  rw [HW9.out]
  refine SM.mono ?_
  rintro e9 w9' ⟨rfl, hw9'⟩
  subst w9'
  clear SM hr8
  go_wp2_with fail
  refine WD3.mono ?_
  rintro e10 w10 ⟨rfl, o10, b10⟩
  have H310 : Hid (Below w3.heap.size w3 w10) := H39.out.trans (b10.mono H39.out.size)
  obtain ⟨g11, c11, w11, hr11, o11, b11⟩ := appL18 w10 HNS.out (own_below HO9.out b10) o10 (by omega) (by have := HL1.out.2; have := HL2.out.2; have := HL3'.out.2; have := HLE.out; omega) H310.out.size
  have H311 : Below w3.heap.size w3 w11 := H310.out.trans b11
  have HB11 : Below wA.heap.size wA w11 := HB3.out.trans (H311.mono HB3.out.size)
  have HQQ : Hid (HdQ18 w (sum18 L3) 0 (.returned (.tuple #[.slice (some ⟨g11, 0, none⟩) (sum18 L3).length c11, .int .i64 0])) w11) := ⟨_, c11, rfl, own_base o11 (Nat.le_trans HA.out.size HB3.out.size), HA.out.trans (HB11.mono HA.out.size)⟩
  clear WD3 o10 b10 o11 b11 H311 HB11
  generalize hsl : (sum18 L3).length = sl at *
  go_wp2_with (first | (at_builtin; refine wpList_app18 rfl (.tmp 36) (.tmp 40) 30 rfl rfl rfl hr11 ?_))
  go_ret2
  rw [HL3.out]
  exact HQQ.out
set_option maxRecDepth 100000 in
theorem rhead18_no (h : Hd18) (w : World) (hk : ¬ h.Ok) :
    Calls Tryz.prog 12 #[.agg #[.int .i64 h.o, .int .i64 h.n, .int .u32 h.so, .int .u32 h.sn, .int .i64 h.wi, .int .i64 h.lo]] w (HdQ18 w [] 180) := by
  obtain ⟨wA, b4, X⟩ := bx18 w h
  have HX : Hid (Bx18 w h wA b4) := X
  have CK := rchk18 h wA
  rw [if_neg hk] at CK
  obtain ⟨l0, l1, l2, l3, l4, l5⟩ := X.cl (Below.refl _ _)
  rw [← X.wa] at l0 l1 l2 l3 l4 l5
  rw [← X.b] at l0 l1 l2 l3 l4 l5
  clear X hk
  go_enter Tryz.func12, Tryz.ntmps12
  go_wp2_with fail
  rw [HX.out.wa, HX.out.b]
  refine CK.mono ?_
  rintro e1 w1 ⟨rfl, b1⟩
  have HQQ : Hid (HdQ18 w [] 180 (.returned (.tuple #[.slice none 0 0, .int .i64 180])) w1) := ⟨none, 0, rfl, ⟨rfl, .inl ⟨rfl, rfl⟩⟩, HX.out.bl.trans (b1.mono HX.out.bl.size)⟩
  clear b1 CK
  go_wp2_with fail
  go_ret2
  exact HQQ.out
theorem rhead18 (h : Hd18) (w : World) (hso : 0 ≤ h.so ∧ h.so ≤ 4294967295) (hsn : 0 ≤ h.sn ∧ h.sn ≤ 4294967295) :
    Calls Tryz.prog 12 #[.agg #[.int .i64 h.o, .int .i64 h.n, .int .u32 h.so, .int .u32 h.sn, .int .i64 h.wi, .int .i64 h.lo]] w (HdQ18 w (hh18 h) (he18 h)) := by
  unfold hh18 he18
  by_cases hk : h.Ok
  · rw [if_pos hk, if_pos hk]; exact rhead18_ok h w hk hso hsn
  · rw [if_neg hk, if_neg hk]; exact rhead18_no h w hk
end Go.Proofs.YtmojfdccobebfaaGreatDoor

namespace Go.Proofs.YtmojfdccobebfaaGreatDoor
set_option linter.unusedVariables false

/-! Tokens as the document has them (layer 7), without any program: which may be, what they are. -/
structure Tok7 where
  lit : Int
  len : Int
  dist : Int
def may7 (t : Tok7) : Prop := if t.len = 0 then t.dist = 0 else 3 ≤ t.len ∧ t.len ≤ 258 ∧ 1 ≤ t.dist ∧ t.dist ≤ 32768 ∧ t.lit = 0
instance (t : Tok7) : Decidable (may7 t) := by unfold may7; infer_instance
def wid7 (t : Tok7) : Nat := if may7 t then (if t.len = 0 then 1 else t.len.toNat) else 0
def siz7 : List Tok7 → Nat
  | [] => 0
  | t :: r => wid7 t + siz7 r
def far7 (win : Int) (tot : Nat) (t : Tok7) : Prop := 0 < t.len ∧ (win < t.dist ∨ (tot : Int) < t.dist)
instance (win : Int) (tot : Nat) (t : Tok7) : Decidable (far7 win tot t) := by unfold far7; infer_instance
def chk7 (win : Int) : List Tok7 → Nat → Nat → Nat × Int
  | [], _, _ => (0, 0)
  | t :: r, tot, i => if ¬ may7 t then (i, 70) else if far7 win tot t then (i, 71) else chk7 win r (tot + wid7 t) (i + 1)
def check7 (win : Int) (l : List Tok7) : Nat × Int := if win < 1 ∨ 32768 < win then (0, 1) else chk7 win l 0 0
/-- The tokens are in order, where tot bytes stand ahead. -/
def ok7 (win : Int) : List Tok7 → Nat → Prop
  | [], _ => True
  | t :: r, tot => may7 t ∧ ¬ far7 win tot t ∧ ok7 win r (tot + wid7 t)
theorem chk7_ok (win : Int) : ∀ (l : List Tok7) (tot i : Nat), ok7 win l tot → chk7 win l tot i = (0, 0)
  | [], _, _, _ => rfl
  | t :: r, tot, i, ⟨h1, h2, h3⟩ => by
    rw [chk7, if_neg (by simpa using h1), if_neg h2]
    exact chk7_ok win r _ _ h3
theorem ok7_chk (win : Int) : ∀ (l : List Tok7) (tot i : Nat), (chk7 win l tot i).2 = 0 → ok7 win l tot
  | [], _, _, _ => trivial
  | t :: r, tot, i, h => by
    rw [chk7] at h
    by_cases h1 : may7 t
    · rw [if_neg (by simpa using h1)] at h
      by_cases h2 : far7 win tot t
      · rw [if_pos h2] at h; simp at h
      · rw [if_neg h2] at h
        exact ⟨h1, h2, ok7_chk win r _ _ h⟩
    · rw [if_pos h1] at h; simp at h
theorem ok7_take (win : Int) : ∀ (l : List Tok7) (tot n : Nat), ok7 win l tot → ok7 win (l.take n) tot
  | [], _, _, _ => by simp [ok7]
  | t :: r, tot, 0, _ => by simp [ok7]
  | t :: r, tot, n + 1, ⟨h1, h2, h3⟩ => by
    rw [List.take_succ_cons]
    exact ⟨h1, h2, ok7_take win r _ n h3⟩
/-- n bytes, each the one that stands d ahead. -/
def cp7 (b : List Int) (d : Nat) : Nat → List Int
  | 0 => b
  | n + 1 => cp7 b d n ++ [(cp7 b d n).getD ((cp7 b d n).length - d) 0]
theorem cp7_len (b : List Int) (d : Nat) : ∀ n, (cp7 b d n).length = b.length + n
  | 0 => rfl
  | n + 1 => by rw [cp7, List.length_append, cp7_len b d n]; rfl
theorem cp7_take (b : List Int) (d : Nat) : ∀ n, (cp7 b d n).take b.length = b
  | 0 => by rw [cp7]; exact List.take_length
  | n + 1 => by rw [cp7, List.take_append_of_le_length (by rw [cp7_len]; omega), cp7_take b d n]
def tok7 (b : List Int) (t : Tok7) : List Int := if t.len = 0 then b ++ [t.lit] else cp7 b t.dist.toNat t.len.toNat
def exp7 (b : List Int) : List Tok7 → List Int
  | [] => b
  | t :: r => exp7 (tok7 b t) r
theorem tok7_len {b : List Int} {t : Tok7} (h : may7 t) : (tok7 b t).length = b.length + wid7 t := by
  unfold tok7 wid7
  rw [if_pos h]
  by_cases h0 : t.len = 0
  · rw [if_pos h0, if_pos h0, List.length_append]; rfl
  · rw [if_neg h0, if_neg h0, cp7_len]
theorem tok7_take (b : List Int) (t : Tok7) : (tok7 b t).take b.length = b := by
  unfold tok7
  split
  · rw [List.take_append_of_le_length (Nat.le_refl _), List.take_length]
  · exact cp7_take _ _ _
theorem tok7_le (b : List Int) (t : Tok7) : b.length ≤ (tok7 b t).length := by
  unfold tok7
  split
  · rw [List.length_append]; omega
  · rw [cp7_len]; omega
theorem exp7_le : ∀ (l : List Tok7) (b : List Int), b.length ≤ (exp7 b l).length
  | [], b => Nat.le_refl _
  | t :: r, b => Nat.le_trans (tok7_le b t) (exp7_le r _)
theorem exp7_take : ∀ (l : List Tok7) (b : List Int), (exp7 b l).take b.length = b
  | [], b => List.take_length
  | t :: r, b => by
    rw [exp7]
    have h1 := exp7_take r (tok7 b t)
    have h2 := congrArg (List.take b.length) h1
    rw [List.take_take, Nat.min_eq_left (tok7_le b t), tok7_take] at h2
    exact h2
theorem exp7_app : ∀ (l l' : List Tok7) (b : List Int), exp7 b (l ++ l') = exp7 (exp7 b l) l'
  | [], _, _ => rfl
  | t :: r, l', b => by rw [List.cons_append, exp7, exp7, exp7_app r l']
theorem exp7_len (win : Int) : ∀ (l : List Tok7) (b : List Int) (tot : Nat), ok7 win l tot → (exp7 b l).length = b.length + siz7 l
  | [], _, _, _ => rfl
  | t :: r, b, tot, ⟨h1, h2, h3⟩ => by
    rw [exp7, exp7_len win r _ _ h3, tok7_len h1, siz7]; omega
/-- The first tokens are the first bytes (P7.8). -/
theorem exp7_begin (l : List Tok7) (n : Nat) (b : List Int) : (exp7 b l).take (exp7 b (l.take n)).length = exp7 b (l.take n) := by
  have h := exp7_app (l.take n) (l.drop n) b
  rw [List.take_append_drop] at h
  rw [h]
  exact exp7_take _ _
theorem siz7_le : ∀ (l : List Tok7), siz7 l ≤ 258 * l.length
  | [] => by simp [siz7]
  | t :: r => by
    have h := siz7_le r
    have h1 : wid7 t ≤ 258 := by
      unfold wid7
      split
      · rename_i h1
        unfold may7 at h1
        split at h1 <;> split <;> omega
      · omega
    rw [siz7, List.length_cons]; omega
theorem tok7_bd {b : List Int} {t : Tok7} (hb : ∀ z ∈ b, 0 ≤ z ∧ z ≤ 255) (ht : 0 ≤ t.lit ∧ t.lit ≤ 255) : ∀ z ∈ tok7 b t, 0 ≤ z ∧ z ≤ 255 := by
  have hc : ∀ n, ∀ z ∈ cp7 b t.dist.toNat n, 0 ≤ z ∧ z ≤ 255 := by
    intro n
    induction n with
    | zero => exact hb
    | succ n ih =>
      intro z hz
      rw [cp7] at hz
      rcases List.mem_append.1 hz with hz | hz
      · exact ih z hz
      · rw [List.mem_singleton] at hz
        subst hz
        by_cases hi : (cp7 b t.dist.toNat n).length - t.dist.toNat < (cp7 b t.dist.toNat n).length
        · have : (cp7 b t.dist.toNat n).getD ((cp7 b t.dist.toNat n).length - t.dist.toNat) 0 ∈ cp7 b t.dist.toNat n := by
            simp [List.getD, hi]
          exact ih _ this
        · simp [List.getD, List.getElem?_eq_none (show (cp7 b t.dist.toNat n).length ≤ (cp7 b t.dist.toNat n).length - t.dist.toNat by omega)]
  unfold tok7
  split
  · intro z hz
    rcases List.mem_append.1 hz with hz | hz
    · exact hb z hz
    · rw [List.mem_singleton] at hz; subst hz; exact ht
  · exact hc _
theorem exp7_bd : ∀ (l : List Tok7) (b : List Int), (∀ z ∈ b, 0 ≤ z ∧ z ≤ 255) → (∀ t ∈ l, 0 ≤ t.lit ∧ t.lit ≤ 255) → ∀ z ∈ exp7 b l, 0 ≤ z ∧ z ≤ 255
  | [], _, hb, _ => hb
  | t :: r, b, hb, hl => exp7_bd r (tok7 b t) (tok7_bd hb (hl t (by simp))) (fun x hx => hl x (by simp [hx]))
end Go.Proofs.YtmojfdccobebfaaGreatDoor
