import Derived.Test.YtmojfdccobebfaaGreatDoorPo
namespace Go.Proofs.YtmojfdccobebfaaGreatDoor
open Go.RowKit Go.Shelf
set_option linter.unusedVariables false

/-! written of a window's sizes. -/
def sv18 (s : Sz18) : List Int := [s.p, s.r0, s.r1, s.r2, s.k0, s.k1, s.k2]
theorem fs18_bd {h : Hd18} {Z : Int} {s : Sz18} (f : Fs18 h Z s) (hZ : 0 ≤ Z ∧ Z ≤ 65536 ∧ 64 ≤ h.wi ∧ h.wi ≤ 65536) (ho : h.o ≤ 16777216) : (0 ≤ s.p ∧ s.p ≤ 16777216) ∧ (0 ≤ s.r0 ∧ s.r0 ≤ 16777216) ∧ (0 ≤ s.r1 ∧ s.r1 ≤ 16777216) ∧ (0 ≤ s.r2 ∧ s.r2 ≤ 16777216) ∧ (0 ≤ s.k0 ∧ s.k0 ≤ 16777216) ∧ (0 ≤ s.k1 ∧ s.k1 ≤ 16777216) ∧ (0 ≤ s.k2 ∧ s.k2 ≤ 16777216) := by
  obtain ⟨f0, f1, f2, f3, f4, f5, f6⟩ := f
  have f0 : 0 ≤ s.p ∧ s.p ≤ h.o := f0
  have f1 : 1 ≤ s.r0 ∧ s.r0 ≤ 6 * h.wi := f1
  have f2 : 0 ≤ s.r1 ∧ s.r1 ≤ Z := f2
  have f3 : Z - s.r1 ≤ s.r2 ∧ s.r2 ≤ Z - s.r1 := f3
  have f4 : (if s.r0 = 0 then 0 else 1) ≤ s.k0 ∧ s.k0 ≤ (if s.r0 = 0 then 0 else 4 * s.r0 + 64) := f4
  have f5 : (if s.r1 = 0 then 0 else 1) ≤ s.k1 ∧ s.k1 ≤ (if s.r1 = 0 then 0 else 4 * s.r1 + 64) := f5
  have f6 : (if s.r2 = 0 then 0 else 1) ≤ s.k2 ∧ s.k2 ≤ (if s.r2 = 0 then 0 else 4 * s.r2 + 64) := f6
  refine ⟨by omega, by omega, by omega, by omega, ?_, ?_, ?_⟩
  · split at f4 <;> omega
  · split at f5 <;> omega
  · split at f6 <;> omega
set_option maxRecDepth 100000 in
set_option maxHeartbeats 16000000 in
theorem pwrz18 (g q1 q2 q3 q5 k0 k1 k2 hb : Nat) (h : Hd18) (Z : Int) (s : Sz18) (w : World) (hF : Sf18 g q1 q2 q3 q5 k0 k1 k2 h Z w) (hq : Sq18 w hb s) (hbd : (0 ≤ s.p ∧ s.p ≤ 16777216) ∧ (0 ≤ s.r0 ∧ s.r0 ≤ 16777216) ∧ (0 ≤ s.r1 ∧ s.r1 ≤ 16777216) ∧ (0 ≤ s.r2 ∧ s.r2 ≤ 16777216) ∧ (0 ≤ s.k0 ∧ s.k0 ≤ 16777216) ∧ (0 ≤ s.k1 ∧ s.k1 ≤ 16777216) ∧ (0 ≤ s.k2 ∧ s.k2 ≤ 16777216)) :
    Calls Tryz.prog 41 #[.slice (some ⟨g, 0, none⟩) 7 7, .pointer (some ⟨hb, 0, none⟩)] w (RwQ18 w (encA (sv18 s))) := by
  obtain ⟨i0, hi, hz0, hz1, hz2⟩ := info_parts info_u64f
  have HSF : Hid (∀ V, Below w.heap.size w V → Sf18 g q1 q2 q3 q5 k0 k1 k2 h Z V) := fun V hV => hF.old hV
  have HQ : Hid (∀ V, Below w.heap.size w V → Sq18 V hb s) := fun V hV => hq.old hV
  have HBD : Hid ((0 ≤ s.p ∧ s.p ≤ 16777216) ∧ (0 ≤ s.r0 ∧ s.r0 ≤ 16777216) ∧ (0 ≤ s.r1 ∧ s.r1 ≤ 16777216) ∧ (0 ≤ s.r2 ∧ s.r2 ≤ 16777216) ∧ (0 ≤ s.k0 ∧ s.k0 ≤ 16777216) ∧ (0 ≤ s.k1 ∧ s.k1 ≤ 16777216) ∧ (0 ≤ s.k2 ∧ s.k2 ≤ 16777216)) := hbd
  clear hF hq hbd
  go_enter Tryz.func41, Tryz.ntmps41
  go_wp2_with (first
    | (at_make; refine wpList_make_own _ rfl _ _ 61 rfl w.heap.size 60 i0 (.int .u64 0) 1 Tryz.underlying61 hi hz0 hz1 .i64 .i64 _ 7 rfl rfl (by omega) (by rw [hz2]; omega) (by unfold maxLen; omega) (Nat.le_refl _) ?_; intro w1 hown1 hgrow1))
  go_loopw [5, 13] (fun t5 t13 V => ∃ i : Nat, i ≤ 7 ∧ t13 = .int .i64 (i : Int) ∧ V.ownsRow w.heap.size 60 1 t5 i (((sv18 s).take i).map (Value.int .u64)) ∧ Below w.heap.size w V) (fun _ t13 _ => 7 - (intOf t13).toNat)
  case atStart => exact ⟨0, by omega, rfl, hown1, (Below.refl _ _).grown hgrow1 (Nat.le_refl _) (by intro k e; cases e)⟩
  case round =>
    obtain ⟨i, hi4, rfl, own, hB⟩ := hrel
    clear hown1 hgrow1
    have HB : Hid (Below w.heap.size w wr) := hB
    have hFl := HSF.out wr hB
    clear hB
    obtain ⟨pv, cv, hv⟩ := own_sl18 own
    subst hv
    rcases (by omega : i = 0 ∨ i = 1 ∨ i = 2 ∨ i = 3 ∨ i = 4 ∨ i = 5 ∨ i = 6 ∨ i = 7) with rfl | rfl | rfl | rfl | rfl | rfl | rfl | rfl
    · have f0 : wr.cell? ⟨g, 0, none⟩ = some (.func (.func 64) #[] #[]) := cell18 hFl.fl rfl
      have f1 : wr.cell? ⟨g, 1, none⟩ = some (.func (.func 86) #[] #[.pointer (some ⟨q1, 0, none⟩), .pointer (some ⟨q1 + 1, 0, none⟩)]) := cell18 hFl.fl rfl
      obtain ⟨wB, hwB⟩ : ∃ wB, wB = wr.alloc (.cells #[.func (.func 64) #[] #[], .func (.func 86) #[] #[.pointer (some ⟨q1, 0, none⟩), .pointer (some ⟨q1 + 1, 0, none⟩)]] 117) := ⟨_, rfl⟩
      have cB := cb16 wr #[.func (.func 64) #[] #[], .func (.func 86) #[] #[.pointer (some ⟨q1, 0, none⟩), .pointer (some ⟨q1 + 1, 0, none⟩)]] 117
      rw [← hwB] at cB
      obtain ⟨bs, hbs⟩ : ∃ bs, bs = wr.heap.size := ⟨_, rfl⟩
      have HBB : Hid (Below w.heap.size w wB) := HB.out.trans (cB.bl.mono HB.out.size)
      have HWB : Hid (wr.alloc (.cells #[.func (.func 64) #[] #[], .func (.func 86) #[] #[.pointer (some ⟨q1, 0, none⟩), .pointer (some ⟨q1 + 1, 0, none⟩)]] 117) = wB) := hwB.symm
      have HBS : Hid (wr.heap.size = bs) := hbs.symm
      have hSB := HSF.out wB HBB.out
      have HCA : Hid (∀ V, Below wB.heap.size wB V → Calls Tryz.prog 64 #[.pointer (some ⟨hb, 0, none⟩)] V fun e w' => e = .returned (.pointer (some ⟨hb, 0, none⟩)) ∧ Below V.heap.size V w') := fun V hV => (psf18_1 hb s V (HQ.out V (HBB.out.trans (hV.mono HBB.out.size)))).mono (fun e w' x => ⟨x.1, by rw [x.2]; exact Below.refl _ _⟩)
      have HCV : Hid (∀ V, Below wB.heap.size wB V → V.cell? ⟨hb, 0, none⟩ = some (.int .i64 s.p)) := fun V hV => cell18 (HQ.out V (HBB.out.trans (hV.mono HBB.out.size))) rfl
      have hbd : 0 ≤ s.p ∧ s.p ≤ 16777216 := HBD.out.1
      have HOB : Hid (∀ V, Below wB.heap.size wB V → V.ownsRow w.heap.size 60 1 (.slice pv 0 cv) 0 (((sv18 s).take 0).map (Value.int .u64))) := fun V hV => own_kp own (Kp.of_below (S := fun _ => False) (cB.bl.trans (hV.mono cB.bl.size))) (fun _ _ x => x)
      have HAP : Hid (∀ V, Below wB.heap.size wB V → ∃ g rc w', (Builtin.append_ #[61, 61] 61 #[.slice pv 0 cv, .slice (some ⟨V.heap.size, 0, none⟩) 1 1]).run Tryz.prog (V.alloc (.cells #[.int .u64 s.p] 60)) = .ok (.slice (some ⟨g, 0, none⟩) (0 + 1) rc) w' ∧ w'.ownsRow w.heap.size 60 1 (.slice (some ⟨g, 0, none⟩) (0 + 1) rc) 1 (((sv18 s).take 1).map (Value.int .u64)) ∧ Below w.heap.size w w') := fun V hV => by
        have BV := HBB.out.trans (hV.mono HBB.out.size)
        obtain ⟨g, rc, wE, hr, ow, k1⟩ := appv18 V s.p (HOB.out V hV) (by omega) BV.size
        exact ⟨g, rc, wE, hr, ow, BV.trans (k1.below (fun k x => (own.lt k x).1) BV.size)⟩
      clear hwB cB hFl hSB own hbs
      generalize s.p = v at *
      have hwv : IntKind.u64.wrap v = v := IntWalk.u64_in _ (by omega)
      go_wp2_with fail
      rw [HWB.out]
      refine (HCA.out wB (Below.refl _ _)).mono ?_
      rintro e2 w2 ⟨rfl, b2⟩
      have cv2 := HCV.out w2 b2
      obtain ⟨g9, rc9, wE, hr, ow, bE⟩ := HAP.out w2 b2
      have HO : Hid (wE.ownsRow w.heap.size 60 1 (.slice (some ⟨g9, 0, none⟩) (0 + 1) rc9) 1 (((sv18 s).take 1).map (Value.int .u64))) := ow
      have HE : Hid (Below w.heap.size w wE) := bE
      clear ow bE b2
      go_wp2_with (first | (at_builtin; refine wpList_app18 rfl (.tmp 17) (.tmp 25) 61 rfl rfl rfl hr ?_))
      go_roundw
      case rel => exact ⟨1, by omega, rfl, HO.out, HE.out⟩
      case measure => simp [intOf]
    · have f0 : wr.cell? ⟨g, 2, none⟩ = some (.func (.func 66) #[] #[]) := cell18 hFl.fl rfl
      have f1 : wr.cell? ⟨g, 3, none⟩ = some (.func (.func 86) #[] #[.pointer (some ⟨q2, 0, none⟩), .pointer (some ⟨q2 + 1, 0, none⟩)]) := cell18 hFl.fl rfl
      obtain ⟨wB, hwB⟩ : ∃ wB, wB = wr.alloc (.cells #[.func (.func 66) #[] #[], .func (.func 86) #[] #[.pointer (some ⟨q2, 0, none⟩), .pointer (some ⟨q2 + 1, 0, none⟩)]] 117) := ⟨_, rfl⟩
      have cB := cb16 wr #[.func (.func 66) #[] #[], .func (.func 86) #[] #[.pointer (some ⟨q2, 0, none⟩), .pointer (some ⟨q2 + 1, 0, none⟩)]] 117
      rw [← hwB] at cB
      obtain ⟨bs, hbs⟩ : ∃ bs, bs = wr.heap.size := ⟨_, rfl⟩
      have HBB : Hid (Below w.heap.size w wB) := HB.out.trans (cB.bl.mono HB.out.size)
      have HWB : Hid (wr.alloc (.cells #[.func (.func 66) #[] #[], .func (.func 86) #[] #[.pointer (some ⟨q2, 0, none⟩), .pointer (some ⟨q2 + 1, 0, none⟩)]] 117) = wB) := hwB.symm
      have HBS : Hid (wr.heap.size = bs) := hbs.symm
      have hSB := HSF.out wB HBB.out
      have HCA : Hid (∀ V, Below wB.heap.size wB V → Calls Tryz.prog 66 #[.pointer (some ⟨hb, 0, none⟩)] V fun e w' => e = .returned (.pointer (some ⟨hb, 1, none⟩)) ∧ Below V.heap.size V w') := fun V hV => (psf18_2 hb s V (HQ.out V (HBB.out.trans (hV.mono HBB.out.size)))).mono (fun e w' x => ⟨x.1, by rw [x.2]; exact Below.refl _ _⟩)
      have HCV : Hid (∀ V, Below wB.heap.size wB V → V.cell? ⟨hb, 1, none⟩ = some (.int .i64 s.r0)) := fun V hV => cell18 (HQ.out V (HBB.out.trans (hV.mono HBB.out.size))) rfl
      have hbd : 0 ≤ s.r0 ∧ s.r0 ≤ 16777216 := HBD.out.2.1
      have HOB : Hid (∀ V, Below wB.heap.size wB V → V.ownsRow w.heap.size 60 1 (.slice pv 1 cv) 1 (((sv18 s).take 1).map (Value.int .u64))) := fun V hV => own_kp own (Kp.of_below (S := fun _ => False) (cB.bl.trans (hV.mono cB.bl.size))) (fun _ _ x => x)
      have HAP : Hid (∀ V, Below wB.heap.size wB V → ∃ g rc w', (Builtin.append_ #[61, 61] 61 #[.slice pv 1 cv, .slice (some ⟨V.heap.size, 0, none⟩) 1 1]).run Tryz.prog (V.alloc (.cells #[.int .u64 s.r0] 60)) = .ok (.slice (some ⟨g, 0, none⟩) (1 + 1) rc) w' ∧ w'.ownsRow w.heap.size 60 1 (.slice (some ⟨g, 0, none⟩) (1 + 1) rc) 2 (((sv18 s).take 2).map (Value.int .u64)) ∧ Below w.heap.size w w') := fun V hV => by
        have BV := HBB.out.trans (hV.mono HBB.out.size)
        obtain ⟨g, rc, wE, hr, ow, k1⟩ := appv18 V s.r0 (HOB.out V hV) (by omega) BV.size
        exact ⟨g, rc, wE, hr, ow, BV.trans (k1.below (fun k x => (own.lt k x).1) BV.size)⟩
      clear hwB cB hFl hSB own hbs
      generalize s.r0 = v at *
      have hwv : IntKind.u64.wrap v = v := IntWalk.u64_in _ (by omega)
      go_wp2_with fail
      rw [HWB.out]
      refine (HCA.out wB (Below.refl _ _)).mono ?_
      rintro e2 w2 ⟨rfl, b2⟩
      have cv2 := HCV.out w2 b2
      obtain ⟨g9, rc9, wE, hr, ow, bE⟩ := HAP.out w2 b2
      have HO : Hid (wE.ownsRow w.heap.size 60 1 (.slice (some ⟨g9, 0, none⟩) (1 + 1) rc9) 2 (((sv18 s).take 2).map (Value.int .u64))) := ow
      have HE : Hid (Below w.heap.size w wE) := bE
      clear ow bE b2
      go_wp2_with (first | (at_builtin; refine wpList_app18 rfl (.tmp 17) (.tmp 25) 61 rfl rfl rfl hr ?_))
      go_roundw
      case rel => exact ⟨2, by omega, rfl, HO.out, HE.out⟩
      case measure => simp [intOf]
    · have f0 : wr.cell? ⟨g, 4, none⟩ = some (.func (.func 68) #[] #[]) := cell18 hFl.fl rfl
      have f1 : wr.cell? ⟨g, 5, none⟩ = some (.func (.func 86) #[] #[.pointer (some ⟨q3, 0, none⟩), .pointer (some ⟨q3 + 1, 0, none⟩)]) := cell18 hFl.fl rfl
      obtain ⟨wB, hwB⟩ : ∃ wB, wB = wr.alloc (.cells #[.func (.func 68) #[] #[], .func (.func 86) #[] #[.pointer (some ⟨q3, 0, none⟩), .pointer (some ⟨q3 + 1, 0, none⟩)]] 117) := ⟨_, rfl⟩
      have cB := cb16 wr #[.func (.func 68) #[] #[], .func (.func 86) #[] #[.pointer (some ⟨q3, 0, none⟩), .pointer (some ⟨q3 + 1, 0, none⟩)]] 117
      rw [← hwB] at cB
      obtain ⟨bs, hbs⟩ : ∃ bs, bs = wr.heap.size := ⟨_, rfl⟩
      have HBB : Hid (Below w.heap.size w wB) := HB.out.trans (cB.bl.mono HB.out.size)
      have HWB : Hid (wr.alloc (.cells #[.func (.func 68) #[] #[], .func (.func 86) #[] #[.pointer (some ⟨q3, 0, none⟩), .pointer (some ⟨q3 + 1, 0, none⟩)]] 117) = wB) := hwB.symm
      have HBS : Hid (wr.heap.size = bs) := hbs.symm
      have hSB := HSF.out wB HBB.out
      have HCA : Hid (∀ V, Below wB.heap.size wB V → Calls Tryz.prog 68 #[.pointer (some ⟨hb, 0, none⟩)] V fun e w' => e = .returned (.pointer (some ⟨hb, 2, none⟩)) ∧ Below V.heap.size V w') := fun V hV => (psf18_3 hb s V (HQ.out V (HBB.out.trans (hV.mono HBB.out.size)))).mono (fun e w' x => ⟨x.1, by rw [x.2]; exact Below.refl _ _⟩)
      have HCV : Hid (∀ V, Below wB.heap.size wB V → V.cell? ⟨hb, 2, none⟩ = some (.int .i64 s.r1)) := fun V hV => cell18 (HQ.out V (HBB.out.trans (hV.mono HBB.out.size))) rfl
      have hbd : 0 ≤ s.r1 ∧ s.r1 ≤ 16777216 := HBD.out.2.2.1
      have HOB : Hid (∀ V, Below wB.heap.size wB V → V.ownsRow w.heap.size 60 1 (.slice pv 2 cv) 2 (((sv18 s).take 2).map (Value.int .u64))) := fun V hV => own_kp own (Kp.of_below (S := fun _ => False) (cB.bl.trans (hV.mono cB.bl.size))) (fun _ _ x => x)
      have HAP : Hid (∀ V, Below wB.heap.size wB V → ∃ g rc w', (Builtin.append_ #[61, 61] 61 #[.slice pv 2 cv, .slice (some ⟨V.heap.size, 0, none⟩) 1 1]).run Tryz.prog (V.alloc (.cells #[.int .u64 s.r1] 60)) = .ok (.slice (some ⟨g, 0, none⟩) (2 + 1) rc) w' ∧ w'.ownsRow w.heap.size 60 1 (.slice (some ⟨g, 0, none⟩) (2 + 1) rc) 3 (((sv18 s).take 3).map (Value.int .u64)) ∧ Below w.heap.size w w') := fun V hV => by
        have BV := HBB.out.trans (hV.mono HBB.out.size)
        obtain ⟨g, rc, wE, hr, ow, k1⟩ := appv18 V s.r1 (HOB.out V hV) (by omega) BV.size
        exact ⟨g, rc, wE, hr, ow, BV.trans (k1.below (fun k x => (own.lt k x).1) BV.size)⟩
      clear hwB cB hFl hSB own hbs
      generalize s.r1 = v at *
      have hwv : IntKind.u64.wrap v = v := IntWalk.u64_in _ (by omega)
      go_wp2_with fail
      rw [HWB.out]
      refine (HCA.out wB (Below.refl _ _)).mono ?_
      rintro e2 w2 ⟨rfl, b2⟩
      have cv2 := HCV.out w2 b2
      obtain ⟨g9, rc9, wE, hr, ow, bE⟩ := HAP.out w2 b2
      have HO : Hid (wE.ownsRow w.heap.size 60 1 (.slice (some ⟨g9, 0, none⟩) (2 + 1) rc9) 3 (((sv18 s).take 3).map (Value.int .u64))) := ow
      have HE : Hid (Below w.heap.size w wE) := bE
      clear ow bE b2
      go_wp2_with (first | (at_builtin; refine wpList_app18 rfl (.tmp 17) (.tmp 25) 61 rfl rfl rfl hr ?_))
      go_roundw
      case rel => exact ⟨3, by omega, rfl, HO.out, HE.out⟩
      case measure => simp [intOf]
    · have f0 : wr.cell? ⟨g, 6, none⟩ = some (.func (.func 69) #[] #[]) := cell18 hFl.fl rfl
      have f1 : wr.cell? ⟨g, 7, none⟩ = some (.func (.func 70) #[] #[.pointer (some ⟨q5, 0, none⟩)]) := cell18 hFl.fl rfl
      obtain ⟨wB, hwB⟩ : ∃ wB, wB = wr.alloc (.cells #[.func (.func 69) #[] #[], .func (.func 70) #[] #[.pointer (some ⟨q5, 0, none⟩)]] 117) := ⟨_, rfl⟩
      have cB := cb16 wr #[.func (.func 69) #[] #[], .func (.func 70) #[] #[.pointer (some ⟨q5, 0, none⟩)]] 117
      rw [← hwB] at cB
      obtain ⟨bs, hbs⟩ : ∃ bs, bs = wr.heap.size := ⟨_, rfl⟩
      have HBB : Hid (Below w.heap.size w wB) := HB.out.trans (cB.bl.mono HB.out.size)
      have HWB : Hid (wr.alloc (.cells #[.func (.func 69) #[] #[], .func (.func 70) #[] #[.pointer (some ⟨q5, 0, none⟩)]] 117) = wB) := hwB.symm
      have HBS : Hid (wr.heap.size = bs) := hbs.symm
      have hSB := HSF.out wB HBB.out
      have HCA : Hid (∀ V, Below wB.heap.size wB V → Calls Tryz.prog 69 #[.pointer (some ⟨hb, 0, none⟩)] V fun e w' => e = .returned (.pointer (some ⟨hb, 3, none⟩)) ∧ Below V.heap.size V w') := fun V hV => (psf18_4 hb s V (HQ.out V (HBB.out.trans (hV.mono HBB.out.size)))).mono (fun e w' x => ⟨x.1, by rw [x.2]; exact Below.refl _ _⟩)
      have HCV : Hid (∀ V, Below wB.heap.size wB V → V.cell? ⟨hb, 3, none⟩ = some (.int .i64 s.r2)) := fun V hV => cell18 (HQ.out V (HBB.out.trans (hV.mono HBB.out.size))) rfl
      have hbd : 0 ≤ s.r2 ∧ s.r2 ≤ 16777216 := HBD.out.2.2.2.1
      have HOB : Hid (∀ V, Below wB.heap.size wB V → V.ownsRow w.heap.size 60 1 (.slice pv 3 cv) 3 (((sv18 s).take 3).map (Value.int .u64))) := fun V hV => own_kp own (Kp.of_below (S := fun _ => False) (cB.bl.trans (hV.mono cB.bl.size))) (fun _ _ x => x)
      have HAP : Hid (∀ V, Below wB.heap.size wB V → ∃ g rc w', (Builtin.append_ #[61, 61] 61 #[.slice pv 3 cv, .slice (some ⟨V.heap.size, 0, none⟩) 1 1]).run Tryz.prog (V.alloc (.cells #[.int .u64 s.r2] 60)) = .ok (.slice (some ⟨g, 0, none⟩) (3 + 1) rc) w' ∧ w'.ownsRow w.heap.size 60 1 (.slice (some ⟨g, 0, none⟩) (3 + 1) rc) 4 (((sv18 s).take 4).map (Value.int .u64)) ∧ Below w.heap.size w w') := fun V hV => by
        have BV := HBB.out.trans (hV.mono HBB.out.size)
        obtain ⟨g, rc, wE, hr, ow, k1⟩ := appv18 V s.r2 (HOB.out V hV) (by omega) BV.size
        exact ⟨g, rc, wE, hr, ow, BV.trans (k1.below (fun k x => (own.lt k x).1) BV.size)⟩
      clear hwB cB hFl hSB own hbs
      generalize s.r2 = v at *
      have hwv : IntKind.u64.wrap v = v := IntWalk.u64_in _ (by omega)
      go_wp2_with fail
      rw [HWB.out]
      refine (HCA.out wB (Below.refl _ _)).mono ?_
      rintro e2 w2 ⟨rfl, b2⟩
      have cv2 := HCV.out w2 b2
      obtain ⟨g9, rc9, wE, hr, ow, bE⟩ := HAP.out w2 b2
      have HO : Hid (wE.ownsRow w.heap.size 60 1 (.slice (some ⟨g9, 0, none⟩) (3 + 1) rc9) 4 (((sv18 s).take 4).map (Value.int .u64))) := ow
      have HE : Hid (Below w.heap.size w wE) := bE
      clear ow bE b2
      go_wp2_with (first | (at_builtin; refine wpList_app18 rfl (.tmp 17) (.tmp 25) 61 rfl rfl rfl hr ?_))
      go_roundw
      case rel => exact ⟨4, by omega, rfl, HO.out, HE.out⟩
      case measure => simp [intOf]
    · have f0 : wr.cell? ⟨g, 8, none⟩ = some (.func (.func 88) #[] #[.pointer (some ⟨k0, 0, none⟩)]) := cell18 hFl.fl rfl
      have f1 : wr.cell? ⟨g, 9, none⟩ = some (.func (.func 89) #[] #[.pointer (some ⟨k0, 0, none⟩)]) := cell18 hFl.fl rfl
      obtain ⟨wB, hwB⟩ : ∃ wB, wB = wr.alloc (.cells #[.func (.func 88) #[] #[.pointer (some ⟨k0, 0, none⟩)], .func (.func 89) #[] #[.pointer (some ⟨k0, 0, none⟩)]] 117) := ⟨_, rfl⟩
      have cB := cb16 wr #[.func (.func 88) #[] #[.pointer (some ⟨k0, 0, none⟩)], .func (.func 89) #[] #[.pointer (some ⟨k0, 0, none⟩)]] 117
      rw [← hwB] at cB
      obtain ⟨bs, hbs⟩ : ∃ bs, bs = wr.heap.size := ⟨_, rfl⟩
      have HBB : Hid (Below w.heap.size w wB) := HB.out.trans (cB.bl.mono HB.out.size)
      have HWB : Hid (wr.alloc (.cells #[.func (.func 88) #[] #[.pointer (some ⟨k0, 0, none⟩)], .func (.func 89) #[] #[.pointer (some ⟨k0, 0, none⟩)]] 117) = wB) := hwB.symm
      have HBS : Hid (wr.heap.size = bs) := hbs.symm
      have hSB := HSF.out wB HBB.out
      have HCA : Hid (∀ V, Below wB.heap.size wB V → Calls Tryz.prog 88 #[.pointer (some ⟨hb, 0, none⟩), .pointer (some ⟨k0, 0, none⟩)] V fun e w' => e = .returned (.pointer (some ⟨hb, 4, none⟩)) ∧ Below V.heap.size V w') := fun V hV => ppka18_0 hb k0 s V (HQ.out V (HBB.out.trans (hV.mono HBB.out.size))) ((HSF.out V (HBB.out.trans (hV.mono HBB.out.size))).d0)
      have HCV : Hid (∀ V, Below wB.heap.size wB V → V.cell? ⟨hb, 4, none⟩ = some (.int .i64 s.k0)) := fun V hV => cell18 (HQ.out V (HBB.out.trans (hV.mono HBB.out.size))) rfl
      have hbd : 0 ≤ s.k0 ∧ s.k0 ≤ 16777216 := HBD.out.2.2.2.2.1
      have HOB : Hid (∀ V, Below wB.heap.size wB V → V.ownsRow w.heap.size 60 1 (.slice pv 4 cv) 4 (((sv18 s).take 4).map (Value.int .u64))) := fun V hV => own_kp own (Kp.of_below (S := fun _ => False) (cB.bl.trans (hV.mono cB.bl.size))) (fun _ _ x => x)
      have HAP : Hid (∀ V, Below wB.heap.size wB V → ∃ g rc w', (Builtin.append_ #[61, 61] 61 #[.slice pv 4 cv, .slice (some ⟨V.heap.size, 0, none⟩) 1 1]).run Tryz.prog (V.alloc (.cells #[.int .u64 s.k0] 60)) = .ok (.slice (some ⟨g, 0, none⟩) (4 + 1) rc) w' ∧ w'.ownsRow w.heap.size 60 1 (.slice (some ⟨g, 0, none⟩) (4 + 1) rc) 5 (((sv18 s).take 5).map (Value.int .u64)) ∧ Below w.heap.size w w') := fun V hV => by
        have BV := HBB.out.trans (hV.mono HBB.out.size)
        obtain ⟨g, rc, wE, hr, ow, k1⟩ := appv18 V s.k0 (HOB.out V hV) (by omega) BV.size
        exact ⟨g, rc, wE, hr, ow, BV.trans (k1.below (fun k x => (own.lt k x).1) BV.size)⟩
      clear hwB cB hFl hSB own hbs
      generalize s.k0 = v at *
      have hwv : IntKind.u64.wrap v = v := IntWalk.u64_in _ (by omega)
      go_wp2_with fail
      rw [HWB.out]
      refine (HCA.out wB (Below.refl _ _)).mono ?_
      rintro e2 w2 ⟨rfl, b2⟩
      have cv2 := HCV.out w2 b2
      obtain ⟨g9, rc9, wE, hr, ow, bE⟩ := HAP.out w2 b2
      have HO : Hid (wE.ownsRow w.heap.size 60 1 (.slice (some ⟨g9, 0, none⟩) (4 + 1) rc9) 5 (((sv18 s).take 5).map (Value.int .u64))) := ow
      have HE : Hid (Below w.heap.size w wE) := bE
      clear ow bE b2
      go_wp2_with (first | (at_builtin; refine wpList_app18 rfl (.tmp 17) (.tmp 25) 61 rfl rfl rfl hr ?_))
      go_roundw
      case rel => exact ⟨5, by omega, rfl, HO.out, HE.out⟩
      case measure => simp [intOf]
    · have f0 : wr.cell? ⟨g, 10, none⟩ = some (.func (.func 88) #[] #[.pointer (some ⟨k1, 0, none⟩)]) := cell18 hFl.fl rfl
      have f1 : wr.cell? ⟨g, 11, none⟩ = some (.func (.func 89) #[] #[.pointer (some ⟨k1, 0, none⟩)]) := cell18 hFl.fl rfl
      obtain ⟨wB, hwB⟩ : ∃ wB, wB = wr.alloc (.cells #[.func (.func 88) #[] #[.pointer (some ⟨k1, 0, none⟩)], .func (.func 89) #[] #[.pointer (some ⟨k1, 0, none⟩)]] 117) := ⟨_, rfl⟩
      have cB := cb16 wr #[.func (.func 88) #[] #[.pointer (some ⟨k1, 0, none⟩)], .func (.func 89) #[] #[.pointer (some ⟨k1, 0, none⟩)]] 117
      rw [← hwB] at cB
      obtain ⟨bs, hbs⟩ : ∃ bs, bs = wr.heap.size := ⟨_, rfl⟩
      have HBB : Hid (Below w.heap.size w wB) := HB.out.trans (cB.bl.mono HB.out.size)
      have HWB : Hid (wr.alloc (.cells #[.func (.func 88) #[] #[.pointer (some ⟨k1, 0, none⟩)], .func (.func 89) #[] #[.pointer (some ⟨k1, 0, none⟩)]] 117) = wB) := hwB.symm
      have HBS : Hid (wr.heap.size = bs) := hbs.symm
      have hSB := HSF.out wB HBB.out
      have HCA : Hid (∀ V, Below wB.heap.size wB V → Calls Tryz.prog 88 #[.pointer (some ⟨hb, 0, none⟩), .pointer (some ⟨k1, 0, none⟩)] V fun e w' => e = .returned (.pointer (some ⟨hb, 5, none⟩)) ∧ Below V.heap.size V w') := fun V hV => ppka18_1 hb k1 s V (HQ.out V (HBB.out.trans (hV.mono HBB.out.size))) ((HSF.out V (HBB.out.trans (hV.mono HBB.out.size))).d1)
      have HCV : Hid (∀ V, Below wB.heap.size wB V → V.cell? ⟨hb, 5, none⟩ = some (.int .i64 s.k1)) := fun V hV => cell18 (HQ.out V (HBB.out.trans (hV.mono HBB.out.size))) rfl
      have hbd : 0 ≤ s.k1 ∧ s.k1 ≤ 16777216 := HBD.out.2.2.2.2.2.1
      have HOB : Hid (∀ V, Below wB.heap.size wB V → V.ownsRow w.heap.size 60 1 (.slice pv 5 cv) 5 (((sv18 s).take 5).map (Value.int .u64))) := fun V hV => own_kp own (Kp.of_below (S := fun _ => False) (cB.bl.trans (hV.mono cB.bl.size))) (fun _ _ x => x)
      have HAP : Hid (∀ V, Below wB.heap.size wB V → ∃ g rc w', (Builtin.append_ #[61, 61] 61 #[.slice pv 5 cv, .slice (some ⟨V.heap.size, 0, none⟩) 1 1]).run Tryz.prog (V.alloc (.cells #[.int .u64 s.k1] 60)) = .ok (.slice (some ⟨g, 0, none⟩) (5 + 1) rc) w' ∧ w'.ownsRow w.heap.size 60 1 (.slice (some ⟨g, 0, none⟩) (5 + 1) rc) 6 (((sv18 s).take 6).map (Value.int .u64)) ∧ Below w.heap.size w w') := fun V hV => by
        have BV := HBB.out.trans (hV.mono HBB.out.size)
        obtain ⟨g, rc, wE, hr, ow, k1⟩ := appv18 V s.k1 (HOB.out V hV) (by omega) BV.size
        exact ⟨g, rc, wE, hr, ow, BV.trans (k1.below (fun k x => (own.lt k x).1) BV.size)⟩
      clear hwB cB hFl hSB own hbs
      generalize s.k1 = v at *
      have hwv : IntKind.u64.wrap v = v := IntWalk.u64_in _ (by omega)
      go_wp2_with fail
      rw [HWB.out]
      refine (HCA.out wB (Below.refl _ _)).mono ?_
      rintro e2 w2 ⟨rfl, b2⟩
      have cv2 := HCV.out w2 b2
      obtain ⟨g9, rc9, wE, hr, ow, bE⟩ := HAP.out w2 b2
      have HO : Hid (wE.ownsRow w.heap.size 60 1 (.slice (some ⟨g9, 0, none⟩) (5 + 1) rc9) 6 (((sv18 s).take 6).map (Value.int .u64))) := ow
      have HE : Hid (Below w.heap.size w wE) := bE
      clear ow bE b2
      go_wp2_with (first | (at_builtin; refine wpList_app18 rfl (.tmp 17) (.tmp 25) 61 rfl rfl rfl hr ?_))
      go_roundw
      case rel => exact ⟨6, by omega, rfl, HO.out, HE.out⟩
      case measure => simp [intOf]
    · have f0 : wr.cell? ⟨g, 12, none⟩ = some (.func (.func 88) #[] #[.pointer (some ⟨k2, 0, none⟩)]) := cell18 hFl.fl rfl
      have f1 : wr.cell? ⟨g, 13, none⟩ = some (.func (.func 89) #[] #[.pointer (some ⟨k2, 0, none⟩)]) := cell18 hFl.fl rfl
      obtain ⟨wB, hwB⟩ : ∃ wB, wB = wr.alloc (.cells #[.func (.func 88) #[] #[.pointer (some ⟨k2, 0, none⟩)], .func (.func 89) #[] #[.pointer (some ⟨k2, 0, none⟩)]] 117) := ⟨_, rfl⟩
      have cB := cb16 wr #[.func (.func 88) #[] #[.pointer (some ⟨k2, 0, none⟩)], .func (.func 89) #[] #[.pointer (some ⟨k2, 0, none⟩)]] 117
      rw [← hwB] at cB
      obtain ⟨bs, hbs⟩ : ∃ bs, bs = wr.heap.size := ⟨_, rfl⟩
      have HBB : Hid (Below w.heap.size w wB) := HB.out.trans (cB.bl.mono HB.out.size)
      have HWB : Hid (wr.alloc (.cells #[.func (.func 88) #[] #[.pointer (some ⟨k2, 0, none⟩)], .func (.func 89) #[] #[.pointer (some ⟨k2, 0, none⟩)]] 117) = wB) := hwB.symm
      have HBS : Hid (wr.heap.size = bs) := hbs.symm
      have hSB := HSF.out wB HBB.out
      have HCA : Hid (∀ V, Below wB.heap.size wB V → Calls Tryz.prog 88 #[.pointer (some ⟨hb, 0, none⟩), .pointer (some ⟨k2, 0, none⟩)] V fun e w' => e = .returned (.pointer (some ⟨hb, 6, none⟩)) ∧ Below V.heap.size V w') := fun V hV => ppka18_2 hb k2 s V (HQ.out V (HBB.out.trans (hV.mono HBB.out.size))) ((HSF.out V (HBB.out.trans (hV.mono HBB.out.size))).d2)
      have HCV : Hid (∀ V, Below wB.heap.size wB V → V.cell? ⟨hb, 6, none⟩ = some (.int .i64 s.k2)) := fun V hV => cell18 (HQ.out V (HBB.out.trans (hV.mono HBB.out.size))) rfl
      have hbd : 0 ≤ s.k2 ∧ s.k2 ≤ 16777216 := HBD.out.2.2.2.2.2.2
      have HOB : Hid (∀ V, Below wB.heap.size wB V → V.ownsRow w.heap.size 60 1 (.slice pv 6 cv) 6 (((sv18 s).take 6).map (Value.int .u64))) := fun V hV => own_kp own (Kp.of_below (S := fun _ => False) (cB.bl.trans (hV.mono cB.bl.size))) (fun _ _ x => x)
      have HAP : Hid (∀ V, Below wB.heap.size wB V → ∃ g rc w', (Builtin.append_ #[61, 61] 61 #[.slice pv 6 cv, .slice (some ⟨V.heap.size, 0, none⟩) 1 1]).run Tryz.prog (V.alloc (.cells #[.int .u64 s.k2] 60)) = .ok (.slice (some ⟨g, 0, none⟩) (6 + 1) rc) w' ∧ w'.ownsRow w.heap.size 60 1 (.slice (some ⟨g, 0, none⟩) (6 + 1) rc) 7 (((sv18 s).take 7).map (Value.int .u64)) ∧ Below w.heap.size w w') := fun V hV => by
        have BV := HBB.out.trans (hV.mono HBB.out.size)
        obtain ⟨g, rc, wE, hr, ow, k1⟩ := appv18 V s.k2 (HOB.out V hV) (by omega) BV.size
        exact ⟨g, rc, wE, hr, ow, BV.trans (k1.below (fun k x => (own.lt k x).1) BV.size)⟩
      clear hwB cB hFl hSB own hbs
      generalize s.k2 = v at *
      have hwv : IntKind.u64.wrap v = v := IntWalk.u64_in _ (by omega)
      go_wp2_with fail
      rw [HWB.out]
      refine (HCA.out wB (Below.refl _ _)).mono ?_
      rintro e2 w2 ⟨rfl, b2⟩
      have cv2 := HCV.out w2 b2
      obtain ⟨g9, rc9, wE, hr, ow, bE⟩ := HAP.out w2 b2
      have HO : Hid (wE.ownsRow w.heap.size 60 1 (.slice (some ⟨g9, 0, none⟩) (6 + 1) rc9) 7 (((sv18 s).take 7).map (Value.int .u64))) := ow
      have HE : Hid (Below w.heap.size w wE) := bE
      clear ow bE b2
      go_wp2_with (first | (at_builtin; refine wpList_app18 rfl (.tmp 17) (.tmp 25) 61 rfl rfl rfl hr ?_))
      go_roundw
      case rel => exact ⟨7, by omega, rfl, HO.out, HE.out⟩
      case measure => simp [intOf]
    · have hvb : ∀ z ∈ sv18 s, 0 ≤ z ∧ z ≤ 18446744073709551615 := by
        obtain ⟨x0, x1, x2, x3, x4, x5, x6⟩ := HBD.out
        intro z hz
        simp [sv18] at hz
        omega
      obtain ⟨-, a, c2, hv, sg, -, -, -⟩ := own_seg (zs := sv18 s) own (M := 18446744073709551615) (by decide) hvb
      injection hv with h1 h2 h3
      subst h1
      have EN := encode_any pv (sv18 s) cv wr sg (by simp [sv18])
      have EN : Hid (Calls Tryz.prog 50 #[.slice pv 7 cv] wr fun e w' => ∃ v, e = .returned v ∧ w'.ownsRow wr.heap.size 5 1 v (encA (sv18 s)).length ((encA (sv18 s)).map (Value.int .u8)) ∧ Below wr.heap.size wr w') := EN
      clear own sg hvb h3 h2
      go_wp2_with fail
      refine EN.out.mono ?_
      rintro e1 w2 ⟨v, rfl, o2, b2⟩
      obtain ⟨p2, c2', hv2⟩ := own_sl18 o2
      subst hv2
      have HQ2 : Hid (RwQ18 w (encA (sv18 s)) (.returned (.slice p2 (encA (sv18 s)).length c2')) w2) := ⟨p2, c2', rfl, own_base o2 HB.out.size, HB.out.trans (b2.mono HB.out.size)⟩
      clear o2 b2
      go_wp2_with fail
      go_ret
      exact HQ2.out
end Go.Proofs.YtmojfdccobebfaaGreatDoor
