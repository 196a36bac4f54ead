import Derived.Test.YtpodakndckflgaaGreatDoorPo
namespace Go.Proofs.YtpodakndckflgaaGreatDoor
open Go.RowKit Go.Shelf
set_option linter.unusedVariables false
def Ff18 (h : Hd18) (Z : Int) (s : Sz18) : Nat → Prop
  | 0 => (0) ≤ s.p ∧ s.p ≤ (h.o)
  | 1 => (1) ≤ s.r0 ∧ s.r0 ≤ (6 * h.wi)
  | 2 => (0) ≤ s.r1 ∧ s.r1 ≤ (Z)
  | 3 => (Z - s.r1) ≤ s.r2 ∧ s.r2 ≤ (Z - s.r1)
  | 4 => (if s.r0 = 0 then 0 else 1) ≤ s.k0 ∧ s.k0 ≤ (if s.r0 = 0 then 0 else 4 * s.r0 + 64)
  | 5 => (if s.r1 = 0 then 0 else 1) ≤ s.k1 ∧ s.k1 ≤ (if s.r1 = 0 then 0 else 4 * s.r1 + 64)
  | _ => (if s.r2 = 0 then 0 else 1) ≤ s.k2 ∧ s.k2 ≤ (if s.r2 = 0 then 0 else 4 * s.r2 + 64)
instance (h : Hd18) (Z : Int) (s : Sz18) (j : Nat) : Decidable (Ff18 h Z s j) := by unfold Ff18; split <;> infer_instance
def Fs18 (h : Hd18) (Z : Int) (s : Sz18) : Prop := Ff18 h Z s 0 ∧ Ff18 h Z s 1 ∧ Ff18 h Z s 2 ∧ Ff18 h Z s 3 ∧ Ff18 h Z s 4 ∧ Ff18 h Z s 5 ∧ Ff18 h Z s 6
instance (h : Hd18) (Z : Int) (s : Sz18) : Decidable (Fs18 h Z s) := by unfold Fs18; infer_instance
def Fj18 (h : Hd18) (Z : Int) (s : Sz18) (i : Nat) : Prop := (0 < i → 0 ≤ s.p ∧ s.p ≤ h.o) ∧ (1 < i → 1 ≤ s.r0 ∧ s.r0 ≤ 6 * h.wi) ∧ (2 < i → 0 ≤ s.r1 ∧ s.r1 ≤ Z) ∧ (3 < i → Z - s.r1 ≤ s.r2 ∧ s.r2 ≤ Z - s.r1) ∧ (4 < i → Ff18 h Z s 4) ∧ (5 < i → Ff18 h Z s 5) ∧ (6 < i → Ff18 h Z s 6)
theorem Fj18.all {h : Hd18} {Z : Int} {s : Sz18} (f : Fj18 h Z s 7) : Fs18 h Z s := ⟨f.1 (by omega), f.2.1 (by omega), f.2.2.1 (by omega), f.2.2.2.1 (by omega), f.2.2.2.2.1 (by omega), f.2.2.2.2.2.1 (by omega), f.2.2.2.2.2.2 (by omega)⟩
set_option maxRecDepth 100000 in
set_option maxHeartbeats 16000000 in
theorem pfiz18 (g q1 q2 q3 q5 k0 k1 k2 hb : Nat) (h : Hd18) (Z : Int) (s : Sz18) (w : World) (hF : Sf18 g q1 q2 q3 q5 k0 k1 k2 h Z w) (hq : Sq18 w hb s) (hZ : 0 ≤ Z ∧ Z ≤ 65536 ∧ 64 ≤ h.wi ∧ h.wi ≤ 65536) :
    Calls Tryz.prog 56 #[.slice (some ⟨g, 0, none⟩) 7 7, .pointer (some ⟨hb, 0, none⟩)] w fun e w' => e = .returned (.bool (decide (Fs18 h Z s))) ∧ Below w.heap.size w w' := by
  have HSF : Hid (∀ V, Below w.heap.size w V → Sf18 g q1 q2 q3 q5 k0 k1 k2 h Z V) := fun V hV => hF.old hV
  have HQ : Hid (∀ V, Below w.heap.size w V → Sq18 V hb s) := fun V hV => hq.old hV
  have HZ : Hid (0 ≤ Z ∧ Z ≤ 65536 ∧ 64 ≤ h.wi ∧ h.wi ≤ 65536) := hZ
  obtain ⟨ok, hok⟩ : ∃ ok, ok = decide (Fs18 h Z s) := ⟨_, rfl⟩
  have HOK : Hid (ok = decide (Fs18 h Z s)) := hok
  rw [← hok]
  clear hF hq hok hZ
  go_enter Tryz.func56, Tryz.ntmps56
  go_wp2_with fail
  go_loopw [12] (fun t12 V => ∃ i : Nat, i ≤ 7 ∧ t12 = .int .i64 (i : Int) ∧ Fj18 h Z s i ∧ Below w.heap.size w V) (fun t12 _ => 7 - (intOf t12).toNat)
  case atStart => exact ⟨0, by omega, rfl, ⟨by omega, by omega, by omega, by omega, by omega, by omega, by omega⟩, Below.refl _ _⟩
  case round =>
    obtain ⟨i, hi4, rfl, hfi, hB⟩ := hrel
    have HFI : Hid (Fj18 h Z s i) := hfi
    have HB : Hid (Below w.heap.size w wr) := hB
    have hFl := HSF.out wr hB
    clear hfi hB
    rcases (by omega : i = 0 ∨ i = 1 ∨ i = 2 ∨ i = 3 ∨ i = 4 ∨ i = 5 ∨ i = 6 ∨ i = 7) with rfl | rfl | rfl | rfl | rfl | rfl | rfl | rfl
    · have f0 : wr.cell? ⟨g, 0, none⟩ = some (.func (.func 69) #[] #[]) := cell18 hFl.fl rfl
      have f1 : wr.cell? ⟨g, 1, none⟩ = some (.func (.func 87) #[] #[.pointer (some ⟨q1, 0, none⟩), .pointer (some ⟨q1 + 1, 0, none⟩)]) := cell18 hFl.fl rfl
      obtain ⟨wB, hwB⟩ : ∃ wB, wB = wr.alloc (.cells #[.func (.func 69) #[] #[], .func (.func 87) #[] #[.pointer (some ⟨q1, 0, none⟩), .pointer (some ⟨q1 + 1, 0, none⟩)]] 142) := ⟨_, rfl⟩
      have cB := cb16 wr #[.func (.func 69) #[] #[], .func (.func 87) #[] #[.pointer (some ⟨q1, 0, none⟩), .pointer (some ⟨q1 + 1, 0, none⟩)]] 142
      rw [← hwB] at cB
      obtain ⟨bs, hbs⟩ : ∃ bs, bs = wr.heap.size := ⟨_, rfl⟩
      have HBB : Hid (Below w.heap.size w wB) := HB.out.trans (cB.bl.mono HB.out.size)
      have HWB : Hid (wr.alloc (.cells #[.func (.func 69) #[] #[], .func (.func 87) #[] #[.pointer (some ⟨q1, 0, none⟩), .pointer (some ⟨q1 + 1, 0, none⟩)]] 142) = wB) := hwB.symm
      have HBS : Hid (wr.heap.size = bs) := hbs.symm
      have hSB := HSF.out wB HBB.out
      have HCA : Hid (∀ V, Below wB.heap.size wB V → Calls Tryz.prog 69 #[.pointer (some ⟨hb, 0, none⟩)] V fun e w' => e = .returned (.pointer (some ⟨hb, 0, none⟩)) ∧ Below V.heap.size V w') := fun V hV => (psf18_1 hb s V (HQ.out V (HBB.out.trans (hV.mono HBB.out.size)))).mono (fun e w' x => ⟨x.1, by rw [x.2]; exact Below.refl _ _⟩)
      have HCV : Hid (∀ V, Below wB.heap.size wB V → V.cell? ⟨hb, 0, none⟩ = some (.int .i64 s.p)) := fun V hV => cell18 (HQ.out V (HBB.out.trans (hV.mono HBB.out.size))) rfl
      have HCB : Hid (∀ V, Below wB.heap.size wB V → V.cell? ⟨bs, 0, none⟩ = some (.func (.func 69) #[] #[]) ∧ V.cell? ⟨bs, 1, none⟩ = some (.func (.func 87) #[] #[.pointer (some ⟨q1, 0, none⟩), .pointer (some ⟨q1 + 1, 0, none⟩)])) := fun V hV => by
        have q0 := cB.cl
        rw [← hbs] at q0
        have q := (hV.block bs (by have := cB.sz; omega)).trans q0
        exact ⟨cell18 q rfl, cell18 q rfl⟩
      obtain ⟨lo, hlo⟩ : ∃ lo, lo = (0 : Int) := ⟨_, rfl⟩
      obtain ⟨hi, hhi⟩ : ∃ hi, hi = (h.o : Int) := ⟨_, rfl⟩
      have CB : Calls Tryz.prog 87 #[.pointer (some ⟨hb, 0, none⟩), .pointer (some ⟨q1, 0, none⟩), .pointer (some ⟨q1 + 1, 0, none⟩)] wB fun e w' => e = .returned (.tuple #[.int .i64 lo, .int .i64 hi]) ∧ Below wB.heap.size wB w' := by
        rw [hlo, hhi]
        exact pbz18 q1 (q1 + 1) (.pointer (some ⟨hb, 0, none⟩)) _ _ wB hSB.a1 hSB.a2
      have HNX : Hid (lo ≤ s.p → s.p ≤ hi → Fj18 h Z s 1) := fun a b => by
        rw [hlo] at a
        rw [hhi] at b
        obtain ⟨g0, g1, g2, g3, g4, g5, g6⟩ := HFI.out
        refine ⟨fun x => ?_, fun x => ?_, fun x => ?_, fun x => ?_, fun x => ?_, fun x => ?_, fun x => ?_⟩
        all_goals first | (exfalso; omega) | exact g0 (by omega) | exact g1 (by omega) | exact g2 (by omega) | exact g3 (by omega) | exact g4 (by omega) | exact g5 (by omega) | exact g6 (by omega) | exact ⟨a, b⟩
      have HNO : Hid (s.p < lo ∨ hi < s.p → ok = false) := fun a => by
        rw [HOK.out]
        refine decide_eq_false (fun x => ?_)
        have y : (0 : Int) ≤ s.p ∧ s.p ≤ (h.o : Int) := x.1
        rw [hlo, hhi] at a
        omega
      clear hwB cB hbs hFl hSB HFI hlo hhi
      generalize s.p = v at *
      go_wp2_with fail
      rw [HWB.out, HBS.out]
      refine CB.mono ?_
      rintro e1 w1 ⟨rfl, b1⟩
      have HB1 : Hid (Below wB.heap.size wB w1) := b1
      obtain ⟨g0, g1⟩ := HCB.out w1 b1
      clear b1 CB f0 f1
      go_wp2_with fail
      refine (HCA.out w1 HB1.out).mono ?_
      rintro e2 w2 ⟨rfl, b2⟩
      have HB2 : Hid (Below wB.heap.size wB w2) := HB1.out.trans (b2.mono HB1.out.size)
      have cv := HCV.out w2 HB2.out
      clear b2 g0 g1
      by_cases hlo : v < lo
      · have hk := HNO.out (.inl hlo)
        subst hk
        go_wp2_with fail
        go_ret
        exact ⟨rfl, HBB.out.trans (HB2.out.mono HBB.out.size)⟩
      · by_cases hhi : hi < v
        · have hk := HNO.out (.inr hhi)
          subst hk
          go_wp2_with fail
          go_ret
          exact ⟨rfl, HBB.out.trans (HB2.out.mono HBB.out.size)⟩
        · have hn := HNX.out (by omega) (by omega)
          have hn : Hid (Fj18 h Z s 1) := hn
          go_wp2_with fail
          go_roundw
          case rel => exact ⟨1, by omega, rfl, hn.out, HBB.out.trans (HB2.out.mono HBB.out.size)⟩
          case measure => simp [intOf]
    · have f0 : wr.cell? ⟨g, 2, none⟩ = some (.func (.func 71) #[] #[]) := cell18 hFl.fl rfl
      have f1 : wr.cell? ⟨g, 3, none⟩ = some (.func (.func 87) #[] #[.pointer (some ⟨q2, 0, none⟩), .pointer (some ⟨q2 + 1, 0, none⟩)]) := cell18 hFl.fl rfl
      obtain ⟨wB, hwB⟩ : ∃ wB, wB = wr.alloc (.cells #[.func (.func 71) #[] #[], .func (.func 87) #[] #[.pointer (some ⟨q2, 0, none⟩), .pointer (some ⟨q2 + 1, 0, none⟩)]] 142) := ⟨_, rfl⟩
      have cB := cb16 wr #[.func (.func 71) #[] #[], .func (.func 87) #[] #[.pointer (some ⟨q2, 0, none⟩), .pointer (some ⟨q2 + 1, 0, none⟩)]] 142
      rw [← hwB] at cB
      obtain ⟨bs, hbs⟩ : ∃ bs, bs = wr.heap.size := ⟨_, rfl⟩
      have HBB : Hid (Below w.heap.size w wB) := HB.out.trans (cB.bl.mono HB.out.size)
      have HWB : Hid (wr.alloc (.cells #[.func (.func 71) #[] #[], .func (.func 87) #[] #[.pointer (some ⟨q2, 0, none⟩), .pointer (some ⟨q2 + 1, 0, none⟩)]] 142) = wB) := hwB.symm
      have HBS : Hid (wr.heap.size = bs) := hbs.symm
      have hSB := HSF.out wB HBB.out
      have HCA : Hid (∀ V, Below wB.heap.size wB V → Calls Tryz.prog 71 #[.pointer (some ⟨hb, 0, none⟩)] V fun e w' => e = .returned (.pointer (some ⟨hb, 1, none⟩)) ∧ Below V.heap.size V w') := fun V hV => (psf18_2 hb s V (HQ.out V (HBB.out.trans (hV.mono HBB.out.size)))).mono (fun e w' x => ⟨x.1, by rw [x.2]; exact Below.refl _ _⟩)
      have HCV : Hid (∀ V, Below wB.heap.size wB V → V.cell? ⟨hb, 1, none⟩ = some (.int .i64 s.r0)) := fun V hV => cell18 (HQ.out V (HBB.out.trans (hV.mono HBB.out.size))) rfl
      have HCB : Hid (∀ V, Below wB.heap.size wB V → V.cell? ⟨bs, 0, none⟩ = some (.func (.func 71) #[] #[]) ∧ V.cell? ⟨bs, 1, none⟩ = some (.func (.func 87) #[] #[.pointer (some ⟨q2, 0, none⟩), .pointer (some ⟨q2 + 1, 0, none⟩)])) := fun V hV => by
        have q0 := cB.cl
        rw [← hbs] at q0
        have q := (hV.block bs (by have := cB.sz; omega)).trans q0
        exact ⟨cell18 q rfl, cell18 q rfl⟩
      obtain ⟨lo, hlo⟩ : ∃ lo, lo = (1 : Int) := ⟨_, rfl⟩
      obtain ⟨hi, hhi⟩ : ∃ hi, hi = (6 * h.wi : Int) := ⟨_, rfl⟩
      have CB : Calls Tryz.prog 87 #[.pointer (some ⟨hb, 0, none⟩), .pointer (some ⟨q2, 0, none⟩), .pointer (some ⟨q2 + 1, 0, none⟩)] wB fun e w' => e = .returned (.tuple #[.int .i64 lo, .int .i64 hi]) ∧ Below wB.heap.size wB w' := by
        rw [hlo, hhi]
        exact pbz18 q2 (q2 + 1) (.pointer (some ⟨hb, 0, none⟩)) _ _ wB hSB.b1 hSB.b2
      have HNX : Hid (lo ≤ s.r0 → s.r0 ≤ hi → Fj18 h Z s 2) := fun a b => by
        rw [hlo] at a
        rw [hhi] at b
        obtain ⟨g0, g1, g2, g3, g4, g5, g6⟩ := HFI.out
        refine ⟨fun x => ?_, fun x => ?_, fun x => ?_, fun x => ?_, fun x => ?_, fun x => ?_, fun x => ?_⟩
        all_goals first | (exfalso; omega) | exact g0 (by omega) | exact g1 (by omega) | exact g2 (by omega) | exact g3 (by omega) | exact g4 (by omega) | exact g5 (by omega) | exact g6 (by omega) | exact ⟨a, b⟩
      have HNO : Hid (s.r0 < lo ∨ hi < s.r0 → ok = false) := fun a => by
        rw [HOK.out]
        refine decide_eq_false (fun x => ?_)
        have y : (1 : Int) ≤ s.r0 ∧ s.r0 ≤ (6 * h.wi : Int) := x.2.1
        rw [hlo, hhi] at a
        omega
      clear hwB cB hbs hFl hSB HFI hlo hhi
      generalize s.r0 = v at *
      go_wp2_with fail
      rw [HWB.out, HBS.out]
      refine CB.mono ?_
      rintro e1 w1 ⟨rfl, b1⟩
      have HB1 : Hid (Below wB.heap.size wB w1) := b1
      obtain ⟨g0, g1⟩ := HCB.out w1 b1
      clear b1 CB f0 f1
      go_wp2_with fail
      refine (HCA.out w1 HB1.out).mono ?_
      rintro e2 w2 ⟨rfl, b2⟩
      have HB2 : Hid (Below wB.heap.size wB w2) := HB1.out.trans (b2.mono HB1.out.size)
      have cv := HCV.out w2 HB2.out
      clear b2 g0 g1
      by_cases hlo : v < lo
      · have hk := HNO.out (.inl hlo)
        subst hk
        go_wp2_with fail
        go_ret
        exact ⟨rfl, HBB.out.trans (HB2.out.mono HBB.out.size)⟩
      · by_cases hhi : hi < v
        · have hk := HNO.out (.inr hhi)
          subst hk
          go_wp2_with fail
          go_ret
          exact ⟨rfl, HBB.out.trans (HB2.out.mono HBB.out.size)⟩
        · have hn := HNX.out (by omega) (by omega)
          have hn : Hid (Fj18 h Z s 2) := hn
          go_wp2_with fail
          go_roundw
          case rel => exact ⟨2, by omega, rfl, hn.out, HBB.out.trans (HB2.out.mono HBB.out.size)⟩
          case measure => simp [intOf]
    · have f0 : wr.cell? ⟨g, 4, none⟩ = some (.func (.func 73) #[] #[]) := cell18 hFl.fl rfl
      have f1 : wr.cell? ⟨g, 5, none⟩ = some (.func (.func 87) #[] #[.pointer (some ⟨q3, 0, none⟩), .pointer (some ⟨q3 + 1, 0, none⟩)]) := cell18 hFl.fl rfl
      obtain ⟨wB, hwB⟩ : ∃ wB, wB = wr.alloc (.cells #[.func (.func 73) #[] #[], .func (.func 87) #[] #[.pointer (some ⟨q3, 0, none⟩), .pointer (some ⟨q3 + 1, 0, none⟩)]] 142) := ⟨_, rfl⟩
      have cB := cb16 wr #[.func (.func 73) #[] #[], .func (.func 87) #[] #[.pointer (some ⟨q3, 0, none⟩), .pointer (some ⟨q3 + 1, 0, none⟩)]] 142
      rw [← hwB] at cB
      obtain ⟨bs, hbs⟩ : ∃ bs, bs = wr.heap.size := ⟨_, rfl⟩
      have HBB : Hid (Below w.heap.size w wB) := HB.out.trans (cB.bl.mono HB.out.size)
      have HWB : Hid (wr.alloc (.cells #[.func (.func 73) #[] #[], .func (.func 87) #[] #[.pointer (some ⟨q3, 0, none⟩), .pointer (some ⟨q3 + 1, 0, none⟩)]] 142) = wB) := hwB.symm
      have HBS : Hid (wr.heap.size = bs) := hbs.symm
      have hSB := HSF.out wB HBB.out
      have HCA : Hid (∀ V, Below wB.heap.size wB V → Calls Tryz.prog 73 #[.pointer (some ⟨hb, 0, none⟩)] V fun e w' => e = .returned (.pointer (some ⟨hb, 2, none⟩)) ∧ Below V.heap.size V w') := fun V hV => (psf18_3 hb s V (HQ.out V (HBB.out.trans (hV.mono HBB.out.size)))).mono (fun e w' x => ⟨x.1, by rw [x.2]; exact Below.refl _ _⟩)
      have HCV : Hid (∀ V, Below wB.heap.size wB V → V.cell? ⟨hb, 2, none⟩ = some (.int .i64 s.r1)) := fun V hV => cell18 (HQ.out V (HBB.out.trans (hV.mono HBB.out.size))) rfl
      have HCB : Hid (∀ V, Below wB.heap.size wB V → V.cell? ⟨bs, 0, none⟩ = some (.func (.func 73) #[] #[]) ∧ V.cell? ⟨bs, 1, none⟩ = some (.func (.func 87) #[] #[.pointer (some ⟨q3, 0, none⟩), .pointer (some ⟨q3 + 1, 0, none⟩)])) := fun V hV => by
        have q0 := cB.cl
        rw [← hbs] at q0
        have q := (hV.block bs (by have := cB.sz; omega)).trans q0
        exact ⟨cell18 q rfl, cell18 q rfl⟩
      obtain ⟨lo, hlo⟩ : ∃ lo, lo = (0 : Int) := ⟨_, rfl⟩
      obtain ⟨hi, hhi⟩ : ∃ hi, hi = (Z : Int) := ⟨_, rfl⟩
      have CB : Calls Tryz.prog 87 #[.pointer (some ⟨hb, 0, none⟩), .pointer (some ⟨q3, 0, none⟩), .pointer (some ⟨q3 + 1, 0, none⟩)] wB fun e w' => e = .returned (.tuple #[.int .i64 lo, .int .i64 hi]) ∧ Below wB.heap.size wB w' := by
        rw [hlo, hhi]
        exact pbz18 q3 (q3 + 1) (.pointer (some ⟨hb, 0, none⟩)) _ _ wB hSB.c1 hSB.c2
      have HNX : Hid (lo ≤ s.r1 → s.r1 ≤ hi → Fj18 h Z s 3) := fun a b => by
        rw [hlo] at a
        rw [hhi] at b
        obtain ⟨g0, g1, g2, g3, g4, g5, g6⟩ := HFI.out
        refine ⟨fun x => ?_, fun x => ?_, fun x => ?_, fun x => ?_, fun x => ?_, fun x => ?_, fun x => ?_⟩
        all_goals first | (exfalso; omega) | exact g0 (by omega) | exact g1 (by omega) | exact g2 (by omega) | exact g3 (by omega) | exact g4 (by omega) | exact g5 (by omega) | exact g6 (by omega) | exact ⟨a, b⟩
      have HNO : Hid (s.r1 < lo ∨ hi < s.r1 → ok = false) := fun a => by
        rw [HOK.out]
        refine decide_eq_false (fun x => ?_)
        have y : (0 : Int) ≤ s.r1 ∧ s.r1 ≤ (Z : Int) := x.2.2.1
        rw [hlo, hhi] at a
        omega
      clear hwB cB hbs hFl hSB HFI hlo hhi
      generalize s.r1 = v at *
      go_wp2_with fail
      rw [HWB.out, HBS.out]
      refine CB.mono ?_
      rintro e1 w1 ⟨rfl, b1⟩
      have HB1 : Hid (Below wB.heap.size wB w1) := b1
      obtain ⟨g0, g1⟩ := HCB.out w1 b1
      clear b1 CB f0 f1
      go_wp2_with fail
      refine (HCA.out w1 HB1.out).mono ?_
      rintro e2 w2 ⟨rfl, b2⟩
      have HB2 : Hid (Below wB.heap.size wB w2) := HB1.out.trans (b2.mono HB1.out.size)
      have cv := HCV.out w2 HB2.out
      clear b2 g0 g1
      by_cases hlo : v < lo
      · have hk := HNO.out (.inl hlo)
        subst hk
        go_wp2_with fail
        go_ret
        exact ⟨rfl, HBB.out.trans (HB2.out.mono HBB.out.size)⟩
      · by_cases hhi : hi < v
        · have hk := HNO.out (.inr hhi)
          subst hk
          go_wp2_with fail
          go_ret
          exact ⟨rfl, HBB.out.trans (HB2.out.mono HBB.out.size)⟩
        · have hn := HNX.out (by omega) (by omega)
          have hn : Hid (Fj18 h Z s 3) := hn
          go_wp2_with fail
          go_roundw
          case rel => exact ⟨3, by omega, rfl, hn.out, HBB.out.trans (HB2.out.mono HBB.out.size)⟩
          case measure => simp [intOf]
    · have f0 : wr.cell? ⟨g, 6, none⟩ = some (.func (.func 74) #[] #[]) := cell18 hFl.fl rfl
      have f1 : wr.cell? ⟨g, 7, none⟩ = some (.func (.func 75) #[] #[.pointer (some ⟨q5, 0, none⟩)]) := cell18 hFl.fl rfl
      obtain ⟨wB, hwB⟩ : ∃ wB, wB = wr.alloc (.cells #[.func (.func 74) #[] #[], .func (.func 75) #[] #[.pointer (some ⟨q5, 0, none⟩)]] 142) := ⟨_, rfl⟩
      have cB := cb16 wr #[.func (.func 74) #[] #[], .func (.func 75) #[] #[.pointer (some ⟨q5, 0, none⟩)]] 142
      rw [← hwB] at cB
      obtain ⟨bs, hbs⟩ : ∃ bs, bs = wr.heap.size := ⟨_, rfl⟩
      have HBB : Hid (Below w.heap.size w wB) := HB.out.trans (cB.bl.mono HB.out.size)
      have HWB : Hid (wr.alloc (.cells #[.func (.func 74) #[] #[], .func (.func 75) #[] #[.pointer (some ⟨q5, 0, none⟩)]] 142) = wB) := hwB.symm
      have HBS : Hid (wr.heap.size = bs) := hbs.symm
      have hSB := HSF.out wB HBB.out
      have HCA : Hid (∀ V, Below wB.heap.size wB V → Calls Tryz.prog 74 #[.pointer (some ⟨hb, 0, none⟩)] V fun e w' => e = .returned (.pointer (some ⟨hb, 3, none⟩)) ∧ Below V.heap.size V w') := fun V hV => (psf18_4 hb s V (HQ.out V (HBB.out.trans (hV.mono HBB.out.size)))).mono (fun e w' x => ⟨x.1, by rw [x.2]; exact Below.refl _ _⟩)
      have HCV : Hid (∀ V, Below wB.heap.size wB V → V.cell? ⟨hb, 3, none⟩ = some (.int .i64 s.r2)) := fun V hV => cell18 (HQ.out V (HBB.out.trans (hV.mono HBB.out.size))) rfl
      have HCB : Hid (∀ V, Below wB.heap.size wB V → V.cell? ⟨bs, 0, none⟩ = some (.func (.func 74) #[] #[]) ∧ V.cell? ⟨bs, 1, none⟩ = some (.func (.func 75) #[] #[.pointer (some ⟨q5, 0, none⟩)])) := fun V hV => by
        have q0 := cB.cl
        rw [← hbs] at q0
        have q := (hV.block bs (by have := cB.sz; omega)).trans q0
        exact ⟨cell18 q rfl, cell18 q rfl⟩
      obtain ⟨lo, hlo⟩ : ∃ lo, lo = (Z - s.r1 : Int) := ⟨_, rfl⟩
      obtain ⟨hi, hhi⟩ : ∃ hi, hi = (Z - s.r1 : Int) := ⟨_, rfl⟩
      have CB : Calls Tryz.prog 75 #[.pointer (some ⟨hb, 0, none⟩), .pointer (some ⟨q5, 0, none⟩)] wB fun e w' => e = .returned (.tuple #[.int .i64 lo, .int .i64 hi]) ∧ Below wB.heap.size wB w' := by
        rw [hlo, hhi]
        exact psf18_5 hb q5 s Z wB (HQ.out wB HBB.out) hSB.z (by have := HFI.out.2.2.1 (by omega); have := HZ.out; omega)
      have HNX : Hid (lo ≤ s.r2 → s.r2 ≤ hi → Fj18 h Z s 4) := fun a b => by
        rw [hlo] at a
        rw [hhi] at b
        obtain ⟨g0, g1, g2, g3, g4, g5, g6⟩ := HFI.out
        refine ⟨fun x => ?_, fun x => ?_, fun x => ?_, fun x => ?_, fun x => ?_, fun x => ?_, fun x => ?_⟩
        all_goals first | (exfalso; omega) | exact g0 (by omega) | exact g1 (by omega) | exact g2 (by omega) | exact g3 (by omega) | exact g4 (by omega) | exact g5 (by omega) | exact g6 (by omega) | exact ⟨a, b⟩
      have HNO : Hid (s.r2 < lo ∨ hi < s.r2 → ok = false) := fun a => by
        rw [HOK.out]
        refine decide_eq_false (fun x => ?_)
        have y : (Z - s.r1 : Int) ≤ s.r2 ∧ s.r2 ≤ (Z - s.r1 : Int) := x.2.2.2.1
        rw [hlo, hhi] at a
        omega
      clear hwB cB hbs hFl hSB HFI hlo hhi
      generalize s.r2 = v at *
      go_wp2_with fail
      rw [HWB.out, HBS.out]
      refine CB.mono ?_
      rintro e1 w1 ⟨rfl, b1⟩
      have HB1 : Hid (Below wB.heap.size wB w1) := b1
      obtain ⟨g0, g1⟩ := HCB.out w1 b1
      clear b1 CB f0 f1
      go_wp2_with fail
      refine (HCA.out w1 HB1.out).mono ?_
      rintro e2 w2 ⟨rfl, b2⟩
      have HB2 : Hid (Below wB.heap.size wB w2) := HB1.out.trans (b2.mono HB1.out.size)
      have cv := HCV.out w2 HB2.out
      clear b2 g0 g1
      by_cases hlo : v < lo
      · have hk := HNO.out (.inl hlo)
        subst hk
        go_wp2_with fail
        go_ret
        exact ⟨rfl, HBB.out.trans (HB2.out.mono HBB.out.size)⟩
      · by_cases hhi : hi < v
        · have hk := HNO.out (.inr hhi)
          subst hk
          go_wp2_with fail
          go_ret
          exact ⟨rfl, HBB.out.trans (HB2.out.mono HBB.out.size)⟩
        · have hn := HNX.out (by omega) (by omega)
          have hn : Hid (Fj18 h Z s 4) := hn
          go_wp2_with fail
          go_roundw
          case rel => exact ⟨4, by omega, rfl, hn.out, HBB.out.trans (HB2.out.mono HBB.out.size)⟩
          case measure => simp [intOf]
    · have f0 : wr.cell? ⟨g, 8, none⟩ = some (.func (.func 89) #[] #[.pointer (some ⟨k0, 0, none⟩)]) := cell18 hFl.fl rfl
      have f1 : wr.cell? ⟨g, 9, none⟩ = some (.func (.func 90) #[] #[.pointer (some ⟨k0, 0, none⟩)]) := cell18 hFl.fl rfl
      obtain ⟨wB, hwB⟩ : ∃ wB, wB = wr.alloc (.cells #[.func (.func 89) #[] #[.pointer (some ⟨k0, 0, none⟩)], .func (.func 90) #[] #[.pointer (some ⟨k0, 0, none⟩)]] 142) := ⟨_, rfl⟩
      have cB := cb16 wr #[.func (.func 89) #[] #[.pointer (some ⟨k0, 0, none⟩)], .func (.func 90) #[] #[.pointer (some ⟨k0, 0, none⟩)]] 142
      rw [← hwB] at cB
      obtain ⟨bs, hbs⟩ : ∃ bs, bs = wr.heap.size := ⟨_, rfl⟩
      have HBB : Hid (Below w.heap.size w wB) := HB.out.trans (cB.bl.mono HB.out.size)
      have HWB : Hid (wr.alloc (.cells #[.func (.func 89) #[] #[.pointer (some ⟨k0, 0, none⟩)], .func (.func 90) #[] #[.pointer (some ⟨k0, 0, none⟩)]] 142) = wB) := hwB.symm
      have HBS : Hid (wr.heap.size = bs) := hbs.symm
      have hSB := HSF.out wB HBB.out
      have HCA : Hid (∀ V, Below wB.heap.size wB V → Calls Tryz.prog 89 #[.pointer (some ⟨hb, 0, none⟩), .pointer (some ⟨k0, 0, none⟩)] V fun e w' => e = .returned (.pointer (some ⟨hb, 4, none⟩)) ∧ Below V.heap.size V w') := fun V hV => ppka18_0 hb k0 s V (HQ.out V (HBB.out.trans (hV.mono HBB.out.size))) ((HSF.out V (HBB.out.trans (hV.mono HBB.out.size))).d0)
      have HCV : Hid (∀ V, Below wB.heap.size wB V → V.cell? ⟨hb, 4, none⟩ = some (.int .i64 s.k0)) := fun V hV => cell18 (HQ.out V (HBB.out.trans (hV.mono HBB.out.size))) rfl
      have HCB : Hid (∀ V, Below wB.heap.size wB V → V.cell? ⟨bs, 0, none⟩ = some (.func (.func 89) #[] #[.pointer (some ⟨k0, 0, none⟩)]) ∧ V.cell? ⟨bs, 1, none⟩ = some (.func (.func 90) #[] #[.pointer (some ⟨k0, 0, none⟩)])) := fun V hV => by
        have q0 := cB.cl
        rw [← hbs] at q0
        have q := (hV.block bs (by have := cB.sz; omega)).trans q0
        exact ⟨cell18 q rfl, cell18 q rfl⟩
      obtain ⟨lo, hlo⟩ : ∃ lo, lo = (if s.r0 = 0 then 0 else 1 : Int) := ⟨_, rfl⟩
      obtain ⟨hi, hhi⟩ : ∃ hi, hi = (if s.r0 = 0 then 0 else 4 * s.r0 + 64 : Int) := ⟨_, rfl⟩
      have CB : Calls Tryz.prog 90 #[.pointer (some ⟨hb, 0, none⟩), .pointer (some ⟨k0, 0, none⟩)] wB fun e w' => e = .returned (.tuple #[.int .i64 lo, .int .i64 hi]) ∧ Below wB.heap.size wB w' := by
        rw [hlo, hhi]
        exact ppkm18_0 hb k0 s wB (HQ.out wB HBB.out) hSB.d0 (by have := HFI.out.2.1 (by omega); have := HFI.out.2.2.1 (by omega); have := HFI.out.2.2.2.1 (by omega); have := HZ.out; omega)
      have HNX : Hid (lo ≤ s.k0 → s.k0 ≤ hi → Fj18 h Z s 5) := fun a b => by
        rw [hlo] at a
        rw [hhi] at b
        obtain ⟨g0, g1, g2, g3, g4, g5, g6⟩ := HFI.out
        refine ⟨fun x => ?_, fun x => ?_, fun x => ?_, fun x => ?_, fun x => ?_, fun x => ?_, fun x => ?_⟩
        all_goals first | (exfalso; omega) | exact g0 (by omega) | exact g1 (by omega) | exact g2 (by omega) | exact g3 (by omega) | exact g4 (by omega) | exact g5 (by omega) | exact g6 (by omega) | exact ⟨a, b⟩
      have HNO : Hid (s.k0 < lo ∨ hi < s.k0 → ok = false) := fun a => by
        rw [HOK.out]
        refine decide_eq_false (fun x => ?_)
        have y : (if s.r0 = 0 then 0 else 1 : Int) ≤ s.k0 ∧ s.k0 ≤ (if s.r0 = 0 then 0 else 4 * s.r0 + 64 : Int) := x.2.2.2.2.1
        rw [hlo, hhi] at a
        omega
      clear hwB cB hbs hFl hSB HFI hlo hhi
      generalize s.k0 = v at *
      go_wp2_with fail
      rw [HWB.out, HBS.out]
      refine CB.mono ?_
      rintro e1 w1 ⟨rfl, b1⟩
      have HB1 : Hid (Below wB.heap.size wB w1) := b1
      obtain ⟨g0, g1⟩ := HCB.out w1 b1
      clear b1 CB f0 f1
      go_wp2_with fail
      refine (HCA.out w1 HB1.out).mono ?_
      rintro e2 w2 ⟨rfl, b2⟩
      have HB2 : Hid (Below wB.heap.size wB w2) := HB1.out.trans (b2.mono HB1.out.size)
      have cv := HCV.out w2 HB2.out
      clear b2 g0 g1
      by_cases hlo : v < lo
      · have hk := HNO.out (.inl hlo)
        subst hk
        go_wp2_with fail
        go_ret
        exact ⟨rfl, HBB.out.trans (HB2.out.mono HBB.out.size)⟩
      · by_cases hhi : hi < v
        · have hk := HNO.out (.inr hhi)
          subst hk
          go_wp2_with fail
          go_ret
          exact ⟨rfl, HBB.out.trans (HB2.out.mono HBB.out.size)⟩
        · have hn := HNX.out (by omega) (by omega)
          have hn : Hid (Fj18 h Z s 5) := hn
          go_wp2_with fail
          go_roundw
          case rel => exact ⟨5, by omega, rfl, hn.out, HBB.out.trans (HB2.out.mono HBB.out.size)⟩
          case measure => simp [intOf]
    · have f0 : wr.cell? ⟨g, 10, none⟩ = some (.func (.func 89) #[] #[.pointer (some ⟨k1, 0, none⟩)]) := cell18 hFl.fl rfl
      have f1 : wr.cell? ⟨g, 11, none⟩ = some (.func (.func 90) #[] #[.pointer (some ⟨k1, 0, none⟩)]) := cell18 hFl.fl rfl
      obtain ⟨wB, hwB⟩ : ∃ wB, wB = wr.alloc (.cells #[.func (.func 89) #[] #[.pointer (some ⟨k1, 0, none⟩)], .func (.func 90) #[] #[.pointer (some ⟨k1, 0, none⟩)]] 142) := ⟨_, rfl⟩
      have cB := cb16 wr #[.func (.func 89) #[] #[.pointer (some ⟨k1, 0, none⟩)], .func (.func 90) #[] #[.pointer (some ⟨k1, 0, none⟩)]] 142
      rw [← hwB] at cB
      obtain ⟨bs, hbs⟩ : ∃ bs, bs = wr.heap.size := ⟨_, rfl⟩
      have HBB : Hid (Below w.heap.size w wB) := HB.out.trans (cB.bl.mono HB.out.size)
      have HWB : Hid (wr.alloc (.cells #[.func (.func 89) #[] #[.pointer (some ⟨k1, 0, none⟩)], .func (.func 90) #[] #[.pointer (some ⟨k1, 0, none⟩)]] 142) = wB) := hwB.symm
      have HBS : Hid (wr.heap.size = bs) := hbs.symm
      have hSB := HSF.out wB HBB.out
      have HCA : Hid (∀ V, Below wB.heap.size wB V → Calls Tryz.prog 89 #[.pointer (some ⟨hb, 0, none⟩), .pointer (some ⟨k1, 0, none⟩)] V fun e w' => e = .returned (.pointer (some ⟨hb, 5, none⟩)) ∧ Below V.heap.size V w') := fun V hV => ppka18_1 hb k1 s V (HQ.out V (HBB.out.trans (hV.mono HBB.out.size))) ((HSF.out V (HBB.out.trans (hV.mono HBB.out.size))).d1)
      have HCV : Hid (∀ V, Below wB.heap.size wB V → V.cell? ⟨hb, 5, none⟩ = some (.int .i64 s.k1)) := fun V hV => cell18 (HQ.out V (HBB.out.trans (hV.mono HBB.out.size))) rfl
      have HCB : Hid (∀ V, Below wB.heap.size wB V → V.cell? ⟨bs, 0, none⟩ = some (.func (.func 89) #[] #[.pointer (some ⟨k1, 0, none⟩)]) ∧ V.cell? ⟨bs, 1, none⟩ = some (.func (.func 90) #[] #[.pointer (some ⟨k1, 0, none⟩)])) := fun V hV => by
        have q0 := cB.cl
        rw [← hbs] at q0
        have q := (hV.block bs (by have := cB.sz; omega)).trans q0
        exact ⟨cell18 q rfl, cell18 q rfl⟩
      obtain ⟨lo, hlo⟩ : ∃ lo, lo = (if s.r1 = 0 then 0 else 1 : Int) := ⟨_, rfl⟩
      obtain ⟨hi, hhi⟩ : ∃ hi, hi = (if s.r1 = 0 then 0 else 4 * s.r1 + 64 : Int) := ⟨_, rfl⟩
      have CB : Calls Tryz.prog 90 #[.pointer (some ⟨hb, 0, none⟩), .pointer (some ⟨k1, 0, none⟩)] wB fun e w' => e = .returned (.tuple #[.int .i64 lo, .int .i64 hi]) ∧ Below wB.heap.size wB w' := by
        rw [hlo, hhi]
        exact ppkm18_1 hb k1 s wB (HQ.out wB HBB.out) hSB.d1 (by have := HFI.out.2.1 (by omega); have := HFI.out.2.2.1 (by omega); have := HFI.out.2.2.2.1 (by omega); have := HZ.out; omega)
      have HNX : Hid (lo ≤ s.k1 → s.k1 ≤ hi → Fj18 h Z s 6) := fun a b => by
        rw [hlo] at a
        rw [hhi] at b
        obtain ⟨g0, g1, g2, g3, g4, g5, g6⟩ := HFI.out
        refine ⟨fun x => ?_, fun x => ?_, fun x => ?_, fun x => ?_, fun x => ?_, fun x => ?_, fun x => ?_⟩
        all_goals first | (exfalso; omega) | exact g0 (by omega) | exact g1 (by omega) | exact g2 (by omega) | exact g3 (by omega) | exact g4 (by omega) | exact g5 (by omega) | exact g6 (by omega) | exact ⟨a, b⟩
      have HNO : Hid (s.k1 < lo ∨ hi < s.k1 → ok = false) := fun a => by
        rw [HOK.out]
        refine decide_eq_false (fun x => ?_)
        have y : (if s.r1 = 0 then 0 else 1 : Int) ≤ s.k1 ∧ s.k1 ≤ (if s.r1 = 0 then 0 else 4 * s.r1 + 64 : Int) := x.2.2.2.2.2.1
        rw [hlo, hhi] at a
        omega
      clear hwB cB hbs hFl hSB HFI hlo hhi
      generalize s.k1 = v at *
      go_wp2_with fail
      rw [HWB.out, HBS.out]
      refine CB.mono ?_
      rintro e1 w1 ⟨rfl, b1⟩
      have HB1 : Hid (Below wB.heap.size wB w1) := b1
      obtain ⟨g0, g1⟩ := HCB.out w1 b1
      clear b1 CB f0 f1
      go_wp2_with fail
      refine (HCA.out w1 HB1.out).mono ?_
      rintro e2 w2 ⟨rfl, b2⟩
      have HB2 : Hid (Below wB.heap.size wB w2) := HB1.out.trans (b2.mono HB1.out.size)
      have cv := HCV.out w2 HB2.out
      clear b2 g0 g1
      by_cases hlo : v < lo
      · have hk := HNO.out (.inl hlo)
        subst hk
        go_wp2_with fail
        go_ret
        exact ⟨rfl, HBB.out.trans (HB2.out.mono HBB.out.size)⟩
      · by_cases hhi : hi < v
        · have hk := HNO.out (.inr hhi)
          subst hk
          go_wp2_with fail
          go_ret
          exact ⟨rfl, HBB.out.trans (HB2.out.mono HBB.out.size)⟩
        · have hn := HNX.out (by omega) (by omega)
          have hn : Hid (Fj18 h Z s 6) := hn
          go_wp2_with fail
          go_roundw
          case rel => exact ⟨6, by omega, rfl, hn.out, HBB.out.trans (HB2.out.mono HBB.out.size)⟩
          case measure => simp [intOf]
    · have f0 : wr.cell? ⟨g, 12, none⟩ = some (.func (.func 89) #[] #[.pointer (some ⟨k2, 0, none⟩)]) := cell18 hFl.fl rfl
      have f1 : wr.cell? ⟨g, 13, none⟩ = some (.func (.func 90) #[] #[.pointer (some ⟨k2, 0, none⟩)]) := cell18 hFl.fl rfl
      obtain ⟨wB, hwB⟩ : ∃ wB, wB = wr.alloc (.cells #[.func (.func 89) #[] #[.pointer (some ⟨k2, 0, none⟩)], .func (.func 90) #[] #[.pointer (some ⟨k2, 0, none⟩)]] 142) := ⟨_, rfl⟩
      have cB := cb16 wr #[.func (.func 89) #[] #[.pointer (some ⟨k2, 0, none⟩)], .func (.func 90) #[] #[.pointer (some ⟨k2, 0, none⟩)]] 142
      rw [← hwB] at cB
      obtain ⟨bs, hbs⟩ : ∃ bs, bs = wr.heap.size := ⟨_, rfl⟩
      have HBB : Hid (Below w.heap.size w wB) := HB.out.trans (cB.bl.mono HB.out.size)
      have HWB : Hid (wr.alloc (.cells #[.func (.func 89) #[] #[.pointer (some ⟨k2, 0, none⟩)], .func (.func 90) #[] #[.pointer (some ⟨k2, 0, none⟩)]] 142) = wB) := hwB.symm
      have HBS : Hid (wr.heap.size = bs) := hbs.symm
      have hSB := HSF.out wB HBB.out
      have HCA : Hid (∀ V, Below wB.heap.size wB V → Calls Tryz.prog 89 #[.pointer (some ⟨hb, 0, none⟩), .pointer (some ⟨k2, 0, none⟩)] V fun e w' => e = .returned (.pointer (some ⟨hb, 6, none⟩)) ∧ Below V.heap.size V w') := fun V hV => ppka18_2 hb k2 s V (HQ.out V (HBB.out.trans (hV.mono HBB.out.size))) ((HSF.out V (HBB.out.trans (hV.mono HBB.out.size))).d2)
      have HCV : Hid (∀ V, Below wB.heap.size wB V → V.cell? ⟨hb, 6, none⟩ = some (.int .i64 s.k2)) := fun V hV => cell18 (HQ.out V (HBB.out.trans (hV.mono HBB.out.size))) rfl
      have HCB : Hid (∀ V, Below wB.heap.size wB V → V.cell? ⟨bs, 0, none⟩ = some (.func (.func 89) #[] #[.pointer (some ⟨k2, 0, none⟩)]) ∧ V.cell? ⟨bs, 1, none⟩ = some (.func (.func 90) #[] #[.pointer (some ⟨k2, 0, none⟩)])) := fun V hV => by
        have q0 := cB.cl
        rw [← hbs] at q0
        have q := (hV.block bs (by have := cB.sz; omega)).trans q0
        exact ⟨cell18 q rfl, cell18 q rfl⟩
      obtain ⟨lo, hlo⟩ : ∃ lo, lo = (if s.r2 = 0 then 0 else 1 : Int) := ⟨_, rfl⟩
      obtain ⟨hi, hhi⟩ : ∃ hi, hi = (if s.r2 = 0 then 0 else 4 * s.r2 + 64 : Int) := ⟨_, rfl⟩
      have CB : Calls Tryz.prog 90 #[.pointer (some ⟨hb, 0, none⟩), .pointer (some ⟨k2, 0, none⟩)] wB fun e w' => e = .returned (.tuple #[.int .i64 lo, .int .i64 hi]) ∧ Below wB.heap.size wB w' := by
        rw [hlo, hhi]
        exact ppkm18_2 hb k2 s wB (HQ.out wB HBB.out) hSB.d2 (by have := HFI.out.2.1 (by omega); have := HFI.out.2.2.1 (by omega); have := HFI.out.2.2.2.1 (by omega); have := HZ.out; omega)
      have HNX : Hid (lo ≤ s.k2 → s.k2 ≤ hi → Fj18 h Z s 7) := fun a b => by
        rw [hlo] at a
        rw [hhi] at b
        obtain ⟨g0, g1, g2, g3, g4, g5, g6⟩ := HFI.out
        refine ⟨fun x => ?_, fun x => ?_, fun x => ?_, fun x => ?_, fun x => ?_, fun x => ?_, fun x => ?_⟩
        all_goals first | (exfalso; omega) | exact g0 (by omega) | exact g1 (by omega) | exact g2 (by omega) | exact g3 (by omega) | exact g4 (by omega) | exact g5 (by omega) | exact g6 (by omega) | exact ⟨a, b⟩
      have HNO : Hid (s.k2 < lo ∨ hi < s.k2 → ok = false) := fun a => by
        rw [HOK.out]
        refine decide_eq_false (fun x => ?_)
        have y : (if s.r2 = 0 then 0 else 1 : Int) ≤ s.k2 ∧ s.k2 ≤ (if s.r2 = 0 then 0 else 4 * s.r2 + 64 : Int) := x.2.2.2.2.2.2
        rw [hlo, hhi] at a
        omega
      clear hwB cB hbs hFl hSB HFI hlo hhi
      generalize s.k2 = v at *
      go_wp2_with fail
      rw [HWB.out, HBS.out]
      refine CB.mono ?_
      rintro e1 w1 ⟨rfl, b1⟩
      have HB1 : Hid (Below wB.heap.size wB w1) := b1
      obtain ⟨g0, g1⟩ := HCB.out w1 b1
      clear b1 CB f0 f1
      go_wp2_with fail
      refine (HCA.out w1 HB1.out).mono ?_
      rintro e2 w2 ⟨rfl, b2⟩
      have HB2 : Hid (Below wB.heap.size wB w2) := HB1.out.trans (b2.mono HB1.out.size)
      have cv := HCV.out w2 HB2.out
      clear b2 g0 g1
      by_cases hlo : v < lo
      · have hk := HNO.out (.inl hlo)
        subst hk
        go_wp2_with fail
        go_ret
        exact ⟨rfl, HBB.out.trans (HB2.out.mono HBB.out.size)⟩
      · by_cases hhi : hi < v
        · have hk := HNO.out (.inr hhi)
          subst hk
          go_wp2_with fail
          go_ret
          exact ⟨rfl, HBB.out.trans (HB2.out.mono HBB.out.size)⟩
        · have hn := HNX.out (by omega) (by omega)
          have hn : Hid (Fj18 h Z s 7) := hn
          go_wp2_with fail
          go_roundw
          case rel => exact ⟨7, by omega, rfl, hn.out, HBB.out.trans (HB2.out.mono HBB.out.size)⟩
          case measure => simp [intOf]
    · have hk : ok = true := by rw [HOK.out]; exact decide_eq_true HFI.out.all
      subst hk
      go_wp2_with fail
      go_ret
      exact ⟨rfl, HB.out⟩
end Go.Proofs.YtpodakndckflgaaGreatDoor
