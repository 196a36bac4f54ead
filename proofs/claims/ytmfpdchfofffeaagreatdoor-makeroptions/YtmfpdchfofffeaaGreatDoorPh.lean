import Derived.Test.YtmfpdchfofffeaaGreatDoorPg
import Derived.Laws.MakeOwn
import Derived.Test.YtmfpdchfofffeaaGreatDoorProg
import Derived.WalkKit
import Derived.Lib.BitFns
import Derived.Laws.BitsAllLaws
import Derived.Test.YtmfpdchfofffeaaGreatDoorPa
import Derived.WalkSpells
import Derived.WalkLawsBesides
namespace Go.Proofs.YtmfpdchfofffeaaGreatDoor
open Go.RowKit
set_option linter.unusedVariables false
theorem cell18 {W : World} {b k : Nat} {cs : Array Value} {t : TypeId} {v : Value} (h : W.heap[b]? = some (.cells cs t (0, 0))) (hk : cs[k]? = some v) : W.cell? ⟨b, k, none⟩ = some v := by simp [World.cell?, h, hk]
/-- The first i fields may be. -/
def Fi18 (h : Hd18) (i : Nat) : Prop := (0 < i → 0 ≤ h.o ∧ h.o ≤ 16777216) ∧ (1 < i → 0 ≤ h.n ∧ h.n ≤ 16777216) ∧ (2 < i → 64 ≤ h.wi ∧ h.wi ≤ 65536) ∧ (3 < i → 1 ≤ h.lo ∧ h.lo ≤ 32768)
theorem Fi18.all {h : Hd18} (f : Fi18 h 4) : h.Ok := ⟨f.1 (by omega), f.2.1 (by omega), f.2.2.1 (by omega), f.2.2.2 (by omega)⟩
set_option maxRecDepth 100000 in
set_option maxHeartbeats 8000000 in
theorem pfit18 (B hb : Nat) (h : Hd18) (w : World) (hF : Fl18 B w) (hq : w.heap[hb]? = some (.cells h.cs 51 (0, 0))) :
    Calls Tryz.prog 124 #[.slice (some ⟨B + 8, 0, none⟩) 4 4, .pointer (some ⟨hb, 0, none⟩)] w fun e w' => e = .returned (.bool (decide h.Ok)) ∧ Below w.heap.size w w' := by
  have HF : Hid (∀ V, Below w.heap.size w V → Fl18 B V) := fun V hV => hF.old hV
  have HQ : Hid (∀ V, Below w.heap.size w V → V.heap[hb]? = some (.cells h.cs 51 (0, 0))) := fun V hV => (hV.block _ (Array.getElem?_eq_some_iff.1 hq).1).trans hq
  obtain ⟨ok, hok⟩ : ∃ ok, ok = decide h.Ok := ⟨_, rfl⟩
  have HOK : Hid (ok = decide h.Ok) := hok
  rw [← hok]
  clear hF hq hok
  go_enter Tryz.func124, Tryz.ntmps124
  go_wp2_with fail
  go_loopw [12] (fun t12 V => ∃ i : Nat, i ≤ 4 ∧ t12 = .int .i64 (i : Int) ∧ Fi18 h i ∧ Below w.heap.size w V) (fun t12 _ => 4 - (intOf t12).toNat)
  case atStart => exact ⟨0, by omega, rfl, ⟨by omega, by omega, by omega, by omega⟩, Below.refl _ _⟩
  case round =>
    obtain ⟨i, hi4, rfl, hfi, hB⟩ := hrel
    have HFI : Hid (Fi18 h i) := hfi
    have HB : Hid (Below w.heap.size w wr) := hB
    have hFl := HF.out wr hB
    clear hfi hB
    rcases (by omega : i = 0 ∨ i = 1 ∨ i = 2 ∨ i = 3 ∨ i = 4) with rfl | rfl | rfl | rfl | rfl
    · have f0 : wr.cell? ⟨B + 8, 0, none⟩ = some (.func (.func 126) #[] #[]) := cell18 hFl.fl rfl
      have f1 : wr.cell? ⟨B + 8, 1, none⟩ = some (.func (.func 167) #[] #[.pointer (some ⟨B, 0, none⟩), .pointer (some ⟨B + 1, 0, none⟩)]) := cell18 hFl.fl rfl
      obtain ⟨wB, hwB⟩ : ∃ wB, wB = wr.alloc (.cells #[.func (.func 126) #[] #[], .func (.func 167) #[] #[.pointer (some ⟨B, 0, none⟩), .pointer (some ⟨B + 1, 0, none⟩)]] 202) := ⟨_, rfl⟩
      have cB := cb16 wr #[.func (.func 126) #[] #[], .func (.func 167) #[] #[.pointer (some ⟨B, 0, none⟩), .pointer (some ⟨B + 1, 0, none⟩)]] 202
      rw [← hwB] at cB
      obtain ⟨bs, hbs⟩ : ∃ bs, bs = wr.heap.size := ⟨_, rfl⟩
      have HBB : Hid (Below w.heap.size w wB) := HB.out.trans (cB.bl.mono HB.out.size)
      have HCB : Hid (∀ V, Below wB.heap.size wB V → V.cell? ⟨bs, 0, none⟩ = some (.func (.func 126) #[] #[]) ∧ V.cell? ⟨bs, 1, none⟩ = some (.func (.func 167) #[] #[.pointer (some ⟨B, 0, none⟩), .pointer (some ⟨B + 1, 0, none⟩)])) := fun V hV => by
        have q0 := cB.cl
        rw [← hbs] at q0
        have q := (hV.block bs (by have := cB.sz; omega)).trans q0
        exact ⟨cell18 q rfl, cell18 q rfl⟩
      have hFB := HF.out wB HBB.out
      have CB := pbt18 B (B + 1) (.pointer (some ⟨hb, 0, none⟩)) 0 16777216 wB (hFB.bx 0 (by omega)) (hFB.bx 1 (by omega))
      have HCV : Hid (∀ V, Below wB.heap.size wB V → V.cell? ⟨hb, 0, none⟩ = some (.int .i64 h.o) ∧ ∃ v, V.cell? ⟨hb, 0, none⟩ = some v) := fun V hV => by
        have q := HQ.out V (HBB.out.trans (hV.mono HBB.out.size))
        exact ⟨cell18 q rfl, _, cell18 (k := 0) q rfl⟩
      have HWB : Hid (wr.alloc (.cells #[.func (.func 126) #[] #[], .func (.func 167) #[] #[.pointer (some ⟨B, 0, none⟩), .pointer (some ⟨B + 1, 0, none⟩)]] 202) = wB) := hwB.symm
      have HBS : Hid (wr.heap.size = bs) := hbs.symm
      have HNX : Hid (0 ≤ h.o → h.o ≤ 16777216 → Fi18 h 1) := fun a b => by
        obtain ⟨g0, g1, g2, g3⟩ := HFI.out
        refine ⟨fun _ => ?_, fun _ => ?_, fun _ => ?_, fun _ => ?_⟩
        all_goals first | omega | exact g0 (by omega) | exact g1 (by omega) | exact g2 (by omega) | exact g3 (by omega) | exact ⟨by omega, by omega⟩
      have HNO : Hid (h.o < 0 ∨ 16777216 < h.o → ok = false) := fun a => by
        rw [HOK.out]
        refine decide_eq_false (fun x => ?_)
        obtain ⟨x0, x1, x2, x3⟩ := x
        omega
      clear hwB cB hbs hFl hFB HFI
      generalize h.o = v at *
      go_wp2_with fail
      rw [HWB.out, HBS.out]
      refine CB.mono ?_
      rintro e1 w1 ⟨rfl, b1⟩
      have HB1 : Hid (Below wB.heap.size wB w1) := b1
      obtain ⟨g0, g1⟩ := HCB.out w1 b1
      have CA := phf18_1 hb w1 (HCV.out w1 b1).2
      obtain ⟨cv, -⟩ := HCV.out w1 b1
      clear b1 CB f0 f1
      by_cases hlo : v < 0
      · have hk := HNO.out (.inl hlo)
        subst hk
        go_wp2_with fail
        refine CA.mono ?_
        rintro e2 w2 ⟨rfl, hw2⟩
        subst w2
        go_wp2_with fail
        go_ret
        exact ⟨rfl, HBB.out.trans (HB1.out.mono HBB.out.size)⟩
      · by_cases hhi : 16777216 < v
        · have hk := HNO.out (.inr hhi)
          subst hk
          go_wp2_with fail
          refine CA.mono ?_
          rintro e2 w2 ⟨rfl, hw2⟩
          subst w2
          go_wp2_with fail
          go_ret
          exact ⟨rfl, HBB.out.trans (HB1.out.mono HBB.out.size)⟩
        · have hn := HNX.out (by omega) (by omega)
          have hn : Hid (Fi18 h 1) := hn
          go_wp2_with fail
          refine CA.mono ?_
          rintro e2 w2 ⟨rfl, hw2⟩
          subst w2
          go_wp2_with fail
          go_roundw
          case rel => exact ⟨1, by omega, rfl, hn.out, HBB.out.trans (HB1.out.mono HBB.out.size)⟩
          case measure => simp [intOf]
    · have f0 : wr.cell? ⟨B + 8, 2, none⟩ = some (.func (.func 128) #[] #[]) := cell18 hFl.fl rfl
      have f1 : wr.cell? ⟨B + 8, 3, none⟩ = some (.func (.func 167) #[] #[.pointer (some ⟨B + 2, 0, none⟩), .pointer (some ⟨B + 3, 0, none⟩)]) := cell18 hFl.fl rfl
      obtain ⟨wB, hwB⟩ : ∃ wB, wB = wr.alloc (.cells #[.func (.func 128) #[] #[], .func (.func 167) #[] #[.pointer (some ⟨B + 2, 0, none⟩), .pointer (some ⟨B + 3, 0, none⟩)]] 202) := ⟨_, rfl⟩
      have cB := cb16 wr #[.func (.func 128) #[] #[], .func (.func 167) #[] #[.pointer (some ⟨B + 2, 0, none⟩), .pointer (some ⟨B + 3, 0, none⟩)]] 202
      rw [← hwB] at cB
      obtain ⟨bs, hbs⟩ : ∃ bs, bs = wr.heap.size := ⟨_, rfl⟩
      have HBB : Hid (Below w.heap.size w wB) := HB.out.trans (cB.bl.mono HB.out.size)
      have HCB : Hid (∀ V, Below wB.heap.size wB V → V.cell? ⟨bs, 0, none⟩ = some (.func (.func 128) #[] #[]) ∧ V.cell? ⟨bs, 1, none⟩ = some (.func (.func 167) #[] #[.pointer (some ⟨B + 2, 0, none⟩), .pointer (some ⟨B + 3, 0, none⟩)])) := fun V hV => by
        have q0 := cB.cl
        rw [← hbs] at q0
        have q := (hV.block bs (by have := cB.sz; omega)).trans q0
        exact ⟨cell18 q rfl, cell18 q rfl⟩
      have hFB := HF.out wB HBB.out
      have CB := pbt18 (B + 2) (B + 3) (.pointer (some ⟨hb, 0, none⟩)) 0 16777216 wB (hFB.bx 2 (by omega)) (hFB.bx 3 (by omega))
      have HCV : Hid (∀ V, Below wB.heap.size wB V → V.cell? ⟨hb, 1, none⟩ = some (.int .i64 h.n) ∧ ∃ v, V.cell? ⟨hb, 0, none⟩ = some v) := fun V hV => by
        have q := HQ.out V (HBB.out.trans (hV.mono HBB.out.size))
        exact ⟨cell18 q rfl, _, cell18 (k := 0) q rfl⟩
      have HWB : Hid (wr.alloc (.cells #[.func (.func 128) #[] #[], .func (.func 167) #[] #[.pointer (some ⟨B + 2, 0, none⟩), .pointer (some ⟨B + 3, 0, none⟩)]] 202) = wB) := hwB.symm
      have HBS : Hid (wr.heap.size = bs) := hbs.symm
      have HNX : Hid (0 ≤ h.n → h.n ≤ 16777216 → Fi18 h 2) := fun a b => by
        obtain ⟨g0, g1, g2, g3⟩ := HFI.out
        refine ⟨fun _ => ?_, fun _ => ?_, fun _ => ?_, fun _ => ?_⟩
        all_goals first | omega | exact g0 (by omega) | exact g1 (by omega) | exact g2 (by omega) | exact g3 (by omega) | exact ⟨by omega, by omega⟩
      have HNO : Hid (h.n < 0 ∨ 16777216 < h.n → ok = false) := fun a => by
        rw [HOK.out]
        refine decide_eq_false (fun x => ?_)
        obtain ⟨x0, x1, x2, x3⟩ := x
        omega
      clear hwB cB hbs hFl hFB HFI
      generalize h.n = v at *
      go_wp2_with fail
      rw [HWB.out, HBS.out]
      refine CB.mono ?_
      rintro e1 w1 ⟨rfl, b1⟩
      have HB1 : Hid (Below wB.heap.size wB w1) := b1
      obtain ⟨g0, g1⟩ := HCB.out w1 b1
      have CA := phf18_2 hb w1 (HCV.out w1 b1).2
      obtain ⟨cv, -⟩ := HCV.out w1 b1
      clear b1 CB f0 f1
      by_cases hlo : v < 0
      · have hk := HNO.out (.inl hlo)
        subst hk
        go_wp2_with fail
        refine CA.mono ?_
        rintro e2 w2 ⟨rfl, hw2⟩
        subst w2
        go_wp2_with fail
        go_ret
        exact ⟨rfl, HBB.out.trans (HB1.out.mono HBB.out.size)⟩
      · by_cases hhi : 16777216 < v
        · have hk := HNO.out (.inr hhi)
          subst hk
          go_wp2_with fail
          refine CA.mono ?_
          rintro e2 w2 ⟨rfl, hw2⟩
          subst w2
          go_wp2_with fail
          go_ret
          exact ⟨rfl, HBB.out.trans (HB1.out.mono HBB.out.size)⟩
        · have hn := HNX.out (by omega) (by omega)
          have hn : Hid (Fi18 h 2) := hn
          go_wp2_with fail
          refine CA.mono ?_
          rintro e2 w2 ⟨rfl, hw2⟩
          subst w2
          go_wp2_with fail
          go_roundw
          case rel => exact ⟨2, by omega, rfl, hn.out, HBB.out.trans (HB1.out.mono HBB.out.size)⟩
          case measure => simp [intOf]
    · have f0 : wr.cell? ⟨B + 8, 4, none⟩ = some (.func (.func 129) #[] #[]) := cell18 hFl.fl rfl
      have f1 : wr.cell? ⟨B + 8, 5, none⟩ = some (.func (.func 167) #[] #[.pointer (some ⟨B + 4, 0, none⟩), .pointer (some ⟨B + 5, 0, none⟩)]) := cell18 hFl.fl rfl
      obtain ⟨wB, hwB⟩ : ∃ wB, wB = wr.alloc (.cells #[.func (.func 129) #[] #[], .func (.func 167) #[] #[.pointer (some ⟨B + 4, 0, none⟩), .pointer (some ⟨B + 5, 0, none⟩)]] 202) := ⟨_, rfl⟩
      have cB := cb16 wr #[.func (.func 129) #[] #[], .func (.func 167) #[] #[.pointer (some ⟨B + 4, 0, none⟩), .pointer (some ⟨B + 5, 0, none⟩)]] 202
      rw [← hwB] at cB
      obtain ⟨bs, hbs⟩ : ∃ bs, bs = wr.heap.size := ⟨_, rfl⟩
      have HBB : Hid (Below w.heap.size w wB) := HB.out.trans (cB.bl.mono HB.out.size)
      have HCB : Hid (∀ V, Below wB.heap.size wB V → V.cell? ⟨bs, 0, none⟩ = some (.func (.func 129) #[] #[]) ∧ V.cell? ⟨bs, 1, none⟩ = some (.func (.func 167) #[] #[.pointer (some ⟨B + 4, 0, none⟩), .pointer (some ⟨B + 5, 0, none⟩)])) := fun V hV => by
        have q0 := cB.cl
        rw [← hbs] at q0
        have q := (hV.block bs (by have := cB.sz; omega)).trans q0
        exact ⟨cell18 q rfl, cell18 q rfl⟩
      have hFB := HF.out wB HBB.out
      have CB := pbt18 (B + 4) (B + 5) (.pointer (some ⟨hb, 0, none⟩)) 64 65536 wB (hFB.bx 4 (by omega)) (hFB.bx 5 (by omega))
      have HCV : Hid (∀ V, Below wB.heap.size wB V → V.cell? ⟨hb, 4, none⟩ = some (.int .i64 h.wi) ∧ ∃ v, V.cell? ⟨hb, 0, none⟩ = some v) := fun V hV => by
        have q := HQ.out V (HBB.out.trans (hV.mono HBB.out.size))
        exact ⟨cell18 q rfl, _, cell18 (k := 0) q rfl⟩
      have HWB : Hid (wr.alloc (.cells #[.func (.func 129) #[] #[], .func (.func 167) #[] #[.pointer (some ⟨B + 4, 0, none⟩), .pointer (some ⟨B + 5, 0, none⟩)]] 202) = wB) := hwB.symm
      have HBS : Hid (wr.heap.size = bs) := hbs.symm
      have HNX : Hid (64 ≤ h.wi → h.wi ≤ 65536 → Fi18 h 3) := fun a b => by
        obtain ⟨g0, g1, g2, g3⟩ := HFI.out
        refine ⟨fun _ => ?_, fun _ => ?_, fun _ => ?_, fun _ => ?_⟩
        all_goals first | omega | exact g0 (by omega) | exact g1 (by omega) | exact g2 (by omega) | exact g3 (by omega) | exact ⟨by omega, by omega⟩
      have HNO : Hid (h.wi < 64 ∨ 65536 < h.wi → ok = false) := fun a => by
        rw [HOK.out]
        refine decide_eq_false (fun x => ?_)
        obtain ⟨x0, x1, x2, x3⟩ := x
        omega
      clear hwB cB hbs hFl hFB HFI
      generalize h.wi = v at *
      go_wp2_with fail
      rw [HWB.out, HBS.out]
      refine CB.mono ?_
      rintro e1 w1 ⟨rfl, b1⟩
      have HB1 : Hid (Below wB.heap.size wB w1) := b1
      obtain ⟨g0, g1⟩ := HCB.out w1 b1
      have CA := phf18_3 hb w1 (HCV.out w1 b1).2
      obtain ⟨cv, -⟩ := HCV.out w1 b1
      clear b1 CB f0 f1
      by_cases hlo : v < 64
      · have hk := HNO.out (.inl hlo)
        subst hk
        go_wp2_with fail
        refine CA.mono ?_
        rintro e2 w2 ⟨rfl, hw2⟩
        subst w2
        go_wp2_with fail
        go_ret
        exact ⟨rfl, HBB.out.trans (HB1.out.mono HBB.out.size)⟩
      · by_cases hhi : 65536 < v
        · have hk := HNO.out (.inr hhi)
          subst hk
          go_wp2_with fail
          refine CA.mono ?_
          rintro e2 w2 ⟨rfl, hw2⟩
          subst w2
          go_wp2_with fail
          go_ret
          exact ⟨rfl, HBB.out.trans (HB1.out.mono HBB.out.size)⟩
        · have hn := HNX.out (by omega) (by omega)
          have hn : Hid (Fi18 h 3) := hn
          go_wp2_with fail
          refine CA.mono ?_
          rintro e2 w2 ⟨rfl, hw2⟩
          subst w2
          go_wp2_with fail
          go_roundw
          case rel => exact ⟨3, by omega, rfl, hn.out, HBB.out.trans (HB1.out.mono HBB.out.size)⟩
          case measure => simp [intOf]
    · have f0 : wr.cell? ⟨B + 8, 6, none⟩ = some (.func (.func 130) #[] #[]) := cell18 hFl.fl rfl
      have f1 : wr.cell? ⟨B + 8, 7, none⟩ = some (.func (.func 167) #[] #[.pointer (some ⟨B + 6, 0, none⟩), .pointer (some ⟨B + 7, 0, none⟩)]) := cell18 hFl.fl rfl
      obtain ⟨wB, hwB⟩ : ∃ wB, wB = wr.alloc (.cells #[.func (.func 130) #[] #[], .func (.func 167) #[] #[.pointer (some ⟨B + 6, 0, none⟩), .pointer (some ⟨B + 7, 0, none⟩)]] 202) := ⟨_, rfl⟩
      have cB := cb16 wr #[.func (.func 130) #[] #[], .func (.func 167) #[] #[.pointer (some ⟨B + 6, 0, none⟩), .pointer (some ⟨B + 7, 0, none⟩)]] 202
      rw [← hwB] at cB
      obtain ⟨bs, hbs⟩ : ∃ bs, bs = wr.heap.size := ⟨_, rfl⟩
      have HBB : Hid (Below w.heap.size w wB) := HB.out.trans (cB.bl.mono HB.out.size)
      have HCB : Hid (∀ V, Below wB.heap.size wB V → V.cell? ⟨bs, 0, none⟩ = some (.func (.func 130) #[] #[]) ∧ V.cell? ⟨bs, 1, none⟩ = some (.func (.func 167) #[] #[.pointer (some ⟨B + 6, 0, none⟩), .pointer (some ⟨B + 7, 0, none⟩)])) := fun V hV => by
        have q0 := cB.cl
        rw [← hbs] at q0
        have q := (hV.block bs (by have := cB.sz; omega)).trans q0
        exact ⟨cell18 q rfl, cell18 q rfl⟩
      have hFB := HF.out wB HBB.out
      have CB := pbt18 (B + 6) (B + 7) (.pointer (some ⟨hb, 0, none⟩)) 1 32768 wB (hFB.bx 6 (by omega)) (hFB.bx 7 (by omega))
      have HCV : Hid (∀ V, Below wB.heap.size wB V → V.cell? ⟨hb, 5, none⟩ = some (.int .i64 h.lo) ∧ ∃ v, V.cell? ⟨hb, 0, none⟩ = some v) := fun V hV => by
        have q := HQ.out V (HBB.out.trans (hV.mono HBB.out.size))
        exact ⟨cell18 q rfl, _, cell18 (k := 0) q rfl⟩
      have HWB : Hid (wr.alloc (.cells #[.func (.func 130) #[] #[], .func (.func 167) #[] #[.pointer (some ⟨B + 6, 0, none⟩), .pointer (some ⟨B + 7, 0, none⟩)]] 202) = wB) := hwB.symm
      have HBS : Hid (wr.heap.size = bs) := hbs.symm
      have HNX : Hid (1 ≤ h.lo → h.lo ≤ 32768 → Fi18 h 4) := fun a b => by
        obtain ⟨g0, g1, g2, g3⟩ := HFI.out
        refine ⟨fun _ => ?_, fun _ => ?_, fun _ => ?_, fun _ => ?_⟩
        all_goals first | omega | exact g0 (by omega) | exact g1 (by omega) | exact g2 (by omega) | exact g3 (by omega) | exact ⟨by omega, by omega⟩
      have HNO : Hid (h.lo < 1 ∨ 32768 < h.lo → ok = false) := fun a => by
        rw [HOK.out]
        refine decide_eq_false (fun x => ?_)
        obtain ⟨x0, x1, x2, x3⟩ := x
        omega
      clear hwB cB hbs hFl hFB HFI
      generalize h.lo = v at *
      go_wp2_with fail
      rw [HWB.out, HBS.out]
      refine CB.mono ?_
      rintro e1 w1 ⟨rfl, b1⟩
      have HB1 : Hid (Below wB.heap.size wB w1) := b1
      obtain ⟨g0, g1⟩ := HCB.out w1 b1
      have CA := phf18_4 hb w1 (HCV.out w1 b1).2
      obtain ⟨cv, -⟩ := HCV.out w1 b1
      clear b1 CB f0 f1
      by_cases hlo : v < 1
      · have hk := HNO.out (.inl hlo)
        subst hk
        go_wp2_with fail
        refine CA.mono ?_
        rintro e2 w2 ⟨rfl, hw2⟩
        subst w2
        go_wp2_with fail
        go_ret
        exact ⟨rfl, HBB.out.trans (HB1.out.mono HBB.out.size)⟩
      · by_cases hhi : 32768 < v
        · have hk := HNO.out (.inr hhi)
          subst hk
          go_wp2_with fail
          refine CA.mono ?_
          rintro e2 w2 ⟨rfl, hw2⟩
          subst w2
          go_wp2_with fail
          go_ret
          exact ⟨rfl, HBB.out.trans (HB1.out.mono HBB.out.size)⟩
        · have hn := HNX.out (by omega) (by omega)
          have hn : Hid (Fi18 h 4) := hn
          go_wp2_with fail
          refine CA.mono ?_
          rintro e2 w2 ⟨rfl, hw2⟩
          subst w2
          go_wp2_with fail
          go_roundw
          case rel => exact ⟨4, by omega, rfl, hn.out, HBB.out.trans (HB1.out.mono HBB.out.size)⟩
          case measure => simp [intOf]
    · have hk : ok = true := by rw [HOK.out]; exact decide_eq_true HFI.out.all
      subst hk
      go_wp2_with fail
      go_ret
      exact ⟨rfl, HB.out⟩
set_option maxRecDepth 100000 in
theorem pchk18 (h : Hd18) (w : World) : Calls Tryz.prog 93 #[.agg #[.int .i64 h.o, .int .i64 h.n, .int .u32 h.so, .int .u32 h.sn, .int .i64 h.wi, .int .i64 h.lo]] w fun e w' => e = .returned (.int .i64 (if h.Ok then 0 else 180)) ∧ Below w.heap.size w w' := by
  by_cases hk : h.Ok
  · rw [if_pos hk]
    obtain ⟨ok, hok⟩ : ∃ ok, decide h.Ok = ok := ⟨_, rfl⟩
    have hok2 : Hid (decide h.Ok = ok) := hok
    have cA := cb16 w h.cs 51
    obtain ⟨wA, hwA⟩ : ∃ wA, wA = w.alloc (.cells h.cs 51) := ⟨_, rfl⟩
    rw [← hwA] at cA
    obtain ⟨b4, hb4⟩ : ∃ b4, b4 = w.heap.size := ⟨_, rfl⟩
    have HWA : Hid (w.alloc (.cells #[.int .i64 h.o, .int .i64 h.n, .int .u32 h.so, .int .u32 h.sn, .int .i64 h.wi, .int .i64 h.lo] 51) = wA) := hwA.symm
    have HB4 : Hid (w.heap.size = b4) := hb4.symm
    have q : wA.heap[b4]? = some (.cells h.cs 51 (0, 0)) := by rw [hb4]; exact cA.cl
    have HA : Hid (Below w.heap.size w wA) := cA.bl
    have HPF : Hid (∀ w1, Below wA.heap.size wA w1 → Fl18 wA.heap.size w1 → Calls Tryz.prog 124 #[.slice (some ⟨wA.heap.size + 8, 0, none⟩) 4 4, .pointer (some ⟨b4, 0, none⟩)] w1 fun e w' => e = .returned (.bool ok) ∧ Below w1.heap.size w1 w') := fun w1 b1 hF => by
      have := pfit18 wA.heap.size b4 h w1 hF ((b1.block _ (Array.getElem?_eq_some_iff.1 q).1).trans q)
      rw [hok] at this
      exact this
    clear hwA hb4 cA q hok
    have hk2 : ok = true := by rw [← hok2.out]; exact decide_eq_true hk
    subst hk2
    go_enter Tryz.func93, Tryz.ntmps93
    go_wp2_with fail
    rw [HWA.out, HB4.out]
    refine (phf18 wA).mono ?_
    rintro e1 w1 ⟨rfl, hF, b1⟩
    have PF := HPF.out w1 b1 hF
    have HB1 : Hid (Below w.heap.size w w1) := HA.out.trans (b1.mono HA.out.size)
    clear b1 hF
    go_wp2_with fail
    refine PF.mono ?_
    rintro e2 w2 ⟨rfl, b2⟩
    go_wp2_with fail
    go_ret
    exact ⟨rfl, HB1.out.trans (b2.mono HB1.out.size)⟩
  · rw [if_neg hk]
    obtain ⟨ok, hok⟩ : ∃ ok, decide h.Ok = ok := ⟨_, rfl⟩
    have hok2 : Hid (decide h.Ok = ok) := hok
    have cA := cb16 w h.cs 51
    obtain ⟨wA, hwA⟩ : ∃ wA, wA = w.alloc (.cells h.cs 51) := ⟨_, rfl⟩
    rw [← hwA] at cA
    obtain ⟨b4, hb4⟩ : ∃ b4, b4 = w.heap.size := ⟨_, rfl⟩
    have HWA : Hid (w.alloc (.cells #[.int .i64 h.o, .int .i64 h.n, .int .u32 h.so, .int .u32 h.sn, .int .i64 h.wi, .int .i64 h.lo] 51) = wA) := hwA.symm
    have HB4 : Hid (w.heap.size = b4) := hb4.symm
    have q : wA.heap[b4]? = some (.cells h.cs 51 (0, 0)) := by rw [hb4]; exact cA.cl
    have HA : Hid (Below w.heap.size w wA) := cA.bl
    have HPF : Hid (∀ w1, Below wA.heap.size wA w1 → Fl18 wA.heap.size w1 → Calls Tryz.prog 124 #[.slice (some ⟨wA.heap.size + 8, 0, none⟩) 4 4, .pointer (some ⟨b4, 0, none⟩)] w1 fun e w' => e = .returned (.bool ok) ∧ Below w1.heap.size w1 w') := fun w1 b1 hF => by
      have := pfit18 wA.heap.size b4 h w1 hF ((b1.block _ (Array.getElem?_eq_some_iff.1 q).1).trans q)
      rw [hok] at this
      exact this
    clear hwA hb4 cA q hok
    have hk2 : ok = false := by rw [← hok2.out]; exact decide_eq_false hk
    subst hk2
    go_enter Tryz.func93, Tryz.ntmps93
    go_wp2_with fail
    rw [HWA.out, HB4.out]
    refine (phf18 wA).mono ?_
    rintro e1 w1 ⟨rfl, hF, b1⟩
    have PF := HPF.out w1 b1 hF
    have HB1 : Hid (Below w.heap.size w w1) := HA.out.trans (b1.mono HA.out.size)
    clear b1 hF
    go_wp2_with fail
    refine PF.mono ?_
    rintro e2 w2 ⟨rfl, b2⟩
    go_wp2_with fail
    go_ret
    exact ⟨rfl, HB1.out.trans (b2.mono HB1.out.size)⟩
end Go.Proofs.YtmfpdchfofffeaaGreatDoor

namespace Go.Proofs.YtmfpdchfofffeaaGreatDoor
open Go.RowKit Go.Shelf
set_option linter.unusedVariables false
abbrev ev16 (sa : Option Addr) (n sc : Nat) (da : Option Addr) (m dc : Nat) (xa : Option Addr) (k xc : Nat) : Value := .agg #[.slice sa n sc, .slice da m dc, .slice xa k xc]
/-- An edit lies in memory. -/
structure Ed16 (w : World) (sa : Option Addr) (n : Nat) (S : List St16) (da : Option Addr) (m : Nat) (D : List Int) (xa : Option Addr) (k : Nat) (X : List Int) : Prop where
  ss : SegS w sa S
  sd : Seg w da D
  sx : Seg w xa X
  hn : S.length = n
  hm : D.length = m
  hk : X.length = k
  ln : n ≤ 1073741824
  lm : m ≤ 1073741824
  lk : k ≤ 1073741824
theorem Ed16.old {w w' : World} {sa da xa : Option Addr} {n m k : Nat} {S : List St16} {D X : List Int} (h : Ed16 w sa n S da m D xa k X) (hb : Below w.heap.size w w') : Ed16 w' sa n S da m D xa k X :=
  ⟨h.ss.old hb, h.sd.old hb, h.sx.old hb, h.hn, h.hm, h.hk, h.ln, h.lm, h.lk⟩
def ob16 (S : List St16) (n : Nat) (old : Int) : Bool := decide (fi16 S n < 0 ∨ old < en16 S n)
set_option maxRecDepth 100000 in
set_option maxHeartbeats 2000000 in
theorem pout16 (a : Option Addr) (n cap : Nat) (S : List St16) (old : Int) (w : World) (hs : SegS w a S) (hn : Hid (S.length = n)) (hl : n ≤ 1073741824) (hok : Hid (Ok16 S n)) :
    Calls Tryz.prog 53 #[.slice a n cap, .int .i64 old] w fun e w' => e = .returned (.bool (ob16 S n old)) ∧ Below w.heap.size w w' := by
  have CS := pspan16 a n cap S w hs hn hl hok
  unfold ob16
  generalize fi16 S n = x at *
  generalize en16 S n = y at *
  by_cases h1 : x < 0
  · rw [decide_eq_true (.inl h1)]
    go_enter Tryz.func53, Tryz.ntmps53
    go_wp2_with (first | (go_at_call 86; refine CS.mono ?_; rintro e1 w1 ⟨rfl, B1⟩; clear CS))
    go_ret
    exact ⟨rfl, B1⟩
  · by_cases h2 : old < y
    · rw [decide_eq_true (.inr h2)]
      go_enter Tryz.func53, Tryz.ntmps53
      go_wp2_with (first | (go_at_call 86; refine CS.mono ?_; rintro e1 w1 ⟨rfl, B1⟩; clear CS))
      go_ret
      exact ⟨rfl, B1⟩
    · rw [decide_eq_false (by omega)]
      go_enter Tryz.func53, Tryz.ntmps53
      go_wp2_with (first | (go_at_call 86; refine CS.mono ?_; rintro e1 w1 ⟨rfl, B1⟩; clear CS))
      go_ret
      exact ⟨by show Ending.returned (Value.bool (decide (x < 0) || decide (old < y))) = _; rw [decide_eq_false (show ¬ x < 0 by omega), decide_eq_false (show ¬ old < y by omega)]; rfl, B1⟩
def szR16 (S : List St16) (m k : Nat) : Value := .tuple #[.int .i64 (sz16 S m k : Int), .int .i64 (it16 S m k)]
variable {w : World} {sa da xa : Option Addr} {n sc m dc k xc : Nat} {S : List St16} {D X : List Int}
set_option maxRecDepth 100000 in
set_option maxHeartbeats 4000000 in
theorem psize16 (h : Ed16 w sa n S da m D xa k X) :
    Calls Tryz.prog 89 #[ev16 sa n sc da m dc xa k xc] w fun e w' => e = .returned (szR16 S m k) ∧ Below w.heap.size w w' := by
  unfold ev16
  have hn : Hid (S.length = n) := h.hn
  obtain ⟨wA, hwA⟩ : ∃ wA, wA = w.alloc (.cells #[.slice sa n sc, .slice da m dc, .slice xa k xc] 48) := ⟨_, rfl⟩
  have bA : Below w.heap.size w wA := by rw [hwA]; exact below_box16 _ _
  have CS := psum16 sa n sc S wA (h.ss.old bA) hn h.ln
  have HWA : Hid (wA = w.alloc (.cells #[.slice sa n sc, .slice da m dc, .slice xa k xc] 48)) := hwA
  have hpA : wA.heap[w.heap.size]? = some (.cells #[.slice sa n sc, .slice da m dc, .slice xa k xc] 48 (0, 0)) := by rw [hwA]; exact heap_alloc_new w _
  obtain ⟨ob, hob⟩ : ∃ ob, ob = w.heap.size := ⟨_, rfl⟩
  have hlt : ob < wA.heap.size := by rw [hwA, hob]; simp
  rw [← hob] at hpA
  have HOB : Hid (ob = w.heap.size) := hob
  have HB : Hid (∀ W, Below wA.heap.size wA W → W.cell? ⟨ob, 1, none⟩ = some (.slice da m dc) ∧ W.cell? ⟨ob, 2, none⟩ = some (.slice xa k xc)) := fun W hW => by
    have := (hW.block ob hlt).trans hpA
    exact ⟨three_cell1 this, three_cell2 this⟩
  have hlm := h.lm
  have hlk := h.lk
  have hln := h.ln
  have c0 := three_cell0 hpA
  rw [hwA] at c0
  cases hall : S.all may16
  · have hR : Hid (sumR16 S n = .tuple #[.int .i64 0, .int .i64 0, .int .i64 160]) := by show _ = _; unfold sumR16; rw [hall]; rfl
    have hE : Hid (szR16 S m k = .tuple #[.int .i64 0, .int .i64 160]) := by show _ = _; unfold szR16 sz16; rw [it16_step hall]; rfl
    rw [hR.out] at CS
    rw [hE.out]
    clear hall h hwA hob
    go_enter Tryz.func89, Tryz.ntmps89
    go_wp2_with (first | (go_at_call 52; rw [← HWA.out]; refine CS.mono ?_; rintro e1 w1 ⟨rfl, B1⟩; clear CS))
    go_ret2
    exact ⟨rfl, bA.trans (B1.mono bA.size)⟩
  · have hR : Hid (sumR16 S n = .tuple #[.int .i64 (sa16 S n : Int), .int .i64 (sc16 S n : Int), .int .i64 0]) := by show _ = _; unfold sumR16; rw [hall]; rfl
    rw [hR.out] at CS
    have hbd := sa16_le n (by have := all16_ok hall; rwa [hn.out] at this)
    obtain ⟨hb1, hb2, -, -⟩ := hbd
    have hsz : ¬ (sa16 S n = m ∧ sc16 S n = k ∧ m + k ≤ 16777216) → szR16 S m k = .tuple #[.int .i64 0, .int .i64 162] := fun hno => by
      unfold szR16 sz16
      rw [it16_size hall (by rw [hn.out]; exact hno)]; rfl
    have hgo : (sa16 S n = m ∧ sc16 S n = k ∧ m + k ≤ 16777216) → szR16 S m k = .tuple #[.int .i64 ((m + k : Nat) : Int), .int .i64 0] := fun hyes => by
      unfold szR16 sz16
      rw [it16_ok hall (by rw [hn.out]; exact hyes)]; rfl
    clear hall h hwA hob hR hn
    generalize sa16 S n = A at *
    generalize sc16 S n = C at *
    by_cases h1 : A = m
    · subst h1
      by_cases h2 : C = k
      · subst h2
        by_cases h3 : A + C ≤ 16777216
        · rw [hgo ⟨rfl, rfl, h3⟩]
          have hw1 : IntKind.i64.wrap ((A : Int) + (C : Int)) = (A : Int) + (C : Int) := IntWalk.i64_in _ (by omega)
          have hle : ¬ 16777216 < (A : Int) + (C : Int) := by omega
          clear hgo hsz
          go_enter Tryz.func89, Tryz.ntmps89
          go_wp2_with (first | (go_at_call 52; rw [← HWA.out]; refine CS.mono ?_; rintro e1 w1 ⟨rfl, B1⟩; obtain ⟨x1, x2⟩ := HB.out w1 B1; rw [HOB.out] at x1 x2; clear CS))
          go_ret2
          exact ⟨by simp, bA.trans (B1.mono bA.size)⟩
        · rw [hsz (by omega)]
          have hw1 : IntKind.i64.wrap ((A : Int) + (C : Int)) = (A : Int) + (C : Int) := IntWalk.i64_in _ (by omega)
          have hle : 16777216 < (A : Int) + (C : Int) := by omega
          clear hgo hsz
          go_enter Tryz.func89, Tryz.ntmps89
          go_wp2_with (first | (go_at_call 52; rw [← HWA.out]; refine CS.mono ?_; rintro e1 w1 ⟨rfl, B1⟩; obtain ⟨x1, x2⟩ := HB.out w1 B1; rw [HOB.out] at x1 x2; clear CS))
          go_ret2
          exact ⟨rfl, bA.trans (B1.mono bA.size)⟩
      · rw [hsz (by omega)]
        have hne : ((C : Int) != (k : Int)) = true := by simp; omega
        clear hgo hsz
        go_enter Tryz.func89, Tryz.ntmps89
        go_wp2_with (first | (go_at_call 52; rw [← HWA.out]; refine CS.mono ?_; rintro e1 w1 ⟨rfl, B1⟩; obtain ⟨x1, x2⟩ := HB.out w1 B1; rw [HOB.out] at x1 x2; clear CS))
        go_ret2
        exact ⟨rfl, bA.trans (B1.mono bA.size)⟩
    · rw [hsz (by omega)]
      have hne : ((A : Int) != (m : Int)) = true := by simp; omega
      clear hgo hsz
      go_enter Tryz.func89, Tryz.ntmps89
      go_wp2_with (first | (go_at_call 52; rw [← HWA.out]; refine CS.mono ?_; rintro e1 w1 ⟨rfl, B1⟩; obtain ⟨x1, x2⟩ := HB.out w1 B1; rw [HOB.out] at x1 x2; clear CS))
      go_ret2
      exact ⟨rfl, bA.trans (B1.mono bA.size)⟩
end Go.Proofs.YtmfpdchfofffeaaGreatDoor

namespace Go.Proofs.YtmfpdchfofffeaaGreatDoor
open Go.RowKit Go.Shelf
set_option linter.unusedVariables false
attribute [local go_sem] Oper.semAt_some
theorem SegK.kr {k : IntKind} {M : Int} {w w' : World} {D : Nat → Prop} {a : Option Addr} {zs : List Int} (h : SegK k M w a zs) (hb : Kr16 D w w') (hn : ∀ b off, a = some ⟨b, off, none⟩ → 0 < zs.length → D b) : SegK k M w' a zs :=
  h.of_cells fun b off i v hi ha hcl => hb.cell hcl (hn b off ha (by omega))
theorem roundIn_any16 {P : Program} {n n' l l' : Nat} {f : FuncId} {tmps : Array Value} {assign body : Code} {w : World} {R : Ending → World → Prop} (h : RoundIn Fence.wide n P l f tmps assign body w R) : RoundIn (Fence.wide.inRound l') n' P l f tmps assign body w R :=
  ⟨trivial, fun c cs _ => h.2 c cs (room_wide _)⟩
/-- A box holds what is left of a list. -/
def Bl16 (V : World) (R : Nat → Prop) (b : Nat) (L : List Int) (t : TypeId) : Prop := ∃ pa pc, V.heap[b]? = some (.cells #[.slice pa L.length pc] t (0, 0)) ∧ Seg V pa L ∧ L.length ≤ pc ∧ ∀ x off, pa = some ⟨x, off, none⟩ → 0 < L.length → R x
theorem Bl16.kr {V V' : World} {R G : Nat → Prop} {b : Nat} {L : List Int} {t : TypeId} (h : Bl16 V R b L t) (hk : Kr16 G V V') (hb : G b) (hR : ∀ k, R k → G k) : Bl16 V' R b L t := by
  obtain ⟨pa, pc, h1, h2, h3, h4⟩ := h
  exact ⟨pa, pc, hk.heap h1 hb, h2.kr hk (fun x off e hl => hR _ (h4 x off e hl)), h3, h4⟩
/-- What is left behind a reslice. -/
def rs16 (a : Option Addr) (c d : Nat) : Option Addr := if c = d then a else a.map fun x => x.add d
theorem seg_rs16 {V : World} {a : Option Addr} {L : List Int} {c d : Nat} (h : Seg V a L) (hd : d ≤ L.length) (hc : L.length ≤ c) : Seg V (rs16 a c d) (L.drop d) ∧ ∀ x off, rs16 a c d = some ⟨x, off, none⟩ → 0 < (L.drop d).length → ∃ o, a = some ⟨x, o, none⟩ := by
  unfold rs16
  by_cases h0 : L.drop d = []
  · rw [h0]
    exact ⟨SegK.nil (by decide) _ _, fun _ _ _ hl => by simp at hl⟩
  · have hl : d < L.length := by
      rcases Nat.lt_or_ge d L.length with x | x
      · exact x
      · exact absurd (List.drop_eq_nil_of_le x) h0
    rw [if_neg (by omega)]
    obtain ⟨b, off, rfl, _⟩ := h.at_ 0 (by omega)
    have hadd : (⟨b, off, none⟩ : Addr).add d = ⟨b, off + d, none⟩ := by simp [Addr.add]
    simp only [Option.map_some, hadd]
    refine ⟨h.drop d, fun x o e _ => ?_⟩
    have e2 : some (⟨b, off + d, none⟩ : Addr) = some ⟨x, o, none⟩ := e
    injection e2 with e2
    injection e2 with e3 e4
    subst e3
    exact ⟨off, rfl⟩
/-- The state of origins' own loop. -/
structure Oi16 (W : World) (R : Nat → Prop) (J : Nat → (Nat → Prop) → World → Prop) (l : Nat) (S : List St16) (D X : List Int) (bY bD bX Bw N : Nat) (i : Nat) (E F : Nat → Prop) (V : World) : Prop where
  ef : ∀ k, E k → F k
  fY : F bY
  fD : F bD
  fX : F bX
  fw : F Bw
  lo : Lo16 W.heap.size F V
  j : J (sa16 S i + sc16 S i) F V
  hY : V.heap[bY]? = some (.cells #[.func (.yield l) #[] #[]] 508 (0, 0))
  hD : Bl16 V R bD (D.drop (sa16 S i)) 36
  hX : Bl16 V R bX (X.drop (sc16 S i)) 36
  kr : Kr16 R W V
  sz : N ≤ V.heap.size
theorem Oi16.step {W : World} {R : Nat → Prop} {J : Nat → (Nat → Prop) → World → Prop} {l : Nat} {S : List St16} {D X : List Int} {bY bD bX Bw N i : Nat} {E E' F : Nat → Prop} {V V' : World} (hJ : Abd16 W.heap.size J) (hN : W.heap.size ≤ N) (hRl : ∀ k, R k → k < W.heap.size)
    (hl : bY < N ∧ bD < N ∧ bX < N) (h : Oi16 W R J l S D X bY bD bX Bw N i E F V) (hlo : Lo16 N E V) (hk : Kp E V V') (h1 : ∀ k, E k → E' k) (h2 : ∀ k, E' k → E k ∨ V.heap.size ≤ k) (h3 : Lo16 N E' V') (G : Nat → Prop) (hG : ∀ k, G k → V.heap.size ≤ k ∧ k < V'.heap.size) : Oi16 W R J l S D X bY bD bX Bw N i E' (fun k => (F k ∨ E' k) ∨ G k) V' := by
  have hs := hk.size
  have hkr : Kr16 (fun k => R k ∨ k = bY ∨ k = bD ∨ k = bX) V V' := Kr16.of_kp hk (by
    rintro k (x | x | x | x) e
    · have := hRl k x; have := hlo k e; omega
    · have := hlo k e; omega
    · have := hlo k e; omega
    · have := hlo k e; omega)
  have hsz := h.sz
  have lo2 : Lo16 W.heap.size (fun k => (F k ∨ E' k) ∨ G k) V' := by
    rintro k ((x | x) | x)
    · have := h.lo k x; omega
    · have := h3 k x; omega
    · have := hG k x; omega
  refine ⟨fun k x => .inl (.inr x), .inl (.inl h.fY), .inl (.inl h.fD), .inl (.inl h.fX), .inl (.inl h.fw), lo2, ?_, hkr.heap h.hY (.inr (.inl rfl)), h.hD.kr hkr (.inr (.inr (.inl rfl))) (fun k x => .inl x), h.hX.kr hkr (.inr (.inr (.inr rfl))) (fun k x => .inl x), h.kr.trans (hkr.mono fun k x => .inl x), by have := h.sz; omega⟩
  refine hJ _ F _ V V' h.j h.lo (hk.mono fun k _ x => h.ef k x) (fun k x => .inl (.inl x)) ?_ lo2
  rintro k ((x | x) | x)
  · exact .inl x
  · rcases h2 k x with y | y
    · exact .inl (h.ef k y)
    · exact .inr y
  · exact .inr (hG k x).1
end Go.Proofs.YtmfpdchfofffeaaGreatDoor

namespace Go.Proofs.YtmfpdchfofffeaaGreatDoor
open Go.RowKit Go.Shelf
set_option linter.unusedVariables false
attribute [local go_sem] Oper.semAt_some
theorem wpListIn_app16 {F : Fence} {n : Nat} {P : Program} {ops : Array Oper} {rest : List Oper} {o : Oper} {a : Act} {Q : Exit → Act → World → Prop} {w : World} (hg : o.guard = none) (s x : Operand) (t : TypeId)
    (hop : o.op = Op.call { callee := Callee.builtin Builtin.append, args := #[s, x], argTypes := #[t, t] }) {u v v' : Value} {w' : World} (hs : a.eval s = u) (hx : a.eval x = v) (hr : (Builtin.append_ #[t, t] o.type #[u, v]).run P w = .ok v' w')
    (h : wpListIn F n P ops Q rest (a.put o.dst v') w') : wpListIn F n P ops Q (o :: rest) a w := by
  refine wpListIn_plain hg fun K hK' => ?_
  unfold Oper.wpIn
  refine ⟨?_, ?_⟩
  · simp [Oper.about, hop, resolve, Target.leads, Sem.run_pure]
  · rw [Oper.semAt_plain F _ _ (by rw [hop]; intro c hc'; cases hc')]
    simp [execOp, hop, resolve, invoke, builtin, hs, hx, hr, Result.andThen]
    exact hK' _ _ h
theorem operwp_app16 {P : Program} {o : Oper} {a : Act} {K : Act → World → Prop} {Q : Exit → Act → World → Prop} {w : World} (s x : Operand) (t : TypeId)
    (ho : o.op = Op.call { callee := Callee.builtin Builtin.append, args := #[s, x], argTypes := #[t, t] }) {u v v' : Value} {w' : World} (hs : a.eval s = u) (hx : a.eval x = v) (hr : (Builtin.append_ #[t, t] o.type #[u, v]).run P w = .ok v' w')
    (h : K (a.put o.dst v') w') : Oper.wp P o a w K Q := by
  unfold Oper.wp execOp
  simp only [ho, resolve, invoke, builtin, Sem.run_bind, Sem.run_pure, Result.andThen_ok, List.map_toArray, List.map_cons, List.map_nil, hs, hx, hr]
  exact h

theorem info_u16 : (Tryz.prog.info? 5).map (fun i => (i.zero, i.size, i.bytes)) = some (some (.int .u8 0), 1, 1) := by kernel_rfl
/-- One byte more behind a row of the call's own. -/
structure Gr16 (V : World) (base : Nat) (ra : Option Addr) (n rc : Nat) (xs : List Value) (y : Value) (g rc' : Nat) (w' : World) : Prop where
  own : w'.ownsRow base 5 1 (.slice (some ⟨g, 0, none⟩) (n + 1) rc') (n + 1) (xs ++ [y])
  grown : V.grownBy w' (Value.slice ra n rc).ownBlock
  fresh : Fresh V (.slice ra n rc) (.slice (some ⟨g, 0, none⟩) (n + 1) rc')
/-- The state of Apply's loop. -/
structure Ai16 (w : World) (R : Nat → Prop) (bO bz : Nat) (zv : Value) (z : List Int) (L : List Og16) (i : Nat) (E : Nat → Prop) (ra : Option Addr) (rc : Nat) (V : World) : Prop where
  hO : V.heap[bO]? = some (.cells #[.slice ra i rc] 36 (0, 0))
  hz : V.heap[bz]? = some (.cells #[zv] 36 (0, 0))
  own : V.ownsRow w.heap.size 5 1 (.slice ra i rc) i (((L.take i).map (by16 z)).map (Value.int .u8))
  nO : ∀ g, (Value.slice ra i rc).ownBlock = some g → g ≠ bO ∧ g ≠ bz ∧ ¬ E g ∧ ¬ R g
  bl : Below w.heap.size w V
theorem Ai16.kp {w : World} {R : Nat → Prop} {bO bz : Nat} {zv : Value} {z : List Int} {L : List Og16} {i : Nat} {E E' : Nat → Prop} {ra : Option Addr} {rc : Nat} {V V' : World} (h : Ai16 w R bO bz zv z L i E ra rc V) (hk : Kp E V V') (hE : ¬ E bO ∧ ¬ E bz) (hw : ∀ k, E k → w.heap.size ≤ k) (h2 : ∀ k, E' k → E k ∨ V.heap.size ≤ k) : Ai16 w R bO bz zv z L i E' ra rc V' := by
  refine ⟨hk.heap h.hO hE.1, hk.heap h.hz hE.2, own_kp h.own hk (fun x e => (h.nO x e).2.2.1), fun g e => ⟨(h.nO g e).1, (h.nO g e).2.1, fun x => ?_, (h.nO g e).2.2.2⟩, h.bl.trans (hk.below hw h.bl.size)⟩
  rcases h2 g x with y | y
  · exact (h.nO g e).2.2.1 y
  · have := (h.own.lt g e).2
    omega
theorem two_boxes16 (w : World) (u : Array Value) (t : TypeId) (v : Array Value) (t' : TypeId) : let w1 := (w.alloc (.cells u t)).alloc (.cells v t')
    Below w.heap.size w w1 ∧ w1.heap.size = w.heap.size + 2 ∧ w1.heap[w.heap.size]? = some (.cells u t (0, 0)) ∧ w1.heap[w.heap.size + 1]? = some (.cells v t' (0, 0)) := by
  refine ⟨(below_box16 _ _).trans ((below_box16 _ _).mono (by simp)), by simp, ?_, ?_⟩
  · exact (Below.heap_alloc (w.alloc (.cells u t)) _ w.heap.size (by simp)).trans (heap_alloc_new w _)
  · have := heap_alloc_new (w.alloc (.cells u t)) (.cells v t' (0, 0))
    rw [show (w.alloc (.cells u t)).heap.size = w.heap.size + 1 by simp] at this
    exact this
/-- One byte more in Apply's loop. -/
theorem Ai16.more {w : World} {R : Nat → Prop} {bO bz : Nat} {zv : Value} {z : List Int} {L : List Og16} {i : Nat} {E : Nat → Prop} {ra : Option Addr} {rc : Nat} {V : World} (h : Ai16 w R bO bz zv z L i E ra rc V) (o : Og16) (y : Int) (ho : by16 z o = y) (hT : L.take (i + 1) = L.take i ++ [o])
    (hne : bO ≠ bz) (hlt : ∀ k, (E k ∨ R k ∨ k = bO ∨ k = bz) → k < V.heap.size) (hbO : ¬ E bO ∧ ¬ R bO) (hw : w.heap.size ≤ bO) {g rc' : Nat} {w' : World} (hg : Gr16 V w.heap.size ra i rc (((L.take i).map (by16 z)).map (Value.int .u8)) (.int .u8 y) g rc' w') :
    w'.heap[bO]? = some (.cells #[.slice ra i rc] 36 (0, 0)) ∧ Ai16 w R bO bz zv z L (i + 1) E (some ⟨g, 0, none⟩) rc' (w'.setCell ⟨bO, 0, none⟩ (.slice (some ⟨g, 0, none⟩) (i + 1) rc')) ∧ Kr16 (fun k => E k ∨ R k) V (w'.setCell ⟨bO, 0, none⟩ (.slice (some ⟨g, 0, none⟩) (i + 1) rc')) := by
  have kg : Kp (fun k => (Value.slice ra i rc).ownBlock = some k) V w' := Kp.grown hg.grown (fun i e => e)
  have hgn : g ≠ bO ∧ g ≠ bz ∧ ¬ E g ∧ ¬ R g := by
    rcases hg.fresh g rfl with e | e
    · exact h.nO g e
    · refine ⟨?_, ?_, ?_, ?_⟩
      · intro x; have := hlt bO (.inr (.inr (.inl rfl))); omega
      · intro x; have := hlt bz (.inr (.inr (.inr rfl))); omega
      · intro x; have := hlt g (.inl x); omega
      · intro x; have := hlt g (.inr (.inl x)); omega
  have hO' : w'.heap[bO]? = some (.cells #[.slice ra i rc] 36 (0, 0)) := kg.heap h.hO (fun e => (h.nO bO e).1 rfl)
  have ks : Kp (fun k => k = bO) w' (w'.setCell ⟨bO, 0, none⟩ (.slice (some ⟨g, 0, none⟩) (i + 1) rc')) := Kp.set (S := fun k => k = bO) rfl _
  refine ⟨hO', ⟨one_set16 hO' _, ks.heap (kg.heap h.hz (fun e => (h.nO bz e).2.1 rfl)) (fun e => hne e.symm), ?_, ?_, ?_⟩, ?_⟩
  · rw [hT, List.map_append, List.map_append]
    simp only [List.map_cons, List.map_nil, ho]
    exact own_kp hg.own ks (fun x e => by
      have : some g = some x := e
      injection this with this
      show ¬ x = bO
      omega)
  · intro x e
    have : some g = some x := e
    injection this with this
    subst this
    exact hgn
  · have b1 : Below w.heap.size V w' := kg.below (fun k e => (h.own.lt k e).1) h.bl.size
    exact (h.bl.trans b1).trans (ks.below (fun k e => by have e : k = bO := e; omega) (h.bl.trans b1).size)
  · refine ⟨Nat.le_trans kg.size ks.size, fun k hk x => ?_⟩
    refine (ks.block k (Nat.lt_of_lt_of_le hk kg.size) ?_).trans (kg.block k hk ?_)
    · intro e
      have e : k = bO := e
      subst e
      rcases x with x | x
      · exact hbO.1 x
      · exact hbO.2 x
    · intro e
      rcases x with x | x
      · exact (h.nO k e).2.2.1 x
      · exact (h.nO k e).2.2.2 x
variable {w : World} {sa da xa za : Option Addr} {n sc m dc k xc zl zc : Nat} {S : List St16} {D X z : List Int}
end Go.Proofs.YtmfpdchfofffeaaGreatDoor

namespace Go.Proofs.YtmfpdchfofffeaaGreatDoor
open Go.RowKit
set_option linter.unusedVariables false
theorem tab_size : (Lib.len8tab.size : Int) = 256 := by rw [Lib.len8tab_size]; rfl
/-- One way's end: the table's number behind so many bits. -/
theorem len_end (k a : Nat) (y : Int) (h : y.toNat < Lib.len8tab.size) (h0 : 0 ≤ y) (h1 : y ≤ 255) (hk : k ≤ 56) (ha : a = k + Lib.bitLen y.toNat) : wrap64 ((k : Int) + wrap64 ((Lib.len8tab[y.toNat]'h).toNat : Int)) = (a : Int) := by
  have e : ((Lib.len8tab[y.toNat]'h).toNat : Int) = Lib.len8 y := by
    unfold Lib.len8
    rw [getElem?_pos Lib.len8tab y.toNat h]
    rfl
  have l := Lib.bitLen_le8' y h0 h1
  rw [e, Lib.len8_of y h0 h1, ha]
  unfold wrap64
  omega
theorem len_end0 (a : Nat) (y : Int) (h : y.toNat < Lib.len8tab.size) (h0 : 0 ≤ y) (h1 : y ≤ 255) (ha : a = Lib.bitLen y.toNat) : wrap64 (wrap64 ((Lib.len8tab[y.toNat]'h).toNat : Int)) = (a : Int) := by
  have := len_end 0 a y h h0 h1 (by omega) (by omega)
  simpa using this

theorem shift_to (x : Int) (d k : Nat) (h0 : 0 ≤ x) (h : Lib.bitLen x.toNat = k + Lib.bitLen (x.toNat / d)) (y : Int) (hy : y.toNat = x.toNat / d) : Lib.bitLen x.toNat = k + Lib.bitLen y.toNat := by rw [hy]; exact h

set_option maxHeartbeats 1000000 in
set_option maxRecDepth 100000 in
theorem len64_any (x : Int) (w : World) (h0 : 0 ≤ x) (h1 : x ≤ 18446744073709551615) :
    Calls Tryz.prog 200 #[.int .u64 x] w fun e w' => e = .returned (.int .i64 (Lib.bitLen x.toNat)) ∧ w' = w := by
  have hsz := tab_size
  go_enter Tryz.func200, Tryz.ntmps200
  go_wp2
  all_goals (go_ret; refine ⟨congrArg Ending.returned (congrArg (Value.int IntKind.i64) ?_), rfl⟩)
  · exact len_end 56 _ _ _ (by omega) (by omega) (by omega) (shift_to x 72057594037927936 56 h0 (Lib.bitLen_shift56 _ (by omega) (by omega)) _ (by omega))
  · exact len_end 48 _ _ _ (by omega) (by omega) (by omega) (shift_to x 281474976710656 48 h0 (Lib.bitLen_shift48 _ (by omega) (by omega)) _ (by omega))
  · exact len_end 40 _ _ _ (by omega) (by omega) (by omega) (shift_to x 1099511627776 40 h0 (Lib.bitLen_shift40 _ (by omega) (by omega)) _ (by omega))
  · exact len_end 32 _ _ _ (by omega) (by omega) (by omega) (shift_to x 4294967296 32 h0 (Lib.bitLen_shift32 _ (by omega) (by omega)) _ (by omega))
  · exact len_end 24 _ _ _ (by omega) (by omega) (by omega) (shift_to x 16777216 24 h0 (Lib.bitLen_shift24 _ (by omega) (by omega)) _ (by omega))
  · exact len_end 16 _ _ _ (by omega) (by omega) (by omega) (shift_to x 65536 16 h0 (Lib.bitLen_shift16 _ (by omega) (by omega)) _ (by omega))
  · exact len_end 8 _ _ _ (by omega) (by omega) (by omega) (shift_to x 256 8 h0 (Lib.bitLen_shift8 _ (by omega) (by omega)) _ (by omega))
  · exact len_end0 _ _ _ (by omega) (by omega) rfl
end Go.Proofs.YtmfpdchfofffeaaGreatDoor

namespace Go.Proofs.YtmfpdchfofffeaaGreatDoor
open Go.RowKit
set_option linter.unusedVariables false
theorem pow128 (c : Nat) : (128 : Int) ^ c = 2 ^ (7 * c) := by
  rw [Int.pow_mul]; rfl
theorem pow128_pos (c : Nat) : (0 : Int) < 128 ^ c := Int.pow_pos (by decide)
theorem pow128_mono {a b : Nat} (h : a ≤ b) : (128 : Int) ^ a ≤ 128 ^ b := by
  have := Nat.pow_le_pow_right (n := 128) (by decide) h
  have e : ∀ k : Nat, (128 : Int) ^ k = ((128 ^ k : Nat) : Int) := fun k => by simp
  rw [e, e]; omega
theorem pow128_8 : (128 : Int) ^ 8 = 72057594037927936 := by decide
theorem pow128_9 : (128 : Int) ^ 9 = 9223372036854775808 := by decide

theorem and127 (x : Int) (h0 : 0 ≤ x) (h1 : x ≤ 255) : bits .and .u8 x 127 = x % 128 := by
  rw [u8_and x 127 h0 (by omega) (by decide) (by decide)]
  have : Int.toNat 127 = 127 := rfl
  rw [this, nat_mask7]
  omega
theorem and128 (x : Int) (h0 : 0 ≤ x) (h1 : x ≤ 255) : bits .and .u8 x 128 = if 128 ≤ x then 128 else 0 := by
  rw [u8_and x 128 h0 (by omega) (by decide) (by decide)]
  have : Int.toNat 128 = 2 ^ 7 := rfl
  rw [this, nat_bit]
  split <;> omega

/-- The number that a byte's seven bits make a greater one. -/
def tkVal (v : Int) (c : Nat) (x : Int) : Int := v + x % 128 * 128 ^ c

theorem tk_fits (c : Nat) (x : Int) (hc : c ≤ 9) (h0 : 0 ≤ x) (h9 : c = 9 → x ≤ 1) : 0 ≤ x % 128 * 128 ^ c ∧ x % 128 * 128 ^ c + 128 ^ c ≤ 18446744073709551616 := by
  have hp := pow128_pos c
  have hm : 0 ≤ x % 128 := by omega
  refine ⟨Int.mul_nonneg hm (Int.le_of_lt hp), ?_⟩
  by_cases e : c = 9
  · subst e
    have := h9 rfl
    rw [pow128_9]
    omega
  · have h8 : (128 : Int) ^ c ≤ 128 ^ 8 := pow128_mono (by omega)
    rw [pow128_8] at h8
    have h2 : x % 128 * 128 ^ c ≤ 127 * 128 ^ c := Int.mul_le_mul_of_nonneg_right (by omega) (Int.le_of_lt hp)
    omega

theorem tk_or (v : Int) (c : Nat) (x : Int) (hv : 0 ≤ v) (hv1 : v < 128 ^ c) (hc : c ≤ 9) (h0 : 0 ≤ x) (h1 : x ≤ 255) (h9 : c = 9 → x ≤ 1) :
    bits .or .u64 v (IntKind.u64.wrap (IntKind.u64.wrap (bits .and .u8 x 127) * 2 ^ (7 * c))) = tkVal v c x := by
  have hf := tk_fits c x hc h0 h9
  have hp := pow128_pos c
  have e1 : IntKind.u64.wrap (bits .and .u8 x 127) = x % 128 := by
    rw [and127 x h0 h1, IntKind.wrap_u64]; exact Int.emod_eq_of_lt (by omega) (by omega)
  have e2 : IntKind.u64.wrap (x % 128 * 128 ^ c) = x % 128 * 128 ^ c := by
    rw [IntKind.wrap_u64]; exact Int.emod_eq_of_lt hf.1 (by omega)
  rw [e1, ← pow128, e2]
  unfold tkVal
  generalize hy : x % 128 * 128 ^ c = y at *
  have hd : y % 128 ^ c = 0 := by rw [← hy]; exact Int.mul_emod_left _ _
  have hc2 : ((128 : Int) ^ c) = ((2 ^ (7 * c) : Nat) : Int) := by rw [pow128]; simp
  rw [hc2] at hd hv1 hf
  obtain ⟨V, rfl⟩ := Int.eq_ofNat_of_zero_le hv
  obtain ⟨Y, rfl⟩ := Int.eq_ofNat_of_zero_le hf.1
  rw [u64_or_nat V Y (by omega) (by omega), Nat.or_comm, nat_join (7 * c) Y V (by omega) (by omega)]
  omega
end Go.Proofs.YtmfpdchfofffeaaGreatDoor

namespace Go.Proofs.YtmfpdchfofffeaaGreatDoor
open Go.RowKit
set_option linter.unusedVariables false
/-- A number's shortest form, in at most so many bytes more. -/
def encL : Nat → Int → List Int
  | 0, v => [v]
  | f + 1, v => if 127 < v then (v % 128 + 128) :: encL f (v / 128) else [v]
def encI (v : Int) : List Int := encL 9 v
def encA : List Int → List Int
  | [] => []
  | v :: r => encI v ++ encA r

theorem encA_append (a b : List Int) : encA (a ++ b) = encA a ++ encA b := by
  induction a with
  | nil => rfl
  | cons v r ih => simp [encA, ih]
theorem encA_one (v : Int) : encA [v] = encI v := by simp [encA]
theorem encA_take (zs : List Int) (k : Nat) (h : k < zs.length) : encA (zs.take (k + 1)) = encA (zs.take k) ++ encI (zs.getD k 0) := by
  rw [List.take_succ_eq_append_getElem h, encA_append, encA_one]
  simp [List.getD, h]
theorem encL_len_le : ∀ (f : Nat) (v : Int), 1 ≤ (encL f v).length ∧ (encL f v).length ≤ f + 1
  | 0, v => by simp [encL]
  | f + 1, v => by
    unfold encL
    split
    · have := encL_len_le f (v / 128); simp; omega
    · simp
theorem encI_len (v : Int) : 1 ≤ (encI v).length ∧ (encI v).length ≤ 10 := encL_len_le 9 v
theorem encA_len : ∀ (zs : List Int), zs.length ≤ (encA zs).length ∧ (encA zs).length ≤ 10 * zs.length
  | [] => by simp [encA]
  | v :: r => by
    have := encA_len r
    have := encI_len v
    simp [encA]; omega
theorem encA_take_len (zs : List Int) (k : Nat) : (encA (zs.take k)).length ≤ 10 * k := by
  have := (encA_len (zs.take k)).2
  simp at this
  omega

theorem encL_bd : ∀ (f : Nat) (v : Int), 0 ≤ v → v < 2 * 128 ^ f → ∀ z ∈ encL f v, 0 ≤ z ∧ z ≤ 255
  | 0, v, h0, h1 => by simp [encL]; simp at h1; omega
  | f + 1, v, h0, h1 => by
    have hp := pow128_pos f
    have h2 : v / 128 < 2 * 128 ^ f := by rw [Int.pow_succ] at h1; omega
    have ih := encL_bd f (v / 128) (by omega) h2
    unfold encL
    split
    · intro z hz
      simp at hz
      rcases hz with rfl | hz
      · omega
      · exact ih z hz
    · intro z hz
      simp at hz
      omega
theorem pow9 : (2 : Int) * 128 ^ 9 = 18446744073709551616 := by decide
theorem encI_bd (v : Int) (h0 : 0 ≤ v) (h1 : v ≤ 18446744073709551615) : ∀ z ∈ encI v, 0 ≤ z ∧ z ≤ 255 := encL_bd 9 v h0 (by rw [pow9]; omega)
theorem encA_bd : ∀ (zs : List Int), (∀ v ∈ zs, 0 ≤ v ∧ v ≤ 18446744073709551615) → ∀ z ∈ encA zs, 0 ≤ z ∧ z ≤ 255
  | [], _ => by simp [encA]
  | v :: r, h => by
    intro z hz
    simp [encA] at hz
    rcases hz with hz | hz
    · exact encI_bd v (h v (by simp)).1 (h v (by simp)).2 z hz
    · exact encA_bd r (fun u hu => h u (by simp [hu])) z hz

theorem encL_len : ∀ (n f : Nat) (v : Int), n ≤ f → v < 128 ^ (n + 1) → (n = 0 ∨ 128 ^ n ≤ v) → (encL f v).length = n + 1
  | 0, f, v, hf, h1, _ => by
    cases f with
    | zero => rfl
    | succ f => unfold encL; rw [if_neg (by simp at h1; omega)]; rfl
  | n + 1, 0, v, hf, _, _ => by omega
  | n + 1, f + 1, v, hf, h1, h2 => by
    have h2 : (128 : Int) ^ (n + 1) ≤ v := by rcases h2 with h | h; · omega
                                              · exact h
    have hp := pow128_pos n
    have h3 : (128 : Int) ^ (n + 1) = 128 ^ n * 128 := Int.pow_succ _ _
    have h4 : (128 : Int) ^ (n + 1 + 1) = 128 ^ (n + 1) * 128 := Int.pow_succ _ _
    have hr := encL_len n f (v / 128) (by omega) (by omega) (Or.inr (by omega))
    unfold encL
    rw [if_pos (by omega)]
    simp [hr]

theorem bitLenAux_bd : ∀ (f x : Nat), x < 2 ^ f → x < 2 ^ Lib.bitLenAux f x ∧ (0 < x → 2 ^ Lib.bitLenAux f x ≤ 2 * x)
  | 0, x, h => by simp at h; subst h; simp [Lib.bitLenAux]
  | f + 1, x, h => by
    unfold Lib.bitLenAux
    split
    · rename_i e; subst e; simp
    · rename_i e
      have ih := bitLenAux_bd f (x / 2) (by rw [Nat.pow_succ] at h; omega)
      rw [Nat.add_comm, Nat.pow_succ]
      refine ⟨by omega, fun _ => ?_⟩
      by_cases hx : 0 < x / 2
      · have := ih.2 hx; omega
      · have h1 : x / 2 = 0 := by omega
        rw [h1]
        have : Lib.bitLenAux f 0 = 0 := by cases f <;> simp [Lib.bitLenAux]
        rw [this]; omega

theorem or1 (v : Int) (h0 : 0 ≤ v) (h1 : v ≤ 18446744073709551615) : bits .or .u64 v 1 = v + 1 - v % 2 := by
  rw [u64_or v 1 h0 (by omega) (by decide) (by decide)]
  have e : Int.toNat 1 = 1 := rfl
  rw [e]
  have h2 : v.toNat = 2 * (v.toNat / 2) + v.toNat % 2 := by omega
  have h3 : v.toNat ||| 1 = 2 * (v.toNat / 2) + 1 := by
    apply Nat.eq_of_testBit_eq
    intro i
    cases i with
    | zero => simp
    | succ i =>
      rw [Nat.testBit_or, Nat.testBit_succ, Nat.testBit_succ, Nat.testBit_succ]
      have : (2 * (v.toNat / 2) + 1) / 2 = v.toNat / 2 := by omega
      rw [this]
      simp
  rw [h3]
  omega

/-- The bytes of a number, by its bits. -/
theorem size_len (v : Int) (h0 : 0 ≤ v) (h1 : v ≤ 18446744073709551615) : ((Lib.bitLen (bits .or .u64 v 1).toNat : Int) + 7 - 1) / 7 = ((encI v).length : Int) := by
  rw [or1 v h0 h1]
  have hx : (v + 1 - v % 2).toNat < 2 ^ 64 := by omega
  have hb := bitLenAux_bd 64 (v + 1 - v % 2).toNat hx
  have hle := Lib.bitLen_le _ 64 (by decide) hx
  have hge : 1 ≤ Lib.bitLen (v + 1 - v % 2).toNat := by
    by_cases e : Lib.bitLen (v + 1 - v % 2).toNat = 0
    · have := hb.1
      unfold Lib.bitLen at e
      rw [e] at this
      simp at this; omega
    · omega
  change _ < 2 ^ Lib.bitLen _ ∧ (_ → 2 ^ Lib.bitLen _ ≤ _) at hb
  generalize Lib.bitLen (v + 1 - v % 2).toNat = L at *
  obtain ⟨n, hn⟩ : ∃ n, n = (L - 1) / 7 := ⟨_, rfl⟩
  have hlo : 2 ^ (7 * n) ≤ 2 ^ (L - 1) := Nat.pow_le_pow_right (by decide) (by omega)
  have hhi : 2 ^ L ≤ 2 ^ (7 * (n + 1)) := Nat.pow_le_pow_right (by decide) (by omega)
  have hL : 2 ^ L = 2 ^ (L - 1) * 2 := by rw [← Nat.pow_succ]; congr 1; omega
  have e1 : (128 : Int) ^ (n + 1) = ((2 ^ (7 * (n + 1)) : Nat) : Int) := by rw [pow128]; simp
  have e2 : (128 : Int) ^ n = ((2 ^ (7 * n) : Nat) : Int) := by rw [pow128]; simp
  have hb2 := hb.2 (by omega)
  have key : (encI v).length = n + 1 := by
    refine encL_len n 9 v (by omega) (by rw [e1]; omega) ?_
    by_cases e : n = 0
    · exact Or.inl e
    · refine Or.inr ?_
      have hev : 2 ^ (7 * n) % 2 = 0 := by
        have : 7 * n = (7 * n - 1) + 1 := by omega
        rw [this, Nat.pow_succ]; omega
      rw [e2]; omega
  rw [key]
  omega

theorem enc_byte (u : Int) (h0 : 0 ≤ u) (h1 : u ≤ 18446744073709551615) : bits .and .u64 u 127 = u % 128 := by
  rw [u64_and u 127 h0 (by omega) (by decide) (by decide)]
  have : Int.toNat 127 = 127 := rfl
  rw [this, nat_mask7]
  omega
theorem or128 (x : Int) (h0 : 0 ≤ x) (h1 : x ≤ 127) : bits .or .u8 x 128 = x + 128 := by
  rw [u8_or x 128 h0 (by omega) (by decide) (by decide)]
  have : Int.toNat 128 = 128 := rfl
  rw [this, Nat.or_comm, nat_join 7 128 x.toNat (by decide) (by omega)]
  omega
end Go.Proofs.YtmfpdchfofffeaaGreatDoor

namespace Go.Proofs.YtmfpdchfofffeaaGreatDoor
open Go.RowKit
set_option linter.unusedVariables false
set_option maxRecDepth 100000 in
set_option maxHeartbeats 400000 in
theorem size_any (a : Option Addr) (zs : List Int) (cap : Nat) (w : World) (hs : Seg64 w a zs) (hl : zs.length ≤ 17592186044416) :
    Calls Tryz.prog 166 #[.slice a zs.length cap] w fun e w' => e = .returned (.int .i64 (encA zs).length) ∧ w' = w := by
  go_enter Tryz.func166, Tryz.ntmps166
  go_wp2
  go_loop [3, 8] (fun n i => ∃ k : Nat, k ≤ zs.length ∧ i = .int .i64 k ∧ n = .int .i64 (encA (zs.take k)).length) (fun _ i => zs.length - (intOf i).toNat)
  case atStart => exact ⟨0, Nat.zero_le _, rfl, rfl⟩
  case round =>
    obtain ⟨k, hk, rfl, rfl⟩ := hrel
    have hle := encA_take_len zs k
    by_cases hlt : k < zs.length
    · obtain ⟨b, off, rfl, hcell⟩ := hs.at_ k hlt
      have hx := hs.bd k
      have HT : Hid (encA (zs.take (k + 1)) = encA (zs.take k) ++ encI (zs.getD k 0)) := encA_take zs k hlt
      have HS : Hid (((Lib.bitLen (bits .or .u64 (zs.getD k 0) 1).toNat : Int) + 7 - 1) / 7 = ((encI (zs.getD k 0)).length : Int)) := size_len _ hx.1 hx.2
      have ho : 0 ≤ bits .or .u64 (zs.getD k 0) 1 ∧ bits .or .u64 (zs.getD k 0) 1 ≤ 18446744073709551615 := by rw [or1 _ hx.1 hx.2]; omega
      have hlen := encI_len (zs.getD k 0)
      have hbl : Lib.bitLen (bits .or .u64 (zs.getD k 0) 1).toNat ≤ 64 := Lib.bitLen_le _ 64 (by decide) (by omega)
      generalize zs.getD k 0 = x at *
      go_wp2_with (go_at_call 200; refine (len64_any _ _ (by omega) (by omega)).mono ?_; rintro e w' ⟨rfl, rfl⟩)
      go_round
      case rel => exact ⟨k + 1, by omega, by go_num, by rw [HT.out, List.length_append, HS.out]; go_num⟩
      case measure => simp [intOf]; omega
    · obtain rfl : k = zs.length := by omega
      clear hle hlt
      go_wp2
      go_ret
      exact ⟨rfl, rfl⟩

theorem info_u8 : (Tryz.prog.info? 5).map (fun i => (i.zero, i.size, i.bytes)) = some (some (.int .u8 0), 1, 1) := by kernel_rfl

set_option maxRecDepth 100000 in
set_option maxHeartbeats 1000000 in
theorem encode_any (a : Option Addr) (zs : List Int) (cap : Nat) (w : World) (hs : Seg64 w a zs) (hl : zs.length ≤ 8796093022208) :
    Calls Tryz.prog 125 #[.slice a zs.length cap] w fun e w' => ∃ v, e = .returned v ∧ w'.ownsRow w.heap.size 5 1 v (encA zs).length ((encA zs).map (Value.int .u8)) ∧ Below w.heap.size w w' := by
  obtain ⟨i0, hi, hz0, hz1, hz2⟩ := info_parts info_u8
  have hsz := encA_len zs
  go_enter Tryz.func125, Tryz.ntmps125
  go_wp2_with (first
    | (go_at_call 166; refine (size_any a zs cap _ hs (by omega)).mono ?_; rintro e w' ⟨rfl, hw'⟩; subst w')
    | (at_make; refine wpList_make_own _ rfl _ _ 36 rfl w.heap.size 5 i0 (.int .u8 0) 1 Tryz.underlying36 hi hz0 hz1 .i64 .i64 _ (encA zs).length rfl rfl rfl (by rw [hz2]; omega) (by unfold maxLen; omega) (Nat.le_refl _) ?_; intro w1 hown1 hgrow1))
  have hsz1 := hgrow1.size
  go_loopw [3, 11] (fun o i wr => ∃ k : Nat, k ≤ zs.length ∧ i = .int .i64 k ∧ wr.ownsRow w.heap.size 5 1 o (encA (zs.take k)).length ((encA (zs.take k)).map (Value.int .u8)) ∧ Below w.heap.size w wr) (fun _ i _ => zs.length - (intOf i).toNat)
  case atStart => exact ⟨0, Nat.zero_le _, rfl, hown1, (Below.refl _ _).grown hgrow1 (Nat.le_refl _) (by intro k e; cases e)⟩
  case round =>
    obtain ⟨k, hk, rfl, hown, hb⟩ := hrel
    have hle := encA_take_len zs k
    by_cases hlt : k < zs.length
    · have hsr := hs.old hb
      obtain ⟨b, off, rfl, hcell⟩ := hsr.at_ k hlt
      have hx := hs.bd k
      have HT : Hid (encA (zs.take (k + 1)) = encA (zs.take k) ++ encI (zs.getD k 0)) := encA_take zs k hlt
      have hlen := encI_len (zs.getD k 0)
      generalize zs.getD k 0 = x at *
      go_wp2
      obtain ⟨wo, rfl⟩ : ∃ wo : World, wo = wr := ⟨_, rfl⟩
      generalize encA (zs.take k) = E at *
      go_loopw [3, 5] (fun o t wr => ∃ (pre : List Int) (f : Nat) (u : Int), t = .int .u64 u ∧ wr.ownsRow w.heap.size 5 1 o (E ++ pre).length ((E ++ pre).map (Value.int .u8)) ∧ encI x = pre ++ encL f u ∧ pre.length + f = 9 ∧ 0 ≤ u ∧ u < 2 * 128 ^ f ∧ Below w.heap.size w wr) (fun _ t _ => (intOf t).toNat)
      case atStart => exact ⟨[], 9, x, rfl, by simpa using hown, rfl, rfl, hx.1, by rw [pow9]; omega, hb⟩
      case round =>
        obtain ⟨pre, f, u, rfl, hown2, he, hf, hu0, hu1, hb2⟩ := hrel
        have HE : Hid (encI x = pre ++ encL f u) := he
        have hu2 : u ≤ 18446744073709551615 := by
          have h9 : (128 : Int) ^ f ≤ 128 ^ 9 := pow128_mono (by omega)
          have := pow9
          omega
        have hszr := hb2.size
        by_cases h7 : 127 < u
        · obtain ⟨f, rfl⟩ : ∃ g, f = g + 1 := ⟨f - 1, by
            cases f with
            | zero => simp at hu1; omega
            | succ f => rfl⟩
          have e1 := enc_byte u hu0 hu2
          have e2 := or128 (u % 128) (by omega) (by omega)
          have HN : Hid (encI x = (pre ++ [u % 128 + 128]) ++ encL f (u / 128)) := by
            show encI x = _
            rw [he]; simp only [encL, if_pos h7, List.append_assoc, List.singleton_append]
          have hu3 : u / 128 < 2 * 128 ^ f := by rw [Int.pow_succ] at hu1; omega
          clear he
          go_wp2_with (at_builtin; refine wpList_push rfl _ _ 36 rfl w.heap.size 5 i0 (.int .u8 0) 1 Tryz.underlying36 hi hz0 hz1 hz2 rfl wr (.int .u8 (u % 128 + 128)) rfl hown2 rfl rfl (by simp; omega) (by simp; omega) hszr ?_; intro v' w2 hown3 hg3 hb3)
          go_roundw
          case rel => exact ⟨pre ++ [u % 128 + 128], f, u / 128, rfl, by simpa [← Nat.add_assoc] using hown3, HN.out, by simp; omega, by omega, hu3, hb2.trans hb3⟩
          case measure => simp [intOf]; omega
        · have HN : Hid (encI x = pre ++ [u]) := by
            show encI x = _
            rw [he]
            cases f <;> simp [encL, h7]
          clear he
          go_wp2_with (at_builtin; refine wpList_push rfl _ _ 36 rfl w.heap.size 5 i0 (.int .u8 0) 1 Tryz.underlying36 hi hz0 hz1 hz2 rfl wr (.int .u8 u) rfl hown2 rfl rfl (by simp; omega) (by simp; omega) hszr ?_; intro v' w2 hown3 hg3 hb3)
          go_roundw
          case rel => exact ⟨k + 1, by omega, by go_num, by rw [HT.out, HN.out]; simpa [← Nat.add_assoc] using hown3, hb2.trans hb3⟩
          case measure => simp [intOf]; omega
    · obtain rfl : k = zs.length := by omega
      have HT : Hid (zs.take zs.length = zs) := List.take_length
      rw [HT.out] at hown
      clear hle hlt
      go_wp2
      go_ret
      exact ⟨_, rfl, hown, hb⟩
end Go.Proofs.YtmfpdchfofffeaaGreatDoor
