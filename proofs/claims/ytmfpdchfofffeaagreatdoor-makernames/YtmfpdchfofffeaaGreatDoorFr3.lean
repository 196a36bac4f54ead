import Derived.Test.YtmfpdchfofffeaaGreatDoorFr2
namespace Go.Proofs.YtmfpdchfofffeaaGreatDoor
open Go.RowKit
set_option linter.unusedVariables false
theorem cell18 {W : World} {b k : Nat} {cs : Array Value} {t : TypeId} {v : Value} (h : W.heap[b]? = some (.cells cs t (0, 0))) (hk : cs[k]? = some v) : W.cell? ⟨b, k, none⟩ = some v := by simp [World.cell?, h, hk]
/-- The first i fields may be. -/
def Fi18 (h : Hd18) (i : Nat) : Prop := (0 < i → 0 ≤ h.o ∧ h.o ≤ 16777216) ∧ (1 < i → 0 ≤ h.n ∧ h.n ≤ 16777216) ∧ (2 < i → 64 ≤ h.wi ∧ h.wi ≤ 65536) ∧ (3 < i → 1 ≤ h.lo ∧ h.lo ≤ 32768)
theorem Fi18.all {h : Hd18} (f : Fi18 h 4) : h.Ok := ⟨f.1 (by omega), f.2.1 (by omega), f.2.2.1 (by omega), f.2.2.2 (by omega)⟩
set_option maxRecDepth 100000 in
set_option maxHeartbeats 8000000 in
theorem pfit18 (B hb : Nat) (h : Hd18) (w : World) (hF : Fl18 B w) (hq : w.heap[hb]? = some (.cells h.cs 51 (0, 0))) :
    Calls Tryz.prog 124 #[.slice (some ⟨B + 8, 0, none⟩) 4 4, .pointer (some ⟨hb, 0, none⟩)] w fun e w' => e = .returned (.bool (decide h.Ok)) ∧ Below w.heap.size w w' := by
  have HF : Hid (∀ V, Below w.heap.size w V → Fl18 B V) := fun V hV => hF.old hV
  have HQ : Hid (∀ V, Below w.heap.size w V → V.heap[hb]? = some (.cells h.cs 51 (0, 0))) := fun V hV => (hV.block _ (Array.getElem?_eq_some_iff.1 hq).1).trans hq
  obtain ⟨ok, hok⟩ : ∃ ok, ok = decide h.Ok := ⟨_, rfl⟩
  have HOK : Hid (ok = decide h.Ok) := hok
  rw [← hok]
  clear hF hq hok
  go_enter Tryz.func124, Tryz.ntmps124
  go_wp2_with fail
  go_loopw [12] (fun t12 V => ∃ i : Nat, i ≤ 4 ∧ t12 = .int .i64 (i : Int) ∧ Fi18 h i ∧ Below w.heap.size w V) (fun t12 _ => 4 - (intOf t12).toNat)
  case atStart => exact ⟨0, by omega, rfl, ⟨by omega, by omega, by omega, by omega⟩, Below.refl _ _⟩
  case round =>
    obtain ⟨i, hi4, rfl, hfi, hB⟩ := hrel
    have HFI : Hid (Fi18 h i) := hfi
    have HB : Hid (Below w.heap.size w wr) := hB
    have hFl := HF.out wr hB
    clear hfi hB
    rcases (by omega : i = 0 ∨ i = 1 ∨ i = 2 ∨ i = 3 ∨ i = 4) with rfl | rfl | rfl | rfl | rfl
    · have f0 : wr.cell? ⟨B + 8, 0, none⟩ = some (.func (.func 126) #[] #[]) := cell18 hFl.fl rfl
      have f1 : wr.cell? ⟨B + 8, 1, none⟩ = some (.func (.func 167) #[] #[.pointer (some ⟨B, 0, none⟩), .pointer (some ⟨B + 1, 0, none⟩)]) := cell18 hFl.fl rfl
      obtain ⟨wB, hwB⟩ : ∃ wB, wB = wr.alloc (.cells #[.func (.func 126) #[] #[], .func (.func 167) #[] #[.pointer (some ⟨B, 0, none⟩), .pointer (some ⟨B + 1, 0, none⟩)]] 202) := ⟨_, rfl⟩
      have cB := cb16 wr #[.func (.func 126) #[] #[], .func (.func 167) #[] #[.pointer (some ⟨B, 0, none⟩), .pointer (some ⟨B + 1, 0, none⟩)]] 202
      rw [← hwB] at cB
      obtain ⟨bs, hbs⟩ : ∃ bs, bs = wr.heap.size := ⟨_, rfl⟩
      have HBB : Hid (Below w.heap.size w wB) := HB.out.trans (cB.bl.mono HB.out.size)
      have HCB : Hid (∀ V, Below wB.heap.size wB V → V.cell? ⟨bs, 0, none⟩ = some (.func (.func 126) #[] #[]) ∧ V.cell? ⟨bs, 1, none⟩ = some (.func (.func 167) #[] #[.pointer (some ⟨B, 0, none⟩), .pointer (some ⟨B + 1, 0, none⟩)])) := fun V hV => by
        have q0 := cB.cl
        rw [← hbs] at q0
        have q := (hV.block bs (by have := cB.sz; omega)).trans q0
        exact ⟨cell18 q rfl, cell18 q rfl⟩
      have hFB := HF.out wB HBB.out
      have CB := pbt18 B (B + 1) (.pointer (some ⟨hb, 0, none⟩)) 0 16777216 wB (hFB.bx 0 (by omega)) (hFB.bx 1 (by omega))
      have HCV : Hid (∀ V, Below wB.heap.size wB V → V.cell? ⟨hb, 0, none⟩ = some (.int .i64 h.o) ∧ ∃ v, V.cell? ⟨hb, 0, none⟩ = some v) := fun V hV => by
        have q := HQ.out V (HBB.out.trans (hV.mono HBB.out.size))
        exact ⟨cell18 q rfl, _, cell18 (k := 0) q rfl⟩
      have HWB : Hid (wr.alloc (.cells #[.func (.func 126) #[] #[], .func (.func 167) #[] #[.pointer (some ⟨B, 0, none⟩), .pointer (some ⟨B + 1, 0, none⟩)]] 202) = wB) := hwB.symm
      have HBS : Hid (wr.heap.size = bs) := hbs.symm
      have HNX : Hid (0 ≤ h.o → h.o ≤ 16777216 → Fi18 h 1) := fun a b => by
        obtain ⟨g0, g1, g2, g3⟩ := HFI.out
        refine ⟨fun _ => ?_, fun _ => ?_, fun _ => ?_, fun _ => ?_⟩
        all_goals first | omega | exact g0 (by omega) | exact g1 (by omega) | exact g2 (by omega) | exact g3 (by omega) | exact ⟨by omega, by omega⟩
      have HNO : Hid (h.o < 0 ∨ 16777216 < h.o → ok = false) := fun a => by
        rw [HOK.out]
        refine decide_eq_false (fun x => ?_)
        obtain ⟨x0, x1, x2, x3⟩ := x
        omega
      clear hwB cB hbs hFl hFB HFI
      generalize h.o = v at *
      go_wp2_with fail
      rw [HWB.out, HBS.out]
      refine CB.mono ?_
      rintro e1 w1 ⟨rfl, b1⟩
      have HB1 : Hid (Below wB.heap.size wB w1) := b1
      obtain ⟨g0, g1⟩ := HCB.out w1 b1
      have CA := phf18_1 hb w1 (HCV.out w1 b1).2
      obtain ⟨cv, -⟩ := HCV.out w1 b1
      clear b1 CB f0 f1
      by_cases hlo : v < 0
      · have hk := HNO.out (.inl hlo)
        subst hk
        go_wp2_with fail
        refine CA.mono ?_
        rintro e2 w2 ⟨rfl, hw2⟩
        subst w2
        go_wp2_with fail
        go_ret
        exact ⟨rfl, HBB.out.trans (HB1.out.mono HBB.out.size)⟩
      · by_cases hhi : 16777216 < v
        · have hk := HNO.out (.inr hhi)
          subst hk
          go_wp2_with fail
          refine CA.mono ?_
          rintro e2 w2 ⟨rfl, hw2⟩
          subst w2
          go_wp2_with fail
          go_ret
          exact ⟨rfl, HBB.out.trans (HB1.out.mono HBB.out.size)⟩
        · have hn := HNX.out (by omega) (by omega)
          have hn : Hid (Fi18 h 1) := hn
          go_wp2_with fail
          refine CA.mono ?_
          rintro e2 w2 ⟨rfl, hw2⟩
          subst w2
          go_wp2_with fail
          go_roundw
          case rel => exact ⟨1, by omega, rfl, hn.out, HBB.out.trans (HB1.out.mono HBB.out.size)⟩
          case measure => simp [intOf]
    · have f0 : wr.cell? ⟨B + 8, 2, none⟩ = some (.func (.func 128) #[] #[]) := cell18 hFl.fl rfl
      have f1 : wr.cell? ⟨B + 8, 3, none⟩ = some (.func (.func 167) #[] #[.pointer (some ⟨B + 2, 0, none⟩), .pointer (some ⟨B + 3, 0, none⟩)]) := cell18 hFl.fl rfl
      obtain ⟨wB, hwB⟩ : ∃ wB, wB = wr.alloc (.cells #[.func (.func 128) #[] #[], .func (.func 167) #[] #[.pointer (some ⟨B + 2, 0, none⟩), .pointer (some ⟨B + 3, 0, none⟩)]] 202) := ⟨_, rfl⟩
      have cB := cb16 wr #[.func (.func 128) #[] #[], .func (.func 167) #[] #[.pointer (some ⟨B + 2, 0, none⟩), .pointer (some ⟨B + 3, 0, none⟩)]] 202
      rw [← hwB] at cB
      obtain ⟨bs, hbs⟩ : ∃ bs, bs = wr.heap.size := ⟨_, rfl⟩
      have HBB : Hid (Below w.heap.size w wB) := HB.out.trans (cB.bl.mono HB.out.size)
      have HCB : Hid (∀ V, Below wB.heap.size wB V → V.cell? ⟨bs, 0, none⟩ = some (.func (.func 128) #[] #[]) ∧ V.cell? ⟨bs, 1, none⟩ = some (.func (.func 167) #[] #[.pointer (some ⟨B + 2, 0, none⟩), .pointer (some ⟨B + 3, 0, none⟩)])) := fun V hV => by
        have q0 := cB.cl
        rw [← hbs] at q0
        have q := (hV.block bs (by have := cB.sz; omega)).trans q0
        exact ⟨cell18 q rfl, cell18 q rfl⟩
      have hFB := HF.out wB HBB.out
      have CB := pbt18 (B + 2) (B + 3) (.pointer (some ⟨hb, 0, none⟩)) 0 16777216 wB (hFB.bx 2 (by omega)) (hFB.bx 3 (by omega))
      have HCV : Hid (∀ V, Below wB.heap.size wB V → V.cell? ⟨hb, 1, none⟩ = some (.int .i64 h.n) ∧ ∃ v, V.cell? ⟨hb, 0, none⟩ = some v) := fun V hV => by
        have q := HQ.out V (HBB.out.trans (hV.mono HBB.out.size))
        exact ⟨cell18 q rfl, _, cell18 (k := 0) q rfl⟩
      have HWB : Hid (wr.alloc (.cells #[.func (.func 128) #[] #[], .func (.func 167) #[] #[.pointer (some ⟨B + 2, 0, none⟩), .pointer (some ⟨B + 3, 0, none⟩)]] 202) = wB) := hwB.symm
      have HBS : Hid (wr.heap.size = bs) := hbs.symm
      have HNX : Hid (0 ≤ h.n → h.n ≤ 16777216 → Fi18 h 2) := fun a b => by
        obtain ⟨g0, g1, g2, g3⟩ := HFI.out
        refine ⟨fun _ => ?_, fun _ => ?_, fun _ => ?_, fun _ => ?_⟩
        all_goals first | omega | exact g0 (by omega) | exact g1 (by omega) | exact g2 (by omega) | exact g3 (by omega) | exact ⟨by omega, by omega⟩
      have HNO : Hid (h.n < 0 ∨ 16777216 < h.n → ok = false) := fun a => by
        rw [HOK.out]
        refine decide_eq_false (fun x => ?_)
        obtain ⟨x0, x1, x2, x3⟩ := x
        omega
      clear hwB cB hbs hFl hFB HFI
      generalize h.n = v at *
      go_wp2_with fail
      rw [HWB.out, HBS.out]
      refine CB.mono ?_
      rintro e1 w1 ⟨rfl, b1⟩
      have HB1 : Hid (Below wB.heap.size wB w1) := b1
      obtain ⟨g0, g1⟩ := HCB.out w1 b1
      have CA := phf18_2 hb w1 (HCV.out w1 b1).2
      obtain ⟨cv, -⟩ := HCV.out w1 b1
      clear b1 CB f0 f1
      by_cases hlo : v < 0
      · have hk := HNO.out (.inl hlo)
        subst hk
        go_wp2_with fail
        refine CA.mono ?_
        rintro e2 w2 ⟨rfl, hw2⟩
        subst w2
        go_wp2_with fail
        go_ret
        exact ⟨rfl, HBB.out.trans (HB1.out.mono HBB.out.size)⟩
      · by_cases hhi : 16777216 < v
        · have hk := HNO.out (.inr hhi)
          subst hk
          go_wp2_with fail
          refine CA.mono ?_
          rintro e2 w2 ⟨rfl, hw2⟩
          subst w2
          go_wp2_with fail
          go_ret
          exact ⟨rfl, HBB.out.trans (HB1.out.mono HBB.out.size)⟩
        · have hn := HNX.out (by omega) (by omega)
          have hn : Hid (Fi18 h 2) := hn
          go_wp2_with fail
          refine CA.mono ?_
          rintro e2 w2 ⟨rfl, hw2⟩
          subst w2
          go_wp2_with fail
          go_roundw
          case rel => exact ⟨2, by omega, rfl, hn.out, HBB.out.trans (HB1.out.mono HBB.out.size)⟩
          case measure => simp [intOf]
    · have f0 : wr.cell? ⟨B + 8, 4, none⟩ = some (.func (.func 129) #[] #[]) := cell18 hFl.fl rfl
      have f1 : wr.cell? ⟨B + 8, 5, none⟩ = some (.func (.func 167) #[] #[.pointer (some ⟨B + 4, 0, none⟩), .pointer (some ⟨B + 5, 0, none⟩)]) := cell18 hFl.fl rfl
      obtain ⟨wB, hwB⟩ : ∃ wB, wB = wr.alloc (.cells #[.func (.func 129) #[] #[], .func (.func 167) #[] #[.pointer (some ⟨B + 4, 0, none⟩), .pointer (some ⟨B + 5, 0, none⟩)]] 202) := ⟨_, rfl⟩
      have cB := cb16 wr #[.func (.func 129) #[] #[], .func (.func 167) #[] #[.pointer (some ⟨B + 4, 0, none⟩), .pointer (some ⟨B + 5, 0, none⟩)]] 202
      rw [← hwB] at cB
      obtain ⟨bs, hbs⟩ : ∃ bs, bs = wr.heap.size := ⟨_, rfl⟩
      have HBB : Hid (Below w.heap.size w wB) := HB.out.trans (cB.bl.mono HB.out.size)
      have HCB : Hid (∀ V, Below wB.heap.size wB V → V.cell? ⟨bs, 0, none⟩ = some (.func (.func 129) #[] #[]) ∧ V.cell? ⟨bs, 1, none⟩ = some (.func (.func 167) #[] #[.pointer (some ⟨B + 4, 0, none⟩), .pointer (some ⟨B + 5, 0, none⟩)])) := fun V hV => by
        have q0 := cB.cl
        rw [← hbs] at q0
        have q := (hV.block bs (by have := cB.sz; omega)).trans q0
        exact ⟨cell18 q rfl, cell18 q rfl⟩
      have hFB := HF.out wB HBB.out
      have CB := pbt18 (B + 4) (B + 5) (.pointer (some ⟨hb, 0, none⟩)) 64 65536 wB (hFB.bx 4 (by omega)) (hFB.bx 5 (by omega))
      have HCV : Hid (∀ V, Below wB.heap.size wB V → V.cell? ⟨hb, 4, none⟩ = some (.int .i64 h.wi) ∧ ∃ v, V.cell? ⟨hb, 0, none⟩ = some v) := fun V hV => by
        have q := HQ.out V (HBB.out.trans (hV.mono HBB.out.size))
        exact ⟨cell18 q rfl, _, cell18 (k := 0) q rfl⟩
      have HWB : Hid (wr.alloc (.cells #[.func (.func 129) #[] #[], .func (.func 167) #[] #[.pointer (some ⟨B + 4, 0, none⟩), .pointer (some ⟨B + 5, 0, none⟩)]] 202) = wB) := hwB.symm
      have HBS : Hid (wr.heap.size = bs) := hbs.symm
      have HNX : Hid (64 ≤ h.wi → h.wi ≤ 65536 → Fi18 h 3) := fun a b => by
        obtain ⟨g0, g1, g2, g3⟩ := HFI.out
        refine ⟨fun _ => ?_, fun _ => ?_, fun _ => ?_, fun _ => ?_⟩
        all_goals first | omega | exact g0 (by omega) | exact g1 (by omega) | exact g2 (by omega) | exact g3 (by omega) | exact ⟨by omega, by omega⟩
      have HNO : Hid (h.wi < 64 ∨ 65536 < h.wi → ok = false) := fun a => by
        rw [HOK.out]
        refine decide_eq_false (fun x => ?_)
        obtain ⟨x0, x1, x2, x3⟩ := x
        omega
      clear hwB cB hbs hFl hFB HFI
      generalize h.wi = v at *
      go_wp2_with fail
      rw [HWB.out, HBS.out]
      refine CB.mono ?_
      rintro e1 w1 ⟨rfl, b1⟩
      have HB1 : Hid (Below wB.heap.size wB w1) := b1
      obtain ⟨g0, g1⟩ := HCB.out w1 b1
      have CA := phf18_3 hb w1 (HCV.out w1 b1).2
      obtain ⟨cv, -⟩ := HCV.out w1 b1
      clear b1 CB f0 f1
      by_cases hlo : v < 64
      · have hk := HNO.out (.inl hlo)
        subst hk
        go_wp2_with fail
        refine CA.mono ?_
        rintro e2 w2 ⟨rfl, hw2⟩
        subst w2
        go_wp2_with fail
        go_ret
        exact ⟨rfl, HBB.out.trans (HB1.out.mono HBB.out.size)⟩
      · by_cases hhi : 65536 < v
        · have hk := HNO.out (.inr hhi)
          subst hk
          go_wp2_with fail
          refine CA.mono ?_
          rintro e2 w2 ⟨rfl, hw2⟩
          subst w2
          go_wp2_with fail
          go_ret
          exact ⟨rfl, HBB.out.trans (HB1.out.mono HBB.out.size)⟩
        · have hn := HNX.out (by omega) (by omega)
          have hn : Hid (Fi18 h 3) := hn
          go_wp2_with fail
          refine CA.mono ?_
          rintro e2 w2 ⟨rfl, hw2⟩
          subst w2
          go_wp2_with fail
          go_roundw
          case rel => exact ⟨3, by omega, rfl, hn.out, HBB.out.trans (HB1.out.mono HBB.out.size)⟩
          case measure => simp [intOf]
    · have f0 : wr.cell? ⟨B + 8, 6, none⟩ = some (.func (.func 130) #[] #[]) := cell18 hFl.fl rfl
      have f1 : wr.cell? ⟨B + 8, 7, none⟩ = some (.func (.func 167) #[] #[.pointer (some ⟨B + 6, 0, none⟩), .pointer (some ⟨B + 7, 0, none⟩)]) := cell18 hFl.fl rfl
      obtain ⟨wB, hwB⟩ : ∃ wB, wB = wr.alloc (.cells #[.func (.func 130) #[] #[], .func (.func 167) #[] #[.pointer (some ⟨B + 6, 0, none⟩), .pointer (some ⟨B + 7, 0, none⟩)]] 202) := ⟨_, rfl⟩
      have cB := cb16 wr #[.func (.func 130) #[] #[], .func (.func 167) #[] #[.pointer (some ⟨B + 6, 0, none⟩), .pointer (some ⟨B + 7, 0, none⟩)]] 202
      rw [← hwB] at cB
      obtain ⟨bs, hbs⟩ : ∃ bs, bs = wr.heap.size := ⟨_, rfl⟩
      have HBB : Hid (Below w.heap.size w wB) := HB.out.trans (cB.bl.mono HB.out.size)
      have HCB : Hid (∀ V, Below wB.heap.size wB V → V.cell? ⟨bs, 0, none⟩ = some (.func (.func 130) #[] #[]) ∧ V.cell? ⟨bs, 1, none⟩ = some (.func (.func 167) #[] #[.pointer (some ⟨B + 6, 0, none⟩), .pointer (some ⟨B + 7, 0, none⟩)])) := fun V hV => by
        have q0 := cB.cl
        rw [← hbs] at q0
        have q := (hV.block bs (by have := cB.sz; omega)).trans q0
        exact ⟨cell18 q rfl, cell18 q rfl⟩
      have hFB := HF.out wB HBB.out
      have CB := pbt18 (B + 6) (B + 7) (.pointer (some ⟨hb, 0, none⟩)) 1 32768 wB (hFB.bx 6 (by omega)) (hFB.bx 7 (by omega))
      have HCV : Hid (∀ V, Below wB.heap.size wB V → V.cell? ⟨hb, 5, none⟩ = some (.int .i64 h.lo) ∧ ∃ v, V.cell? ⟨hb, 0, none⟩ = some v) := fun V hV => by
        have q := HQ.out V (HBB.out.trans (hV.mono HBB.out.size))
        exact ⟨cell18 q rfl, _, cell18 (k := 0) q rfl⟩
      have HWB : Hid (wr.alloc (.cells #[.func (.func 130) #[] #[], .func (.func 167) #[] #[.pointer (some ⟨B + 6, 0, none⟩), .pointer (some ⟨B + 7, 0, none⟩)]] 202) = wB) := hwB.symm
      have HBS : Hid (wr.heap.size = bs) := hbs.symm
      have HNX : Hid (1 ≤ h.lo → h.lo ≤ 32768 → Fi18 h 4) := fun a b => by
        obtain ⟨g0, g1, g2, g3⟩ := HFI.out
        refine ⟨fun _ => ?_, fun _ => ?_, fun _ => ?_, fun _ => ?_⟩
        all_goals first | omega | exact g0 (by omega) | exact g1 (by omega) | exact g2 (by omega) | exact g3 (by omega) | exact ⟨by omega, by omega⟩
      have HNO : Hid (h.lo < 1 ∨ 32768 < h.lo → ok = false) := fun a => by
        rw [HOK.out]
        refine decide_eq_false (fun x => ?_)
        obtain ⟨x0, x1, x2, x3⟩ := x
        omega
      clear hwB cB hbs hFl hFB HFI
      generalize h.lo = v at *
      go_wp2_with fail
      rw [HWB.out, HBS.out]
      refine CB.mono ?_
      rintro e1 w1 ⟨rfl, b1⟩
      have HB1 : Hid (Below wB.heap.size wB w1) := b1
      obtain ⟨g0, g1⟩ := HCB.out w1 b1
      have CA := phf18_4 hb w1 (HCV.out w1 b1).2
      obtain ⟨cv, -⟩ := HCV.out w1 b1
      clear b1 CB f0 f1
      by_cases hlo : v < 1
      · have hk := HNO.out (.inl hlo)
        subst hk
        go_wp2_with fail
        refine CA.mono ?_
        rintro e2 w2 ⟨rfl, hw2⟩
        subst w2
        go_wp2_with fail
        go_ret
        exact ⟨rfl, HBB.out.trans (HB1.out.mono HBB.out.size)⟩
      · by_cases hhi : 32768 < v
        · have hk := HNO.out (.inr hhi)
          subst hk
          go_wp2_with fail
          refine CA.mono ?_
          rintro e2 w2 ⟨rfl, hw2⟩
          subst w2
          go_wp2_with fail
          go_ret
          exact ⟨rfl, HBB.out.trans (HB1.out.mono HBB.out.size)⟩
        · have hn := HNX.out (by omega) (by omega)
          have hn : Hid (Fi18 h 4) := hn
          go_wp2_with fail
          refine CA.mono ?_
          rintro e2 w2 ⟨rfl, hw2⟩
          subst w2
          go_wp2_with fail
          go_roundw
          case rel => exact ⟨4, by omega, rfl, hn.out, HBB.out.trans (HB1.out.mono HBB.out.size)⟩
          case measure => simp [intOf]
    · have hk : ok = true := by rw [HOK.out]; exact decide_eq_true HFI.out.all
      subst hk
      go_wp2_with fail
      go_ret
      exact ⟨rfl, HB.out⟩
set_option maxRecDepth 100000 in
theorem pchk18 (h : Hd18) (w : World) : Calls Tryz.prog 93 #[.agg #[.int .i64 h.o, .int .i64 h.n, .int .u32 h.so, .int .u32 h.sn, .int .i64 h.wi, .int .i64 h.lo]] w fun e w' => e = .returned (.int .i64 (if h.Ok then 0 else 180)) ∧ Below w.heap.size w w' := by
  by_cases hk : h.Ok
  · rw [if_pos hk]
    obtain ⟨ok, hok⟩ : ∃ ok, decide h.Ok = ok := ⟨_, rfl⟩
    have hok2 : Hid (decide h.Ok = ok) := hok
    have cA := cb16 w h.cs 51
    obtain ⟨wA, hwA⟩ : ∃ wA, wA = w.alloc (.cells h.cs 51) := ⟨_, rfl⟩
    rw [← hwA] at cA
    obtain ⟨b4, hb4⟩ : ∃ b4, b4 = w.heap.size := ⟨_, rfl⟩
    have HWA : Hid (w.alloc (.cells #[.int .i64 h.o, .int .i64 h.n, .int .u32 h.so, .int .u32 h.sn, .int .i64 h.wi, .int .i64 h.lo] 51) = wA) := hwA.symm
    have HB4 : Hid (w.heap.size = b4) := hb4.symm
    have q : wA.heap[b4]? = some (.cells h.cs 51 (0, 0)) := by rw [hb4]; exact cA.cl
    have HA : Hid (Below w.heap.size w wA) := cA.bl
    have HPF : Hid (∀ w1, Below wA.heap.size wA w1 → Fl18 wA.heap.size w1 → Calls Tryz.prog 124 #[.slice (some ⟨wA.heap.size + 8, 0, none⟩) 4 4, .pointer (some ⟨b4, 0, none⟩)] w1 fun e w' => e = .returned (.bool ok) ∧ Below w1.heap.size w1 w') := fun w1 b1 hF => by
      have := pfit18 wA.heap.size b4 h w1 hF ((b1.block _ (Array.getElem?_eq_some_iff.1 q).1).trans q)
      rw [hok] at this
      exact this
    clear hwA hb4 cA q hok
    have hk2 : ok = true := by rw [← hok2.out]; exact decide_eq_true hk
    subst hk2
    go_enter Tryz.func93, Tryz.ntmps93
    go_wp2_with fail
    rw [HWA.out, HB4.out]
    refine (phf18 wA).mono ?_
    rintro e1 w1 ⟨rfl, hF, b1⟩
    have PF := HPF.out w1 b1 hF
    have HB1 : Hid (Below w.heap.size w w1) := HA.out.trans (b1.mono HA.out.size)
    clear b1 hF
    go_wp2_with fail
    refine PF.mono ?_
    rintro e2 w2 ⟨rfl, b2⟩
    go_wp2_with fail
    go_ret
    exact ⟨rfl, HB1.out.trans (b2.mono HB1.out.size)⟩
  · rw [if_neg hk]
    obtain ⟨ok, hok⟩ : ∃ ok, decide h.Ok = ok := ⟨_, rfl⟩
    have hok2 : Hid (decide h.Ok = ok) := hok
    have cA := cb16 w h.cs 51
    obtain ⟨wA, hwA⟩ : ∃ wA, wA = w.alloc (.cells h.cs 51) := ⟨_, rfl⟩
    rw [← hwA] at cA
    obtain ⟨b4, hb4⟩ : ∃ b4, b4 = w.heap.size := ⟨_, rfl⟩
    have HWA : Hid (w.alloc (.cells #[.int .i64 h.o, .int .i64 h.n, .int .u32 h.so, .int .u32 h.sn, .int .i64 h.wi, .int .i64 h.lo] 51) = wA) := hwA.symm
    have HB4 : Hid (w.heap.size = b4) := hb4.symm
    have q : wA.heap[b4]? = some (.cells h.cs 51 (0, 0)) := by rw [hb4]; exact cA.cl
    have HA : Hid (Below w.heap.size w wA) := cA.bl
    have HPF : Hid (∀ w1, Below wA.heap.size wA w1 → Fl18 wA.heap.size w1 → Calls Tryz.prog 124 #[.slice (some ⟨wA.heap.size + 8, 0, none⟩) 4 4, .pointer (some ⟨b4, 0, none⟩)] w1 fun e w' => e = .returned (.bool ok) ∧ Below w1.heap.size w1 w') := fun w1 b1 hF => by
      have := pfit18 wA.heap.size b4 h w1 hF ((b1.block _ (Array.getElem?_eq_some_iff.1 q).1).trans q)
      rw [hok] at this
      exact this
    clear hwA hb4 cA q hok
    have hk2 : ok = false := by rw [← hok2.out]; exact decide_eq_false hk
    subst hk2
    go_enter Tryz.func93, Tryz.ntmps93
    go_wp2_with fail
    rw [HWA.out, HB4.out]
    refine (phf18 wA).mono ?_
    rintro e1 w1 ⟨rfl, hF, b1⟩
    have PF := HPF.out w1 b1 hF
    have HB1 : Hid (Below w.heap.size w w1) := HA.out.trans (b1.mono HA.out.size)
    clear b1 hF
    go_wp2_with fail
    refine PF.mono ?_
    rintro e2 w2 ⟨rfl, b2⟩
    go_wp2_with fail
    go_ret
    exact ⟨rfl, HB1.out.trans (b2.mono HB1.out.size)⟩
end Go.Proofs.YtmfpdchfofffeaaGreatDoor
