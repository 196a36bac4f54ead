import Derived.Test.YtalojcpgkgeofaaGreatDoorPd
namespace Go.Proofs.YtalojcpgkgeofaaGreatDoor
open Go.RowKit
set_option linter.unusedVariables false

/-! fit of a header; Check. -/
theorem cell18 {W : World} {b k : Nat} {cs : Array Value} {t : TypeId} {v : Value} (h : W.heap[b]? = some (.cells cs t (0, 0))) (hk : cs[k]? = some v) : W.cell? ⟨b, k, none⟩ = some v := by simp [World.cell?, h, hk]
/-- The first i fields may be. -/
def Fi18 (h : Hd18) (i : Nat) : Prop := (0 < i → 0 ≤ h.o ∧ h.o ≤ 16777216) ∧ (1 < i → 0 ≤ h.n ∧ h.n ≤ 16777216) ∧ (2 < i → 64 ≤ h.wi ∧ h.wi ≤ 65536) ∧ (3 < i → 1 ≤ h.lo ∧ h.lo ≤ 32768)
theorem Fi18.all {h : Hd18} (f : Fi18 h 4) : h.Ok := ⟨f.1 (by omega), f.2.1 (by omega), f.2.2.1 (by omega), f.2.2.2 (by omega)⟩
set_option maxRecDepth 100000 in
set_option maxHeartbeats 8000000 in
theorem pfit18 (B hb : Nat) (h : Hd18) (w : World) (hF : Fl18 B w) (hq : w.heap[hb]? = some (.cells h.cs 41 (0, 0))) :
    Calls Tryz.prog 92 #[.slice (some ⟨B + 8, 0, none⟩) 4 4, .pointer (some ⟨hb, 0, none⟩)] w fun e w' => e = .returned (.bool (decide h.Ok)) ∧ Below w.heap.size w w' := by
  have HF : Hid (∀ V, Below w.heap.size w V → Fl18 B V) := fun V hV => hF.old hV
  have HQ : Hid (∀ V, Below w.heap.size w V → V.heap[hb]? = some (.cells h.cs 41 (0, 0))) := fun V hV => (hV.block _ (Array.getElem?_eq_some_iff.1 hq).1).trans hq
  obtain ⟨ok, hok⟩ : ∃ ok, ok = decide h.Ok := ⟨_, rfl⟩
  have HOK : Hid (ok = decide h.Ok) := hok
  rw [← hok]
  clear hF hq hok
  go_enter Tryz.func92, Tryz.ntmps92
  go_wp2_with fail
  go_loopw [12] (fun t12 V => ∃ i : Nat, i ≤ 4 ∧ t12 = .int .i64 (i : Int) ∧ Fi18 h i ∧ Below w.heap.size w V) (fun t12 _ => 4 - (intOf t12).toNat)
  case atStart => exact ⟨0, by omega, rfl, ⟨by omega, by omega, by omega, by omega⟩, Below.refl _ _⟩
  case round =>
    obtain ⟨i, hi4, rfl, hfi, hB⟩ := hrel
    have HFI : Hid (Fi18 h i) := hfi
    have HB : Hid (Below w.heap.size w wr) := hB
    have hFl := HF.out wr hB
    clear hfi hB
    rcases (by omega : i = 0 ∨ i = 1 ∨ i = 2 ∨ i = 3 ∨ i = 4) with rfl | rfl | rfl | rfl | rfl
    · have f0 : wr.cell? ⟨B + 8, 0, none⟩ = some (.func (.func 82) #[] #[]) := cell18 hFl.fl rfl
      have f1 : wr.cell? ⟨B + 8, 1, none⟩ = some (.func (.func 115) #[] #[.pointer (some ⟨B, 0, none⟩), .pointer (some ⟨B + 1, 0, none⟩)]) := cell18 hFl.fl rfl
      obtain ⟨wB, hwB⟩ : ∃ wB, wB = wr.alloc (.cells #[.func (.func 82) #[] #[], .func (.func 115) #[] #[.pointer (some ⟨B, 0, none⟩), .pointer (some ⟨B + 1, 0, none⟩)]] 145) := ⟨_, rfl⟩
      have cB := cb16 wr #[.func (.func 82) #[] #[], .func (.func 115) #[] #[.pointer (some ⟨B, 0, none⟩), .pointer (some ⟨B + 1, 0, none⟩)]] 145
      rw [← hwB] at cB
      obtain ⟨bs, hbs⟩ : ∃ bs, bs = wr.heap.size := ⟨_, rfl⟩
      have HBB : Hid (Below w.heap.size w wB) := HB.out.trans (cB.bl.mono HB.out.size)
      have HCB : Hid (∀ V, Below wB.heap.size wB V → V.cell? ⟨bs, 0, none⟩ = some (.func (.func 82) #[] #[]) ∧ V.cell? ⟨bs, 1, none⟩ = some (.func (.func 115) #[] #[.pointer (some ⟨B, 0, none⟩), .pointer (some ⟨B + 1, 0, none⟩)])) := fun V hV => by
        have q0 := cB.cl
        rw [← hbs] at q0
        have q := (hV.block bs (by have := cB.sz; omega)).trans q0
        exact ⟨cell18 q rfl, cell18 q rfl⟩
      have hFB := HF.out wB HBB.out
      have CB := pbt18 B (B + 1) (.pointer (some ⟨hb, 0, none⟩)) 0 16777216 wB (hFB.bx 0 (by omega)) (hFB.bx 1 (by omega))
      have HCV : Hid (∀ V, Below wB.heap.size wB V → V.cell? ⟨hb, 0, none⟩ = some (.int .i64 h.o) ∧ ∃ v, V.cell? ⟨hb, 0, none⟩ = some v) := fun V hV => by
        have q := HQ.out V (HBB.out.trans (hV.mono HBB.out.size))
        exact ⟨cell18 q rfl, _, cell18 (k := 0) q rfl⟩
      have HWB : Hid (wr.alloc (.cells #[.func (.func 82) #[] #[], .func (.func 115) #[] #[.pointer (some ⟨B, 0, none⟩), .pointer (some ⟨B + 1, 0, none⟩)]] 145) = wB) := hwB.symm
      have HBS : Hid (wr.heap.size = bs) := hbs.symm
      have HNX : Hid (0 ≤ h.o → h.o ≤ 16777216 → Fi18 h 1) := fun a b => by
        obtain ⟨g0, g1, g2, g3⟩ := HFI.out
        refine ⟨fun _ => ?_, fun _ => ?_, fun _ => ?_, fun _ => ?_⟩
        all_goals first | omega | exact g0 (by omega) | exact g1 (by omega) | exact g2 (by omega) | exact g3 (by omega) | exact ⟨by omega, by omega⟩
      have HNO : Hid (h.o < 0 ∨ 16777216 < h.o → ok = false) := fun a => by
        rw [HOK.out]
        refine decide_eq_false (fun x => ?_)
        obtain ⟨x0, x1, x2, x3⟩ := x
        omega
      clear hwB cB hbs hFl hFB HFI
      generalize h.o = v at *
      go_wp2_with fail
      rw [HWB.out, HBS.out]
      refine CB.mono ?_
      rintro e1 w1 ⟨rfl, b1⟩
      have HB1 : Hid (Below wB.heap.size wB w1) := b1
      obtain ⟨g0, g1⟩ := HCB.out w1 b1
      have CA := phf18_1 hb w1 (HCV.out w1 b1).2
      obtain ⟨cv, -⟩ := HCV.out w1 b1
      clear b1 CB f0 f1
      by_cases hlo : v < 0
      · have hk := HNO.out (.inl hlo)
        subst hk
        go_wp2_with fail
        refine CA.mono ?_
        rintro e2 w2 ⟨rfl, hw2⟩
        subst w2
        go_wp2_with fail
        go_ret
        exact ⟨rfl, HBB.out.trans (HB1.out.mono HBB.out.size)⟩
      · by_cases hhi : 16777216 < v
        · have hk := HNO.out (.inr hhi)
          subst hk
          go_wp2_with fail
          refine CA.mono ?_
          rintro e2 w2 ⟨rfl, hw2⟩
          subst w2
          go_wp2_with fail
          go_ret
          exact ⟨rfl, HBB.out.trans (HB1.out.mono HBB.out.size)⟩
        · have hn := HNX.out (by omega) (by omega)
          have hn : Hid (Fi18 h 1) := hn
          go_wp2_with fail
          refine CA.mono ?_
          rintro e2 w2 ⟨rfl, hw2⟩
          subst w2
          go_wp2_with fail
          go_roundw
          case rel => exact ⟨1, by omega, rfl, hn.out, HBB.out.trans (HB1.out.mono HBB.out.size)⟩
          case measure => simp [intOf]
    · have f0 : wr.cell? ⟨B + 8, 2, none⟩ = some (.func (.func 84) #[] #[]) := cell18 hFl.fl rfl
      have f1 : wr.cell? ⟨B + 8, 3, none⟩ = some (.func (.func 115) #[] #[.pointer (some ⟨B + 2, 0, none⟩), .pointer (some ⟨B + 3, 0, none⟩)]) := cell18 hFl.fl rfl
      obtain ⟨wB, hwB⟩ : ∃ wB, wB = wr.alloc (.cells #[.func (.func 84) #[] #[], .func (.func 115) #[] #[.pointer (some ⟨B + 2, 0, none⟩), .pointer (some ⟨B + 3, 0, none⟩)]] 145) := ⟨_, rfl⟩
      have cB := cb16 wr #[.func (.func 84) #[] #[], .func (.func 115) #[] #[.pointer (some ⟨B + 2, 0, none⟩), .pointer (some ⟨B + 3, 0, none⟩)]] 145
      rw [← hwB] at cB
      obtain ⟨bs, hbs⟩ : ∃ bs, bs = wr.heap.size := ⟨_, rfl⟩
      have HBB : Hid (Below w.heap.size w wB) := HB.out.trans (cB.bl.mono HB.out.size)
      have HCB : Hid (∀ V, Below wB.heap.size wB V → V.cell? ⟨bs, 0, none⟩ = some (.func (.func 84) #[] #[]) ∧ V.cell? ⟨bs, 1, none⟩ = some (.func (.func 115) #[] #[.pointer (some ⟨B + 2, 0, none⟩), .pointer (some ⟨B + 3, 0, none⟩)])) := fun V hV => by
        have q0 := cB.cl
        rw [← hbs] at q0
        have q := (hV.block bs (by have := cB.sz; omega)).trans q0
        exact ⟨cell18 q rfl, cell18 q rfl⟩
      have hFB := HF.out wB HBB.out
      have CB := pbt18 (B + 2) (B + 3) (.pointer (some ⟨hb, 0, none⟩)) 0 16777216 wB (hFB.bx 2 (by omega)) (hFB.bx 3 (by omega))
      have HCV : Hid (∀ V, Below wB.heap.size wB V → V.cell? ⟨hb, 1, none⟩ = some (.int .i64 h.n) ∧ ∃ v, V.cell? ⟨hb, 0, none⟩ = some v) := fun V hV => by
        have q := HQ.out V (HBB.out.trans (hV.mono HBB.out.size))
        exact ⟨cell18 q rfl, _, cell18 (k := 0) q rfl⟩
      have HWB : Hid (wr.alloc (.cells #[.func (.func 84) #[] #[], .func (.func 115) #[] #[.pointer (some ⟨B + 2, 0, none⟩), .pointer (some ⟨B + 3, 0, none⟩)]] 145) = wB) := hwB.symm
      have HBS : Hid (wr.heap.size = bs) := hbs.symm
      have HNX : Hid (0 ≤ h.n → h.n ≤ 16777216 → Fi18 h 2) := fun a b => by
        obtain ⟨g0, g1, g2, g3⟩ := HFI.out
        refine ⟨fun _ => ?_, fun _ => ?_, fun _ => ?_, fun _ => ?_⟩
        all_goals first | omega | exact g0 (by omega) | exact g1 (by omega) | exact g2 (by omega) | exact g3 (by omega) | exact ⟨by omega, by omega⟩
      have HNO : Hid (h.n < 0 ∨ 16777216 < h.n → ok = false) := fun a => by
        rw [HOK.out]
        refine decide_eq_false (fun x => ?_)
        obtain ⟨x0, x1, x2, x3⟩ := x
        omega
      clear hwB cB hbs hFl hFB HFI
      generalize h.n = v at *
      go_wp2_with fail
      rw [HWB.out, HBS.out]
      refine CB.mono ?_
      rintro e1 w1 ⟨rfl, b1⟩
      have HB1 : Hid (Below wB.heap.size wB w1) := b1
      obtain ⟨g0, g1⟩ := HCB.out w1 b1
      have CA := phf18_2 hb w1 (HCV.out w1 b1).2
      obtain ⟨cv, -⟩ := HCV.out w1 b1
      clear b1 CB f0 f1
      by_cases hlo : v < 0
      · have hk := HNO.out (.inl hlo)
        subst hk
        go_wp2_with fail
        refine CA.mono ?_
        rintro e2 w2 ⟨rfl, hw2⟩
        subst w2
        go_wp2_with fail
        go_ret
        exact ⟨rfl, HBB.out.trans (HB1.out.mono HBB.out.size)⟩
      · by_cases hhi : 16777216 < v
        · have hk := HNO.out (.inr hhi)
          subst hk
          go_wp2_with fail
          refine CA.mono ?_
          rintro e2 w2 ⟨rfl, hw2⟩
          subst w2
          go_wp2_with fail
          go_ret
          exact ⟨rfl, HBB.out.trans (HB1.out.mono HBB.out.size)⟩
        · have hn := HNX.out (by omega) (by omega)
          have hn : Hid (Fi18 h 2) := hn
          go_wp2_with fail
          refine CA.mono ?_
          rintro e2 w2 ⟨rfl, hw2⟩
          subst w2
          go_wp2_with fail
          go_roundw
          case rel => exact ⟨2, by omega, rfl, hn.out, HBB.out.trans (HB1.out.mono HBB.out.size)⟩
          case measure => simp [intOf]
    · have f0 : wr.cell? ⟨B + 8, 4, none⟩ = some (.func (.func 85) #[] #[]) := cell18 hFl.fl rfl
      have f1 : wr.cell? ⟨B + 8, 5, none⟩ = some (.func (.func 115) #[] #[.pointer (some ⟨B + 4, 0, none⟩), .pointer (some ⟨B + 5, 0, none⟩)]) := cell18 hFl.fl rfl
      obtain ⟨wB, hwB⟩ : ∃ wB, wB = wr.alloc (.cells #[.func (.func 85) #[] #[], .func (.func 115) #[] #[.pointer (some ⟨B + 4, 0, none⟩), .pointer (some ⟨B + 5, 0, none⟩)]] 145) := ⟨_, rfl⟩
      have cB := cb16 wr #[.func (.func 85) #[] #[], .func (.func 115) #[] #[.pointer (some ⟨B + 4, 0, none⟩), .pointer (some ⟨B + 5, 0, none⟩)]] 145
      rw [← hwB] at cB
      obtain ⟨bs, hbs⟩ : ∃ bs, bs = wr.heap.size := ⟨_, rfl⟩
      have HBB : Hid (Below w.heap.size w wB) := HB.out.trans (cB.bl.mono HB.out.size)
      have HCB : Hid (∀ V, Below wB.heap.size wB V → V.cell? ⟨bs, 0, none⟩ = some (.func (.func 85) #[] #[]) ∧ V.cell? ⟨bs, 1, none⟩ = some (.func (.func 115) #[] #[.pointer (some ⟨B + 4, 0, none⟩), .pointer (some ⟨B + 5, 0, none⟩)])) := fun V hV => by
        have q0 := cB.cl
        rw [← hbs] at q0
        have q := (hV.block bs (by have := cB.sz; omega)).trans q0
        exact ⟨cell18 q rfl, cell18 q rfl⟩
      have hFB := HF.out wB HBB.out
      have CB := pbt18 (B + 4) (B + 5) (.pointer (some ⟨hb, 0, none⟩)) 64 65536 wB (hFB.bx 4 (by omega)) (hFB.bx 5 (by omega))
      have HCV : Hid (∀ V, Below wB.heap.size wB V → V.cell? ⟨hb, 4, none⟩ = some (.int .i64 h.wi) ∧ ∃ v, V.cell? ⟨hb, 0, none⟩ = some v) := fun V hV => by
        have q := HQ.out V (HBB.out.trans (hV.mono HBB.out.size))
        exact ⟨cell18 q rfl, _, cell18 (k := 0) q rfl⟩
      have HWB : Hid (wr.alloc (.cells #[.func (.func 85) #[] #[], .func (.func 115) #[] #[.pointer (some ⟨B + 4, 0, none⟩), .pointer (some ⟨B + 5, 0, none⟩)]] 145) = wB) := hwB.symm
      have HBS : Hid (wr.heap.size = bs) := hbs.symm
      have HNX : Hid (64 ≤ h.wi → h.wi ≤ 65536 → Fi18 h 3) := fun a b => by
        obtain ⟨g0, g1, g2, g3⟩ := HFI.out
        refine ⟨fun _ => ?_, fun _ => ?_, fun _ => ?_, fun _ => ?_⟩
        all_goals first | omega | exact g0 (by omega) | exact g1 (by omega) | exact g2 (by omega) | exact g3 (by omega) | exact ⟨by omega, by omega⟩
      have HNO : Hid (h.wi < 64 ∨ 65536 < h.wi → ok = false) := fun a => by
        rw [HOK.out]
        refine decide_eq_false (fun x => ?_)
        obtain ⟨x0, x1, x2, x3⟩ := x
        omega
      clear hwB cB hbs hFl hFB HFI
      generalize h.wi = v at *
      go_wp2_with fail
      rw [HWB.out, HBS.out]
      refine CB.mono ?_
      rintro e1 w1 ⟨rfl, b1⟩
      have HB1 : Hid (Below wB.heap.size wB w1) := b1
      obtain ⟨g0, g1⟩ := HCB.out w1 b1
      have CA := phf18_3 hb w1 (HCV.out w1 b1).2
      obtain ⟨cv, -⟩ := HCV.out w1 b1
      clear b1 CB f0 f1
      by_cases hlo : v < 64
      · have hk := HNO.out (.inl hlo)
        subst hk
        go_wp2_with fail
        refine CA.mono ?_
        rintro e2 w2 ⟨rfl, hw2⟩
        subst w2
        go_wp2_with fail
        go_ret
        exact ⟨rfl, HBB.out.trans (HB1.out.mono HBB.out.size)⟩
      · by_cases hhi : 65536 < v
        · have hk := HNO.out (.inr hhi)
          subst hk
          go_wp2_with fail
          refine CA.mono ?_
          rintro e2 w2 ⟨rfl, hw2⟩
          subst w2
          go_wp2_with fail
          go_ret
          exact ⟨rfl, HBB.out.trans (HB1.out.mono HBB.out.size)⟩
        · have hn := HNX.out (by omega) (by omega)
          have hn : Hid (Fi18 h 3) := hn
          go_wp2_with fail
          refine CA.mono ?_
          rintro e2 w2 ⟨rfl, hw2⟩
          subst w2
          go_wp2_with fail
          go_roundw
          case rel => exact ⟨3, by omega, rfl, hn.out, HBB.out.trans (HB1.out.mono HBB.out.size)⟩
          case measure => simp [intOf]
    · have f0 : wr.cell? ⟨B + 8, 6, none⟩ = some (.func (.func 86) #[] #[]) := cell18 hFl.fl rfl
      have f1 : wr.cell? ⟨B + 8, 7, none⟩ = some (.func (.func 115) #[] #[.pointer (some ⟨B + 6, 0, none⟩), .pointer (some ⟨B + 7, 0, none⟩)]) := cell18 hFl.fl rfl
      obtain ⟨wB, hwB⟩ : ∃ wB, wB = wr.alloc (.cells #[.func (.func 86) #[] #[], .func (.func 115) #[] #[.pointer (some ⟨B + 6, 0, none⟩), .pointer (some ⟨B + 7, 0, none⟩)]] 145) := ⟨_, rfl⟩
      have cB := cb16 wr #[.func (.func 86) #[] #[], .func (.func 115) #[] #[.pointer (some ⟨B + 6, 0, none⟩), .pointer (some ⟨B + 7, 0, none⟩)]] 145
      rw [← hwB] at cB
      obtain ⟨bs, hbs⟩ : ∃ bs, bs = wr.heap.size := ⟨_, rfl⟩
      have HBB : Hid (Below w.heap.size w wB) := HB.out.trans (cB.bl.mono HB.out.size)
      have HCB : Hid (∀ V, Below wB.heap.size wB V → V.cell? ⟨bs, 0, none⟩ = some (.func (.func 86) #[] #[]) ∧ V.cell? ⟨bs, 1, none⟩ = some (.func (.func 115) #[] #[.pointer (some ⟨B + 6, 0, none⟩), .pointer (some ⟨B + 7, 0, none⟩)])) := fun V hV => by
        have q0 := cB.cl
        rw [← hbs] at q0
        have q := (hV.block bs (by have := cB.sz; omega)).trans q0
        exact ⟨cell18 q rfl, cell18 q rfl⟩
      have hFB := HF.out wB HBB.out
      have CB := pbt18 (B + 6) (B + 7) (.pointer (some ⟨hb, 0, none⟩)) 1 32768 wB (hFB.bx 6 (by omega)) (hFB.bx 7 (by omega))
      have HCV : Hid (∀ V, Below wB.heap.size wB V → V.cell? ⟨hb, 5, none⟩ = some (.int .i64 h.lo) ∧ ∃ v, V.cell? ⟨hb, 0, none⟩ = some v) := fun V hV => by
        have q := HQ.out V (HBB.out.trans (hV.mono HBB.out.size))
        exact ⟨cell18 q rfl, _, cell18 (k := 0) q rfl⟩
      have HWB : Hid (wr.alloc (.cells #[.func (.func 86) #[] #[], .func (.func 115) #[] #[.pointer (some ⟨B + 6, 0, none⟩), .pointer (some ⟨B + 7, 0, none⟩)]] 145) = wB) := hwB.symm
      have HBS : Hid (wr.heap.size = bs) := hbs.symm
      have HNX : Hid (1 ≤ h.lo → h.lo ≤ 32768 → Fi18 h 4) := fun a b => by
        obtain ⟨g0, g1, g2, g3⟩ := HFI.out
        refine ⟨fun _ => ?_, fun _ => ?_, fun _ => ?_, fun _ => ?_⟩
        all_goals first | omega | exact g0 (by omega) | exact g1 (by omega) | exact g2 (by omega) | exact g3 (by omega) | exact ⟨by omega, by omega⟩
      have HNO : Hid (h.lo < 1 ∨ 32768 < h.lo → ok = false) := fun a => by
        rw [HOK.out]
        refine decide_eq_false (fun x => ?_)
        obtain ⟨x0, x1, x2, x3⟩ := x
        omega
      clear hwB cB hbs hFl hFB HFI
      generalize h.lo = v at *
      go_wp2_with fail
      rw [HWB.out, HBS.out]
      refine CB.mono ?_
      rintro e1 w1 ⟨rfl, b1⟩
      have HB1 : Hid (Below wB.heap.size wB w1) := b1
      obtain ⟨g0, g1⟩ := HCB.out w1 b1
      have CA := phf18_4 hb w1 (HCV.out w1 b1).2
      obtain ⟨cv, -⟩ := HCV.out w1 b1
      clear b1 CB f0 f1
      by_cases hlo : v < 1
      · have hk := HNO.out (.inl hlo)
        subst hk
        go_wp2_with fail
        refine CA.mono ?_
        rintro e2 w2 ⟨rfl, hw2⟩
        subst w2
        go_wp2_with fail
        go_ret
        exact ⟨rfl, HBB.out.trans (HB1.out.mono HBB.out.size)⟩
      · by_cases hhi : 32768 < v
        · have hk := HNO.out (.inr hhi)
          subst hk
          go_wp2_with fail
          refine CA.mono ?_
          rintro e2 w2 ⟨rfl, hw2⟩
          subst w2
          go_wp2_with fail
          go_ret
          exact ⟨rfl, HBB.out.trans (HB1.out.mono HBB.out.size)⟩
        · have hn := HNX.out (by omega) (by omega)
          have hn : Hid (Fi18 h 4) := hn
          go_wp2_with fail
          refine CA.mono ?_
          rintro e2 w2 ⟨rfl, hw2⟩
          subst w2
          go_wp2_with fail
          go_roundw
          case rel => exact ⟨4, by omega, rfl, hn.out, HBB.out.trans (HB1.out.mono HBB.out.size)⟩
          case measure => simp [intOf]
    · have hk : ok = true := by rw [HOK.out]; exact decide_eq_true HFI.out.all
      subst hk
      go_wp2_with fail
      go_ret
      exact ⟨rfl, HB.out⟩
set_option maxRecDepth 100000 in
theorem pchk18 (h : Hd18) (w : World) : Calls Tryz.prog 62 #[.agg #[.int .i64 h.o, .int .i64 h.n, .int .u32 h.so, .int .u32 h.sn, .int .i64 h.wi, .int .i64 h.lo]] w fun e w' => e = .returned (.int .i64 (if h.Ok then 0 else 180)) ∧ Below w.heap.size w w' := by
  by_cases hk : h.Ok
  · rw [if_pos hk]
    obtain ⟨ok, hok⟩ : ∃ ok, decide h.Ok = ok := ⟨_, rfl⟩
    have hok2 : Hid (decide h.Ok = ok) := hok
    have cA := cb16 w h.cs 41
    obtain ⟨wA, hwA⟩ : ∃ wA, wA = w.alloc (.cells h.cs 41) := ⟨_, rfl⟩
    rw [← hwA] at cA
    obtain ⟨b4, hb4⟩ : ∃ b4, b4 = w.heap.size := ⟨_, rfl⟩
    have HWA : Hid (w.alloc (.cells #[.int .i64 h.o, .int .i64 h.n, .int .u32 h.so, .int .u32 h.sn, .int .i64 h.wi, .int .i64 h.lo] 41) = wA) := hwA.symm
    have HB4 : Hid (w.heap.size = b4) := hb4.symm
    have q : wA.heap[b4]? = some (.cells h.cs 41 (0, 0)) := by rw [hb4]; exact cA.cl
    have HA : Hid (Below w.heap.size w wA) := cA.bl
    have HPF : Hid (∀ w1, Below wA.heap.size wA w1 → Fl18 wA.heap.size w1 → Calls Tryz.prog 92 #[.slice (some ⟨wA.heap.size + 8, 0, none⟩) 4 4, .pointer (some ⟨b4, 0, none⟩)] w1 fun e w' => e = .returned (.bool ok) ∧ Below w1.heap.size w1 w') := fun w1 b1 hF => by
      have := pfit18 wA.heap.size b4 h w1 hF ((b1.block _ (Array.getElem?_eq_some_iff.1 q).1).trans q)
      rw [hok] at this
      exact this
    clear hwA hb4 cA q hok
    have hk2 : ok = true := by rw [← hok2.out]; exact decide_eq_true hk
    subst hk2
    go_enter Tryz.func62, Tryz.ntmps62
    go_wp2_with fail
    rw [HWA.out, HB4.out]
    refine (phf18 wA).mono ?_
    rintro e1 w1 ⟨rfl, hF, b1⟩
    have PF := HPF.out w1 b1 hF
    have HB1 : Hid (Below w.heap.size w w1) := HA.out.trans (b1.mono HA.out.size)
    clear b1 hF
    go_wp2_with fail
    refine PF.mono ?_
    rintro e2 w2 ⟨rfl, b2⟩
    go_wp2_with fail
    go_ret
    exact ⟨rfl, HB1.out.trans (b2.mono HB1.out.size)⟩
  · rw [if_neg hk]
    obtain ⟨ok, hok⟩ : ∃ ok, decide h.Ok = ok := ⟨_, rfl⟩
    have hok2 : Hid (decide h.Ok = ok) := hok
    have cA := cb16 w h.cs 41
    obtain ⟨wA, hwA⟩ : ∃ wA, wA = w.alloc (.cells h.cs 41) := ⟨_, rfl⟩
    rw [← hwA] at cA
    obtain ⟨b4, hb4⟩ : ∃ b4, b4 = w.heap.size := ⟨_, rfl⟩
    have HWA : Hid (w.alloc (.cells #[.int .i64 h.o, .int .i64 h.n, .int .u32 h.so, .int .u32 h.sn, .int .i64 h.wi, .int .i64 h.lo] 41) = wA) := hwA.symm
    have HB4 : Hid (w.heap.size = b4) := hb4.symm
    have q : wA.heap[b4]? = some (.cells h.cs 41 (0, 0)) := by rw [hb4]; exact cA.cl
    have HA : Hid (Below w.heap.size w wA) := cA.bl
    have HPF : Hid (∀ w1, Below wA.heap.size wA w1 → Fl18 wA.heap.size w1 → Calls Tryz.prog 92 #[.slice (some ⟨wA.heap.size + 8, 0, none⟩) 4 4, .pointer (some ⟨b4, 0, none⟩)] w1 fun e w' => e = .returned (.bool ok) ∧ Below w1.heap.size w1 w') := fun w1 b1 hF => by
      have := pfit18 wA.heap.size b4 h w1 hF ((b1.block _ (Array.getElem?_eq_some_iff.1 q).1).trans q)
      rw [hok] at this
      exact this
    clear hwA hb4 cA q hok
    have hk2 : ok = false := by rw [← hok2.out]; exact decide_eq_false hk
    subst hk2
    go_enter Tryz.func62, Tryz.ntmps62
    go_wp2_with fail
    rw [HWA.out, HB4.out]
    refine (phf18 wA).mono ?_
    rintro e1 w1 ⟨rfl, hF, b1⟩
    have PF := HPF.out w1 b1 hF
    have HB1 : Hid (Below w.heap.size w w1) := HA.out.trans (b1.mono HA.out.size)
    clear b1 hF
    go_wp2_with fail
    refine PF.mono ?_
    rintro e2 w2 ⟨rfl, b2⟩
    go_wp2_with fail
    go_ret
    exact ⟨rfl, HB1.out.trans (b2.mono HB1.out.size)⟩
end Go.Proofs.YtalojcpgkgeofaaGreatDoor

namespace Go.Proofs.YtalojcpgkgeofaaGreatDoor
open Go.RowKit Go.Shelf
set_option linter.unusedVariables false

/-! outside, Size, sizeOver, Check. -/
abbrev ev16 (sa : Option Addr) (n sc : Nat) (da : Option Addr) (m dc : Nat) (xa : Option Addr) (k xc : Nat) : Value := .agg #[.slice sa n sc, .slice da m dc, .slice xa k xc]
/-- An edit lies in memory. -/
structure Ed16 (w : World) (sa : Option Addr) (n : Nat) (S : List St16) (da : Option Addr) (m : Nat) (D : List Int) (xa : Option Addr) (k : Nat) (X : List Int) : Prop where
  ss : SegS w sa S
  sd : Seg w da D
  sx : Seg w xa X
  hn : S.length = n
  hm : D.length = m
  hk : X.length = k
  ln : n ≤ 1073741824
  lm : m ≤ 1073741824
  lk : k ≤ 1073741824
theorem Ed16.old {w w' : World} {sa da xa : Option Addr} {n m k : Nat} {S : List St16} {D X : List Int} (h : Ed16 w sa n S da m D xa k X) (hb : Below w.heap.size w w') : Ed16 w' sa n S da m D xa k X :=
  ⟨h.ss.old hb, h.sd.old hb, h.sx.old hb, h.hn, h.hm, h.hk, h.ln, h.lm, h.lk⟩
def ob16 (S : List St16) (n : Nat) (old : Int) : Bool := decide (fi16 S n < 0 ∨ old < en16 S n)
def szR16 (S : List St16) (m k : Nat) : Value := .tuple #[.int .i64 (sz16 S m k : Int), .int .i64 (it16 S m k)]
variable {w : World} {sa da xa : Option Addr} {n sc m dc k xc : Nat} {S : List St16} {D X : List Int}
/-- The error of an edit over so many bytes. -/
def er16 (z : Nat) (S : List St16) (m k : Nat) : Int := if 16777216 < z then 1 else if it16 S m k ≠ 0 then it16 S m k else if ob16 S S.length (z : Int) = true then 161 else 0
theorem er16_far {z : Nat} {S : List St16} {m k : Nat} (h : 16777216 < z) : er16 z S m k = 1 := by unfold er16; rw [if_pos h]
theorem er16_it {z : Nat} {S : List St16} {m k : Nat} (h : ¬ 16777216 < z) (hi : it16 S m k ≠ 0) : er16 z S m k = it16 S m k := by unfold er16; rw [if_neg h, if_pos hi]
theorem er16_out {z : Nat} {S : List St16} {m k : Nat} (h : ¬ 16777216 < z) (hi : it16 S m k = 0) (ho : ob16 S S.length (z : Int) = true) : er16 z S m k = 161 := by unfold er16; rw [if_neg h, if_neg (by simpa using hi), if_pos ho]
theorem er16_ok {z : Nat} {S : List St16} {m k : Nat} (h : ¬ 16777216 < z) (hi : it16 S m k = 0) (ho : ob16 S S.length (z : Int) = false) : er16 z S m k = 0 := by unfold er16; rw [if_neg h, if_neg (by simpa using hi), ho]; rfl
theorem er16_zero {z : Nat} {S : List St16} {m k : Nat} (h : er16 z S m k = 0) : z ≤ 16777216 ∧ it16 S m k = 0 ∧ ob16 S S.length (z : Int) = false := by
  by_cases h1 : 16777216 < z
  · rw [er16_far h1] at h; cases h
  · by_cases h2 : it16 S m k = 0
    · cases h3 : ob16 S S.length (z : Int)
      · exact ⟨by omega, h2, rfl⟩
      · rw [er16_out h1 h2 h3] at h; cases h
    · rw [er16_it h1 h2] at h; exact absurd h h2
def ovR16 (z : Nat) (S : List St16) (m k : Nat) : Value := .tuple #[.int .i64 (if er16 z S m k = 0 then ((m + k : Nat) : Int) else 0), .int .i64 (er16 z S m k)]
end Go.Proofs.YtalojcpgkgeofaaGreatDoor

namespace Go.Proofs.YtalojcpgkgeofaaGreatDoor
open Go.RowKit Go.Shelf
set_option linter.unusedVariables false
attribute [local go_sem] Oper.semAt_some

/-! origins: where the bytes come from, one by one. -/
def ov16 (o : Og16) : Value := .agg #[.int .i64 o.1, .int .u8 o.2.1, .bool o.2.2]
def ol16 (l : List Og16) : List (Array Value) := l.map fun o => #[ov16 o]
theorem ol16_len (l : List Og16) : (ol16 l).length = l.length := by simp [ol16]
theorem ol16_get {l : List Og16} {i : Nat} {o : Og16} (h : l[i]? = some o) : (ol16 l)[i]? = some #[ov16 o] := by simp [ol16, h]
theorem SegK.kr {k : IntKind} {M : Int} {w w' : World} {D : Nat → Prop} {a : Option Addr} {zs : List Int} (h : SegK k M w a zs) (hb : Kr16 D w w') (hn : ∀ b off, a = some ⟨b, off, none⟩ → 0 < zs.length → D b) : SegK k M w' a zs :=
  h.of_cells fun b off i v hi ha hcl => hb.cell hcl (hn b off ha (by omega))
theorem roundIn_any16 {P : Program} {n n' l l' : Nat} {f : FuncId} {tmps : Array Value} {assign body : Code} {w : World} {R : Ending → World → Prop} (h : RoundIn Fence.wide n P l f tmps assign body w R) : RoundIn (Fence.wide.inRound l') n' P l f tmps assign body w R :=
  ⟨trivial, fun c cs _ => h.2 c cs (room_wide _)⟩
/-- Two boxes more. -/
structure Ob16 (w : World) (bD bX : Nat) (u v : Value) (t : TypeId) (w' : World) : Prop where
  bl : Below w.heap.size w w'
  nD : w.heap.size ≤ bD
  nX : w.heap.size ≤ bX
  ne : bD ≠ bX
  hD : w'.heap[bD]? = some (.cells #[u] t (0, 0))
  hX : w'.heap[bX]? = some (.cells #[v] t (0, 0))
theorem ob16a (w : World) (u v : Value) (t : TypeId) : Ob16 w w.heap.size (w.heap.size + 1) u v t ((w.alloc (.cells #[u] t)).alloc (.cells #[v] t)).drew := by
  refine ⟨(((Below.refl _ _).alloc (Nat.le_refl _) _).alloc (by simp) _).drew, Nat.le_refl _, by omega, by omega, ?_, ?_⟩
  · exact (Below.heap_alloc (w.alloc (.cells #[u] t)) _ w.heap.size (by simp)).trans (heap_alloc_new w _)
  · have := heap_alloc_new (w.alloc (.cells #[u] t)) (.cells #[v] t (0, 0))
    rw [show (w.alloc (.cells #[u] t)).heap.size = w.heap.size + 1 by simp] at this
    exact this
theorem ob16b (w : World) (u v : Value) (t : TypeId) : Ob16 w (w.heap.size + 1) w.heap.size u v t ((w.alloc (.cells #[v] t)).alloc (.cells #[u] t)).drew := by
  have h := ob16a w v u t
  exact ⟨h.bl, h.nX, h.nD, Ne.symm h.ne, h.hX, h.hD⟩
/-- A box holds what is left of a list. -/
def Bl16 (V : World) (R : Nat → Prop) (b : Nat) (L : List Int) (t : TypeId) : Prop := ∃ pa pc, V.heap[b]? = some (.cells #[.slice pa L.length pc] t (0, 0)) ∧ Seg V pa L ∧ L.length ≤ pc ∧ ∀ x off, pa = some ⟨x, off, none⟩ → 0 < L.length → R x
theorem Bl16.kr {V V' : World} {R G : Nat → Prop} {b : Nat} {L : List Int} {t : TypeId} (h : Bl16 V R b L t) (hk : Kr16 G V V') (hb : G b) (hR : ∀ k, R k → G k) : Bl16 V' R b L t := by
  obtain ⟨pa, pc, h1, h2, h3, h4⟩ := h
  exact ⟨pa, pc, hk.heap h1 hb, h2.kr hk (fun x off e hl => hR _ (h4 x off e hl)), h3, h4⟩
/-- What is left behind a reslice. -/
def rs16 (a : Option Addr) (c d : Nat) : Option Addr := if c = d then a else a.map fun x => x.add d
theorem seg_rs16 {V : World} {a : Option Addr} {L : List Int} {c d : Nat} (h : Seg V a L) (hd : d ≤ L.length) (hc : L.length ≤ c) : Seg V (rs16 a c d) (L.drop d) ∧ ∀ x off, rs16 a c d = some ⟨x, off, none⟩ → 0 < (L.drop d).length → ∃ o, a = some ⟨x, o, none⟩ := by
  unfold rs16
  by_cases h0 : L.drop d = []
  · rw [h0]
    exact ⟨SegK.nil (by decide) _ _, fun _ _ _ hl => by simp at hl⟩
  · have hl : d < L.length := by
      rcases Nat.lt_or_ge d L.length with x | x
      · exact x
      · exact absurd (List.drop_eq_nil_of_le x) h0
    rw [if_neg (by omega)]
    obtain ⟨b, off, rfl, _⟩ := h.at_ 0 (by omega)
    have hadd : (⟨b, off, none⟩ : Addr).add d = ⟨b, off + d, none⟩ := by simp [Addr.add]
    simp only [Option.map_some, hadd]
    refine ⟨h.drop d, fun x o e _ => ?_⟩
    have e2 : some (⟨b, off + d, none⟩ : Addr) = some ⟨x, o, none⟩ := e
    injection e2 with e2
    injection e2 with e3 e4
    subst e3
    exact ⟨off, rfl⟩
/-- The state of origins' own loop. -/
structure Oi16 (W : World) (R : Nat → Prop) (J : Nat → (Nat → Prop) → World → Prop) (l : Nat) (S : List St16) (D X : List Int) (bY bD bX Bw N : Nat) (i : Nat) (E F : Nat → Prop) (V : World) : Prop where
  ef : ∀ k, E k → F k
  fY : F bY
  fD : F bD
  fX : F bX
  fw : F Bw
  lo : Lo16 W.heap.size F V
  j : J (sa16 S i + sc16 S i) F V
  hY : V.heap[bY]? = some (.cells #[.func (.yield l) #[] #[]] 400 (0, 0))
  hD : Bl16 V R bD (D.drop (sa16 S i)) 26
  hX : Bl16 V R bX (X.drop (sc16 S i)) 26
  kr : Kr16 R W V
  sz : N ≤ V.heap.size
theorem Oi16.step {W : World} {R : Nat → Prop} {J : Nat → (Nat → Prop) → World → Prop} {l : Nat} {S : List St16} {D X : List Int} {bY bD bX Bw N i : Nat} {E E' F : Nat → Prop} {V V' : World} (hJ : Abd16 W.heap.size J) (hN : W.heap.size ≤ N) (hRl : ∀ k, R k → k < W.heap.size)
    (hl : bY < N ∧ bD < N ∧ bX < N) (h : Oi16 W R J l S D X bY bD bX Bw N i E F V) (hlo : Lo16 N E V) (hk : Kp E V V') (h1 : ∀ k, E k → E' k) (h2 : ∀ k, E' k → E k ∨ V.heap.size ≤ k) (h3 : Lo16 N E' V') (G : Nat → Prop) (hG : ∀ k, G k → V.heap.size ≤ k ∧ k < V'.heap.size) : Oi16 W R J l S D X bY bD bX Bw N i E' (fun k => (F k ∨ E' k) ∨ G k) V' := by
  have hs := hk.size
  have hkr : Kr16 (fun k => R k ∨ k = bY ∨ k = bD ∨ k = bX) V V' := Kr16.of_kp hk (by
    rintro k (x | x | x | x) e
    · have := hRl k x; have := hlo k e; omega
    · have := hlo k e; omega
    · have := hlo k e; omega
    · have := hlo k e; omega)
  have hsz := h.sz
  have lo2 : Lo16 W.heap.size (fun k => (F k ∨ E' k) ∨ G k) V' := by
    rintro k ((x | x) | x)
    · have := h.lo k x; omega
    · have := h3 k x; omega
    · have := hG k x; omega
  refine ⟨fun k x => .inl (.inr x), .inl (.inl h.fY), .inl (.inl h.fD), .inl (.inl h.fX), .inl (.inl h.fw), lo2, ?_, hkr.heap h.hY (.inr (.inl rfl)), h.hD.kr hkr (.inr (.inr (.inl rfl))) (fun k x => .inl x), h.hX.kr hkr (.inr (.inr (.inr rfl))) (fun k x => .inl x), h.kr.trans (hkr.mono fun k x => .inl x), by have := h.sz; omega⟩
  refine hJ _ F _ V V' h.j h.lo (hk.mono fun k _ x => h.ef k x) (fun k x => .inl (.inl x)) ?_ lo2
  rintro k ((x | x) | x)
  · exact .inl x
  · rcases h2 k x with y | y
    · exact .inl (h.ef k y)
    · exact .inr y
  · exact .inr (hG k x).1
end Go.Proofs.YtalojcpgkgeofaaGreatDoor
