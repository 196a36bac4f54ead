import Derived.Test.YtpodakndckflgaaGreatDoorPa
import Derived.Laws.MakeOwn
namespace Go.Proofs.YtpodakndckflgaaGreatDoor
open Go.RowKit
set_option linter.unusedVariables false
def bd18 : Nat → Int
  | 0 => 0
  | 1 => 16777216
  | 2 => 0
  | 3 => 16777216
  | 4 => 64
  | 5 => 65536
  | 6 => 1
  | _ => 32768
structure Fl18 (B : Nat) (W : World) : Prop where
  fl : W.heap[B + 8]? = some (.cells (fl18 B) 126 (0, 0))
  bx : ∀ k, k < 8 → W.heap[B + k]? = some (.cells #[.int .i64 (bd18 k)] 3 (0, 0))
theorem Fl18.old {B : Nat} {W W' : World} (h : Fl18 B W) (hb : Below W.heap.size W W') : Fl18 B W' :=
  ⟨(hb.block _ (Array.getElem?_eq_some_iff.1 h.fl).1).trans h.fl, fun k hk => (hb.block _ (Array.getElem?_eq_some_iff.1 (h.bx k hk)).1).trans (h.bx k hk)⟩
structure Tw18 (w : World) (x y : Int) (w' : World) : Prop where
  bl : Below w.heap.size w w'
  sz : w'.heap.size = w.heap.size + 2
  c0 : w'.heap[w.heap.size]? = some (.cells #[.int .i64 x] 3 (0, 0))
  c1 : w'.heap[w.heap.size + 1]? = some (.cells #[.int .i64 y] 3 (0, 0))
theorem tw18 (w : World) (x y : Int) : Tw18 w x y ((w.alloc (.cells #[.int .i64 x] 3)).alloc (.cells #[.int .i64 y] 3)) := by
  have a := cb16 w #[.int .i64 x] 3
  have b := cb16 (w.alloc (.cells #[.int .i64 x] 3)) #[.int .i64 y] 3
  refine ⟨a.bl.trans (b.bl.mono a.bl.size), by rw [b.sz, a.sz], ?_, ?_⟩
  · exact (b.bl.block _ (by rw [a.sz]; omega)).trans a.cl
  · have := b.cl; rw [a.sz] at this; exact this
set_option maxRecDepth 100000 in
theorem pbt18 (p q : Nat) (v : Value) (x y : Int) (w : World) (hp : w.heap[p]? = some (.cells #[.int .i64 x] 3 (0, 0))) (hq : w.heap[q]? = some (.cells #[.int .i64 y] 3 (0, 0))) :
    Calls Tryz.prog 80 #[v, .pointer (some ⟨p, 0, none⟩), .pointer (some ⟨q, 0, none⟩)] w fun e w' => e = .returned (.tuple #[.int .i64 x, .int .i64 y]) ∧ Below w.heap.size w w' := by
  have c1 : w.drew.cell? ⟨p, 0, none⟩ = some (.int .i64 x) := one_cell16 hp
  have c2 : w.drew.cell? ⟨q, 0, none⟩ = some (.int .i64 y) := one_cell16 hq
  go_enter Tryz.func80, Tryz.ntmps80
  go_wp2
  go_region
  all_goals
    go_wp2
    go_ret2
    exact ⟨rfl, (Below.refl _ _).drew⟩
set_option maxRecDepth 100000 in
theorem phf18_1 (b : Nat) (w : World) (h : ∃ v, w.cell? ⟨b, 0, none⟩ = some v) : Calls Tryz.prog 58 #[.pointer (some ⟨b, 0, none⟩)] w fun e w' => e = .returned (.pointer (some ⟨b, 0, none⟩)) ∧ w' = w := by
  obtain ⟨v, h⟩ := h
  go_enter Tryz.func58, Tryz.ntmps58
  go_wp2
  go_ret
  exact ⟨rfl, rfl⟩
set_option maxRecDepth 100000 in
theorem phf18_2 (b : Nat) (w : World) (h : ∃ v, w.cell? ⟨b, 0, none⟩ = some v) : Calls Tryz.prog 60 #[.pointer (some ⟨b, 0, none⟩)] w fun e w' => e = .returned (.pointer (some ⟨b, 1, none⟩)) ∧ w' = w := by
  obtain ⟨v, h⟩ := h
  go_enter Tryz.func60, Tryz.ntmps60
  go_wp2
  go_ret
  exact ⟨rfl, rfl⟩
set_option maxRecDepth 100000 in
theorem phf18_3 (b : Nat) (w : World) (h : ∃ v, w.cell? ⟨b, 0, none⟩ = some v) : Calls Tryz.prog 61 #[.pointer (some ⟨b, 0, none⟩)] w fun e w' => e = .returned (.pointer (some ⟨b, 4, none⟩)) ∧ w' = w := by
  obtain ⟨v, h⟩ := h
  go_enter Tryz.func61, Tryz.ntmps61
  go_wp2
  go_ret
  exact ⟨rfl, rfl⟩
set_option maxRecDepth 100000 in
theorem phf18_4 (b : Nat) (w : World) (h : ∃ v, w.cell? ⟨b, 0, none⟩ = some v) : Calls Tryz.prog 62 #[.pointer (some ⟨b, 0, none⟩)] w fun e w' => e = .returned (.pointer (some ⟨b, 5, none⟩)) ∧ w' = w := by
  obtain ⟨v, h⟩ := h
  go_enter Tryz.func62, Tryz.ntmps62
  go_wp2
  go_ret
  exact ⟨rfl, rfl⟩
set_option maxRecDepth 100000 in
set_option maxHeartbeats 4000000 in
theorem phf18 (w : World) : Calls Tryz.prog 42 #[] w fun e w' => e = .returned (.slice (some ⟨w.heap.size + 8, 0, none⟩) 4 4) ∧ Fl18 w.heap.size w' ∧ Below w.heap.size w w' := by
  go_enter Tryz.func42, Tryz.ntmps42
  go_wp2_with fail
  refine (pbtw18 0 16777216 w).mono ?_
  rintro e1 w1 ⟨rfl, h1⟩
  have t1 : Tw18 w 0 16777216 w1 := by rw [h1]; exact tw18 _ _ _
  clear h1
  go_wp2_with fail
  refine (pbtw18 0 16777216 w1).mono ?_
  rintro e2 w2 ⟨rfl, h2⟩
  have t2 : Tw18 w1 0 16777216 w2 := by rw [h2]; exact tw18 _ _ _
  clear h2
  go_wp2_with fail
  refine (pbtw18 64 65536 w2).mono ?_
  rintro e3 w3 ⟨rfl, h3⟩
  have t3 : Tw18 w2 64 65536 w3 := by rw [h3]; exact tw18 _ _ _
  clear h3
  go_wp2_with fail
  refine (pbtw18 1 32768 w3).mono ?_
  rintro e4 w4 ⟨rfl, h4⟩
  have t4 : Tw18 w3 1 32768 w4 := by rw [h4]; exact tw18 _ _ _
  clear h4
  have HT : Hid (Tw18 w 0 16777216 w1 ∧ Tw18 w1 0 16777216 w2 ∧ Tw18 w2 64 65536 w3 ∧ Tw18 w3 1 32768 w4) := ⟨t1, t2, t3, t4⟩
  clear t1 t2 t3 t4
  go_wp2_with fail
  obtain ⟨t1, t2, t3, t4⟩ := HT.out
  have z1 := t1.sz
  have z2 := t2.sz
  have z3 := t3.sz
  have z4 := t4.sz
  have y2 : w2.heap.size = w.heap.size + 4 := by omega
  have y3 : w3.heap.size = w.heap.size + 6 := by omega
  have y4 : w4.heap.size = w.heap.size + 8 := by omega
  have cL := cb16 w4 (fl18 w.heap.size) 126
  have b14 : Below w1.heap.size w1 w4 := t2.bl.trans ((t3.bl.trans (t4.bl.mono t3.bl.size)).mono t2.bl.size)
  have b24 : Below w2.heap.size w2 w4 := t3.bl.trans (t4.bl.mono t3.bl.size)
  have b04 : Below w.heap.size w w4 := t1.bl.trans (b14.mono t1.bl.size)
  have b1L := b14.trans (cL.bl.mono b14.size)
  have b2L := b24.trans (cL.bl.mono b24.size)
  have b3L := t4.bl.trans (cL.bl.mono t4.bl.size)
  rw [z1, y2, y3, y4]
  go_ret
  refine ⟨rfl, ⟨?_, ?_⟩, b04.trans (cL.bl.mono b04.size)⟩
  · have := cL.cl; rw [y4] at this; exact this
  · intro k hk
    match k, hk with
    | 0, _ => exact (b1L.block _ (by omega)).trans t1.c0
    | 1, _ => exact (b1L.block _ (by omega)).trans t1.c1
    | 2, _ => have h := t2.c0; rw [z1] at h; exact (b2L.block _ (by omega)).trans h
    | 3, _ => have h := t2.c1; rw [z1] at h; exact (b2L.block _ (by omega)).trans h
    | 4, _ => have h := t3.c0; rw [y2] at h; exact (b3L.block _ (by omega)).trans h
    | 5, _ => have h := t3.c1; rw [y2] at h; exact (b3L.block _ (by omega)).trans h
    | 6, _ => have h := t4.c0; rw [y3] at h; exact (cL.bl.block _ (by omega)).trans h
    | 7, _ => have h := t4.c1; rw [y3] at h; exact (cL.bl.block _ (by omega)).trans h
end Go.Proofs.YtpodakndckflgaaGreatDoor

namespace Go.Proofs.YtpodakndckflgaaGreatDoor
open Go.RowKit
set_option linter.unusedVariables false
theorem cell18 {W : World} {b k : Nat} {cs : Array Value} {t : TypeId} {v : Value} (h : W.heap[b]? = some (.cells cs t (0, 0))) (hk : cs[k]? = some v) : W.cell? ⟨b, k, none⟩ = some v := by simp [World.cell?, h, hk]
/-- The first i fields may be. -/
def Fi18 (h : Hd18) (i : Nat) : Prop := (0 < i → 0 ≤ h.o ∧ h.o ≤ 16777216) ∧ (1 < i → 0 ≤ h.n ∧ h.n ≤ 16777216) ∧ (2 < i → 64 ≤ h.wi ∧ h.wi ≤ 65536) ∧ (3 < i → 1 ≤ h.lo ∧ h.lo ≤ 32768)
theorem Fi18.all {h : Hd18} (f : Fi18 h 4) : h.Ok := ⟨f.1 (by omega), f.2.1 (by omega), f.2.2.1 (by omega), f.2.2.2 (by omega)⟩
set_option maxRecDepth 100000 in
set_option maxHeartbeats 8000000 in
theorem pfit18 (B hb : Nat) (h : Hd18) (w : World) (hF : Fl18 B w) (hq : w.heap[hb]? = some (.cells h.cs 34 (0, 0))) :
    Calls Tryz.prog 55 #[.slice (some ⟨B + 8, 0, none⟩) 4 4, .pointer (some ⟨hb, 0, none⟩)] w fun e w' => e = .returned (.bool (decide h.Ok)) ∧ Below w.heap.size w w' := by
  have HF : Hid (∀ V, Below w.heap.size w V → Fl18 B V) := fun V hV => hF.old hV
  have HQ : Hid (∀ V, Below w.heap.size w V → V.heap[hb]? = some (.cells h.cs 34 (0, 0))) := fun V hV => (hV.block _ (Array.getElem?_eq_some_iff.1 hq).1).trans hq
  obtain ⟨ok, hok⟩ : ∃ ok, ok = decide h.Ok := ⟨_, rfl⟩
  have HOK : Hid (ok = decide h.Ok) := hok
  rw [← hok]
  clear hF hq hok
  go_enter Tryz.func55, Tryz.ntmps55
  go_wp2_with fail
  go_loopw [12] (fun t12 V => ∃ i : Nat, i ≤ 4 ∧ t12 = .int .i64 (i : Int) ∧ Fi18 h i ∧ Below w.heap.size w V) (fun t12 _ => 4 - (intOf t12).toNat)
  case atStart => exact ⟨0, by omega, rfl, ⟨by omega, by omega, by omega, by omega⟩, Below.refl _ _⟩
  case round =>
    obtain ⟨i, hi4, rfl, hfi, hB⟩ := hrel
    have HFI : Hid (Fi18 h i) := hfi
    have HB : Hid (Below w.heap.size w wr) := hB
    have hFl := HF.out wr hB
    clear hfi hB
    rcases (by omega : i = 0 ∨ i = 1 ∨ i = 2 ∨ i = 3 ∨ i = 4) with rfl | rfl | rfl | rfl | rfl
    · have f0 : wr.cell? ⟨B + 8, 0, none⟩ = some (.func (.func 58) #[] #[]) := cell18 hFl.fl rfl
      have f1 : wr.cell? ⟨B + 8, 1, none⟩ = some (.func (.func 80) #[] #[.pointer (some ⟨B, 0, none⟩), .pointer (some ⟨B + 1, 0, none⟩)]) := cell18 hFl.fl rfl
      obtain ⟨wB, hwB⟩ : ∃ wB, wB = wr.alloc (.cells #[.func (.func 58) #[] #[], .func (.func 80) #[] #[.pointer (some ⟨B, 0, none⟩), .pointer (some ⟨B + 1, 0, none⟩)]] 126) := ⟨_, rfl⟩
      have cB := cb16 wr #[.func (.func 58) #[] #[], .func (.func 80) #[] #[.pointer (some ⟨B, 0, none⟩), .pointer (some ⟨B + 1, 0, none⟩)]] 126
      rw [← hwB] at cB
      obtain ⟨bs, hbs⟩ : ∃ bs, bs = wr.heap.size := ⟨_, rfl⟩
      have HBB : Hid (Below w.heap.size w wB) := HB.out.trans (cB.bl.mono HB.out.size)
      have HCB : Hid (∀ V, Below wB.heap.size wB V → V.cell? ⟨bs, 0, none⟩ = some (.func (.func 58) #[] #[]) ∧ V.cell? ⟨bs, 1, none⟩ = some (.func (.func 80) #[] #[.pointer (some ⟨B, 0, none⟩), .pointer (some ⟨B + 1, 0, none⟩)])) := fun V hV => by
        have q0 := cB.cl
        rw [← hbs] at q0
        have q := (hV.block bs (by have := cB.sz; omega)).trans q0
        exact ⟨cell18 q rfl, cell18 q rfl⟩
      have hFB := HF.out wB HBB.out
      have CB := pbt18 B (B + 1) (.pointer (some ⟨hb, 0, none⟩)) 0 16777216 wB (hFB.bx 0 (by omega)) (hFB.bx 1 (by omega))
      have HCV : Hid (∀ V, Below wB.heap.size wB V → V.cell? ⟨hb, 0, none⟩ = some (.int .i64 h.o) ∧ ∃ v, V.cell? ⟨hb, 0, none⟩ = some v) := fun V hV => by
        have q := HQ.out V (HBB.out.trans (hV.mono HBB.out.size))
        exact ⟨cell18 q rfl, _, cell18 (k := 0) q rfl⟩
      have HWB : Hid (wr.alloc (.cells #[.func (.func 58) #[] #[], .func (.func 80) #[] #[.pointer (some ⟨B, 0, none⟩), .pointer (some ⟨B + 1, 0, none⟩)]] 126) = wB) := hwB.symm
      have HBS : Hid (wr.heap.size = bs) := hbs.symm
      have HNX : Hid (0 ≤ h.o → h.o ≤ 16777216 → Fi18 h 1) := fun a b => by
        obtain ⟨g0, g1, g2, g3⟩ := HFI.out
        refine ⟨fun _ => ?_, fun _ => ?_, fun _ => ?_, fun _ => ?_⟩
        all_goals first | omega | exact g0 (by omega) | exact g1 (by omega) | exact g2 (by omega) | exact g3 (by omega) | exact ⟨by omega, by omega⟩
      have HNO : Hid (h.o < 0 ∨ 16777216 < h.o → ok = false) := fun a => by
        rw [HOK.out]
        refine decide_eq_false (fun x => ?_)
        obtain ⟨x0, x1, x2, x3⟩ := x
        omega
      clear hwB cB hbs hFl hFB HFI
      generalize h.o = v at *
      go_wp2_with fail
      rw [HWB.out, HBS.out]
      refine CB.mono ?_
      rintro e1 w1 ⟨rfl, b1⟩
      have HB1 : Hid (Below wB.heap.size wB w1) := b1
      obtain ⟨g0, g1⟩ := HCB.out w1 b1
      have CA := phf18_1 hb w1 (HCV.out w1 b1).2
      obtain ⟨cv, -⟩ := HCV.out w1 b1
      clear b1 CB f0 f1
      by_cases hlo : v < 0
      · have hk := HNO.out (.inl hlo)
        subst hk
        go_wp2_with fail
        refine CA.mono ?_
        rintro e2 w2 ⟨rfl, hw2⟩
        subst w2
        go_wp2_with fail
        go_ret
        exact ⟨rfl, HBB.out.trans (HB1.out.mono HBB.out.size)⟩
      · by_cases hhi : 16777216 < v
        · have hk := HNO.out (.inr hhi)
          subst hk
          go_wp2_with fail
          refine CA.mono ?_
          rintro e2 w2 ⟨rfl, hw2⟩
          subst w2
          go_wp2_with fail
          go_ret
          exact ⟨rfl, HBB.out.trans (HB1.out.mono HBB.out.size)⟩
        · have hn := HNX.out (by omega) (by omega)
          have hn : Hid (Fi18 h 1) := hn
          go_wp2_with fail
          refine CA.mono ?_
          rintro e2 w2 ⟨rfl, hw2⟩
          subst w2
          go_wp2_with fail
          go_roundw
          case rel => exact ⟨1, by omega, rfl, hn.out, HBB.out.trans (HB1.out.mono HBB.out.size)⟩
          case measure => simp [intOf]
    · have f0 : wr.cell? ⟨B + 8, 2, none⟩ = some (.func (.func 60) #[] #[]) := cell18 hFl.fl rfl
      have f1 : wr.cell? ⟨B + 8, 3, none⟩ = some (.func (.func 80) #[] #[.pointer (some ⟨B + 2, 0, none⟩), .pointer (some ⟨B + 3, 0, none⟩)]) := cell18 hFl.fl rfl
      obtain ⟨wB, hwB⟩ : ∃ wB, wB = wr.alloc (.cells #[.func (.func 60) #[] #[], .func (.func 80) #[] #[.pointer (some ⟨B + 2, 0, none⟩), .pointer (some ⟨B + 3, 0, none⟩)]] 126) := ⟨_, rfl⟩
      have cB := cb16 wr #[.func (.func 60) #[] #[], .func (.func 80) #[] #[.pointer (some ⟨B + 2, 0, none⟩), .pointer (some ⟨B + 3, 0, none⟩)]] 126
      rw [← hwB] at cB
      obtain ⟨bs, hbs⟩ : ∃ bs, bs = wr.heap.size := ⟨_, rfl⟩
      have HBB : Hid (Below w.heap.size w wB) := HB.out.trans (cB.bl.mono HB.out.size)
      have HCB : Hid (∀ V, Below wB.heap.size wB V → V.cell? ⟨bs, 0, none⟩ = some (.func (.func 60) #[] #[]) ∧ V.cell? ⟨bs, 1, none⟩ = some (.func (.func 80) #[] #[.pointer (some ⟨B + 2, 0, none⟩), .pointer (some ⟨B + 3, 0, none⟩)])) := fun V hV => by
        have q0 := cB.cl
        rw [← hbs] at q0
        have q := (hV.block bs (by have := cB.sz; omega)).trans q0
        exact ⟨cell18 q rfl, cell18 q rfl⟩
      have hFB := HF.out wB HBB.out
      have CB := pbt18 (B + 2) (B + 3) (.pointer (some ⟨hb, 0, none⟩)) 0 16777216 wB (hFB.bx 2 (by omega)) (hFB.bx 3 (by omega))
      have HCV : Hid (∀ V, Below wB.heap.size wB V → V.cell? ⟨hb, 1, none⟩ = some (.int .i64 h.n) ∧ ∃ v, V.cell? ⟨hb, 0, none⟩ = some v) := fun V hV => by
        have q := HQ.out V (HBB.out.trans (hV.mono HBB.out.size))
        exact ⟨cell18 q rfl, _, cell18 (k := 0) q rfl⟩
      have HWB : Hid (wr.alloc (.cells #[.func (.func 60) #[] #[], .func (.func 80) #[] #[.pointer (some ⟨B + 2, 0, none⟩), .pointer (some ⟨B + 3, 0, none⟩)]] 126) = wB) := hwB.symm
      have HBS : Hid (wr.heap.size = bs) := hbs.symm
      have HNX : Hid (0 ≤ h.n → h.n ≤ 16777216 → Fi18 h 2) := fun a b => by
        obtain ⟨g0, g1, g2, g3⟩ := HFI.out
        refine ⟨fun _ => ?_, fun _ => ?_, fun _ => ?_, fun _ => ?_⟩
        all_goals first | omega | exact g0 (by omega) | exact g1 (by omega) | exact g2 (by omega) | exact g3 (by omega) | exact ⟨by omega, by omega⟩
      have HNO : Hid (h.n < 0 ∨ 16777216 < h.n → ok = false) := fun a => by
        rw [HOK.out]
        refine decide_eq_false (fun x => ?_)
        obtain ⟨x0, x1, x2, x3⟩ := x
        omega
      clear hwB cB hbs hFl hFB HFI
      generalize h.n = v at *
      go_wp2_with fail
      rw [HWB.out, HBS.out]
      refine CB.mono ?_
      rintro e1 w1 ⟨rfl, b1⟩
      have HB1 : Hid (Below wB.heap.size wB w1) := b1
      obtain ⟨g0, g1⟩ := HCB.out w1 b1
      have CA := phf18_2 hb w1 (HCV.out w1 b1).2
      obtain ⟨cv, -⟩ := HCV.out w1 b1
      clear b1 CB f0 f1
      by_cases hlo : v < 0
      · have hk := HNO.out (.inl hlo)
        subst hk
        go_wp2_with fail
        refine CA.mono ?_
        rintro e2 w2 ⟨rfl, hw2⟩
        subst w2
        go_wp2_with fail
        go_ret
        exact ⟨rfl, HBB.out.trans (HB1.out.mono HBB.out.size)⟩
      · by_cases hhi : 16777216 < v
        · have hk := HNO.out (.inr hhi)
          subst hk
          go_wp2_with fail
          refine CA.mono ?_
          rintro e2 w2 ⟨rfl, hw2⟩
          subst w2
          go_wp2_with fail
          go_ret
          exact ⟨rfl, HBB.out.trans (HB1.out.mono HBB.out.size)⟩
        · have hn := HNX.out (by omega) (by omega)
          have hn : Hid (Fi18 h 2) := hn
          go_wp2_with fail
          refine CA.mono ?_
          rintro e2 w2 ⟨rfl, hw2⟩
          subst w2
          go_wp2_with fail
          go_roundw
          case rel => exact ⟨2, by omega, rfl, hn.out, HBB.out.trans (HB1.out.mono HBB.out.size)⟩
          case measure => simp [intOf]
    · have f0 : wr.cell? ⟨B + 8, 4, none⟩ = some (.func (.func 61) #[] #[]) := cell18 hFl.fl rfl
      have f1 : wr.cell? ⟨B + 8, 5, none⟩ = some (.func (.func 80) #[] #[.pointer (some ⟨B + 4, 0, none⟩), .pointer (some ⟨B + 5, 0, none⟩)]) := cell18 hFl.fl rfl
      obtain ⟨wB, hwB⟩ : ∃ wB, wB = wr.alloc (.cells #[.func (.func 61) #[] #[], .func (.func 80) #[] #[.pointer (some ⟨B + 4, 0, none⟩), .pointer (some ⟨B + 5, 0, none⟩)]] 126) := ⟨_, rfl⟩
      have cB := cb16 wr #[.func (.func 61) #[] #[], .func (.func 80) #[] #[.pointer (some ⟨B + 4, 0, none⟩), .pointer (some ⟨B + 5, 0, none⟩)]] 126
      rw [← hwB] at cB
      obtain ⟨bs, hbs⟩ : ∃ bs, bs = wr.heap.size := ⟨_, rfl⟩
      have HBB : Hid (Below w.heap.size w wB) := HB.out.trans (cB.bl.mono HB.out.size)
      have HCB : Hid (∀ V, Below wB.heap.size wB V → V.cell? ⟨bs, 0, none⟩ = some (.func (.func 61) #[] #[]) ∧ V.cell? ⟨bs, 1, none⟩ = some (.func (.func 80) #[] #[.pointer (some ⟨B + 4, 0, none⟩), .pointer (some ⟨B + 5, 0, none⟩)])) := fun V hV => by
        have q0 := cB.cl
        rw [← hbs] at q0
        have q := (hV.block bs (by have := cB.sz; omega)).trans q0
        exact ⟨cell18 q rfl, cell18 q rfl⟩
      have hFB := HF.out wB HBB.out
      have CB := pbt18 (B + 4) (B + 5) (.pointer (some ⟨hb, 0, none⟩)) 64 65536 wB (hFB.bx 4 (by omega)) (hFB.bx 5 (by omega))
      have HCV : Hid (∀ V, Below wB.heap.size wB V → V.cell? ⟨hb, 4, none⟩ = some (.int .i64 h.wi) ∧ ∃ v, V.cell? ⟨hb, 0, none⟩ = some v) := fun V hV => by
        have q := HQ.out V (HBB.out.trans (hV.mono HBB.out.size))
        exact ⟨cell18 q rfl, _, cell18 (k := 0) q rfl⟩
      have HWB : Hid (wr.alloc (.cells #[.func (.func 61) #[] #[], .func (.func 80) #[] #[.pointer (some ⟨B + 4, 0, none⟩), .pointer (some ⟨B + 5, 0, none⟩)]] 126) = wB) := hwB.symm
      have HBS : Hid (wr.heap.size = bs) := hbs.symm
      have HNX : Hid (64 ≤ h.wi → h.wi ≤ 65536 → Fi18 h 3) := fun a b => by
        obtain ⟨g0, g1, g2, g3⟩ := HFI.out
        refine ⟨fun _ => ?_, fun _ => ?_, fun _ => ?_, fun _ => ?_⟩
        all_goals first | omega | exact g0 (by omega) | exact g1 (by omega) | exact g2 (by omega) | exact g3 (by omega) | exact ⟨by omega, by omega⟩
      have HNO : Hid (h.wi < 64 ∨ 65536 < h.wi → ok = false) := fun a => by
        rw [HOK.out]
        refine decide_eq_false (fun x => ?_)
        obtain ⟨x0, x1, x2, x3⟩ := x
        omega
      clear hwB cB hbs hFl hFB HFI
      generalize h.wi = v at *
      go_wp2_with fail
      rw [HWB.out, HBS.out]
      refine CB.mono ?_
      rintro e1 w1 ⟨rfl, b1⟩
      have HB1 : Hid (Below wB.heap.size wB w1) := b1
      obtain ⟨g0, g1⟩ := HCB.out w1 b1
      have CA := phf18_3 hb w1 (HCV.out w1 b1).2
      obtain ⟨cv, -⟩ := HCV.out w1 b1
      clear b1 CB f0 f1
      by_cases hlo : v < 64
      · have hk := HNO.out (.inl hlo)
        subst hk
        go_wp2_with fail
        refine CA.mono ?_
        rintro e2 w2 ⟨rfl, hw2⟩
        subst w2
        go_wp2_with fail
        go_ret
        exact ⟨rfl, HBB.out.trans (HB1.out.mono HBB.out.size)⟩
      · by_cases hhi : 65536 < v
        · have hk := HNO.out (.inr hhi)
          subst hk
          go_wp2_with fail
          refine CA.mono ?_
          rintro e2 w2 ⟨rfl, hw2⟩
          subst w2
          go_wp2_with fail
          go_ret
          exact ⟨rfl, HBB.out.trans (HB1.out.mono HBB.out.size)⟩
        · have hn := HNX.out (by omega) (by omega)
          have hn : Hid (Fi18 h 3) := hn
          go_wp2_with fail
          refine CA.mono ?_
          rintro e2 w2 ⟨rfl, hw2⟩
          subst w2
          go_wp2_with fail
          go_roundw
          case rel => exact ⟨3, by omega, rfl, hn.out, HBB.out.trans (HB1.out.mono HBB.out.size)⟩
          case measure => simp [intOf]
    · have f0 : wr.cell? ⟨B + 8, 6, none⟩ = some (.func (.func 62) #[] #[]) := cell18 hFl.fl rfl
      have f1 : wr.cell? ⟨B + 8, 7, none⟩ = some (.func (.func 80) #[] #[.pointer (some ⟨B + 6, 0, none⟩), .pointer (some ⟨B + 7, 0, none⟩)]) := cell18 hFl.fl rfl
      obtain ⟨wB, hwB⟩ : ∃ wB, wB = wr.alloc (.cells #[.func (.func 62) #[] #[], .func (.func 80) #[] #[.pointer (some ⟨B + 6, 0, none⟩), .pointer (some ⟨B + 7, 0, none⟩)]] 126) := ⟨_, rfl⟩
      have cB := cb16 wr #[.func (.func 62) #[] #[], .func (.func 80) #[] #[.pointer (some ⟨B + 6, 0, none⟩), .pointer (some ⟨B + 7, 0, none⟩)]] 126
      rw [← hwB] at cB
      obtain ⟨bs, hbs⟩ : ∃ bs, bs = wr.heap.size := ⟨_, rfl⟩
      have HBB : Hid (Below w.heap.size w wB) := HB.out.trans (cB.bl.mono HB.out.size)
      have HCB : Hid (∀ V, Below wB.heap.size wB V → V.cell? ⟨bs, 0, none⟩ = some (.func (.func 62) #[] #[]) ∧ V.cell? ⟨bs, 1, none⟩ = some (.func (.func 80) #[] #[.pointer (some ⟨B + 6, 0, none⟩), .pointer (some ⟨B + 7, 0, none⟩)])) := fun V hV => by
        have q0 := cB.cl
        rw [← hbs] at q0
        have q := (hV.block bs (by have := cB.sz; omega)).trans q0
        exact ⟨cell18 q rfl, cell18 q rfl⟩
      have hFB := HF.out wB HBB.out
      have CB := pbt18 (B + 6) (B + 7) (.pointer (some ⟨hb, 0, none⟩)) 1 32768 wB (hFB.bx 6 (by omega)) (hFB.bx 7 (by omega))
      have HCV : Hid (∀ V, Below wB.heap.size wB V → V.cell? ⟨hb, 5, none⟩ = some (.int .i64 h.lo) ∧ ∃ v, V.cell? ⟨hb, 0, none⟩ = some v) := fun V hV => by
        have q := HQ.out V (HBB.out.trans (hV.mono HBB.out.size))
        exact ⟨cell18 q rfl, _, cell18 (k := 0) q rfl⟩
      have HWB : Hid (wr.alloc (.cells #[.func (.func 62) #[] #[], .func (.func 80) #[] #[.pointer (some ⟨B + 6, 0, none⟩), .pointer (some ⟨B + 7, 0, none⟩)]] 126) = wB) := hwB.symm
      have HBS : Hid (wr.heap.size = bs) := hbs.symm
      have HNX : Hid (1 ≤ h.lo → h.lo ≤ 32768 → Fi18 h 4) := fun a b => by
        obtain ⟨g0, g1, g2, g3⟩ := HFI.out
        refine ⟨fun _ => ?_, fun _ => ?_, fun _ => ?_, fun _ => ?_⟩
        all_goals first | omega | exact g0 (by omega) | exact g1 (by omega) | exact g2 (by omega) | exact g3 (by omega) | exact ⟨by omega, by omega⟩
      have HNO : Hid (h.lo < 1 ∨ 32768 < h.lo → ok = false) := fun a => by
        rw [HOK.out]
        refine decide_eq_false (fun x => ?_)
        obtain ⟨x0, x1, x2, x3⟩ := x
        omega
      clear hwB cB hbs hFl hFB HFI
      generalize h.lo = v at *
      go_wp2_with fail
      rw [HWB.out, HBS.out]
      refine CB.mono ?_
      rintro e1 w1 ⟨rfl, b1⟩
      have HB1 : Hid (Below wB.heap.size wB w1) := b1
      obtain ⟨g0, g1⟩ := HCB.out w1 b1
      have CA := phf18_4 hb w1 (HCV.out w1 b1).2
      obtain ⟨cv, -⟩ := HCV.out w1 b1
      clear b1 CB f0 f1
      by_cases hlo : v < 1
      · have hk := HNO.out (.inl hlo)
        subst hk
        go_wp2_with fail
        refine CA.mono ?_
        rintro e2 w2 ⟨rfl, hw2⟩
        subst w2
        go_wp2_with fail
        go_ret
        exact ⟨rfl, HBB.out.trans (HB1.out.mono HBB.out.size)⟩
      · by_cases hhi : 32768 < v
        · have hk := HNO.out (.inr hhi)
          subst hk
          go_wp2_with fail
          refine CA.mono ?_
          rintro e2 w2 ⟨rfl, hw2⟩
          subst w2
          go_wp2_with fail
          go_ret
          exact ⟨rfl, HBB.out.trans (HB1.out.mono HBB.out.size)⟩
        · have hn := HNX.out (by omega) (by omega)
          have hn : Hid (Fi18 h 4) := hn
          go_wp2_with fail
          refine CA.mono ?_
          rintro e2 w2 ⟨rfl, hw2⟩
          subst w2
          go_wp2_with fail
          go_roundw
          case rel => exact ⟨4, by omega, rfl, hn.out, HBB.out.trans (HB1.out.mono HBB.out.size)⟩
          case measure => simp [intOf]
    · have hk : ok = true := by rw [HOK.out]; exact decide_eq_true HFI.out.all
      subst hk
      go_wp2_with fail
      go_ret
      exact ⟨rfl, HB.out⟩
set_option maxRecDepth 100000 in
theorem pchk18 (h : Hd18) (w : World) : Calls Tryz.prog 36 #[.agg #[.int .i64 h.o, .int .i64 h.n, .int .u32 h.so, .int .u32 h.sn, .int .i64 h.wi, .int .i64 h.lo]] w fun e w' => e = .returned (.int .i64 (if h.Ok then 0 else 180)) ∧ Below w.heap.size w w' := by
  by_cases hk : h.Ok
  · rw [if_pos hk]
    obtain ⟨ok, hok⟩ : ∃ ok, decide h.Ok = ok := ⟨_, rfl⟩
    have hok2 : Hid (decide h.Ok = ok) := hok
    have cA := cb16 w h.cs 34
    obtain ⟨wA, hwA⟩ : ∃ wA, wA = w.alloc (.cells h.cs 34) := ⟨_, rfl⟩
    rw [← hwA] at cA
    obtain ⟨b4, hb4⟩ : ∃ b4, b4 = w.heap.size := ⟨_, rfl⟩
    have HWA : Hid (w.alloc (.cells #[.int .i64 h.o, .int .i64 h.n, .int .u32 h.so, .int .u32 h.sn, .int .i64 h.wi, .int .i64 h.lo] 34) = wA) := hwA.symm
    have HB4 : Hid (w.heap.size = b4) := hb4.symm
    have q : wA.heap[b4]? = some (.cells h.cs 34 (0, 0)) := by rw [hb4]; exact cA.cl
    have HA : Hid (Below w.heap.size w wA) := cA.bl
    have HPF : Hid (∀ w1, Below wA.heap.size wA w1 → Fl18 wA.heap.size w1 → Calls Tryz.prog 55 #[.slice (some ⟨wA.heap.size + 8, 0, none⟩) 4 4, .pointer (some ⟨b4, 0, none⟩)] w1 fun e w' => e = .returned (.bool ok) ∧ Below w1.heap.size w1 w') := fun w1 b1 hF => by
      have := pfit18 wA.heap.size b4 h w1 hF ((b1.block _ (Array.getElem?_eq_some_iff.1 q).1).trans q)
      rw [hok] at this
      exact this
    clear hwA hb4 cA q hok
    have hk2 : ok = true := by rw [← hok2.out]; exact decide_eq_true hk
    subst hk2
    go_enter Tryz.func36, Tryz.ntmps36
    go_wp2_with fail
    rw [HWA.out, HB4.out]
    refine (phf18 wA).mono ?_
    rintro e1 w1 ⟨rfl, hF, b1⟩
    have PF := HPF.out w1 b1 hF
    have HB1 : Hid (Below w.heap.size w w1) := HA.out.trans (b1.mono HA.out.size)
    clear b1 hF
    go_wp2_with fail
    refine PF.mono ?_
    rintro e2 w2 ⟨rfl, b2⟩
    go_wp2_with fail
    go_ret
    exact ⟨rfl, HB1.out.trans (b2.mono HB1.out.size)⟩
  · rw [if_neg hk]
    obtain ⟨ok, hok⟩ : ∃ ok, decide h.Ok = ok := ⟨_, rfl⟩
    have hok2 : Hid (decide h.Ok = ok) := hok
    have cA := cb16 w h.cs 34
    obtain ⟨wA, hwA⟩ : ∃ wA, wA = w.alloc (.cells h.cs 34) := ⟨_, rfl⟩
    rw [← hwA] at cA
    obtain ⟨b4, hb4⟩ : ∃ b4, b4 = w.heap.size := ⟨_, rfl⟩
    have HWA : Hid (w.alloc (.cells #[.int .i64 h.o, .int .i64 h.n, .int .u32 h.so, .int .u32 h.sn, .int .i64 h.wi, .int .i64 h.lo] 34) = wA) := hwA.symm
    have HB4 : Hid (w.heap.size = b4) := hb4.symm
    have q : wA.heap[b4]? = some (.cells h.cs 34 (0, 0)) := by rw [hb4]; exact cA.cl
    have HA : Hid (Below w.heap.size w wA) := cA.bl
    have HPF : Hid (∀ w1, Below wA.heap.size wA w1 → Fl18 wA.heap.size w1 → Calls Tryz.prog 55 #[.slice (some ⟨wA.heap.size + 8, 0, none⟩) 4 4, .pointer (some ⟨b4, 0, none⟩)] w1 fun e w' => e = .returned (.bool ok) ∧ Below w1.heap.size w1 w') := fun w1 b1 hF => by
      have := pfit18 wA.heap.size b4 h w1 hF ((b1.block _ (Array.getElem?_eq_some_iff.1 q).1).trans q)
      rw [hok] at this
      exact this
    clear hwA hb4 cA q hok
    have hk2 : ok = false := by rw [← hok2.out]; exact decide_eq_false hk
    subst hk2
    go_enter Tryz.func36, Tryz.ntmps36
    go_wp2_with fail
    rw [HWA.out, HB4.out]
    refine (phf18 wA).mono ?_
    rintro e1 w1 ⟨rfl, hF, b1⟩
    have PF := HPF.out w1 b1 hF
    have HB1 : Hid (Below w.heap.size w w1) := HA.out.trans (b1.mono HA.out.size)
    clear b1 hF
    go_wp2_with fail
    refine PF.mono ?_
    rintro e2 w2 ⟨rfl, b2⟩
    go_wp2_with fail
    go_ret
    exact ⟨rfl, HB1.out.trans (b2.mono HB1.out.size)⟩
end Go.Proofs.YtpodakndckflgaaGreatDoor

namespace Go.Proofs.YtpodakndckflgaaGreatDoor
open Go.RowKit Go.Shelf
set_option linter.unusedVariables false
/-- An edit lies in memory. -/
structure Ed16 (w : World) (sa : Option Addr) (n : Nat) (S : List St16) (da : Option Addr) (m : Nat) (D : List Int) (xa : Option Addr) (k : Nat) (X : List Int) : Prop where
  ss : SegS w sa S
  sd : Seg w da D
  sx : Seg w xa X
  hn : S.length = n
  hm : D.length = m
  hk : X.length = k
  ln : n ≤ 1073741824
  lm : m ≤ 1073741824
  lk : k ≤ 1073741824
theorem Ed16.old {w w' : World} {sa da xa : Option Addr} {n m k : Nat} {S : List St16} {D X : List Int} (h : Ed16 w sa n S da m D xa k X) (hb : Below w.heap.size w w') : Ed16 w' sa n S da m D xa k X :=
  ⟨h.ss.old hb, h.sd.old hb, h.sx.old hb, h.hn, h.hm, h.hk, h.ln, h.lm, h.lk⟩
variable {w : World} {sa da xa : Option Addr} {n sc m dc k xc : Nat} {S : List St16} {D X : List Int}
end Go.Proofs.YtpodakndckflgaaGreatDoor

namespace Go.Proofs.YtpodakndckflgaaGreatDoor
open Go.RowKit Go.Shelf
set_option linter.unusedVariables false
attribute [local go_sem] Oper.semAt_some
theorem SegK.kr {k : IntKind} {M : Int} {w w' : World} {D : Nat → Prop} {a : Option Addr} {zs : List Int} (h : SegK k M w a zs) (hb : Kr16 D w w') (hn : ∀ b off, a = some ⟨b, off, none⟩ → 0 < zs.length → D b) : SegK k M w' a zs :=
  h.of_cells fun b off i v hi ha hcl => hb.cell hcl (hn b off ha (by omega))
/-- A box holds what is left of a list. -/
def Bl16 (V : World) (R : Nat → Prop) (b : Nat) (L : List Int) (t : TypeId) : Prop := ∃ pa pc, V.heap[b]? = some (.cells #[.slice pa L.length pc] t (0, 0)) ∧ Seg V pa L ∧ L.length ≤ pc ∧ ∀ x off, pa = some ⟨x, off, none⟩ → 0 < L.length → R x
theorem Bl16.kr {V V' : World} {R G : Nat → Prop} {b : Nat} {L : List Int} {t : TypeId} (h : Bl16 V R b L t) (hk : Kr16 G V V') (hb : G b) (hR : ∀ k, R k → G k) : Bl16 V' R b L t := by
  obtain ⟨pa, pc, h1, h2, h3, h4⟩ := h
  exact ⟨pa, pc, hk.heap h1 hb, h2.kr hk (fun x off e hl => hR _ (h4 x off e hl)), h3, h4⟩
/-- What is left behind a reslice. -/
def rs16 (a : Option Addr) (c d : Nat) : Option Addr := if c = d then a else a.map fun x => x.add d
theorem seg_rs16 {V : World} {a : Option Addr} {L : List Int} {c d : Nat} (h : Seg V a L) (hd : d ≤ L.length) (hc : L.length ≤ c) : Seg V (rs16 a c d) (L.drop d) ∧ ∀ x off, rs16 a c d = some ⟨x, off, none⟩ → 0 < (L.drop d).length → ∃ o, a = some ⟨x, o, none⟩ := by
  unfold rs16
  by_cases h0 : L.drop d = []
  · rw [h0]
    exact ⟨SegK.nil (by decide) _ _, fun _ _ _ hl => by simp at hl⟩
  · have hl : d < L.length := by
      rcases Nat.lt_or_ge d L.length with x | x
      · exact x
      · exact absurd (List.drop_eq_nil_of_le x) h0
    rw [if_neg (by omega)]
    obtain ⟨b, off, rfl, _⟩ := h.at_ 0 (by omega)
    have hadd : (⟨b, off, none⟩ : Addr).add d = ⟨b, off + d, none⟩ := by simp [Addr.add]
    simp only [Option.map_some, hadd]
    refine ⟨h.drop d, fun x o e _ => ?_⟩
    have e2 : some (⟨b, off + d, none⟩ : Addr) = some ⟨x, o, none⟩ := e
    injection e2 with e2
    injection e2 with e3 e4
    subst e3
    exact ⟨off, rfl⟩
/-- The state of origins' own loop. -/
structure Oi16 (W : World) (R : Nat → Prop) (J : Nat → (Nat → Prop) → World → Prop) (l : Nat) (S : List St16) (D X : List Int) (bY bD bX Bw N : Nat) (i : Nat) (E F : Nat → Prop) (V : World) : Prop where
  ef : ∀ k, E k → F k
  fY : F bY
  fD : F bD
  fX : F bX
  fw : F Bw
  lo : Lo16 W.heap.size F V
  j : J (sa16 S i + sc16 S i) F V
  hY : V.heap[bY]? = some (.cells #[.func (.yield l) #[] #[]] 351 (0, 0))
  hD : Bl16 V R bD (D.drop (sa16 S i)) 22
  hX : Bl16 V R bX (X.drop (sc16 S i)) 22
  kr : Kr16 R W V
  sz : N ≤ V.heap.size
theorem Oi16.step {W : World} {R : Nat → Prop} {J : Nat → (Nat → Prop) → World → Prop} {l : Nat} {S : List St16} {D X : List Int} {bY bD bX Bw N i : Nat} {E E' F : Nat → Prop} {V V' : World} (hJ : Abd16 W.heap.size J) (hN : W.heap.size ≤ N) (hRl : ∀ k, R k → k < W.heap.size)
    (hl : bY < N ∧ bD < N ∧ bX < N) (h : Oi16 W R J l S D X bY bD bX Bw N i E F V) (hlo : Lo16 N E V) (hk : Kp E V V') (h1 : ∀ k, E k → E' k) (h2 : ∀ k, E' k → E k ∨ V.heap.size ≤ k) (h3 : Lo16 N E' V') (G : Nat → Prop) (hG : ∀ k, G k → V.heap.size ≤ k ∧ k < V'.heap.size) : Oi16 W R J l S D X bY bD bX Bw N i E' (fun k => (F k ∨ E' k) ∨ G k) V' := by
  have hs := hk.size
  have hkr : Kr16 (fun k => R k ∨ k = bY ∨ k = bD ∨ k = bX) V V' := Kr16.of_kp hk (by
    rintro k (x | x | x | x) e
    · have := hRl k x; have := hlo k e; omega
    · have := hlo k e; omega
    · have := hlo k e; omega
    · have := hlo k e; omega)
  have hsz := h.sz
  have lo2 : Lo16 W.heap.size (fun k => (F k ∨ E' k) ∨ G k) V' := by
    rintro k ((x | x) | x)
    · have := h.lo k x; omega
    · have := h3 k x; omega
    · have := hG k x; omega
  refine ⟨fun k x => .inl (.inr x), .inl (.inl h.fY), .inl (.inl h.fD), .inl (.inl h.fX), .inl (.inl h.fw), lo2, ?_, hkr.heap h.hY (.inr (.inl rfl)), h.hD.kr hkr (.inr (.inr (.inl rfl))) (fun k x => .inl x), h.hX.kr hkr (.inr (.inr (.inr rfl))) (fun k x => .inl x), h.kr.trans (hkr.mono fun k x => .inl x), by have := h.sz; omega⟩
  refine hJ _ F _ V V' h.j h.lo (hk.mono fun k _ x => h.ef k x) (fun k x => .inl (.inl x)) ?_ lo2
  rintro k ((x | x) | x)
  · exact .inl x
  · rcases h2 k x with y | y
    · exact .inl (h.ef k y)
    · exact .inr y
  · exact .inr (hG k x).1
end Go.Proofs.YtpodakndckflgaaGreatDoor

namespace Go.Proofs.YtpodakndckflgaaGreatDoor
open Go.RowKit Go.Shelf
set_option linter.unusedVariables false
attribute [local go_sem] Oper.semAt_some
theorem operwp_app16 {P : Program} {o : Oper} {a : Act} {K : Act → World → Prop} {Q : Exit → Act → World → Prop} {w : World} (s x : Operand) (t : TypeId)
    (ho : o.op = Op.call { callee := Callee.builtin Builtin.append, args := #[s, x], argTypes := #[t, t] }) {u v v' : Value} {w' : World} (hs : a.eval s = u) (hx : a.eval x = v) (hr : (Builtin.append_ #[t, t] o.type #[u, v]).run P w = .ok v' w')
    (h : K (a.put o.dst v') w') : Oper.wp P o a w K Q := by
  unfold Oper.wp execOp
  simp only [ho, resolve, invoke, builtin, Sem.run_bind, Sem.run_pure, Result.andThen_ok, List.map_toArray, List.map_cons, List.map_nil, hs, hx, hr]
  exact h

/-- One byte more behind a row of the call's own. -/
structure Gr16 (V : World) (base : Nat) (ra : Option Addr) (n rc : Nat) (xs : List Value) (y : Value) (g rc' : Nat) (w' : World) : Prop where
  own : w'.ownsRow base 5 1 (.slice (some ⟨g, 0, none⟩) (n + 1) rc') (n + 1) (xs ++ [y])
  grown : V.grownBy w' (Value.slice ra n rc).ownBlock
  fresh : Fresh V (.slice ra n rc) (.slice (some ⟨g, 0, none⟩) (n + 1) rc')
/-- The state of Apply's loop. -/
structure Ai16 (w : World) (R : Nat → Prop) (bO bz : Nat) (zv : Value) (z : List Int) (L : List Og16) (i : Nat) (E : Nat → Prop) (ra : Option Addr) (rc : Nat) (V : World) : Prop where
  hO : V.heap[bO]? = some (.cells #[.slice ra i rc] 22 (0, 0))
  hz : V.heap[bz]? = some (.cells #[zv] 22 (0, 0))
  own : V.ownsRow w.heap.size 5 1 (.slice ra i rc) i (((L.take i).map (by16 z)).map (Value.int .u8))
  nO : ∀ g, (Value.slice ra i rc).ownBlock = some g → g ≠ bO ∧ g ≠ bz ∧ ¬ E g ∧ ¬ R g
  bl : Below w.heap.size w V
theorem Ai16.kp {w : World} {R : Nat → Prop} {bO bz : Nat} {zv : Value} {z : List Int} {L : List Og16} {i : Nat} {E E' : Nat → Prop} {ra : Option Addr} {rc : Nat} {V V' : World} (h : Ai16 w R bO bz zv z L i E ra rc V) (hk : Kp E V V') (hE : ¬ E bO ∧ ¬ E bz) (hw : ∀ k, E k → w.heap.size ≤ k) (h2 : ∀ k, E' k → E k ∨ V.heap.size ≤ k) : Ai16 w R bO bz zv z L i E' ra rc V' := by
  refine ⟨hk.heap h.hO hE.1, hk.heap h.hz hE.2, own_kp h.own hk (fun x e => (h.nO x e).2.2.1), fun g e => ⟨(h.nO g e).1, (h.nO g e).2.1, fun x => ?_, (h.nO g e).2.2.2⟩, h.bl.trans (hk.below hw h.bl.size)⟩
  rcases h2 g x with y | y
  · exact (h.nO g e).2.2.1 y
  · have := (h.own.lt g e).2
    omega
/-- One byte more in Apply's loop. -/
theorem Ai16.more {w : World} {R : Nat → Prop} {bO bz : Nat} {zv : Value} {z : List Int} {L : List Og16} {i : Nat} {E : Nat → Prop} {ra : Option Addr} {rc : Nat} {V : World} (h : Ai16 w R bO bz zv z L i E ra rc V) (o : Og16) (y : Int) (ho : by16 z o = y) (hT : L.take (i + 1) = L.take i ++ [o])
    (hne : bO ≠ bz) (hlt : ∀ k, (E k ∨ R k ∨ k = bO ∨ k = bz) → k < V.heap.size) (hbO : ¬ E bO ∧ ¬ R bO) (hw : w.heap.size ≤ bO) {g rc' : Nat} {w' : World} (hg : Gr16 V w.heap.size ra i rc (((L.take i).map (by16 z)).map (Value.int .u8)) (.int .u8 y) g rc' w') :
    w'.heap[bO]? = some (.cells #[.slice ra i rc] 22 (0, 0)) ∧ Ai16 w R bO bz zv z L (i + 1) E (some ⟨g, 0, none⟩) rc' (w'.setCell ⟨bO, 0, none⟩ (.slice (some ⟨g, 0, none⟩) (i + 1) rc')) ∧ Kr16 (fun k => E k ∨ R k) V (w'.setCell ⟨bO, 0, none⟩ (.slice (some ⟨g, 0, none⟩) (i + 1) rc')) := by
  have kg : Kp (fun k => (Value.slice ra i rc).ownBlock = some k) V w' := Kp.grown hg.grown (fun i e => e)
  have hgn : g ≠ bO ∧ g ≠ bz ∧ ¬ E g ∧ ¬ R g := by
    rcases hg.fresh g rfl with e | e
    · exact h.nO g e
    · refine ⟨?_, ?_, ?_, ?_⟩
      · intro x; have := hlt bO (.inr (.inr (.inl rfl))); omega
      · intro x; have := hlt bz (.inr (.inr (.inr rfl))); omega
      · intro x; have := hlt g (.inl x); omega
      · intro x; have := hlt g (.inr (.inl x)); omega
  have hO' : w'.heap[bO]? = some (.cells #[.slice ra i rc] 22 (0, 0)) := kg.heap h.hO (fun e => (h.nO bO e).1 rfl)
  have ks : Kp (fun k => k = bO) w' (w'.setCell ⟨bO, 0, none⟩ (.slice (some ⟨g, 0, none⟩) (i + 1) rc')) := Kp.set (S := fun k => k = bO) rfl _
  refine ⟨hO', ⟨one_set16 hO' _, ks.heap (kg.heap h.hz (fun e => (h.nO bz e).2.1 rfl)) (fun e => hne e.symm), ?_, ?_, ?_⟩, ?_⟩
  · rw [hT, List.map_append, List.map_append]
    simp only [List.map_cons, List.map_nil, ho]
    exact own_kp hg.own ks (fun x e => by
      have : some g = some x := e
      injection this with this
      show ¬ x = bO
      omega)
  · intro x e
    have : some g = some x := e
    injection this with this
    subst this
    exact hgn
  · have b1 : Below w.heap.size V w' := kg.below (fun k e => (h.own.lt k e).1) h.bl.size
    exact (h.bl.trans b1).trans (ks.below (fun k e => by have e : k = bO := e; omega) (h.bl.trans b1).size)
  · refine ⟨Nat.le_trans kg.size ks.size, fun k hk x => ?_⟩
    refine (ks.block k (Nat.lt_of_lt_of_le hk kg.size) ?_).trans (kg.block k hk ?_)
    · intro e
      have e : k = bO := e
      subst e
      rcases x with x | x
      · exact hbO.1 x
      · exact hbO.2 x
    · intro e
      rcases x with x | x
      · exact (h.nO k e).2.2.1 x
      · exact (h.nO k e).2.2.2 x
variable {w : World} {sa da xa za : Option Addr} {n sc m dc k xc zl zc : Nat} {S : List St16} {D X z : List Int}
end Go.Proofs.YtpodakndckflgaaGreatDoor
