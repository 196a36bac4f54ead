import Derived.Test.YtalojcpgkgeofabGreatDoorPd
import Derived.Test.YtalojcpgkgeofabGreatDoorPe
namespace Go.Proofs.YtalojcpgkgeofabGreatDoor
open Go.RowKit
set_option linter.unusedVariables false

/-! headFields, fit, Check. -/
def bd18 : Nat → Int
  | 0 => 0
  | 1 => 16777216
  | 2 => 0
  | 3 => 16777216
  | 4 => 64
  | 5 => 65536
  | 6 => 1
  | _ => 32768
structure Fl18 (B : Nat) (W : World) : Prop where
  fl : W.heap[B + 8]? = some (.cells (fl18 B) 55 (0, 0))
  bx : ∀ k, k < 8 → W.heap[B + k]? = some (.cells #[.int .i64 (bd18 k)] 3 (0, 0))
theorem Fl18.old {B : Nat} {W W' : World} (h : Fl18 B W) (hb : Below W.heap.size W W') : Fl18 B W' :=
  ⟨(hb.block _ (Array.getElem?_eq_some_iff.1 h.fl).1).trans h.fl, fun k hk => (hb.block _ (Array.getElem?_eq_some_iff.1 (h.bx k hk)).1).trans (h.bx k hk)⟩
structure Tw18 (w : World) (x y : Int) (w' : World) : Prop where
  bl : Below w.heap.size w w'
  sz : w'.heap.size = w.heap.size + 2
  c0 : w'.heap[w.heap.size]? = some (.cells #[.int .i64 x] 3 (0, 0))
  c1 : w'.heap[w.heap.size + 1]? = some (.cells #[.int .i64 y] 3 (0, 0))
theorem tw18 (w : World) (x y : Int) : Tw18 w x y ((w.alloc (.cells #[.int .i64 x] 3)).alloc (.cells #[.int .i64 y] 3)) := by
  have a := cb16 w #[.int .i64 x] 3
  have b := cb16 (w.alloc (.cells #[.int .i64 x] 3)) #[.int .i64 y] 3
  refine ⟨a.bl.trans (b.bl.mono a.bl.size), by rw [b.sz, a.sz], ?_, ?_⟩
  · exact (b.bl.block _ (by rw [a.sz]; omega)).trans a.cl
  · have := b.cl; rw [a.sz] at this; exact this
set_option maxRecDepth 100000 in
theorem pbt18 (p q : Nat) (v : Value) (x y : Int) (w : World) (hp : w.heap[p]? = some (.cells #[.int .i64 x] 3 (0, 0))) (hq : w.heap[q]? = some (.cells #[.int .i64 y] 3 (0, 0))) :
    Calls Tryz.prog 35 #[v, .pointer (some ⟨p, 0, none⟩), .pointer (some ⟨q, 0, none⟩)] w fun e w' => e = .returned (.tuple #[.int .i64 x, .int .i64 y]) ∧ Below w.heap.size w w' := by
  have c1 : w.drew.cell? ⟨p, 0, none⟩ = some (.int .i64 x) := one_cell16 hp
  have c2 : w.drew.cell? ⟨q, 0, none⟩ = some (.int .i64 y) := one_cell16 hq
  go_enter Tryz.func35, Tryz.ntmps35
  go_wp2
  go_region
  all_goals
    go_wp2
    go_ret2
    exact ⟨rfl, (Below.refl _ _).drew⟩
set_option maxRecDepth 100000 in
theorem phf18_1 (b : Nat) (w : World) (h : ∃ v, w.cell? ⟨b, 0, none⟩ = some v) : Calls Tryz.prog 19 #[.pointer (some ⟨b, 0, none⟩)] w fun e w' => e = .returned (.pointer (some ⟨b, 0, none⟩)) ∧ w' = w := by
  obtain ⟨v, h⟩ := h
  go_enter Tryz.func19, Tryz.ntmps19
  go_wp2
  go_ret
  exact ⟨rfl, rfl⟩
set_option maxRecDepth 100000 in
theorem phf18_2 (b : Nat) (w : World) (h : ∃ v, w.cell? ⟨b, 0, none⟩ = some v) : Calls Tryz.prog 21 #[.pointer (some ⟨b, 0, none⟩)] w fun e w' => e = .returned (.pointer (some ⟨b, 1, none⟩)) ∧ w' = w := by
  obtain ⟨v, h⟩ := h
  go_enter Tryz.func21, Tryz.ntmps21
  go_wp2
  go_ret
  exact ⟨rfl, rfl⟩
set_option maxRecDepth 100000 in
theorem phf18_3 (b : Nat) (w : World) (h : ∃ v, w.cell? ⟨b, 0, none⟩ = some v) : Calls Tryz.prog 22 #[.pointer (some ⟨b, 0, none⟩)] w fun e w' => e = .returned (.pointer (some ⟨b, 4, none⟩)) ∧ w' = w := by
  obtain ⟨v, h⟩ := h
  go_enter Tryz.func22, Tryz.ntmps22
  go_wp2
  go_ret
  exact ⟨rfl, rfl⟩
set_option maxRecDepth 100000 in
theorem phf18_4 (b : Nat) (w : World) (h : ∃ v, w.cell? ⟨b, 0, none⟩ = some v) : Calls Tryz.prog 23 #[.pointer (some ⟨b, 0, none⟩)] w fun e w' => e = .returned (.pointer (some ⟨b, 5, none⟩)) ∧ w' = w := by
  obtain ⟨v, h⟩ := h
  go_enter Tryz.func23, Tryz.ntmps23
  go_wp2
  go_ret
  exact ⟨rfl, rfl⟩
set_option maxRecDepth 100000 in
set_option maxHeartbeats 4000000 in
theorem phf18 (w : World) : Calls Tryz.prog 10 #[] w fun e w' => e = .returned (.slice (some ⟨w.heap.size + 8, 0, none⟩) 4 4) ∧ Fl18 w.heap.size w' ∧ Below w.heap.size w w' := by
  go_enter Tryz.func10, Tryz.ntmps10
  go_wp2_with fail
  refine (pbtw18 0 16777216 w).mono ?_
  rintro e1 w1 ⟨rfl, h1⟩
  have t1 : Tw18 w 0 16777216 w1 := by rw [h1]; exact tw18 _ _ _
  clear h1
  go_wp2_with fail
  refine (pbtw18 0 16777216 w1).mono ?_
  rintro e2 w2 ⟨rfl, h2⟩
  have t2 : Tw18 w1 0 16777216 w2 := by rw [h2]; exact tw18 _ _ _
  clear h2
  go_wp2_with fail
  refine (pbtw18 64 65536 w2).mono ?_
  rintro e3 w3 ⟨rfl, h3⟩
  have t3 : Tw18 w2 64 65536 w3 := by rw [h3]; exact tw18 _ _ _
  clear h3
  go_wp2_with fail
  refine (pbtw18 1 32768 w3).mono ?_
  rintro e4 w4 ⟨rfl, h4⟩
  have t4 : Tw18 w3 1 32768 w4 := by rw [h4]; exact tw18 _ _ _
  clear h4
  have HT : Hid (Tw18 w 0 16777216 w1 ∧ Tw18 w1 0 16777216 w2 ∧ Tw18 w2 64 65536 w3 ∧ Tw18 w3 1 32768 w4) := ⟨t1, t2, t3, t4⟩
  clear t1 t2 t3 t4
  go_wp2_with fail
  obtain ⟨t1, t2, t3, t4⟩ := HT.out
  have z1 := t1.sz
  have z2 := t2.sz
  have z3 := t3.sz
  have z4 := t4.sz
  have y2 : w2.heap.size = w.heap.size + 4 := by omega
  have y3 : w3.heap.size = w.heap.size + 6 := by omega
  have y4 : w4.heap.size = w.heap.size + 8 := by omega
  have cL := cb16 w4 (fl18 w.heap.size) 55
  have b14 : Below w1.heap.size w1 w4 := t2.bl.trans ((t3.bl.trans (t4.bl.mono t3.bl.size)).mono t2.bl.size)
  have b24 : Below w2.heap.size w2 w4 := t3.bl.trans (t4.bl.mono t3.bl.size)
  have b04 : Below w.heap.size w w4 := t1.bl.trans (b14.mono t1.bl.size)
  have b1L := b14.trans (cL.bl.mono b14.size)
  have b2L := b24.trans (cL.bl.mono b24.size)
  have b3L := t4.bl.trans (cL.bl.mono t4.bl.size)
  rw [z1, y2, y3, y4]
  go_ret
  refine ⟨rfl, ⟨?_, ?_⟩, b04.trans (cL.bl.mono b04.size)⟩
  · have := cL.cl; rw [y4] at this; exact this
  · intro k hk
    match k, hk with
    | 0, _ => exact (b1L.block _ (by omega)).trans t1.c0
    | 1, _ => exact (b1L.block _ (by omega)).trans t1.c1
    | 2, _ => have h := t2.c0; rw [z1] at h; exact (b2L.block _ (by omega)).trans h
    | 3, _ => have h := t2.c1; rw [z1] at h; exact (b2L.block _ (by omega)).trans h
    | 4, _ => have h := t3.c0; rw [y2] at h; exact (b3L.block _ (by omega)).trans h
    | 5, _ => have h := t3.c1; rw [y2] at h; exact (b3L.block _ (by omega)).trans h
    | 6, _ => have h := t4.c0; rw [y3] at h; exact (cL.bl.block _ (by omega)).trans h
    | 7, _ => have h := t4.c1; rw [y3] at h; exact (cL.bl.block _ (by omega)).trans h
end Go.Proofs.YtalojcpgkgeofabGreatDoor

namespace Go.Proofs.YtalojcpgkgeofabGreatDoor
open Go.RowKit
set_option linter.unusedVariables false

/-! fit of a header; Check. -/
theorem cell18 {W : World} {b k : Nat} {cs : Array Value} {t : TypeId} {v : Value} (h : W.heap[b]? = some (.cells cs t (0, 0))) (hk : cs[k]? = some v) : W.cell? ⟨b, k, none⟩ = some v := by simp [World.cell?, h, hk]
/-- The first i fields may be. -/
def Fi18 (h : Hd18) (i : Nat) : Prop := (0 < i → 0 ≤ h.o ∧ h.o ≤ 16777216) ∧ (1 < i → 0 ≤ h.n ∧ h.n ≤ 16777216) ∧ (2 < i → 64 ≤ h.wi ∧ h.wi ≤ 65536) ∧ (3 < i → 1 ≤ h.lo ∧ h.lo ≤ 32768)
theorem Fi18.all {h : Hd18} (f : Fi18 h 4) : h.Ok := ⟨f.1 (by omega), f.2.1 (by omega), f.2.2.1 (by omega), f.2.2.2 (by omega)⟩
set_option maxRecDepth 100000 in
set_option maxHeartbeats 8000000 in
theorem pfit18 (B hb : Nat) (h : Hd18) (w : World) (hF : Fl18 B w) (hq : w.heap[hb]? = some (.cells h.cs 24 (0, 0))) :
    Calls Tryz.prog 17 #[.slice (some ⟨B + 8, 0, none⟩) 4 4, .pointer (some ⟨hb, 0, none⟩)] w fun e w' => e = .returned (.bool (decide h.Ok)) ∧ Below w.heap.size w w' := by
  have HF : Hid (∀ V, Below w.heap.size w V → Fl18 B V) := fun V hV => hF.old hV
  have HQ : Hid (∀ V, Below w.heap.size w V → V.heap[hb]? = some (.cells h.cs 24 (0, 0))) := fun V hV => (hV.block _ (Array.getElem?_eq_some_iff.1 hq).1).trans hq
  obtain ⟨ok, hok⟩ : ∃ ok, ok = decide h.Ok := ⟨_, rfl⟩
  have HOK : Hid (ok = decide h.Ok) := hok
  rw [← hok]
  clear hF hq hok
  go_enter Tryz.func17, Tryz.ntmps17
  go_wp2_with fail
  go_loopw [12] (fun t12 V => ∃ i : Nat, i ≤ 4 ∧ t12 = .int .i64 (i : Int) ∧ Fi18 h i ∧ Below w.heap.size w V) (fun t12 _ => 4 - (intOf t12).toNat)
  case atStart => exact ⟨0, by omega, rfl, ⟨by omega, by omega, by omega, by omega⟩, Below.refl _ _⟩
  case round =>
    obtain ⟨i, hi4, rfl, hfi, hB⟩ := hrel
    have HFI : Hid (Fi18 h i) := hfi
    have HB : Hid (Below w.heap.size w wr) := hB
    have hFl := HF.out wr hB
    clear hfi hB
    rcases (by omega : i = 0 ∨ i = 1 ∨ i = 2 ∨ i = 3 ∨ i = 4) with rfl | rfl | rfl | rfl | rfl
    · have f0 : wr.cell? ⟨B + 8, 0, none⟩ = some (.func (.func 19) #[] #[]) := cell18 hFl.fl rfl
      have f1 : wr.cell? ⟨B + 8, 1, none⟩ = some (.func (.func 35) #[] #[.pointer (some ⟨B, 0, none⟩), .pointer (some ⟨B + 1, 0, none⟩)]) := cell18 hFl.fl rfl
      obtain ⟨wB, hwB⟩ : ∃ wB, wB = wr.alloc (.cells #[.func (.func 19) #[] #[], .func (.func 35) #[] #[.pointer (some ⟨B, 0, none⟩), .pointer (some ⟨B + 1, 0, none⟩)]] 55) := ⟨_, rfl⟩
      have cB := cb16 wr #[.func (.func 19) #[] #[], .func (.func 35) #[] #[.pointer (some ⟨B, 0, none⟩), .pointer (some ⟨B + 1, 0, none⟩)]] 55
      rw [← hwB] at cB
      obtain ⟨bs, hbs⟩ : ∃ bs, bs = wr.heap.size := ⟨_, rfl⟩
      have HBB : Hid (Below w.heap.size w wB) := HB.out.trans (cB.bl.mono HB.out.size)
      have HCB : Hid (∀ V, Below wB.heap.size wB V → V.cell? ⟨bs, 0, none⟩ = some (.func (.func 19) #[] #[]) ∧ V.cell? ⟨bs, 1, none⟩ = some (.func (.func 35) #[] #[.pointer (some ⟨B, 0, none⟩), .pointer (some ⟨B + 1, 0, none⟩)])) := fun V hV => by
        have q0 := cB.cl
        rw [← hbs] at q0
        have q := (hV.block bs (by have := cB.sz; omega)).trans q0
        exact ⟨cell18 q rfl, cell18 q rfl⟩
      have hFB := HF.out wB HBB.out
      have CB := pbt18 B (B + 1) (.pointer (some ⟨hb, 0, none⟩)) 0 16777216 wB (hFB.bx 0 (by omega)) (hFB.bx 1 (by omega))
      have HCV : Hid (∀ V, Below wB.heap.size wB V → V.cell? ⟨hb, 0, none⟩ = some (.int .i64 h.o) ∧ ∃ v, V.cell? ⟨hb, 0, none⟩ = some v) := fun V hV => by
        have q := HQ.out V (HBB.out.trans (hV.mono HBB.out.size))
        exact ⟨cell18 q rfl, _, cell18 (k := 0) q rfl⟩
      have HWB : Hid (wr.alloc (.cells #[.func (.func 19) #[] #[], .func (.func 35) #[] #[.pointer (some ⟨B, 0, none⟩), .pointer (some ⟨B + 1, 0, none⟩)]] 55) = wB) := hwB.symm
      have HBS : Hid (wr.heap.size = bs) := hbs.symm
      have HNX : Hid (0 ≤ h.o → h.o ≤ 16777216 → Fi18 h 1) := fun a b => by
        obtain ⟨g0, g1, g2, g3⟩ := HFI.out
        refine ⟨fun _ => ?_, fun _ => ?_, fun _ => ?_, fun _ => ?_⟩
        all_goals first | omega | exact g0 (by omega) | exact g1 (by omega) | exact g2 (by omega) | exact g3 (by omega) | exact ⟨by omega, by omega⟩
      have HNO : Hid (h.o < 0 ∨ 16777216 < h.o → ok = false) := fun a => by
        rw [HOK.out]
        refine decide_eq_false (fun x => ?_)
        obtain ⟨x0, x1, x2, x3⟩ := x
        omega
      clear hwB cB hbs hFl hFB HFI
      generalize h.o = v at *
      go_wp2_with fail
      rw [HWB.out, HBS.out]
      refine CB.mono ?_
      rintro e1 w1 ⟨rfl, b1⟩
      have HB1 : Hid (Below wB.heap.size wB w1) := b1
      obtain ⟨g0, g1⟩ := HCB.out w1 b1
      have CA := phf18_1 hb w1 (HCV.out w1 b1).2
      obtain ⟨cv, -⟩ := HCV.out w1 b1
      clear b1 CB f0 f1
      by_cases hlo : v < 0
      · have hk := HNO.out (.inl hlo)
        subst hk
        go_wp2_with fail
        refine CA.mono ?_
        rintro e2 w2 ⟨rfl, hw2⟩
        subst w2
        go_wp2_with fail
        go_ret
        exact ⟨rfl, HBB.out.trans (HB1.out.mono HBB.out.size)⟩
      · by_cases hhi : 16777216 < v
        · have hk := HNO.out (.inr hhi)
          subst hk
          go_wp2_with fail
          refine CA.mono ?_
          rintro e2 w2 ⟨rfl, hw2⟩
          subst w2
          go_wp2_with fail
          go_ret
          exact ⟨rfl, HBB.out.trans (HB1.out.mono HBB.out.size)⟩
        · have hn := HNX.out (by omega) (by omega)
          have hn : Hid (Fi18 h 1) := hn
          go_wp2_with fail
          refine CA.mono ?_
          rintro e2 w2 ⟨rfl, hw2⟩
          subst w2
          go_wp2_with fail
          go_roundw
          case rel => exact ⟨1, by omega, rfl, hn.out, HBB.out.trans (HB1.out.mono HBB.out.size)⟩
          case measure => simp [intOf]
    · have f0 : wr.cell? ⟨B + 8, 2, none⟩ = some (.func (.func 21) #[] #[]) := cell18 hFl.fl rfl
      have f1 : wr.cell? ⟨B + 8, 3, none⟩ = some (.func (.func 35) #[] #[.pointer (some ⟨B + 2, 0, none⟩), .pointer (some ⟨B + 3, 0, none⟩)]) := cell18 hFl.fl rfl
      obtain ⟨wB, hwB⟩ : ∃ wB, wB = wr.alloc (.cells #[.func (.func 21) #[] #[], .func (.func 35) #[] #[.pointer (some ⟨B + 2, 0, none⟩), .pointer (some ⟨B + 3, 0, none⟩)]] 55) := ⟨_, rfl⟩
      have cB := cb16 wr #[.func (.func 21) #[] #[], .func (.func 35) #[] #[.pointer (some ⟨B + 2, 0, none⟩), .pointer (some ⟨B + 3, 0, none⟩)]] 55
      rw [← hwB] at cB
      obtain ⟨bs, hbs⟩ : ∃ bs, bs = wr.heap.size := ⟨_, rfl⟩
      have HBB : Hid (Below w.heap.size w wB) := HB.out.trans (cB.bl.mono HB.out.size)
      have HCB : Hid (∀ V, Below wB.heap.size wB V → V.cell? ⟨bs, 0, none⟩ = some (.func (.func 21) #[] #[]) ∧ V.cell? ⟨bs, 1, none⟩ = some (.func (.func 35) #[] #[.pointer (some ⟨B + 2, 0, none⟩), .pointer (some ⟨B + 3, 0, none⟩)])) := fun V hV => by
        have q0 := cB.cl
        rw [← hbs] at q0
        have q := (hV.block bs (by have := cB.sz; omega)).trans q0
        exact ⟨cell18 q rfl, cell18 q rfl⟩
      have hFB := HF.out wB HBB.out
      have CB := pbt18 (B + 2) (B + 3) (.pointer (some ⟨hb, 0, none⟩)) 0 16777216 wB (hFB.bx 2 (by omega)) (hFB.bx 3 (by omega))
      have HCV : Hid (∀ V, Below wB.heap.size wB V → V.cell? ⟨hb, 1, none⟩ = some (.int .i64 h.n) ∧ ∃ v, V.cell? ⟨hb, 0, none⟩ = some v) := fun V hV => by
        have q := HQ.out V (HBB.out.trans (hV.mono HBB.out.size))
        exact ⟨cell18 q rfl, _, cell18 (k := 0) q rfl⟩
      have HWB : Hid (wr.alloc (.cells #[.func (.func 21) #[] #[], .func (.func 35) #[] #[.pointer (some ⟨B + 2, 0, none⟩), .pointer (some ⟨B + 3, 0, none⟩)]] 55) = wB) := hwB.symm
      have HBS : Hid (wr.heap.size = bs) := hbs.symm
      have HNX : Hid (0 ≤ h.n → h.n ≤ 16777216 → Fi18 h 2) := fun a b => by
        obtain ⟨g0, g1, g2, g3⟩ := HFI.out
        refine ⟨fun _ => ?_, fun _ => ?_, fun _ => ?_, fun _ => ?_⟩
        all_goals first | omega | exact g0 (by omega) | exact g1 (by omega) | exact g2 (by omega) | exact g3 (by omega) | exact ⟨by omega, by omega⟩
      have HNO : Hid (h.n < 0 ∨ 16777216 < h.n → ok = false) := fun a => by
        rw [HOK.out]
        refine decide_eq_false (fun x => ?_)
        obtain ⟨x0, x1, x2, x3⟩ := x
        omega
      clear hwB cB hbs hFl hFB HFI
      generalize h.n = v at *
      go_wp2_with fail
      rw [HWB.out, HBS.out]
      refine CB.mono ?_
      rintro e1 w1 ⟨rfl, b1⟩
      have HB1 : Hid (Below wB.heap.size wB w1) := b1
      obtain ⟨g0, g1⟩ := HCB.out w1 b1
      have CA := phf18_2 hb w1 (HCV.out w1 b1).2
      obtain ⟨cv, -⟩ := HCV.out w1 b1
      clear b1 CB f0 f1
      by_cases hlo : v < 0
      · have hk := HNO.out (.inl hlo)
        subst hk
        go_wp2_with fail
        refine CA.mono ?_
        rintro e2 w2 ⟨rfl, hw2⟩
        subst w2
        go_wp2_with fail
        go_ret
        exact ⟨rfl, HBB.out.trans (HB1.out.mono HBB.out.size)⟩
      · by_cases hhi : 16777216 < v
        · have hk := HNO.out (.inr hhi)
          subst hk
          go_wp2_with fail
          refine CA.mono ?_
          rintro e2 w2 ⟨rfl, hw2⟩
          subst w2
          go_wp2_with fail
          go_ret
          exact ⟨rfl, HBB.out.trans (HB1.out.mono HBB.out.size)⟩
        · have hn := HNX.out (by omega) (by omega)
          have hn : Hid (Fi18 h 2) := hn
          go_wp2_with fail
          refine CA.mono ?_
          rintro e2 w2 ⟨rfl, hw2⟩
          subst w2
          go_wp2_with fail
          go_roundw
          case rel => exact ⟨2, by omega, rfl, hn.out, HBB.out.trans (HB1.out.mono HBB.out.size)⟩
          case measure => simp [intOf]
    · have f0 : wr.cell? ⟨B + 8, 4, none⟩ = some (.func (.func 22) #[] #[]) := cell18 hFl.fl rfl
      have f1 : wr.cell? ⟨B + 8, 5, none⟩ = some (.func (.func 35) #[] #[.pointer (some ⟨B + 4, 0, none⟩), .pointer (some ⟨B + 5, 0, none⟩)]) := cell18 hFl.fl rfl
      obtain ⟨wB, hwB⟩ : ∃ wB, wB = wr.alloc (.cells #[.func (.func 22) #[] #[], .func (.func 35) #[] #[.pointer (some ⟨B + 4, 0, none⟩), .pointer (some ⟨B + 5, 0, none⟩)]] 55) := ⟨_, rfl⟩
      have cB := cb16 wr #[.func (.func 22) #[] #[], .func (.func 35) #[] #[.pointer (some ⟨B + 4, 0, none⟩), .pointer (some ⟨B + 5, 0, none⟩)]] 55
      rw [← hwB] at cB
      obtain ⟨bs, hbs⟩ : ∃ bs, bs = wr.heap.size := ⟨_, rfl⟩
      have HBB : Hid (Below w.heap.size w wB) := HB.out.trans (cB.bl.mono HB.out.size)
      have HCB : Hid (∀ V, Below wB.heap.size wB V → V.cell? ⟨bs, 0, none⟩ = some (.func (.func 22) #[] #[]) ∧ V.cell? ⟨bs, 1, none⟩ = some (.func (.func 35) #[] #[.pointer (some ⟨B + 4, 0, none⟩), .pointer (some ⟨B + 5, 0, none⟩)])) := fun V hV => by
        have q0 := cB.cl
        rw [← hbs] at q0
        have q := (hV.block bs (by have := cB.sz; omega)).trans q0
        exact ⟨cell18 q rfl, cell18 q rfl⟩
      have hFB := HF.out wB HBB.out
      have CB := pbt18 (B + 4) (B + 5) (.pointer (some ⟨hb, 0, none⟩)) 64 65536 wB (hFB.bx 4 (by omega)) (hFB.bx 5 (by omega))
      have HCV : Hid (∀ V, Below wB.heap.size wB V → V.cell? ⟨hb, 4, none⟩ = some (.int .i64 h.wi) ∧ ∃ v, V.cell? ⟨hb, 0, none⟩ = some v) := fun V hV => by
        have q := HQ.out V (HBB.out.trans (hV.mono HBB.out.size))
        exact ⟨cell18 q rfl, _, cell18 (k := 0) q rfl⟩
      have HWB : Hid (wr.alloc (.cells #[.func (.func 22) #[] #[], .func (.func 35) #[] #[.pointer (some ⟨B + 4, 0, none⟩), .pointer (some ⟨B + 5, 0, none⟩)]] 55) = wB) := hwB.symm
      have HBS : Hid (wr.heap.size = bs) := hbs.symm
      have HNX : Hid (64 ≤ h.wi → h.wi ≤ 65536 → Fi18 h 3) := fun a b => by
        obtain ⟨g0, g1, g2, g3⟩ := HFI.out
        refine ⟨fun _ => ?_, fun _ => ?_, fun _ => ?_, fun _ => ?_⟩
        all_goals first | omega | exact g0 (by omega) | exact g1 (by omega) | exact g2 (by omega) | exact g3 (by omega) | exact ⟨by omega, by omega⟩
      have HNO : Hid (h.wi < 64 ∨ 65536 < h.wi → ok = false) := fun a => by
        rw [HOK.out]
        refine decide_eq_false (fun x => ?_)
        obtain ⟨x0, x1, x2, x3⟩ := x
        omega
      clear hwB cB hbs hFl hFB HFI
      generalize h.wi = v at *
      go_wp2_with fail
      rw [HWB.out, HBS.out]
      refine CB.mono ?_
      rintro e1 w1 ⟨rfl, b1⟩
      have HB1 : Hid (Below wB.heap.size wB w1) := b1
      obtain ⟨g0, g1⟩ := HCB.out w1 b1
      have CA := phf18_3 hb w1 (HCV.out w1 b1).2
      obtain ⟨cv, -⟩ := HCV.out w1 b1
      clear b1 CB f0 f1
      by_cases hlo : v < 64
      · have hk := HNO.out (.inl hlo)
        subst hk
        go_wp2_with fail
        refine CA.mono ?_
        rintro e2 w2 ⟨rfl, hw2⟩
        subst w2
        go_wp2_with fail
        go_ret
        exact ⟨rfl, HBB.out.trans (HB1.out.mono HBB.out.size)⟩
      · by_cases hhi : 65536 < v
        · have hk := HNO.out (.inr hhi)
          subst hk
          go_wp2_with fail
          refine CA.mono ?_
          rintro e2 w2 ⟨rfl, hw2⟩
          subst w2
          go_wp2_with fail
          go_ret
          exact ⟨rfl, HBB.out.trans (HB1.out.mono HBB.out.size)⟩
        · have hn := HNX.out (by omega) (by omega)
          have hn : Hid (Fi18 h 3) := hn
          go_wp2_with fail
          refine CA.mono ?_
          rintro e2 w2 ⟨rfl, hw2⟩
          subst w2
          go_wp2_with fail
          go_roundw
          case rel => exact ⟨3, by omega, rfl, hn.out, HBB.out.trans (HB1.out.mono HBB.out.size)⟩
          case measure => simp [intOf]
    · have f0 : wr.cell? ⟨B + 8, 6, none⟩ = some (.func (.func 23) #[] #[]) := cell18 hFl.fl rfl
      have f1 : wr.cell? ⟨B + 8, 7, none⟩ = some (.func (.func 35) #[] #[.pointer (some ⟨B + 6, 0, none⟩), .pointer (some ⟨B + 7, 0, none⟩)]) := cell18 hFl.fl rfl
      obtain ⟨wB, hwB⟩ : ∃ wB, wB = wr.alloc (.cells #[.func (.func 23) #[] #[], .func (.func 35) #[] #[.pointer (some ⟨B + 6, 0, none⟩), .pointer (some ⟨B + 7, 0, none⟩)]] 55) := ⟨_, rfl⟩
      have cB := cb16 wr #[.func (.func 23) #[] #[], .func (.func 35) #[] #[.pointer (some ⟨B + 6, 0, none⟩), .pointer (some ⟨B + 7, 0, none⟩)]] 55
      rw [← hwB] at cB
      obtain ⟨bs, hbs⟩ : ∃ bs, bs = wr.heap.size := ⟨_, rfl⟩
      have HBB : Hid (Below w.heap.size w wB) := HB.out.trans (cB.bl.mono HB.out.size)
      have HCB : Hid (∀ V, Below wB.heap.size wB V → V.cell? ⟨bs, 0, none⟩ = some (.func (.func 23) #[] #[]) ∧ V.cell? ⟨bs, 1, none⟩ = some (.func (.func 35) #[] #[.pointer (some ⟨B + 6, 0, none⟩), .pointer (some ⟨B + 7, 0, none⟩)])) := fun V hV => by
        have q0 := cB.cl
        rw [← hbs] at q0
        have q := (hV.block bs (by have := cB.sz; omega)).trans q0
        exact ⟨cell18 q rfl, cell18 q rfl⟩
      have hFB := HF.out wB HBB.out
      have CB := pbt18 (B + 6) (B + 7) (.pointer (some ⟨hb, 0, none⟩)) 1 32768 wB (hFB.bx 6 (by omega)) (hFB.bx 7 (by omega))
      have HCV : Hid (∀ V, Below wB.heap.size wB V → V.cell? ⟨hb, 5, none⟩ = some (.int .i64 h.lo) ∧ ∃ v, V.cell? ⟨hb, 0, none⟩ = some v) := fun V hV => by
        have q := HQ.out V (HBB.out.trans (hV.mono HBB.out.size))
        exact ⟨cell18 q rfl, _, cell18 (k := 0) q rfl⟩
      have HWB : Hid (wr.alloc (.cells #[.func (.func 23) #[] #[], .func (.func 35) #[] #[.pointer (some ⟨B + 6, 0, none⟩), .pointer (some ⟨B + 7, 0, none⟩)]] 55) = wB) := hwB.symm
      have HBS : Hid (wr.heap.size = bs) := hbs.symm
      have HNX : Hid (1 ≤ h.lo → h.lo ≤ 32768 → Fi18 h 4) := fun a b => by
        obtain ⟨g0, g1, g2, g3⟩ := HFI.out
        refine ⟨fun _ => ?_, fun _ => ?_, fun _ => ?_, fun _ => ?_⟩
        all_goals first | omega | exact g0 (by omega) | exact g1 (by omega) | exact g2 (by omega) | exact g3 (by omega) | exact ⟨by omega, by omega⟩
      have HNO : Hid (h.lo < 1 ∨ 32768 < h.lo → ok = false) := fun a => by
        rw [HOK.out]
        refine decide_eq_false (fun x => ?_)
        obtain ⟨x0, x1, x2, x3⟩ := x
        omega
      clear hwB cB hbs hFl hFB HFI
      generalize h.lo = v at *
      go_wp2_with fail
      rw [HWB.out, HBS.out]
      refine CB.mono ?_
      rintro e1 w1 ⟨rfl, b1⟩
      have HB1 : Hid (Below wB.heap.size wB w1) := b1
      obtain ⟨g0, g1⟩ := HCB.out w1 b1
      have CA := phf18_4 hb w1 (HCV.out w1 b1).2
      obtain ⟨cv, -⟩ := HCV.out w1 b1
      clear b1 CB f0 f1
      by_cases hlo : v < 1
      · have hk := HNO.out (.inl hlo)
        subst hk
        go_wp2_with fail
        refine CA.mono ?_
        rintro e2 w2 ⟨rfl, hw2⟩
        subst w2
        go_wp2_with fail
        go_ret
        exact ⟨rfl, HBB.out.trans (HB1.out.mono HBB.out.size)⟩
      · by_cases hhi : 32768 < v
        · have hk := HNO.out (.inr hhi)
          subst hk
          go_wp2_with fail
          refine CA.mono ?_
          rintro e2 w2 ⟨rfl, hw2⟩
          subst w2
          go_wp2_with fail
          go_ret
          exact ⟨rfl, HBB.out.trans (HB1.out.mono HBB.out.size)⟩
        · have hn := HNX.out (by omega) (by omega)
          have hn : Hid (Fi18 h 4) := hn
          go_wp2_with fail
          refine CA.mono ?_
          rintro e2 w2 ⟨rfl, hw2⟩
          subst w2
          go_wp2_with fail
          go_roundw
          case rel => exact ⟨4, by omega, rfl, hn.out, HBB.out.trans (HB1.out.mono HBB.out.size)⟩
          case measure => simp [intOf]
    · have hk : ok = true := by rw [HOK.out]; exact decide_eq_true HFI.out.all
      subst hk
      go_wp2_with fail
      go_ret
      exact ⟨rfl, HB.out⟩
set_option maxRecDepth 100000 in
theorem pchk18 (h : Hd18) (w : World) : Calls Tryz.prog 8 #[.agg #[.int .i64 h.o, .int .i64 h.n, .int .u32 h.so, .int .u32 h.sn, .int .i64 h.wi, .int .i64 h.lo]] w fun e w' => e = .returned (.int .i64 (if h.Ok then 0 else 180)) ∧ Below w.heap.size w w' := by
  by_cases hk : h.Ok
  · rw [if_pos hk]
    obtain ⟨ok, hok⟩ : ∃ ok, decide h.Ok = ok := ⟨_, rfl⟩
    have hok2 : Hid (decide h.Ok = ok) := hok
    have cA := cb16 w h.cs 24
    obtain ⟨wA, hwA⟩ : ∃ wA, wA = w.alloc (.cells h.cs 24) := ⟨_, rfl⟩
    rw [← hwA] at cA
    obtain ⟨b4, hb4⟩ : ∃ b4, b4 = w.heap.size := ⟨_, rfl⟩
    have HWA : Hid (w.alloc (.cells #[.int .i64 h.o, .int .i64 h.n, .int .u32 h.so, .int .u32 h.sn, .int .i64 h.wi, .int .i64 h.lo] 24) = wA) := hwA.symm
    have HB4 : Hid (w.heap.size = b4) := hb4.symm
    have q : wA.heap[b4]? = some (.cells h.cs 24 (0, 0)) := by rw [hb4]; exact cA.cl
    have HA : Hid (Below w.heap.size w wA) := cA.bl
    have HPF : Hid (∀ w1, Below wA.heap.size wA w1 → Fl18 wA.heap.size w1 → Calls Tryz.prog 17 #[.slice (some ⟨wA.heap.size + 8, 0, none⟩) 4 4, .pointer (some ⟨b4, 0, none⟩)] w1 fun e w' => e = .returned (.bool ok) ∧ Below w1.heap.size w1 w') := fun w1 b1 hF => by
      have := pfit18 wA.heap.size b4 h w1 hF ((b1.block _ (Array.getElem?_eq_some_iff.1 q).1).trans q)
      rw [hok] at this
      exact this
    clear hwA hb4 cA q hok
    have hk2 : ok = true := by rw [← hok2.out]; exact decide_eq_true hk
    subst hk2
    go_enter Tryz.func8, Tryz.ntmps8
    go_wp2_with fail
    rw [HWA.out, HB4.out]
    refine (phf18 wA).mono ?_
    rintro e1 w1 ⟨rfl, hF, b1⟩
    have PF := HPF.out w1 b1 hF
    have HB1 : Hid (Below w.heap.size w w1) := HA.out.trans (b1.mono HA.out.size)
    clear b1 hF
    go_wp2_with fail
    refine PF.mono ?_
    rintro e2 w2 ⟨rfl, b2⟩
    go_wp2_with fail
    go_ret
    exact ⟨rfl, HB1.out.trans (b2.mono HB1.out.size)⟩
  · rw [if_neg hk]
    obtain ⟨ok, hok⟩ : ∃ ok, decide h.Ok = ok := ⟨_, rfl⟩
    have hok2 : Hid (decide h.Ok = ok) := hok
    have cA := cb16 w h.cs 24
    obtain ⟨wA, hwA⟩ : ∃ wA, wA = w.alloc (.cells h.cs 24) := ⟨_, rfl⟩
    rw [← hwA] at cA
    obtain ⟨b4, hb4⟩ : ∃ b4, b4 = w.heap.size := ⟨_, rfl⟩
    have HWA : Hid (w.alloc (.cells #[.int .i64 h.o, .int .i64 h.n, .int .u32 h.so, .int .u32 h.sn, .int .i64 h.wi, .int .i64 h.lo] 24) = wA) := hwA.symm
    have HB4 : Hid (w.heap.size = b4) := hb4.symm
    have q : wA.heap[b4]? = some (.cells h.cs 24 (0, 0)) := by rw [hb4]; exact cA.cl
    have HA : Hid (Below w.heap.size w wA) := cA.bl
    have HPF : Hid (∀ w1, Below wA.heap.size wA w1 → Fl18 wA.heap.size w1 → Calls Tryz.prog 17 #[.slice (some ⟨wA.heap.size + 8, 0, none⟩) 4 4, .pointer (some ⟨b4, 0, none⟩)] w1 fun e w' => e = .returned (.bool ok) ∧ Below w1.heap.size w1 w') := fun w1 b1 hF => by
      have := pfit18 wA.heap.size b4 h w1 hF ((b1.block _ (Array.getElem?_eq_some_iff.1 q).1).trans q)
      rw [hok] at this
      exact this
    clear hwA hb4 cA q hok
    have hk2 : ok = false := by rw [← hok2.out]; exact decide_eq_false hk
    subst hk2
    go_enter Tryz.func8, Tryz.ntmps8
    go_wp2_with fail
    rw [HWA.out, HB4.out]
    refine (phf18 wA).mono ?_
    rintro e1 w1 ⟨rfl, hF, b1⟩
    have PF := HPF.out w1 b1 hF
    have HB1 : Hid (Below w.heap.size w w1) := HA.out.trans (b1.mono HA.out.size)
    clear b1 hF
    go_wp2_with fail
    refine PF.mono ?_
    rintro e2 w2 ⟨rfl, b2⟩
    go_wp2_with fail
    go_ret
    exact ⟨rfl, HB1.out.trans (b2.mono HB1.out.size)⟩
end Go.Proofs.YtalojcpgkgeofabGreatDoor
