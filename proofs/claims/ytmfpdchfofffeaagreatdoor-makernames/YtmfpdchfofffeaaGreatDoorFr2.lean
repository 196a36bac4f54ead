import Derived.Test.YtmfpdchfofffeaaGreatDoorFr1
import Derived.Test.YtmfpdchfofffeaaGreatDoorEd3
namespace Go.Proofs.YtmfpdchfofffeaaGreatDoor
open Go.RowKit
set_option linter.unusedVariables false
def bd18 : Nat → Int
  | 0 => 0
  | 1 => 16777216
  | 2 => 0
  | 3 => 16777216
  | 4 => 64
  | 5 => 65536
  | 6 => 1
  | _ => 32768
structure Fl18 (B : Nat) (W : World) : Prop where
  fl : W.heap[B + 8]? = some (.cells (fl18 B) 202 (0, 0))
  bx : ∀ k, k < 8 → W.heap[B + k]? = some (.cells #[.int .i64 (bd18 k)] 3 (0, 0))
theorem Fl18.old {B : Nat} {W W' : World} (h : Fl18 B W) (hb : Below W.heap.size W W') : Fl18 B W' :=
  ⟨(hb.block _ (Array.getElem?_eq_some_iff.1 h.fl).1).trans h.fl, fun k hk => (hb.block _ (Array.getElem?_eq_some_iff.1 (h.bx k hk)).1).trans (h.bx k hk)⟩
structure Tw18 (w : World) (x y : Int) (w' : World) : Prop where
  bl : Below w.heap.size w w'
  sz : w'.heap.size = w.heap.size + 2
  c0 : w'.heap[w.heap.size]? = some (.cells #[.int .i64 x] 3 (0, 0))
  c1 : w'.heap[w.heap.size + 1]? = some (.cells #[.int .i64 y] 3 (0, 0))
theorem tw18 (w : World) (x y : Int) : Tw18 w x y ((w.alloc (.cells #[.int .i64 x] 3)).alloc (.cells #[.int .i64 y] 3)) := by
  have a := cb16 w #[.int .i64 x] 3
  have b := cb16 (w.alloc (.cells #[.int .i64 x] 3)) #[.int .i64 y] 3
  refine ⟨a.bl.trans (b.bl.mono a.bl.size), by rw [b.sz, a.sz], ?_, ?_⟩
  · exact (b.bl.block _ (by rw [a.sz]; omega)).trans a.cl
  · have := b.cl; rw [a.sz] at this; exact this
set_option maxRecDepth 100000 in
theorem pbt18 (p q : Nat) (v : Value) (x y : Int) (w : World) (hp : w.heap[p]? = some (.cells #[.int .i64 x] 3 (0, 0))) (hq : w.heap[q]? = some (.cells #[.int .i64 y] 3 (0, 0))) :
    Calls Tryz.prog 167 #[v, .pointer (some ⟨p, 0, none⟩), .pointer (some ⟨q, 0, none⟩)] w fun e w' => e = .returned (.tuple #[.int .i64 x, .int .i64 y]) ∧ Below w.heap.size w w' := by
  have c1 : w.drew.cell? ⟨p, 0, none⟩ = some (.int .i64 x) := one_cell16 hp
  have c2 : w.drew.cell? ⟨q, 0, none⟩ = some (.int .i64 y) := one_cell16 hq
  go_enter Tryz.func167, Tryz.ntmps167
  go_wp2
  go_region
  all_goals
    go_wp2
    go_ret2
    exact ⟨rfl, (Below.refl _ _).drew⟩
set_option maxRecDepth 100000 in
theorem phf18_1 (b : Nat) (w : World) (h : ∃ v, w.cell? ⟨b, 0, none⟩ = some v) : Calls Tryz.prog 126 #[.pointer (some ⟨b, 0, none⟩)] w fun e w' => e = .returned (.pointer (some ⟨b, 0, none⟩)) ∧ w' = w := by
  obtain ⟨v, h⟩ := h
  go_enter Tryz.func126, Tryz.ntmps126
  go_wp2
  go_ret
  exact ⟨rfl, rfl⟩
set_option maxRecDepth 100000 in
theorem phf18_2 (b : Nat) (w : World) (h : ∃ v, w.cell? ⟨b, 0, none⟩ = some v) : Calls Tryz.prog 128 #[.pointer (some ⟨b, 0, none⟩)] w fun e w' => e = .returned (.pointer (some ⟨b, 1, none⟩)) ∧ w' = w := by
  obtain ⟨v, h⟩ := h
  go_enter Tryz.func128, Tryz.ntmps128
  go_wp2
  go_ret
  exact ⟨rfl, rfl⟩
set_option maxRecDepth 100000 in
theorem phf18_3 (b : Nat) (w : World) (h : ∃ v, w.cell? ⟨b, 0, none⟩ = some v) : Calls Tryz.prog 129 #[.pointer (some ⟨b, 0, none⟩)] w fun e w' => e = .returned (.pointer (some ⟨b, 4, none⟩)) ∧ w' = w := by
  obtain ⟨v, h⟩ := h
  go_enter Tryz.func129, Tryz.ntmps129
  go_wp2
  go_ret
  exact ⟨rfl, rfl⟩
set_option maxRecDepth 100000 in
theorem phf18_4 (b : Nat) (w : World) (h : ∃ v, w.cell? ⟨b, 0, none⟩ = some v) : Calls Tryz.prog 130 #[.pointer (some ⟨b, 0, none⟩)] w fun e w' => e = .returned (.pointer (some ⟨b, 5, none⟩)) ∧ w' = w := by
  obtain ⟨v, h⟩ := h
  go_enter Tryz.func130, Tryz.ntmps130
  go_wp2
  go_ret
  exact ⟨rfl, rfl⟩
set_option maxRecDepth 100000 in
set_option maxHeartbeats 4000000 in
theorem phf18 (w : World) : Calls Tryz.prog 95 #[] w fun e w' => e = .returned (.slice (some ⟨w.heap.size + 8, 0, none⟩) 4 4) ∧ Fl18 w.heap.size w' ∧ Below w.heap.size w w' := by
  go_enter Tryz.func95, Tryz.ntmps95
  go_wp2_with fail
  refine (pbtw18 0 16777216 w).mono ?_
  rintro e1 w1 ⟨rfl, h1⟩
  have t1 : Tw18 w 0 16777216 w1 := by rw [h1]; exact tw18 _ _ _
  clear h1
  go_wp2_with fail
  refine (pbtw18 0 16777216 w1).mono ?_
  rintro e2 w2 ⟨rfl, h2⟩
  have t2 : Tw18 w1 0 16777216 w2 := by rw [h2]; exact tw18 _ _ _
  clear h2
  go_wp2_with fail
  refine (pbtw18 64 65536 w2).mono ?_
  rintro e3 w3 ⟨rfl, h3⟩
  have t3 : Tw18 w2 64 65536 w3 := by rw [h3]; exact tw18 _ _ _
  clear h3
  go_wp2_with fail
  refine (pbtw18 1 32768 w3).mono ?_
  rintro e4 w4 ⟨rfl, h4⟩
  have t4 : Tw18 w3 1 32768 w4 := by rw [h4]; exact tw18 _ _ _
  clear h4
  have HT : Hid (Tw18 w 0 16777216 w1 ∧ Tw18 w1 0 16777216 w2 ∧ Tw18 w2 64 65536 w3 ∧ Tw18 w3 1 32768 w4) := ⟨t1, t2, t3, t4⟩
  clear t1 t2 t3 t4
  go_wp2_with fail
  obtain ⟨t1, t2, t3, t4⟩ := HT.out
  have z1 := t1.sz
  have z2 := t2.sz
  have z3 := t3.sz
  have z4 := t4.sz
  have y2 : w2.heap.size = w.heap.size + 4 := by omega
  have y3 : w3.heap.size = w.heap.size + 6 := by omega
  have y4 : w4.heap.size = w.heap.size + 8 := by omega
  have cL := cb16 w4 (fl18 w.heap.size) 202
  have b14 : Below w1.heap.size w1 w4 := t2.bl.trans ((t3.bl.trans (t4.bl.mono t3.bl.size)).mono t2.bl.size)
  have b24 : Below w2.heap.size w2 w4 := t3.bl.trans (t4.bl.mono t3.bl.size)
  have b04 : Below w.heap.size w w4 := t1.bl.trans (b14.mono t1.bl.size)
  have b1L := b14.trans (cL.bl.mono b14.size)
  have b2L := b24.trans (cL.bl.mono b24.size)
  have b3L := t4.bl.trans (cL.bl.mono t4.bl.size)
  rw [z1, y2, y3, y4]
  go_ret
  refine ⟨rfl, ⟨?_, ?_⟩, b04.trans (cL.bl.mono b04.size)⟩
  · have := cL.cl; rw [y4] at this; exact this
  · intro k hk
    match k, hk with
    | 0, _ => exact (b1L.block _ (by omega)).trans t1.c0
    | 1, _ => exact (b1L.block _ (by omega)).trans t1.c1
    | 2, _ => have h := t2.c0; rw [z1] at h; exact (b2L.block _ (by omega)).trans h
    | 3, _ => have h := t2.c1; rw [z1] at h; exact (b2L.block _ (by omega)).trans h
    | 4, _ => have h := t3.c0; rw [y2] at h; exact (b3L.block _ (by omega)).trans h
    | 5, _ => have h := t3.c1; rw [y2] at h; exact (b3L.block _ (by omega)).trans h
    | 6, _ => have h := t4.c0; rw [y3] at h; exact (cL.bl.block _ (by omega)).trans h
    | 7, _ => have h := t4.c1; rw [y3] at h; exact (cL.bl.block _ (by omega)).trans h
end Go.Proofs.YtmfpdchfofffeaaGreatDoor
