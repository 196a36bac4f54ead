import Derived.Test.YtalojcpgkgeofaaGreatDoorPd
import Derived.Test.YtalojcpgkgeofaaGreatDoorPe
namespace Go.Proofs.YtalojcpgkgeofaaGreatDoor
open Go.RowKit Go.Shelf
set_option linter.unusedVariables false
attribute [local go_sem] Oper.semAt_some

/-! span: the least place that is read, and the one behind the greatest. -/
theorem fn16_ofP {f : FuncId} {P : Program} {c : Code} {Q : Exit → Act → World → Prop} {a : Act} {w : World} (h : c.wp P Q a w) : fn16 f P c Q a w := fn16_of (n := 0) (wpIn_wide.2 h)
theorem one_cell16 {w : World} {b : Nat} {x : Value} {t : TypeId} (h : w.heap[b]? = some (.cells #[x] t (0, 0))) : w.cell? ⟨b, 0, none⟩ = some x := by simp [World.cell?, h]
theorem one_free16 {w : World} {b i : Nat} {x : Value} {t : TypeId} (h : w.heap[b]? = some (.cells #[x] t (0, 0))) : w.frozen? ⟨b, i, none⟩ = false := by simp [World.frozen?, h]
theorem one_set16 {w : World} {b : Nat} {x : Value} {t : TypeId} (h : w.heap[b]? = some (.cells #[x] t (0, 0))) (u : Value) : (w.setCell ⟨b, 0, none⟩ u).heap[b]? = some (.cells #[u] t (0, 0)) := by
  simp [World.setCell, Array.getElem?_modify, h]
theorem below_drewN16 {B : Nat} {a b : World} (h : Below B a b) (n : Nat) : Below B a (b.drewN n) := ⟨h.os, h.tape, h.output, h.size, h.block⟩
theorem cell_far16 {w : World} {b i b' j : Nat} {v x : Value} (hc : w.cell? ⟨b', j, none⟩ = some x) (h : b' ≠ b) : (w.setCell ⟨b, i, none⟩ v).cell? ⟨b', j, none⟩ = some x := by
  rw [World.cell?_of_block (w := w) (a := ⟨b', j, none⟩) (heap_setCell_other _ _ _ _ h)]; exact hc
structure Sq16 (w : World) (f1 f2 : Nat) (x y : Int) (W : World) : Prop where
  h1 : W.heap[f1]? = some (.cells #[.int .i64 x] 3 (0, 0))
  h2 : W.heap[f2]? = some (.cells #[.int .i64 y] 3 (0, 0))
  bl : Below w.heap.size w W
theorem Sq16.kp {w W W' : World} {f1 f2 : Nat} {x y : Int} {E : Nat → Prop} (h : Sq16 w f1 f2 x y W) (hk : Kp E W W') (h1 : ¬ E f1) (h2 : ¬ E f2) (hE : ∀ k, E k → w.heap.size ≤ k) : Sq16 w f1 f2 x y W' :=
  ⟨hk.heap h.h1 h1, hk.heap h.h2 h2, h.bl.trans (hk.below hE h.bl.size)⟩
end Go.Proofs.YtalojcpgkgeofaaGreatDoor

namespace Go.Proofs.YtalojcpgkgeofaaGreatDoor
open Go.RowKit
set_option linter.unusedVariables false

/-! headFields, fit, Check. -/
def bd18 : Nat → Int
  | 0 => 0
  | 1 => 16777216
  | 2 => 0
  | 3 => 16777216
  | 4 => 64
  | 5 => 65536
  | 6 => 1
  | _ => 32768
structure Fl18 (B : Nat) (W : World) : Prop where
  fl : W.heap[B + 8]? = some (.cells (fl18 B) 145 (0, 0))
  bx : ∀ k, k < 8 → W.heap[B + k]? = some (.cells #[.int .i64 (bd18 k)] 3 (0, 0))
theorem Fl18.old {B : Nat} {W W' : World} (h : Fl18 B W) (hb : Below W.heap.size W W') : Fl18 B W' :=
  ⟨(hb.block _ (Array.getElem?_eq_some_iff.1 h.fl).1).trans h.fl, fun k hk => (hb.block _ (Array.getElem?_eq_some_iff.1 (h.bx k hk)).1).trans (h.bx k hk)⟩
structure Tw18 (w : World) (x y : Int) (w' : World) : Prop where
  bl : Below w.heap.size w w'
  sz : w'.heap.size = w.heap.size + 2
  c0 : w'.heap[w.heap.size]? = some (.cells #[.int .i64 x] 3 (0, 0))
  c1 : w'.heap[w.heap.size + 1]? = some (.cells #[.int .i64 y] 3 (0, 0))
theorem tw18 (w : World) (x y : Int) : Tw18 w x y ((w.alloc (.cells #[.int .i64 x] 3)).alloc (.cells #[.int .i64 y] 3)) := by
  have a := cb16 w #[.int .i64 x] 3
  have b := cb16 (w.alloc (.cells #[.int .i64 x] 3)) #[.int .i64 y] 3
  refine ⟨a.bl.trans (b.bl.mono a.bl.size), by rw [b.sz, a.sz], ?_, ?_⟩
  · exact (b.bl.block _ (by rw [a.sz]; omega)).trans a.cl
  · have := b.cl; rw [a.sz] at this; exact this
set_option maxRecDepth 100000 in
theorem pbt18 (p q : Nat) (v : Value) (x y : Int) (w : World) (hp : w.heap[p]? = some (.cells #[.int .i64 x] 3 (0, 0))) (hq : w.heap[q]? = some (.cells #[.int .i64 y] 3 (0, 0))) :
    Calls Tryz.prog 115 #[v, .pointer (some ⟨p, 0, none⟩), .pointer (some ⟨q, 0, none⟩)] w fun e w' => e = .returned (.tuple #[.int .i64 x, .int .i64 y]) ∧ Below w.heap.size w w' := by
  have c1 : w.drew.cell? ⟨p, 0, none⟩ = some (.int .i64 x) := one_cell16 hp
  have c2 : w.drew.cell? ⟨q, 0, none⟩ = some (.int .i64 y) := one_cell16 hq
  go_enter Tryz.func115, Tryz.ntmps115
  go_wp2
  go_region
  all_goals
    go_wp2
    go_ret2
    exact ⟨rfl, (Below.refl _ _).drew⟩
set_option maxRecDepth 100000 in
theorem phf18_1 (b : Nat) (w : World) (h : ∃ v, w.cell? ⟨b, 0, none⟩ = some v) : Calls Tryz.prog 82 #[.pointer (some ⟨b, 0, none⟩)] w fun e w' => e = .returned (.pointer (some ⟨b, 0, none⟩)) ∧ w' = w := by
  obtain ⟨v, h⟩ := h
  go_enter Tryz.func82, Tryz.ntmps82
  go_wp2
  go_ret
  exact ⟨rfl, rfl⟩
set_option maxRecDepth 100000 in
theorem phf18_2 (b : Nat) (w : World) (h : ∃ v, w.cell? ⟨b, 0, none⟩ = some v) : Calls Tryz.prog 84 #[.pointer (some ⟨b, 0, none⟩)] w fun e w' => e = .returned (.pointer (some ⟨b, 1, none⟩)) ∧ w' = w := by
  obtain ⟨v, h⟩ := h
  go_enter Tryz.func84, Tryz.ntmps84
  go_wp2
  go_ret
  exact ⟨rfl, rfl⟩
set_option maxRecDepth 100000 in
theorem phf18_3 (b : Nat) (w : World) (h : ∃ v, w.cell? ⟨b, 0, none⟩ = some v) : Calls Tryz.prog 85 #[.pointer (some ⟨b, 0, none⟩)] w fun e w' => e = .returned (.pointer (some ⟨b, 4, none⟩)) ∧ w' = w := by
  obtain ⟨v, h⟩ := h
  go_enter Tryz.func85, Tryz.ntmps85
  go_wp2
  go_ret
  exact ⟨rfl, rfl⟩
set_option maxRecDepth 100000 in
theorem phf18_4 (b : Nat) (w : World) (h : ∃ v, w.cell? ⟨b, 0, none⟩ = some v) : Calls Tryz.prog 86 #[.pointer (some ⟨b, 0, none⟩)] w fun e w' => e = .returned (.pointer (some ⟨b, 5, none⟩)) ∧ w' = w := by
  obtain ⟨v, h⟩ := h
  go_enter Tryz.func86, Tryz.ntmps86
  go_wp2
  go_ret
  exact ⟨rfl, rfl⟩
set_option maxRecDepth 100000 in
set_option maxHeartbeats 4000000 in
theorem phf18 (w : World) : Calls Tryz.prog 56 #[] w fun e w' => e = .returned (.slice (some ⟨w.heap.size + 8, 0, none⟩) 4 4) ∧ Fl18 w.heap.size w' ∧ Below w.heap.size w w' := by
  go_enter Tryz.func56, Tryz.ntmps56
  go_wp2_with fail
  refine (pbtw18 0 16777216 w).mono ?_
  rintro e1 w1 ⟨rfl, h1⟩
  have t1 : Tw18 w 0 16777216 w1 := by rw [h1]; exact tw18 _ _ _
  clear h1
  go_wp2_with fail
  refine (pbtw18 0 16777216 w1).mono ?_
  rintro e2 w2 ⟨rfl, h2⟩
  have t2 : Tw18 w1 0 16777216 w2 := by rw [h2]; exact tw18 _ _ _
  clear h2
  go_wp2_with fail
  refine (pbtw18 64 65536 w2).mono ?_
  rintro e3 w3 ⟨rfl, h3⟩
  have t3 : Tw18 w2 64 65536 w3 := by rw [h3]; exact tw18 _ _ _
  clear h3
  go_wp2_with fail
  refine (pbtw18 1 32768 w3).mono ?_
  rintro e4 w4 ⟨rfl, h4⟩
  have t4 : Tw18 w3 1 32768 w4 := by rw [h4]; exact tw18 _ _ _
  clear h4
  have HT : Hid (Tw18 w 0 16777216 w1 ∧ Tw18 w1 0 16777216 w2 ∧ Tw18 w2 64 65536 w3 ∧ Tw18 w3 1 32768 w4) := ⟨t1, t2, t3, t4⟩
  clear t1 t2 t3 t4
  go_wp2_with fail
  obtain ⟨t1, t2, t3, t4⟩ := HT.out
  have z1 := t1.sz
  have z2 := t2.sz
  have z3 := t3.sz
  have z4 := t4.sz
  have y2 : w2.heap.size = w.heap.size + 4 := by omega
  have y3 : w3.heap.size = w.heap.size + 6 := by omega
  have y4 : w4.heap.size = w.heap.size + 8 := by omega
  have cL := cb16 w4 (fl18 w.heap.size) 145
  have b14 : Below w1.heap.size w1 w4 := t2.bl.trans ((t3.bl.trans (t4.bl.mono t3.bl.size)).mono t2.bl.size)
  have b24 : Below w2.heap.size w2 w4 := t3.bl.trans (t4.bl.mono t3.bl.size)
  have b04 : Below w.heap.size w w4 := t1.bl.trans (b14.mono t1.bl.size)
  have b1L := b14.trans (cL.bl.mono b14.size)
  have b2L := b24.trans (cL.bl.mono b24.size)
  have b3L := t4.bl.trans (cL.bl.mono t4.bl.size)
  rw [z1, y2, y3, y4]
  go_ret
  refine ⟨rfl, ⟨?_, ?_⟩, b04.trans (cL.bl.mono b04.size)⟩
  · have := cL.cl; rw [y4] at this; exact this
  · intro k hk
    match k, hk with
    | 0, _ => exact (b1L.block _ (by omega)).trans t1.c0
    | 1, _ => exact (b1L.block _ (by omega)).trans t1.c1
    | 2, _ => have h := t2.c0; rw [z1] at h; exact (b2L.block _ (by omega)).trans h
    | 3, _ => have h := t2.c1; rw [z1] at h; exact (b2L.block _ (by omega)).trans h
    | 4, _ => have h := t3.c0; rw [y2] at h; exact (b3L.block _ (by omega)).trans h
    | 5, _ => have h := t3.c1; rw [y2] at h; exact (b3L.block _ (by omega)).trans h
    | 6, _ => have h := t4.c0; rw [y3] at h; exact (cL.bl.block _ (by omega)).trans h
    | 7, _ => have h := t4.c1; rw [y3] at h; exact (cL.bl.block _ (by omega)).trans h
end Go.Proofs.YtalojcpgkgeofaaGreatDoor
