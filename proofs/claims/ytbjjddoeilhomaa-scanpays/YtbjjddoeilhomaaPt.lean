import Derived.Test.YtbjjddoeilhomaaPr
import Derived.Test.YtbjjddoeilhomaaPh
import Derived.Deep.RegionHeld3
namespace Go.Proofs.Ytbjjddoeilhomaa
open Go.RowKit
set_option linter.unusedVariables false

/-! Boxes that are made one behind the other. -/
theorem size_alloc15 (w : World) (o : Obj) : (w.alloc o).heap.size = w.heap.size + 1 := by simp
theorem cell_new15 (w : World) (v : Value) (t : TypeId) {k : Nat} (hk : k = w.heap.size) : (w.alloc (.cells #[v] t)).cell? ⟨k, 0, none⟩ = some v := by subst hk; rw [World.cell?_alloc_mark]; rfl
theorem cell_more15 {w : World} {k i : Nat} {v : Value} (o : Obj) (h : w.cell? ⟨k, i, none⟩ = some v) : (w.alloc o).cell? ⟨k, i, none⟩ = some v :=
  (((Below.refl w.heap.size w).alloc (Nat.le_refl _) o).cell (p := ⟨k, i, none⟩) (World.block_lt_of_cell? w _ h)).trans h
theorem heap_more15 {w : World} {k : Nat} {x : Obj} (o : Obj) (h : w.heap[k]? = some x) : (w.alloc o).heap[k]? = some x := by
  rw [heap_alloc_old _ _ (Array.getElem?_eq_some_iff.1 h).1]
  exact h
theorem heap_new15 (w : World) (o : Obj) {k : Nat} (hk : k = w.heap.size) : (w.alloc o).heap[k]? = some o := by subst hk; exact heap_alloc_new _ _
theorem below_alloc15 {w w' : World} (h : Below w.heap.size w w') (o : Obj) : Below w.heap.size w (w'.alloc o) := h.alloc h.size _
theorem boxes15 (w : World) (v1 v2 v3 v4 : Value) (t1 t2 t3 t4 : TypeId) :
    (((((w.alloc (.cells #[v1] t1)).alloc (.cells #[v2] t2)).alloc (.cells #[v3] t3)).alloc (.cells #[v4] t4)).cell? ⟨w.heap.size, 0, none⟩ = some v1) ∧
    (((((w.alloc (.cells #[v1] t1)).alloc (.cells #[v2] t2)).alloc (.cells #[v3] t3)).alloc (.cells #[v4] t4)).cell? ⟨w.heap.size + 1, 0, none⟩ = some v2) ∧
    (((((w.alloc (.cells #[v1] t1)).alloc (.cells #[v2] t2)).alloc (.cells #[v3] t3)).alloc (.cells #[v4] t4)).cell? ⟨w.heap.size + 2, 0, none⟩ = some v3) ∧
    (((((w.alloc (.cells #[v1] t1)).alloc (.cells #[v2] t2)).alloc (.cells #[v3] t3)).alloc (.cells #[v4] t4)).cell? ⟨w.heap.size + 3, 0, none⟩ = some v4) ∧
    Below w.heap.size w ((((w.alloc (.cells #[v1] t1)).alloc (.cells #[v2] t2)).alloc (.cells #[v3] t3)).alloc (.cells #[v4] t4)) :=
  ⟨cell_more15 _ (cell_more15 _ (cell_more15 _ (cell_new15 _ _ _ rfl))), cell_more15 _ (cell_more15 _ (cell_new15 _ _ _ (by simp only [size_alloc15]))), cell_more15 _ (cell_new15 _ _ _ (by simp only [size_alloc15])), cell_new15 _ _ _ (by simp only [size_alloc15]), below_alloc15 (below_alloc15 (below_alloc15 (below_alloc15 (Below.refl _ _) _) _) _) _⟩

/-! The landed scan: the closures, best, pays. -/
/-- A closure's four variables: two texts and a place in each. -/
structure Cl15 (w : World) (a1 a2 a3 a4 : Nat) (za : Option Addr) (z : List Int) (n zc p : Nat) (qa : Option Addr) (q : List Int) (m qc f : Nat) : Prop where
  c1 : w.cell? ⟨a1, 0, none⟩ = some (.slice za n zc)
  c2 : w.cell? ⟨a2, 0, none⟩ = some (.int .i64 (p : Int))
  c3 : w.cell? ⟨a3, 0, none⟩ = some (.slice qa m qc)
  c4 : w.cell? ⟨a4, 0, none⟩ = some (.int .i64 (f : Int))
  zs : Seg w za z
  qs : Seg w qa q
  zn : z.length = n
  qm : q.length = m
theorem Cl15.old {w w' : World} {a1 a2 a3 a4 : Nat} {za : Option Addr} {z : List Int} {n zc p : Nat} {qa : Option Addr} {q : List Int} {m qc f : Nat} (h : Cl15 w a1 a2 a3 a4 za z n zc p qa q m qc f) (hb : Below w.heap.size w w') : Cl15 w' a1 a2 a3 a4 za z n zc p qa q m qc f :=
  ⟨(hb.cell (p := ⟨a1, 0, none⟩) (World.block_lt_of_cell? w _ h.c1)).trans h.c1, (hb.cell (p := ⟨a2, 0, none⟩) (World.block_lt_of_cell? w _ h.c2)).trans h.c2, (hb.cell (p := ⟨a3, 0, none⟩) (World.block_lt_of_cell? w _ h.c3)).trans h.c3, (hb.cell (p := ⟨a4, 0, none⟩) (World.block_lt_of_cell? w _ h.c4)).trans h.c4, h.zs.old hb, h.qs.old hb, h.zn, h.qm⟩
theorem drewN_below15 (w : World) (d : Nat) : Below w.heap.size w (w.drewN d) := by
  have h := Below.refl w.heap.size w
  exact ⟨h.os, h.tape, h.output, h.size, h.block⟩
set_option maxRecDepth 100000 in
set_option maxHeartbeats 2000000 in
theorem pcl15_fw (a1 a2 a3 a4 : Nat) (za : Option Addr) (z : List Int) (n zc p : Nat) (qa : Option Addr) (q : List Int) (m qc f i : Nat) (w : World) (h : Cl15 w a1 a2 a3 a4 za z n zc p qa q m qc f) (hn : n ≤ 140737488351232) (hm : m ≤ 140737488351232) (hp : p + i < n) (hf : f + i < m) :
    Calls Try.prog 33 #[.int .i64 (i : Int), .pointer (some ⟨a1, 0, none⟩), .pointer (some ⟨a2, 0, none⟩), .pointer (some ⟨a3, 0, none⟩), .pointer (some ⟨a4, 0, none⟩)] w fun e w' => e = .returned (.bool (fs15 z p q f i)) ∧ Below w.heap.size w w' := by
  obtain ⟨s, hs⟩ : ∃ s, s = p + i := ⟨_, rfl⟩
  obtain ⟨t, ht⟩ : ∃ t, t = f + i := ⟨_, rfl⟩
  have hsi : (p : Int) + (i : Int) = (s : Int) := by omega
  have hti : (f : Int) + (i : Int) = (t : Int) := by omega
  have i3 : IntKind.i64.wrap ((p : Int) + (i : Int)) = (s : Int) := by rw [hsi]; exact IntWalk.i64_in _ (by omega)
  have i4 : IntKind.i64.wrap ((f : Int) + (i : Int)) = (t : Int) := by rw [hti]; exact IntWalk.i64_in _ (by omega)
  have hsn : s < n := by omega
  have htm : t < m := by omega
  have hsn2 : (s : Int) < (n : Int) := by omega
  have htm2 : (t : Int) < (m : Int) := by omega
  obtain ⟨b1, o1, hz1, k1⟩ := h.zs.at_ s (by rw [h.zn]; omega)
  obtain ⟨b2, o2, hq2, k2⟩ := h.qs.at_ t (by rw [h.qm]; omega)
  have v1 := h.zs.bd s
  have v2 := h.qs.bd t
  have c1 := h.c1
  have c2 := h.c2
  have c3 := h.c3
  have c4 := h.c4
  rw [hz1] at c1
  rw [hq2] at c3
  have HX : Hid ((fs15 z p q f i) = (z.getD s 0 == q.getD t 0)) := by show _ = _; rw [hs, ht]; rfl
  rw [HX.out]
  have HBD : Hid (∀ d, Below w.heap.size w (w.drewN d)) := fun d => drewN_below15 w d
  clear h hz1 hq2 HX hs ht hp hf
  generalize z.getD s 0 = x at *
  generalize q.getD t 0 = y at *
  by_cases hxy : x = y
  · subst hxy
    have e1 : (x == x) = true := by simp
    rw [e1]
    go_enter Try.func33, Try.ntmps33
    go_wp2_with fail
    go_quiet (fail)
    go_wp2_with fail
    go_ret
    exact ⟨by first | rfl | simp, HBD.out _⟩
  · have e1 : (x == y) = false := by simpa using hxy
    rw [e1]
    go_enter Try.func33, Try.ntmps33
    go_wp2_with fail
    go_quiet (fail)
    go_wp2_with fail
    go_ret
    exact ⟨by first | rfl | simp [hxy], HBD.out _⟩
set_option maxRecDepth 100000 in
set_option maxHeartbeats 2000000 in
theorem pcl15_bw (a1 a2 a3 a4 : Nat) (za : Option Addr) (z : List Int) (n zc p : Nat) (qa : Option Addr) (q : List Int) (m qc f i : Nat) (w : World) (h : Cl15 w a1 a2 a3 a4 za z n zc p qa q m qc f) (hn : n ≤ 140737488351232) (hm : m ≤ 140737488351232) (hp : i < p) (hpn : p ≤ n) (hf : i < f) (hfm : f ≤ m) :
    Calls Try.prog 37 #[.int .i64 (i : Int), .pointer (some ⟨a1, 0, none⟩), .pointer (some ⟨a2, 0, none⟩), .pointer (some ⟨a3, 0, none⟩), .pointer (some ⟨a4, 0, none⟩)] w fun e w' => e = .returned (.bool (bk15 z p q f i)) ∧ Below w.heap.size w w' := by
  obtain ⟨s, hs⟩ : ∃ s, s = p - 1 - i := ⟨_, rfl⟩
  obtain ⟨t, ht⟩ : ∃ t, t = f - 1 - i := ⟨_, rfl⟩
  have hsi : (p : Int) - 1 - (i : Int) = (s : Int) := by omega
  have hti : (f : Int) - 1 - (i : Int) = (t : Int) := by omega
  have i1 : IntKind.i64.wrap ((p : Int) - 1) = (p : Int) - 1 := IntWalk.i64_in _ (by omega)
  have i2 : IntKind.i64.wrap ((f : Int) - 1) = (f : Int) - 1 := IntWalk.i64_in _ (by omega)
  have i3 : IntKind.i64.wrap ((p : Int) - 1 - (i : Int)) = (s : Int) := by rw [hsi]; exact IntWalk.i64_in _ (by omega)
  have i4 : IntKind.i64.wrap ((f : Int) - 1 - (i : Int)) = (t : Int) := by rw [hti]; exact IntWalk.i64_in _ (by omega)
  have hsn : s < n := by omega
  have htm : t < m := by omega
  have hsn2 : (s : Int) < (n : Int) := by omega
  have htm2 : (t : Int) < (m : Int) := by omega
  obtain ⟨b1, o1, hz1, k1⟩ := h.zs.at_ s (by rw [h.zn]; omega)
  obtain ⟨b2, o2, hq2, k2⟩ := h.qs.at_ t (by rw [h.qm]; omega)
  have v1 := h.zs.bd s
  have v2 := h.qs.bd t
  have c1 := h.c1
  have c2 := h.c2
  have c3 := h.c3
  have c4 := h.c4
  rw [hz1] at c1
  rw [hq2] at c3
  have HX : Hid ((bk15 z p q f i) = (z.getD s 0 == q.getD t 0)) := by show _ = _; rw [hs, ht]; rfl
  rw [HX.out]
  have HBD : Hid (∀ d, Below w.heap.size w (w.drewN d)) := fun d => drewN_below15 w d
  clear h hz1 hq2 HX hs ht hp hf
  generalize z.getD s 0 = x at *
  generalize q.getD t 0 = y at *
  by_cases hxy : x = y
  · subst hxy
    have e1 : (x == x) = true := by simp
    rw [e1]
    go_enter Try.func37, Try.ntmps37
    go_wp2_with fail
    go_quiet (fail)
    go_wp2_with fail
    go_ret
    exact ⟨by first | rfl | simp, HBD.out _⟩
  · have e1 : (x == y) = false := by simpa using hxy
    rw [e1]
    go_enter Try.func37, Try.ntmps37
    go_wp2_with fail
    go_quiet (fail)
    go_wp2_with fail
    go_ret
    exact ⟨by first | rfl | simp [hxy], HBD.out _⟩
set_option maxRecDepth 100000 in
set_option maxHeartbeats 2000000 in
theorem pcl15_s1 (a1 a2 a3 a4 : Nat) (za : Option Addr) (z : List Int) (n zc p : Nat) (qa : Option Addr) (q : List Int) (m qc f i : Nat) (w : World) (h : Cl15 w a1 a2 a3 a4 za z n zc p qa q m qc f) (hn : n ≤ 140737488351232) (hm : m ≤ 140737488351232) (hp : p + i < n) (hf : f + i < m) :
    Calls Try.prog 39 #[.int .i64 (i : Int), .pointer (some ⟨a1, 0, none⟩), .pointer (some ⟨a2, 0, none⟩), .pointer (some ⟨a3, 0, none⟩), .pointer (some ⟨a4, 0, none⟩)] w fun e w' => e = .returned (.bool (fs15 z p q f i)) ∧ Below w.heap.size w w' := by
  obtain ⟨s, hs⟩ : ∃ s, s = p + i := ⟨_, rfl⟩
  obtain ⟨t, ht⟩ : ∃ t, t = f + i := ⟨_, rfl⟩
  have hsi : (p : Int) + (i : Int) = (s : Int) := by omega
  have hti : (f : Int) + (i : Int) = (t : Int) := by omega
  have i3 : IntKind.i64.wrap ((p : Int) + (i : Int)) = (s : Int) := by rw [hsi]; exact IntWalk.i64_in _ (by omega)
  have i4 : IntKind.i64.wrap ((f : Int) + (i : Int)) = (t : Int) := by rw [hti]; exact IntWalk.i64_in _ (by omega)
  have hsn : s < n := by omega
  have htm : t < m := by omega
  have hsn2 : (s : Int) < (n : Int) := by omega
  have htm2 : (t : Int) < (m : Int) := by omega
  obtain ⟨b1, o1, hz1, k1⟩ := h.zs.at_ s (by rw [h.zn]; omega)
  obtain ⟨b2, o2, hq2, k2⟩ := h.qs.at_ t (by rw [h.qm]; omega)
  have v1 := h.zs.bd s
  have v2 := h.qs.bd t
  have c1 := h.c1
  have c2 := h.c2
  have c3 := h.c3
  have c4 := h.c4
  rw [hz1] at c1
  rw [hq2] at c3
  have HX : Hid ((fs15 z p q f i) = (z.getD s 0 == q.getD t 0)) := by show _ = _; rw [hs, ht]; rfl
  rw [HX.out]
  have HBD : Hid (∀ d, Below w.heap.size w (w.drewN d)) := fun d => drewN_below15 w d
  clear h hz1 hq2 HX hs ht hp hf
  generalize z.getD s 0 = x at *
  generalize q.getD t 0 = y at *
  by_cases hxy : x = y
  · subst hxy
    have e1 : (x == x) = true := by simp
    rw [e1]
    go_enter Try.func39, Try.ntmps39
    go_wp2_with fail
    go_quiet (fail)
    go_wp2_with fail
    go_ret
    exact ⟨by first | rfl | simp, HBD.out _⟩
  · have e1 : (x == y) = false := by simpa using hxy
    rw [e1]
    go_enter Try.func39, Try.ntmps39
    go_wp2_with fail
    go_quiet (fail)
    go_wp2_with fail
    go_ret
    exact ⟨by first | rfl | simp [hxy], HBD.out _⟩
set_option maxRecDepth 100000 in
set_option maxHeartbeats 2000000 in
theorem pcl15_s2 (a1 a2 a3 a4 : Nat) (za : Option Addr) (z : List Int) (n zc p : Nat) (qa : Option Addr) (q : List Int) (m qc f i : Nat) (w : World) (h : Cl15 w a1 a2 a3 a4 za z n zc p qa q m qc f) (hn : n ≤ 140737488351232) (hm : m ≤ 140737488351232) (hp : p + i < n) (hf : f + i < m) :
    Calls Try.prog 40 #[.int .i64 (i : Int), .pointer (some ⟨a1, 0, none⟩), .pointer (some ⟨a2, 0, none⟩), .pointer (some ⟨a3, 0, none⟩), .pointer (some ⟨a4, 0, none⟩)] w fun e w' => e = .returned (.bool (fs15 z p q f i)) ∧ Below w.heap.size w w' := by
  obtain ⟨s, hs⟩ : ∃ s, s = p + i := ⟨_, rfl⟩
  obtain ⟨t, ht⟩ : ∃ t, t = f + i := ⟨_, rfl⟩
  have hsi : (p : Int) + (i : Int) = (s : Int) := by omega
  have hti : (f : Int) + (i : Int) = (t : Int) := by omega
  have i3 : IntKind.i64.wrap ((p : Int) + (i : Int)) = (s : Int) := by rw [hsi]; exact IntWalk.i64_in _ (by omega)
  have i4 : IntKind.i64.wrap ((f : Int) + (i : Int)) = (t : Int) := by rw [hti]; exact IntWalk.i64_in _ (by omega)
  have hsn : s < n := by omega
  have htm : t < m := by omega
  have hsn2 : (s : Int) < (n : Int) := by omega
  have htm2 : (t : Int) < (m : Int) := by omega
  obtain ⟨b1, o1, hz1, k1⟩ := h.zs.at_ s (by rw [h.zn]; omega)
  obtain ⟨b2, o2, hq2, k2⟩ := h.qs.at_ t (by rw [h.qm]; omega)
  have v1 := h.zs.bd s
  have v2 := h.qs.bd t
  have c1 := h.c1
  have c2 := h.c2
  have c3 := h.c3
  have c4 := h.c4
  rw [hz1] at c1
  rw [hq2] at c3
  have HX : Hid ((fs15 z p q f i) = (z.getD s 0 == q.getD t 0)) := by show _ = _; rw [hs, ht]; rfl
  rw [HX.out]
  have HBD : Hid (∀ d, Below w.heap.size w (w.drewN d)) := fun d => drewN_below15 w d
  clear h hz1 hq2 HX hs ht hp hf
  generalize z.getD s 0 = x at *
  generalize q.getD t 0 = y at *
  by_cases hxy : x = y
  · subst hxy
    have e1 : (x == x) = true := by simp
    rw [e1]
    go_enter Try.func40, Try.ntmps40
    go_wp2_with fail
    go_quiet (fail)
    go_wp2_with fail
    go_ret
    exact ⟨by first | rfl | simp, HBD.out _⟩
  · have e1 : (x == y) = false := by simpa using hxy
    rw [e1]
    go_enter Try.func40, Try.ntmps40
    go_wp2_with fail
    go_quiet (fail)
    go_wp2_with fail
    go_ret
    exact ⟨by first | rfl | simp [hxy], HBD.out _⟩

/-! The landed scan: best. -/
set_option maxRecDepth 100000 in
set_option maxHeartbeats 4000000 in
theorem pbest15_fw (a1 a2 a3 a4 r : Nat) (most : Nat) (g l : Nat → Bool) (w : World) (hmo : most ≤ 281474976710656)
    (HG : Hid (∀ (i : Nat) (W : World), i < most → Below w.heap.size w W → Calls Try.prog 33 #[.int .i64 (i : Int), .pointer (some ⟨a1, 0, none⟩), .pointer (some ⟨a2, 0, none⟩), .pointer (some ⟨a3, 0, none⟩), .pointer (some ⟨a4, 0, none⟩)] W fun e w' => e = .returned (.bool (g i)) ∧ Below w.heap.size w w'))
    (HL : Hid (∀ (i : Nat) (W : World), i < most → Below w.heap.size w W → Calls Try.prog 49 #[.int .i64 (i : Int), .pointer (some ⟨r, 0, none⟩)] W fun e w' => e = .returned (.bool (l i)) ∧ Below w.heap.size w w')) :
    Calls Try.prog 41 #[.int .i64 (most : Int), .func (.func 33) #[] #[.pointer (some ⟨a1, 0, none⟩), .pointer (some ⟨a2, 0, none⟩), .pointer (some ⟨a3, 0, none⟩), .pointer (some ⟨a4, 0, none⟩)], .func (.func 49) #[] #[.pointer (some ⟨r, 0, none⟩)]] w fun e w' => e = .returned (.int .i64 ((bst15 (sc15 g l) most : Nat) : Int)) ∧ Below w.heap.size w w' := by
  have HS : Hid (∀ i, sc15 g l (i + 1) = sc15 g l i + o15 (g i) - o15 (l i) ∧ top15 (sc15 g l) (i + 1) = (if top15 (sc15 g l) i < sc15 g l (i + 1) then sc15 g l (i + 1) else top15 (sc15 g l) i) ∧ bst15 (sc15 g l) (i + 1) = (if top15 (sc15 g l) i < sc15 g l (i + 1) then i + 1 else bst15 (sc15 g l) i)) := fun i => ⟨rfl, rfl, rfl⟩
  have HB : Hid (∀ i : Nat, (-(i : Int) ≤ sc15 g l i ∧ sc15 g l i ≤ (i : Int)) ∧ (0 ≤ top15 (sc15 g l) i ∧ top15 (sc15 g l) i ≤ (i : Int)) ∧ bst15 (sc15 g l) i ≤ i) := fun i => ⟨sc15_bd g l i, top15_bd g l i, bst15_le _ i⟩
  go_enter Try.func41, Try.ntmps41
  go_wp2_with fail
  go_loopw [7, 8, 9, 12] (fun t7 t8 t9 ti wr => ∃ (i ou : Nat) (sc tp : Int), i ≤ most ∧ t7 = .int .i64 (ou : Int) ∧ t8 = .int .i64 sc ∧ t9 = .int .i64 tp ∧ ti = .int .i64 (i : Int) ∧ Hid (ou = bst15 (sc15 g l) i) ∧ Hid (sc = sc15 g l i) ∧ Hid (tp = top15 (sc15 g l) i) ∧ Below w.heap.size w wr) (fun _ _ _ ti _ => most - (intOf ti).toNat)
  case atStart => exact ⟨0, 0, 0, 0, Nat.zero_le _, rfl, rfl, rfl, rfl, (rfl : _ = _), (rfl : _ = _), (rfl : _ = _), Below.refl _ _⟩
  case round =>
    obtain ⟨i, ou, sc, tp, hi, rfl, rfl, rfl, rfl, HO, HSC, HTP, BR⟩ := hrel
    by_cases h1 : i < most
    · have h1i : (i : Int) < (most : Int) := by omega
      have CG := HG.out i wr h1 BR
      have HL2 : Hid (∀ W, Below w.heap.size w W → Calls Try.prog 49 #[.int .i64 (i : Int), .pointer (some ⟨r, 0, none⟩)] W fun e w' => e = .returned (.bool (l i)) ∧ Below w.heap.size w w') := fun W hb => HL.out i W h1 hb
      obtain ⟨⟨b1, b2⟩, ⟨b3, b4⟩, b5⟩ := HB.out i
      obtain ⟨s1, s2, s3⟩ := HS.out i
      obtain ⟨sc2, hsc2⟩ : ∃ sc2, sc2 = sc15 g l (i + 1) := ⟨_, rfl⟩
      have HC2 : Hid (sc2 = sc15 g l (i + 1)) := hsc2
      rw [← hsc2] at s1 s2 s3
      rw [← HSC.out] at s1 b1 b2
      rw [← HTP.out] at s2 s3 b3 b4
      rw [← HO.out] at s3 b5
      have HS2 : Hid (top15 (sc15 g l) (i + 1) = (if tp < sc2 then sc2 else tp)) := s2
      have HS3 : Hid (bst15 (sc15 g l) (i + 1) = (if tp < sc2 then i + 1 else ou)) := s3
      clear hsc2 s2 s3
      generalize g i = gb at *
      generalize l i = lb at *
      go_wp2_with fail
      refine CG.mono ?_
      rintro e1 w2 ⟨rfl, B2⟩
      clear CG
      have CL := HL2.out w2 B2
      clear HL2
      cases gb
      · go_wp2_with fail
        refine CL.mono ?_
        rintro e3 w3 ⟨rfl, B3⟩
        clear CL
        cases lb
        · have e2 : sc2 = sc := by rw [s1]; simp [o15] <;> omega
          rw [e2] at HC2 HS2 HS3
          clear s1 e2
          by_cases hz : tp < sc
          · rw [if_pos hz] at HS2 HS3
            go_wp2_with fail
            go_roundw
            case rel => exact ⟨i + 1, i + 1, sc, sc, by omega, by first | rfl | go_num, by first | rfl | go_num, by first | rfl | go_num, by first | rfl | go_num, HS3.out.symm, HC2.out, HS2.out.symm, B3⟩
            case measure => simp [intOf]; omega
          · rw [if_neg hz] at HS2 HS3
            go_wp2_with fail
            go_roundw
            case rel => exact ⟨i + 1, ou, sc, tp, by omega, by first | rfl | go_num, by first | rfl | go_num, by first | rfl | go_num, by first | rfl | go_num, HS3.out.symm, HC2.out, HS2.out.symm, B3⟩
            case measure => simp [intOf]; omega
        · have f2 : IntKind.i64.wrap (sc - 1) = sc - 1 := IntWalk.i64_in _ (by omega)
          have e2 : sc2 = sc - 1 := by rw [s1]; simp [o15] <;> omega
          rw [e2] at HC2 HS2 HS3
          clear s1 e2
          by_cases hz : tp < sc - 1
          · rw [if_pos hz] at HS2 HS3
            go_wp2_with fail
            go_roundw
            case rel => exact ⟨i + 1, i + 1, sc - 1, sc - 1, by omega, by first | rfl | go_num, by first | rfl | go_num, by first | rfl | go_num, by first | rfl | go_num, HS3.out.symm, HC2.out, HS2.out.symm, B3⟩
            case measure => simp [intOf]; omega
          · rw [if_neg hz] at HS2 HS3
            go_wp2_with fail
            go_roundw
            case rel => exact ⟨i + 1, ou, sc - 1, tp, by omega, by first | rfl | go_num, by first | rfl | go_num, by first | rfl | go_num, by first | rfl | go_num, HS3.out.symm, HC2.out, HS2.out.symm, B3⟩
            case measure => simp [intOf]; omega
      · have f1 : IntKind.i64.wrap (sc + 1) = sc + 1 := IntWalk.i64_in _ (by omega)
        go_wp2_with fail
        refine CL.mono ?_
        rintro e3 w3 ⟨rfl, B3⟩
        clear CL
        cases lb
        · have e2 : sc2 = sc + 1 := by rw [s1]; simp [o15] <;> omega
          rw [e2] at HC2 HS2 HS3
          clear s1 e2
          by_cases hz : tp < sc + 1
          · rw [if_pos hz] at HS2 HS3
            go_wp2_with fail
            go_roundw
            case rel => exact ⟨i + 1, i + 1, sc + 1, sc + 1, by omega, by first | rfl | go_num, by first | rfl | go_num, by first | rfl | go_num, by first | rfl | go_num, HS3.out.symm, HC2.out, HS2.out.symm, B3⟩
            case measure => simp [intOf]; omega
          · rw [if_neg hz] at HS2 HS3
            go_wp2_with fail
            go_roundw
            case rel => exact ⟨i + 1, ou, sc + 1, tp, by omega, by first | rfl | go_num, by first | rfl | go_num, by first | rfl | go_num, by first | rfl | go_num, HS3.out.symm, HC2.out, HS2.out.symm, B3⟩
            case measure => simp [intOf]; omega
        · have f2 : IntKind.i64.wrap (sc + 1 - 1) = sc := by rw [show sc + 1 - 1 = sc by omega]; exact IntWalk.i64_in _ (by omega)
          have f3 : sc + 1 - 1 = sc := by omega
          have e2 : sc2 = sc := by rw [s1]; simp [o15] <;> omega
          rw [e2] at HC2 HS2 HS3
          clear s1 e2
          by_cases hz : tp < sc
          · rw [if_pos hz] at HS2 HS3
            go_wp2_with fail
            go_roundw
            case rel => exact ⟨i + 1, i + 1, sc, sc, by omega, by first | rfl | go_num, by first | rfl | go_num, by first | rfl | go_num, by first | rfl | go_num, HS3.out.symm, HC2.out, HS2.out.symm, B3⟩
            case measure => simp [intOf]; omega
          · rw [if_neg hz] at HS2 HS3
            go_wp2_with fail
            go_roundw
            case rel => exact ⟨i + 1, ou, sc, tp, by omega, by first | rfl | go_num, by first | rfl | go_num, by first | rfl | go_num, by first | rfl | go_num, HS3.out.symm, HC2.out, HS2.out.symm, B3⟩
            case measure => simp [intOf]; omega
    · have h1i : ¬ (i : Int) < (most : Int) := by omega
      obtain rfl : i = most := by omega
      go_wp2_with fail
      go_ret
      exact ⟨by rw [← HO.out]; rfl, BR⟩

/-! The landed scan: best. -/
set_option maxRecDepth 100000 in
set_option maxHeartbeats 4000000 in
theorem pbest15_bw (a1 a2 a3 a4 r : Nat) (most : Nat) (g l : Nat → Bool) (w : World) (hmo : most ≤ 281474976710656)
    (HG : Hid (∀ (i : Nat) (W : World), i < most → Below w.heap.size w W → Calls Try.prog 37 #[.int .i64 (i : Int), .pointer (some ⟨a1, 0, none⟩), .pointer (some ⟨a2, 0, none⟩), .pointer (some ⟨a3, 0, none⟩), .pointer (some ⟨a4, 0, none⟩)] W fun e w' => e = .returned (.bool (g i)) ∧ Below w.heap.size w w'))
    (HL : Hid (∀ (i : Nat) (W : World), i < most → Below w.heap.size w W → Calls Try.prog 49 #[.int .i64 (i : Int), .pointer (some ⟨r, 0, none⟩)] W fun e w' => e = .returned (.bool (l i)) ∧ Below w.heap.size w w')) :
    Calls Try.prog 41 #[.int .i64 (most : Int), .func (.func 37) #[] #[.pointer (some ⟨a1, 0, none⟩), .pointer (some ⟨a2, 0, none⟩), .pointer (some ⟨a3, 0, none⟩), .pointer (some ⟨a4, 0, none⟩)], .func (.func 49) #[] #[.pointer (some ⟨r, 0, none⟩)]] w fun e w' => e = .returned (.int .i64 ((bst15 (sc15 g l) most : Nat) : Int)) ∧ Below w.heap.size w w' := by
  have HS : Hid (∀ i, sc15 g l (i + 1) = sc15 g l i + o15 (g i) - o15 (l i) ∧ top15 (sc15 g l) (i + 1) = (if top15 (sc15 g l) i < sc15 g l (i + 1) then sc15 g l (i + 1) else top15 (sc15 g l) i) ∧ bst15 (sc15 g l) (i + 1) = (if top15 (sc15 g l) i < sc15 g l (i + 1) then i + 1 else bst15 (sc15 g l) i)) := fun i => ⟨rfl, rfl, rfl⟩
  have HB : Hid (∀ i : Nat, (-(i : Int) ≤ sc15 g l i ∧ sc15 g l i ≤ (i : Int)) ∧ (0 ≤ top15 (sc15 g l) i ∧ top15 (sc15 g l) i ≤ (i : Int)) ∧ bst15 (sc15 g l) i ≤ i) := fun i => ⟨sc15_bd g l i, top15_bd g l i, bst15_le _ i⟩
  go_enter Try.func41, Try.ntmps41
  go_wp2_with fail
  go_loopw [7, 8, 9, 12] (fun t7 t8 t9 ti wr => ∃ (i ou : Nat) (sc tp : Int), i ≤ most ∧ t7 = .int .i64 (ou : Int) ∧ t8 = .int .i64 sc ∧ t9 = .int .i64 tp ∧ ti = .int .i64 (i : Int) ∧ Hid (ou = bst15 (sc15 g l) i) ∧ Hid (sc = sc15 g l i) ∧ Hid (tp = top15 (sc15 g l) i) ∧ Below w.heap.size w wr) (fun _ _ _ ti _ => most - (intOf ti).toNat)
  case atStart => exact ⟨0, 0, 0, 0, Nat.zero_le _, rfl, rfl, rfl, rfl, (rfl : _ = _), (rfl : _ = _), (rfl : _ = _), Below.refl _ _⟩
  case round =>
    obtain ⟨i, ou, sc, tp, hi, rfl, rfl, rfl, rfl, HO, HSC, HTP, BR⟩ := hrel
    by_cases h1 : i < most
    · have h1i : (i : Int) < (most : Int) := by omega
      have CG := HG.out i wr h1 BR
      have HL2 : Hid (∀ W, Below w.heap.size w W → Calls Try.prog 49 #[.int .i64 (i : Int), .pointer (some ⟨r, 0, none⟩)] W fun e w' => e = .returned (.bool (l i)) ∧ Below w.heap.size w w') := fun W hb => HL.out i W h1 hb
      obtain ⟨⟨b1, b2⟩, ⟨b3, b4⟩, b5⟩ := HB.out i
      obtain ⟨s1, s2, s3⟩ := HS.out i
      obtain ⟨sc2, hsc2⟩ : ∃ sc2, sc2 = sc15 g l (i + 1) := ⟨_, rfl⟩
      have HC2 : Hid (sc2 = sc15 g l (i + 1)) := hsc2
      rw [← hsc2] at s1 s2 s3
      rw [← HSC.out] at s1 b1 b2
      rw [← HTP.out] at s2 s3 b3 b4
      rw [← HO.out] at s3 b5
      have HS2 : Hid (top15 (sc15 g l) (i + 1) = (if tp < sc2 then sc2 else tp)) := s2
      have HS3 : Hid (bst15 (sc15 g l) (i + 1) = (if tp < sc2 then i + 1 else ou)) := s3
      clear hsc2 s2 s3
      generalize g i = gb at *
      generalize l i = lb at *
      go_wp2_with fail
      refine CG.mono ?_
      rintro e1 w2 ⟨rfl, B2⟩
      clear CG
      have CL := HL2.out w2 B2
      clear HL2
      cases gb
      · go_wp2_with fail
        refine CL.mono ?_
        rintro e3 w3 ⟨rfl, B3⟩
        clear CL
        cases lb
        · have e2 : sc2 = sc := by rw [s1]; simp [o15] <;> omega
          rw [e2] at HC2 HS2 HS3
          clear s1 e2
          by_cases hz : tp < sc
          · rw [if_pos hz] at HS2 HS3
            go_wp2_with fail
            go_roundw
            case rel => exact ⟨i + 1, i + 1, sc, sc, by omega, by first | rfl | go_num, by first | rfl | go_num, by first | rfl | go_num, by first | rfl | go_num, HS3.out.symm, HC2.out, HS2.out.symm, B3⟩
            case measure => simp [intOf]; omega
          · rw [if_neg hz] at HS2 HS3
            go_wp2_with fail
            go_roundw
            case rel => exact ⟨i + 1, ou, sc, tp, by omega, by first | rfl | go_num, by first | rfl | go_num, by first | rfl | go_num, by first | rfl | go_num, HS3.out.symm, HC2.out, HS2.out.symm, B3⟩
            case measure => simp [intOf]; omega
        · have f2 : IntKind.i64.wrap (sc - 1) = sc - 1 := IntWalk.i64_in _ (by omega)
          have e2 : sc2 = sc - 1 := by rw [s1]; simp [o15] <;> omega
          rw [e2] at HC2 HS2 HS3
          clear s1 e2
          by_cases hz : tp < sc - 1
          · rw [if_pos hz] at HS2 HS3
            go_wp2_with fail
            go_roundw
            case rel => exact ⟨i + 1, i + 1, sc - 1, sc - 1, by omega, by first | rfl | go_num, by first | rfl | go_num, by first | rfl | go_num, by first | rfl | go_num, HS3.out.symm, HC2.out, HS2.out.symm, B3⟩
            case measure => simp [intOf]; omega
          · rw [if_neg hz] at HS2 HS3
            go_wp2_with fail
            go_roundw
            case rel => exact ⟨i + 1, ou, sc - 1, tp, by omega, by first | rfl | go_num, by first | rfl | go_num, by first | rfl | go_num, by first | rfl | go_num, HS3.out.symm, HC2.out, HS2.out.symm, B3⟩
            case measure => simp [intOf]; omega
      · have f1 : IntKind.i64.wrap (sc + 1) = sc + 1 := IntWalk.i64_in _ (by omega)
        go_wp2_with fail
        refine CL.mono ?_
        rintro e3 w3 ⟨rfl, B3⟩
        clear CL
        cases lb
        · have e2 : sc2 = sc + 1 := by rw [s1]; simp [o15] <;> omega
          rw [e2] at HC2 HS2 HS3
          clear s1 e2
          by_cases hz : tp < sc + 1
          · rw [if_pos hz] at HS2 HS3
            go_wp2_with fail
            go_roundw
            case rel => exact ⟨i + 1, i + 1, sc + 1, sc + 1, by omega, by first | rfl | go_num, by first | rfl | go_num, by first | rfl | go_num, by first | rfl | go_num, HS3.out.symm, HC2.out, HS2.out.symm, B3⟩
            case measure => simp [intOf]; omega
          · rw [if_neg hz] at HS2 HS3
            go_wp2_with fail
            go_roundw
            case rel => exact ⟨i + 1, ou, sc + 1, tp, by omega, by first | rfl | go_num, by first | rfl | go_num, by first | rfl | go_num, by first | rfl | go_num, HS3.out.symm, HC2.out, HS2.out.symm, B3⟩
            case measure => simp [intOf]; omega
        · have f2 : IntKind.i64.wrap (sc + 1 - 1) = sc := by rw [show sc + 1 - 1 = sc by omega]; exact IntWalk.i64_in _ (by omega)
          have f3 : sc + 1 - 1 = sc := by omega
          have e2 : sc2 = sc := by rw [s1]; simp [o15] <;> omega
          rw [e2] at HC2 HS2 HS3
          clear s1 e2
          by_cases hz : tp < sc
          · rw [if_pos hz] at HS2 HS3
            go_wp2_with fail
            go_roundw
            case rel => exact ⟨i + 1, i + 1, sc, sc, by omega, by first | rfl | go_num, by first | rfl | go_num, by first | rfl | go_num, by first | rfl | go_num, HS3.out.symm, HC2.out, HS2.out.symm, B3⟩
            case measure => simp [intOf]; omega
          · rw [if_neg hz] at HS2 HS3
            go_wp2_with fail
            go_roundw
            case rel => exact ⟨i + 1, ou, sc, tp, by omega, by first | rfl | go_num, by first | rfl | go_num, by first | rfl | go_num, by first | rfl | go_num, HS3.out.symm, HC2.out, HS2.out.symm, B3⟩
            case measure => simp [intOf]; omega
    · have h1i : ¬ (i : Int) < (most : Int) := by omega
      obtain rfl : i = most := by omega
      go_wp2_with fail
      go_ret
      exact ⟨by rw [← HO.out]; rfl, BR⟩

/-! The landed scan: best. -/
set_option maxRecDepth 100000 in
set_option maxHeartbeats 4000000 in
theorem pbest15_sp (a1 a2 a3 a4 c1 c2 c3 c4 : Nat) (most : Nat) (g l : Nat → Bool) (w : World) (hmo : most ≤ 281474976710656)
    (HG : Hid (∀ (i : Nat) (W : World), i < most → Below w.heap.size w W → Calls Try.prog 39 #[.int .i64 (i : Int), .pointer (some ⟨a1, 0, none⟩), .pointer (some ⟨a2, 0, none⟩), .pointer (some ⟨a3, 0, none⟩), .pointer (some ⟨a4, 0, none⟩)] W fun e w' => e = .returned (.bool (g i)) ∧ Below w.heap.size w w'))
    (HL : Hid (∀ (i : Nat) (W : World), i < most → Below w.heap.size w W → Calls Try.prog 40 #[.int .i64 (i : Int), .pointer (some ⟨c1, 0, none⟩), .pointer (some ⟨c2, 0, none⟩), .pointer (some ⟨c3, 0, none⟩), .pointer (some ⟨c4, 0, none⟩)] W fun e w' => e = .returned (.bool (l i)) ∧ Below w.heap.size w w')) :
    Calls Try.prog 41 #[.int .i64 (most : Int), .func (.func 39) #[] #[.pointer (some ⟨a1, 0, none⟩), .pointer (some ⟨a2, 0, none⟩), .pointer (some ⟨a3, 0, none⟩), .pointer (some ⟨a4, 0, none⟩)], .func (.func 40) #[] #[.pointer (some ⟨c1, 0, none⟩), .pointer (some ⟨c2, 0, none⟩), .pointer (some ⟨c3, 0, none⟩), .pointer (some ⟨c4, 0, none⟩)]] w fun e w' => e = .returned (.int .i64 ((bst15 (sc15 g l) most : Nat) : Int)) ∧ Below w.heap.size w w' := by
  have HS : Hid (∀ i, sc15 g l (i + 1) = sc15 g l i + o15 (g i) - o15 (l i) ∧ top15 (sc15 g l) (i + 1) = (if top15 (sc15 g l) i < sc15 g l (i + 1) then sc15 g l (i + 1) else top15 (sc15 g l) i) ∧ bst15 (sc15 g l) (i + 1) = (if top15 (sc15 g l) i < sc15 g l (i + 1) then i + 1 else bst15 (sc15 g l) i)) := fun i => ⟨rfl, rfl, rfl⟩
  have HB : Hid (∀ i : Nat, (-(i : Int) ≤ sc15 g l i ∧ sc15 g l i ≤ (i : Int)) ∧ (0 ≤ top15 (sc15 g l) i ∧ top15 (sc15 g l) i ≤ (i : Int)) ∧ bst15 (sc15 g l) i ≤ i) := fun i => ⟨sc15_bd g l i, top15_bd g l i, bst15_le _ i⟩
  go_enter Try.func41, Try.ntmps41
  go_wp2_with fail
  go_loopw [7, 8, 9, 12] (fun t7 t8 t9 ti wr => ∃ (i ou : Nat) (sc tp : Int), i ≤ most ∧ t7 = .int .i64 (ou : Int) ∧ t8 = .int .i64 sc ∧ t9 = .int .i64 tp ∧ ti = .int .i64 (i : Int) ∧ Hid (ou = bst15 (sc15 g l) i) ∧ Hid (sc = sc15 g l i) ∧ Hid (tp = top15 (sc15 g l) i) ∧ Below w.heap.size w wr) (fun _ _ _ ti _ => most - (intOf ti).toNat)
  case atStart => exact ⟨0, 0, 0, 0, Nat.zero_le _, rfl, rfl, rfl, rfl, (rfl : _ = _), (rfl : _ = _), (rfl : _ = _), Below.refl _ _⟩
  case round =>
    obtain ⟨i, ou, sc, tp, hi, rfl, rfl, rfl, rfl, HO, HSC, HTP, BR⟩ := hrel
    by_cases h1 : i < most
    · have h1i : (i : Int) < (most : Int) := by omega
      have CG := HG.out i wr h1 BR
      have HL2 : Hid (∀ W, Below w.heap.size w W → Calls Try.prog 40 #[.int .i64 (i : Int), .pointer (some ⟨c1, 0, none⟩), .pointer (some ⟨c2, 0, none⟩), .pointer (some ⟨c3, 0, none⟩), .pointer (some ⟨c4, 0, none⟩)] W fun e w' => e = .returned (.bool (l i)) ∧ Below w.heap.size w w') := fun W hb => HL.out i W h1 hb
      obtain ⟨⟨b1, b2⟩, ⟨b3, b4⟩, b5⟩ := HB.out i
      obtain ⟨s1, s2, s3⟩ := HS.out i
      obtain ⟨sc2, hsc2⟩ : ∃ sc2, sc2 = sc15 g l (i + 1) := ⟨_, rfl⟩
      have HC2 : Hid (sc2 = sc15 g l (i + 1)) := hsc2
      rw [← hsc2] at s1 s2 s3
      rw [← HSC.out] at s1 b1 b2
      rw [← HTP.out] at s2 s3 b3 b4
      rw [← HO.out] at s3 b5
      have HS2 : Hid (top15 (sc15 g l) (i + 1) = (if tp < sc2 then sc2 else tp)) := s2
      have HS3 : Hid (bst15 (sc15 g l) (i + 1) = (if tp < sc2 then i + 1 else ou)) := s3
      clear hsc2 s2 s3
      generalize g i = gb at *
      generalize l i = lb at *
      go_wp2_with fail
      refine CG.mono ?_
      rintro e1 w2 ⟨rfl, B2⟩
      clear CG
      have CL := HL2.out w2 B2
      clear HL2
      cases gb
      · go_wp2_with fail
        refine CL.mono ?_
        rintro e3 w3 ⟨rfl, B3⟩
        clear CL
        cases lb
        · have e2 : sc2 = sc := by rw [s1]; simp [o15] <;> omega
          rw [e2] at HC2 HS2 HS3
          clear s1 e2
          by_cases hz : tp < sc
          · rw [if_pos hz] at HS2 HS3
            go_wp2_with fail
            go_roundw
            case rel => exact ⟨i + 1, i + 1, sc, sc, by omega, by first | rfl | go_num, by first | rfl | go_num, by first | rfl | go_num, by first | rfl | go_num, HS3.out.symm, HC2.out, HS2.out.symm, B3⟩
            case measure => simp [intOf]; omega
          · rw [if_neg hz] at HS2 HS3
            go_wp2_with fail
            go_roundw
            case rel => exact ⟨i + 1, ou, sc, tp, by omega, by first | rfl | go_num, by first | rfl | go_num, by first | rfl | go_num, by first | rfl | go_num, HS3.out.symm, HC2.out, HS2.out.symm, B3⟩
            case measure => simp [intOf]; omega
        · have f2 : IntKind.i64.wrap (sc - 1) = sc - 1 := IntWalk.i64_in _ (by omega)
          have e2 : sc2 = sc - 1 := by rw [s1]; simp [o15] <;> omega
          rw [e2] at HC2 HS2 HS3
          clear s1 e2
          by_cases hz : tp < sc - 1
          · rw [if_pos hz] at HS2 HS3
            go_wp2_with fail
            go_roundw
            case rel => exact ⟨i + 1, i + 1, sc - 1, sc - 1, by omega, by first | rfl | go_num, by first | rfl | go_num, by first | rfl | go_num, by first | rfl | go_num, HS3.out.symm, HC2.out, HS2.out.symm, B3⟩
            case measure => simp [intOf]; omega
          · rw [if_neg hz] at HS2 HS3
            go_wp2_with fail
            go_roundw
            case rel => exact ⟨i + 1, ou, sc - 1, tp, by omega, by first | rfl | go_num, by first | rfl | go_num, by first | rfl | go_num, by first | rfl | go_num, HS3.out.symm, HC2.out, HS2.out.symm, B3⟩
            case measure => simp [intOf]; omega
      · have f1 : IntKind.i64.wrap (sc + 1) = sc + 1 := IntWalk.i64_in _ (by omega)
        go_wp2_with fail
        refine CL.mono ?_
        rintro e3 w3 ⟨rfl, B3⟩
        clear CL
        cases lb
        · have e2 : sc2 = sc + 1 := by rw [s1]; simp [o15] <;> omega
          rw [e2] at HC2 HS2 HS3
          clear s1 e2
          by_cases hz : tp < sc + 1
          · rw [if_pos hz] at HS2 HS3
            go_wp2_with fail
            go_roundw
            case rel => exact ⟨i + 1, i + 1, sc + 1, sc + 1, by omega, by first | rfl | go_num, by first | rfl | go_num, by first | rfl | go_num, by first | rfl | go_num, HS3.out.symm, HC2.out, HS2.out.symm, B3⟩
            case measure => simp [intOf]; omega
          · rw [if_neg hz] at HS2 HS3
            go_wp2_with fail
            go_roundw
            case rel => exact ⟨i + 1, ou, sc + 1, tp, by omega, by first | rfl | go_num, by first | rfl | go_num, by first | rfl | go_num, by first | rfl | go_num, HS3.out.symm, HC2.out, HS2.out.symm, B3⟩
            case measure => simp [intOf]; omega
        · have f2 : IntKind.i64.wrap (sc + 1 - 1) = sc := by rw [show sc + 1 - 1 = sc by omega]; exact IntWalk.i64_in _ (by omega)
          have f3 : sc + 1 - 1 = sc := by omega
          have e2 : sc2 = sc := by rw [s1]; simp [o15] <;> omega
          rw [e2] at HC2 HS2 HS3
          clear s1 e2
          by_cases hz : tp < sc
          · rw [if_pos hz] at HS2 HS3
            go_wp2_with fail
            go_roundw
            case rel => exact ⟨i + 1, i + 1, sc, sc, by omega, by first | rfl | go_num, by first | rfl | go_num, by first | rfl | go_num, by first | rfl | go_num, HS3.out.symm, HC2.out, HS2.out.symm, B3⟩
            case measure => simp [intOf]; omega
          · rw [if_neg hz] at HS2 HS3
            go_wp2_with fail
            go_roundw
            case rel => exact ⟨i + 1, ou, sc, tp, by omega, by first | rfl | go_num, by first | rfl | go_num, by first | rfl | go_num, by first | rfl | go_num, HS3.out.symm, HC2.out, HS2.out.symm, B3⟩
            case measure => simp [intOf]; omega
    · have h1i : ¬ (i : Int) < (most : Int) := by omega
      obtain rfl : i = most := by omega
      go_wp2_with fail
      go_ret
      exact ⟨by rw [← HO.out]; rfl, BR⟩

/-! The landed scan: pays, Forward, Backward, Split. -/
set_option maxRecDepth 100000 in
set_option maxHeartbeats 1000000 in
theorem ppay1_fw (a1 a2 a3 a4 r i : Nat) (b : Bool) (w : World) (hr : w.cell? ⟨r, 0, none⟩ = some (.func (.func 33) #[] #[.pointer (some ⟨a1, 0, none⟩), .pointer (some ⟨a2, 0, none⟩), .pointer (some ⟨a3, 0, none⟩), .pointer (some ⟨a4, 0, none⟩)]))
    (CG : Calls Try.prog 33 #[.int .i64 (i : Int), .pointer (some ⟨a1, 0, none⟩), .pointer (some ⟨a2, 0, none⟩), .pointer (some ⟨a3, 0, none⟩), .pointer (some ⟨a4, 0, none⟩)] w fun e w' => e = .returned (.bool b) ∧ Below w.heap.size w w') :
    Calls Try.prog 49 #[.int .i64 (i : Int), .pointer (some ⟨r, 0, none⟩)] w fun e w' => e = .returned (.bool (!b)) ∧ Below w.heap.size w w' := by
  go_enter Try.func49, Try.ntmps49
  go_wp2_with fail
  refine CG.mono ?_
  rintro e1 w2 ⟨rfl, B2⟩
  clear CG
  cases b
  · go_wp2_with fail
    go_ret
    exact ⟨by first | rfl | simp, B2⟩
  · go_wp2_with fail
    go_ret
    exact ⟨by first | rfl | simp, B2⟩
set_option maxRecDepth 100000 in
set_option maxHeartbeats 2000000 in
theorem ppays_fw (a1 a2 a3 a4 most : Nat) (s : Nat → Bool) (w : World) (hmo : most ≤ 281474976710656)
    (HG : Hid (∀ (i : Nat) (W : World), i < most → Below w.heap.size w W → Calls Try.prog 33 #[.int .i64 (i : Int), .pointer (some ⟨a1, 0, none⟩), .pointer (some ⟨a2, 0, none⟩), .pointer (some ⟨a3, 0, none⟩), .pointer (some ⟨a4, 0, none⟩)] W fun e w' => e = .returned (.bool (s i)) ∧ Below W.heap.size W w')) :
    Calls Try.prog 34 #[.int .i64 (most : Int), .func (.func 33) #[] #[.pointer (some ⟨a1, 0, none⟩), .pointer (some ⟨a2, 0, none⟩), .pointer (some ⟨a3, 0, none⟩), .pointer (some ⟨a4, 0, none⟩)]] w fun e w' => e = .returned (.int .i64 ((py15 s most : Nat) : Int)) ∧ Below w.heap.size w w' := by
  have hmf : ∀ (fn : Fn) (first cap : Array Value) (w : World), (Instr.makeFunc fn first cap).run Try.prog w = .ok (.func fn first cap) w := fun _ _ _ _ => rfl
  obtain ⟨W, hW⟩ : ∃ W, W = w.alloc (.cells #[.func (.func 33) #[] #[.pointer (some ⟨a1, 0, none⟩), .pointer (some ⟨a2, 0, none⟩), .pointer (some ⟨a3, 0, none⟩), .pointer (some ⟨a4, 0, none⟩)]] 63) := ⟨_, rfl⟩
  have BW : Below w.heap.size w W := by rw [hW]; exact (Below.refl _ _).alloc (Nat.le_refl _) _
  have cq : W.cell? ⟨w.heap.size, 0, none⟩ = some (.func (.func 33) #[] #[.pointer (some ⟨a1, 0, none⟩), .pointer (some ⟨a2, 0, none⟩), .pointer (some ⟨a3, 0, none⟩), .pointer (some ⟨a4, 0, none⟩)]) := by rw [hW, World.cell?_alloc_mark]; rfl
  have hq := World.block_lt_of_cell? W _ cq
  have HB := pbest15_fw a1 a2 a3 a4 w.heap.size most s (fun i => !s i) W hmo (fun i W' hi hb => (HG.out i W' hi (BW.trans (hb.mono BW.size))).mono fun e w' ⟨he, hB⟩ => ⟨he, hb.trans (hB.mono hb.size)⟩) (fun i W' hi hb => (ppay1_fw a1 a2 a3 a4 w.heap.size i (s i) W' ((hb.cell (p := ⟨w.heap.size, 0, none⟩) hq).trans cq) (HG.out i W' hi (BW.trans (hb.mono BW.size)))).mono fun e w' ⟨he, hB⟩ => ⟨he, hb.trans (hB.mono hb.size)⟩)
  rw [hW] at HB BW
  clear HG hW cq hq
  have e0 : bst15 (sc15 s fun i => !s i) most = py15 s most := rfl
  rw [e0] at HB
  generalize py15 s most = v at *
  go_enter Try.func34, Try.ntmps34
  go_wp2_with (first
    | (go_at_call 41; refine HB.mono ?_; rintro e1 w1 ⟨rfl, B1⟩))
  go_ret
  exact ⟨rfl, BW.trans (B1.mono BW.size)⟩
set_option maxRecDepth 100000 in
set_option maxHeartbeats 1000000 in
theorem ppay1_bw (a1 a2 a3 a4 r i : Nat) (b : Bool) (w : World) (hr : w.cell? ⟨r, 0, none⟩ = some (.func (.func 37) #[] #[.pointer (some ⟨a1, 0, none⟩), .pointer (some ⟨a2, 0, none⟩), .pointer (some ⟨a3, 0, none⟩), .pointer (some ⟨a4, 0, none⟩)]))
    (CG : Calls Try.prog 37 #[.int .i64 (i : Int), .pointer (some ⟨a1, 0, none⟩), .pointer (some ⟨a2, 0, none⟩), .pointer (some ⟨a3, 0, none⟩), .pointer (some ⟨a4, 0, none⟩)] w fun e w' => e = .returned (.bool b) ∧ Below w.heap.size w w') :
    Calls Try.prog 49 #[.int .i64 (i : Int), .pointer (some ⟨r, 0, none⟩)] w fun e w' => e = .returned (.bool (!b)) ∧ Below w.heap.size w w' := by
  go_enter Try.func49, Try.ntmps49
  go_wp2_with fail
  refine CG.mono ?_
  rintro e1 w2 ⟨rfl, B2⟩
  clear CG
  cases b
  · go_wp2_with fail
    go_ret
    exact ⟨by first | rfl | simp, B2⟩
  · go_wp2_with fail
    go_ret
    exact ⟨by first | rfl | simp, B2⟩
set_option maxRecDepth 100000 in
set_option maxHeartbeats 2000000 in
theorem ppays_bw (a1 a2 a3 a4 most : Nat) (s : Nat → Bool) (w : World) (hmo : most ≤ 281474976710656)
    (HG : Hid (∀ (i : Nat) (W : World), i < most → Below w.heap.size w W → Calls Try.prog 37 #[.int .i64 (i : Int), .pointer (some ⟨a1, 0, none⟩), .pointer (some ⟨a2, 0, none⟩), .pointer (some ⟨a3, 0, none⟩), .pointer (some ⟨a4, 0, none⟩)] W fun e w' => e = .returned (.bool (s i)) ∧ Below W.heap.size W w')) :
    Calls Try.prog 34 #[.int .i64 (most : Int), .func (.func 37) #[] #[.pointer (some ⟨a1, 0, none⟩), .pointer (some ⟨a2, 0, none⟩), .pointer (some ⟨a3, 0, none⟩), .pointer (some ⟨a4, 0, none⟩)]] w fun e w' => e = .returned (.int .i64 ((py15 s most : Nat) : Int)) ∧ Below w.heap.size w w' := by
  have hmf : ∀ (fn : Fn) (first cap : Array Value) (w : World), (Instr.makeFunc fn first cap).run Try.prog w = .ok (.func fn first cap) w := fun _ _ _ _ => rfl
  obtain ⟨W, hW⟩ : ∃ W, W = w.alloc (.cells #[.func (.func 37) #[] #[.pointer (some ⟨a1, 0, none⟩), .pointer (some ⟨a2, 0, none⟩), .pointer (some ⟨a3, 0, none⟩), .pointer (some ⟨a4, 0, none⟩)]] 63) := ⟨_, rfl⟩
  have BW : Below w.heap.size w W := by rw [hW]; exact (Below.refl _ _).alloc (Nat.le_refl _) _
  have cq : W.cell? ⟨w.heap.size, 0, none⟩ = some (.func (.func 37) #[] #[.pointer (some ⟨a1, 0, none⟩), .pointer (some ⟨a2, 0, none⟩), .pointer (some ⟨a3, 0, none⟩), .pointer (some ⟨a4, 0, none⟩)]) := by rw [hW, World.cell?_alloc_mark]; rfl
  have hq := World.block_lt_of_cell? W _ cq
  have HB := pbest15_bw a1 a2 a3 a4 w.heap.size most s (fun i => !s i) W hmo (fun i W' hi hb => (HG.out i W' hi (BW.trans (hb.mono BW.size))).mono fun e w' ⟨he, hB⟩ => ⟨he, hb.trans (hB.mono hb.size)⟩) (fun i W' hi hb => (ppay1_bw a1 a2 a3 a4 w.heap.size i (s i) W' ((hb.cell (p := ⟨w.heap.size, 0, none⟩) hq).trans cq) (HG.out i W' hi (BW.trans (hb.mono BW.size)))).mono fun e w' ⟨he, hB⟩ => ⟨he, hb.trans (hB.mono hb.size)⟩)
  rw [hW] at HB BW
  clear HG hW cq hq
  have e0 : bst15 (sc15 s fun i => !s i) most = py15 s most := rfl
  rw [e0] at HB
  generalize py15 s most = v at *
  go_enter Try.func34, Try.ntmps34
  go_wp2_with (first
    | (go_at_call 41; refine HB.mono ?_; rintro e1 w1 ⟨rfl, B1⟩))
  go_ret
  exact ⟨rfl, BW.trans (B1.mono BW.size)⟩
set_option maxRecDepth 100000 in
set_option maxHeartbeats 4000000 in
theorem pplc15 (za : Option Addr) (z : List Int) (n zc : Nat) (pos : Int) (qa : Option Addr) (q : List Int) (m qc : Nat) (frm to : Int) (w : World) (hn : Hid (z.length = n)) (hm : Hid (q.length = m)) :
    Calls Try.prog 32 #[.slice za n zc, .int .i64 pos, .slice qa m qc, .int .i64 frm, .int .i64 to] w fun e w' => e = .returned (.bool (decide (pl15 z pos q frm to))) ∧ w' = w := by
  have HT : Hid ((0 ≤ pos ∧ pos ≤ (n : Int) ∧ 0 ≤ frm ∧ frm ≤ to ∧ to ≤ (m : Int)) → decide (pl15 z pos q frm to) = true) := fun h => by
    rw [← hn.out, ← hm.out] at h
    exact decide_eq_true h
  have HF : Hid (¬ (0 ≤ pos ∧ pos ≤ (n : Int) ∧ 0 ≤ frm ∧ frm ≤ to ∧ to ≤ (m : Int)) → decide (pl15 z pos q frm to) = false) := fun h => by
    rw [← hn.out, ← hm.out] at h
    exact decide_eq_false h
  clear hn hm
  by_cases c1 : 0 ≤ pos
  · by_cases c2 : pos ≤ (n : Int)
    · by_cases c3 : 0 ≤ frm
      · by_cases c4 : frm ≤ to
        · by_cases c5 : to ≤ (m : Int)
          · rw [HT.out (by omega)]
            clear HF HT
            go_enter Try.func32, Try.ntmps32
            go_wp2_with fail
            go_ret
            exact ⟨by first | rfl | simp, rfl⟩
          · rw [HF.out (by omega)]
            clear HF HT
            go_enter Try.func32, Try.ntmps32
            go_wp2_with fail
            go_ret
            exact ⟨by first | rfl | simp, rfl⟩
        · rw [HF.out (by omega)]
          clear HF HT
          go_enter Try.func32, Try.ntmps32
          go_wp2_with fail
          go_ret
          exact ⟨by first | rfl | simp, rfl⟩
      · rw [HF.out (by omega)]
        clear HF HT
        go_enter Try.func32, Try.ntmps32
        go_wp2_with fail
        go_ret
        exact ⟨by first | rfl | simp, rfl⟩
    · rw [HF.out (by omega)]
      clear HF HT
      go_enter Try.func32, Try.ntmps32
      go_wp2_with fail
      go_ret
      exact ⟨by first | rfl | simp, rfl⟩
  · rw [HF.out (by omega)]
    clear HF HT
    go_enter Try.func32, Try.ntmps32
    go_wp2_with fail
    go_ret
    exact ⟨by first | rfl | simp, rfl⟩
set_option maxRecDepth 100000 in
set_option maxHeartbeats 1000000 in
theorem pwin15 (za : Option Addr) (n zc : Nat) (at_ k : Int) (w : World) (hk : 0 ≤ k ∧ k ≤ 9223372036854775807) (hn : n ≤ 9223372036854775807) :
    Calls Try.prog 38 #[.slice za n zc, .int .i64 at_, .int .i64 k] w fun e w' => e = .returned (.bool (decide (0 ≤ at_ ∧ at_ ≤ (n : Int) - k))) ∧ w' = w := by
  have f1 : IntKind.i64.wrap ((n : Int) - k) = (n : Int) - k := IntWalk.i64_in _ (by omega)
  by_cases c1 : 0 ≤ at_
  · by_cases c2 : at_ ≤ (n : Int) - k
    · rw [show decide (0 ≤ at_ ∧ at_ ≤ (n : Int) - k) = true from decide_eq_true (by omega)]
      go_enter Try.func38, Try.ntmps38
      go_wp2_with fail
      go_ret
      exact ⟨by first | rfl | simp, rfl⟩
    · rw [show decide (0 ≤ at_ ∧ at_ ≤ (n : Int) - k) = false from decide_eq_false (by omega)]
      go_enter Try.func38, Try.ntmps38
      go_wp2_with fail
      go_ret
      exact ⟨by first | rfl | simp, rfl⟩
  · rw [show decide (0 ≤ at_ ∧ at_ ≤ (n : Int) - k) = false from decide_eq_false (by omega)]
    go_enter Try.func38, Try.ntmps38
    go_wp2_with fail
    go_ret
    exact ⟨by first | rfl | simp, rfl⟩
set_option maxRecDepth 100000 in
set_option maxHeartbeats 4000000 in
theorem pfw15 (za : Option Addr) (z : List Int) (n zc : Nat) (pos : Int) (qa : Option Addr) (q : List Int) (m qc : Nat) (frm to : Int) (w : World) (hs : Seg w za z) (hq : Seg w qa q) (hn : Hid (z.length = n)) (hm : Hid (q.length = m)) (hnb : n ≤ 140737488351232) (hmb : m ≤ 140737488351232) :
    Calls Try.prog 17 #[.slice za n zc, .int .i64 pos, .slice qa m qc, .int .i64 frm, .int .i64 to] w fun e w' => e = .returned (.int .i64 ((fw15 z pos q frm to : Nat) : Int)) ∧ Below w.heap.size w w' := by
  have hmf : ∀ (fn : Fn) (first cap : Array Value) (w : World), (Instr.makeFunc fn first cap).run Try.prog w = .ok (.func fn first cap) w := fun _ _ _ _ => rfl
  obtain ⟨W, hW⟩ : ∃ W, W = ((((w.alloc (.cells #[.slice za n zc] 23)).alloc (.cells #[.int .i64 pos] 3)).alloc (.cells #[.slice qa m qc] 23)).alloc (.cells #[.int .i64 frm] 3)) := ⟨_, rfl⟩
  obtain ⟨d1, d2, d3, d4, BW⟩ := boxes15 w (.slice za n zc) (.int .i64 pos) (.slice qa m qc) (.int .i64 frm) 23 3 23 3
  rw [← hW] at d1 d2 d3 d4 BW
  have HP := pplc15 za z n zc pos qa q m qc frm to W hn hm
  have HW : Hid (W = ((((w.alloc (.cells #[.slice za n zc] 23)).alloc (.cells #[.int .i64 pos] 3)).alloc (.cells #[.slice qa m qc] 23)).alloc (.cells #[.int .i64 frm] 3))) := hW
  by_cases c : pl15 z pos q frm to
  · rw [decide_eq_true c] at HP
    obtain ⟨k1, k2, k3, k4, k5⟩ := c
    have e0 : fw15 z pos q frm to = py15 (fs15 z pos.toNat q frm.toNat) (min (to.toNat - frm.toNat) (z.length - pos.toNat)) := by unfold fw15; rw [if_pos ⟨k1, k2, k3, k4, k5⟩]
    rw [hn.out] at k2
    rw [hm.out] at k5
    rw [e0]
    clear e0
    obtain ⟨p, rfl⟩ : ∃ p : Nat, pos = (p : Int) := ⟨pos.toNat, by omega⟩
    obtain ⟨f, rfl⟩ : ∃ f : Nat, frm = (f : Int) := ⟨frm.toNat, by omega⟩
    obtain ⟨t, rfl⟩ : ∃ t : Nat, to = (t : Int) := ⟨to.toNat, by omega⟩
    have CL : Cl15 W w.heap.size (w.heap.size + 1) (w.heap.size + 2) (w.heap.size + 3) za z n zc p qa q m qc f := ⟨d1, d2, d3, d4, hs.old BW, hq.old BW, hn.out, hm.out⟩
    simp only [Int.toNat_natCast] at *
    try rw [hn.out]
    obtain ⟨M, hM⟩ : ∃ M, M = min (t - f) (n - p) := ⟨_, rfl⟩
    have hMb : M ≤ 281474976710656 := by omega
    have PY := ppays_fw w.heap.size (w.heap.size + 1) (w.heap.size + 2) (w.heap.size + 3) M (fs15 z p q f) W hMb (fun i W' hi hb => pcl15_fw _ _ _ _ za z n zc p qa q m qc f i W' (CL.old hb) hnb hmb (by omega) (by omega))
    rw [← hM]
    clear CL hs hq hW
    generalize py15 (fs15 z p q f) M = v at *
    have u1 : (t : Int) - (f : Int) = ((t - f : Nat) : Int) := by omega
    have u2 : (n : Int) - (p : Int) = ((n - p : Nat) : Int) := by omega
    have u3 : min (t - f) (n - p) = M := hM.symm
    obtain ⟨x1, hx1⟩ : ∃ x1, x1 = t - f := ⟨_, rfl⟩
    obtain ⟨x2, hx2⟩ : ∃ x2, x2 = n - p := ⟨_, rfl⟩
    rw [← hx1] at u1 u3
    rw [← hx2] at u2 u3
    have hx1b : x1 ≤ 140737488351232 := by omega
    have hx2b : x2 ≤ 140737488351232 := by omega
    clear hM hx1 hx2
    by_cases cc : x2 < x1
    · obtain rfl : M = x2 := by omega
      have cci : ((M : Nat) : Int) < (x1 : Int) := by omega
      go_enter Try.func17, Try.ntmps17
      go_wp2_with (first
        | (go_at_call 32; fail))
      rw [← HW.out]
      refine HP.mono ?_
      rintro e1 w1 ⟨rfl, hw1⟩
      subst hw1
      clear HP
      go_wp2_with (first
        | (go_at_call 34; refine PY.mono ?_; rintro e2 w2 ⟨rfl, B2⟩))
      go_ret
      exact ⟨rfl, BW.trans (B2.mono BW.size)⟩
    · obtain rfl : M = x1 := by omega
      have cci : ¬ ((x2 : Nat) : Int) < (M : Int) := by omega
      go_enter Try.func17, Try.ntmps17
      go_wp2_with (first
        | (go_at_call 32; fail))
      rw [← HW.out]
      refine HP.mono ?_
      rintro e1 w1 ⟨rfl, hw1⟩
      subst hw1
      clear HP
      go_wp2_with (first
        | (go_at_call 34; refine PY.mono ?_; rintro e2 w2 ⟨rfl, B2⟩))
      go_ret
      exact ⟨rfl, BW.trans (B2.mono BW.size)⟩
  · rw [decide_eq_false c] at HP
    have e0 : fw15 z pos q frm to = 0 := by unfold fw15; rw [if_neg c]
    rw [e0]
    clear c hs hq hW
    go_enter Try.func17, Try.ntmps17
    go_wp2_with (first
      | (go_at_call 32; fail))
    rw [← HW.out]
    refine HP.mono ?_
    rintro e1 w1 ⟨rfl, hw1⟩
    subst hw1
    clear HP
    go_wp2_with fail
    go_ret
    exact ⟨rfl, BW⟩
set_option maxRecDepth 100000 in
set_option maxHeartbeats 4000000 in
theorem pbw15 (za : Option Addr) (z : List Int) (n zc : Nat) (pos : Int) (qa : Option Addr) (q : List Int) (m qc : Nat) (frm to : Int) (w : World) (hs : Seg w za z) (hq : Seg w qa q) (hn : Hid (z.length = n)) (hm : Hid (q.length = m)) (hnb : n ≤ 140737488351232) (hmb : m ≤ 140737488351232) :
    Calls Try.prog 19 #[.slice za n zc, .int .i64 pos, .slice qa m qc, .int .i64 frm, .int .i64 to] w fun e w' => e = .returned (.int .i64 ((bw15 z pos q frm to : Nat) : Int)) ∧ Below w.heap.size w w' := by
  have hmf : ∀ (fn : Fn) (first cap : Array Value) (w : World), (Instr.makeFunc fn first cap).run Try.prog w = .ok (.func fn first cap) w := fun _ _ _ _ => rfl
  obtain ⟨W, hW⟩ : ∃ W, W = ((((w.alloc (.cells #[.slice za n zc] 23)).alloc (.cells #[.int .i64 pos] 3)).alloc (.cells #[.slice qa m qc] 23)).alloc (.cells #[.int .i64 to] 3)) := ⟨_, rfl⟩
  obtain ⟨d1, d2, d3, d4, BW⟩ := boxes15 w (.slice za n zc) (.int .i64 pos) (.slice qa m qc) (.int .i64 to) 23 3 23 3
  rw [← hW] at d1 d2 d3 d4 BW
  have HP := pplc15 za z n zc pos qa q m qc frm to W hn hm
  have HW : Hid (W = ((((w.alloc (.cells #[.slice za n zc] 23)).alloc (.cells #[.int .i64 pos] 3)).alloc (.cells #[.slice qa m qc] 23)).alloc (.cells #[.int .i64 to] 3))) := hW
  by_cases c : pl15 z pos q frm to
  · rw [decide_eq_true c] at HP
    obtain ⟨k1, k2, k3, k4, k5⟩ := c
    have e0 : bw15 z pos q frm to = py15 (bk15 z pos.toNat q to.toNat) (min (to.toNat - frm.toNat) pos.toNat) := by unfold bw15; rw [if_pos ⟨k1, k2, k3, k4, k5⟩]
    rw [hn.out] at k2
    rw [hm.out] at k5
    rw [e0]
    clear e0
    obtain ⟨p, rfl⟩ : ∃ p : Nat, pos = (p : Int) := ⟨pos.toNat, by omega⟩
    obtain ⟨f, rfl⟩ : ∃ f : Nat, frm = (f : Int) := ⟨frm.toNat, by omega⟩
    obtain ⟨t, rfl⟩ : ∃ t : Nat, to = (t : Int) := ⟨to.toNat, by omega⟩
    have CL : Cl15 W w.heap.size (w.heap.size + 1) (w.heap.size + 2) (w.heap.size + 3) za z n zc p qa q m qc t := ⟨d1, d2, d3, d4, hs.old BW, hq.old BW, hn.out, hm.out⟩
    simp only [Int.toNat_natCast] at *
    try rw [hn.out]
    obtain ⟨M, hM⟩ : ∃ M, M = min (t - f) p := ⟨_, rfl⟩
    have hMb : M ≤ 281474976710656 := by omega
    have PY := ppays_bw w.heap.size (w.heap.size + 1) (w.heap.size + 2) (w.heap.size + 3) M (bk15 z p q t) W hMb (fun i W' hi hb => pcl15_bw _ _ _ _ za z n zc p qa q m qc t i W' (CL.old hb) hnb hmb (by omega) (by omega) (by omega) (by omega))
    rw [← hM]
    clear CL hs hq hW
    generalize py15 (bk15 z p q t) M = v at *
    have u1 : (t : Int) - (f : Int) = ((t - f : Nat) : Int) := by omega
    have u2 : (p : Int) = ((p : Nat) : Int) := rfl
    have u3 : min (t - f) (p) = M := hM.symm
    obtain ⟨x1, hx1⟩ : ∃ x1, x1 = t - f := ⟨_, rfl⟩
    obtain ⟨x2, hx2⟩ : ∃ x2, x2 = p := ⟨_, rfl⟩
    rw [← hx1] at u1 u3
    rw [← hx2] at u2 u3
    have hx1b : x1 ≤ 140737488351232 := by omega
    have hx2b : x2 ≤ 140737488351232 := by omega
    subst hx2
    clear hM hx1 u2
    by_cases cc : x2 < x1
    · obtain rfl : M = x2 := by omega
      have cci : ((M : Nat) : Int) < (x1 : Int) := by omega
      go_enter Try.func19, Try.ntmps19
      go_wp2_with (first
        | (go_at_call 32; fail))
      rw [← HW.out]
      refine HP.mono ?_
      rintro e1 w1 ⟨rfl, hw1⟩
      subst hw1
      clear HP
      go_wp2_with (first
        | (go_at_call 34; refine PY.mono ?_; rintro e2 w2 ⟨rfl, B2⟩))
      go_ret
      exact ⟨rfl, BW.trans (B2.mono BW.size)⟩
    · obtain rfl : M = x1 := by omega
      have cci : ¬ ((x2 : Nat) : Int) < (M : Int) := by omega
      go_enter Try.func19, Try.ntmps19
      go_wp2_with (first
        | (go_at_call 32; fail))
      rw [← HW.out]
      refine HP.mono ?_
      rintro e1 w1 ⟨rfl, hw1⟩
      subst hw1
      clear HP
      go_wp2_with (first
        | (go_at_call 34; refine PY.mono ?_; rintro e2 w2 ⟨rfl, B2⟩))
      go_ret
      exact ⟨rfl, BW.trans (B2.mono BW.size)⟩
  · rw [decide_eq_false c] at HP
    have e0 : bw15 z pos q frm to = 0 := by unfold bw15; rw [if_neg c]
    rw [e0]
    clear c hs hq hW
    go_enter Try.func19, Try.ntmps19
    go_wp2_with (first
      | (go_at_call 32; fail))
    rw [← HW.out]
    refine HP.mono ?_
    rintro e1 w1 ⟨rfl, hw1⟩
    subst hw1
    clear HP
    go_wp2_with fail
    go_ret
    exact ⟨rfl, BW⟩

/-! The landed scan: Split. -/
set_option maxRecDepth 100000 in
set_option maxHeartbeats 8000000 in
theorem psp15 (za : Option Addr) (z : List Int) (n zc : Nat) (pos back : Int) (qa : Option Addr) (q : List Int) (m qc : Nat) (at_ k : Int) (w : World) (hs : Seg w za z) (hq : Seg w qa q) (hn : Hid (z.length = n)) (hm : Hid (q.length = m)) (hnb : n ≤ 140737488351232) (hmb : m ≤ 140737488351232) (hkb : k ≤ 9223372036854775807) :
    Calls Try.prog 21 #[.slice za n zc, .int .i64 pos, .int .i64 back, .slice qa m qc, .int .i64 at_, .int .i64 k] w fun e w' => e = .returned (.int .i64 ((sp15 z pos back q at_ k : Nat) : Int)) ∧ Below w.heap.size w w' := by
  have hmf : ∀ (fn : Fn) (first cap : Array Value) (w : World), (Instr.makeFunc fn first cap).run Try.prog w = .ok (.func fn first cap) w := fun _ _ _ _ => rfl
  obtain ⟨W, hW⟩ : ∃ W, W = (((((w.alloc (.cells #[.slice za n zc] 23)).alloc (.cells #[.int .i64 pos] 3)).alloc (.cells #[.int .i64 back] 3)).alloc (.cells #[.slice qa m qc] 23)).alloc (.cells #[.int .i64 at_] 3)) := ⟨_, rfl⟩
  have HW : Hid (W = (((((w.alloc (.cells #[.slice za n zc] 23)).alloc (.cells #[.int .i64 pos] 3)).alloc (.cells #[.int .i64 back] 3)).alloc (.cells #[.slice qa m qc] 23)).alloc (.cells #[.int .i64 at_] 3))) := hW
  have BW : Below w.heap.size w W := by rw [hW]; exact ((((((Below.refl _ _).alloc (Nat.le_refl _) _).alloc (by simp <;> omega) _).alloc (by simp <;> omega) _).alloc (by simp <;> omega) _).alloc (by simp <;> omega) _)
  have d1 : W.cell? ⟨w.heap.size, 0, none⟩ = some (.slice za n zc) := by rw [hW]; exact cell_more15 _ (cell_more15 _ (cell_more15 _ (cell_more15 _ (cell_new15 _ _ _ rfl))))
  have d2 : W.cell? ⟨w.heap.size + 1, 0, none⟩ = some (.int .i64 pos) := by rw [hW]; exact cell_more15 _ (cell_more15 _ (cell_more15 _ (cell_new15 _ _ _ (by simp only [size_alloc15]))))
  have d3 : W.cell? ⟨w.heap.size + 2, 0, none⟩ = some (.int .i64 back) := by rw [hW]; exact cell_more15 _ (cell_more15 _ (cell_new15 _ _ _ (by simp only [size_alloc15])))
  have d4 : W.cell? ⟨w.heap.size + 3, 0, none⟩ = some (.slice qa m qc) := by rw [hW]; exact cell_more15 _ (cell_new15 _ _ _ (by simp only [size_alloc15]))
  have d5 : W.cell? ⟨w.heap.size + 4, 0, none⟩ = some (.int .i64 at_) := by rw [hW]; exact cell_new15 _ _ _ (by simp only [size_alloc15])
  by_cases k0 : k < 0
  · have e0 : sp15 z pos back q at_ k = 0 := by unfold sp15; rw [if_neg (by unfold pt15; omega)]
    rw [e0]
    clear hs hq hW
    go_enter Try.func21, Try.ntmps21
    go_wp2_with fail
    go_ret
    exact ⟨rfl, by rw [← HW.out]; exact BW⟩
  · have H1 := pwin15 za n zc pos k W ⟨by omega, hkb⟩ (by omega)
    have H2 := pwin15 za n zc back k W ⟨by omega, hkb⟩ (by omega)
    have H3 := pwin15 qa m qc at_ k W ⟨by omega, hkb⟩ (by omega)
    have hWl : W.heap.size = w.heap.size + 5 := by rw [hW]; simp
    obtain ⟨kn, rfl⟩ : ∃ kn : Nat, k = (kn : Int) := ⟨k.toNat, by omega⟩
    have CB : Hid (pt15 z pos back q at_ (kn : Int) → Calls Try.prog 41 #[.int .i64 (kn : Int), .func (.func 39) #[] #[.pointer (some ⟨w.heap.size, 0, none⟩), .pointer (some ⟨w.heap.size + 1, 0, none⟩), .pointer (some ⟨w.heap.size + 3, 0, none⟩), .pointer (some ⟨w.heap.size + 4, 0, none⟩)], .func (.func 40) #[] #[.pointer (some ⟨w.heap.size, 0, none⟩), .pointer (some ⟨w.heap.size + 2, 0, none⟩), .pointer (some ⟨w.heap.size + 3, 0, none⟩), .pointer (some ⟨w.heap.size + 4, 0, none⟩)]] W fun e w' => e = .returned (.int .i64 ((sp15 z pos back q at_ (kn : Int) : Nat) : Int)) ∧ Below w.heap.size w w') := fun hp => by
      obtain ⟨j1, ⟨j2, j3⟩, ⟨j4, j5⟩, ⟨j6, j7⟩⟩ := hp
      have e0 : sp15 z pos back q at_ (kn : Int) = bst15 (sc15 (fs15 z pos.toNat q at_.toNat) (fs15 z back.toNat q at_.toNat)) (kn : Int).toNat := by unfold sp15; rw [if_pos ⟨j1, ⟨j2, j3⟩, ⟨j4, j5⟩, ⟨j6, j7⟩⟩]
      rw [e0]
      rw [hn.out] at j3 j5
      rw [hm.out] at j7
      obtain ⟨p, rfl⟩ : ∃ p : Nat, pos = (p : Int) := ⟨pos.toNat, by omega⟩
      obtain ⟨b, rfl⟩ : ∃ b : Nat, back = (b : Int) := ⟨back.toNat, by omega⟩
      obtain ⟨f, rfl⟩ : ∃ f : Nat, at_ = (f : Int) := ⟨at_.toNat, by omega⟩
      have CL1 : Cl15 W w.heap.size (w.heap.size + 1) (w.heap.size + 3) (w.heap.size + 4) za z n zc p qa q m qc f := ⟨d1, d2, d4, d5, hs.old BW, hq.old BW, hn.out, hm.out⟩
      have CL2 : Cl15 W w.heap.size (w.heap.size + 2) (w.heap.size + 3) (w.heap.size + 4) za z n zc b qa q m qc f := ⟨d1, d3, d4, d5, hs.old BW, hq.old BW, hn.out, hm.out⟩
      simp only [Int.toNat_natCast]
      exact (pbest15_sp _ _ _ _ _ _ _ _ kn _ _ W (by omega) (fun i W' hi hb => (pcl15_s1 _ _ _ _ za z n zc p qa q m qc f i W' (CL1.old hb) hnb hmb (by omega) (by omega)).mono fun e w' ⟨he, hB⟩ => ⟨he, hb.trans (hB.mono hb.size)⟩) (fun i W' hi hb => (pcl15_s2 _ _ _ _ za z n zc b qa q m qc f i W' (CL2.old hb) hnb hmb (by omega) (by omega)).mono fun e w' ⟨he, hB⟩ => ⟨he, hb.trans (hB.mono hb.size)⟩)).mono fun e w' ⟨he, hB⟩ => ⟨he, BW.trans (hB.mono BW.size)⟩
    have HZ : Hid (¬ pt15 z pos back q at_ (kn : Int) → sp15 z pos back q at_ (kn : Int) = 0) := fun c => by unfold sp15; rw [if_neg c]
    have HPT : Hid (pt15 z pos back q at_ (kn : Int) ↔ (0 ≤ pos ∧ pos ≤ (n : Int) - (kn : Int)) ∧ (0 ≤ back ∧ back ≤ (n : Int) - (kn : Int)) ∧ (0 ≤ at_ ∧ at_ ≤ (m : Int) - (kn : Int))) := by
      show _ ↔ _
      unfold pt15
      rw [hn.out, hm.out]
      constructor
      · intro h; exact h.2
      · intro h; exact ⟨by omega, h⟩
    clear hs hq hW hWl
    generalize sp15 z pos back q at_ (kn : Int) = v at *
    by_cases c1 : 0 ≤ pos ∧ pos ≤ (n : Int) - (kn : Int)
    · rw [decide_eq_true c1] at H1
      by_cases c2 : 0 ≤ back ∧ back ≤ (n : Int) - (kn : Int)
      · rw [decide_eq_true c2] at H2
        by_cases c3 : 0 ≤ at_ ∧ at_ ≤ (m : Int) - (kn : Int)
        · rw [decide_eq_true c3] at H3
          have CB2 := CB.out (HPT.out.2 ⟨c1, c2, c3⟩)
          clear CB HZ HPT c1 c2 c3
          go_enter Try.func21, Try.ntmps21
          go_wp2_with (first | (go_at_call 38; fail))
          rw [← HW.out]
          refine H1.mono ?_
          rintro e1 w1 ⟨rfl, hw1⟩
          subst hw1
          clear H1
          go_wp2_with (first | (go_at_call 38; fail))
          refine H2.mono ?_
          rintro e2 w2 ⟨rfl, hw2⟩
          subst hw2
          clear H2
          go_wp2_with (first | (go_at_call 38; fail))
          refine H3.mono ?_
          rintro e3 w3 ⟨rfl, hw3⟩
          subst hw3
          clear H3
          go_wp2_with (first | (go_at_call 41; refine CB2.mono ?_; rintro e4 w4 ⟨rfl, B4⟩))
          go_ret
          exact ⟨rfl, B4⟩
        · rw [decide_eq_false c3] at H3
          have v0 := HZ.out (fun h => c3 (HPT.out.1 h).2.2)
          subst v0
          clear CB HZ HPT c1 c2 c3
          go_enter Try.func21, Try.ntmps21
          go_wp2_with (first | (go_at_call 38; fail))
          rw [← HW.out]
          refine H1.mono ?_
          rintro e1 w1 ⟨rfl, hw1⟩
          subst hw1
          clear H1
          go_wp2_with (first | (go_at_call 38; fail))
          refine H2.mono ?_
          rintro e2 w2 ⟨rfl, hw2⟩
          subst hw2
          clear H2
          go_wp2_with (first | (go_at_call 38; fail))
          refine H3.mono ?_
          rintro e3 w3 ⟨rfl, hw3⟩
          subst hw3
          clear H3
          go_wp2_with fail
          go_ret
          exact ⟨rfl, BW⟩
      · rw [decide_eq_false c2] at H2
        have v0 := HZ.out (fun h => c2 (HPT.out.1 h).2.1)
        subst v0
        clear CB HZ HPT c1 c2
        go_enter Try.func21, Try.ntmps21
        go_wp2_with (first | (go_at_call 38; fail))
        rw [← HW.out]
        refine H1.mono ?_
        rintro e1 w1 ⟨rfl, hw1⟩
        subst hw1
        clear H1
        go_wp2_with (first | (go_at_call 38; fail))
        refine H2.mono ?_
        rintro e2 w2 ⟨rfl, hw2⟩
        subst hw2
        clear H2
        go_wp2_with fail
        go_ret
        exact ⟨rfl, BW⟩
    · rw [decide_eq_false c1] at H1
      have v0 := HZ.out (fun h => c1 (HPT.out.1 h).1)
      subst v0
      clear CB HZ HPT c1
      go_enter Try.func21, Try.ntmps21
      go_wp2_with (first | (go_at_call 38; fail))
      rw [← HW.out]
      refine H1.mono ?_
      rintro e1 w1 ⟨rfl, hw1⟩
      subst hw1
      clear H1
      go_wp2_with fail
      go_ret
      exact ⟨rfl, BW⟩
end Go.Proofs.Ytbjjddoeilhomaa
