
import Derived.Test.YtoeabfcnfofbiaaDoorHdTab
import Derived.Test.YtoeabfcnfofbiaaDoorHdR1
import Derived.Test.YtoeabfcnfofbiaaDoorHdM3
import Derived.Laws.Rows
import Derived.Laws.Tables
import Derived.Laws.CopyOwn
namespace Go.Proofs.YtoeabfcnfofbiaaDoor
open Go.RowKit
set_option linter.unusedVariables false

/-! The landed head: most, longest, leading. -/
theorem below_box8 (w : World) (o : Obj) : Below w.heap.size w (w.alloc o) := (Below.refl _ _).alloc (Nat.le_refl _) o
theorem below_boxd8 (w : World) (o : Obj) : Below w.heap.size w ((w.alloc o).drew) := ⟨(below_box8 w o).os, (below_box8 w o).tape, (below_box8 w o).output, (below_box8 w o).size, (below_box8 w o).block⟩
theorem lst8_bd (s : Int) : 1 ≤ lst8 s ∧ lst8 s ≤ 11 := by
  unfold lst8
  split
  · omega
  · split <;> omega
theorem grt8_bd (s : Int) : 1 ≤ grt8 s ∧ grt8 s ≤ 138 := by
  unfold grt8
  split
  · omega
  · split
    · omega
    · split <;> omega
theorem mor8_in (s : Int) : mor8 s = 0 ∨ mor8 s = 2 ∨ mor8 s = 3 ∨ mor8 s = 7 := by
  unfold mor8
  split
  · omega
  · split
    · omega
    · split <;> omega
theorem two_set {w : World} {r : Nat} {a b : Value} {t : TypeId} (h : w.heap[r]? = some (.cells #[a, b] t (0, 0))) (x y : Value) : ((w.setCell ⟨r, 0, none⟩ x).setCell ⟨r, 1, none⟩ y).heap[r]? = some (.cells #[x, y] t (0, 0)) := by
  have h1 := heap_setCell_same w r 0 #[a, b] t x h
  have h2 := heap_setCell_same _ r 1 _ t y h1
  rw [h2]
  rfl
theorem below_two8 {B r : Nat} {w0 w : World} {x y : Value} (hb : Below B w0 w) (hr : B ≤ r) : Below B w0 ((w.setCell ⟨r, 0, none⟩ x).setCell ⟨r, 1, none⟩ y) :=
  ⟨hb.os, hb.tape, hb.output, by simpa using hb.size, fun i hi => by rw [heap_setCell_other _ ⟨r, 1, none⟩ i y (by simp; omega), heap_setCell_other _ ⟨r, 0, none⟩ i x (by simp; omega)]; exact hb.block i hi⟩
theorem TabS.below {w w' : World} {B : Nat} (h : TabS w) (hb : Below B w w') (hB : B = w.heap.size) : TabS w' := by subst hB; exact SegZ.old h hb
set_option maxRecDepth 100000 in
set_option maxHeartbeats 1000000 in
theorem pmost8 (x l : Int) (b : Nat) (hb : b = 0 ∨ b = 2 ∨ b = 3 ∨ b = 7) (hl : 0 ≤ l ∧ l ≤ 11) (w : World) :
    Calls Tryd.prog 69 #[.agg #[.int .i64 x, .int .i64 l, .int .i64 (b : Int)]] w fun e w' => e = .returned (.int .i64 (l + 2 ^ b - 1)) ∧ Below w.heap.size w w' := by
  rcases hb with rfl | rfl | rfl | rfl
  all_goals
    go_enter Tryd.func69, Tryd.ntmps69
    go_wp2_with fail
    go_region
    go_wp2_with fail
    go_ret
    refine ⟨?_, below_boxd8 _ _⟩
    first | rfl | (simp; done) | (simp; omega)
set_option maxRecDepth 100000 in
set_option maxHeartbeats 1000000 in
theorem plongest8 (s k : Nat) (hs : s < 19) (hk : k ≤ 1000000) (w : World) (T : TabS w) :
    Calls Tryd.prog 92 #[.int .i64 (s : Int), .int .i64 (k : Int)] w fun e w' => e = .returned (.agg #[.int .i64 (s : Int), .int .i64 (min (k : Int) (grt8 s))]) ∧ Below w.heap.size w w' := by
  obtain ⟨c0, c1, c2⟩ := T.at8 s hs
  have hz := World.block_lt_of_cell? w _ c0
  simp only at hz
  have hg := grt8_lst (s : Int) (by omega)
  have hl := lst8_bd s
  have CM := pmost8 (sln8 s) (lst8 s) (mor8 s) (mor8_in s) (by omega)
  rw [← hg] at CM
  have hgb := grt8_bd s
  have HC : Hid (∀ w : World, Calls Tryd.prog 69 #[.agg #[.int .i64 (sln8 s), .int .i64 (lst8 s), .int .i64 (mor8 s : Int)]] w fun e w' => e = .returned (.int .i64 (grt8 s)) ∧ Below w.heap.size w w') := CM
  clear CM hg hl
  generalize sln8 (s : Int) = x0 at *
  generalize lst8 (s : Int) = x1 at *
  generalize mor8 (s : Int) = x2 at *
  generalize grt8 (s : Int) = G at *
  have hmin : ∃ M, min (k : Int) G = M ∧ (((k : Int) ≤ G ∧ M = (k : Int)) ∨ (G < (k : Int) ∧ M = G)) := ⟨_, rfl, by omega⟩
  obtain ⟨M, hM, hmin⟩ := hmin
  rw [hM]
  clear hM
  rcases hmin with ⟨h1, rfl⟩ | ⟨h1, rfl⟩
  · go_enter Tryd.func92, Tryd.ntmps92
    go_wp2_with ((go_at_call 69; refine (HC.out _).mono ?_; rintro e w1 ⟨rfl, b1⟩; have hr : w1.heap[w.heap.size]? = some (.cells #[.int .i64 0, .int .i64 0] 38 (0, 0)) := (b1.block _ (by simp)).trans (heap_alloc_new w _); have c8 := cell_of_row w1 _ 0 _ _ _ hr; have d8 := cell_of_row w1 _ 1 _ _ _ hr; have f8 := frozen_of_row w1 _ 0 _ _ hr; have g8 := frozen_of_row w1 _ 1 _ _ hr; simp only [List.getElem?_toArray, List.getElem?_cons_zero, List.getElem?_cons_succ] at c8 d8))
    refine bodyPost_ret (v := .agg #[.int .i64 (s : Int), .int .i64 (k : Int)]) (results_cell_row (fn := Tryd.f92) (p := 4) (ty := 38) rfl _ _ w.heap.size _ _ _ _ rfl (two_set hr _ _) Tryd.underlying38 rfl (by kernel_rfl)) rfl ?_
    refine ⟨rfl, ?_⟩
    have b0 : Below w.heap.size w w1 := (below_box8 w _).trans (b1.mono (by simp))
    exact below_two8 b0 (Nat.le_refl _)
  · go_enter Tryd.func92, Tryd.ntmps92
    go_wp2_with ((go_at_call 69; refine (HC.out _).mono ?_; rintro e w1 ⟨rfl, b1⟩; have hr : w1.heap[w.heap.size]? = some (.cells #[.int .i64 0, .int .i64 0] 38 (0, 0)) := (b1.block _ (by simp)).trans (heap_alloc_new w _); have c8 := cell_of_row w1 _ 0 _ _ _ hr; have d8 := cell_of_row w1 _ 1 _ _ _ hr; have f8 := frozen_of_row w1 _ 0 _ _ hr; have g8 := frozen_of_row w1 _ 1 _ _ hr; simp only [List.getElem?_toArray, List.getElem?_cons_zero, List.getElem?_cons_succ] at c8 d8))
    refine bodyPost_ret (v := .agg #[.int .i64 (s : Int), .int .i64 M]) (results_cell_row (fn := Tryd.f92) (p := 4) (ty := 38) rfl _ _ w.heap.size _ _ _ _ rfl (two_set hr _ _) Tryd.underlying38 rfl (by kernel_rfl)) rfl ?_
    refine ⟨rfl, ?_⟩
    have b0 : Below w.heap.size w w1 := (below_box8 w _).trans (b1.mono (by simp))
    exact below_two8 b0 (Nat.le_refl _)
end Go.Proofs.YtoeabfcnfofbiaaDoor
