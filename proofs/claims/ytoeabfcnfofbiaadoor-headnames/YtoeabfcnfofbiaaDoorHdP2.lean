
import Derived.Test.YtoeabfcnfofbiaaDoorHdP1
namespace Go.Proofs.YtoeabfcnfofbiaaDoor
open Go.RowKit
set_option linter.unusedVariables false

/-! The landed head: leading, stretch. -/
theorem TabS.one {w : World} (h : TabS w) (i : Nat) (z : Int) (hi : i < 57) (hz : snsL.getD i 0 = z) : w.cell? ⟨0, i, none⟩ = some (.int .i64 z) := by
  obtain ⟨b, o, e, c⟩ := h.at_ i hi
  cases e
  rw [Nat.zero_add, hz] at c
  exact c
set_option maxRecDepth 100000 in
set_option maxHeartbeats 2000000 in
theorem pleading8 (v : Int) (k : Nat) (again : Bool) (hk : k ≤ 1000000) (w : World) (T : TabS w) :
    Calls Tryd.prog 68 #[.int .i64 v, .int .i64 (k : Int), .bool again] w fun e w' => e = .returned (.agg #[.int .i64 (led8 v k again).sy, .int .i64 (led8 v k again).ct]) ∧ Below w.heap.size w w' := by
  have c0 := T.one 55 11 (by omega) rfl
  have c1 := T.one 52 3 (by omega) rfl
  have c2 := T.one 49 3 (by omega) rfl
  have hz := World.block_lt_of_cell? w _ c0
  simp only at hz
  have HC : Hid (∀ (s : Nat), s < 19 → ∀ W : World, Below w.heap.size w W → Calls Tryd.prog 92 #[.int .i64 (s : Int), .int .i64 (k : Int)] W fun e w' => e = .returned (.agg #[.int .i64 (s : Int), .int .i64 (min (k : Int) (grt8 s))]) ∧ Below W.heap.size W w') := fun s hs W hb => plongest8 s k hs hk W (SegZ.old T hb)
  have H18 := HC.out 18 (by omega) _ (below_box8 w (.cells #[.int .i64 0, .int .i64 0] 38))
  have H17 := HC.out 17 (by omega) _ (below_box8 w (.cells #[.int .i64 0, .int .i64 0] 38))
  have H16 := HC.out 16 (by omega) _ (below_box8 w (.cells #[.int .i64 0, .int .i64 0] 38))
  have e18 : grt8 ((18 : Nat) : Int) = 138 := rfl
  have e17 : grt8 ((17 : Nat) : Int) = 10 := rfl
  have e16 : grt8 ((16 : Nat) : Int) = 6 := rfl
  rw [e18] at H18
  rw [e17] at H17
  rw [e16] at H16
  have m18 : min (k : Int) 138 = ((min k 138 : Nat) : Int) := by omega
  have m17 : min (k : Int) 10 = ((min k 10 : Nat) : Int) := by omega
  have m16 : min (k : Int) 6 = ((min k 6 : Nat) : Int) := by omega
  rw [m18] at H18
  rw [m17] at H17
  rw [m16] at H16
  clear HC e18 e17 e16 m18 m17 m16
  by_cases hv : v = 0
  · subst hv
    by_cases h11 : 11 ≤ k
    · have hL : led8 0 k again = ⟨18, (min k 138 : Nat)⟩ := by unfold led8; simp [h11]
      rw [hL]
      have hi : (11 : Int) ≤ (k : Int) := by omega
      clear H17 H16 hL
      generalize ((min k 138 : Nat) : Int) = M at *
      go_enter Tryd.func68, Tryd.ntmps68
      go_wp2_with ((go_at_call 92; refine H18.mono ?_; rintro e w1 ⟨rfl, b1⟩; have hr : w1.heap[w.heap.size]? = some (.cells #[.int .i64 0, .int .i64 0] 38 (0, 0)) := (b1.block _ (by simp)).trans (heap_alloc_new w _); have c8 := cell_of_row w1 _ 0 _ _ _ hr; have d8 := cell_of_row w1 _ 1 _ _ _ hr; have f8 := frozen_of_row w1 _ 0 _ _ hr; have g8 := frozen_of_row w1 _ 1 _ _ hr; simp only [List.getElem?_toArray, List.getElem?_cons_zero, List.getElem?_cons_succ] at c8 d8))
      refine bodyPost_ret (v := .agg #[.int .i64 18, .int .i64 M]) (results_cell_row (fn := Tryd.f68) (p := 6) (ty := 38) rfl _ _ w.heap.size _ _ _ _ rfl (two_set hr _ _) Tryd.underlying38 rfl (by kernel_rfl)) rfl ?_
      refine ⟨rfl, ?_⟩
      have b0 : Below w.heap.size w w1 := (below_box8 w _).trans (b1.mono (by simp))
      exact below_two8 b0 (Nat.le_refl _)
    · have hi : ¬ (11 : Int) ≤ (k : Int) := by omega
      by_cases h3 : 3 ≤ k
      · have hL : led8 0 k again = ⟨17, (min k 10 : Nat)⟩ := by unfold led8; simp [h11, h3]
        rw [hL]
        have hi3 : (3 : Int) ≤ (k : Int) := by omega
        clear H18 H16 hL
        generalize ((min k 10 : Nat) : Int) = M at *
        go_enter Tryd.func68, Tryd.ntmps68
        go_wp2_with ((go_at_call 92; refine H17.mono ?_; rintro e w1 ⟨rfl, b1⟩; have hr : w1.heap[w.heap.size]? = some (.cells #[.int .i64 0, .int .i64 0] 38 (0, 0)) := (b1.block _ (by simp)).trans (heap_alloc_new w _); have c8 := cell_of_row w1 _ 0 _ _ _ hr; have d8 := cell_of_row w1 _ 1 _ _ _ hr; have f8 := frozen_of_row w1 _ 0 _ _ hr; have g8 := frozen_of_row w1 _ 1 _ _ hr; simp only [List.getElem?_toArray, List.getElem?_cons_zero, List.getElem?_cons_succ] at c8 d8))
        refine bodyPost_ret (v := .agg #[.int .i64 17, .int .i64 M]) (results_cell_row (fn := Tryd.f68) (p := 6) (ty := 38) rfl _ _ w.heap.size _ _ _ _ rfl (two_set hr _ _) Tryd.underlying38 rfl (by kernel_rfl)) rfl ?_
        refine ⟨rfl, ?_⟩
        have b0 : Below w.heap.size w w1 := (below_box8 w _).trans (b1.mono (by simp))
        exact below_two8 b0 (Nat.le_refl _)
      · have hL : led8 0 k again = ⟨0, 1⟩ := by unfold led8; simp [h11, h3]
        rw [hL]
        have hi3 : ¬ (3 : Int) ≤ (k : Int) := by omega
        clear H18 H17 H16 hL
        go_enter Tryd.func68, Tryd.ntmps68
        go_wp2_with fail
        refine bodyPost_ret (v := .agg #[.int .i64 0, .int .i64 1]) (results_cell_row (fn := Tryd.f68) (p := 6) (ty := 38) rfl _ _ w.heap.size _ _ _ _ rfl (heap_alloc_new w _) Tryd.underlying38 rfl (by kernel_rfl)) rfl ?_
        exact ⟨rfl, below_box8 w _⟩
  · have hvb : (v == 0) = false := by simp [hv]
    by_cases h3 : again = true ∧ 3 ≤ k
    · obtain ⟨rfl, h3⟩ := h3
      have hL : led8 v k true = ⟨16, (min k 6 : Nat)⟩ := led8_more hv h3
      rw [hL]
      have hi3 : (3 : Int) ≤ (k : Int) := by omega
      clear H18 H17 hL
      generalize ((min k 6 : Nat) : Int) = M at *
      go_enter Tryd.func68, Tryd.ntmps68
      go_wp2_with ((go_at_call 92; refine H16.mono ?_; rintro e w1 ⟨rfl, b1⟩; have hr : w1.heap[w.heap.size]? = some (.cells #[.int .i64 0, .int .i64 0] 38 (0, 0)) := (b1.block _ (by simp)).trans (heap_alloc_new w _); have c8 := cell_of_row w1 _ 0 _ _ _ hr; have d8 := cell_of_row w1 _ 1 _ _ _ hr; have f8 := frozen_of_row w1 _ 0 _ _ hr; have g8 := frozen_of_row w1 _ 1 _ _ hr; simp only [List.getElem?_toArray, List.getElem?_cons_zero, List.getElem?_cons_succ] at c8 d8))
      refine bodyPost_ret (v := .agg #[.int .i64 16, .int .i64 M]) (results_cell_row (fn := Tryd.f68) (p := 6) (ty := 38) rfl _ _ w.heap.size _ _ _ _ rfl (two_set hr _ _) Tryd.underlying38 rfl (by kernel_rfl)) rfl ?_
      refine ⟨rfl, ?_⟩
      have b0 : Below w.heap.size w w1 := (below_box8 w _).trans (b1.mono (by simp))
      exact below_two8 b0 (Nat.le_refl _)
    · have hL : led8 v k again = ⟨v, 1⟩ := by
        unfold led8
        rw [if_neg (by simp [hv]), if_neg (by simp [hv]), if_neg (fun h => h3 h.2)]
      rw [hL]
      clear H18 H17 H16 hL
      have hcase : again = false ∨ (again = true ∧ ¬ (3 : Int) ≤ (k : Int)) := by
        cases again
        · exact .inl rfl
        · exact .inr ⟨rfl, by intro h; exact h3 ⟨rfl, by omega⟩⟩
      clear h3
      rcases hcase with rfl | ⟨rfl, hi3⟩
      all_goals
        go_enter Tryd.func68, Tryd.ntmps68
        go_wp2_with fail
        refine bodyPost_ret (v := .agg #[.int .i64 v, .int .i64 1]) (results_cell_row (fn := Tryd.f68) (p := 6) (ty := 38) rfl _ _ w.heap.size _ _ _ _ rfl (heap_alloc_new w _) Tryd.underlying38 rfl (by kernel_rfl)) rfl ?_
        exact ⟨rfl, below_box8 w _⟩
end Go.Proofs.YtoeabfcnfofbiaaDoor
