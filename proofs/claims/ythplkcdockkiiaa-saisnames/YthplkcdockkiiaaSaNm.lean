
import Derived.Test.YthplkcdockkiiaaSaL1
namespace Go.Proofs.Ythplkcdockkiiaa
open Go.RowKit
set_option linter.unusedVariables false

/-! SaisNames. -/
theorem psml12 (xs : List Int) (n : Nat) (w2 : World) (g : Nat) (hn : xs.length = n) (h : n ≤ 100) (hb : xs.all (fun z => decide (-100 ≤ z) && decide (z ≤ 100)) = true) (R : Rz12 w2 g xs) : Calls Try.prog 12 #[.slice (some ⟨g, 0, none⟩) n n, .slice (some ⟨w2.heap.size, 0, none⟩) n n] (w2.alloc (.cells (vi12 xs) 3)) fun e w' => e = .returned (.bool true) ∧ Below w2.heap.size w2 w' := by
  subst hn
  have hb1 : Below w2.heap.size w2 (w2.alloc (.cells (vi12 xs) 3)) := (Below.refl _ _).alloc (Nat.le_refl _) _
  refine (same12 (some ⟨g, 0, none⟩) (some ⟨w2.heap.size, 0, none⟩) xs xs xs.length xs.length _ ((R.old hb1).seg (lit12_bd hb)) ((lit12 w2 xs).seg (lit12_bd hb)) (by omega) (by omega)).mono ?_
  rintro e w' ⟨rfl, B⟩
  exact ⟨by simp, hb1.trans (B.mono hb1.size)⟩
set_option maxRecDepth 100000 in
set_option maxHeartbeats 2000000 in
theorem saisNames_walk (w : World) : Calls Try.prog 3 #[] w fun e w' => e = .returned (.bool true) ∧ Below w.heap.size w w' := by
  have HA := parl12 4 [1, 0, 3, 3, 0, 3, 3, 0, 2, 2, 0] [10, 7, 4, 1, 0, 9, 8, 6, 3, 5, 2] 11 w (by omega) (by kernel_rfl) rfl (by kernel_rfl) (by kernel_rfl)
  have HB : Hid (∀ w1, Calls Try.prog 9 #[.int .i64 1, .slice (some ⟨w1.heap.size, 0, none⟩) 3 3] (w1.alloc (.cells (vi12 [0, 0, 0]) 3)) fun e w' => ∃ g, e = .returned (.tuple #[.slice (some ⟨g, 0, none⟩) 3 3, .int .i64 0]) ∧ Rz12 w' g (nz12 [2, 1, 0]) ∧ w1.heap.size ≤ g ∧ Below w1.heap.size w1 w') := fun w1 => parl12 1 [0, 0, 0] [2, 1, 0] 3 w1 (by omega) (by kernel_rfl) rfl (by kernel_rfl) (by kernel_rfl)
  go_enter Try.func3, Try.ntmps3
  go_wp2_with (first
    | (go_at_call 9; refine HA.mono ?_; rintro e1 w1 ⟨g1, rfl, R1, hg1, B1⟩; clear HA)
    | (go_at_call 9; refine (HB.out w1).mono ?_; rintro e2 w2 ⟨g2, rfl, R2, hg2, B2⟩)
    | (go_at_call 10; refine (pnum12 _ _).mono ?_; rintro e3 w3 ⟨rfl, rfl⟩))
  refine (pawk12 _).mono ?_
  rintro e5 w5 ⟨rfl, B5⟩
  go_wp2_with fail
  have R1' := (R1.old B2).old B5
  refine (psml12 (nz12 [10, 7, 4, 1, 0, 9, 8, 6, 3, 5, 2]) 11 w5 g1 rfl (by omega) (by kernel_rfl) R1').mono ?_
  rintro e6 w6 ⟨rfl, B6⟩
  have R2' := (R2.old B5).old B6
  go_wp2_with fail
  refine (psml12 (nz12 [2, 1, 0]) 3 w6 g2 rfl (by omega) (by kernel_rfl) R2').mono ?_
  rintro e7 w7 ⟨rfl, B7⟩
  go_wp2_with fail
  go_ret
  have S1 := B1.size
  have S2 := B2.size
  have S5 := B5.size
  have S6 := B6.size
  exact ⟨rfl, (((B1.trans (B2.mono (by omega))).trans (B5.mono (by omega))).trans (B6.mono (by omega))).trans (B7.mono (by omega))⟩
end Go.Proofs.Ythplkcdockkiiaa
