
import Derived.Test.YtboangeopbblnaaPuF
import Derived.Test.YtboangeopbblnaaOpenPu
namespace Go.Proofs.Ytboangeopbblnaa
open Go.RowKit Go.Maps Go.WideMaps Go.MuLone
set_option linter.unusedVariables false
set_option linter.unusedSimpArgs false
set_option maxRecDepth 100000

/-! PurseMade: purses that no call made. -/
set_option maxRecDepth 100000 in
set_option maxHeartbeats 4000000 in
theorem purseMade_walk (w : World) (o : Oq23) : Calls Try.prog 8 #[.agg #[.bool o.h, .string o.s, .int .i64 o.n]] w fun e w' => e = .returned (.bool true) ∧ Below w.heap.size w w' := by
  obtain ⟨W, hW⟩ : ∃ W, W = ((w.alloc (.cells #[.bool o.h, .string o.s, .int .i64 o.n] 30)).alloc (.cells #[.pointer none] 50)).alloc (.cells #[.pointer none, .pointer (some ⟨w.heap.size + 1, 0, none⟩)] 24) := ⟨_, rfl⟩
  have HB : Hid (Below w.heap.size w W) := by rw [hW]; exact (((Below.refl _ _).alloc (Nat.le_refl _) _).alloc (by simp) _).alloc (by simp; omega) _
  have HU1 : Hid (Un23 W (.pointer none)) := .inl rfl
  obtain ⟨w1, hw1⟩ : ∃ w1, w1 = w.alloc (.cells #[.bool o.h, .string o.s, .int .i64 o.n] 30) := ⟨_, rfl⟩
  have s1 : w1.heap.size = w.heap.size + 1 := by rw [hw1]; simp
  have b0 : w1.heap[w.heap.size]? = some (.cells #[.bool o.h, .string o.s, .int .i64 o.n] 30 (0, 0)) := by rw [hw1]; exact new_blk23 w _
  rw [← hw1] at hW
  obtain ⟨w2, hw2⟩ : ∃ w2, w2 = w1.alloc (.cells #[.pointer none] 50) := ⟨_, rfl⟩
  have s2 : w2.heap.size = w.heap.size + 2 := by rw [hw2]; simp [s1]
  have k2 : Kp (fun _ => False) w1 w2 := by rw [hw2]; exact Kp.alloc _ _
  have b1 : w2.heap[w.heap.size + 1]? = some (.cells #[.pointer none] 50 (0, 0)) := by rw [hw2]; exact new_at23 w1 _ s1.symm
  rw [← hw2] at hW
  have k3 : Kp (fun _ => False) w2 W := by rw [hW]; exact Kp.alloc _ _
  have b2 : W.heap[w.heap.size + 2]? = some (.cells #[.pointer none, .pointer (some ⟨w.heap.size + 1, 0, none⟩)] 24 (0, 0)) := by rw [hW]; exact new_at23 w2 _ s2.symm
  have b1' := k3.heap b1 (fun h => h)
  have b0' := k3.heap (k2.heap b0 (fun h => h)) (fun h => h)
  have HU2 : Hid (Un23 W (.pointer (some ⟨w.heap.size + 1, 0, none⟩))) := .inr ⟨_, rfl, one_c23 b1'⟩
  have c1 := three_cell1 b0'
  have c2 := three_cell2 b0'
  have hW2 : Hid (W = ((w.alloc (.cells #[.bool o.h, .string o.s, .int .i64 o.n] 30)).alloc (.cells #[.pointer none] 50)).alloc (.cells #[.pointer none, .pointer (some ⟨w.heap.size + 1, 0, none⟩)] 24)) := by rw [hW, hw2, hw1]; rfl
  obtain ⟨d0, d1⟩ := two_c23 b2
  clear b0 b1 b2 b0' b1' k2 k3 hW s1 s2 hw1 hw2
  go_enter Try.func8, Try.ntmps8
  go_wp2_with fail
  rw [← hW2.out]
  refine wp_loop_rounds 3 ?_
  rw [rounds_succ]
  go_wp2_with fail
  refine (pOpn23_no HU1.out _ _).mono ?_
  rintro e w' ⟨rfl, hw⟩
  subst w'
  go_wp2_with fail
  refine (pHld23_no HU1.out _ _).mono ?_
  rintro e w' ⟨rfl, hw⟩
  subst w'
  go_wp2_with fail
  refine (pHed23_no HU1.out).mono ?_
  rintro e w' ⟨rfl, hw⟩
  subst w'
  go_wp2_with fail
  refine (pPek23_no HU1.out).mono ?_
  rintro e w' ⟨rfl, hw⟩
  subst w'
  go_wp2_with fail
  refine (pMst23_no HU1.out).mono ?_
  rintro e w' ⟨rfl, hw⟩
  subst w'
  go_wp2_with fail
  refine (pNam23_no HU1.out).mono ?_
  rintro e w' ⟨rfl, hw⟩
  subst w'
  go_wp2_with fail
  rw [rounds_succ]
  go_wp2_with fail
  refine (pOpn23_no HU2.out _ _).mono ?_
  rintro e w' ⟨rfl, hw⟩
  subst w'
  go_wp2_with fail
  refine (pHld23_no HU2.out _ _).mono ?_
  rintro e w' ⟨rfl, hw⟩
  subst w'
  go_wp2_with fail
  refine (pHed23_no HU2.out).mono ?_
  rintro e w' ⟨rfl, hw⟩
  subst w'
  go_wp2_with fail
  refine (pPek23_no HU2.out).mono ?_
  rintro e w' ⟨rfl, hw⟩
  subst w'
  go_wp2_with fail
  refine (pMst23_no HU2.out).mono ?_
  rintro e w' ⟨rfl, hw⟩
  subst w'
  go_wp2_with fail
  refine (pNam23_no HU2.out).mono ?_
  rintro e w' ⟨rfl, hw⟩
  subst w'
  go_wp2_with fail
  rw [rounds_succ]
  go_wp2_with fail
  refine (pliv23 _).mono ?_
  rintro e w' ⟨rfl, h⟩
  go_wp2_with fail
  go_ret
  exact ⟨rfl, HB.out.trans (h.mono HB.out.size)⟩
end Go.Proofs.Ytboangeopbblnaa
