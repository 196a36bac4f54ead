import Derived.Test.YtmleicaalaggkaaLnAwake
import Derived.Test.YtmleicaalaggkaaLnLeast
import Derived.Test.YtmleicaalaggkaaLnNum
namespace Go.Proofs.Ytmleicaalaggkaa
open Go.RowKit
set_option linter.unusedVariables false

theorem lens_nil : lensR 15 [] = [] ∧ errL 15 [] = 0 := by
  have e2 : LFz [] = [] := by decide
  have e1 : errL 15 [] = 0 := by unfold errL nUse; rw [e2]; decide
  refine ⟨?_, e1⟩
  unfold lensR
  rw [if_pos e1]
  unfold lensL nUse
  rw [e2]
  simp
theorem lens_07 : lensR 15 [0, 7] = [0, 1] ∧ errL 15 [0, 7] = 0 := by
  have e2 : LFz [0, 7] = [(7, 1)] := by decide
  have e1 : errL 15 [0, 7] = 0 := by unfold errL nUse; rw [e2]; decide
  refine ⟨?_, e1⟩
  unfold lensR
  rw [if_pos e1]
  unfold lensL nUse
  rw [e2]
  simp
theorem lens_big : lensR 3 [1, 2, 4, 8, 16] = [3, 3, 3, 3, 1] ∧ errL 3 [1, 2, 4, 8, 16] = 0 := by
  have e2 : LFz [1, 2, 4, 8, 16] = [(1, 0), (2, 1), (4, 2), (8, 3), (16, 4)] := by decide
  have e1 : errL 3 [1, 2, 4, 8, 16] = 0 := by unfold errL nUse; rw [e2]; decide
  refine ⟨?_, e1⟩
  unfold lensR
  rw [if_pos e1]
  unfold lensL nUse
  rw [e2]
  simp [taken, row, itF, pk, bumps, bump]
theorem least_14 : leastOf [1, 1, 2, 4] = 14 ∧ errOf [1, 1, 2, 4] = 0 := by decide
theorem seg_lit2 (w : World) (x0 x1 : Int) (h : ∀ z ∈ [x0, x1], -9223372036854775808 ≤ z ∧ z ≤ 9223372036854775807) : SegZ (w.alloc (.cells #[.int .i64 x0, .int .i64 x1] 3)) (some ⟨w.heap.size, 0, none⟩) [x0, x1] := by
  refine ⟨fun i hi => ⟨w.heap.size, 0, rfl, ?_⟩, getD_bdz h⟩
  simp only [List.length_cons, List.length_nil] at hi
  match i, hi with
  | 0, _ => simp
  | 1, _ => simp
theorem seg_lit5 (w : World) (x0 x1 x2 x3 x4 : Int) (h : ∀ z ∈ [x0, x1, x2, x3, x4], -9223372036854775808 ≤ z ∧ z ≤ 9223372036854775807) : SegZ (w.alloc (.cells #[.int .i64 x0, .int .i64 x1, .int .i64 x2, .int .i64 x3, .int .i64 x4] 3)) (some ⟨w.heap.size, 0, none⟩) [x0, x1, x2, x3, x4] := by
  refine ⟨fun i hi => ⟨w.heap.size, 0, rfl, ?_⟩, getD_bdz h⟩
  simp only [List.length_cons, List.length_nil] at hi
  match i, hi with
  | 0, _ => simp
  | 1, _ => simp
  | 2, _ => simp
  | 3, _ => simp
  | 4, _ => simp
theorem ball {w w1 : World} (h : Below w.heap.size w w1) (o : Obj) : Below w.heap.size w (w1.alloc o) := h.trans ((Below.refl _ _).alloc h.size _)

set_option maxHeartbeats 1000000 in
theorem lensNames_walk (w : World) : Calls Try.prog 3 #[] w fun e w' => e = .returned (.bool true) ∧ Below w.heap.size w w' := by
  have C1 := lengths_any 15 none [] 0 0 rfl w (SegZ.nil _ _) (by omega)
  unfold LenQ at C1
  rw [lens_nil.1, lens_nil.2] at C1
  go_enter Try.func3, Try.ntmps3
  go_wp2_with fail
  refine C1.mono ?_
  rintro e w1 ⟨b1, c1, rfl, _, B1⟩
  have C2 := lengths_any 15 (some ⟨w1.heap.size, 0, none⟩) [0, 7] 2 2 rfl _ (seg_lit2 w1 0 7 (by intro z hz; simp at hz; omega)) (by omega)
  unfold LenQ at C2
  rw [lens_07.1, lens_07.2] at C2
  go_wp2_with fail
  refine C2.mono ?_
  rintro e w2 ⟨b2, c2, rfl, s2, B2'⟩
  have B2 : Below w.heap.size w w2 := (ball B1 _).trans (B2'.mono (by have := B1.size; simp; omega))
  have C3 := lengths_any 3 (some ⟨w2.heap.size, 0, none⟩) [1, 2, 4, 8, 16] 5 5 rfl _ (seg_lit5 w2 1 2 4 8 16 (by intro z hz; simp at hz; omega)) (by omega)
  unfold LenQ at C3
  rw [lens_big.1, lens_big.2] at C3
  go_wp2_with fail
  refine C3.mono ?_
  rintro e w3 ⟨b3, c3, rfl, s3, B3'⟩
  have B23 : Below w2.heap.size w2 w3 := ((Below.refl _ _).alloc (Nat.le_refl _) _).trans (B3'.mono (by simp))
  have s2 := s2.old B23
  have B3 : Below w.heap.size w w3 := B2.trans (B23.mono B2.size)
  have C4 := least_fn (some ⟨w3.heap.size, 0, none⟩) [1, 1, 2, 4] 4 4 rfl _ (seg_lit4 w3 1 1 2 4 (by intro z hz; simp at hz; omega)) (by omega)
  rw [least_14.1, least_14.2] at C4
  go_wp2_with fail
  refine C4.mono ?_
  rintro e w4 ⟨rfl, B4'⟩
  have B34 : Below w3.heap.size w3 w4 := ((Below.refl _ _).alloc (Nat.le_refl _) _).trans (B4'.mono (by simp))
  have s2 := s2.old B34
  have s3 := s3.old B34
  have B4 : Below w.heap.size w w4 := B3.trans (B34.mono B3.size)
  have CA := awake_any w4
  clear C1 C2 C3 C4 B1 B2' B3' B4' B23 B34 B2 B3
  go_wp2_with (go_at_call 11; refine (num_any _ _).mono ?_; rintro e w' ⟨rfl, hw'⟩; subst w')
  refine CA.mono ?_
  rintro e w5 ⟨rfl, B5⟩
  have s2 := s2.old B5
  have s3 := s3.old B5
  have B5' : Below w.heap.size w w5 := B4.trans (B5.mono B4.size)
  have C6 := same_any b2 (some ⟨w5.heap.size, 0, none⟩) [0, 1] [0, 1] c2 2 _ (s2.alloc (.cells #[.int .i64 0, .int .i64 1] 3)) (seg_lit2 w5 0 1 (by intro z hz; simp at hz; omega)) (by simp) (by simp)
  clear CA
  go_wp2_with fail
  refine C6.mono ?_
  rintro e w6 ⟨rfl, B6⟩
  have B56 : Below w5.heap.size w5 w6 := ((Below.refl _ _).alloc (Nat.le_refl _) _).trans (B6.mono (by simp))
  have s3 := s3.old B56
  have B6' : Below w.heap.size w w6 := B5'.trans (B56.mono B5'.size)
  have C7 := same_any b3 (some ⟨w6.heap.size, 0, none⟩) [3, 3, 3, 3, 1] [3, 3, 3, 3, 1] c3 5 _ (s3.alloc (.cells #[.int .i64 3, .int .i64 3, .int .i64 3, .int .i64 3, .int .i64 1] 3)) (seg_lit5 w6 3 3 3 3 1 (by intro z hz; simp at hz; omega)) (by simp) (by simp)
  clear C6
  go_wp2_with fail
  refine C7.mono ?_
  rintro e w7 ⟨rfl, B7⟩
  go_wp2
  go_ret
  exact ⟨rfl, (ball B6' _).trans (B7.mono (by have := B6'.size; simp; omega))⟩
end Go.Proofs.Ytmleicaalaggkaa
