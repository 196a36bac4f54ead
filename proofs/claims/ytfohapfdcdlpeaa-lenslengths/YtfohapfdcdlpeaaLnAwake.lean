
import Derived.Test.YtfohapfdcdlpeaaLnLen2
import Derived.Test.YtfohapfdcdlpeaaLnSame
namespace Go.Proofs.Ytfohapfdcdlpeaa
open Go.RowKit
set_option linter.unusedVariables false

theorem lens_1124 : lensR 3 [1, 1, 2, 4] = [3, 3, 2, 1] ∧ errL 3 [1, 1, 2, 4] = 0 := by
  have e2 : LFz [1, 1, 2, 4] = [(1, 0), (1, 1), (2, 2), (4, 3)] := by decide
  have e1 : errL 3 [1, 1, 2, 4] = 0 := by unfold errL nUse; rw [e2]; decide
  refine ⟨?_, e1⟩
  unfold lensR
  rw [if_pos e1]
  unfold lensL nUse
  rw [e2]
  simp [taken, row, itF, pk, bumps, bump]
theorem seg_lit4 (w : World) (x0 x1 x2 x3 : Int) (h : ∀ z ∈ [x0, x1, x2, x3], -9223372036854775808 ≤ z ∧ z ≤ 9223372036854775807) : SegZ (w.alloc (.cells #[.int .i64 x0, .int .i64 x1, .int .i64 x2, .int .i64 x3] 3)) (some ⟨w.heap.size, 0, none⟩) [x0, x1, x2, x3] := by
  refine ⟨fun i hi => ⟨w.heap.size, 0, rfl, ?_⟩, getD_bdz h⟩
  simp only [List.length_cons, List.length_nil] at hi
  match i, hi with
  | 0, _ => simp
  | 1, _ => simp
  | 2, _ => simp
  | 3, _ => simp

set_option maxRecDepth 100000 in
set_option maxHeartbeats 1000000 in
theorem awake_any (w : World) : Calls Try.prog 9 #[] w fun e w' => e = .returned (.bool true) ∧ Below w.heap.size w w' := by
  have s1 := seg_lit4 w 1 1 2 4 (by intro z hz; simp at hz; omega)
  have C1 := lengths_any 3 (some ⟨w.heap.size, 0, none⟩) [1, 1, 2, 4] 4 4 rfl _ s1 (by omega)
  unfold LenQ at C1
  rw [lens_1124.1, lens_1124.2] at C1
  go_enter Try.func9, Try.ntmps9
  go_wp2_with fail
  refine C1.mono ?_
  rintro e w1 ⟨b, c, rfl, s2, B1⟩
  have B0 : Below w.heap.size w w1 := ((Below.refl _ _).alloc (Nat.le_refl _) _).trans (B1.mono (by simp))
  have s3 := s2.alloc (.cells #[.int .i64 3, .int .i64 3, .int .i64 2, .int .i64 1] 3)
  have s4 := seg_lit4 w1 3 3 2 1 (by intro z hz; simp at hz; omega)
  have C2 := same_any b (some ⟨w1.heap.size, 0, none⟩) [3, 3, 2, 1] [3, 3, 2, 1] c 4 _ s3 s4 (by simp) (by simp)
  clear C1 s1
  go_wp2_with fail
  refine C2.mono ?_
  rintro e w2 ⟨rfl, B2⟩
  go_wp2
  go_ret
  exact ⟨rfl, B0.trans (((Below.refl _ _).alloc B0.size _).trans (B2.mono (by have := B0.size; simp; omega)))⟩
end Go.Proofs.Ytfohapfdcdlpeaa
