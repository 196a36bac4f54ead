import Derived.Test.YtnofaodahcfldaaDoorCrcMake
namespace Go.Proofs.YtnofaodahcfldaaDoor
open Go.RowKit
set_option linter.unusedVariables false
set_option linter.unusedSimpArgs false
theorem num_any (n : Int) (w : World) : Calls Tryd.prog 8 #[.int .i64 n] w fun e w' => e = .returned (.int .i64 n) ∧ w' = w := by
  go_enter Tryd.func8, Tryd.ntmps8
  go_wp2
  go_ret
  exact ⟨rfl, rfl⟩

theorem sum_z1 : wI (sumW (List.replicate 1 0)) = 3523407757 := by decide +kernel
theorem sum_z4 : wI (sumW (List.replicate 4 0)) = 558161692 := by decide +kernel
theorem sum_ff : wI (sumW [255, 255, 255, 255]) = 4294967295 := by decide +kernel
theorem sum_a : wI (sumW [97]) = 3904355907 := by decide +kernel

set_option maxHeartbeats 1000000 in
theorem crcNames_walk (w : World) (h : Tab w) : Calls Tryd.prog 3 #[] w fun e w' => e = .returned (.bool true) ∧ Below w.heap.size w w' := by
  have sff := seg_lit w [255, 255, 255, 255] 5 (0, 0) (by decide)
  have aff : Below w.heap.size w (w.alloc (.cells (([255, 255, 255, 255] : List Int).map (Value.int .u8)).toArray 5)) := (Below.refl _ _).alloc (Nat.le_refl _) _
  have hm1 : ∀ w, (Instr.makeSlice 22 (.int .i64 1) (.int .i64 1)).run Tryd.prog w = .ok (.slice (some ⟨w.heap.size, 0, none⟩) 1 1) (w.alloc (.cells ((List.replicate 1 (0 : Int)).map (Value.int .u8)).toArray 5)) := run_make_zeros 1 (by decide)
  have hm4 : ∀ w, (Instr.makeSlice 22 (.int .i64 4) (.int .i64 4)).run Tryd.prog w = .ok (.slice (some ⟨w.heap.size, 0, none⟩) 4 4) (w.alloc (.cells ((List.replicate 4 (0 : Int)).map (Value.int .u8)).toArray 5)) := run_make_zeros 4 (by decide)
  go_enter Tryd.func3, Tryd.ntmps3
  go_wp2_with (first
    | (go_at_call 8; refine (num_any _ _).mono ?_; rintro e w' ⟨rfl, hw'⟩; subst w')
    | (go_at_call 9; refine (awake_any _ (h.alloc _)).mono ?_; rintro e w1 ⟨rfl, hb1⟩; replace sff := sff.old hb1; have t1 : Tab w1 := (h.alloc _).old hb1; replace hb1 := aff.trans (hb1.mono (by simp)); clear h aff))
  clear hm4
  refine (sum_one _ _ 1 _ (List.replicate 1 0) 1 1 _ (t1.alloc _) (seg_lit _ _ _ (0, 0) (zeros_bd 1)) (by simp) rfl (by simp)).mono ?_
  rintro e w2 ⟨rfl, hw2⟩
  have t2 : Tab w2 := by rw [hw2]; exact (t1.alloc _).alloc _
  have s2 : Seg w2 (some ⟨w.heap.size, 0, none⟩) [255, 255, 255, 255] := by rw [hw2]; exact (sff.alloc _).alloc _
  have b2 : Below w.heap.size w w2 := by rw [hw2]; exact balloc (balloc hb1 _) _
  clear hw2 t1 sff hb1 hm1
  rw [sum_z1]
  have hm4 : (Instr.makeSlice 22 (.int .i64 4) (.int .i64 4)).run Tryd.prog w2 = .ok (.slice (some ⟨w2.heap.size, 0, none⟩) 4 4) (w2.alloc (.cells ((List.replicate 4 (0 : Int)).map (Value.int .u8)).toArray 5)) := run_make_zeros 4 (by decide) w2
  go_wp2_with fail
  refine (sum_one _ _ 4 _ (List.replicate 4 0) 4 1 _ (t2.alloc _) (seg_lit _ _ _ (0, 0) (zeros_bd 4)) (by simp) rfl (by simp)).mono ?_
  rintro e w3 ⟨rfl, hw3⟩
  have t3 : Tab w3 := by rw [hw3]; exact (t2.alloc _).alloc _
  have s3 : Seg w3 (some ⟨w.heap.size, 0, none⟩) [255, 255, 255, 255] := by rw [hw3]; exact (s2.alloc _).alloc _
  have b3 : Below w.heap.size w w3 := by rw [hw3]; exact balloc (balloc b2 _) _
  clear hw3 t2 s2 b2 hm4
  rw [sum_z4]
  go_wp2_with fail
  refine (sum_one _ _ 4 _ [255, 255, 255, 255] 4 1 _ t3 s3 rfl rfl (by simp)).mono ?_
  rintro e w4 ⟨rfl, hw4⟩
  have t4 : Tab w4 := by rw [hw4]; exact t3.alloc _
  have b4 : Below w.heap.size w w4 := by rw [hw4]; exact balloc b3 _
  clear hw4 t3 s3 b3
  rw [sum_ff]
  have hcv : (convert 22 22 (.slice (some ⟨w4.heap.size, 0, none⟩) 1 1)).run Tryd.prog (w4.alloc (.cells #[.int .u8 97] 5)) = .ok (.slice (some ⟨w4.heap.size, 0, none⟩) 1 1) (w4.alloc (.cells #[.int .u8 97] 5 (1, 2))) := Lib.run_convert_bytes_const (P := Tryd.prog) w4 22 5 #[.int .u8 97] 1 1 Tryd.underlying22 Tryd.underlying5
  go_wp2_with fail
  refine (sum_one _ _ 1 _ [97] 1 1 _ (t4.alloc _) (seg_lit _ [97] _ (1, 2) (by decide)) (by simp) rfl (by simp)).mono ?_
  rintro e w5 ⟨rfl, hw5⟩
  have b5 : Below w.heap.size w w5 := by rw [hw5]; exact balloc (balloc b4 _) _
  clear hw5 t4 b4 hcv
  rw [sum_a]
  go_wp2
  go_ret
  exact ⟨rfl, b5⟩
end Go.Proofs.YtnofaodahcfldaaDoor
