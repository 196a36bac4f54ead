
import Derived.Test.YtoeabfcnfofbiaaDoorHdW5
import Derived.Test.YtoeabfcnfofbiaaDoorHdL2
namespace Go.Proofs.YtoeabfcnfofbiaaDoor
open Go.RowKit
set_option linter.unusedVariables false

/-! HeadNames: the chapter's fourth example. -/
def nmL : List Int := 1 :: (List.replicate 255 0 ++ [1])
def nmF : List Int := [1, 2, 0, 0, 0, 0, 0, 0, 0, 0, 0, 0, 0, 0, 0, 0, 0, 0, 2]
theorem nm_tld : tld8 errC nmL [] := by decide +kernel
theorem nm_runs : rs8 nmL [] = [⟨1, 1⟩, ⟨18, 138⟩, ⟨18, 117⟩, ⟨1, 1⟩, ⟨0, 1⟩] := by kernel_rfl
theorem nm_freq : fr8 nmL [] = nmF := by
  unfold fr8
  rw [nm_runs]
  decide +kernel
theorem nm_LF : LFz nmF = [(1, 0), (2, 1), (2, 18)] := by decide +kernel
theorem nm_sizes : sz8 nmL [] = [2, 2, 0, 0, 0, 0, 0, 0, 0, 0, 0, 0, 0, 0, 0, 0, 0, 0, 1] := by
  unfold sz8
  rw [nm_freq]
  unfold lensL nUse
  rw [nm_LF]
  have : nmF.length = 19 := rfl
  rw [this]
  simp [taken, row, itF, pk, bumps, bump]
theorem nm_cost : cst8 nmL [] = 90 := by
  unfold cst8
  rw [nm_sizes, nm_runs]
  decide +kernel
theorem nm_set : ((Array.replicate 257 (Value.int .i64 0)).setIfInBounds 0 (Value.int .i64 1)).setIfInBounds 256 (Value.int .i64 1) = (nmL.map (Value.int .i64)).toArray := by kernel_rfl
theorem nm_len : nmL.length = 257 := by decide +kernel
theorem nm_bd : ∀ z ∈ nmL, -9223372036854775808 ≤ z ∧ z ≤ 9223372036854775807 := by decide +kernel
theorem nm_seg (w : World) : SegZ (w.alloc (.cells (nmL.map (Value.int .i64)).toArray 3)) (some ⟨w.heap.size, 0, none⟩) nmL := by
  refine ⟨fun i hi => ⟨w.heap.size, 0, rfl, ?_⟩, getD_bdz nm_bd⟩
  rw [Nat.zero_add, cell_of_row _ _ i _ _ _ (heap_alloc_new w _)]
  simp [List.getD, hi]
set_option maxRecDepth 100000 in
set_option maxHeartbeats 4000000 in
theorem headNames_walk (w : World) (TT : TabS w ∧ TabO w) : Calls Tryd.prog 3 #[] w fun e w' => e = .returned (.bool true) ∧ Below w.heap.size w w' := by
  obtain ⟨T, O⟩ := TT
  have hmk : ∀ W, (Instr.makeSlice 22 (.int .i64 257) (.int .i64 257)).run Tryd.prog W = .ok (.slice (some ⟨W.heap.size, 0, none⟩) 257 257) (W.alloc (.cells (Array.replicate 257 (.int .i64 0)) 3)) := fun W => run_make_ints 257 (by omega) W
  have B0 := below_box8 w (.cells (nmL.map (Value.int .i64)).toArray 3)
  have CC := pcost8 nmL [] (some ⟨w.heap.size, 0, none⟩) none 257 0 257 0 nm_len rfl _ (nm_seg w) (SegZ.nil _ _) (by omega) (by omega) (SegZ.old T B0) (SegZ.old O B0)
  unfold CsQ at CC
  rw [if_pos nm_tld, nm_cost] at CC
  have HA : Hid (∀ W, Below w.heap.size w W → Calls Tryd.prog 11 #[] W fun e w' => e = .returned (.bool true) ∧ Below W.heap.size W w') := fun W hW => awake8 W (SegZ.old T hW)
  clear T O
  go_enter Tryd.func3, Tryd.ntmps3
  go_wp2_with fail
  rw [nm_set]
  refine CC.mono ?_
  rintro e w1 ⟨rfl, B1⟩
  have x1 : Below w.heap.size w w1 := B0.trans (B1.mono B0.size)
  clear CC B0
  go_wp2_with (first
    | (go_at_call 10; refine (num8 _ _).mono ?_; rintro e w' ⟨rfl, hw'⟩; subst w')
    | (go_at_call 11; refine (HA.out _ x1).mono ?_; rintro e w2 ⟨rfl, B2⟩))
  go_ret
  exact ⟨rfl, x1.trans (B2.mono x1.size)⟩
end Go.Proofs.YtoeabfcnfofbiaaDoor
