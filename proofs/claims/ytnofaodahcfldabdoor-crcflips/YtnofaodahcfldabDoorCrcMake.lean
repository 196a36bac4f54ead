import Derived.Test.YtnofaodahcfldabDoorCrcAwake
import Derived.Deep.OwnRows
namespace Go.Proofs.YtnofaodahcfldabDoor
open Go.RowKit
set_option linter.unusedVariables false
set_option linter.unusedSimpArgs false
theorem info_u8z : (Tryd.prog.info? 5).map (fun i => (i.zero, i.size, i.bytes)) = some (some (.int .u8 0), 1, 1) := by kernel_rfl
theorem made_zeros (n : Nat) : madeCells #[.int .u8 0] n = ((List.replicate n (0 : Int)).map (Value.int .u8)).toArray := by
  apply Array.toList_inj.1
  rw [toList_madeCells_one]
  simp
theorem run_make_zeros (n : Nat) (h : n ≤ 281474976710656) (w : World) :
    (Instr.makeSlice 26 (.int .i64 (n : Int)) (.int .i64 (n : Int))).run Tryd.prog w = .ok (.slice (some ⟨w.heap.size, 0, none⟩) n n) (w.alloc (.cells ((List.replicate n (0 : Int)).map (Value.int .u8)).toArray 5)) := by
  rw [← made_zeros]
  exact run_make_row' 26 5 (.int .u8 0) 1 Tryd.underlying26 info_u8z rfl .i64 .i64 n (by omega) (by omega) w
theorem zeros_bd (n : Nat) : ∀ z ∈ List.replicate n (0 : Int), 0 ≤ z ∧ z ≤ 255 := by
  intro z hz
  obtain ⟨_, rfl⟩ := List.mem_replicate.1 hz
  decide
end Go.Proofs.YtnofaodahcfldabDoor
