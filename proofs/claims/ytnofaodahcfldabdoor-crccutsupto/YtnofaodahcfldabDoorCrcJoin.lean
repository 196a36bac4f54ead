import Derived.Test.YtnofaodahcfldabDoorCrcMove
namespace Go.Proofs.YtnofaodahcfldabDoor
open Go.RowKit
set_option linter.unusedVariables false
set_option linter.unusedSimpArgs false

set_option maxHeartbeats 400000 in
theorem join_any (a b : W32) (n : Int) (w : World) (h : 0 ≤ n) : Calls Tryd.prog 16 #[.int .u32 (wI a), .int .u32 (wI b), .int .i64 n] w fun e w' => e = .returned (.tuple #[.int .u32 (wI (onN (8 * n.toNat) a ^^^ b)), .int .i64 0]) ∧ w' = w := by
  obtain ⟨m, rfl⟩ := Int.eq_ofNat_of_zero_le h
  have hn : decide ((m : Int) < 0) = false := by simp
  have HX := wI_xor (onN (8 * m) a) b
  have HX' : Hid (bits .xor .u32 (wI (onN (8 * m) a)) (wI b) = wI (onN (8 * m) a ^^^ b)) := HX
  clear HX h
  rw [Int.toNat_natCast]
  go_enter Tryd.func16, Tryd.ntmps16
  go_wp2_with (go_at_call 20; refine (moved_any _ _ _).mono ?_; rintro e w' ⟨rfl, hw'⟩; subst w')
  go_ret2
  exact ⟨by rw [HX'.out]; rfl, rfl⟩
theorem join_arg (a b : Int) (n : Int) (w : World) (h : n < 0) : Calls Tryd.prog 16 #[.int .u32 a, .int .u32 b, .int .i64 n] w fun e w' => e = .returned (.tuple #[.int .u32 0, .int .i64 1]) ∧ w' = w := by
  go_enter Tryd.func16, Tryd.ntmps16
  go_wp2
  go_ret2
  exact ⟨rfl, rfl⟩
end Go.Proofs.YtnofaodahcfldabDoor
