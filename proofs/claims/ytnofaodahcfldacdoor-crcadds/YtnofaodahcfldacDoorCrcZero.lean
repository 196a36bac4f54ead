import Derived.Test.YtnofaodahcfldacDoorCrcMove
import Derived.Test.YtnofaodahcfldacDoorCrcMore
namespace Go.Proofs.YtnofaodahcfldacDoor
open Go.RowKit
set_option linter.unusedVariables false
set_option linter.unusedSimpArgs false

set_option maxHeartbeats 400000 in
theorem zeros_any (c : W32) (n : Nat) (w : World) : Calls Tryd.prog 6 #[.int .u32 (wI c), .int .i64 n] w fun e w' => e = .returned (.tuple #[.int .u32 (wI (~~~ (onN (8 * n) (~~~ c)))), .int .i64 0]) ∧ w' = w := by
  have hsg := u32_unsigned
  have hn := wI_not c
  have hn2 := wI_not (onN (8 * n) (~~~ c))
  have hneg : decide ((n : Int) < 0) = false := by simp
  go_enter Tryd.func6, Tryd.ntmps6
  go_wp2_with (go_at_call 8; refine (moved_any _ _ _).mono ?_; rintro e w' ⟨rfl, hw'⟩; subst w')
  go_ret2
  exact ⟨rfl, rfl⟩
theorem zeros_arg (c n : Int) (w : World) (h : n < 0) : Calls Tryd.prog 6 #[.int .u32 c, .int .i64 n] w fun e w' => e = .returned (.tuple #[.int .u32 0, .int .i64 1]) ∧ w' = w := by
  go_enter Tryd.func6, Tryd.ntmps6
  go_wp2
  go_ret2
  exact ⟨rfl, rfl⟩
end Go.Proofs.YtnofaodahcfldacDoor
