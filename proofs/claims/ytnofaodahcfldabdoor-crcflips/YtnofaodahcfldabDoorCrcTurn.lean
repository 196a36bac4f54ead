import Derived.Test.YtnofaodahcfldabDoorCrcMove
import Derived.Test.YtnofaodahcfldabDoorCrcMore
namespace Go.Proofs.YtnofaodahcfldabDoor
open Go.RowKit
set_option linter.unusedVariables false
set_option linter.unusedSimpArgs false

/-- The word with a byte's bits turned so many bytes ahead of the end. -/
def turnW (c : W32) (n : Nat) (m : Int) : W32 := c ^^^ onN (8 * n) (takeW 0#32 m)

theorem turned_arg (c size k m : Int) (w : World) (h : size < 0) : Calls Tryd.prog 17 #[.int .u32 c, .int .i64 size, .int .i64 k, .int .u8 m] w fun e w' => e = .returned (.tuple #[.int .u32 0, .int .i64 1]) ∧ w' = w := by
  go_enter Tryd.func17, Tryd.ntmps17
  go_wp2
  go_ret2
  exact ⟨rfl, rfl⟩
theorem turned_place (c size k m : Int) (w : World) (h : 0 ≤ size) (hk : k < 0 ∨ size ≤ k) : Calls Tryd.prog 17 #[.int .u32 c, .int .i64 size, .int .i64 k, .int .u8 m] w fun e w' => e = .returned (.tuple #[.int .u32 0, .int .i64 20]) ∧ w' = w := by
  have h0 : decide (size < 0) = false := by simp; omega
  by_cases hn : k < 0
  · clear hk
    go_enter Tryd.func17, Tryd.ntmps17
    go_wp2
    go_ret2
    exact ⟨rfl, rfl⟩
  · have hn' : decide (k < 0) = false := by simp; omega
    have hs : size ≤ k := by omega
    clear hk
    go_enter Tryd.func17, Tryd.ntmps17
    go_wp2
    go_ret2
    exact ⟨rfl, rfl⟩
set_option maxHeartbeats 400000 in
theorem turned_any (c : W32) (size k : Nat) (m : Int) (w : World) (h : Tab w) (hk : k < size) (hs : size ≤ 9223372036854775807) (h0 : 0 ≤ m) (h1 : m ≤ 255) :
    Calls Tryd.prog 17 #[.int .u32 (wI c), .int .i64 size, .int .i64 k, .int .u8 m] w fun e w' => e = .returned (.tuple #[.int .u32 (wI (turnW c (size - 1 - k) m)), .int .i64 0]) ∧ w' = w := by
  have a0 : decide ((size : Int) < 0) = false := by simp
  have a1 : decide ((k : Int) < 0) = false := by simp
  have a2 : decide ((size : Int) ≤ (k : Int)) = false := by simp; omega
  have hx : bits .xor .u32 (wI c) (wI (onN (8 * (size - 1 - k)) (takeW 0#32 m))) = wI (turnW c (size - 1 - k) m) := wI_xor _ _
  have ht := take_any 0#32 m w h h0 h1
  have hm := moved_any (takeW 0#32 m) (size - 1 - k) w
  have e1 : ((size - 1 - k : Nat) : Int) = (size : Int) - 1 - (k : Int) := by omega
  rw [e1] at hm
  rw [wI_zero] at ht
  clear e1
  go_enter Tryd.func17, Tryd.ntmps17
  go_wp2_with (first
    | (go_at_call 19; refine ht.mono ?_; rintro e w' ⟨rfl, hw'⟩; subst w')
    | (go_at_call 20; refine hm.mono ?_; rintro e w' ⟨rfl, hw'⟩; subst w'))
  go_ret2
  exact ⟨rfl, rfl⟩
end Go.Proofs.YtnofaodahcfldabDoor
