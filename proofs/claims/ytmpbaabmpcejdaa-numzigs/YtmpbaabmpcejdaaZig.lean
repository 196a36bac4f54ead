import Derived.Test.YtmpbaabmpcejdaaProg
import Derived.WalkKit
import Derived.WalkSpells
import Derived.WalkLawsBesides
namespace Go.Proofs.Ytmpbaabmpcejdaa
open Go.RowKit

/-- A number with a sign as one without. -/
def zigI (v : Int) : Int := if 0 ≤ v then 2 * v else 2 * (-(v + 1)) + 1
/-- And back. -/
def zagI (u : Int) : Int := if u % 2 = 0 then u / 2 else -(u / 2) - 1

theorem zig_bd (v : Int) (h0 : -9223372036854775808 ≤ v) (h1 : v ≤ 9223372036854775807) : 0 ≤ zigI v ∧ zigI v ≤ 18446744073709551615 := by
  unfold zigI; split <;> omega
theorem zag_bd (u : Int) (h0 : 0 ≤ u) (h1 : u ≤ 18446744073709551615) : -9223372036854775808 ≤ zagI u ∧ zagI u ≤ 9223372036854775807 := by
  unfold zagI; split <;> omega
theorem zag_zig (v : Int) : zagI (zigI v) = v := by
  unfold zagI zigI; split <;> split <;> omega
theorem zig_zag (u : Int) (h0 : 0 ≤ u) : zigI (zagI u) = u := by
  unfold zagI zigI; split <;> split <;> omega
theorem ret_int {k : IntKind} {a b : Int} (h : a = b) : Ending.returned (.int k a) = .returned (.int k b) := by rw [h]

set_option maxHeartbeats 400000 in
theorem zig_any (v : Int) (w : World) (h0 : -9223372036854775808 ≤ v) (h1 : v ≤ 9223372036854775807) :
    Calls Try.prog 25 #[.int .i64 v] w fun e w' => e = .returned (.int .u64 (zigI v)) ∧ w' = w := by
  by_cases h : 0 ≤ v
  · go_enter Try.func25, Try.ntmps25
    go_wp2
    go_ret
    exact ⟨ret_int (by unfold zigI; rw [if_pos h]), rfl⟩
  · go_enter Try.func25, Try.ntmps25
    go_wp2
    go_ret
    exact ⟨ret_int (by unfold zigI; rw [if_neg (by omega)]), rfl⟩

set_option maxHeartbeats 400000 in
theorem refzig_any (v : Int) (w : World) (h0 : -9223372036854775808 ≤ v) (h1 : v ≤ 9223372036854775807) :
    Calls Try.prog 26 #[.int .i64 v] w fun e w' => e = .returned (.int .u64 (zigI v)) ∧ w' = w := by
  by_cases h : 0 ≤ v
  · go_enter Try.func26, Try.ntmps26
    go_wp2
    go_ret
    exact ⟨ret_int (by unfold zigI; rw [if_pos h]), rfl⟩
  · go_enter Try.func26, Try.ntmps26
    go_wp2
    go_ret
    exact ⟨ret_int (by unfold zigI; rw [if_neg (by omega)]), rfl⟩

set_option maxHeartbeats 400000 in
theorem zag_any (u : Int) (w : World) (h0 : 0 ≤ u) (h1 : u ≤ 18446744073709551615) :
    Calls Try.prog 27 #[.int .u64 u] w fun e w' => e = .returned (.int .i64 (zagI u)) ∧ w' = w := by
  by_cases h : u % 2 = 0
  · go_enter Try.func27, Try.ntmps27
    go_wp2
    go_ret
    exact ⟨ret_int (by unfold zagI; rw [if_pos h]), rfl⟩
  · go_enter Try.func27, Try.ntmps27
    go_wp2
    go_ret
    exact ⟨ret_int (by unfold zagI; rw [if_neg (by omega)]), rfl⟩

set_option maxHeartbeats 400000 in
theorem zigs_walk (a0 : Int) (a1 : Int) (h0 : -9223372036854775808 ≤ a0) (h1 : a0 ≤ 9223372036854775807) (h2 : 0 ≤ a1) (h3 : a1 ≤ 18446744073709551615) (w : World) :
    Calls Try.prog 8 #[.int .i64 a0, .int .u64 a1] w fun e w' => e = .returned (.bool true) ∧ w' = w := by
  have b0 := zig_bd a0 h0 h1
  have b1 := zag_bd a1 h2 h3
  have e1 := zag_zig a0
  have e2 := zig_zag a1 h2
  have e3 : zigI (-1) = 1 := by decide
  go_enter Try.func8, Try.ntmps8
  go_wp2_with (first
    | (go_at_call 25; refine (zig_any _ _ (by omega) (by omega)).mono ?_; rintro e w' ⟨rfl, rfl⟩)
    | (go_at_call 26; refine (refzig_any _ _ (by omega) (by omega)).mono ?_; rintro e w' ⟨rfl, rfl⟩)
    | (go_at_call 27; refine (zag_any _ _ (by omega) (by omega)).mono ?_; rintro e w' ⟨rfl, rfl⟩))
  go_ret
  exact ⟨rfl, rfl⟩
end Go.Proofs.Ytmpbaabmpcejdaa
