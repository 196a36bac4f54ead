import Derived.Test.YtnofaodahcfldaaCrcRef
namespace Go.Proofs.Ytnofaodahcfldaa
open Go.RowKit
set_option linter.unusedVariables false
set_option linter.unusedSimpArgs false

set_option maxHeartbeats 400000 in
theorem rjoin_any (a b : W32) (n : Int) (w : World) (h : 0 ≤ n) (h1 : n ≤ 9223372036854775807) : Calls Try.prog 5 #[.int .u32 (wI a), .int .u32 (wI b), .int .i64 n] w fun e w' => e = .returned (.tuple #[.int .u32 (wI (onN (8 * n.toNat) a ^^^ b)), .int .i64 0]) ∧ w' = w := by
  obtain ⟨m, rfl⟩ := Int.eq_ofNat_of_zero_le h
  have hn : decide ((m : Int) < 0) = false := by simp
  have HX : Hid (bits .xor .u32 (wI (act (onN (8 * m) oneW) a)) (wI b) = wI (onN (8 * m) a ^^^ b)) := by
    show _ = _
    rw [act_pow', wI_xor]
  rw [Int.toNat_natCast]
  go_enter Try.func5, Try.ntmps5
  go_wp2_with (first
    | (go_at_call 9; refine (power_any _ _ (by omega)).mono ?_; rintro e w' ⟨rfl, hw'⟩; subst w')
    | (go_at_call 8; refine (rtimes_any _ _ _).mono ?_; rintro e w' ⟨rfl, hw'⟩; subst w'))
  go_ret2
  exact ⟨by rw [HX.out]; rfl, rfl⟩
theorem rjoin_arg (a b : Int) (n : Int) (w : World) (h : n < 0) : Calls Try.prog 5 #[.int .u32 a, .int .u32 b, .int .i64 n] w fun e w' => e = .returned (.tuple #[.int .u32 0, .int .i64 1]) ∧ w' = w := by
  go_enter Try.func5, Try.ntmps5
  go_wp2
  go_ret2
  exact ⟨rfl, rfl⟩
theorem num_any (n : Int) (w : World) : Calls Try.prog 6 #[.int .i64 n] w fun e w' => e = .returned (.int .i64 n) ∧ w' = w := by
  go_enter Try.func6, Try.ntmps6
  go_wp2
  go_ret
  exact ⟨rfl, rfl⟩

set_option maxHeartbeats 400000 in
theorem crcJoins_walk (w : World) (a : Int) (h0 : 0 ≤ a) (h1 : a ≤ 4294967295) (b : Int) (h2 : 0 ≤ b) (h3 : b ≤ 4294967295) (n : Int) (h4 : -9223372036854775808 ≤ n) (h5 : n ≤ 9223372036854775807) :
    Calls Try.prog 3 #[.int .u32 a, .int .u32 b, .int .i64 n] w fun e w' => e = .returned (.bool true) ∧ Below w.heap.size w w' := by
  by_cases h : n < 0
  · go_enter Try.func3, Try.ntmps3
    go_wp2_with (first
      | (go_at_call 4; refine (join_arg _ _ _ _ h).mono ?_; rintro e w' ⟨rfl, hw'⟩; subst w')
      | (go_at_call 5; refine (rjoin_arg _ _ _ _ h).mono ?_; rintro e w' ⟨rfl, hw'⟩; subst w')
      | (go_at_call 6; refine (num_any _ _).mono ?_; rintro e w' ⟨rfl, hw'⟩; subst w'))
    go_ret
    exact ⟨rfl, Below.refl _ _⟩
  · obtain ⟨x, rfl⟩ := wI_of h0 (by omega)
    obtain ⟨y, rfl⟩ := wI_of h2 (by omega)
    have hn : 0 ≤ n := by omega
    go_enter Try.func3, Try.ntmps3
    go_wp2_with (first
      | (go_at_call 4; refine (join_any _ _ _ _ hn).mono ?_; rintro e w' ⟨rfl, hw'⟩; subst w')
      | (go_at_call 5; refine (rjoin_any _ _ _ _ hn h5).mono ?_; rintro e w' ⟨rfl, hw'⟩; subst w')
      | (go_at_call 6; refine (num_any _ _).mono ?_; rintro e w' ⟨rfl, hw'⟩; subst w'))
    go_ret
    exact ⟨rfl, Below.refl _ _⟩
end Go.Proofs.Ytnofaodahcfldaa
