import Derived.Test.YtnofaodahcfldacDoorCrcZero
import Derived.Test.YtnofaodahcfldacDoorCrcAwake
namespace Go.Proofs.YtnofaodahcfldacDoor
open Go.RowKit
set_option linter.unusedVariables false
set_option linter.unusedSimpArgs false

theorem zeros_zeros (c : W32) (m n : Nat) : ~~~ (onN (8 * n) (~~~ (~~~ (onN (8 * m) (~~~ c))))) = ~~~ (onN (8 * (m + n)) (~~~ c)) := by
  rw [not_not, ← onN_add]
  congr 2
  omega

set_option maxHeartbeats 1000000 in
theorem crcAdds_walk (w : World) (ht : Tab w) (c : Int) (h0 : 0 ≤ c) (h1 : c ≤ 4294967295) (m : Int) (h2 : -9223372036854775808 ≤ m) (h3 : m ≤ 9223372036854775807) (n : Int) (h4 : -9223372036854775808 ≤ n) (h5 : n ≤ 9223372036854775807) :
    Calls Tryd.prog 3 #[.int .u32 c, .int .i64 m, .int .i64 n] w fun e w' => e = .returned (.bool true) ∧ Below w.heap.size w w' := by
  by_cases hm : m < 0
  · go_enter Tryd.func3, Tryd.ntmps3
    go_wp2_with (go_at_call 5; refine (awake_any _ ht).mono ?_; rintro e w1 ⟨rfl, hb⟩)
    go_ret
    exact ⟨rfl, hb⟩
  · have hm' : decide (m < 0) = false := by simp; omega
    by_cases hn : n < 0
    · go_enter Tryd.func3, Tryd.ntmps3
      go_wp2_with (go_at_call 5; refine (awake_any _ ht).mono ?_; rintro e w1 ⟨rfl, hb⟩)
      go_ret
      exact ⟨rfl, hb⟩
    · have hn' : decide (n < 0) = false := by simp; omega
      by_cases hs : 9223372036854775807 - n < m
      · go_enter Tryd.func3, Tryd.ntmps3
        go_wp2_with (go_at_call 5; refine (awake_any _ ht).mono ?_; rintro e w1 ⟨rfl, hb⟩)
        go_ret
        exact ⟨rfl, hb⟩
      · obtain ⟨x, rfl⟩ := wI_of h0 (by omega)
        obtain ⟨M, rfl⟩ := Int.eq_ofNat_of_zero_le (show 0 ≤ m by omega)
        obtain ⟨N, rfl⟩ := Int.eq_ofNat_of_zero_le (show 0 ≤ n by omega)
        have hs' : decide ((9223372036854775807 : Int) - (N : Int) < M) = false := by simp; omega
        have hz := zeros_any x (M + N)
        rw [Int.natCast_add] at hz
        have HZ : Hid (~~~ (onN (8 * N) (~~~ (~~~ (onN (8 * M) (~~~ x))))) = ~~~ (onN (8 * (M + N)) (~~~ x))) := zeros_zeros x M N
        go_enter Tryd.func3, Tryd.ntmps3
        go_wp2_with fail
        refine (awake_any _ ht).mono ?_
        rintro e w1 ⟨rfl, hb⟩
        go_wp2_with fail
        refine (zeros_any x M _).mono ?_
        rintro e w' ⟨rfl, hw'⟩
        subst w'
        go_wp2_with fail
        refine (zeros_any _ N _).mono ?_
        rintro e w' ⟨rfl, hw'⟩
        subst w'
        rw [HZ.out]
        go_wp2_with fail
        refine (hz _).mono ?_
        rintro e w' ⟨rfl, hw'⟩
        subst w'
        go_wp2
        go_ret
        exact ⟨by simp, hb⟩
end Go.Proofs.YtnofaodahcfldacDoor
