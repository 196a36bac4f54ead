import Derived.Test.YtnofaodahcfldaaDoorCrcZero
import Derived.Test.YtnofaodahcfldaaDoorCrcRef
import Derived.Test.YtnofaodahcfldaaDoorCrcMake
import Derived.Test.YtnofaodahcfldaaDoorCrcNamesW
namespace Go.Proofs.YtnofaodahcfldaaDoor
open Go.RowKit
set_option linter.unusedVariables false
set_option linter.unusedSimpArgs false

set_option maxHeartbeats 400000 in
theorem rzeros_any (c : W32) (n : Nat) (w : World) (h : n ≤ 9223372036854775807) : Calls Tryd.prog 18 #[.int .u32 (wI c), .int .i64 n] w fun e w' => e = .returned (.tuple #[.int .u32 (wI (~~~ (onN (8 * n) (~~~ c)))), .int .i64 0]) ∧ w' = w := by
  have hsg := u32_unsigned
  have hn := wI_not c
  have hn2 := wI_not (onN (8 * n) (~~~ c))
  have hneg : decide ((n : Int) < 0) = false := by simp
  go_enter Tryd.func18, Tryd.ntmps18
  go_wp2_with (first
    | (go_at_call 25; refine (power_any _ _ (by omega)).mono ?_; rintro e w' ⟨rfl, hw'⟩; subst w')
    | (go_at_call 24; refine (rtimes_any _ _ _).mono ?_; rintro e w' ⟨rfl, hw'⟩; subst w'; rw [act_pow']))
  go_ret2
  exact ⟨rfl, rfl⟩
theorem rzeros_arg (c n : Int) (w : World) (h : n < 0) : Calls Tryd.prog 18 #[.int .u32 c, .int .i64 n] w fun e w' => e = .returned (.tuple #[.int .u32 0, .int .i64 1]) ∧ w' = w := by
  go_enter Tryd.func18, Tryd.ntmps18
  go_wp2
  go_ret2
  exact ⟨rfl, rfl⟩

set_option maxHeartbeats 1000000 in
theorem crcZeros_walk (w : World) (ht : Tab w) (c : Int) (h0 : 0 ≤ c) (h1 : c ≤ 4294967295) (n : Int) (h2 : -9223372036854775808 ≤ n) (h3 : n ≤ 9223372036854775807) :
    Calls Tryd.prog 6 #[.int .u32 c, .int .i64 n] w fun e w' => e = .returned (.bool true) ∧ Below w.heap.size w w' := by
  by_cases h : n < 0
  · go_enter Tryd.func6, Tryd.ntmps6
    go_wp2_with (first
      | (go_at_call 17; refine (zeros_arg _ _ _ h).mono ?_; rintro e w' ⟨rfl, hw'⟩; subst w')
      | (go_at_call 18; refine (rzeros_arg _ _ _ h).mono ?_; rintro e w' ⟨rfl, hw'⟩; subst w')
      | (go_at_call 8; refine (num_any _ _).mono ?_; rintro e w' ⟨rfl, hw'⟩; subst w'))
    go_ret
    exact ⟨rfl, Below.refl _ _⟩
  · obtain ⟨x, rfl⟩ := wI_of h0 (by omega)
    obtain ⟨m, rfl⟩ := Int.eq_ofNat_of_zero_le (show 0 ≤ n by omega)
    have hneg : decide ((m : Int) < 0) = false := by simp
    by_cases h5 : (5000 : Int) < m
    · go_enter Tryd.func6, Tryd.ntmps6
      go_wp2_with (first
        | (go_at_call 17; refine (zeros_any _ _ _).mono ?_; rintro e w' ⟨rfl, hw'⟩; subst w')
        | (go_at_call 18; refine (rzeros_any _ _ _ (by omega)).mono ?_; rintro e w' ⟨rfl, hw'⟩; subst w')
        | (go_at_call 8; refine (num_any _ _).mono ?_; rintro e w' ⟨rfl, hw'⟩; subst w'))
      go_ret
      exact ⟨rfl, Below.refl _ _⟩
    · have h5' : decide ((5000 : Int) < m) = false := by simp; omega
      have hmk := run_make_zeros m (by omega) w
      have hsg := seg_lit w (List.replicate m 0) 5 (0, 0) (zeros_bd m)
      have hrz := runW_zeros (~~~ x) m
      have hlen : (List.replicate m (0 : Int)).length = m := by simp
      have hmore := more_any x _ _ m _ (ht.alloc _) hsg (by rw [hlen]; omega)
      rw [hlen, hrz] at hmore
      clear hrz hlen hsg
      generalize ((List.replicate m (0 : Int)).map (Value.int .u8)).toArray = C at hmk hmore
      go_enter Tryd.func6, Tryd.ntmps6
      go_wp2_with (first
        | (go_at_call 17; refine (zeros_any _ _ _).mono ?_; rintro e w' ⟨rfl, hw'⟩; subst w')
        | (go_at_call 18; refine (rzeros_any _ _ _ (by omega)).mono ?_; rintro e w' ⟨rfl, hw'⟩; subst w')
        | (go_at_call 8; refine (num_any _ _).mono ?_; rintro e w' ⟨rfl, hw'⟩; subst w')
        | (go_at_call 14; refine hmore.mono ?_; rintro e w' ⟨rfl, hw'⟩; subst w'))
      go_ret
      exact ⟨by simp, (Below.refl _ _).alloc (Nat.le_refl _) _⟩
end Go.Proofs.YtnofaodahcfldaaDoor
