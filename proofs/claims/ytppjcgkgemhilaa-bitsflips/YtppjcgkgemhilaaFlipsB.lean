import Derived.Test.YtppjcgkgemhilaaBtRflip
import Derived.Deep.RegionHeld3
import Derived.Deep.QuietTactic
import Derived.BigQuiet
namespace Go.Proofs.Ytppjcgkgemhilaa
open Go.RowKit
set_option linter.unusedVariables false

theorem flip_flip (v : Nat) (n : Int) : flipN (flipN v n) n = v % 2 ^ cnt n := by
  unfold flipN
  rw [bN_num' (rev_len _ _), List.reverse_reverse, num_bN]
theorem flip_lt64 (v : Nat) (n : Int) : flipN v n < 18446744073709551616 := Nat.lt_of_lt_of_le (flip_lt v n) (pow_le_64 (cnt_le n))
theorem flip63 : flipN 6 3 = 3 := by decide

set_option maxHeartbeats 1000000 in
theorem bitsFlips_walk (w : World) (x : Int) (hx0 : 0 ≤ x) (hx1 : x ≤ 18446744073709551615) (n : Int) (hn0 : -9223372036854775808 ≤ n) (hn1 : n ≤ 9223372036854775807) :
    Calls Try.prog 6 #[.int .u64 x, .int .i64 n] w fun e w' => e = .returned (.bool true) ∧ Below w.heap.size w w' := by
  obtain ⟨v, rfl⟩ : ∃ v : Nat, x = v := ⟨x.toNat, by omega⟩
  have hv : v < 18446744073709551616 := by omega
  have HF : Hid (flipN (flipN v n) n = v % 2 ^ cnt n) := flip_flip v n
  have C1 : Hid (∀ W, Calls Try.prog 12 #[.int .u64 (v : Int), .int .i64 n] W fun e w' => e = .returned (.int .u64 (flipN v n)) ∧ w' = W) := fun W => flip_any v n W hv hn0 hn1
  have C2 : Hid (∀ W, Calls Try.prog 13 #[.int .u64 (v : Int), .int .i64 n] W fun e w' => e = .returned (.int .u64 (flipN v n)) ∧ w' = W) := fun W => rflip_any v n W hv hn0 hn1
  have C3 : Hid (∀ W, Calls Try.prog 12 #[.int .u64 (6 : Int), .int .i64 3] W fun e w' => e = .returned (.int .u64 3) ∧ w' = W) := fun W => by have := flip_any 6 3 W (by decide) (by decide) (by decide); rw [flip63] at this; exact this
  have C4 : Hid (∀ W, Calls Try.prog 12 #[.int .u64 (flipN v n : Int), .int .i64 n] W fun e w' => e = .returned (.int .u64 (v % 2 ^ cnt n : Nat)) ∧ w' = W) := fun W => by rw [← HF.out]; exact flip_any _ n W (flip_lt64 v n) hn0 hn1
  have hf := flip_lt64 v n
  have HM : Hid (cnt n = (min n 64).toNat) := rfl
  have hneg : n < 0 → flipN v n = 0 := by
    intro h
    unfold flipN
    rw [show cnt n = 0 by rw [HM.out]; omega]
    rfl
  clear HF
  generalize flipN v n = f at *
  go_enter Try.func6, Try.ntmps6
  go_wp2_with fail
  refine (C1.out _).mono ?_
  rintro e w1 ⟨rfl, hw1⟩
  subst w1
  go_wp2_with fail
  refine (C2.out _).mono ?_
  rintro e w1 ⟨rfl, hw1⟩
  subst w1
  go_wp2_with fail
  refine (C3.out _).mono ?_
  rintro e w1 ⟨rfl, hw1⟩
  subst w1
  rcases Int.lt_or_le n 0 with h | h
  · have hf0 := hneg h
    subst hf0
    go_wp2
    go_ret
    exact ⟨rfl, Below.refl _ _⟩
  · clear hneg
    rcases Int.lt_or_le n 64 with h2 | h2
    · obtain ⟨k, rfl⟩ : ∃ k : Nat, n = k := ⟨n.toNat, by omega⟩
      have hk : cnt (k : Int) = k := by rw [HM.out]; omega
      have HA : bits .and .u64 (v : Int) (IntKind.u64.wrap (IntKind.u64.wrap (2 ^ k) - 1)) = ((v % 2 ^ k : Nat) : Int) := by rw [wrap_mask (by omega), and_low v k (by omega) hv]
      rw [hk] at C4
      clear HM hk
      generalize v % 2 ^ k = m at *
      go_wp2_with fail
      go_region_held3 (fun _ => True) (trivial) (first | (go_at_call 12; refine (C4.out _).mono ?_; rintro e w1 ⟨rfl, hw1⟩; subst w1))
      go_wp2
      go_ret
      exact ⟨rfl, (Below.refl _ _).drew⟩
    · have hk : cnt n = 64 := by rw [HM.out]; omega
      rw [hk, Nat.mod_eq_of_lt (by omega)] at C4
      go_wp2_with fail
      refine (C4.out _).mono ?_
      rintro e w1 ⟨rfl, hw1⟩
      subst w1
      go_wp2
      go_ret
      exact ⟨rfl, Below.refl _ _⟩
end Go.Proofs.Ytppjcgkgemhilaa
