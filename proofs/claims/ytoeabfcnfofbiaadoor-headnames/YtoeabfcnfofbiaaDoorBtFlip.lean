
import Derived.Test.YtoeabfcnfofbiaaDoorProg
import Derived.Test.YtoeabfcnfofbiaaDoorBtMath
import Derived.WalkKit
import Derived.WalkSpells
import Derived.WalkLawsBesides
import Derived.Laws.BitsAllLaws
namespace Go.Proofs.YtoeabfcnfofbiaaDoor
open Go.RowKit
set_option linter.unusedVariables false

theorem or_pow {r v c : Nat} (h : r < 2 ^ c) (h2 : v * 2 ^ c + r < 18446744073709551616) : bits .or .u64 (r : Int) ((v * 2 ^ c : Nat) : Int) = ((r + v * 2 ^ c : Nat) : Int) := by
  rw [u64_or_nat _ _ (by omega) (by omega), Nat.or_comm, Nat.mul_comm v, ← Nat.two_pow_add_eq_or_of_lt h, Nat.add_comm]
theorem or_two {o b : Nat} (h : b < 2) (h2 : o * 2 + b < 18446744073709551616) : bits .or .u64 ((o : Int) * 2) (b : Int) = ((b + 2 * o : Nat) : Int) := by
  have := or_pow (r := b) (v := o) (c := 1) (by omega) (by omega)
  rw [show ((o : Int) * 2) = ((o * 2 ^ 1 : Nat) : Int) by simp]
  rw [u64_or_nat _ _ (by omega) (by omega)] at this ⊢
  rw [Nat.or_comm, this]
  omega
theorem and_low (v n : Nat) (hn : n ≤ 64) (hv : v < 18446744073709551616) : bits .and .u64 (v : Int) ((2 ^ n - 1 : Nat) : Int) = ((v % 2 ^ n : Nat) : Int) := by
  have h1 : 2 ^ n ≤ 2 ^ 64 := Nat.pow_le_pow_right (by decide) hn
  rw [u64_and_nat _ _ hv (by omega), Nat.and_two_pow_sub_one_eq_mod]
theorem and_one' (v : Nat) (hv : v < 18446744073709551616) : bits .and .u64 (v : Int) 1 = ((v % 2 : Nat) : Int) := by
  have := and_low v 1 (by decide) hv
  simpa using this

theorem div_pow_lt {v k : Nat} (hv : v < 18446744073709551616) : v / 2 ^ k < 18446744073709551616 := Nat.lt_of_le_of_lt (Nat.div_le_self _ _) hv
theorem pow_le_64 {k : Nat} (h : k ≤ 64) : 2 ^ k ≤ 18446744073709551616 := Nat.pow_le_pow_right (n := 2) (j := 64) (by decide) h
theorem pow_le_63 {k : Nat} (h : k ≤ 63) : 2 ^ k ≤ 9223372036854775808 := Nat.pow_le_pow_right (n := 2) (j := 63) (by decide) h
theorem rev_lt (v i : Nat) : num (bN v i).reverse < 2 ^ i := by
  have := num_lt (bN v i).reverse
  rwa [rev_len] at this

theorem ret_u64 {a b : Int} (h : a = b) : Ending.returned (.int .u64 a) = .returned (.int .u64 b) := by rw [h]
/-- How many bits a Flip turns. -/
def cnt (n : Int) : Nat := (min n 64).toNat
def flipN (v : Nat) (n : Int) : Nat := num (bN v (cnt n)).reverse
theorem cnt_le (n : Int) : cnt n ≤ 64 := by unfold cnt; omega
theorem flip_lt (v : Nat) (n : Int) : flipN v n < 2 ^ cnt n := rev_lt _ _

set_option maxRecDepth 100000 in
set_option maxHeartbeats 1000000 in
theorem flip_any (v : Nat) (n : Int) (w : World) (hv : v < 18446744073709551616) (hn0 : -9223372036854775808 ≤ n) (hn1 : n ≤ 9223372036854775807) :
    Calls Tryd.prog 95 #[.int .u64 (v : Int), .int .i64 n] w fun e w' => e = .returned (.int .u64 (flipN v n)) ∧ w' = w := by
  have hm : cnt n = (min n 64).toNat := rfl
  have hf : Hid (flipN v n = num (bN v (cnt n)).reverse) := rfl
  have hc := cnt_le n
  generalize flipN v n = f at *
  generalize cnt n = c at *
  rcases Int.lt_or_le 64 n with h | h
  · have hc64 : c = 64 := by omega
    clear hm
    go_enter Tryd.func95, Tryd.ntmps95
    go_wp2
    go_loopw [0, 5, 8] (fun tv to ti wr => ∃ i u o : Nat, i ≤ c ∧ tv = .int .u64 (u : Int) ∧ to = .int .u64 (o : Int) ∧ ti = .int .i64 (i : Int) ∧ Hid (u = v / 2 ^ i) ∧ Hid (o = num (bN v i).reverse) ∧ wr = w) (fun _ _ ti _ => c - (intOf ti).toNat)
    case atStart => exact ⟨0, v, 0, Nat.zero_le _, rfl, rfl, rfl, (by show _ = _; simp), rfl, rfl⟩
    case round =>
      obtain ⟨i, u, o, hi, rfl, rfl, rfl, hu, ho, rfl⟩ := hrel
      have hu2 : u < 18446744073709551616 := by rw [hu.out]; exact div_pow_lt hv
      by_cases hlt : i < c
      · have ho2 : o < 9223372036854775808 := by
          have h1 := rev_lt v i
          have h2 := pow_le_63 (k := i) (by omega)
          rw [ho.out]; omega
        have HN : Hid (u % 2 + 2 * o = num (bN v (i + 1)).reverse) := by show _ = _; rw [rev_succ, hu.out, ho.out]
        have HU : Hid (u / 2 = v / 2 ^ (i + 1)) := by show _ = _; rw [hu.out, Nat.div_div_eq_div_mul, Nat.pow_succ]
        have ha := and_one' u hu2
        have hor := or_two (o := o) (b := u % 2) (by omega) (by omega)
        have hb2 : u % 2 < 2 := by omega
        generalize u % 2 = b at *
        generalize b + 2 * o = x at *
        have hlt2 : (i : Int) < 64 := by omega
        go_wp2
        go_roundw
        case rel => exact ⟨i + 1, u / 2, x, by omega, by go_num, rfl, by go_num, HU, HN, trivial⟩
        case measure => simp [intOf]; omega
      · have hic : i = c := by omega
        have hge : 64 ≤ (i : Int) := by omega
        have HIC : Hid (i = c) := hic
        clear hic hlt hi hc64
        go_wp2
        go_ret
        exact ⟨by rw [hf.out, ho.out, HIC.out]; rfl, rfl⟩
  · have hcn : (c : Int) = n ∨ n < 0 ∧ c = 0 := by omega
    clear hm
    go_enter Tryd.func95, Tryd.ntmps95
    go_wp2
    go_loopw [0, 5, 8] (fun tv to ti wr => ∃ i u o : Nat, i ≤ c ∧ tv = .int .u64 (u : Int) ∧ to = .int .u64 (o : Int) ∧ ti = .int .i64 (i : Int) ∧ Hid (u = v / 2 ^ i) ∧ Hid (o = num (bN v i).reverse) ∧ wr = w) (fun _ _ ti _ => c - (intOf ti).toNat)
    case atStart => exact ⟨0, v, 0, Nat.zero_le _, rfl, rfl, rfl, (by show _ = _; simp), rfl, rfl⟩
    case round =>
      obtain ⟨i, u, o, hi, rfl, rfl, rfl, hu, ho, rfl⟩ := hrel
      have hu2 : u < 18446744073709551616 := by rw [hu.out]; exact div_pow_lt hv
      by_cases hlt : i < c
      · have ho2 : o < 9223372036854775808 := by
          have h1 := rev_lt v i
          have h2 := pow_le_63 (k := i) (by omega)
          rw [ho.out]; omega
        have HN : Hid (u % 2 + 2 * o = num (bN v (i + 1)).reverse) := by show _ = _; rw [rev_succ, hu.out, ho.out]
        have HU : Hid (u / 2 = v / 2 ^ (i + 1)) := by show _ = _; rw [hu.out, Nat.div_div_eq_div_mul, Nat.pow_succ]
        have ha := and_one' u hu2
        have hor := or_two (o := o) (b := u % 2) (by omega) (by omega)
        have hb2 : u % 2 < 2 := by omega
        generalize u % 2 = b at *
        generalize b + 2 * o = x at *
        have hlt2 : (i : Int) < n := by omega
        go_wp2
        go_roundw
        case rel => exact ⟨i + 1, u / 2, x, by omega, by go_num, rfl, by go_num, HU, HN, trivial⟩
        case measure => simp [intOf]; omega
      · have hic : i = c := by omega
        have hge : n ≤ (i : Int) := by omega
        have HIC : Hid (i = c) := hic
        clear hic hlt hi hcn
        go_wp2
        go_ret
        exact ⟨by rw [hf.out, ho.out, HIC.out]; rfl, rfl⟩
end Go.Proofs.YtoeabfcnfofbiaaDoor
