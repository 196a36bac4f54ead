
import Derived.Laws.BitsAllLaws
import Derived.WalkKit
namespace Go.Proofs.YteboaolflecibaaDoor
open Go.RowKit
set_option linter.unusedVariables false

theorem pow128 (c : Nat) : (128 : Int) ^ c = 2 ^ (7 * c) := by
  rw [Int.pow_mul]; rfl
theorem pow128_pos (c : Nat) : (0 : Int) < 128 ^ c := Int.pow_pos (by decide)
theorem pow128_mono {a b : Nat} (h : a ≤ b) : (128 : Int) ^ a ≤ 128 ^ b := by
  have := Nat.pow_le_pow_right (n := 128) (by decide) h
  have e : ∀ k : Nat, (128 : Int) ^ k = ((128 ^ k : Nat) : Int) := fun k => by simp
  rw [e, e]; omega
theorem pow128_8 : (128 : Int) ^ 8 = 72057594037927936 := by decide
theorem pow128_9 : (128 : Int) ^ 9 = 9223372036854775808 := by decide

theorem and127 (x : Int) (h0 : 0 ≤ x) (h1 : x ≤ 255) : bits .and .u8 x 127 = x % 128 := by
  rw [u8_and x 127 h0 (by omega) (by decide) (by decide)]
  have : Int.toNat 127 = 127 := rfl
  rw [this, nat_mask7]
  omega
theorem and128 (x : Int) (h0 : 0 ≤ x) (h1 : x ≤ 255) : bits .and .u8 x 128 = if 128 ≤ x then 128 else 0 := by
  rw [u8_and x 128 h0 (by omega) (by decide) (by decide)]
  have : Int.toNat 128 = 2 ^ 7 := rfl
  rw [this, nat_bit]
  split <;> omega

/-- The number that a byte's seven bits make a greater one. -/
def tkVal (v : Int) (c : Nat) (x : Int) : Int := v + x % 128 * 128 ^ c

theorem tk_fits (c : Nat) (x : Int) (hc : c ≤ 9) (h0 : 0 ≤ x) (h9 : c = 9 → x ≤ 1) : 0 ≤ x % 128 * 128 ^ c ∧ x % 128 * 128 ^ c + 128 ^ c ≤ 18446744073709551616 := by
  have hp := pow128_pos c
  have hm : 0 ≤ x % 128 := by omega
  refine ⟨Int.mul_nonneg hm (Int.le_of_lt hp), ?_⟩
  by_cases e : c = 9
  · subst e
    have := h9 rfl
    rw [pow128_9]
    omega
  · have h8 : (128 : Int) ^ c ≤ 128 ^ 8 := pow128_mono (by omega)
    rw [pow128_8] at h8
    have h2 : x % 128 * 128 ^ c ≤ 127 * 128 ^ c := Int.mul_le_mul_of_nonneg_right (by omega) (Int.le_of_lt hp)
    omega

theorem tk_or (v : Int) (c : Nat) (x : Int) (hv : 0 ≤ v) (hv1 : v < 128 ^ c) (hc : c ≤ 9) (h0 : 0 ≤ x) (h1 : x ≤ 255) (h9 : c = 9 → x ≤ 1) :
    bits .or .u64 v (IntKind.u64.wrap (IntKind.u64.wrap (bits .and .u8 x 127) * 2 ^ (7 * c))) = tkVal v c x := by
  have hf := tk_fits c x hc h0 h9
  have hp := pow128_pos c
  have e1 : IntKind.u64.wrap (bits .and .u8 x 127) = x % 128 := by
    rw [and127 x h0 h1, IntKind.wrap_u64]; exact Int.emod_eq_of_lt (by omega) (by omega)
  have e2 : IntKind.u64.wrap (x % 128 * 128 ^ c) = x % 128 * 128 ^ c := by
    rw [IntKind.wrap_u64]; exact Int.emod_eq_of_lt hf.1 (by omega)
  rw [e1, ← pow128, e2]
  unfold tkVal
  generalize hy : x % 128 * 128 ^ c = y at *
  have hd : y % 128 ^ c = 0 := by rw [← hy]; exact Int.mul_emod_left _ _
  have hc2 : ((128 : Int) ^ c) = ((2 ^ (7 * c) : Nat) : Int) := by rw [pow128]; simp
  rw [hc2] at hd hv1 hf
  obtain ⟨V, rfl⟩ := Int.eq_ofNat_of_zero_le hv
  obtain ⟨Y, rfl⟩ := Int.eq_ofNat_of_zero_le hf.1
  rw [u64_or_nat V Y (by omega) (by omega), Nat.or_comm, nat_join (7 * c) Y V (by omega) (by omega)]
  omega
end Go.Proofs.YteboaolflecibaaDoor
