
import Derived.Test.YtoeabfcnfofbiaaDoorBtFlip
import Derived.Laws.ShiftsVarLaws
namespace Go.Proofs.YtoeabfcnfofbiaaDoor
open Go.RowKit
set_option linter.unusedVariables false

theorem shr_nat (v k : Nat) : (v : Int) / 2 ^ k = ((v / 2 ^ k : Nat) : Int) := by simp
theorem shr_ne {v k : Nat} (h : ¬ v < 2 ^ k) : 0 < v / 2 ^ k := Nat.div_pos (by omega) (Nat.two_pow_pos k)
set_option maxRecDepth 100000 in
set_option maxHeartbeats 400000 in
theorem refuse_ok (v k : Nat) (w : World) (hv : v < 2 ^ k) (hk : k ≤ 56) :
    Calls Tryd.prog 42 #[.int .u64 (v : Int), .int .i64 (k : Int)] w fun e w' => e = .returned (.int .i64 0) ∧ w' = w := by
  have hs : (v : Int) / 2 ^ k = 0 := by rw [shr_nat, Nat.div_eq_of_lt hv]; rfl
  have hp := pow_le_63 (k := k) (by omega)
  have hv2 : v < 18446744073709551616 := by omega
  clear hv hp
  go_enter Tryd.func42, Tryd.ntmps42
  go_wp2
  go_ret
  exact ⟨rfl, rfl⟩
set_option maxRecDepth 100000 in
set_option maxHeartbeats 400000 in
theorem refuse_value (v k : Nat) (w : World) (hv : ¬ v < 2 ^ k) (hk : k ≤ 56) (hv2 : v < 18446744073709551616) :
    Calls Tryd.prog 42 #[.int .u64 (v : Int), .int .i64 (k : Int)] w fun e w' => e = .returned (.int .i64 31) ∧ w' = w := by
  have hs := shr_nat v k
  have hp := shr_ne hv
  generalize v / 2 ^ k = q at *
  clear hv
  have hq : ((q : Int) != 0) = true := by rw [bne_iff_ne]; omega
  go_enter Tryd.func42, Tryd.ntmps42
  go_wp2
  go_ret
  exact ⟨rfl, rfl⟩
set_option maxRecDepth 100000 in
set_option maxHeartbeats 400000 in
theorem refuse_count (v : Nat) (n : Int) (w : World) (hn : n < 0 ∨ 56 < n) :
    Calls Tryd.prog 42 #[.int .u64 (v : Int), .int .i64 n] w fun e w' => e = .returned (.int .i64 30) ∧ w' = w := by
  rcases hn with hn | hn
  · go_enter Tryd.func42, Tryd.ntmps42
    go_wp2
    go_ret
    exact ⟨rfl, rfl⟩
  · have h0 : 0 ≤ n := by omega
    go_enter Tryd.func42, Tryd.ntmps42
    go_wp2
    go_ret
    exact ⟨rfl, rfl⟩

/-- What is refused. -/
def errW (v : Nat) (n : Int) : Int := if n < 0 ∨ 56 < n then 30 else if v < 2 ^ n.toNat then 0 else 31
theorem errW_ok {v k : Nat} (hv : v < 2 ^ k) (hk : k ≤ 56) : errW v k = 0 := by
  unfold errW
  rw [if_neg (by omega), if_pos (by simpa using hv)]
theorem errW_cases (v : Nat) (n : Int) : (errW v n = 30 ∧ (n < 0 ∨ 56 < n)) ∨ (∃ k : Nat, n = k ∧ k ≤ 56 ∧ ((errW v n = 0 ∧ v < 2 ^ k) ∨ (errW v n = 31 ∧ ¬ v < 2 ^ k))) := by
  unfold errW
  by_cases h : n < 0 ∨ 56 < n
  · exact .inl ⟨if_pos h, h⟩
  · right
    refine ⟨n.toNat, by omega, by omega, ?_⟩
    rw [if_neg h]
    by_cases h2 : v < 2 ^ n.toNat
    · exact .inl ⟨if_pos h2, h2⟩
    · exact .inr ⟨if_neg h2, h2⟩

theorem wrap_pow {k : Nat} (hk : k < 64) : IntKind.u64.wrap (2 ^ k) = ((2 ^ k : Nat) : Int) := by
  have h1 := pow_le_63 (k := k) (by omega)
  rw [show (2 : Int) ^ k = ((2 ^ k : Nat) : Int) by simp]
  generalize 2 ^ k = p at *
  rw [IntWalk.u64_in _ ⟨by omega, by omega⟩]
theorem wrap_mask {k : Nat} (hk : k ≤ 64) : IntKind.u64.wrap (IntKind.u64.wrap (2 ^ k) - 1) = ((2 ^ k - 1 : Nat) : Int) := by
  by_cases h : k = 64
  · subst h; decide
  · have h1 := pow_le_63 (k := k) (by omega)
    have h2 := Nat.two_pow_pos k
    rw [wrap_pow (by omega), IntWalk.u64_in _ ⟨by omega, by omega⟩]
    omega
set_option maxRecDepth 100000 in
/-- The n low bits. -/
theorem low_any (v k : Nat) (w : World) (hv : v < 18446744073709551616) (hk : k ≤ 64) :
    Calls Tryd.prog 113 #[.int .u64 (v : Int), .int .i64 (k : Int)] w fun e w' => e = .returned (.int .u64 ((v % 2 ^ k : Nat) : Int)) ∧ w' = w := by
  have HA : Hid (bits .and .u64 (v : Int) (IntKind.u64.wrap (IntKind.u64.wrap (2 ^ k) - 1)) = ((v % 2 ^ k : Nat) : Int)) := by show _ = _; rw [wrap_mask hk, and_low v k hk hv]
  go_enter Tryd.func113, Tryd.ntmps113
  go_wp2
  go_ret
  exact ⟨by rw [← HA.out]; rfl, rfl⟩

theorem add_bit {o i : Nat} (ho : o < 2 ^ i) (hi : i < 64) : IntKind.u64.wrap ((o : Int) + IntKind.u64.wrap (2 ^ i)) = ((o + 2 ^ i : Nat) : Int) := by
  have h1 := pow_le_63 (k := i) (by omega)
  rw [wrap_pow hi, IntWalk.u64_in _ ⟨by omega, by omega⟩]
  omega
theorem bit_eq (v j : Nat) : (((v / 2 ^ j % 2 : Nat) : Int) == 1) = v.testBit j := by
  have h := bit0 (v / 2 ^ j)
  rw [Nat.testBit_div_two_pow, Nat.zero_add] at h
  rw [← h]
  cases v.testBit j <;> rfl

end Go.Proofs.YtoeabfcnfofbiaaDoor
