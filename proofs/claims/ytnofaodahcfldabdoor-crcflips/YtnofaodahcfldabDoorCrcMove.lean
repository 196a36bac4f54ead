import Derived.Test.YtnofaodahcfldabDoorCrcWord
import Derived.Laws.BitsLemmas
namespace Go.Proofs.YtnofaodahcfldabDoor
open Go.RowKit
set_option linter.unusedVariables false
set_option linter.unusedSimpArgs false

theorem i64_and1 (n : Int) : bits .and .i64 n 1 = n % 2 := by
  have h1 : (BitVec.ofInt 64 1).toNat = 2 ^ 1 - 1 := by decide
  have key : (BitVec.ofInt 64 n &&& BitVec.ofInt 64 1).toNat = (n % ((2 ^ 64 : Nat) : Int)).toNat % 2 ^ 1 := by
    rw [BitVec.toNat_and, BitVec.toNat_ofInt, h1, Nat.and_two_pow_sub_one_eq_mod]
  show IntKind.i64.wrap ((BitVec.ofInt 64 n &&& BitVec.ofInt 64 1).toNat : Nat) = n % 2
  rw [key, IntKind.wrap_i64]
  omega
theorem byte_on : (8388608 : Int) = wI (onN 8 oneW) := by decide
theorem sq (e : Nat) : act (onN e oneW) (onN e oneW) = onN (2 * e) oneW := by
  rw [act_pow', ← onN_add]
  congr 1
  omega

set_option maxHeartbeats 1000000 in
theorem moved_any (a : W32) (n : Nat) (w : World) : Calls Tryd.prog 20 #[.int .u32 (wI a), .int .i64 n] w fun e w' => e = .returned (.int .u32 (wI (onN (8 * n) a))) ∧ w' = w := by
  go_enter Tryd.func20, Tryd.ntmps20
  go_wp2
  go_loopw [0, 1, 5] (fun tw tn ts wr => ∃ f e m : Nat, tw = .int .u32 (wI (onN f a)) ∧ tn = .int .i64 m ∧ ts = .int .u32 (wI (onN e oneW)) ∧ e * m + f = 8 * n ∧ wr = w) (fun _ tn _ _ => (intOf tn).toNat)
  case atStart => exact ⟨0, 8, n, rfl, rfl, by rw [← byte_on], rfl, rfl⟩
  case round =>
    obtain ⟨f, e, m, rfl, rfl, rfl, he, rfl⟩ := hrel
    by_cases hm : 0 < m
    · have hm' : (0 : Int) < m := by omega
      have hc : (bits .and .i64 (m : Int) 1 != 0) = decide (m % 2 = 1) := by
        rw [i64_and1, Bool.eq_iff_iff, bne_iff_ne, decide_eq_true_iff]
        omega
      have HS : Hid (act (onN e oneW) (onN e oneW) = onN (2 * e) oneW) := sq e
      have HP : Hid (act (onN f a) (onN e oneW) = onN (e + f) a) := by
        show _ = _
        rw [act_pow, ← onN_add]
      by_cases ho : m % 2 = 1
      · rw [decide_eq_true ho] at hc
        have HE : Hid (2 * e * (m / 2) + (e + f) = 8 * n) := by
          show _ = _
          rw [← he]
          obtain ⟨q, hq⟩ : ∃ q, m = 2 * q + 1 := ⟨m / 2, by omega⟩
          subst hq
          rw [show (2 * q + 1) / 2 = q by omega, Nat.mul_add, Nat.mul_comm 2 e, Nat.mul_assoc]
          omega
        clear he
        go_wp2_with (go_at_call 21; refine (times_any _ _ _).mono ?_; rintro e w' ⟨rfl, hw'⟩; subst w')
        go_roundw
        case rel => exact ⟨e + f, 2 * e, m / 2, by rw [HP.out], by simp, by rw [HS.out], HE.out, trivial⟩
        case measure => simp [intOf]; omega
      · rw [decide_eq_false ho] at hc
        have HE : Hid (2 * e * (m / 2) + f = 8 * n) := by
          show _ = _
          rw [← he]
          obtain ⟨q, hq⟩ : ∃ q, m = 2 * q := ⟨m / 2, by omega⟩
          subst hq
          rw [show (2 * q) / 2 = q by omega, Nat.mul_comm 2 e, Nat.mul_assoc]
        clear he
        go_wp2_with (go_at_call 21; refine (times_any _ _ _).mono ?_; rintro e w' ⟨rfl, hw'⟩; subst w')
        go_roundw
        case rel => exact ⟨f, 2 * e, m / 2, rfl, by simp, by rw [HS.out], HE.out, trivial⟩
        case measure => simp [intOf]; omega
    · obtain rfl : m = 0 := by omega
      obtain rfl : f = 8 * n := by simpa using he
      clear hm he
      go_wp2
      go_ret
      exact ⟨rfl, rfl⟩

end Go.Proofs.YtnofaodahcfldabDoor
