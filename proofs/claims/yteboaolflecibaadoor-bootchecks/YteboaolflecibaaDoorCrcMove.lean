
import Derived.Test.YteboaolflecibaaDoorCrcWord
import Derived.Laws.BitsLemmas
namespace Go.Proofs.YteboaolflecibaaDoor
open Go.RowKit
set_option linter.unusedVariables false
set_option linter.unusedSimpArgs false

theorem i64_and1 (n : Int) : bits .and .i64 n 1 = n % 2 := by
  have h1 : (BitVec.ofInt 64 1).toNat = 2 ^ 1 - 1 := by decide
  have key : (BitVec.ofInt 64 n &&& BitVec.ofInt 64 1).toNat = (n % ((2 ^ 64 : Nat) : Int)).toNat % 2 ^ 1 := by
    rw [BitVec.toNat_and, BitVec.toNat_ofInt, h1, Nat.and_two_pow_sub_one_eq_mod]
  show IntKind.i64.wrap ((BitVec.ofInt 64 n &&& BitVec.ofInt 64 1).toNat : Nat) = n % 2
  rw [key, IntKind.wrap_i64]
  omega
theorem byte_on : (8388608 : Int) = wI (onN 8 oneW) := by decide
theorem sq (e : Nat) : act (onN e oneW) (onN e oneW) = onN (2 * e) oneW := by
  rw [act_pow', ← onN_add]
  congr 1
  omega

end Go.Proofs.YteboaolflecibaaDoor
