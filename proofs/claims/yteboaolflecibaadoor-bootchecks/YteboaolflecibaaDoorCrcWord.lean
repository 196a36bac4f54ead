import Derived.Test.YteboaolflecibaaDoorProg
import Derived.Test.YteboaolflecibaaDoorCrcMath
import Derived.Test.YteboaolflecibaaDoorCrcAct
import Derived.WalkKit
import Derived.WalkSpells
import Derived.WalkLawsBesides
namespace Go.Proofs.YteboaolflecibaaDoor
open Go.RowKit
set_option linter.unusedVariables false
set_option linter.unusedSimpArgs false
/-- A word as the model's number. -/
def wI (a : W32) : Int := (a.toNat : Int)
theorem wI_bd (a : W32) : 0 ≤ wI a ∧ wI a < 4294967296 := by
  have := a.isLt
  unfold wI
  omega
theorem wI_inj {a b : W32} (h : wI a = wI b) : a = b := by
  apply BitVec.eq_of_toNat_eq
  unfold wI at h
  omega
theorem wI_xor (a b : W32) : bits .xor .u32 (wI a) (wI b) = wI (a ^^^ b) := by
  unfold wI
  rw [u32_xor_nat _ _ a.isLt b.isLt, BitVec.toNat_xor]
theorem wI_and (a b : W32) : bits .and .u32 (wI a) (wI b) = wI (a &&& b) := by
  unfold wI
  rw [u32_and_nat _ _ a.isLt b.isLt, BitVec.toNat_and]
theorem wI_shr (a : W32) (k : Nat) : wI a / 2 ^ k = wI (a >>> k) := by
  unfold wI
  rw [BitVec.toNat_ushiftRight, Nat.shiftRight_eq_div_pow]
  simp
theorem ret_u32 {a b : Int} (h : a = b) : Ending.returned (.int .u32 a) = .returned (.int .u32 b) := by rw [h]

theorem and_two (a : W32) (k : Nat) (hk : k < 32) : (a &&& BitVec.twoPow 32 k != 0#32) = a.getLsbD k := by
  rw [BitVec.and_twoPow]
  cases h : a.getLsbD k
  · simp
  · simp only [if_true]
    rw [bne_iff_ne]
    intro e
    have := congrArg (·.getLsbD k) e
    simp [BitVec.getLsbD_twoPow, hk] at this
theorem wI_half (a : W32) : wI a / (2 : Int) = wI (a >>> 1) := by
  have := wI_shr a 1
  simpa using this
end Go.Proofs.YteboaolflecibaaDoor
