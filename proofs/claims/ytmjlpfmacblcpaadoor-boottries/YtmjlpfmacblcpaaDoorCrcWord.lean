import Derived.Test.YtmjlpfmacblcpaaDoorProg
import Derived.Test.YtmjlpfmacblcpaaDoorCrcMath
import Derived.Test.YtmjlpfmacblcpaaDoorCrcAct
import Derived.WalkKit
import Derived.WalkSpells
import Derived.WalkLawsBesides
namespace Go.Proofs.YtmjlpfmacblcpaaDoor
open Go.RowKit
set_option linter.unusedVariables false
set_option linter.unusedSimpArgs false
/-- A word as the model's number. -/
def wI (a : W32) : Int := (a.toNat : Int)
theorem wI_xor (a b : W32) : bits .xor .u32 (wI a) (wI b) = wI (a ^^^ b) := by
  unfold wI
  rw [u32_xor_nat _ _ a.isLt b.isLt, BitVec.toNat_xor]
theorem wI_and (a b : W32) : bits .and .u32 (wI a) (wI b) = wI (a &&& b) := by
  unfold wI
  rw [u32_and_nat _ _ a.isLt b.isLt, BitVec.toNat_and]
theorem wI_shr (a : W32) (k : Nat) : wI a / 2 ^ k = wI (a >>> k) := by
  unfold wI
  rw [BitVec.toNat_ushiftRight, Nat.shiftRight_eq_div_pow]
  simp
end Go.Proofs.YtmjlpfmacblcpaaDoor
