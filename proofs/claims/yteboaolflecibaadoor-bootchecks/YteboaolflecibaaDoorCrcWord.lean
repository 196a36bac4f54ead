
import Derived.Test.YteboaolflecibaaDoorProg
import Derived.Test.YteboaolflecibaaDoorCrcMath
import Derived.Test.YteboaolflecibaaDoorCrcAct
import Derived.WalkKit
import Derived.WalkSpells
import Derived.WalkLawsBesides
namespace Go.Proofs.YteboaolflecibaaDoor
open Go.RowKit
set_option linter.unusedVariables false
set_option linter.unusedSimpArgs false

/-- A word as the model's number. -/
def wI (a : W32) : Int := (a.toNat : Int)
theorem wI_bd (a : W32) : 0 ≤ wI a ∧ wI a < 4294967296 := by
  have := a.isLt
  unfold wI
  omega
theorem wI_of {x : Int} (h0 : 0 ≤ x) (h1 : x < 4294967296) : ∃ a : W32, x = wI a := by
  refine ⟨BitVec.ofNat 32 x.toNat, ?_⟩
  unfold wI
  simp
  omega
theorem wI_inj {a b : W32} (h : wI a = wI b) : a = b := by
  apply BitVec.eq_of_toNat_eq
  unfold wI at h
  omega
theorem wI_xor (a b : W32) : bits .xor .u32 (wI a) (wI b) = wI (a ^^^ b) := by
  unfold wI
  rw [u32_xor_nat _ _ a.isLt b.isLt, BitVec.toNat_xor]
theorem wI_and (a b : W32) : bits .and .u32 (wI a) (wI b) = wI (a &&& b) := by
  unfold wI
  rw [u32_and_nat _ _ a.isLt b.isLt, BitVec.toNat_and]
theorem wI_or (a b : W32) : bits .or .u32 (wI a) (wI b) = wI (a ||| b) := by
  unfold wI
  rw [u32_or_nat _ _ a.isLt b.isLt, BitVec.toNat_or]
theorem wI_shr (a : W32) (k : Nat) : wI a / 2 ^ k = wI (a >>> k) := by
  unfold wI
  rw [BitVec.toNat_ushiftRight, Nat.shiftRight_eq_div_pow]
  simp
theorem wI_zero : wI 0#32 = 0 := rfl
theorem wI_lsb (a : W32) : a.getLsbD 0 = decide (wI a % 2 = 1) := by
  unfold wI
  rw [BitVec.getLsbD, Nat.testBit_zero]
  simp only [decide_eq_decide]
  omega
theorem ret_u32 {a b : Int} (h : a = b) : Ending.returned (.int .u32 a) = .returned (.int .u32 b) := by rw [h]

theorem wI_ne (a : W32) : (wI a != 0) = (a != 0#32) := by
  rw [Bool.eq_iff_iff, bne_iff_ne, bne_iff_ne]
  constructor
  · intro h e; apply h; rw [e]; rfl
  · intro h e; exact h (wI_inj (e.trans wI_zero.symm))
theorem and_two (a : W32) (k : Nat) (hk : k < 32) : (a &&& BitVec.twoPow 32 k != 0#32) = a.getLsbD k := by
  rw [BitVec.and_twoPow]
  cases h : a.getLsbD k
  · simp
  · simp only [if_true]
    rw [bne_iff_ne]
    intro e
    have := congrArg (·.getLsbD k) e
    simp [BitVec.getLsbD_twoPow, hk] at this
theorem wI_bit (a : W32) (k : Nat) (hk : k < 32) : (bits .and .u32 (wI a) (wI (BitVec.twoPow 32 k)) != 0) = a.getLsbD k := by
  rw [wI_and, wI_ne, and_two a k hk]
theorem wI_half (a : W32) : wI a / (2 : Int) = wI (a >>> 1) := by
  have := wI_shr a 1
  simpa using this
theorem on_pos (a : W32) (h : a.getLsbD 0 = true) : bits .xor .u32 (wI a / 2) 3988292384 = wI (on a) := by
  rw [wI_half, show (3988292384 : Int) = wI genW from rfl, wI_xor]
  unfold on
  rw [h, if_pos rfl]
theorem on_neg (a : W32) (h : a.getLsbD 0 = false) : wI a / 2 = wI (on a) := by
  rw [wI_half]
  unfold on
  rw [h]
  simp

theorem one_shr : ∀ i : Fin 33, oneW >>> i.val = if i.val < 32 then BitVec.twoPow 32 (31 - i.val) else 0#32 := by decide +kernel
theorem actN_next (a b : W32) (i : Nat) : actN a (i + 1) b = actN a i b ^^^ (if a.getLsbD (31 - i) then onN i b else 0#32) := rfl

end Go.Proofs.YteboaolflecibaaDoor
