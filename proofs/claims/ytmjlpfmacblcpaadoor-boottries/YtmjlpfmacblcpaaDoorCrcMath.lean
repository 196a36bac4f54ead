import Derived.Laws.BitsAllLaws
import Derived.WalkKit
namespace Go.Proofs.YtmjlpfmacblcpaaDoor
open Go.RowKit
set_option linter.unusedVariables false
set_option linter.unusedSimpArgs false
abbrev W32 := BitVec 32
def genW : W32 := 3988292384#32
def on (w : W32) : W32 := (w >>> 1) ^^^ (if w.getLsbD 0 then genW else 0#32)
def onN : Nat → W32 → W32
  | 0, w => w
  | k + 1, w => on (onN k w)

theorem bxor_left_comm (a b c : W32) : a ^^^ (b ^^^ c) = b ^^^ (a ^^^ c) := by rw [← BitVec.xor_assoc, BitVec.xor_comm a b, BitVec.xor_assoc]
theorem bxor_cancel (a b : W32) : a ^^^ (a ^^^ b) = b := by rw [← BitVec.xor_assoc, BitVec.xor_self, BitVec.zero_xor]
theorem on_xor (a b : W32) : on (a ^^^ b) = on a ^^^ on b := by
  unfold on
  rw [BitVec.ushiftRight_xor_distrib, BitVec.getLsbD_xor]
  cases a.getLsbD 0 <;> cases b.getLsbD 0 <;> simp [BitVec.xor_assoc, BitVec.xor_comm, bxor_left_comm, bxor_cancel]
theorem onN_xor (k : Nat) (a b : W32) : onN k (a ^^^ b) = onN k a ^^^ onN k b := by
  induction k with
  | zero => rfl
  | succ k ih => simp only [onN, ih, on_xor]
theorem onN_add (a b : Nat) (w : W32) : onN (a + b) w = onN a (onN b w) := by
  induction a with
  | zero => simp [onN]
  | succ a ih => rw [Nat.succ_add]; simp only [onN, ih]
theorem on_double (y : W32) (h : y.toNat < 2 ^ 31) : on (y <<< 1) = y := by
  unfold on
  have e0 : (y <<< 1).getLsbD 0 = false := by simp
  rw [e0]
  simp only [Bool.false_eq_true, if_false, BitVec.xor_zero]
  apply BitVec.eq_of_toNat_eq
  simp [Nat.shiftLeft_eq, Nat.shiftRight_eq_div_pow]
  omega
theorem onN_shl (k : Nat) (y : W32) (h : y.toNat < 2 ^ (32 - k)) (hk : k ≤ 32) : onN k (y <<< k) = y := by
  induction k with
  | zero => simp [onN]
  | succ k ih =>
    have e : onN (k + 1) (y <<< (k + 1)) = onN k (on (y <<< (k + 1))) := by
      rw [onN_add k 1]; rfl
    have hp : y.toNat < 2 ^ (32 - k) := Nat.lt_of_lt_of_le h (Nat.pow_le_pow_right (by decide) (by omega))
    have e2 : (y <<< k).toNat < 2 ^ 31 := by
      rw [BitVec.toNat_shiftLeft, Nat.shiftLeft_eq]
      refine Nat.lt_of_le_of_lt (Nat.mod_le _ _) ?_
      have : y.toNat * 2 ^ k < 2 ^ (32 - (k + 1)) * 2 ^ k := Nat.mul_lt_mul_of_pos_right h (Nat.pow_pos (by decide))
      rw [← Nat.pow_add] at this
      rw [show 32 - (k + 1) + k = 31 by omega] at this
      exact this
    rw [e, BitVec.shiftLeft_add, on_double _ e2, ih hp (by omega)]

def halfL : List Int := [0, 498536548, 997073096, 651767980, 1994146192, 1802195444, 1303535960, 1342533948, 3988292384, 4027552580, 3604390888, 3412177804, 2607071920, 2262029012, 2685067896, 3183342108]
theorem half_split (r : W32) : r = ((r >>> 4) <<< 4) ^^^ (r &&& 15#32) := by
  apply BitVec.eq_of_getLsbD_eq
  intro i hi
  by_cases h : i < 4
  · rcases i with _ | _ | _ | _ | i <;> simp_all <;> first | (exfalso; omega) | skip
  · have e : 4 + (i - 4) = i := by omega
    have e2 : (15#32).getLsbD i = false := by
      have : ∀ j : Fin 32, 4 ≤ j.val → (15#32).getLsbD j.val = false := by decide
      exact this ⟨i, hi⟩ (Nat.le_of_not_lt h)
    simp [-BitVec.getLsbD_eq_getElem, h, hi, e, e2]
theorem half_tab : ∀ i : Fin 16, (((onN 4 (BitVec.ofNat 32 i.val)).toNat : Nat) : Int) = halfL.getD i.val 0 := by decide
theorem onN4 (r : W32) : onN 4 r = (r >>> 4) ^^^ onN 4 (r &&& 15#32) := by
  have h : (r >>> 4).toNat < 2 ^ (32 - 4) := by
    rw [BitVec.toNat_ushiftRight, Nat.shiftRight_eq_div_pow]
    have := r.isLt
    omega
  conv => lhs; rw [half_split r]
  rw [onN_xor, onN_shl 4 _ h (by decide)]
theorem and15 (r : W32) : r &&& 15#32 = BitVec.ofNat 32 (r.toNat % 16) := by
  apply BitVec.eq_of_toNat_eq
  have : r.toNat &&& 15 = r.toNat % 16 := Nat.and_two_pow_sub_one_eq_mod _ 4
  simp [this]
  omega
end Go.Proofs.YtmjlpfmacblcpaaDoor
