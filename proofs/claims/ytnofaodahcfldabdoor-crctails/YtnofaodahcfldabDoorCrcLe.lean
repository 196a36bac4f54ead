import Derived.Test.YtnofaodahcfldabDoorCrcWord
namespace Go.Proofs.YtnofaodahcfldabDoor
open Go.RowKit
set_option linter.unusedVariables false
set_option linter.unusedSimpArgs false

/-- Four bytes of a word, the lowest first. -/
def byteN (x : W32) (k : Nat) : W32 := BitVec.ofNat 32 (x.toNat / 2 ^ k % 2 ^ 8)
theorem byteN_lt (x : W32) (k : Nat) : (byteN x k).toNat < 2 ^ 8 := by
  unfold byteN
  have := Nat.mod_lt (x.toNat / 2 ^ k) (show 0 < 2 ^ 8 by decide)
  rw [BitVec.toNat_ofNat]
  exact Nat.lt_of_le_of_lt (Nat.mod_le _ _) this
theorem byteN_bit (x : W32) (k i : Nat) (hi : i < 32) : (byteN x k).getLsbD i = (decide (i < 8) && x.getLsbD (k + i)) := by
  unfold byteN
  rw [BitVec.getLsbD_ofNat, Nat.testBit_mod_two_pow, Nat.testBit_div_two_pow, decide_eq_true hi, Bool.true_and, BitVec.getLsbD]
  congr 2
  omega
theorem le_join (x : W32) : byteN x 0 ^^^ (byteN x 8 <<< 8) ^^^ (byteN x 16 <<< 16) ^^^ (byteN x 24 <<< 24) = x := by
  apply BitVec.eq_of_getLsbD_eq
  intro i hi
  simp only [BitVec.getLsbD_xor, BitVec.getLsbD_shiftLeft, hi, decide_true, Bool.true_and, byteN_bit x _ i hi, byteN_bit x _ (i - 8) (by omega), byteN_bit x _ (i - 16) (by omega), byteN_bit x _ (i - 24) (by omega)]
  by_cases h8 : i < 8
  · have a : i < 16 := by omega
    have b : i < 24 := by omega
    simp [h8, a, b, -BitVec.getLsbD_eq_getElem]
  · by_cases h16 : i < 16
    · have b : i < 24 := by omega
      have c : i - 8 < 8 := by omega
      have d : 8 + (i - 8) = i := by omega
      simp [h8, h16, b, c, d, -BitVec.getLsbD_eq_getElem]
    · by_cases h24 : i < 24
      · have c : ¬ (i - 8 < 8) := by omega
        have c2 : i - 16 < 8 := by omega
        have d : 16 + (i - 16) = i := by omega
        simp [h8, h16, h24, c, c2, d, -BitVec.getLsbD_eq_getElem]
      · have c : ¬ (i - 8 < 8) := by omega
        have c2 : ¬ (i - 16 < 8) := by omega
        have c3 : i - 24 < 8 := by omega
        have d : 24 + (i - 24) = i := by omega
        simp [h8, h16, h24, c, c2, c3, d, -BitVec.getLsbD_eq_getElem]
/-- The four bytes as the model has them. -/
def leL (x : W32) : List Int := [wI x % 256, wI x / 256 % 256, wI x / 65536 % 256, wI x / 16777216]
theorem leL_bd (x : W32) : ∀ z ∈ leL x, 0 ≤ z ∧ z ≤ 255 := by
  intro z hz
  have := wI_bd x
  simp [leL] at hz
  omega
theorem bW_byte (x : W32) (k : Nat) : bW (wI x / (2 ^ k : Nat) % 256) = byteN x k := by
  unfold bW byteN wI
  congr 1
theorem leW (r x : W32) : runW r (leL x) = onN 32 (r ^^^ x) := by
  have e0 := bW_byte x 0
  have e1 := bW_byte x 8
  have e2 := bW_byte x 16
  have e3 := bW_byte x 24
  simp at e0 e1 e2 e3
  have e4 : wI x / 16777216 % 256 = wI x / 16777216 := by
    have := wI_bd x
    omega
  rw [e4] at e3
  show takeW (takeW (takeW (takeW r (wI x % 256)) (wI x / 256 % 256)) (wI x / 65536 % 256)) (wI x / 16777216) = _
  unfold takeW
  rw [e0, e1, e2, e3]
  have s1 : byteN x 8 = onN 8 (byteN x 8 <<< 8) := (onN_shl 8 _ (Nat.lt_of_lt_of_le (byteN_lt x 8) (by decide)) (by decide)).symm
  have s2 : byteN x 16 = onN 16 (byteN x 16 <<< 16) := (onN_shl 16 _ (Nat.lt_of_lt_of_le (byteN_lt x 16) (by decide)) (by decide)).symm
  have s3 : byteN x 24 = onN 24 (byteN x 24 <<< 24) := (onN_shl 24 _ (Nat.lt_of_lt_of_le (byteN_lt x 24) (by decide)) (by decide)).symm
  have t1 : onN 8 (onN 8 (r ^^^ byteN x 0) ^^^ byteN x 8) = onN 16 (r ^^^ byteN x 0 ^^^ byteN x 8 <<< 8) := by
    conv => lhs; rw [s1]
    rw [← onN_xor, ← onN_add]
  have t2 : onN 8 (onN 16 (r ^^^ byteN x 0 ^^^ byteN x 8 <<< 8) ^^^ byteN x 16) = onN 24 (r ^^^ byteN x 0 ^^^ byteN x 8 <<< 8 ^^^ byteN x 16 <<< 16) := by
    conv => lhs; rw [s2]
    rw [← onN_xor, ← onN_add]
  have t3 : onN 8 (onN 24 (r ^^^ byteN x 0 ^^^ byteN x 8 <<< 8 ^^^ byteN x 16 <<< 16) ^^^ byteN x 24) = onN 32 (r ^^^ byteN x 0 ^^^ byteN x 8 <<< 8 ^^^ byteN x 16 <<< 16 ^^^ byteN x 24 <<< 24) := by
    conv => lhs; rw [s3]
    rw [← onN_xor, ← onN_add]
  rw [t1, t2, t3]
  congr 1
  have := le_join x
  rw [BitVec.xor_assoc, BitVec.xor_assoc, BitVec.xor_assoc, BitVec.xor_assoc] at *
  congr 1
end Go.Proofs.YtnofaodahcfldabDoor
