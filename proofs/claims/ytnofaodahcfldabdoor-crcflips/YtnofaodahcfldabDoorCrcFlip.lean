import Derived.Test.YtnofaodahcfldabDoorTurnBackW
namespace Go.Proofs.YtnofaodahcfldabDoor
open Go.RowKit
set_option linter.unusedVariables false
set_option linter.unusedSimpArgs false

/-- A text with one bit turned. -/
def flipL (zs : List Int) (j : Nat) : List Int := zs.set (j / 8) (bits .xor .u8 (zs.getD (j / 8) 0) (2 ^ (j % 8)))
theorem flipL_len (zs : List Int) (j : Nat) : (flipL zs j).length = zs.length := by simp [flipL]
theorem pow8 : ∀ t : Fin 8, (0 : Int) ≤ 2 ^ t.val ∧ (2 : Int) ^ t.val ≤ 255 ∧ bW ((2 : Int) ^ t.val) = 1#32 <<< t.val := by decide +kernel
theorem flipL_bd (zs : List Int) (j : Nat) (h : ∀ z ∈ zs, 0 ≤ z ∧ z ≤ 255) : ∀ z ∈ flipL zs j, 0 ≤ z ∧ z ≤ 255 := by
  intro x hx
  have hp := pow8 ⟨j % 8, Nat.mod_lt _ (by decide)⟩
  simp only at hp
  have hg := getD_bd (M := 255) (by decide) h (j / 8)
  rcases List.mem_or_eq_of_mem_set hx with hx | rfl
  · exact h x hx
  · exact (byte_xor _ _ hg.1 hg.2 hp.1 hp.2.1).2
/-- What a bit adds to the sum. -/
def bitX (N j : Nat) : W32 := onN (N - j) 1#32
theorem flip_sum (zs : List Int) (j : Nat) (h : ∀ z ∈ zs, 0 ≤ z ∧ z ≤ 255) (hj : j < 8 * zs.length) : sumW (flipL zs j) = sumW zs ^^^ bitX (8 * zs.length) j := by
  have hp := pow8 ⟨j % 8, Nat.mod_lt _ (by decide)⟩
  simp only at hp
  have hg := getD_bd (M := 255) (by decide) h (j / 8)
  have hb := byte_xor _ _ hg.1 hg.2 hp.1 hp.2.1
  unfold flipL
  rw [turn_sum zs (j / 8) (by omega) (2 ^ (j % 8)) _ hb.1]
  unfold turnW bitX takeW
  rw [hp.2.2, BitVec.zero_xor, ← onN_add]
  have e : 1#32 = onN (j % 8) (1#32 <<< (j % 8)) := by
    refine (onN_shl (j % 8) 1#32 ?_ (by omega)).symm
    have : 2 ^ 1 ≤ 2 ^ (32 - j % 8) := Nat.pow_le_pow_right (by decide) (by omega)
    exact Nat.lt_of_lt_of_le (by decide) this
  conv => rhs; rw [e, ← onN_add]
  congr 2
  omega

/-- The low bits of a word. -/
def lowk (x : W32) : Nat → W32
  | 0 => 0#32
  | i + 1 => lowk x i ^^^ (if x.getLsbD i then 1#32 <<< i else 0#32)
theorem one_bit (i j : Nat) (hj : j < 32) : (1#32 <<< i).getLsbD j = decide (j = i) := by
  rw [BitVec.getLsbD_shiftLeft]
  have h1 : ∀ k : Nat, (1#32).getLsbD k = decide (k = 0) := by
    intro k
    rw [BitVec.getLsbD, show (1#32).toNat = 2 ^ 0 from rfl, Nat.testBit_two_pow]
    exact decide_eq_decide.2 ⟨fun h => h.symm, fun h => h.symm⟩
  rw [h1]
  by_cases h : j < i
  · have : j ≠ i := by omega
    simp [h, this]
  · by_cases e : j = i
    · subst e; simp [hj]
    · have : j - i ≠ 0 := by omega
      simp [e, this]
theorem lowk_bit (x : W32) (i j : Nat) (hj : j < 32) : (lowk x i).getLsbD j = (decide (j < i) && x.getLsbD j) := by
  induction i with
  | zero => simp [lowk]
  | succ i ih =>
    simp only [lowk, BitVec.getLsbD_xor, ih]
    by_cases e : j = i
    · subst e
      have h1 : ¬ (j < j) := by omega
      cases h : x.getLsbD j
      · simp
      · simp only [if_true, one_bit _ _ hj, decide_true]
        simp
    · have h1 : decide (j < i + 1) = decide (j < i) := decide_eq_decide.2 (by omega)
      rw [h1]
      split
      · rw [one_bit _ _ hj]; simp [e]
      · simp
theorem lowk_ne (x : W32) (i : Nat) (hi : i < 32) (h : x.getLsbD i = true) : lowk x (i + 1) ≠ 0#32 := by
  intro e
  have := congrArg (·.getLsbD i) e
  simp only [lowk_bit x (i + 1) i hi, h, Bool.and_true] at this
  simp at this
theorem low_next (x : W32) (N F i : Nat) (hi : i < 32) (hN : F + i < N) (h : x.getLsbD i = true) : onN (N - F) (lowk x i) ^^^ bitX N (F + i) = onN (N - F) (lowk x (i + 1)) := by
  have e : 1#32 = onN i (1#32 <<< i) := by
    refine (onN_shl i 1#32 ?_ (by omega)).symm
    have : 2 ^ 1 ≤ 2 ^ (32 - i) := Nat.pow_le_pow_right (by decide) (by omega)
    exact Nat.lt_of_lt_of_le (by decide) this
  unfold bitX
  rw [lowk, h, if_pos rfl, onN_xor]
  congr 1
  conv => lhs; rw [e, ← onN_add]
  congr 1
  omega
theorem sum_ne {a b d : W32} (h : a = b ^^^ d) (hd : d ≠ 0#32) : a ≠ b := by
  intro e
  apply hd
  have := congrArg (b ^^^ ·) h
  simp only [bxor_cancel] at this
  rw [← this, e, BitVec.xor_self]
theorem onN_ne (k : Nat) {x : W32} (h : x ≠ 0#32) : onN k x ≠ 0#32 := fun e => h (onN_inj k (e.trans (onN_zero k).symm))
end Go.Proofs.YtnofaodahcfldabDoor
