import Derived.Test.YtnofaodahcfldabDoorOrdW
import Derived.Test.YtnofaodahcfldabDoorTrie2W
import Derived.Test.YtnofaodahcfldabDoorThirdW
namespace Go.Proofs.YtnofaodahcfldabDoor
open Go.RowKit
set_option linter.unusedVariables false
set_option linter.unusedSimpArgs false

/-- What turned bits add to the sum. -/
def bitsX (N : Nat) : List Nat → W32
  | [] => 0#32
  | j :: js => bitX N j ^^^ bitsX N js
theorem word_ne : (1#32 : W32) ≠ 0#32 := by decide
theorem one_ne (N j : Nat) : bitX N j ≠ 0#32 := onN_ne _ word_ne
theorem two_lt {N a b : Nat} (hab : a < b) (hb : b < N) (hN : N ≤ 2147483648) : bitX N a ≠ bitX N b := by
  intro e
  unfold bitX at e
  rw [show N - a = (N - b) + (b - a) by omega, onN_add] at e
  have e2 := onN_inj _ e
  rw [one_is, onN_comm] at e2
  exact order (by omega) (by omega) (onN_inj 31 e2)
theorem xor_eq_zero {a b : W32} (h : a ^^^ b = 0#32) : a = b := by
  have := congrArg (a ^^^ ·) h
  simp only [bxor_cancel, BitVec.xor_zero] at this
  exact this.symm
theorem two_ne {N a b : Nat} (hab : a ≠ b) (ha : a < N) (hb : b < N) (hN : N ≤ 2147483648) : bitX N a ^^^ bitX N b ≠ 0#32 := by
  intro e
  have e2 := xor_eq_zero e
  rcases Nat.lt_or_gt_of_ne hab with h | h
  · exact two_lt h hb hN e2
  · exact two_lt h ha hN e2.symm
theorem powers_apart {i j : Nat} (hij : i < j) (hj : j < 91632) : (onN i oneW).toNat % 2147483648 ≠ (onN j oneW).toNat % 2147483648 := by
  have h := goV_true all_apart i j hij hj
  have e : (2147483648 : Nat) = oneW.toNat := by decide
  have h1 := onVN_on i oneW
  have h2 := onVN_on j oneW
  rw [← e] at h1 h2
  rw [h1, h2] at h
  exact h
theorem low_same (a : W32) : (a ^^^ oneW).toNat % 2147483648 = a.toNat % 2147483648 := by
  rw [BitVec.toNat_xor]
  have := Nat.xor_mod_two_pow (a := a.toNat) (b := oneW.toNat) (n := 31)
  rw [show (2 : Nat) ^ 31 = 2147483648 from rfl, show oneW.toNat % 2147483648 = 0 from by decide, Nat.xor_zero] at this
  exact this
theorem three_lt {N a b c : Nat} (hab : a < b) (hbc : b < c) (hc : c < N) (hN : N ≤ 91632) : bitX N a ^^^ (bitX N b ^^^ bitX N c) ≠ 0#32 := by
  intro e
  unfold bitX at e
  rw [show N - a = (N - c) + (c - a) by omega, show N - b = (N - c) + (c - b) by omega, onN_add, onN_add, ← onN_xor, ← onN_xor] at e
  have e2 := onN_inj _ (e.trans (onN_zero _).symm)
  rw [one_is, onN_comm, onN_comm (c - b), ← onN_xor, ← onN_xor] at e2
  have e3 := onN_inj _ (e2.trans (onN_zero 31).symm)
  have e4 := xor_eq_zero e3
  have h := powers_apart (i := c - b) (j := c - a) (by omega) (by omega)
  rw [e4, low_same] at h
  exact h rfl
theorem three_ne {N a b c : Nat} (hab : a ≠ b) (hac : a ≠ c) (hbc : b ≠ c) (ha : a < N) (hb : b < N) (hc : c < N) (hN : N ≤ 91632) : bitX N a ^^^ (bitX N b ^^^ bitX N c) ≠ 0#32 := by
  have p1 : bitX N a ^^^ (bitX N b ^^^ bitX N c) = bitX N a ^^^ (bitX N c ^^^ bitX N b) := by rw [BitVec.xor_comm (bitX N b)]
  have p2 : bitX N a ^^^ (bitX N b ^^^ bitX N c) = bitX N b ^^^ (bitX N a ^^^ bitX N c) := bxor_left_comm _ _ _
  have p3 : bitX N a ^^^ (bitX N b ^^^ bitX N c) = bitX N b ^^^ (bitX N c ^^^ bitX N a) := by rw [p2, BitVec.xor_comm (bitX N a)]
  have p4 : bitX N a ^^^ (bitX N b ^^^ bitX N c) = bitX N c ^^^ (bitX N a ^^^ bitX N b) := by rw [p1, bxor_left_comm]
  have p5 : bitX N a ^^^ (bitX N b ^^^ bitX N c) = bitX N c ^^^ (bitX N b ^^^ bitX N a) := by rw [p4, BitVec.xor_comm (bitX N a)]
  rcases Nat.lt_or_gt_of_ne hab with h1 | h1 <;> rcases Nat.lt_or_gt_of_ne hac with h2 | h2 <;> rcases Nat.lt_or_gt_of_ne hbc with h3 | h3
  · exact three_lt h1 h3 hc hN
  · rw [p1]; exact three_lt h2 h3 hb hN
  · omega
  · rw [p4]; exact three_lt h2 h1 hb hN
  · rw [p2]; exact three_lt h1 h2 hc hN
  · omega
  · rw [p3]; exact three_lt h3 h2 ha hN
  · rw [p5]; exact three_lt h3 h1 ha hN
theorem bitsX_ne {N : Nat} {js : List Nat} (hn : js.Nodup) (hl : ∀ j ∈ js, j < N) (h1 : 1 ≤ js.length) (h3 : js.length ≤ 3) (h2 : js.length < 3 → N ≤ 2147483648) (h4 : js.length = 3 → N ≤ 91632) : bitsX N js ≠ 0#32 := by
  match js, hn, hl, h1, h3, h2, h4 with
  | [a], _, _, _, _, _, _ => simpa [bitsX] using one_ne N a
  | [a, b], hn, hl, _, _, h2, _ =>
    have hab : a ≠ b := by simpa using hn
    simpa [bitsX] using two_ne hab (hl a (by simp)) (hl b (by simp)) (h2 (by simp))
  | [a, b, c], hn, hl, _, _, _, h4 =>
    simp at hn
    have := three_ne hn.1.1 hn.1.2 hn.2 (hl a (by simp)) (hl b (by simp)) (hl c (by simp)) (h4 rfl)
    simpa [bitsX] using this

/-- A bit of a text. -/
def bitOf (zs : List Int) (j : Nat) : Bool := (zs.getD (j / 8) 0).toNat.testBit (j % 8)
theorem bitOf_flip (zs : List Int) (j k : Nat) (h : ∀ z ∈ zs, 0 ≤ z ∧ z ≤ 255) (hj : j < 8 * zs.length) : bitOf (flipL zs j) k = (bitOf zs k ^^ decide (k = j)) := by
  unfold bitOf flipL
  have hg := getD_bd (M := 255) (by decide) h (j / 8)
  obtain ⟨z, hz⟩ := Int.eq_ofNat_of_zero_le hg.1
  by_cases e : k / 8 = j / 8
  · rw [e]
    have hi : j / 8 < zs.length := by omega
    have e1 : (zs.set (j / 8) (bits .xor .u8 (zs.getD (j / 8) 0) (2 ^ (j % 8)))).getD (j / 8) 0 = bits .xor .u8 (zs.getD (j / 8) 0) (2 ^ (j % 8)) := by
      simp [List.getD, hi]
    rw [e1, hz]
    have e2 : (2 : Int) ^ (j % 8) = ((2 ^ (j % 8) : Nat) : Int) := by simp
    have hp : 2 ^ (j % 8) < 256 := by
      have : 2 ^ (j % 8) < 2 ^ 8 := Nat.pow_lt_pow_right (by decide) (Nat.mod_lt _ (by decide))
      exact this
    rw [e2, u8_xor_nat z (2 ^ (j % 8)) (by omega) hp, Int.toNat_natCast, Int.toNat_natCast, Nat.testBit_xor, Nat.testBit_two_pow]
    congr 1
    exact decide_eq_decide.2 (by omega)
  · have e1 : (zs.set (j / 8) (bits .xor .u8 (zs.getD (j / 8) 0) (2 ^ (j % 8)))).getD (k / 8) 0 = zs.getD (k / 8) 0 := by
      simp [List.getD, List.getElem?_set_ne (Ne.symm e)]
    rw [e1]
    have hne : ¬ k = j := fun h => e (by rw [h])
    simp [hne]
/-- The model's own look at a bit. -/
theorem bit_look (z : Int) (t : Nat) (h0 : 0 ≤ z) (h1 : z ≤ 255) : bits .and .u8 (z / 2 ^ t) 1 = if z.toNat.testBit t then 1 else 0 := by
  obtain ⟨n, rfl⟩ := Int.eq_ofNat_of_zero_le h0
  have hd : n / 2 ^ t ≤ n := Nat.div_le_self _ _
  have e : ((n : Int) / 2 ^ t) = ((n / 2 ^ t : Nat) : Int) := by simp
  have e1 : n / 2 ^ t &&& 1 = n / 2 ^ t % 2 := Nat.and_two_pow_sub_one_eq_mod _ 1
  rw [e, show (1 : Int) = ((1 : Nat) : Int) from rfl, u8_and_nat _ _ (by omega) (by omega), e1, Int.toNat_natCast, Nat.testBit_eq_decide_div_mod_eq]
  rcases Nat.mod_two_eq_zero_or_one (n / 2 ^ t) with h | h <;> rw [h] <;> rfl
end Go.Proofs.YtnofaodahcfldabDoor
