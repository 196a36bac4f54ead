
import Derived.WalkKit
namespace Go.Proofs.YtoeabfcnfofbiaaDoor
set_option linter.unusedVariables false

/-! Bits as lists: the lowest first. -/
/-- The n low bits of v. -/
def bN (v : Nat) : Nat → List Bool
  | 0 => []
  | n + 1 => v.testBit 0 :: bN (v / 2) n
/-- The number of these bits. -/
def num : List Bool → Nat
  | [] => 0
  | b :: r => b.toNat + 2 * num r

theorem bN_len (v n : Nat) : (bN v n).length = n := by
  induction n generalizing v with
  | zero => rfl
  | succ n ih => simp [bN, ih]
theorem num_lt (L : List Bool) : num L < 2 ^ L.length := by
  induction L with
  | nil => simp [num]
  | cons b r ih =>
    have hb : b.toNat < 2 := Bool.toNat_lt b
    simp only [num, List.length_cons, Nat.pow_succ]
    omega
theorem num_append (L M : List Bool) : num (L ++ M) = num L + 2 ^ L.length * num M := by
  induction L with
  | nil => simp [num]
  | cons b r ih =>
    simp only [List.cons_append, num, List.length_cons, Nat.pow_succ, ih, Nat.mul_add, Nat.add_assoc]
    rw [Nat.mul_comm (2 ^ r.length) 2, Nat.mul_assoc]
theorem bit0 (v : Nat) : (v.testBit 0).toNat = v % 2 := by
  rw [Nat.testBit_zero]
  rcases Nat.mod_two_eq_zero_or_one v with h | h <;> simp [h]
theorem num_bN (v n : Nat) : num (bN v n) = v % 2 ^ n := by
  induction n generalizing v with
  | zero => simp [bN, num, Nat.mod_one]
  | succ n ih =>
    simp only [bN, num, ih, bit0]
    rw [Nat.pow_succ, Nat.mul_comm (2 ^ n) 2, Nat.mod_mul]
theorem num_bN_lt {v n : Nat} (h : v < 2 ^ n) : num (bN v n) = v := by rw [num_bN, Nat.mod_eq_of_lt h]
theorem num_low (b : Bool) (L : List Bool) : (num (b :: L)).testBit 0 = b := by
  have hb : b.toNat < 2 := Bool.toNat_lt b
  rw [Nat.testBit_zero]
  simp only [num]
  cases b <;> simp <;> omega
theorem num_half (b : Bool) (L : List Bool) : num (b :: L) / 2 = num L := by
  have hb : b.toNat < 2 := Bool.toNat_lt b
  simp only [num]
  omega
theorem bN_num (L : List Bool) : bN (num L) L.length = L := by
  induction L with
  | nil => rfl
  | cons b r ih => simp only [List.length_cons, bN, num_low, num_half, ih]
theorem bN_num' {L : List Bool} {n : Nat} (h : L.length = n) : bN (num L) n = L := by subst h; exact bN_num L
theorem num_inj {L M : List Bool} (hl : L.length = M.length) (h : num L = num M) : L = M := by rw [← bN_num L, ← bN_num M, hl, h]
theorem bN_add (v n m : Nat) : bN v (n + m) = bN v n ++ bN (v / 2 ^ n) m := by
  induction n generalizing v with
  | zero => simp [bN]
  | succ n ih =>
    rw [Nat.add_right_comm]
    simp only [bN, List.cons_append, ih]
    rw [Nat.div_div_eq_div_mul, Nat.pow_succ, Nat.mul_comm 2]
theorem bN_mod (v n : Nat) : bN (v % 2 ^ n) n = bN v n := by
  rw [← num_bN v n]
  exact bN_num' (bN_len v n)
theorem bN_get (v n i : Nat) (h : i < n) : (bN v n)[i]? = some (v.testBit i) := by
  induction n generalizing v i with
  | zero => omega
  | succ n ih =>
    cases i with
    | zero => simp [bN]
    | succ i =>
      simp only [bN, List.getElem?_cons_succ]
      rw [ih (v / 2) i (by omega), Nat.testBit_succ]
theorem bN_succ (v n : Nat) : bN v (n + 1) = bN v n ++ [v.testBit n] := by
  rw [bN_add]
  simp only [bN, Nat.testBit_div_two_pow, Nat.zero_add]
theorem bN_take (v n m : Nat) (h : m ≤ n) : (bN v n).take m = bN v m := by
  obtain ⟨k, rfl⟩ := Nat.exists_eq_add_of_le h
  rw [bN_add, List.take_left' (bN_len v m)]
theorem bN_drop (v n m : Nat) (h : m ≤ n) : (bN v n).drop m = bN (v / 2 ^ m) (n - m) := by
  obtain ⟨k, rfl⟩ := Nat.exists_eq_add_of_le h
  rw [bN_add, List.drop_left' (bN_len v m), Nat.add_sub_cancel_left]
theorem bN_take_num (L : List Bool) (n : Nat) (h : n ≤ L.length) : bN (num L) n = L.take n := by
  have := bN_take (num L) L.length n h
  rw [bN_num] at this
  exact this.symm
theorem num_take (L : List Bool) (n : Nat) (h : n ≤ L.length) : num (L.take n) = num L % 2 ^ n := by
  rw [← bN_take_num L n h, num_bN]
theorem num_drop (L : List Bool) (n : Nat) (h : n ≤ L.length) : num (L.drop n) = num L / 2 ^ n := by
  have := bN_drop (num L) L.length n h
  rw [bN_num] at this
  rw [this, num_bN, Nat.mod_eq_of_lt]
  have h2 := num_lt L
  rw [Nat.div_lt_iff_lt_mul (Nat.two_pow_pos n), ← Nat.pow_add]
  rwa [Nat.sub_add_cancel h]
theorem num_snoc (L : List Bool) (b : Bool) : num (L ++ [b]) = num L + 2 ^ L.length * b.toNat := by
  rw [num_append]; simp [num]
theorem num_replicate (n : Nat) : num (List.replicate n false) = 0 := by
  induction n with
  | zero => rfl
  | succ n ih => simp [List.replicate_succ, num, ih]
theorem bN_zero (n : Nat) : bN 0 n = List.replicate n false := by
  rw [← num_replicate n]
  exact bN_num' (by simp)

/-- The bits of bytes. -/
def bB : List Int → List Bool
  | [] => []
  | z :: r => bN z.toNat 8 ++ bB r
theorem bB_len (zs : List Int) : (bB zs).length = 8 * zs.length := by
  induction zs with
  | nil => rfl
  | cons z r ih => simp [bB, bN_len, ih]; omega
theorem bB_append (xs ys : List Int) : bB (xs ++ ys) = bB xs ++ bB ys := by
  induction xs with
  | nil => rfl
  | cons z r ih => simp [bB, ih]
theorem bB_one (z : Int) : bB [z] = bN z.toNat 8 := by simp [bB]

/-- Bits as bytes; noughts up to a byte's end. -/
def toB (L : List Bool) : List Int := (List.range ((L.length + 7) / 8)).map fun j => (num ((L.drop (8 * j)).take 8) : Int)

theorem toB_nil : toB [] = [] := rfl
theorem toB_eq {L : List Bool} (h : 0 < L.length) : toB L = (num (L.take 8) : Int) :: toB (L.drop 8) := by
  have e : (L.length + 7) / 8 = ((L.drop 8).length + 7) / 8 + 1 := by rw [List.length_drop]; omega
  unfold toB
  rw [e, List.range_succ_eq_map, List.map_cons, List.map_map]
  simp only [Nat.mul_zero, List.drop_zero, List.drop_drop]
  congr 1
  apply List.map_congr_left
  intro j _
  simp only [Function.comp_apply, Nat.mul_succ, Nat.add_comm]
theorem toB_len (L : List Bool) : (toB L).length = (L.length + 7) / 8 := by
  generalize hn : L.length = n
  induction n using Nat.strongRecOn generalizing L with
  | _ n ih =>
    by_cases h : 0 < L.length
    · rw [toB_eq h, List.length_cons, ih (L.length - 8) (by omega) (L.drop 8) (by simp)]
      omega
    · have : L = [] := List.eq_nil_of_length_eq_zero (by omega)
      subst this
      simp [toB_nil] at hn ⊢
      omega
theorem toB_bd (L : List Bool) : ∀ z ∈ toB L, 0 ≤ z ∧ z ≤ 255 := by
  generalize hn : L.length = n
  induction n using Nat.strongRecOn generalizing L with
  | _ n ih =>
    by_cases h : 0 < L.length
    · rw [toB_eq h]
      intro z hz
      rw [List.mem_cons] at hz
      rcases hz with rfl | hz
      · have h1 := num_lt (L.take 8)
        have h2 : (2 : Nat) ^ (L.take 8).length ≤ 2 ^ 8 := Nat.pow_le_pow_right (by decide) (by simp; omega)
        omega
      · exact ih (L.length - 8) (by omega) (L.drop 8) (by simp) z hz
    · have : L = [] := List.eq_nil_of_length_eq_zero (by omega)
      subst this
      simp [toB_nil]
theorem toB_head {L M : List Bool} (h : L.length = 8) : toB (L ++ M) = (num L : Int) :: toB M := by
  rw [toB_eq (by simp; omega), List.take_left' h, List.drop_left' h]
theorem toB_bB {zs : List Int} (h : ∀ z ∈ zs, 0 ≤ z ∧ z ≤ 255) (M : List Bool) : toB (bB zs ++ M) = zs ++ toB M := by
  induction zs with
  | nil => rfl
  | cons z r ih =>
    have hz := h z (by simp)
    simp only [bB, List.append_assoc, List.cons_append]
    rw [toB_head (bN_len _ _), ih (fun y hy => h y (by simp [hy])), num_bN_lt (by omega)]
    simp [Int.toNat_of_nonneg hz.1]
theorem bN_take_all {v n m : Nat} (h : n ≤ m) : (bN v n).take m = bN v n := List.take_of_length_le (by rw [bN_len]; exact h)
theorem toB_rest {r c : Nat} (h : r < 2 ^ c) (hc : c < 8) : toB (bN r c) = if 0 < c then [(r : Int)] else [] := by
  by_cases h0 : 0 < c
  · rw [if_pos h0, toB_eq (by rw [bN_len]; exact h0), bN_take_all (by omega), num_bN_lt h]
    rw [List.drop_of_length_le (by rw [bN_len]; omega), toB_nil]
  · rw [if_neg h0]
    obtain rfl : c = 0 := by omega
    exact toB_nil
theorem bB_toB {L : List Bool} : ∃ k, k < 8 ∧ bB (toB L) = L ++ List.replicate k false := by
  generalize hn : L.length = n
  induction n using Nat.strongRecOn generalizing L with
  | _ n ih =>
    by_cases h : 8 ≤ L.length
    · obtain ⟨k, hk, he⟩ := ih (L.length - 8) (by omega) (L := L.drop 8) (by simp)
      refine ⟨k, hk, ?_⟩
      rw [toB_eq (by omega)]
      simp only [bB, Int.toNat_natCast]
      rw [he, bN_num' (by simp; omega), ← List.append_assoc, List.take_append_drop]
    · by_cases h0 : 0 < L.length
      · refine ⟨8 - L.length, by omega, ?_⟩
        rw [toB_eq h0, List.take_of_length_le (by omega), List.drop_of_length_le (by omega), toB_nil]
        simp only [bB, Int.toNat_natCast, List.append_nil]
        have e : 8 = L.length + (8 - L.length) := by omega
        rw [show bN (num L) 8 = bN (num L) (L.length + (8 - L.length)) by rw [← e], bN_add, bN_num, Nat.div_eq_of_lt (num_lt L), bN_zero]
      · have : L = [] := List.eq_nil_of_length_eq_zero (by omega)
        subst this
        exact ⟨0, by decide, by simp [toB_nil, bB]⟩

/-- A byte of the bits. -/
theorem toB_get (L : List Bool) (j : Nat) (h : j < (toB L).length) : (toB L)[j]? = some (num ((L.drop (8 * j)).take 8) : Int) := by
  induction j generalizing L with
  | zero =>
    rw [toB_len] at h
    rw [toB_eq (by omega)]; simp
  | succ j ih =>
    rw [toB_len] at h
    rw [toB_eq (by omega), List.getElem?_cons_succ, ih (L.drop 8) (by rw [toB_len]; simp; omega), List.drop_drop]
    rw [show 8 + 8 * j = 8 * (j + 1) by omega]

theorem rev_len (v n : Nat) : (bN v n).reverse.length = n := by rw [List.length_reverse, bN_len]
theorem rev_get (v n i : Nat) (h : i < n) : (bN v n).reverse[i]? = some (v.testBit (n - 1 - i)) := by
  rw [List.getElem?_reverse (by rw [bN_len]; exact h), bN_len, bN_get _ _ _ (by omega)]
theorem rev_succ (v i : Nat) : num (bN v (i + 1)).reverse = (v / 2 ^ i) % 2 + 2 * num (bN v i).reverse := by
  rw [bN_succ, List.reverse_append]
  simp only [List.reverse_cons, List.reverse_nil, List.nil_append, List.singleton_append, num]
  rw [← bit0, Nat.testBit_div_two_pow, Nat.zero_add]
theorem num_take_succ (R : List Bool) (i : Nat) (h : i < R.length) : num (R.take (i + 1)) = num (R.take i) + 2 ^ i * R[i].toNat := by
  rw [List.take_succ_eq_append_getElem h, num_snoc]
  simp only [List.length_take]
  rw [Nat.min_eq_left (by omega)]
theorem num_take_lt (R : List Bool) (i : Nat) : num (R.take i) < 2 ^ i := by
  have h1 := num_lt (R.take i)
  have h2 : (2 : Nat) ^ (R.take i).length ≤ 2 ^ i := Nat.pow_le_pow_right (by decide) (by simp; omega)
  omega
end Go.Proofs.YtoeabfcnfofbiaaDoor
