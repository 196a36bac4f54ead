import Derived.WalkKit
import Derived.Deep.Draws
import Derived.OneCell
namespace Go.Proofs.YtmddnmpldmdllaaDoor
set_option linter.unusedVariables false

/-! Bits as lists: the lowest first. -/
/-- The n low bits of v. -/
def bN (v : Nat) : Nat → List Bool
  | 0 => []
  | n + 1 => v.testBit 0 :: bN (v / 2) n
/-- The number of these bits. -/
def num : List Bool → Nat
  | [] => 0
  | b :: r => b.toNat + 2 * num r

theorem bN_len (v n : Nat) : (bN v n).length = n := by
  induction n generalizing v with
  | zero => rfl
  | succ n ih => simp [bN, ih]
theorem num_lt (L : List Bool) : num L < 2 ^ L.length := by
  induction L with
  | nil => simp [num]
  | cons b r ih =>
    have hb : b.toNat < 2 := Bool.toNat_lt b
    simp only [num, List.length_cons, Nat.pow_succ]
    omega
theorem num_append (L M : List Bool) : num (L ++ M) = num L + 2 ^ L.length * num M := by
  induction L with
  | nil => simp [num]
  | cons b r ih =>
    simp only [List.cons_append, num, List.length_cons, Nat.pow_succ, ih, Nat.mul_add, Nat.add_assoc]
    rw [Nat.mul_comm (2 ^ r.length) 2, Nat.mul_assoc]
theorem bit0 (v : Nat) : (v.testBit 0).toNat = v % 2 := by
  rw [Nat.testBit_zero]
  rcases Nat.mod_two_eq_zero_or_one v with h | h <;> simp [h]
theorem num_bN (v n : Nat) : num (bN v n) = v % 2 ^ n := by
  induction n generalizing v with
  | zero => simp [bN, num, Nat.mod_one]
  | succ n ih =>
    simp only [bN, num, ih, bit0]
    rw [Nat.pow_succ, Nat.mul_comm (2 ^ n) 2, Nat.mod_mul]
theorem num_bN_lt {v n : Nat} (h : v < 2 ^ n) : num (bN v n) = v := by rw [num_bN, Nat.mod_eq_of_lt h]
theorem num_low (b : Bool) (L : List Bool) : (num (b :: L)).testBit 0 = b := by
  have hb : b.toNat < 2 := Bool.toNat_lt b
  rw [Nat.testBit_zero]
  simp only [num]
  cases b <;> simp <;> omega
theorem num_half (b : Bool) (L : List Bool) : num (b :: L) / 2 = num L := by
  have hb : b.toNat < 2 := Bool.toNat_lt b
  simp only [num]
  omega
theorem bN_num (L : List Bool) : bN (num L) L.length = L := by
  induction L with
  | nil => rfl
  | cons b r ih => simp only [List.length_cons, bN, num_low, num_half, ih]
theorem bN_num' {L : List Bool} {n : Nat} (h : L.length = n) : bN (num L) n = L := by subst h; exact bN_num L
theorem num_inj {L M : List Bool} (hl : L.length = M.length) (h : num L = num M) : L = M := by rw [← bN_num L, ← bN_num M, hl, h]
theorem bN_add (v n m : Nat) : bN v (n + m) = bN v n ++ bN (v / 2 ^ n) m := by
  induction n generalizing v with
  | zero => simp [bN]
  | succ n ih =>
    rw [Nat.add_right_comm]
    simp only [bN, List.cons_append, ih]
    rw [Nat.div_div_eq_div_mul, Nat.pow_succ, Nat.mul_comm 2]
theorem bN_mod (v n : Nat) : bN (v % 2 ^ n) n = bN v n := by
  rw [← num_bN v n]
  exact bN_num' (bN_len v n)
theorem bN_get (v n i : Nat) (h : i < n) : (bN v n)[i]? = some (v.testBit i) := by
  induction n generalizing v i with
  | zero => omega
  | succ n ih =>
    cases i with
    | zero => simp [bN]
    | succ i =>
      simp only [bN, List.getElem?_cons_succ]
      rw [ih (v / 2) i (by omega), Nat.testBit_succ]
theorem bN_succ (v n : Nat) : bN v (n + 1) = bN v n ++ [v.testBit n] := by
  rw [bN_add]
  simp only [bN, Nat.testBit_div_two_pow, Nat.zero_add]
theorem bN_take (v n m : Nat) (h : m ≤ n) : (bN v n).take m = bN v m := by
  obtain ⟨k, rfl⟩ := Nat.exists_eq_add_of_le h
  rw [bN_add, List.take_left' (bN_len v m)]
theorem bN_drop (v n m : Nat) (h : m ≤ n) : (bN v n).drop m = bN (v / 2 ^ m) (n - m) := by
  obtain ⟨k, rfl⟩ := Nat.exists_eq_add_of_le h
  rw [bN_add, List.drop_left' (bN_len v m), Nat.add_sub_cancel_left]
theorem bN_take_num (L : List Bool) (n : Nat) (h : n ≤ L.length) : bN (num L) n = L.take n := by
  have := bN_take (num L) L.length n h
  rw [bN_num] at this
  exact this.symm
theorem num_take (L : List Bool) (n : Nat) (h : n ≤ L.length) : num (L.take n) = num L % 2 ^ n := by
  rw [← bN_take_num L n h, num_bN]
theorem num_drop (L : List Bool) (n : Nat) (h : n ≤ L.length) : num (L.drop n) = num L / 2 ^ n := by
  have := bN_drop (num L) L.length n h
  rw [bN_num] at this
  rw [this, num_bN, Nat.mod_eq_of_lt]
  have h2 := num_lt L
  rw [Nat.div_lt_iff_lt_mul (Nat.two_pow_pos n), ← Nat.pow_add]
  rwa [Nat.sub_add_cancel h]
theorem num_snoc (L : List Bool) (b : Bool) : num (L ++ [b]) = num L + 2 ^ L.length * b.toNat := by
  rw [num_append]; simp [num]
theorem num_replicate (n : Nat) : num (List.replicate n false) = 0 := by
  induction n with
  | zero => rfl
  | succ n ih => simp [List.replicate_succ, num, ih]
theorem bN_zero (n : Nat) : bN 0 n = List.replicate n false := by
  rw [← num_replicate n]
  exact bN_num' (by simp)

/-- The bits of bytes. -/
def bB : List Int → List Bool
  | [] => []
  | z :: r => bN z.toNat 8 ++ bB r
theorem bB_len (zs : List Int) : (bB zs).length = 8 * zs.length := by
  induction zs with
  | nil => rfl
  | cons z r ih => simp [bB, bN_len, ih]; omega
theorem bB_append (xs ys : List Int) : bB (xs ++ ys) = bB xs ++ bB ys := by
  induction xs with
  | nil => rfl
  | cons z r ih => simp [bB, ih]
theorem bB_one (z : Int) : bB [z] = bN z.toNat 8 := by simp [bB]

/-- Bits as bytes; noughts up to a byte's end. -/
def toB (L : List Bool) : List Int := (List.range ((L.length + 7) / 8)).map fun j => (num ((L.drop (8 * j)).take 8) : Int)

theorem toB_nil : toB [] = [] := rfl
theorem toB_eq {L : List Bool} (h : 0 < L.length) : toB L = (num (L.take 8) : Int) :: toB (L.drop 8) := by
  have e : (L.length + 7) / 8 = ((L.drop 8).length + 7) / 8 + 1 := by rw [List.length_drop]; omega
  unfold toB
  rw [e, List.range_succ_eq_map, List.map_cons, List.map_map]
  simp only [Nat.mul_zero, List.drop_zero, List.drop_drop]
  congr 1
  apply List.map_congr_left
  intro j _
  simp only [Function.comp_apply, Nat.mul_succ, Nat.add_comm]
theorem toB_len (L : List Bool) : (toB L).length = (L.length + 7) / 8 := by
  generalize hn : L.length = n
  induction n using Nat.strongRecOn generalizing L with
  | _ n ih =>
    by_cases h : 0 < L.length
    · rw [toB_eq h, List.length_cons, ih (L.length - 8) (by omega) (L.drop 8) (by simp)]
      omega
    · have : L = [] := List.eq_nil_of_length_eq_zero (by omega)
      subst this
      simp [toB_nil] at hn ⊢
      omega
theorem toB_bd (L : List Bool) : ∀ z ∈ toB L, 0 ≤ z ∧ z ≤ 255 := by
  generalize hn : L.length = n
  induction n using Nat.strongRecOn generalizing L with
  | _ n ih =>
    by_cases h : 0 < L.length
    · rw [toB_eq h]
      intro z hz
      rw [List.mem_cons] at hz
      rcases hz with rfl | hz
      · have h1 := num_lt (L.take 8)
        have h2 : (2 : Nat) ^ (L.take 8).length ≤ 2 ^ 8 := Nat.pow_le_pow_right (by decide) (by simp; omega)
        omega
      · exact ih (L.length - 8) (by omega) (L.drop 8) (by simp) z hz
    · have : L = [] := List.eq_nil_of_length_eq_zero (by omega)
      subst this
      simp [toB_nil]
theorem toB_head {L M : List Bool} (h : L.length = 8) : toB (L ++ M) = (num L : Int) :: toB M := by
  rw [toB_eq (by simp; omega), List.take_left' h, List.drop_left' h]
theorem toB_bB {zs : List Int} (h : ∀ z ∈ zs, 0 ≤ z ∧ z ≤ 255) (M : List Bool) : toB (bB zs ++ M) = zs ++ toB M := by
  induction zs with
  | nil => rfl
  | cons z r ih =>
    have hz := h z (by simp)
    simp only [bB, List.append_assoc, List.cons_append]
    rw [toB_head (bN_len _ _), ih (fun y hy => h y (by simp [hy])), num_bN_lt (by omega)]
    simp [Int.toNat_of_nonneg hz.1]
theorem bN_take_all {v n m : Nat} (h : n ≤ m) : (bN v n).take m = bN v n := List.take_of_length_le (by rw [bN_len]; exact h)
theorem toB_rest {r c : Nat} (h : r < 2 ^ c) (hc : c < 8) : toB (bN r c) = if 0 < c then [(r : Int)] else [] := by
  by_cases h0 : 0 < c
  · rw [if_pos h0, toB_eq (by rw [bN_len]; exact h0), bN_take_all (by omega), num_bN_lt h]
    rw [List.drop_of_length_le (by rw [bN_len]; omega), toB_nil]
  · rw [if_neg h0]
    obtain rfl : c = 0 := by omega
    exact toB_nil
theorem bB_toB {L : List Bool} : ∃ k, k < 8 ∧ bB (toB L) = L ++ List.replicate k false := by
  generalize hn : L.length = n
  induction n using Nat.strongRecOn generalizing L with
  | _ n ih =>
    by_cases h : 8 ≤ L.length
    · obtain ⟨k, hk, he⟩ := ih (L.length - 8) (by omega) (L := L.drop 8) (by simp)
      refine ⟨k, hk, ?_⟩
      rw [toB_eq (by omega)]
      simp only [bB, Int.toNat_natCast]
      rw [he, bN_num' (by simp; omega), ← List.append_assoc, List.take_append_drop]
    · by_cases h0 : 0 < L.length
      · refine ⟨8 - L.length, by omega, ?_⟩
        rw [toB_eq h0, List.take_of_length_le (by omega), List.drop_of_length_le (by omega), toB_nil]
        simp only [bB, Int.toNat_natCast, List.append_nil]
        have e : 8 = L.length + (8 - L.length) := by omega
        rw [show bN (num L) 8 = bN (num L) (L.length + (8 - L.length)) by rw [← e], bN_add, bN_num, Nat.div_eq_of_lt (num_lt L), bN_zero]
      · have : L = [] := List.eq_nil_of_length_eq_zero (by omega)
        subst this
        exact ⟨0, by decide, by simp [toB_nil, bB]⟩

/-- A byte of the bits. -/
theorem toB_get (L : List Bool) (j : Nat) (h : j < (toB L).length) : (toB L)[j]? = some (num ((L.drop (8 * j)).take 8) : Int) := by
  induction j generalizing L with
  | zero =>
    rw [toB_len] at h
    rw [toB_eq (by omega)]; simp
  | succ j ih =>
    rw [toB_len] at h
    rw [toB_eq (by omega), List.getElem?_cons_succ, ih (L.drop 8) (by rw [toB_len]; simp; omega), List.drop_drop]
    rw [show 8 + 8 * j = 8 * (j + 1) by omega]

theorem rev_len (v n : Nat) : (bN v n).reverse.length = n := by rw [List.length_reverse, bN_len]
theorem rev_get (v n i : Nat) (h : i < n) : (bN v n).reverse[i]? = some (v.testBit (n - 1 - i)) := by
  rw [List.getElem?_reverse (by rw [bN_len]; exact h), bN_len, bN_get _ _ _ (by omega)]
theorem rev_succ (v i : Nat) : num (bN v (i + 1)).reverse = (v / 2 ^ i) % 2 + 2 * num (bN v i).reverse := by
  rw [bN_succ, List.reverse_append]
  simp only [List.reverse_cons, List.reverse_nil, List.nil_append, List.singleton_append, num]
  rw [← bit0, Nat.testBit_div_two_pow, Nat.zero_add]
theorem num_take_succ (R : List Bool) (i : Nat) (h : i < R.length) : num (R.take (i + 1)) = num (R.take i) + 2 ^ i * R[i].toNat := by
  rw [List.take_succ_eq_append_getElem h, num_snoc]
  simp only [List.length_take]
  rw [Nat.min_eq_left (by omega)]
theorem num_take_lt (R : List Bool) (i : Nat) : num (R.take i) < 2 ^ i := by
  have h1 := num_lt (R.take i)
  have h2 : (2 : Nat) ^ (R.take i).length ≤ 2 ^ i := Nat.pow_le_pow_right (by decide) (by simp; omega)
  omega
end Go.Proofs.YtmddnmpldmdllaaDoor

namespace Go.Proofs.YtmddnmpldmdllaaDoor
open Go.RowKit
set_option linter.unusedVariables false

/-! Canonical codes as numbers: how many of each length, each length's first code, the space taken. -/
def cC (zs : List Int) (l : Nat) : Nat := if l = 0 then 0 else zs.count (l : Int)
def cF (zs : List Int) : Nat → Nat
  | 0 => 0
  | l + 1 => 2 * (cF zs l + cC zs l)
def cS (zs : List Int) : Nat → Nat
  | 0 => 0
  | l + 1 => cS zs l + cC zs l
def cP (zs : List Int) : Nat → Nat
  | 0 => 0
  | l + 1 => cP zs l + cC zs l * 2 ^ (15 - l)
def rk (zs : List Int) (s : Nat) : Nat := (zs.take s).count (zs.getD s 0)
def ln (zs : List Int) (s : Nat) : Nat := (zs.getD s 0).toNat
def cd (zs : List Int) (s : Nat) : Nat := if zs.getD s 0 = 0 then 0 else cF zs (ln zs s) + rk zs s
/-- Lengths that may stand in a list. -/
def LOk (zs : List Int) : Prop := ∀ z ∈ zs, 0 ≤ z ∧ z ≤ 15
theorem LOk.get {zs : List Int} (h : LOk zs) (s : Nat) : 0 ≤ zs.getD s 0 ∧ zs.getD s 0 ≤ 15 := by
  by_cases c : s < zs.length
  · have := h (zs.getD s 0) (by simp [List.getD, c])
    exact this
  · simp [List.getD, c]
theorem LOk.ln {zs : List Int} (h : LOk zs) (s : Nat) : zs.getD s 0 = (ln zs s : Int) ∧ ln zs s ≤ 15 := by
  have := h.get s
  unfold Go.Proofs.YtmddnmpldmdllaaDoor.ln
  omega
theorem cC_zero (zs : List Int) : cC zs 0 = 0 := rfl
theorem cC_pos (zs : List Int) {l : Nat} (h : 0 < l) : cC zs l = zs.count (l : Int) := by unfold cC; rw [if_neg (by omega)]
theorem cC_le (zs : List Int) (l : Nat) : cC zs l ≤ zs.length := by
  unfold cC
  split
  · omega
  · exact List.count_le_length
theorem cC_snoc (zs : List Int) (z : Int) (l : Nat) : cC (zs ++ [z]) l = cC zs l + (if l ≠ 0 ∧ z = (l : Int) then 1 else 0) := by
  unfold cC
  by_cases h : l = 0
  · simp [h]
  · rw [if_neg h, if_neg h, List.count_append]
    by_cases c : z = (l : Int)
    · subst c; simp [h]
    · rw [if_neg (fun h => c h.2)]
      simp [c]
theorem cF_succ (zs : List Int) (l : Nat) : cF zs (l + 1) = 2 * (cF zs l + cC zs l) := rfl
theorem cS_succ (zs : List Int) (l : Nat) : cS zs (l + 1) = cS zs l + cC zs l := rfl
theorem cP_succ (zs : List Int) (l : Nat) : cP zs (l + 1) = cP zs l + cC zs l * 2 ^ (15 - l) := rfl
theorem pick_eq {P l q r : Nat} {z : Int} (h0 : 0 ≤ z) (c : z ≠ (l : Int)) : P + (if z ≠ 0 ∧ z.toNat < l then q else 0) + (r + 0) = P + r + (if z ≠ 0 ∧ z.toNat < l + 1 then q else 0) := by
  by_cases c2 : z ≠ 0 ∧ z.toNat < l
  · rw [if_pos c2, if_pos (show z ≠ 0 ∧ z.toNat < l + 1 from ⟨c2.1, by omega⟩)]; omega
  · rw [if_neg c2, if_neg (show ¬ (z ≠ 0 ∧ z.toNat < l + 1) by omega)]; omega
theorem pick_new {P l q r : Nat} : P + (if ((l : Nat) : Int) ≠ 0 ∧ ((l : Nat) : Int).toNat < l then q else 0) + (r + (if l ≠ 0 ∧ ((l : Nat) : Int) = (l : Int) then 1 else 0) * q) = P + r + (if ((l : Nat) : Int) ≠ 0 ∧ ((l : Nat) : Int).toNat < l + 1 then q else 0) := by
  by_cases hl : l = 0
  · rw [if_neg (by omega), if_neg (by omega), if_neg (by omega)]; omega
  · rw [if_neg (by omega), if_pos ⟨hl, rfl⟩, if_pos ⟨by omega, by omega⟩]; omega
theorem cP_snoc (zs : List Int) (z : Int) (h0 : 0 ≤ z) (l : Nat) : cP (zs ++ [z]) l = cP zs l + (if z ≠ 0 ∧ z.toNat < l then 2 ^ (15 - z.toNat) else 0) := by
  induction l with
  | zero => rw [if_neg (by omega)]; rfl
  | succ l ih =>
    rw [cP_succ, cP_succ, ih, cC_snoc, Nat.add_mul]
    by_cases c : z = (l : Int)
    · subst c
      have h2 : 15 - ((l : Nat) : Int).toNat = 15 - l := by omega
      rw [h2]
      generalize 2 ^ (15 - l) = q
      exact pick_new
    · rw [if_neg (show ¬ (l ≠ 0 ∧ z = (l : Int)) from fun h => c h.2), Nat.zero_mul]
      generalize 2 ^ (15 - z.toNat) = q
      generalize cC zs l * 2 ^ (15 - l) = r
      exact pick_eq h0 c
theorem cS_snoc (zs : List Int) (z : Int) (h0 : 0 ≤ z) : ∀ l, cS (zs ++ [z]) l = cS zs l + (if z ≠ 0 ∧ z.toNat < l then 1 else 0)
  | 0 => by simp [cS]
  | l + 1 => by
    have ih := cS_snoc zs z h0 l
    rw [cS_succ, cS_succ, ih, cC_snoc]
    by_cases c : z = (l : Int)
    · subst c
      by_cases hl : l = 0
      · subst hl; simp
      · rw [if_neg (by omega), if_pos ⟨hl, rfl⟩, if_pos ⟨by omega, by omega⟩]
        omega
    · rw [if_neg (show ¬ (l ≠ 0 ∧ z = (l : Int)) from fun h => c h.2)]
      by_cases c2 : z ≠ 0 ∧ z.toNat < l
      · rw [if_pos c2, if_pos (show z ≠ 0 ∧ z.toNat < l + 1 from ⟨c2.1, by omega⟩)]; omega
      · rw [if_neg c2, if_neg (show ¬ (z ≠ 0 ∧ z.toNat < l + 1) by omega)]; omega
theorem cP_nil : ∀ l, cP [] l = 0
  | 0 => rfl
  | l + 1 => by rw [cP_succ, cP_nil l]; unfold cC; split <;> simp
theorem cS_nil : ∀ l, cS [] l = 0
  | 0 => rfl
  | l + 1 => by rw [cS_succ, cS_nil l]; unfold cC; split <;> simp
theorem cF_cP (zs : List Int) : ∀ l, l ≤ 15 → cF zs l * 2 ^ (15 - l) = cP zs l
  | 0, _ => by simp [cF, cP]
  | l + 1, h => by
    have ih := cF_cP zs l (by omega)
    rw [cF_succ, cP_succ, ← ih, ← Nat.add_mul, show 15 - l = (15 - (l + 1)) + 1 by omega, Nat.pow_succ]
    rw [Nat.mul_comm 2, Nat.mul_assoc, Nat.mul_comm 2]
theorem cP_mono (zs : List Int) {a : Nat} : ∀ {b : Nat}, a ≤ b → cP zs a ≤ cP zs b
  | 0, h => by have : a = 0 := by omega
               subst this; exact Nat.le_refl _
  | b + 1, h => by
    by_cases c : a = b + 1
    · subst c; exact Nat.le_refl _
    · have := cP_mono zs (a := a) (b := b) (by omega)
      rw [cP_succ]
      omega
theorem cS_mono (zs : List Int) {a : Nat} : ∀ {b : Nat}, a ≤ b → cS zs a ≤ cS zs b
  | 0, h => by have : a = 0 := by omega
               subst this; exact Nat.le_refl _
  | b + 1, h => by
    by_cases c : a = b + 1
    · subst c; exact Nat.le_refl _
    · have := cS_mono zs (a := a) (b := b) (by omega)
      rw [cS_succ]
      omega
/-- How much of the space they take; how many have a code. -/
def spc (zs : List Int) : Nat := cP zs 16
def tot (zs : List Int) : Nat := cS zs 16
theorem spc_snoc (zs : List Int) {z : Int} (h : 0 ≤ z ∧ z ≤ 15) : spc (zs ++ [z]) = spc zs + (if z = 0 then 0 else 2 ^ (15 - z.toNat)) := by
  unfold spc
  rw [cP_snoc zs z h.1]
  by_cases c : z = 0
  · simp [c]
  · rw [if_pos ⟨c, by omega⟩, if_neg c]
theorem tot_snoc (zs : List Int) {z : Int} (h : 0 ≤ z ∧ z ≤ 15) : tot (zs ++ [z]) = tot zs + (if z = 0 then 0 else 1) := by
  unfold tot
  rw [cS_snoc zs z h.1]
  by_cases c : z = 0
  · simp [c]
  · rw [if_pos ⟨c, by omega⟩, if_neg c]
theorem cP_le (zs : List Int) (l : Nat) : cP zs l ≤ cS zs l * 16384 := by
  induction l with
  | zero => exact Nat.zero_le _
  | succ l ih =>
    rw [cP_succ, cS_succ, Nat.add_mul]
    refine Nat.add_le_add ih ?_
    rcases Nat.eq_zero_or_pos l with rfl | h
    · rw [cC_zero, Nat.zero_mul]; exact Nat.zero_le _
    · exact Nat.mul_le_mul_left _ (Nat.pow_le_pow_right (by decide) (show 15 - l ≤ 14 by omega))
theorem cP_small {zs : List Int} (h : cC zs 1 = 0) (l : Nat) : cP zs (l + 2) ≤ cS zs (l + 2) * 8192 := by
  induction l with
  | zero => rw [cP_succ, cP_succ, cC_zero, h, Nat.zero_mul]; exact Nat.zero_le _
  | succ l ih =>
    rw [cP_succ, cS_succ, Nat.add_mul]
    exact Nat.add_le_add ih (Nat.mul_le_mul_left _ (Nat.pow_le_pow_right (by decide) (show 15 - (l + 2) ≤ 13 by omega)))
theorem cP_one {zs : List Int} (h : cC zs 1 = 1) (l : Nat) (hs : cS zs (l + 2) ≤ 1) : cP zs (l + 2) = 16384 := by
  induction l with
  | zero => rw [cP_succ, cP_succ, cC_zero, h, Nat.zero_mul, Nat.one_mul]; show 0 + 0 + 2 ^ 14 = 16384; decide
  | succ l ih =>
    rw [cS_succ] at hs
    have h1 := cS_mono zs (a := 2) (b := l + 2) (by omega)
    have h2 : cS zs 2 = 1 := by rw [cS_succ, cS_succ, cC_zero, h]; rfl
    have h3 : cC zs (l + 2) = 0 := by omega
    rw [cP_succ, h3, Nat.zero_mul, ih (by omega)]
theorem spc_tot (zs : List Int) : spc zs ≤ tot zs * 16384 := cP_le zs 16
/-- One symbol alone: half of the space is that of a length of 1. -/
theorem one_half {zs : List Int} (h : tot zs = 1) : spc zs = 16384 ↔ cC zs 1 = 1 := by
  have h1 : cS zs 2 ≤ cS zs 16 := cS_mono zs (by omega)
  have h2 : cS zs 2 = cC zs 1 := by rw [cS_succ, cS_succ, cC_zero]; simp [cS]
  have h3 : cS zs 16 = 1 := h
  constructor
  · intro e
    rcases Nat.eq_zero_or_pos (cC zs 1) with h4 | h4
    · exfalso
      have h5 : cP zs 16 ≤ cS zs 16 * 8192 := cP_small h4 14
      have h6 : cP zs 16 = 16384 := e
      rw [h3, h6] at h5
      exact absurd h5 (by decide)
    · omega
  · intro e
    exact cP_one e 14 (Nat.le_of_eq h3)
theorem tot_le : ∀ zs : List Int, LOk zs → tot zs ≤ zs.length := by
  intro zs h
  have key : ∀ k, k ≤ zs.length → tot (zs.take k) ≤ k := by
    intro k
    induction k with
    | zero => intro _; rw [List.take_zero]; exact Nat.le_of_eq (cS_nil 16)
    | succ k ih =>
      intro hk
      have h1 := ih (by omega)
      have e : zs.take (k + 1) = zs.take k ++ [zs.getD k 0] := by
        rw [List.take_add_one, List.getElem?_eq_getElem (by omega)]
        simp [List.getD, show k < zs.length by omega]
      rw [e, tot_snoc _ (h.get k)]
      split <;> omega
  have := key zs.length (Nat.le_refl _)
  rwa [List.take_length] at this
/-- A symbol's rank is below its length's number. -/
theorem rk_lt {zs : List Int} {s : Nat} (hs : s < zs.length) : rk zs s < zs.count (zs.getD s 0) := by
  unfold rk
  have h1 : zs = zs.take s ++ zs.drop s := (List.take_append_drop s zs).symm
  have h2 : zs.drop s = zs.getD s 0 :: zs.drop (s + 1) := by
    rw [List.drop_eq_getElem_cons hs]
    simp [List.getD, hs]
  have h3 : zs.count (zs.getD s 0) = (zs.take s).count (zs.getD s 0) + (zs.drop s).count (zs.getD s 0) := by
    conv => lhs; rw [h1]
    rw [List.count_append]
    simp
  rw [h3, h2, List.count_cons]
  simp
theorem rk_lt_c {zs : List Int} (h : LOk zs) {s : Nat} (hs : s < zs.length) (h0 : zs.getD s 0 ≠ 0) : rk zs s < cC zs (ln zs s) := by
  have := h.ln s
  rw [cC_pos zs (by omega), ← this.1]
  exact rk_lt hs
/-- Each rank is some symbol's. -/
theorem rk_has : ∀ (zs : List Int) (z : Int) (r : Nat), r < zs.count z → ∃ s, s < zs.length ∧ zs.getD s 0 = z ∧ rk zs s = r
  | [], z, r, h => by simp at h
  | y :: zs, z, r, h => by
    by_cases c : y = z
    · subst c
      by_cases hr : r = 0
      · exact ⟨0, by simp, by simp, by simp [rk, hr]⟩
      · obtain ⟨s, h1, h2, h3⟩ := rk_has zs y (r - 1) (by rw [List.count_cons] at h; simp at h; omega)
        refine ⟨s + 1, by simp; omega, by simpa [List.getD] using h2, ?_⟩
        unfold rk at h3 ⊢
        rw [h2] at h3
        have : (y :: zs).getD (s + 1) 0 = y := by simpa [List.getD] using h2
        rw [this, List.take_succ_cons, List.count_cons, h3]
        simp
        omega
    · obtain ⟨s, h1, h2, h3⟩ := rk_has zs z r (by rw [List.count_cons] at h; simpa [c] using h)
      refine ⟨s + 1, by simp; omega, by simpa [List.getD] using h2, ?_⟩
      unfold rk at h3 ⊢
      rw [h2] at h3
      have : (y :: zs).getD (s + 1) 0 = z := by simpa [List.getD] using h2
      rw [this, List.take_succ_cons, List.count_cons, h3]
      simp [c]
/-- Two symbols of one length have two ranks. -/
theorem rk_inj {zs : List Int} {s t : Nat} (hs : s < zs.length) (ht : t < zs.length) (he : zs.getD s 0 = zs.getD t 0) (hr : rk zs s = rk zs t) : s = t := by
  have key : ∀ a b, a < b → b < zs.length → zs.getD a 0 = zs.getD b 0 → rk zs a < rk zs b := by
    intro a b hab hb e
    unfold rk
    have h1 : (zs.take b).take a = zs.take a := by rw [List.take_take, Nat.min_eq_left (by omega)]
    have h2 := rk_lt (zs := zs.take b) (s := a) (by simp; omega)
    unfold rk at h2
    have h3 : (zs.take b).getD a 0 = zs.getD a 0 := by simp [List.getD, hab]
    rw [h1, h3, e] at h2
    rw [e]
    exact h2
  rcases Nat.lt_trichotomy s t with h | h | h
  · have := key s t h ht he; omega
  · exact h
  · have := key t s h hs he.symm; omega
/-- Where a code begins in the space, and where it ends. -/
theorem lo_eq {zs : List Int} (h : LOk zs) {s : Nat} (h0 : zs.getD s 0 ≠ 0) : cd zs s * 2 ^ (15 - ln zs s) = cP zs (ln zs s) + rk zs s * 2 ^ (15 - ln zs s) := by
  unfold cd
  rw [if_neg h0, Nat.add_mul, cF_cP zs _ (h.ln s).2]
theorem hi_le {zs : List Int} (h : LOk zs) {s : Nat} (hs : s < zs.length) (h0 : zs.getD s 0 ≠ 0) : (cd zs s + 1) * 2 ^ (15 - ln zs s) ≤ cP zs (ln zs s + 1) := by
  rw [Nat.add_mul, lo_eq h h0, cP_succ]
  have := Nat.mul_le_mul_right (2 ^ (15 - ln zs s)) (show rk zs s + 1 ≤ cC zs (ln zs s) from rk_lt_c h hs h0)
  rw [Nat.add_mul] at this
  omega
theorem hi_spc {zs : List Int} (h : LOk zs) {s : Nat} (hs : s < zs.length) (h0 : zs.getD s 0 ≠ 0) : (cd zs s + 1) * 2 ^ (15 - ln zs s) ≤ spc zs :=
  Nat.le_trans (hi_le h hs h0) (cP_mono zs (by have := (h.ln s).2; omega))
theorem ln_pos {zs : List Int} (h : LOk zs) {s : Nat} (h0 : zs.getD s 0 ≠ 0) : 0 < ln zs s := by have := h.ln s; omega
/-- A code has as many bits as its length says. -/
theorem cd_lt {zs : List Int} (h : LOk zs) (hp : spc zs ≤ 32768) {s : Nat} (hs : s < zs.length) : cd zs s < 2 ^ ln zs s := by
  by_cases h0 : zs.getD s 0 = 0
  · unfold cd; rw [if_pos h0]; exact Nat.two_pow_pos _
  · have h1 := hi_spc h hs h0
    have h2 : (2 : Nat) ^ ln zs s * 2 ^ (15 - ln zs s) = 32768 := by
      rw [← Nat.pow_add, show ln zs s + (15 - ln zs s) = 15 by have := (h.ln s).2; omega]
    rw [← h2] at hp
    have := Nat.le_of_mul_le_mul_right (Nat.le_trans h1 hp) (Nat.two_pow_pos _)
    omega
/-- No code begins another one. -/
theorem cd_apart {zs : List Int} (h : LOk zs) {s t : Nat} (hs : s < zs.length) (ht : t < zs.length) (h0 : zs.getD s 0 ≠ 0) (hle : ln zs s ≤ ln zs t) (hb : cd zs t / 2 ^ (ln zs t - ln zs s) = cd zs s) : s = t := by
  have t0 : zs.getD t 0 ≠ 0 := by have := ln_pos h h0; have := h.ln t; omega
  by_cases c : ln zs s = ln zs t
  · have e : zs.getD s 0 = zs.getD t 0 := by rw [(h.ln s).1, (h.ln t).1, c]
    rw [c, Nat.sub_self, Nat.pow_zero, Nat.div_one] at hb
    unfold cd at hb
    rw [if_neg h0, if_neg t0, c] at hb
    exact rk_inj hs ht e (by omega)
  · exfalso
    have h1 := hi_le h hs h0
    have h2 := cP_mono zs (a := ln zs s + 1) (b := ln zs t) (by omega)
    have h3 := lo_eq h t0
    have h4 : cd zs t < (cd zs s + 1) * 2 ^ (ln zs t - ln zs s) := by
      rw [← hb, Nat.mul_comm]
      exact Nat.lt_mul_div_succ _ (Nat.two_pow_pos _)
    have h5 : (cd zs s + 1) * 2 ^ (15 - ln zs s) = (cd zs s + 1) * 2 ^ (ln zs t - ln zs s) * 2 ^ (15 - ln zs t) := by
      rw [Nat.mul_assoc, ← Nat.pow_add, show ln zs t - ln zs s + (15 - ln zs t) = 15 - ln zs s by have := (h.ln t).2; omega]
    have h6 := Nat.mul_lt_mul_of_pos_right h4 (Nat.two_pow_pos (15 - ln zs t))
    omega
/-- Every place of the space that is taken lies in a code. -/
theorem cover {zs : List Int} (h : LOk zs) {p : Nat} (hp : p < spc zs) : ∃ s, s < zs.length ∧ zs.getD s 0 ≠ 0 ∧ cd zs s * 2 ^ (15 - ln zs s) ≤ p ∧ p < (cd zs s + 1) * 2 ^ (15 - ln zs s) := by
  have key : ∀ l, l ≤ 16 → p < cP zs l → ∃ j, j < l ∧ cP zs j ≤ p ∧ p < cP zs (j + 1) := by
    intro l
    induction l with
    | zero => intro _ h; simp [cP] at h
    | succ l ih =>
      intro hl hc
      by_cases c : p < cP zs l
      · obtain ⟨j, h1, h2, h3⟩ := ih (by omega) c
        exact ⟨j, by omega, h2, h3⟩
      · exact ⟨l, by omega, by omega, hc⟩
  obtain ⟨l, hl, h1, h2⟩ := key 16 (Nat.le_refl _) hp
  have hq : (p - cP zs l) / 2 ^ (15 - l) < cC zs l := by
    rw [Nat.div_lt_iff_lt_mul (Nat.two_pow_pos _)]
    rw [cP_succ] at h2
    omega
  have l0 : 0 < l := by
    rcases Nat.eq_zero_or_pos l with rfl | h
    · rw [cC_zero] at hq; omega
    · exact h
  rw [cC_pos zs l0] at hq
  obtain ⟨s, hs, e, er⟩ := rk_has zs (l : Int) _ hq
  have hln : ln zs s = l := by unfold ln; rw [e]; simp
  have s0 : zs.getD s 0 ≠ 0 := by rw [e]; omega
  refine ⟨s, hs, s0, ?_, ?_⟩
  · rw [lo_eq h s0, hln, er]
    have := Nat.div_mul_le_self (p - cP zs l) (2 ^ (15 - l))
    omega
  · rw [Nat.add_mul, lo_eq h s0, hln, er]
    have := Nat.lt_div_mul_add (a := p - cP zs l) (Nat.two_pow_pos (15 - l))
    omega
end Go.Proofs.YtmddnmpldmdllaaDoor

namespace Go.Proofs.YtmddnmpldmdllaaDoor
open Go.RowKit

/-! A block of two cells. -/
theorem two_cell0 {w : World} {b : Nat} {u v : Value} {t : TypeId} (h : w.heap[b]? = some (.cells #[u, v] t (0, 0))) : w.cell? ⟨b, 0, none⟩ = some u := by simp [World.cell?, h]
theorem two_cell1 {w : World} {b : Nat} {u v : Value} {t : TypeId} (h : w.heap[b]? = some (.cells #[u, v] t (0, 0))) : w.cell? ⟨b, 1, none⟩ = some v := by simp [World.cell?, h]
theorem two_free {w : World} {b : Nat} {u v : Value} {t : TypeId} (h : w.heap[b]? = some (.cells #[u, v] t (0, 0))) (i : Nat) : w.frozen? ⟨b, i, none⟩ = false := by simp [World.frozen?, h]
theorem two_set0 {w : World} {b : Nat} {u v : Value} {t : TypeId} (h : w.heap[b]? = some (.cells #[u, v] t (0, 0))) (x : Value) : (w.setCell ⟨b, 0, none⟩ x).heap[b]? = some (.cells #[x, v] t (0, 0)) := by
  simp [World.setCell, Array.getElem?_modify, h]
theorem two_set1 {w : World} {b : Nat} {u v : Value} {t : TypeId} (h : w.heap[b]? = some (.cells #[u, v] t (0, 0))) (x : Value) : (w.setCell ⟨b, 1, none⟩ x).heap[b]? = some (.cells #[u, x] t (0, 0)) := by
  simp [World.setCell, Array.getElem?_modify, h]

/-! What one row's writer leaves of the others. -/
theorem grownBy_trans {a b c : World} {row : Option Nat} (h : a.grownBy b row) (k : b.grownBy c row) : a.grownBy c row :=
  ⟨k.os.trans h.os, k.tape.trans h.tape, k.output.trans h.output, Nat.le_trans h.size k.size, fun i hi hne => (k.block i (Nat.lt_of_lt_of_le hi h.size) hne).trans (h.block i hi hne)⟩
theorem grownBy_drew {a b : World} {row : Option Nat} (h : a.grownBy b row) : a.grownBy b.drew row := ⟨h.os, h.tape, h.output, h.size, h.block⟩
theorem grownBy_drewN {a b : World} {row : Option Nat} (h : a.grownBy b row) (n : Nat) : a.grownBy (b.drewN n) row := ⟨h.os, h.tape, h.output, h.size, h.block⟩
theorem grownBy_set {a w : World} {b i : Nat} (h : a.grownBy w (some b)) (x : Value) : a.grownBy (w.setCell ⟨b, i, none⟩ x) (some b) :=
  grownBy_trans h ⟨rfl, rfl, rfl, by simp [World.setCell], fun k _ hne => Below.heap_setCell _ _ _ _ (fun e => hne (by rw [e]))⟩
theorem grownBy_of_none {a w : World} {row : Option Nat} (h : a.grownBy w none) : a.grownBy w row := ⟨h.os, h.tape, h.output, h.size, fun k hk _ => h.block k hk (by simp)⟩
theorem below_of_grown {a w : World} {b B : Nat} (h : a.grownBy w (some b)) (hB : B ≤ b) (hs : B ≤ a.heap.size) : Below B a w :=
  (Below.refl B a).grown h hs (by intro k e; cases e; exact hB)

theorem ret3 {a a' b b' c c' : Value} (h : a = a') (h' : b = b') (h'' : c = c') : Ending.returned (.tuple #[a, b, c]) = .returned (.tuple #[a', b', c']) := by rw [h, h', h'']
end Go.Proofs.YtmddnmpldmdllaaDoor

namespace Go.Proofs.YtmddnmpldmdllaaDoor
open Go.RowKit
set_option linter.unusedVariables false

/-- Bytes lie where a slice's address leads. -/
structure SegK (k : IntKind) (M : Int) (w : World) (a : Option Addr) (zs : List Int) : Prop where
  at_ : ∀ i, i < zs.length → ∃ b off, a = some ⟨b, off, none⟩ ∧ w.cell? ⟨b, off + i, none⟩ = some (.int k (zs.getD i 0))
  pos : 0 ≤ M
  bd : ∀ i, 0 ≤ zs.getD i 0 ∧ zs.getD i 0 ≤ M
abbrev Seg (w : World) (a : Option Addr) (zs : List Int) : Prop := SegK .u8 255 w a zs
abbrev Seg64 (w : World) (a : Option Addr) (zs : List Int) : Prop := SegK .u64 18446744073709551615 w a zs
variable {k : IntKind} {M : Int}

theorem SegK.nil (hM : 0 ≤ M) (w : World) (a : Option Addr) : SegK k M w a [] := ⟨fun i h => by simp at h, hM, fun i => by simp [hM]⟩
theorem SegK.of_cells {w w' : World} {a : Option Addr} {zs : List Int} (h : SegK k M w a zs) (hc : ∀ b off i v, i < zs.length → a = some ⟨b, off, none⟩ → w.cell? ⟨b, off + i, none⟩ = some v → w'.cell? ⟨b, off + i, none⟩ = some v) : SegK k M w' a zs :=
  ⟨fun i hi => by obtain ⟨b, off, ha, hcl⟩ := h.at_ i hi; exact ⟨b, off, ha, hc b off i _ hi ha hcl⟩, h.pos, h.bd⟩
theorem SegK.below {w w' : World} {a : Option Addr} {zs : List Int} {B : Nat} (h : SegK k M w a zs) (hb : Below B w w') (hB : ∀ b off, a = some ⟨b, off, none⟩ → 0 < zs.length → b < B) : SegK k M w' a zs :=
  h.of_cells fun b off i v hi ha hcl => (hb.cell (p := ⟨b, off + i, none⟩) (hB b off ha (by omega))).trans hcl
theorem SegK.lt {w : World} {a : Option Addr} {zs : List Int} (h : SegK k M w a zs) : ∀ b off, a = some ⟨b, off, none⟩ → 0 < zs.length → b < w.heap.size := by
  intro b off ha hl
  obtain ⟨b', off', ha', hc⟩ := h.at_ 0 hl
  rw [ha] at ha'
  cases ha'
  exact World.block_lt_of_cell? w _ hc
theorem SegK.old {w w' : World} {a : Option Addr} {zs : List Int} (h : SegK k M w a zs) (hb : Below w.heap.size w w') : SegK k M w' a zs := h.below hb h.lt
theorem SegK.drewN {w : World} {a : Option Addr} {zs : List Int} (h : SegK k M w a zs) (n : Nat) : SegK k M (w.drewN n) a zs := ⟨h.at_, h.pos, h.bd⟩
theorem SegK.drew {w : World} {a : Option Addr} {zs : List Int} (h : SegK k M w a zs) : SegK k M w.drew a zs := ⟨h.at_, h.pos, h.bd⟩
theorem SegK.alloc {w : World} {a : Option Addr} {zs : List Int} (h : SegK k M w a zs) (o : Obj) : SegK k M (w.alloc o) a zs := h.old ((Below.refl _ _).alloc (Nat.le_refl _) o)
theorem SegK.grown {w w' : World} {a : Option Addr} {zs : List Int} {row : Option Nat} (h : SegK k M w a zs) (hg : w.grownBy w' row) (hne : ∀ b off, a = some ⟨b, off, none⟩ → 0 < zs.length → some b ≠ row) : SegK k M w' a zs :=
  h.of_cells fun b off i v hi ha hcl => hg.cell hcl (hne b off ha (by omega))
theorem SegK.take {w : World} {a : Option Addr} {zs : List Int} (h : SegK k M w a zs) (m : Nat) : SegK k M w a (zs.take m) := by
  refine ⟨fun i hi => ?_, h.pos, fun i => ?_⟩
  · simp at hi
    obtain ⟨b, off, ha, hc⟩ := h.at_ i (by omega)
    refine ⟨b, off, ha, ?_⟩
    rw [hc]
    have hk : i < m := by omega
    simp [List.getD, hk]
  · have := h.bd i
    simp only [List.getD, List.getElem?_take]
    split
    · exact this
    · simp [h.pos]
theorem SegK.mem {w : World} {a : Option Addr} {zs : List Int} (h : SegK k M w a zs) : ∀ z ∈ zs, 0 ≤ z ∧ z ≤ M := by
  intro z hz
  obtain ⟨i, hi, rfl⟩ := List.mem_iff_getElem.1 hz
  have := h.bd i
  simpa [List.getD, hi] using this
theorem SegK.drop {w : World} {b off : Nat} {zs : List Int} (h : SegK k M w (some ⟨b, off, none⟩) zs) (m : Nat) : SegK k M w (some ⟨b, off + m, none⟩) (zs.drop m) := by
  refine ⟨fun i hi => ?_, h.pos, fun i => ?_⟩
  · simp at hi
    obtain ⟨b', off', ha, hc⟩ := h.at_ (m + i) (by omega)
    cases ha
    refine ⟨b, off + m, rfl, ?_⟩
    rw [Nat.add_assoc, hc]
    simp [List.getD]
  · have := h.bd (m + i)
    simpa [List.getD] using this
end Go.Proofs.YtmddnmpldmdllaaDoor
