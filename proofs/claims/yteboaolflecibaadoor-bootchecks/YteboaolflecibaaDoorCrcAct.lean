
import Derived.Test.YteboaolflecibaaDoorCrcMath
namespace Go.Proofs.YteboaolflecibaaDoor
open Go.RowKit
set_option linter.unusedVariables false
set_option linter.unusedSimpArgs false

/-! The product of two words' polynomials. -/
def oneW : W32 := 2147483648#32
def actN (a : W32) : Nat → W32 → W32
  | 0, _ => 0#32
  | i + 1, b => actN a i b ^^^ (if a.getLsbD (31 - i) then onN i b else 0#32)
def act (a b : W32) : W32 := actN a 32 b

theorem xor4 (a b c d : W32) : (a ^^^ b) ^^^ (c ^^^ d) = (a ^^^ c) ^^^ (b ^^^ d) := by
  simp only [BitVec.xor_assoc, bxor_left_comm]
theorem actN_xor (a : W32) (i : Nat) (b c : W32) : actN a i (b ^^^ c) = actN a i b ^^^ actN a i c := by
  induction i with
  | zero => simp [actN]
  | succ i ih =>
    simp only [actN, ih, onN_xor]
    split
    · rw [xor4]
    · simp
theorem actN_zero (a : W32) (i : Nat) : actN a i 0#32 = 0#32 := by
  induction i with
  | zero => rfl
  | succ i ih => simp only [actN, ih, onN_zero]; split <;> simp
theorem actN_on (a : W32) (i : Nat) (b : W32) : actN a i (on b) = on (actN a i b) := by
  induction i with
  | zero => simp [actN, on_zero]
  | succ i ih =>
    have e : onN i (on b) = on (onN i b) := onN_comm i 1 b
    simp only [actN, ih, on_xor, e]
    split
    · rfl
    · rw [on_zero]
theorem actN_onN (a : W32) (i k : Nat) (b : W32) : actN a i (onN k b) = onN k (actN a i b) := by
  induction k with
  | zero => rfl
  | succ k ih => simp only [onN, actN_on, ih]
theorem actN_comm (a b : W32) (m n : Nat) (c : W32) : actN a m (actN b n c) = actN b n (actN a m c) := by
  induction m with
  | zero => simp only [actN, actN_zero]
  | succ m ih =>
    simp only [actN, actN_xor, ih]
    split
    · rw [actN_onN]
    · rw [actN_zero]
theorem onN_one : ∀ i : Fin 32, onN i.val oneW = BitVec.twoPow 32 (31 - i.val) := by decide +kernel
theorem actN_one (a : W32) (n : Nat) (hn : n ≤ 32) (j : Nat) (hj : j < 32) : (actN a n oneW).getLsbD j = (decide (31 - j < n) && a.getLsbD j) := by
  induction n with
  | zero => simp [actN]
  | succ n ih =>
    have e := onN_one ⟨n, by omega⟩
    simp only at e
    simp only [actN, BitVec.getLsbD_xor, ih (by omega), e]
    by_cases h : j = 31 - n
    · subst h
      have h1 : ¬ (31 - (31 - n) < n) := by omega
      have h2 : 31 - (31 - n) < n + 1 := by omega
      cases ha : a.getLsbD (31 - n)
      · simp
      · simp only [h1, h2, decide_true, decide_false, Bool.false_and, Bool.true_and, if_true, BitVec.getLsbD_twoPow, hj]
        rfl
    · have h1 : decide (31 - j < n + 1) = decide (31 - j < n) := by simp only [decide_eq_decide]; omega
      rw [h1]
      split
      · rw [BitVec.getLsbD_twoPow]
        have : decide (31 - n = j) = false := by simp; omega
        rw [this]
        simp
      · simp
theorem act_one (a : W32) : act a oneW = a := by
  apply BitVec.eq_of_getLsbD_eq
  intro j hj
  rw [act, actN_one a 32 (by decide) j hj]
  have : 31 - j < 32 := by omega
  simp only [this, decide_true, Bool.true_and]
theorem act_comm (a b : W32) : act a b = act b a := by
  conv => lhs; rw [← act_one b]
  conv => rhs; rw [← act_one a]
  exact actN_comm _ _ _ _ _
theorem act_pow (a : W32) (k : Nat) : act a (onN k oneW) = onN k a := by
  rw [act, actN_onN]
  exact congrArg _ (act_one a)
theorem act_pow' (k : Nat) (b : W32) : act (onN k oneW) b = onN k b := by
  rw [act_comm, act_pow]

/-! The register's way over bytes. -/
def bW (x : Int) : W32 := BitVec.ofNat 32 x.toNat
def takeW (r : W32) (x : Int) : W32 := onN 8 (r ^^^ bW x)
def runW : W32 → List Int → W32
  | r, [] => r
  | r, x :: l => runW (takeW r x) l
theorem runW_append (r : W32) (l m : List Int) : runW r (l ++ m) = runW (runW r l) m := by
  induction l generalizing r with
  | nil => rfl
  | cons x l ih => exact ih _
theorem runW_snoc (r : W32) (l : List Int) (x : Int) : runW r (l ++ [x]) = takeW (runW r l) x := by rw [runW_append]; rfl
theorem runW_xor (r s : W32) (l : List Int) : runW (r ^^^ s) l = onN (8 * l.length) r ^^^ runW s l := by
  induction l generalizing r s with
  | nil => rfl
  | cons x l ih =>
    have e : takeW (r ^^^ s) x = onN 8 r ^^^ takeW s x := by
      unfold takeW
      rw [← onN_xor, BitVec.xor_assoc]
    show runW (takeW (r ^^^ s) x) l = _
    rw [e, ih, ← onN_add]
    show _ = _ ^^^ runW (takeW s x) l
    congr 2
theorem runW_lin (r : W32) (l : List Int) : runW r l = onN (8 * l.length) r ^^^ runW 0#32 l := by
  have := runW_xor r 0#32 l
  rwa [BitVec.xor_zero] at this
theorem runW_zeros (r : W32) (n : Nat) : runW r (List.replicate n 0) = onN (8 * n) r := by
  induction n generalizing r with
  | zero => rfl
  | succ n ih =>
    have e : takeW r 0 = onN 8 r := by
      unfold takeW bW
      simp
    rw [List.replicate_succ]
    show runW (takeW r 0) _ = _
    rw [e, ih, ← onN_add]
    congr 1
/-- The sum of bytes. -/
def sumW (l : List Int) : W32 := ~~~ (runW (~~~ 0#32) l)
theorem not_not (a : W32) : ~~~ (~~~ a) = a := BitVec.not_not
theorem sumW_append (l m : List Int) : sumW (l ++ m) = onN (8 * m.length) (sumW l) ^^^ sumW m := by
  unfold sumW
  rw [runW_append]
  generalize hr : runW (~~~ 0#32) l = r
  have e : r = (~~~ r) ^^^ (~~~ 0#32) := by
    apply BitVec.eq_of_getLsbD_eq
    intro i hi
    simp only [BitVec.getLsbD_xor, BitVec.getLsbD_not, hi, decide_true, Bool.true_and, BitVec.getLsbD_zero]
    cases r.getLsbD i <;> rfl
  conv => lhs; rw [e]
  rw [runW_xor]
  apply BitVec.eq_of_getLsbD_eq
  intro i hi
  simp [-BitVec.getLsbD_eq_getElem, hi]
end Go.Proofs.YteboaolflecibaaDoor
