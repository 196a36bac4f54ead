import Derived.Test.YtmpbaabmpcejdaaDec
namespace Go.Proofs.Ytmpbaabmpcejdaa
open Go.RowKit
set_option linter.unusedVariables false

/-- The number that bytes are. -/
def valL : List Int → Int
  | [] => 0
  | z :: r => z % 128 + 128 * valL r
theorem valL_pos : ∀ zs : List Int, 0 ≤ valL zs
  | [] => by simp [valL]
  | z :: r => by have := valL_pos r; simp only [valL]; omega
theorem valL_snoc : ∀ (l : List Int) (x : Int), valL (l ++ [x]) = valL l + x % 128 * 128 ^ l.length
  | [], x => by simp [valL]
  | z :: r, x => by
    simp only [List.cons_append, valL, valL_snoc r x, List.length_cons, Int.pow_succ]
    have e : x % 128 * (128 ^ r.length * 128) = 128 * (x % 128 * 128 ^ r.length) := by rw [← Int.mul_assoc, Int.mul_comm]
    rw [e]
    omega
theorem valL_lt : ∀ l : List Int, valL l < 128 ^ l.length
  | [] => by simp [valL]
  | z :: r => by
    have := valL_lt r
    simp only [valL, List.length_cons, Int.pow_succ]
    omega
theorem valL_take (zs : List Int) (k : Nat) (h : k < zs.length) : valL (zs.take (k + 1)) = tkVal (valL (zs.take k)) k (zs.getD k 0) := by
  rw [List.take_succ_eq_append_getElem h, valL_snoc]
  unfold tkVal
  simp [List.getD, h, Nat.min_eq_left (Nat.le_of_lt h)]
theorem valL_drop_le : ∀ (zs : List Int) (k : Nat), valL (zs.drop k) ≤ valL zs
  | zs, 0 => by simp
  | [], k + 1 => by simp
  | z :: r, k + 1 => by
    have h1 := valL_drop_le r k
    have h2 := valL_pos r
    simp only [List.drop_succ_cons, valL]
    omega
end Go.Proofs.Ytmpbaabmpcejdaa
