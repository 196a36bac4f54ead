
import Derived.Test.YtoeabfcnfofbiabDoorHdR1
namespace Go.Proofs.YtoeabfcnfofbiabDoor
open Go.RowKit
set_option linter.unusedVariables false

/-! The document's row, Runs. -/
theorem rep8_fuel : ∀ (f g k : Nat), k ≤ f → k ≤ g → rep8 f k = rep8 g k
  | 0, 0, k, _, _ => rfl
  | 0, g + 1, k, h, _ => by rw [rep8, rep8, if_neg (by omega)]
  | f + 1, 0, k, _, h => by rw [rep8, rep8, if_neg (by omega)]
  | f + 1, g + 1, k, h1, h2 => by
    rw [rep8, rep8]
    split
    · rw [rep8_fuel f g (k - min k 6) (by omega) (by omega)]
    · rfl
theorem rep8_step {k : Nat} (h : 3 ≤ k) : rep8 k k = ⟨16, (min k 6 : Nat)⟩ :: rep8 (k - min k 6) (k - min k 6) := by
  rw [show k = (k - 1) + 1 by omega, rep8, if_pos (by omega), rep8_fuel (k - 1) (k - 1 + 1 - min (k - 1 + 1) 6) _ (by omega) (by omega)]
theorem rep8_stop {k : Nat} (h : ¬ 3 ≤ k) : rep8 k k = [] := by
  cases k with
  | zero => rfl
  | succ k => rw [rep8, if_neg h]
def NQ (w : World) (ty : TypeId) (R : List Rn8) (e : Ending) (w' : World) : Prop := ∃ oa oc, e = .returned (.slice oa R.length oc) ∧ w'.ownsRow w.heap.size ty 2 (.slice oa R.length oc) R.length (flatN R) ∧ Below w.heap.size w w'
end Go.Proofs.YtoeabfcnfofbiabDoor
