
import Derived.Test.YtkjccbihdinlkaaBtRw
namespace Go.Proofs.Ytkjccbihdinlkaa
open Go.RowKit
set_option linter.unusedVariables false

theorem rev_take (x k i : Nat) (h : i < k) : (bN x k).reverse.take (k - i) = (bN x k).reverse.take (k - (i + 1)) ++ [x.testBit i] := by
  have hl : (bN x k).reverse.length = k := rev_len x k
  have hg := rev_get x k (k - (i + 1)) (by omega)
  rw [show k - 1 - (k - (i + 1)) = i by omega] at hg
  rw [List.getElem?_eq_some_iff] at hg
  obtain ⟨hx, hg⟩ := hg
  rw [show k - i = k - (i + 1) + 1 by omega, List.take_succ_eq_append_getElem hx, hg]

end Go.Proofs.Ytkjccbihdinlkaa
