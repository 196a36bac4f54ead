
import Derived.Test.YtoeabfcnfofbiaaDoorBtBytes
import Derived.Test.YtoeabfcnfofbiaaDoorBtRd
namespace Go.Proofs.YtoeabfcnfofbiaaDoor
open Go.RowKit
set_option linter.unusedVariables false

theorem WrL.below {w w' : World} {b B N : Nat} {v : Value} {L : List Bool} (h : WrL w b B v L) (hk : Kp (WS b v) w w') (h1 : N ≤ b) (h2 : N ≤ B) : Below N w w' :=
  hk.below (fun i e => by
    rcases e with e | e
    · omega
    · have := (h.own_lt i e).1; omega) (by have := h.b_lt; omega)
theorem heap_new (w : World) (o : Obj) : (w.alloc o).heap[w.heap.size]? = some o := heap_alloc_new w o
theorem toB_five : toB (([] : List Bool) ++ bN 5 3 ++ bN 1 2) = [13] := by
  rw [toB_eq (by decide)]
  rw [show (([] : List Bool) ++ bN 5 3 ++ bN 1 2).drop 8 = [] from by decide, toB_nil]
  decide

end Go.Proofs.YtoeabfcnfofbiaaDoor
