
import Derived.Test.YtbjjddoeilhomaaScL1
namespace Go.Proofs.Ytbjjddoeilhomaa
open Go.RowKit
set_option linter.unusedVariables false

/-! ScanNames. -/
set_option maxRecDepth 100000 in
set_option maxHeartbeats 1000000 in
theorem scanNames_walk (w : World) : Calls Try.prog 3 #[] w fun e w' => e = .returned (.bool true) ∧ Below w.heap.size w w' := by
  have HL := plives15 w
  go_enter Try.func3, Try.ntmps3
  go_wp2_with (first
    | (go_at_call 9; refine HL.mono ?_; rintro e1 w1 ⟨rfl, B1⟩))
  go_ret
  exact ⟨rfl, B1⟩
end Go.Proofs.Ytbjjddoeilhomaa
