
import Derived.Test.YtlbledagpoimaaaSuL1
namespace Go.Proofs.Ytlbledagpoimaaa
open Go.RowKit
set_option linter.unusedVariables false

/-! SuffixNames. -/
set_option maxRecDepth 100000 in
set_option maxHeartbeats 1000000 in
theorem suffixNames_walk (w : World) : Calls Try.prog 3 #[] w fun e w' => e = .returned (.bool true) ∧ Below w.heap.size w w' := by
  go_enter Try.func3, Try.ntmps3
  go_wp2_with fail
  refine (plives13 _).mono ?_
  rintro e5 w5 ⟨rfl, B5⟩
  go_wp2_with fail
  go_ret
  exact ⟨rfl, B5⟩
end Go.Proofs.Ytlbledagpoimaaa
