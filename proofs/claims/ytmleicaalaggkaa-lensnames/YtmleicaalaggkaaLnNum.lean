import Derived.Test.YtmleicaalaggkaaLnInfo
namespace Go.Proofs.Ytmleicaalaggkaa
open Go.RowKit
set_option linter.unusedVariables false

theorem num_any (e : Int) (w : World) : Calls Try.prog 11 #[.int .i64 e] w fun r w' => r = .returned (.int .i64 e) ∧ w' = w := by
  go_enter Try.func11, Try.ntmps11
  go_wp2
  go_ret
  exact ⟨rfl, rfl⟩
end Go.Proofs.Ytmleicaalaggkaa
