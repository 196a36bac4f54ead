
import Derived.Test.YtfohapfdcdlpeaaLnSame
import Derived.WalkLawsBesides
namespace Go.Proofs.Ytfohapfdcdlpeaa
open Go.RowKit
set_option linter.unusedVariables false

theorem info_int : (Try.prog.info? 3).map (fun i => (i.zero, i.size, i.bytes)) = some (some (.int .i64 0), 1, 8) := by kernel_rfl
end Go.Proofs.Ytfohapfdcdlpeaa
