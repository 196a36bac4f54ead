
import Derived.Test.YtkggfeipcmfghaaSu3
import Derived.Test.YtkggfeipcmfghaaSu5a
namespace Go.Proofs.Ytkggfeipcmfghaa
open Go.RowKit
set_option linter.unusedVariables false

/-! The landed suffix: Common. -/
end Go.Proofs.Ytkggfeipcmfghaa
