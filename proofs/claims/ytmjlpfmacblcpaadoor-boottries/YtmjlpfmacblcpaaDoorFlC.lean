import Derived.Test.YtmjlpfmacblcpaaDoorFlA
import Derived.Deep.RegionHeld3
import Derived.Lib.SmallJoins
import Derived.Deep.CutRange
import Derived.Deep.QuietTactic
import Derived.Test.YtmjlpfmacblcpaaDoorLnSeg
import Derived.Lib.SliceRun
import Derived.Lib.MakeNoZero
import Derived.Laws.CopyOwn
namespace Go.Proofs.YtmjlpfmacblcpaaDoor
open Go.RowKit
set_option linter.unusedVariables false
set_option linter.unusedSimpArgs false
theorem info_y21 : (Tryd.prog.info? 5).map (fun i => (i.zero, i.size, i.bytes)) = some (some (.int .u8 0), 1, 1) := by kernel_rfl
end Go.Proofs.YtmjlpfmacblcpaaDoor
