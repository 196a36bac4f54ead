
import Derived.Test.YtfodgnmimbaflaaLzD
namespace Go.Proofs.Ytfodgnmimbaflaa
open Go.RowKit
set_option linter.unusedVariables false
theorem lzChecks_walk (w : World) (win : Int) (h1 : -9223372036854775808 ≤ win) (h2 : win ≤ 9223372036854775807) (a : Option Addr) (l : List Tok7) (cap : Nat) (hs : SegT w a l) (hl : l.length ≤ 1073741824) :
    Calls Try.prog 4 #[.int .i64 win, .slice a l.length cap] w fun e w' => e = .returned (.bool true) ∧ Below w.heap.size w w' := lzChecks_in w win a l.length cap l rfl hs hl
end Go.Proofs.Ytfodgnmimbaflaa
