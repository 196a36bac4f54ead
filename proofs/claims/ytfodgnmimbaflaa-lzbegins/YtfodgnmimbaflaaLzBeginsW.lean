
import Derived.Test.YtfodgnmimbaflaaLzG
namespace Go.Proofs.Ytfodgnmimbaflaa
open Go.RowKit
set_option linter.unusedVariables false
theorem lzBegins_walk (w : World) (win : Int) (h1 : -9223372036854775808 ≤ win) (h2 : win ≤ 9223372036854775807) (a : Option Addr) (l : List Tok7) (cap : Nat) (hs : SegT w a l) (hl : l.length ≤ 1073741824) (ct : Int) (h3 : -9223372036854775808 ≤ ct) (h4 : ct ≤ 9223372036854775807) :
    Calls Try.prog 8 #[.int .i64 win, .slice a l.length cap, .int .i64 ct] w fun e w' => e = .returned (.bool true) ∧ Below w.heap.size w w' := lzBegins_in w win a l.length cap l rfl hs hl ct
end Go.Proofs.Ytfodgnmimbaflaa
