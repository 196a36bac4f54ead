
import Derived.Test.YtfodgnmimbaflaaLzE
namespace Go.Proofs.Ytfodgnmimbaflaa
open Go.RowKit
set_option linter.unusedVariables false
theorem lzParses_walk (w : World) (a : Option Addr) (D : List Int) (cap : Nat) (hs : Seg w a D) (hc : D.length ≤ cap) (hnil : a = none → cap = 0) (hl : D.length ≤ 1073741824) (win chain : Int) (lazy : Bool) :
    Calls Try.prog 5 #[.slice a D.length cap, .agg #[.int .i64 win, .int .i64 chain, .bool lazy]] w fun e w' => e = .returned (.bool true) ∧ Below w.heap.size w w' := lzParses_in w a D.length cap D rfl hs hnil hl win chain lazy
end Go.Proofs.Ytfodgnmimbaflaa
