
import Derived.Test.YtfodgnmimbaflaaLzB
namespace Go.Proofs.Ytfodgnmimbaflaa
open Go.RowKit
set_option linter.unusedVariables false
theorem lzBests_walk (w : World) (a : Option Addr) (D : List Int) (cap : Nat) (hs : Seg w a D) (hc : D.length ≤ cap) (hnil : a = none → cap = 0) (hl : D.length ≤ 140737488351232) (p : Int) (h1 : -9223372036854775808 ≤ p) (h2 : p ≤ 9223372036854775807) (win chain : Int) (lazy : Bool) :
    Calls Try.prog 6 #[.slice a D.length cap, .int .i64 p, .agg #[.int .i64 win, .int .i64 chain, .bool lazy]] w fun e w' => e = .returned (.bool true) ∧ Below w.heap.size w w' := lzBests_in w a D.length cap D rfl hs hnil hl p ⟨h1, h2⟩ win chain lazy
end Go.Proofs.Ytfodgnmimbaflaa
