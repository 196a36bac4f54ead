
import Derived.Test.YtaipfcfmhdigfaaLzJ
namespace Go.Proofs.Ytaipfcfmhdigfaa
open Go.RowKit
set_option linter.unusedVariables false
theorem lzLeast_walk (w : World) (a : Option Addr) (D : List Int) (cap : Nat) (hs : Seg w a D) (hc : D.length ≤ cap) (hnil : a = none → cap = 0) (hl : D.length ≤ 1048576) (win chain : Int) (lazy : Bool) (x y z : Int) :
    Calls Try.prog 8 #[.slice a D.length cap, .agg #[.int .i64 win, .int .i64 chain, .bool lazy], .agg #[.int .i64 x, .int .i64 y, .int .i64 z]] w fun e w' => e = .returned (.bool true) ∧ Below w.heap.size w w' := lzLeast_in w a D.length cap D rfl hs hc hnil hl win chain lazy ⟨x, y, z⟩
end Go.Proofs.Ytaipfcfmhdigfaa
