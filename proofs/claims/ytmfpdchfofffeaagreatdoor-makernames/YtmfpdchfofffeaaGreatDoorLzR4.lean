import Derived.Test.YtmfpdchfofffeaaGreatDoorLzR1
import Derived.Test.YtmfpdchfofffeaaGreatDoorOwnSeg
import Derived.Deep.AppendLies
namespace Go.Proofs.YtmfpdchfofffeaaGreatDoor
open Go.RowKit
set_option linter.unusedVariables false
def opt7 (win chain : Int) : Int := if win < 1 ∨ 32768 < win ∨ chain < 0 ∨ 4096 < chain then 72 else 0
def look7 (win chain : Int) (lazy : Bool) : Value := .agg #[.int .i64 win, .int .i64 chain, .bool lazy]
end Go.Proofs.YtmfpdchfofffeaaGreatDoor
