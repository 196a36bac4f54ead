import Derived.Test.YteboaolflecibabDoorFlA
import Derived.Deep.RegionHeld3
import Derived.Lib.SmallJoins
import Derived.Deep.CutRange
import Derived.Deep.QuietTactic
namespace Go.Proofs.YteboaolflecibabDoor
open Go.RowKit Go.Maps Go.WideMaps
set_option linter.unusedVariables false
set_option linter.unusedSimpArgs false
structure Sh21 where
  b : List Int
  er : Bool
  wr : Int
structure Fs21 where
  pg : Nat
  ps : Nat
  ac : Int
  on : Bool
  lm : Int
  pa : Int → Int → Option Sh21
  lf : Int
  tn : List Int
  lg : List (Int × Int × Int)
end Go.Proofs.YteboaolflecibabDoor
