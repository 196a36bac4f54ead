
import Derived.Test.YtjoghmdjnkdokaaDoorRgC
namespace Go.Proofs.YtjoghmdjnkdokaaDoor
open Go.RowKit Go.Shelf
set_option linter.unusedVariables false
set_option linter.unusedSimpArgs false

/-! The document's page writer: flush, walked. -/
section
variable {w w' : World} {u b : Nat} {G H : Nat → Prop} {ha : Option Addr} {hc : Nat} {S S' : Fs21} {P P' : Pw22}
end
end Go.Proofs.YtjoghmdjnkdokaaDoor
