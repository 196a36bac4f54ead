import Derived.Laws.BitsAllLaws
import Derived.WalkKit
namespace Go.Proofs.YtelohdakfiibaabDoor
open Go.RowKit
set_option linter.unusedVariables false
set_option linter.unusedSimpArgs false
abbrev W32 := BitVec 32
def genW : W32 := 3988292384#32
def on (w : W32) : W32 := (w >>> 1) ^^^ (if w.getLsbD 0 then genW else 0#32)
def halfL : List Int := [0, 498536548, 997073096, 651767980, 1994146192, 1802195444, 1303535960, 1342533948, 3988292384, 4027552580, 3604390888, 3412177804, 2607071920, 2262029012, 2685067896, 3183342108]
end Go.Proofs.YtelohdakfiibaabDoor
