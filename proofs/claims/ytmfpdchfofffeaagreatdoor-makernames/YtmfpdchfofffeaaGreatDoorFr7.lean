import Derived.Test.YtmfpdchfofffeaaGreatDoorFr6
import Derived.Test.YtmfpdchfofffeaaGreatDoorLzP1b
namespace Go.Proofs.YtmfpdchfofffeaaGreatDoor
open Go.RowKit Go.Shelf
set_option linter.unusedVariables false
def h018 : Hd18 := ⟨0, 0, 0, 0, 64, 100⟩
theorem h018_ok : h018.Ok := by unfold Hd18.Ok h018; decide
theorem h018_win : win18 h018 = 0 := by unfold win18; rw [if_pos h018_ok]; rfl
theorem sum18_len (L : List Int) : (sum18 L).length = L.length + 4 := by unfold sum18; rw [List.length_append, fixL_len]
end Go.Proofs.YtmfpdchfofffeaaGreatDoor
