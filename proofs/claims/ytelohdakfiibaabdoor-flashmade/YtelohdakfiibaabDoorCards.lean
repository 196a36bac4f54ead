/-
  DERIVED. GIVEN WITH THE SEED: THE CARDS: each row of YtelohdakfiibaabDoorRows.lean that lists a variable, with what it lists TIED to the program's text (the seventh form; the later family's looks); each row that meets fmt, with fmt's text TOLD by the authors' own Lean function (tested against real Go, not proved from fmt's source: count such statements apart). THE CARD IS WHAT COUNTS. Prove the row's statement (the work); the ties are given (YtelohdakfiibaabDoorTie.lean); close each card by the builder's one call (the guide's Derived/Test/ToyasCard.lean, 'card_holds'). Laid BY PROGRAM, IN A SANDBOX (cutbox-door.mjs). By AI agents, Wed Nov 11 2026. No macro, syntax, notation, axiom, sorry.
-/
import Derived.Test.YtelohdakfiibaabDoorRows
import GoSem.ClaimSeven
namespace Go.Proofs.YtelohdakfiibaabDoor
namespace Rows

/-- THE TIED CARD OF 'sapperlaw21.FlashMade'. -/
def flashMadeCard : Claim7 := { stood := { row := flashMadeRow, standIns := [], harness := (true, "d281ec8c54e109d8558eb69f525187636ae138a2136d20d789cdc52fabdef5c5"), looks := true }, kinds := [], alts := [], laidByText := true, laidKinds := [.data], laidTests := true, laidLooks := .later }
def FlashMadeCardSaid : Prop := Claim7.holds Tryd.pinned (.plain (OpenSpec.ofChange flashMadeSpec)) flashMadeCard

/-- THE SECOND FORM's CARD OF 'sapperlaw21.FlashMade'. -/
def flashMadeUptoCard : Claim7 := { stood := { row := flashMadeUptoRow, standIns := [], harness := (true, "d281ec8c54e109d8558eb69f525187636ae138a2136d20d789cdc52fabdef5c5"), looks := true }, kinds := [], alts := [], laidByText := true, laidKinds := [.data], laidTests := true, laidLooks := .later }
def FlashMadeUptoCardSaid : Prop := Claim7.holds Tryd.pinned (.plain (OpenSpec.upto flashMadeSpec)) flashMadeUptoCard
end Rows
end Go.Proofs.YtelohdakfiibaabDoor
