/-
  DERIVED. GIVEN WITH THE SEED: THE CARDS: each row of YtnbfanfboccmeaaGreatDoorRows.lean that lists a variable, with what it lists TIED to the program's text (the seventh form; the later family's looks); each row that meets fmt, with fmt's text TOLD by the authors' own Lean function (tested against real Go, not proved from fmt's source: count such statements apart). THE CARD IS WHAT COUNTS. Prove the row's statement (the work); the ties are given (YtnbfanfboccmeaaGreatDoorTie.lean); close each card by the builder's one call (the guide's Derived/Test/ToyasCard.lean, 'card_holds'). Laid BY PROGRAM, IN A SANDBOX (cutbox-door.mjs). By AI agents, Wed Nov 11 2026. No macro, syntax, notation, axiom, sorry.
-/
import Derived.Test.YtnbfanfboccmeaaGreatDoorRows
import GoSem.ClaimSeven
namespace Go.Proofs.YtnbfanfboccmeaaGreatDoor
namespace Rows

/-- THE TIED CARD OF 'sapperlaw19.ParseSteps'. -/
def parseStepsCard : Claim7 := { stood := { row := parseStepsRow, standIns := [], harness := (true, "73bb481a9cc8f6960ecaacbd36fb7eb00dee3626ae9c08110da543a0c32b2b9a"), looks := false }, kinds := [], alts := [], laidByText := true, laidKinds := [.data, .wider, .data], laidTests := true, laidLooks := .later }
def ParseStepsCardSaid : Prop := Claim7.holds Tryz.pinned (.plain (OpenSpec.ofChange parseStepsSpec)) parseStepsCard

/-- THE TIED CARD OF 'sapperlaw19.ParseAlls'. -/
def parseAllsCard : Claim7 := { stood := { row := parseAllsRow, standIns := [], harness := (true, "73bb481a9cc8f6960ecaacbd36fb7eb00dee3626ae9c08110da543a0c32b2b9a"), looks := false }, kinds := [], alts := [], laidByText := true, laidKinds := [.data, .wider, .data], laidTests := true, laidLooks := .later }
def ParseAllsCardSaid : Prop := Claim7.holds Tryz.pinned (.plain (OpenSpec.ofChange parseAllsSpec)) parseAllsCard

/-- THE TIED CARD OF 'sapperlaw19.ParsePieces'. -/
def parsePiecesCard : Claim7 := { stood := { row := parsePiecesRow, standIns := [], harness := (true, "73bb481a9cc8f6960ecaacbd36fb7eb00dee3626ae9c08110da543a0c32b2b9a"), looks := false }, kinds := [], alts := [], laidByText := true, laidKinds := [.data, .wider, .data], laidTests := true, laidLooks := .later }
def ParsePiecesCardSaid : Prop := Claim7.holds Tryz.pinned (.plain (OpenSpec.ofChange parsePiecesSpec)) parsePiecesCard

/-- THE SECOND FORM's CARD OF 'sapperlaw19.ParseSteps'. -/
def parseStepsUptoCard : Claim7 := { stood := { row := parseStepsUptoRow, standIns := [], harness := (true, "73bb481a9cc8f6960ecaacbd36fb7eb00dee3626ae9c08110da543a0c32b2b9a"), looks := false }, kinds := [], alts := [], laidByText := true, laidKinds := [.data, .wider, .data], laidTests := true, laidLooks := .later }
def ParseStepsUptoCardSaid : Prop := Claim7.holds Tryz.pinned (.plain (OpenSpec.upto parseStepsSpec)) parseStepsUptoCard

/-- THE SECOND FORM's CARD OF 'sapperlaw19.ParseAlls'. -/
def parseAllsUptoCard : Claim7 := { stood := { row := parseAllsUptoRow, standIns := [], harness := (true, "73bb481a9cc8f6960ecaacbd36fb7eb00dee3626ae9c08110da543a0c32b2b9a"), looks := false }, kinds := [], alts := [], laidByText := true, laidKinds := [.data, .wider, .data], laidTests := true, laidLooks := .later }
def ParseAllsUptoCardSaid : Prop := Claim7.holds Tryz.pinned (.plain (OpenSpec.upto parseAllsSpec)) parseAllsUptoCard

/-- THE SECOND FORM's CARD OF 'sapperlaw19.ParsePieces'. -/
def parsePiecesUptoCard : Claim7 := { stood := { row := parsePiecesUptoRow, standIns := [], harness := (true, "73bb481a9cc8f6960ecaacbd36fb7eb00dee3626ae9c08110da543a0c32b2b9a"), looks := false }, kinds := [], alts := [], laidByText := true, laidKinds := [.data, .wider, .data], laidTests := true, laidLooks := .later }
def ParsePiecesUptoCardSaid : Prop := Claim7.holds Tryz.pinned (.plain (OpenSpec.upto parsePiecesSpec)) parsePiecesUptoCard
end Rows
end Go.Proofs.YtnbfanfboccmeaaGreatDoor
