/-
  DERIVED. GIVEN WITH THE SEED: THE CARDS: each row of YtiijjmmkidjgaaaDoorRows.lean that lists a variable, with what it lists TIED to the program's text (the seventh form; the later family's looks); each row that meets fmt, with fmt's text TOLD by the authors' own Lean function (tested against real Go, not proved from fmt's source: count such statements apart). THE CARD IS WHAT COUNTS. Prove the row's statement (the work); the ties are given (YtiijjmmkidjgaaaDoorTie.lean); close each card by the builder's one call (the guide's Derived/Test/ToyasCard.lean, 'card_holds'). Laid BY PROGRAM, IN A SANDBOX (cutbox-door.mjs). By AI agents, Wed Nov 11 2026. No macro, syntax, notation, axiom, sorry.
-/
import Derived.Test.YtiijjmmkidjgaaaDoorRows
import GoSem.ClaimSeven
namespace Go.Proofs.YtiijjmmkidjgaaaDoor
namespace Rows

/-- THE TIED CARD OF 'sapperlaw11.SwellNames'. -/
def swellNamesCard : Claim7 := { stood := { row := swellNamesRow, standIns := [], harness := (true, "341b87b4419e78113fd735048546151e4779cf44eeaf5dc46aa008fa91a939af"), looks := true }, kinds := [], alts := [], laidByText := true, laidKinds := [.wider, .data], laidTests := true, laidLooks := .later }
def SwellNamesCardSaid : Prop := Claim7.holds Tryd.pinned (.plain (OpenSpec.ofChange swellNamesSpec)) swellNamesCard

/-- THE TIED CARD OF 'sapperlaw11.SwellNews'. -/
def swellNewsCard : Claim7 := { stood := { row := swellNewsRow, standIns := [], harness := (true, "341b87b4419e78113fd735048546151e4779cf44eeaf5dc46aa008fa91a939af"), looks := true }, kinds := [], alts := [], laidByText := true, laidKinds := [.wider, .data], laidTests := true, laidLooks := .later }
def SwellNewsCardSaid : Prop := Claim7.holds Tryd.pinned (.plain (OpenSpec.ofChange swellNewsSpec)) swellNewsCard

/-- THE TIED CARD OF 'sapperlaw11.SwellPieces'. -/
def swellPiecesCard : Claim7 := { stood := { row := swellPiecesRow, standIns := [], harness := (true, "341b87b4419e78113fd735048546151e4779cf44eeaf5dc46aa008fa91a939af"), looks := true }, kinds := [], alts := [], laidByText := true, laidKinds := [.wider, .data], laidTests := true, laidLooks := .later }
def SwellPiecesCardSaid : Prop := Claim7.holds Tryd.pinned (.plain (OpenSpec.ofChange swellPiecesSpec)) swellPiecesCard

/-- THE SECOND FORM's CARD OF 'sapperlaw11.SwellNames'. -/
def swellNamesUptoCard : Claim7 := { stood := { row := swellNamesUptoRow, standIns := [], harness := (true, "341b87b4419e78113fd735048546151e4779cf44eeaf5dc46aa008fa91a939af"), looks := true }, kinds := [], alts := [], laidByText := true, laidKinds := [.wider, .data], laidTests := true, laidLooks := .later }
def SwellNamesUptoCardSaid : Prop := Claim7.holds Tryd.pinned (.plain (OpenSpec.upto swellNamesSpec)) swellNamesUptoCard

/-- THE SECOND FORM's CARD OF 'sapperlaw11.SwellNews'. -/
def swellNewsUptoCard : Claim7 := { stood := { row := swellNewsUptoRow, standIns := [], harness := (true, "341b87b4419e78113fd735048546151e4779cf44eeaf5dc46aa008fa91a939af"), looks := true }, kinds := [], alts := [], laidByText := true, laidKinds := [.wider, .data], laidTests := true, laidLooks := .later }
def SwellNewsUptoCardSaid : Prop := Claim7.holds Tryd.pinned (.plain (OpenSpec.upto swellNewsSpec)) swellNewsUptoCard

/-- THE SECOND FORM's CARD OF 'sapperlaw11.SwellPieces'. -/
def swellPiecesUptoCard : Claim7 := { stood := { row := swellPiecesUptoRow, standIns := [], harness := (true, "341b87b4419e78113fd735048546151e4779cf44eeaf5dc46aa008fa91a939af"), looks := true }, kinds := [], alts := [], laidByText := true, laidKinds := [.wider, .data], laidTests := true, laidLooks := .later }
def SwellPiecesUptoCardSaid : Prop := Claim7.holds Tryd.pinned (.plain (OpenSpec.upto swellPiecesSpec)) swellPiecesUptoCard
end Rows
end Go.Proofs.YtiijjmmkidjgaaaDoor
