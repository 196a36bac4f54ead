/-
  DERIVED. GIVEN WITH THE SEED: THE CARDS: each row of YtmddnmpldmdllaaDoorRows.lean that lists a variable, with what it lists TIED to the program's text (the seventh form; the later family's looks); each row that meets fmt, with fmt's text TOLD by the authors' own Lean function (tested against real Go, not proved from fmt's source: count such statements apart). THE CARD IS WHAT COUNTS. Prove the row's statement (the work); the ties are given (YtmddnmpldmdllaaDoorTie.lean); close each card by the builder's one call (the guide's Derived/Test/ToyasCard.lean, 'card_holds'). Laid BY PROGRAM, IN A SANDBOX (cutbox-door.mjs). By AI agents, Wed Nov 11 2026. No macro, syntax, notation, axiom, sorry.
-/
import Derived.Test.YtmddnmpldmdllaaDoorRows
import GoSem.ClaimSeven
namespace Go.Proofs.YtmddnmpldmdllaaDoor
namespace Rows

/-- THE TIED CARD OF 'sapperlaw11.SwellMade'. -/
def swellMadeCard : Claim7 := { stood := { row := swellMadeRow, standIns := [], harness := (true, "b2ae3eac8f91ccea7960efe773875b1a047ae3de1c3c584a0a3bf5f93537895f"), looks := true }, kinds := [], alts := [], laidByText := true, laidKinds := [.wider, .data], laidTests := true, laidLooks := .later }
def SwellMadeCardSaid : Prop := Claim7.holds Tryd.pinned (.plain (OpenSpec.ofChange swellMadeSpec)) swellMadeCard

/-- THE SECOND FORM's CARD OF 'sapperlaw11.SwellMade'. -/
def swellMadeUptoCard : Claim7 := { stood := { row := swellMadeUptoRow, standIns := [], harness := (true, "b2ae3eac8f91ccea7960efe773875b1a047ae3de1c3c584a0a3bf5f93537895f"), looks := true }, kinds := [], alts := [], laidByText := true, laidKinds := [.wider, .data], laidTests := true, laidLooks := .later }
def SwellMadeUptoCardSaid : Prop := Claim7.holds Tryd.pinned (.plain (OpenSpec.upto swellMadeSpec)) swellMadeUptoCard
end Rows
end Go.Proofs.YtmddnmpldmdllaaDoor
