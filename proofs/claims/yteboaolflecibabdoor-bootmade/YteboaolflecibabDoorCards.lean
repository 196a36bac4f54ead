/-
  DERIVED. GIVEN WITH THE SEED: THE CARDS: each row of YteboaolflecibabDoorRows.lean that lists a variable, with what it lists TIED to the program's text (the seventh form; the later family's looks); each row that meets fmt, with fmt's text TOLD by the authors' own Lean function (tested against real Go, not proved from fmt's source: count such statements apart). THE CARD IS WHAT COUNTS. Prove the row's statement (the work); the ties are given (YteboaolflecibabDoorTie.lean); close each card by the builder's one call (the guide's Derived/Test/ToyasCard.lean, 'card_holds'). Laid BY PROGRAM, IN A SANDBOX (cutbox-door.mjs). By AI agents, Wed Nov 11 2026. No macro, syntax, notation, axiom, sorry.
-/
import Derived.Test.YteboaolflecibabDoorRows
import GoSem.ClaimSeven
namespace Go.Proofs.YteboaolflecibabDoor
namespace Rows

/-- THE TIED CARD OF 'sapperlaw25.BootTries'. -/
def bootTriesCard : Claim7 := { stood := { row := bootTriesRow, standIns := [], harness := (true, "50434814a08cc3e977186f79655b345356142dfc0c35be00c10694e7513331c0"), looks := true }, kinds := [], alts := [], laidByText := true, laidKinds := [.data], laidTests := true, laidLooks := .later }
def BootTriesCardSaid : Prop := Claim7.holds Tryd.pinned (.plain (OpenSpec.ofChange bootTriesSpec)) bootTriesCard

/-- THE TIED CARD OF 'sapperlaw25.BootMade'. -/
def bootMadeCard : Claim7 := { stood := { row := bootMadeRow, standIns := [], harness := (true, "50434814a08cc3e977186f79655b345356142dfc0c35be00c10694e7513331c0"), looks := true }, kinds := [], alts := [], laidByText := true, laidKinds := [.data], laidTests := true, laidLooks := .later }
def BootMadeCardSaid : Prop := Claim7.holds Tryd.pinned (.plain (OpenSpec.ofChange bootMadeSpec)) bootMadeCard

/-- THE SECOND FORM's CARD OF 'sapperlaw25.BootTries'. -/
def bootTriesUptoCard : Claim7 := { stood := { row := bootTriesUptoRow, standIns := [], harness := (true, "50434814a08cc3e977186f79655b345356142dfc0c35be00c10694e7513331c0"), looks := true }, kinds := [], alts := [], laidByText := true, laidKinds := [.data], laidTests := true, laidLooks := .later }
def BootTriesUptoCardSaid : Prop := Claim7.holds Tryd.pinned (.plain (OpenSpec.upto bootTriesSpec)) bootTriesUptoCard

/-- THE SECOND FORM's CARD OF 'sapperlaw25.BootMade'. -/
def bootMadeUptoCard : Claim7 := { stood := { row := bootMadeUptoRow, standIns := [], harness := (true, "50434814a08cc3e977186f79655b345356142dfc0c35be00c10694e7513331c0"), looks := true }, kinds := [], alts := [], laidByText := true, laidKinds := [.data], laidTests := true, laidLooks := .later }
def BootMadeUptoCardSaid : Prop := Claim7.holds Tryd.pinned (.plain (OpenSpec.upto bootMadeSpec)) bootMadeUptoCard
end Rows
end Go.Proofs.YteboaolflecibabDoor
