/-
  DERIVED. GIVEN WITH THE SEED: THE CARDS: each row of YtoeabfcnfofbiabDoorRows.lean that lists a variable, with what it lists TIED to the program's text (the seventh form; the later family's looks); each row that meets fmt, with fmt's text TOLD by the authors' own Lean function (tested against real Go, not proved from fmt's source: count such statements apart). THE CARD IS WHAT COUNTS. Prove the row's statement (the work); the ties are given (YtoeabfcnfofbiabDoorTie.lean); close each card by the builder's one call (the guide's Derived/Test/ToyasCard.lean, 'card_holds'). Laid BY PROGRAM, IN A SANDBOX (cutbox-door.mjs). By AI agents, Wed Nov 11 2026. No macro, syntax, notation, axiom, sorry.
-/
import Derived.Test.YtoeabfcnfofbiabDoorRows
import GoSem.ClaimSeven
namespace Go.Proofs.YtoeabfcnfofbiabDoor
namespace Rows

/-- THE TIED CARD OF 'sapperlaw08.HeadBack'. -/
def headBackCard : Claim7 := { stood := { row := headBackRow, standIns := [], harness := (true, "94db1b51d9a6ea4d4897708dd5d1b5c877a50d2677a1e986342f69b31a5cc2fc"), looks := false }, kinds := [], alts := [], laidByText := true, laidKinds := [.wider], laidTests := true, laidLooks := .later }
def HeadBackCardSaid : Prop := Claim7.holds Tryd.pinned (.plain (OpenSpec.ofChange headBackSpec)) headBackCard

/-- THE TIED CARD OF 'sapperlaw08.HeadThrough'. -/
def headThroughCard : Claim7 := { stood := { row := headThroughRow, standIns := [], harness := (true, "94db1b51d9a6ea4d4897708dd5d1b5c877a50d2677a1e986342f69b31a5cc2fc"), looks := false }, kinds := [], alts := [], laidByText := true, laidKinds := [.wider, .data], laidTests := true, laidLooks := .later }
def HeadThroughCardSaid : Prop := Claim7.holds Tryd.pinned (.plain (OpenSpec.ofChange headThroughSpec)) headThroughCard

/-- THE TIED CARD OF 'sapperlaw08.HeadTold'. -/
def headToldCard : Claim7 := { stood := { row := headToldRow, standIns := [], harness := (true, "94db1b51d9a6ea4d4897708dd5d1b5c877a50d2677a1e986342f69b31a5cc2fc"), looks := false }, kinds := [], alts := [], laidByText := true, laidKinds := [.wider, .data], laidTests := true, laidLooks := .later }
def HeadToldCardSaid : Prop := Claim7.holds Tryd.pinned (.plain (OpenSpec.ofChange headToldSpec)) headToldCard

/-- THE SECOND FORM's CARD OF 'sapperlaw08.HeadBack'. -/
def headBackUptoCard : Claim7 := { stood := { row := headBackUptoRow, standIns := [], harness := (true, "94db1b51d9a6ea4d4897708dd5d1b5c877a50d2677a1e986342f69b31a5cc2fc"), looks := false }, kinds := [], alts := [], laidByText := true, laidKinds := [.wider], laidTests := true, laidLooks := .later }
def HeadBackUptoCardSaid : Prop := Claim7.holds Tryd.pinned (.plain (OpenSpec.upto headBackSpec)) headBackUptoCard

/-- THE SECOND FORM's CARD OF 'sapperlaw08.HeadThrough'. -/
def headThroughUptoCard : Claim7 := { stood := { row := headThroughUptoRow, standIns := [], harness := (true, "94db1b51d9a6ea4d4897708dd5d1b5c877a50d2677a1e986342f69b31a5cc2fc"), looks := false }, kinds := [], alts := [], laidByText := true, laidKinds := [.wider, .data], laidTests := true, laidLooks := .later }
def HeadThroughUptoCardSaid : Prop := Claim7.holds Tryd.pinned (.plain (OpenSpec.upto headThroughSpec)) headThroughUptoCard

/-- THE SECOND FORM's CARD OF 'sapperlaw08.HeadTold'. -/
def headToldUptoCard : Claim7 := { stood := { row := headToldUptoRow, standIns := [], harness := (true, "94db1b51d9a6ea4d4897708dd5d1b5c877a50d2677a1e986342f69b31a5cc2fc"), looks := false }, kinds := [], alts := [], laidByText := true, laidKinds := [.wider, .data], laidTests := true, laidLooks := .later }
def HeadToldUptoCardSaid : Prop := Claim7.holds Tryd.pinned (.plain (OpenSpec.upto headToldSpec)) headToldUptoCard
end Rows
end Go.Proofs.YtoeabfcnfofbiabDoor
