/-
  DERIVED. GIVEN WITH THE SEED: THE CARDS: each row of YtmfpdchfofffeaaGreatDoorRows.lean that lists a variable, with what it lists TIED to the program's text (the seventh form; the later family's looks); each row that meets fmt, with fmt's text TOLD by the authors' own Lean function (tested against real Go, not proved from fmt's source: count such statements apart). THE CARD IS WHAT COUNTS. Prove the row's statement (the work); the ties are given (YtmfpdchfofffeaaGreatDoorTie.lean); close each card by the builder's one call (the guide's Derived/Test/ToyasCard.lean, 'card_holds'). Laid BY PROGRAM, IN A SANDBOX (cutbox-door.mjs). By AI agents, Wed Nov 11 2026. No macro, syntax, notation, axiom, sorry.
-/
import Derived.Test.YtmfpdchfofffeaaGreatDoorRows
import GoSem.ClaimSeven
namespace Go.Proofs.YtmfpdchfofffeaaGreatDoor
namespace Rows

/-- THE TIED CARD OF 'sapperlaw20.MakerNames'. -/
def makerNamesCard : Claim7 := { stood := { row := makerNamesRow, standIns := [], harness := (true, "469e577b5939595d9adb8de33affa45fb08a339d3a0b0e6f3f07095a6f34ebcb"), looks := true }, kinds := [], alts := [], laidByText := true, laidKinds := [.data, .wider, .data], laidTests := true, laidLooks := .later }
def MakerNamesCardSaid : Prop := Claim7.holds Tryz.pinned (.plain (OpenSpec.ofChange makerNamesSpec)) makerNamesCard

/-- THE TIED CARD OF 'sapperlaw20.MakerOptions'. -/
def makerOptionsCard : Claim7 := { stood := { row := makerOptionsRow, standIns := [], harness := (true, "469e577b5939595d9adb8de33affa45fb08a339d3a0b0e6f3f07095a6f34ebcb"), looks := true }, kinds := [], alts := [], laidByText := true, laidKinds := [.data, .wider, .data], laidTests := true, laidLooks := .later }
def MakerOptionsCardSaid : Prop := Claim7.holds Tryz.pinned (.plain (OpenSpec.ofChange makerOptionsSpec)) makerOptionsCard

/-- THE SECOND FORM's CARD OF 'sapperlaw20.MakerNames'. -/
def makerNamesUptoCard : Claim7 := { stood := { row := makerNamesUptoRow, standIns := [], harness := (true, "469e577b5939595d9adb8de33affa45fb08a339d3a0b0e6f3f07095a6f34ebcb"), looks := true }, kinds := [], alts := [], laidByText := true, laidKinds := [.data, .wider, .data], laidTests := true, laidLooks := .later }
def MakerNamesUptoCardSaid : Prop := Claim7.holds Tryz.pinned (.plain (OpenSpec.upto makerNamesSpec)) makerNamesUptoCard

/-- THE SECOND FORM's CARD OF 'sapperlaw20.MakerOptions'. -/
def makerOptionsUptoCard : Claim7 := { stood := { row := makerOptionsUptoRow, standIns := [], harness := (true, "469e577b5939595d9adb8de33affa45fb08a339d3a0b0e6f3f07095a6f34ebcb"), looks := true }, kinds := [], alts := [], laidByText := true, laidKinds := [.data, .wider, .data], laidTests := true, laidLooks := .later }
def MakerOptionsUptoCardSaid : Prop := Claim7.holds Tryz.pinned (.plain (OpenSpec.upto makerOptionsSpec)) makerOptionsUptoCard
end Rows
end Go.Proofs.YtmfpdchfofffeaaGreatDoor
