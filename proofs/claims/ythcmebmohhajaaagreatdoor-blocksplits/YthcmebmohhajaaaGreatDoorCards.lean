/-
  DERIVED. GIVEN WITH THE SEED: THE CARDS: each row of YthcmebmohhajaaaGreatDoorRows.lean that lists a variable, with what it lists TIED to the program's text (the seventh form; the later family's looks); each row that meets fmt, with fmt's text TOLD by the authors' own Lean function (tested against real Go, not proved from fmt's source: count such statements apart). THE CARD IS WHAT COUNTS. Prove the row's statement (the work); the ties are given (YthcmebmohhajaaaGreatDoorTie.lean); close each card by the builder's one call (the guide's Derived/Test/ToyasCard.lean, 'card_holds'). Laid BY PROGRAM, IN A SANDBOX (cutbox-door.mjs). By AI agents, Wed Nov 11 2026. No macro, syntax, notation, axiom, sorry.
-/
import Derived.Test.YthcmebmohhajaaaGreatDoorRows
import GoSem.ClaimSeven
namespace Go.Proofs.YthcmebmohhajaaaGreatDoor
namespace Rows

/-- THE TIED CARD OF 'sapperlaw09.BlockNames'. -/
def blockNamesCard : Claim7 := { stood := { row := blockNamesRow, standIns := [], harness := (true, "7a5fc07f2ccbb176973be6dcc37a8d9fded66abe77aa542d9dec2678ce7edeaa"), looks := false }, kinds := [], alts := [], laidByText := true, laidKinds := [.wider, .data], laidTests := true, laidLooks := .later }
def BlockNamesCardSaid : Prop := Claim7.holds Tryz.pinned (.plain (OpenSpec.ofChange blockNamesSpec)) blockNamesCard

/-- THE TIED CARD OF 'sapperlaw09.BlockSymbols'. -/
def blockSymbolsCard : Claim7 := { stood := { row := blockSymbolsRow, standIns := [], harness := (true, "7a5fc07f2ccbb176973be6dcc37a8d9fded66abe77aa542d9dec2678ce7edeaa"), looks := false }, kinds := [], alts := [], laidByText := true, laidKinds := [.wider, .data], laidTests := true, laidLooks := .later }
def BlockSymbolsCardSaid : Prop := Claim7.holds Tryz.pinned (.plain (OpenSpec.ofChange blockSymbolsSpec)) blockSymbolsCard

/-- THE TIED CARD OF 'sapperlaw09.BlockSplits'. -/
def blockSplitsCard : Claim7 := { stood := { row := blockSplitsRow, standIns := [], harness := (true, "7a5fc07f2ccbb176973be6dcc37a8d9fded66abe77aa542d9dec2678ce7edeaa"), looks := false }, kinds := [], alts := [], laidByText := true, laidKinds := [.wider, .data], laidTests := true, laidLooks := .later }
def BlockSplitsCardSaid : Prop := Claim7.holds Tryz.pinned (.plain (OpenSpec.ofChange blockSplitsSpec)) blockSplitsCard

/-- THE SECOND FORM's CARD OF 'sapperlaw09.BlockNames'. -/
def blockNamesUptoCard : Claim7 := { stood := { row := blockNamesUptoRow, standIns := [], harness := (true, "7a5fc07f2ccbb176973be6dcc37a8d9fded66abe77aa542d9dec2678ce7edeaa"), looks := false }, kinds := [], alts := [], laidByText := true, laidKinds := [.wider, .data], laidTests := true, laidLooks := .later }
def BlockNamesUptoCardSaid : Prop := Claim7.holds Tryz.pinned (.plain (OpenSpec.upto blockNamesSpec)) blockNamesUptoCard

/-- THE SECOND FORM's CARD OF 'sapperlaw09.BlockSymbols'. -/
def blockSymbolsUptoCard : Claim7 := { stood := { row := blockSymbolsUptoRow, standIns := [], harness := (true, "7a5fc07f2ccbb176973be6dcc37a8d9fded66abe77aa542d9dec2678ce7edeaa"), looks := false }, kinds := [], alts := [], laidByText := true, laidKinds := [.wider, .data], laidTests := true, laidLooks := .later }
def BlockSymbolsUptoCardSaid : Prop := Claim7.holds Tryz.pinned (.plain (OpenSpec.upto blockSymbolsSpec)) blockSymbolsUptoCard

/-- THE SECOND FORM's CARD OF 'sapperlaw09.BlockSplits'. -/
def blockSplitsUptoCard : Claim7 := { stood := { row := blockSplitsUptoRow, standIns := [], harness := (true, "7a5fc07f2ccbb176973be6dcc37a8d9fded66abe77aa542d9dec2678ce7edeaa"), looks := false }, kinds := [], alts := [], laidByText := true, laidKinds := [.wider, .data], laidTests := true, laidLooks := .later }
def BlockSplitsUptoCardSaid : Prop := Claim7.holds Tryz.pinned (.plain (OpenSpec.upto blockSplitsSpec)) blockSplitsUptoCard
end Rows
end Go.Proofs.YthcmebmohhajaaaGreatDoor
