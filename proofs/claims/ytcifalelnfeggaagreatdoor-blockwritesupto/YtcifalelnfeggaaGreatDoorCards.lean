/-
  DERIVED. GIVEN WITH THE SEED: THE CARDS: each row of YtcifalelnfeggaaGreatDoorRows.lean that lists a variable, with what it lists TIED to the program's text (the seventh form; the later family's looks); each row that meets fmt, with fmt's text TOLD by the authors' own Lean function (tested against real Go, not proved from fmt's source: count such statements apart). THE CARD IS WHAT COUNTS. Prove the row's statement (the work); the ties are given (YtcifalelnfeggaaGreatDoorTie.lean); close each card by the builder's one call (the guide's Derived/Test/ToyasCard.lean, 'card_holds'). Laid BY PROGRAM, IN A SANDBOX (cutbox-door.mjs). By AI agents, Wed Nov 11 2026. No macro, syntax, notation, axiom, sorry.
-/
import Derived.Test.YtcifalelnfeggaaGreatDoorRows
import GoSem.ClaimSeven
namespace Go.Proofs.YtcifalelnfeggaaGreatDoor
namespace Rows

/-- THE TIED CARD OF 'sapperlaw09.BlockSymbols'. -/
def blockSymbolsCard : Claim7 := { stood := { row := blockSymbolsRow, standIns := [], harness := (true, "9391b44112317094d95d696a808cc07efca663a0fa4b946e8384c9f9901c924c"), looks := false }, kinds := [], alts := [], laidByText := true, laidKinds := [.wider, .data], laidTests := true, laidLooks := .later }
def BlockSymbolsCardSaid : Prop := Claim7.holds Tryz.pinned (.plain (OpenSpec.ofChange blockSymbolsSpec)) blockSymbolsCard

/-- THE TIED CARD OF 'sapperlaw09.BlockSplits'. -/
def blockSplitsCard : Claim7 := { stood := { row := blockSplitsRow, standIns := [], harness := (true, "9391b44112317094d95d696a808cc07efca663a0fa4b946e8384c9f9901c924c"), looks := false }, kinds := [], alts := [], laidByText := true, laidKinds := [.wider, .data], laidTests := true, laidLooks := .later }
def BlockSplitsCardSaid : Prop := Claim7.holds Tryz.pinned (.plain (OpenSpec.ofChange blockSplitsSpec)) blockSplitsCard

/-- THE TIED CARD OF 'sapperlaw09.BlockLens'. -/
def blockLensCard : Claim7 := { stood := { row := blockLensRow, standIns := [], harness := (true, "9391b44112317094d95d696a808cc07efca663a0fa4b946e8384c9f9901c924c"), looks := false }, kinds := [], alts := [], laidByText := true, laidKinds := [.wider, .data], laidTests := true, laidLooks := .later }
def BlockLensCardSaid : Prop := Claim7.holds Tryz.pinned (.plain (OpenSpec.ofChange blockLensSpec)) blockLensCard

/-- THE TIED CARD OF 'sapperlaw09.BlockCosts'. -/
def blockCostsCard : Claim7 := { stood := { row := blockCostsRow, standIns := [], harness := (true, "9391b44112317094d95d696a808cc07efca663a0fa4b946e8384c9f9901c924c"), looks := false }, kinds := [], alts := [], laidByText := true, laidKinds := [.wider, .data], laidTests := true, laidLooks := .later }
def BlockCostsCardSaid : Prop := Claim7.holds Tryz.pinned (.plain (OpenSpec.ofChange blockCostsSpec)) blockCostsCard

/-- THE TIED CARD OF 'sapperlaw09.BlockWrites'. -/
def blockWritesCard : Claim7 := { stood := { row := blockWritesRow, standIns := [], harness := (true, "9391b44112317094d95d696a808cc07efca663a0fa4b946e8384c9f9901c924c"), looks := false }, kinds := [], alts := [], laidByText := true, laidKinds := [.wider, .data], laidTests := true, laidLooks := .later }
def BlockWritesCardSaid : Prop := Claim7.holds Tryz.pinned (.plain (OpenSpec.ofChange blockWritesSpec)) blockWritesCard

/-- THE TIED CARD OF 'sapperlaw09.BlockTrue'. -/
def blockTrueCard : Claim7 := { stood := { row := blockTrueRow, standIns := [], harness := (true, "9391b44112317094d95d696a808cc07efca663a0fa4b946e8384c9f9901c924c"), looks := false }, kinds := [], alts := [], laidByText := true, laidKinds := [.wider, .data], laidTests := true, laidLooks := .later }
def BlockTrueCardSaid : Prop := Claim7.holds Tryz.pinned (.plain (OpenSpec.ofChange blockTrueSpec)) blockTrueCard

/-- THE SECOND FORM's CARD OF 'sapperlaw09.BlockSymbols'. -/
def blockSymbolsUptoCard : Claim7 := { stood := { row := blockSymbolsUptoRow, standIns := [], harness := (true, "9391b44112317094d95d696a808cc07efca663a0fa4b946e8384c9f9901c924c"), looks := false }, kinds := [], alts := [], laidByText := true, laidKinds := [.wider, .data], laidTests := true, laidLooks := .later }
def BlockSymbolsUptoCardSaid : Prop := Claim7.holds Tryz.pinned (.plain (OpenSpec.upto blockSymbolsSpec)) blockSymbolsUptoCard

/-- THE SECOND FORM's CARD OF 'sapperlaw09.BlockSplits'. -/
def blockSplitsUptoCard : Claim7 := { stood := { row := blockSplitsUptoRow, standIns := [], harness := (true, "9391b44112317094d95d696a808cc07efca663a0fa4b946e8384c9f9901c924c"), looks := false }, kinds := [], alts := [], laidByText := true, laidKinds := [.wider, .data], laidTests := true, laidLooks := .later }
def BlockSplitsUptoCardSaid : Prop := Claim7.holds Tryz.pinned (.plain (OpenSpec.upto blockSplitsSpec)) blockSplitsUptoCard

/-- THE SECOND FORM's CARD OF 'sapperlaw09.BlockLens'. -/
def blockLensUptoCard : Claim7 := { stood := { row := blockLensUptoRow, standIns := [], harness := (true, "9391b44112317094d95d696a808cc07efca663a0fa4b946e8384c9f9901c924c"), looks := false }, kinds := [], alts := [], laidByText := true, laidKinds := [.wider, .data], laidTests := true, laidLooks := .later }
def BlockLensUptoCardSaid : Prop := Claim7.holds Tryz.pinned (.plain (OpenSpec.upto blockLensSpec)) blockLensUptoCard

/-- THE SECOND FORM's CARD OF 'sapperlaw09.BlockCosts'. -/
def blockCostsUptoCard : Claim7 := { stood := { row := blockCostsUptoRow, standIns := [], harness := (true, "9391b44112317094d95d696a808cc07efca663a0fa4b946e8384c9f9901c924c"), looks := false }, kinds := [], alts := [], laidByText := true, laidKinds := [.wider, .data], laidTests := true, laidLooks := .later }
def BlockCostsUptoCardSaid : Prop := Claim7.holds Tryz.pinned (.plain (OpenSpec.upto blockCostsSpec)) blockCostsUptoCard

/-- THE SECOND FORM's CARD OF 'sapperlaw09.BlockWrites'. -/
def blockWritesUptoCard : Claim7 := { stood := { row := blockWritesUptoRow, standIns := [], harness := (true, "9391b44112317094d95d696a808cc07efca663a0fa4b946e8384c9f9901c924c"), looks := false }, kinds := [], alts := [], laidByText := true, laidKinds := [.wider, .data], laidTests := true, laidLooks := .later }
def BlockWritesUptoCardSaid : Prop := Claim7.holds Tryz.pinned (.plain (OpenSpec.upto blockWritesSpec)) blockWritesUptoCard

/-- THE SECOND FORM's CARD OF 'sapperlaw09.BlockTrue'. -/
def blockTrueUptoCard : Claim7 := { stood := { row := blockTrueUptoRow, standIns := [], harness := (true, "9391b44112317094d95d696a808cc07efca663a0fa4b946e8384c9f9901c924c"), looks := false }, kinds := [], alts := [], laidByText := true, laidKinds := [.wider, .data], laidTests := true, laidLooks := .later }
def BlockTrueUptoCardSaid : Prop := Claim7.holds Tryz.pinned (.plain (OpenSpec.upto blockTrueSpec)) blockTrueUptoCard
end Rows
end Go.Proofs.YtcifalelnfeggaaGreatDoor
