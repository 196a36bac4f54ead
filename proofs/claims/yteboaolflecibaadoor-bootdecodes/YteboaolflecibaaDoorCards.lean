/-
  DERIVED. GIVEN WITH THE SEED: THE CARDS: each row of YteboaolflecibaaDoorRows.lean that lists a variable, with what it lists TIED to the program's text (the seventh form; the later family's looks); each row that meets fmt, with fmt's text TOLD by the authors' own Lean function (tested against real Go, not proved from fmt's source: count such statements apart). THE CARD IS WHAT COUNTS. Prove the row's statement (the work); the ties are given (YteboaolflecibaaDoorTie.lean); close each card by the builder's one call (the guide's Derived/Test/ToyasCard.lean, 'card_holds'). Laid BY PROGRAM, IN A SANDBOX (cutbox-door.mjs). By AI agents, Wed Nov 11 2026. No macro, syntax, notation, axiom, sorry.
-/
import Derived.Test.YteboaolflecibaaDoorRows
import GoSem.ClaimSeven
namespace Go.Proofs.YteboaolflecibaaDoor
namespace Rows

/-- THE TIED CARD OF 'sapperlaw25.BootNames'. -/
def bootNamesCard : Claim7 := { stood := { row := bootNamesRow, standIns := [], harness := (true, "4e47947edde91996c4fe8125428effe171b22e7d0df4076ad09f971085993923"), looks := true }, kinds := [], alts := [], laidByText := true, laidKinds := [.data], laidTests := true, laidLooks := .later }
def BootNamesCardSaid : Prop := Claim7.holds Tryd.pinned (.plain (OpenSpec.ofChange bootNamesSpec)) bootNamesCard

/-- THE TIED CARD OF 'sapperlaw25.BootChecks'. -/
def bootChecksCard : Claim7 := { stood := { row := bootChecksRow, standIns := [], harness := (true, "4e47947edde91996c4fe8125428effe171b22e7d0df4076ad09f971085993923"), looks := true }, kinds := [], alts := [], laidByText := true, laidKinds := [.data], laidTests := true, laidLooks := .later }
def BootChecksCardSaid : Prop := Claim7.holds Tryd.pinned (.plain (OpenSpec.ofChange bootChecksSpec)) bootChecksCard

/-- THE TIED CARD OF 'sapperlaw25.BootDecodes'. -/
def bootDecodesCard : Claim7 := { stood := { row := bootDecodesRow, standIns := [], harness := (true, "4e47947edde91996c4fe8125428effe171b22e7d0df4076ad09f971085993923"), looks := true }, kinds := [], alts := [], laidByText := true, laidKinds := [.data], laidTests := true, laidLooks := .later }
def BootDecodesCardSaid : Prop := Claim7.holds Tryd.pinned (.plain (OpenSpec.ofChange bootDecodesSpec)) bootDecodesCard

/-- THE TIED CARD OF 'sapperlaw25.BootMoves'. -/
def bootMovesCard : Claim7 := { stood := { row := bootMovesRow, standIns := [], harness := (true, "4e47947edde91996c4fe8125428effe171b22e7d0df4076ad09f971085993923"), looks := true }, kinds := [], alts := [], laidByText := true, laidKinds := [.data], laidTests := true, laidLooks := .later }
def BootMovesCardSaid : Prop := Claim7.holds Tryd.pinned (.plain (OpenSpec.ofChange bootMovesSpec)) bootMovesCard

/-- THE TIED CARD OF 'sapperlaw25.BootWrites'. -/
def bootWritesCard : Claim7 := { stood := { row := bootWritesRow, standIns := [], harness := (true, "4e47947edde91996c4fe8125428effe171b22e7d0df4076ad09f971085993923"), looks := true }, kinds := [], alts := [], laidByText := true, laidKinds := [.data], laidTests := true, laidLooks := .later }
def BootWritesCardSaid : Prop := Claim7.holds Tryd.pinned (.plain (OpenSpec.ofChange bootWritesSpec)) bootWritesCard

/-- THE TIED CARD OF 'sapperlaw25.BootHolds'. -/
def bootHoldsCard : Claim7 := { stood := { row := bootHoldsRow, standIns := [], harness := (true, "4e47947edde91996c4fe8125428effe171b22e7d0df4076ad09f971085993923"), looks := true }, kinds := [], alts := [], laidByText := true, laidKinds := [.data], laidTests := true, laidLooks := .later }
def BootHoldsCardSaid : Prop := Claim7.holds Tryd.pinned (.plain (OpenSpec.ofChange bootHoldsSpec)) bootHoldsCard

/-- THE SECOND FORM's CARD OF 'sapperlaw25.BootNames'. -/
def bootNamesUptoCard : Claim7 := { stood := { row := bootNamesUptoRow, standIns := [], harness := (true, "4e47947edde91996c4fe8125428effe171b22e7d0df4076ad09f971085993923"), looks := true }, kinds := [], alts := [], laidByText := true, laidKinds := [.data], laidTests := true, laidLooks := .later }
def BootNamesUptoCardSaid : Prop := Claim7.holds Tryd.pinned (.plain (OpenSpec.upto bootNamesSpec)) bootNamesUptoCard

/-- THE SECOND FORM's CARD OF 'sapperlaw25.BootChecks'. -/
def bootChecksUptoCard : Claim7 := { stood := { row := bootChecksUptoRow, standIns := [], harness := (true, "4e47947edde91996c4fe8125428effe171b22e7d0df4076ad09f971085993923"), looks := true }, kinds := [], alts := [], laidByText := true, laidKinds := [.data], laidTests := true, laidLooks := .later }
def BootChecksUptoCardSaid : Prop := Claim7.holds Tryd.pinned (.plain (OpenSpec.upto bootChecksSpec)) bootChecksUptoCard

/-- THE SECOND FORM's CARD OF 'sapperlaw25.BootDecodes'. -/
def bootDecodesUptoCard : Claim7 := { stood := { row := bootDecodesUptoRow, standIns := [], harness := (true, "4e47947edde91996c4fe8125428effe171b22e7d0df4076ad09f971085993923"), looks := true }, kinds := [], alts := [], laidByText := true, laidKinds := [.data], laidTests := true, laidLooks := .later }
def BootDecodesUptoCardSaid : Prop := Claim7.holds Tryd.pinned (.plain (OpenSpec.upto bootDecodesSpec)) bootDecodesUptoCard

/-- THE SECOND FORM's CARD OF 'sapperlaw25.BootMoves'. -/
def bootMovesUptoCard : Claim7 := { stood := { row := bootMovesUptoRow, standIns := [], harness := (true, "4e47947edde91996c4fe8125428effe171b22e7d0df4076ad09f971085993923"), looks := true }, kinds := [], alts := [], laidByText := true, laidKinds := [.data], laidTests := true, laidLooks := .later }
def BootMovesUptoCardSaid : Prop := Claim7.holds Tryd.pinned (.plain (OpenSpec.upto bootMovesSpec)) bootMovesUptoCard

/-- THE SECOND FORM's CARD OF 'sapperlaw25.BootWrites'. -/
def bootWritesUptoCard : Claim7 := { stood := { row := bootWritesUptoRow, standIns := [], harness := (true, "4e47947edde91996c4fe8125428effe171b22e7d0df4076ad09f971085993923"), looks := true }, kinds := [], alts := [], laidByText := true, laidKinds := [.data], laidTests := true, laidLooks := .later }
def BootWritesUptoCardSaid : Prop := Claim7.holds Tryd.pinned (.plain (OpenSpec.upto bootWritesSpec)) bootWritesUptoCard

/-- THE SECOND FORM's CARD OF 'sapperlaw25.BootHolds'. -/
def bootHoldsUptoCard : Claim7 := { stood := { row := bootHoldsUptoRow, standIns := [], harness := (true, "4e47947edde91996c4fe8125428effe171b22e7d0df4076ad09f971085993923"), looks := true }, kinds := [], alts := [], laidByText := true, laidKinds := [.data], laidTests := true, laidLooks := .later }
def BootHoldsUptoCardSaid : Prop := Claim7.holds Tryd.pinned (.plain (OpenSpec.upto bootHoldsSpec)) bootHoldsUptoCard
end Rows
end Go.Proofs.YteboaolflecibaaDoor
