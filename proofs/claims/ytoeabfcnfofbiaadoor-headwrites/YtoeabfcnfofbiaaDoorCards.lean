/-
  DERIVED. GIVEN WITH THE SEED: THE CARDS: each row of YtoeabfcnfofbiaaDoorRows.lean that lists a variable, with what it lists TIED to the program's text (the seventh form; the later family's looks); each row that meets fmt, with fmt's text TOLD by the authors' own Lean function (tested against real Go, not proved from fmt's source: count such statements apart). THE CARD IS WHAT COUNTS. Prove the row's statement (the work); the ties are given (YtoeabfcnfofbiaaDoorTie.lean); close each card by the builder's one call (the guide's Derived/Test/ToyasCard.lean, 'card_holds'). Laid BY PROGRAM, IN A SANDBOX (cutbox-door.mjs). By AI agents, Wed Nov 11 2026. No macro, syntax, notation, axiom, sorry.
-/
import Derived.Test.YtoeabfcnfofbiaaDoorRows
import GoSem.ClaimSeven
namespace Go.Proofs.YtoeabfcnfofbiaaDoor
namespace Rows

/-- THE TIED CARD OF 'sapperlaw08.HeadNames'. -/
def headNamesCard : Claim7 := { stood := { row := headNamesRow, standIns := [], harness := (true, "0b3dc1b20b02c34ee17d95c0b6a96d68f52f543c81050161e585bbd4ccba17f3"), looks := false }, kinds := [], alts := [], laidByText := true, laidKinds := [.wider, .data], laidTests := true, laidLooks := .later }
def HeadNamesCardSaid : Prop := Claim7.holds Tryd.pinned (.plain (OpenSpec.ofChange headNamesSpec)) headNamesCard

/-- THE TIED CARD OF 'sapperlaw08.HeadRuns'. -/
def headRunsCard : Claim7 := { stood := { row := headRunsRow, standIns := [], harness := (true, "0b3dc1b20b02c34ee17d95c0b6a96d68f52f543c81050161e585bbd4ccba17f3"), looks := false }, kinds := [], alts := [], laidByText := true, laidKinds := [.wider], laidTests := true, laidLooks := .later }
def HeadRunsCardSaid : Prop := Claim7.holds Tryd.pinned (.plain (OpenSpec.ofChange headRunsSpec)) headRunsCard

/-- THE TIED CARD OF 'sapperlaw08.HeadLens'. -/
def headLensCard : Claim7 := { stood := { row := headLensRow, standIns := [], harness := (true, "0b3dc1b20b02c34ee17d95c0b6a96d68f52f543c81050161e585bbd4ccba17f3"), looks := false }, kinds := [], alts := [], laidByText := true, laidKinds := [.wider], laidTests := true, laidLooks := .later }
def HeadLensCardSaid : Prop := Claim7.holds Tryd.pinned (.plain (OpenSpec.ofChange headLensSpec)) headLensCard

/-- THE TIED CARD OF 'sapperlaw08.HeadWrites'. -/
def headWritesCard : Claim7 := { stood := { row := headWritesRow, standIns := [], harness := (true, "0b3dc1b20b02c34ee17d95c0b6a96d68f52f543c81050161e585bbd4ccba17f3"), looks := false }, kinds := [], alts := [], laidByText := true, laidKinds := [.wider, .data], laidTests := true, laidLooks := .later }
def HeadWritesCardSaid : Prop := Claim7.holds Tryd.pinned (.plain (OpenSpec.ofChange headWritesSpec)) headWritesCard

/-- THE TIED CARD OF 'sapperlaw08.HeadReads'. -/
def headReadsCard : Claim7 := { stood := { row := headReadsRow, standIns := [], harness := (true, "0b3dc1b20b02c34ee17d95c0b6a96d68f52f543c81050161e585bbd4ccba17f3"), looks := false }, kinds := [], alts := [], laidByText := true, laidKinds := [.wider, .data], laidTests := true, laidLooks := .later }
def HeadReadsCardSaid : Prop := Claim7.holds Tryd.pinned (.plain (OpenSpec.ofChange headReadsSpec)) headReadsCard

/-- THE TIED CARD OF 'sapperlaw08.HeadNone'. -/
def headNoneCard : Claim7 := { stood := { row := headNoneRow, standIns := [], harness := (true, "0b3dc1b20b02c34ee17d95c0b6a96d68f52f543c81050161e585bbd4ccba17f3"), looks := false }, kinds := [], alts := [], laidByText := true, laidKinds := [.wider, .data], laidTests := true, laidLooks := .later }
def HeadNoneCardSaid : Prop := Claim7.holds Tryd.pinned (.plain (OpenSpec.ofChange headNoneSpec)) headNoneCard

/-- THE SECOND FORM's CARD OF 'sapperlaw08.HeadNames'. -/
def headNamesUptoCard : Claim7 := { stood := { row := headNamesUptoRow, standIns := [], harness := (true, "0b3dc1b20b02c34ee17d95c0b6a96d68f52f543c81050161e585bbd4ccba17f3"), looks := false }, kinds := [], alts := [], laidByText := true, laidKinds := [.wider, .data], laidTests := true, laidLooks := .later }
def HeadNamesUptoCardSaid : Prop := Claim7.holds Tryd.pinned (.plain (OpenSpec.upto headNamesSpec)) headNamesUptoCard

/-- THE SECOND FORM's CARD OF 'sapperlaw08.HeadRuns'. -/
def headRunsUptoCard : Claim7 := { stood := { row := headRunsUptoRow, standIns := [], harness := (true, "0b3dc1b20b02c34ee17d95c0b6a96d68f52f543c81050161e585bbd4ccba17f3"), looks := false }, kinds := [], alts := [], laidByText := true, laidKinds := [.wider], laidTests := true, laidLooks := .later }
def HeadRunsUptoCardSaid : Prop := Claim7.holds Tryd.pinned (.plain (OpenSpec.upto headRunsSpec)) headRunsUptoCard

/-- THE SECOND FORM's CARD OF 'sapperlaw08.HeadLens'. -/
def headLensUptoCard : Claim7 := { stood := { row := headLensUptoRow, standIns := [], harness := (true, "0b3dc1b20b02c34ee17d95c0b6a96d68f52f543c81050161e585bbd4ccba17f3"), looks := false }, kinds := [], alts := [], laidByText := true, laidKinds := [.wider], laidTests := true, laidLooks := .later }
def HeadLensUptoCardSaid : Prop := Claim7.holds Tryd.pinned (.plain (OpenSpec.upto headLensSpec)) headLensUptoCard

/-- THE SECOND FORM's CARD OF 'sapperlaw08.HeadWrites'. -/
def headWritesUptoCard : Claim7 := { stood := { row := headWritesUptoRow, standIns := [], harness := (true, "0b3dc1b20b02c34ee17d95c0b6a96d68f52f543c81050161e585bbd4ccba17f3"), looks := false }, kinds := [], alts := [], laidByText := true, laidKinds := [.wider, .data], laidTests := true, laidLooks := .later }
def HeadWritesUptoCardSaid : Prop := Claim7.holds Tryd.pinned (.plain (OpenSpec.upto headWritesSpec)) headWritesUptoCard

/-- THE SECOND FORM's CARD OF 'sapperlaw08.HeadReads'. -/
def headReadsUptoCard : Claim7 := { stood := { row := headReadsUptoRow, standIns := [], harness := (true, "0b3dc1b20b02c34ee17d95c0b6a96d68f52f543c81050161e585bbd4ccba17f3"), looks := false }, kinds := [], alts := [], laidByText := true, laidKinds := [.wider, .data], laidTests := true, laidLooks := .later }
def HeadReadsUptoCardSaid : Prop := Claim7.holds Tryd.pinned (.plain (OpenSpec.upto headReadsSpec)) headReadsUptoCard

/-- THE SECOND FORM's CARD OF 'sapperlaw08.HeadNone'. -/
def headNoneUptoCard : Claim7 := { stood := { row := headNoneUptoRow, standIns := [], harness := (true, "0b3dc1b20b02c34ee17d95c0b6a96d68f52f543c81050161e585bbd4ccba17f3"), looks := false }, kinds := [], alts := [], laidByText := true, laidKinds := [.wider, .data], laidTests := true, laidLooks := .later }
def HeadNoneUptoCardSaid : Prop := Claim7.holds Tryd.pinned (.plain (OpenSpec.upto headNoneSpec)) headNoneUptoCard
end Rows
end Go.Proofs.YtoeabfcnfofbiaaDoor
