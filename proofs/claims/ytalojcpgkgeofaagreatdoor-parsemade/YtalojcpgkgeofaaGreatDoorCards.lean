/-
  DERIVED. GIVEN WITH THE SEED: THE CARDS: each row of YtalojcpgkgeofaaGreatDoorRows.lean that lists a variable, with what it lists TIED to the program's text (the seventh form; the later family's looks); each row that meets fmt, with fmt's text TOLD by the authors' own Lean function (tested against real Go, not proved from fmt's source: count such statements apart). THE CARD IS WHAT COUNTS. Prove the row's statement (the work); the ties are given (YtalojcpgkgeofaaGreatDoorTie.lean); close each card by the builder's one call (the guide's Derived/Test/ToyasCard.lean, 'card_holds'). Laid BY PROGRAM, IN A SANDBOX (cutbox-door.mjs). By AI agents, Wed Nov 11 2026. No macro, syntax, notation, axiom, sorry.
-/
import Derived.Test.YtalojcpgkgeofaaGreatDoorRows
import GoSem.ClaimSeven
namespace Go.Proofs.YtalojcpgkgeofaaGreatDoor
namespace Rows

/-- THE TIED CARD OF 'sapperlaw19.ParseNames'. -/
def parseNamesCard : Claim7 := { stood := { row := parseNamesRow, standIns := [], harness := (true, "75a0935a818d9024321060729ba346782833287bd69c4f9d260fa3cf986568e3"), looks := true }, kinds := [], alts := [], laidByText := true, laidKinds := [.data, .wider, .data], laidTests := true, laidLooks := .later }
def ParseNamesCardSaid : Prop := Claim7.holds Tryz.pinned (.plain (OpenSpec.ofChange parseNamesSpec)) parseNamesCard

/-- THE TIED CARD OF 'sapperlaw19.ParseSteps'. -/
def parseStepsCard : Claim7 := { stood := { row := parseStepsRow, standIns := [], harness := (true, "75a0935a818d9024321060729ba346782833287bd69c4f9d260fa3cf986568e3"), looks := true }, kinds := [], alts := [], laidByText := true, laidKinds := [.data, .wider, .data], laidTests := true, laidLooks := .later }
def ParseStepsCardSaid : Prop := Claim7.holds Tryz.pinned (.plain (OpenSpec.ofChange parseStepsSpec)) parseStepsCard

/-- THE TIED CARD OF 'sapperlaw19.ParseAlls'. -/
def parseAllsCard : Claim7 := { stood := { row := parseAllsRow, standIns := [], harness := (true, "75a0935a818d9024321060729ba346782833287bd69c4f9d260fa3cf986568e3"), looks := true }, kinds := [], alts := [], laidByText := true, laidKinds := [.data, .wider, .data], laidTests := true, laidLooks := .later }
def ParseAllsCardSaid : Prop := Claim7.holds Tryz.pinned (.plain (OpenSpec.ofChange parseAllsSpec)) parseAllsCard

/-- THE TIED CARD OF 'sapperlaw19.ParsePieces'. -/
def parsePiecesCard : Claim7 := { stood := { row := parsePiecesRow, standIns := [], harness := (true, "75a0935a818d9024321060729ba346782833287bd69c4f9d260fa3cf986568e3"), looks := true }, kinds := [], alts := [], laidByText := true, laidKinds := [.data, .wider, .data], laidTests := true, laidLooks := .later }
def ParsePiecesCardSaid : Prop := Claim7.holds Tryz.pinned (.plain (OpenSpec.ofChange parsePiecesSpec)) parsePiecesCard

/-- THE TIED CARD OF 'sapperlaw19.ParseMade'. -/
def parseMadeCard : Claim7 := { stood := { row := parseMadeRow, standIns := [], harness := (true, "75a0935a818d9024321060729ba346782833287bd69c4f9d260fa3cf986568e3"), looks := true }, kinds := [], alts := [], laidByText := true, laidKinds := [.data, .wider, .data], laidTests := true, laidLooks := .later }
def ParseMadeCardSaid : Prop := Claim7.holds Tryz.pinned (.plain (OpenSpec.ofChange parseMadeSpec)) parseMadeCard

/-- THE TIED CARD OF 'sapperlaw18.FrameReads'. -/
def frameReadsCard : Claim7 := { stood := { row := frameReadsRow, standIns := [], harness := (true, "75a0935a818d9024321060729ba346782833287bd69c4f9d260fa3cf986568e3"), looks := true }, kinds := [], alts := [], laidByText := true, laidKinds := [.data, .wider, .data], laidTests := true, laidLooks := .later }
def FrameReadsCardSaid : Prop := Claim7.holds Tryz.pinned (.plain (OpenSpec.ofChange frameReadsSpec)) frameReadsCard

/-- THE SECOND FORM's CARD OF 'sapperlaw19.ParseNames'. -/
def parseNamesUptoCard : Claim7 := { stood := { row := parseNamesUptoRow, standIns := [], harness := (true, "75a0935a818d9024321060729ba346782833287bd69c4f9d260fa3cf986568e3"), looks := true }, kinds := [], alts := [], laidByText := true, laidKinds := [.data, .wider, .data], laidTests := true, laidLooks := .later }
def ParseNamesUptoCardSaid : Prop := Claim7.holds Tryz.pinned (.plain (OpenSpec.upto parseNamesSpec)) parseNamesUptoCard

/-- THE SECOND FORM's CARD OF 'sapperlaw19.ParseSteps'. -/
def parseStepsUptoCard : Claim7 := { stood := { row := parseStepsUptoRow, standIns := [], harness := (true, "75a0935a818d9024321060729ba346782833287bd69c4f9d260fa3cf986568e3"), looks := true }, kinds := [], alts := [], laidByText := true, laidKinds := [.data, .wider, .data], laidTests := true, laidLooks := .later }
def ParseStepsUptoCardSaid : Prop := Claim7.holds Tryz.pinned (.plain (OpenSpec.upto parseStepsSpec)) parseStepsUptoCard

/-- THE SECOND FORM's CARD OF 'sapperlaw19.ParseAlls'. -/
def parseAllsUptoCard : Claim7 := { stood := { row := parseAllsUptoRow, standIns := [], harness := (true, "75a0935a818d9024321060729ba346782833287bd69c4f9d260fa3cf986568e3"), looks := true }, kinds := [], alts := [], laidByText := true, laidKinds := [.data, .wider, .data], laidTests := true, laidLooks := .later }
def ParseAllsUptoCardSaid : Prop := Claim7.holds Tryz.pinned (.plain (OpenSpec.upto parseAllsSpec)) parseAllsUptoCard

/-- THE SECOND FORM's CARD OF 'sapperlaw19.ParsePieces'. -/
def parsePiecesUptoCard : Claim7 := { stood := { row := parsePiecesUptoRow, standIns := [], harness := (true, "75a0935a818d9024321060729ba346782833287bd69c4f9d260fa3cf986568e3"), looks := true }, kinds := [], alts := [], laidByText := true, laidKinds := [.data, .wider, .data], laidTests := true, laidLooks := .later }
def ParsePiecesUptoCardSaid : Prop := Claim7.holds Tryz.pinned (.plain (OpenSpec.upto parsePiecesSpec)) parsePiecesUptoCard

/-- THE SECOND FORM's CARD OF 'sapperlaw19.ParseMade'. -/
def parseMadeUptoCard : Claim7 := { stood := { row := parseMadeUptoRow, standIns := [], harness := (true, "75a0935a818d9024321060729ba346782833287bd69c4f9d260fa3cf986568e3"), looks := true }, kinds := [], alts := [], laidByText := true, laidKinds := [.data, .wider, .data], laidTests := true, laidLooks := .later }
def ParseMadeUptoCardSaid : Prop := Claim7.holds Tryz.pinned (.plain (OpenSpec.upto parseMadeSpec)) parseMadeUptoCard

/-- THE SECOND FORM's CARD OF 'sapperlaw18.FrameReads'. -/
def frameReadsUptoCard : Claim7 := { stood := { row := frameReadsUptoRow, standIns := [], harness := (true, "75a0935a818d9024321060729ba346782833287bd69c4f9d260fa3cf986568e3"), looks := true }, kinds := [], alts := [], laidByText := true, laidKinds := [.data, .wider, .data], laidTests := true, laidLooks := .later }
def FrameReadsUptoCardSaid : Prop := Claim7.holds Tryz.pinned (.plain (OpenSpec.upto frameReadsSpec)) frameReadsUptoCard
end Rows
end Go.Proofs.YtalojcpgkgeofaaGreatDoor
