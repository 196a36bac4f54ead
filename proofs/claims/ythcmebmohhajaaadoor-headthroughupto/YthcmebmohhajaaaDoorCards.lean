/-
  DERIVED. GIVEN WITH THE SEED: THE CARDS: each row of YthcmebmohhajaaaDoorRows.lean that lists a variable, with what it lists TIED to the program's text (the seventh form; the later family's looks); each row that meets fmt, with fmt's text TOLD by the authors' own Lean function (tested against real Go, not proved from fmt's source: count such statements apart). THE CARD IS WHAT COUNTS. Prove the row's statement (the work); the ties are given (YthcmebmohhajaaaDoorTie.lean); close each card by the builder's one call (the guide's Derived/Test/ToyasCard.lean, 'card_holds'). Laid BY PROGRAM, IN A SANDBOX (cutbox-door.mjs). By AI agents, Wed Nov 11 2026. No macro, syntax, notation, axiom, sorry.
-/
import Derived.Test.YthcmebmohhajaaaDoorRows
import GoSem.ClaimSeven
namespace Go.Proofs.YthcmebmohhajaaaDoor
namespace Rows

/-- THE TIED CARD OF 'sapperlaw08.HeadReads'. -/
def headReadsCard : Claim7 := { stood := { row := headReadsRow, standIns := [], harness := (true, "1c668031c51f18d66fd418aef022f4ee253fcfdf3b4f09240618eb1139cf388e"), looks := false }, kinds := [], alts := [], laidByText := true, laidKinds := [.wider, .data], laidTests := true, laidLooks := .later }
def HeadReadsCardSaid : Prop := Claim7.holds Tryd.pinned (.plain (OpenSpec.ofChange headReadsSpec)) headReadsCard

/-- THE TIED CARD OF 'sapperlaw08.HeadThrough'. -/
def headThroughCard : Claim7 := { stood := { row := headThroughRow, standIns := [], harness := (true, "1c668031c51f18d66fd418aef022f4ee253fcfdf3b4f09240618eb1139cf388e"), looks := false }, kinds := [], alts := [], laidByText := true, laidKinds := [.wider, .data], laidTests := true, laidLooks := .later }
def HeadThroughCardSaid : Prop := Claim7.holds Tryd.pinned (.plain (OpenSpec.ofChange headThroughSpec)) headThroughCard

/-- THE TIED CARD OF 'sapperlaw08.HeadTold'. -/
def headToldCard : Claim7 := { stood := { row := headToldRow, standIns := [], harness := (true, "1c668031c51f18d66fd418aef022f4ee253fcfdf3b4f09240618eb1139cf388e"), looks := false }, kinds := [], alts := [], laidByText := true, laidKinds := [.wider, .data], laidTests := true, laidLooks := .later }
def HeadToldCardSaid : Prop := Claim7.holds Tryd.pinned (.plain (OpenSpec.ofChange headToldSpec)) headToldCard

/-- THE SECOND FORM's CARD OF 'sapperlaw08.HeadReads'. -/
def headReadsUptoCard : Claim7 := { stood := { row := headReadsUptoRow, standIns := [], harness := (true, "1c668031c51f18d66fd418aef022f4ee253fcfdf3b4f09240618eb1139cf388e"), looks := false }, kinds := [], alts := [], laidByText := true, laidKinds := [.wider, .data], laidTests := true, laidLooks := .later }
def HeadReadsUptoCardSaid : Prop := Claim7.holds Tryd.pinned (.plain (OpenSpec.upto headReadsSpec)) headReadsUptoCard

/-- THE SECOND FORM's CARD OF 'sapperlaw08.HeadThrough'. -/
def headThroughUptoCard : Claim7 := { stood := { row := headThroughUptoRow, standIns := [], harness := (true, "1c668031c51f18d66fd418aef022f4ee253fcfdf3b4f09240618eb1139cf388e"), looks := false }, kinds := [], alts := [], laidByText := true, laidKinds := [.wider, .data], laidTests := true, laidLooks := .later }
def HeadThroughUptoCardSaid : Prop := Claim7.holds Tryd.pinned (.plain (OpenSpec.upto headThroughSpec)) headThroughUptoCard

/-- THE SECOND FORM's CARD OF 'sapperlaw08.HeadTold'. -/
def headToldUptoCard : Claim7 := { stood := { row := headToldUptoRow, standIns := [], harness := (true, "1c668031c51f18d66fd418aef022f4ee253fcfdf3b4f09240618eb1139cf388e"), looks := false }, kinds := [], alts := [], laidByText := true, laidKinds := [.wider, .data], laidTests := true, laidLooks := .later }
def HeadToldUptoCardSaid : Prop := Claim7.holds Tryd.pinned (.plain (OpenSpec.upto headToldSpec)) headToldUptoCard
end Rows
end Go.Proofs.YthcmebmohhajaaaDoor
