/-
  DERIVED. GIVEN WITH THE SEED: THE CARDS: each row of YtmjlpfmacblcpaaDoorRows.lean that lists a variable, with what it lists TIED to the program's text (the seventh form; the later family's looks); each row that meets fmt, with fmt's text TOLD by the authors' own Lean function (tested against real Go, not proved from fmt's source: count such statements apart). THE CARD IS WHAT COUNTS. Prove the row's statement (the work); the ties are given (YtmjlpfmacblcpaaDoorTie.lean); close each card by the builder's one call (the guide's Derived/Test/ToyasCard.lean, 'card_holds'). Laid BY PROGRAM, IN A SANDBOX (cutbox-door.mjs). By AI agents, Wed Nov 11 2026. No macro, syntax, notation, axiom, sorry.
-/
import Derived.Test.YtmjlpfmacblcpaaDoorRows
import GoSem.ClaimSeven
namespace Go.Proofs.YtmjlpfmacblcpaaDoor
namespace Rows

/-- THE TIED CARD OF 'sapperlaw21.FlashLoads'. -/
def flashLoadsCard : Claim7 := { stood := { row := flashLoadsRow, standIns := [], harness := (true, "1d772f293a987fabc3efe91736333459e564481c14926a0ea554109d5b1efbf3"), looks := true }, kinds := [], alts := [], laidByText := true, laidKinds := [.data], laidTests := true, laidLooks := .later }
def FlashLoadsCardSaid : Prop := Claim7.holds Tryd.pinned (.plain (OpenSpec.ofChange flashLoadsSpec)) flashLoadsCard

/-- THE TIED CARD OF 'sapperlaw25.BootWrites'. -/
def bootWritesCard : Claim7 := { stood := { row := bootWritesRow, standIns := [], harness := (true, "1d772f293a987fabc3efe91736333459e564481c14926a0ea554109d5b1efbf3"), looks := true }, kinds := [], alts := [], laidByText := true, laidKinds := [.data], laidTests := true, laidLooks := .later }
def BootWritesCardSaid : Prop := Claim7.holds Tryd.pinned (.plain (OpenSpec.ofChange bootWritesSpec)) bootWritesCard

/-- THE TIED CARD OF 'sapperlaw25.BootHolds'. -/
def bootHoldsCard : Claim7 := { stood := { row := bootHoldsRow, standIns := [], harness := (true, "1d772f293a987fabc3efe91736333459e564481c14926a0ea554109d5b1efbf3"), looks := true }, kinds := [], alts := [], laidByText := true, laidKinds := [.data], laidTests := true, laidLooks := .later }
def BootHoldsCardSaid : Prop := Claim7.holds Tryd.pinned (.plain (OpenSpec.ofChange bootHoldsSpec)) bootHoldsCard

/-- THE TIED CARD OF 'sapperlaw25.BootTries'. -/
def bootTriesCard : Claim7 := { stood := { row := bootTriesRow, standIns := [], harness := (true, "1d772f293a987fabc3efe91736333459e564481c14926a0ea554109d5b1efbf3"), looks := true }, kinds := [], alts := [], laidByText := true, laidKinds := [.data], laidTests := true, laidLooks := .later }
def BootTriesCardSaid : Prop := Claim7.holds Tryd.pinned (.plain (OpenSpec.ofChange bootTriesSpec)) bootTriesCard

/-- THE SECOND FORM's CARD OF 'sapperlaw21.FlashLoads'. -/
def flashLoadsUptoCard : Claim7 := { stood := { row := flashLoadsUptoRow, standIns := [], harness := (true, "1d772f293a987fabc3efe91736333459e564481c14926a0ea554109d5b1efbf3"), looks := true }, kinds := [], alts := [], laidByText := true, laidKinds := [.data], laidTests := true, laidLooks := .later }
def FlashLoadsUptoCardSaid : Prop := Claim7.holds Tryd.pinned (.plain (OpenSpec.upto flashLoadsSpec)) flashLoadsUptoCard

/-- THE SECOND FORM's CARD OF 'sapperlaw25.BootWrites'. -/
def bootWritesUptoCard : Claim7 := { stood := { row := bootWritesUptoRow, standIns := [], harness := (true, "1d772f293a987fabc3efe91736333459e564481c14926a0ea554109d5b1efbf3"), looks := true }, kinds := [], alts := [], laidByText := true, laidKinds := [.data], laidTests := true, laidLooks := .later }
def BootWritesUptoCardSaid : Prop := Claim7.holds Tryd.pinned (.plain (OpenSpec.upto bootWritesSpec)) bootWritesUptoCard

/-- THE SECOND FORM's CARD OF 'sapperlaw25.BootHolds'. -/
def bootHoldsUptoCard : Claim7 := { stood := { row := bootHoldsUptoRow, standIns := [], harness := (true, "1d772f293a987fabc3efe91736333459e564481c14926a0ea554109d5b1efbf3"), looks := true }, kinds := [], alts := [], laidByText := true, laidKinds := [.data], laidTests := true, laidLooks := .later }
def BootHoldsUptoCardSaid : Prop := Claim7.holds Tryd.pinned (.plain (OpenSpec.upto bootHoldsSpec)) bootHoldsUptoCard

/-- THE SECOND FORM's CARD OF 'sapperlaw25.BootTries'. -/
def bootTriesUptoCard : Claim7 := { stood := { row := bootTriesUptoRow, standIns := [], harness := (true, "1d772f293a987fabc3efe91736333459e564481c14926a0ea554109d5b1efbf3"), looks := true }, kinds := [], alts := [], laidByText := true, laidKinds := [.data], laidTests := true, laidLooks := .later }
def BootTriesUptoCardSaid : Prop := Claim7.holds Tryd.pinned (.plain (OpenSpec.upto bootTriesSpec)) bootTriesUptoCard
end Rows
end Go.Proofs.YtmjlpfmacblcpaaDoor
