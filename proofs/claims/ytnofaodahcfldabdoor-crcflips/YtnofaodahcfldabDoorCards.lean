/-
  DERIVED. GIVEN WITH THE SEED: THE CARDS: each row of YtnofaodahcfldabDoorRows.lean that lists a variable, with what it lists TIED to the program's text (the seventh form; the later family's looks); each row that meets fmt, with fmt's text TOLD by the authors' own Lean function (tested against real Go, not proved from fmt's source: count such statements apart). THE CARD IS WHAT COUNTS. Prove the row's statement (the work); the ties are given (YtnofaodahcfldabDoorTie.lean); close each card by the builder's one call (the guide's Derived/Test/ToyasCard.lean, 'card_holds'). Laid BY PROGRAM, IN A SANDBOX (cutbox-door.mjs). By AI agents, Wed Nov 11 2026. No macro, syntax, notation, axiom, sorry.
-/
import Derived.Test.YtnofaodahcfldabDoorRows
import GoSem.ClaimSeven
namespace Go.Proofs.YtnofaodahcfldabDoor
namespace Rows

/-- THE TIED CARD OF 'sapperlaw02.CrcTails'. -/
def crcTailsCard : Claim7 := { stood := { row := crcTailsRow, standIns := [], harness := (true, "ace8ce51fd5929461acc911d64e1214bce146d411b0d7a9fc16d8f242d842065"), looks := false }, kinds := [], alts := [], laidByText := true, laidKinds := [.data], laidTests := true, laidLooks := .later }
def CrcTailsCardSaid : Prop := Claim7.holds Tryd.pinned (.plain (OpenSpec.ofChange crcTailsSpec)) crcTailsCard

/-- THE TIED CARD OF 'sapperlaw02.CrcFlips'. -/
def crcFlipsCard : Claim7 := { stood := { row := crcFlipsRow, standIns := [], harness := (true, "ace8ce51fd5929461acc911d64e1214bce146d411b0d7a9fc16d8f242d842065"), looks := false }, kinds := [], alts := [], laidByText := true, laidKinds := [.data], laidTests := true, laidLooks := .later }
def CrcFlipsCardSaid : Prop := Claim7.holds Tryd.pinned (.plain (OpenSpec.ofChange crcFlipsSpec)) crcFlipsCard

/-- THE TIED CARD OF 'sapperlaw02.CrcThird'. -/
def crcThirdCard : Claim7 := { stood := { row := crcThirdRow, standIns := [], harness := (true, "ace8ce51fd5929461acc911d64e1214bce146d411b0d7a9fc16d8f242d842065"), looks := false }, kinds := [], alts := [], laidByText := true, laidKinds := [.data], laidTests := true, laidLooks := .later }
def CrcThirdCardSaid : Prop := Claim7.holds Tryd.pinned (.plain (OpenSpec.ofChange crcThirdSpec)) crcThirdCard

/-- THE TIED CARD OF 'sapperlaw02.CrcRuns'. -/
def crcRunsCard : Claim7 := { stood := { row := crcRunsRow, standIns := [], harness := (true, "ace8ce51fd5929461acc911d64e1214bce146d411b0d7a9fc16d8f242d842065"), looks := false }, kinds := [], alts := [], laidByText := true, laidKinds := [.data], laidTests := true, laidLooks := .later }
def CrcRunsCardSaid : Prop := Claim7.holds Tryd.pinned (.plain (OpenSpec.ofChange crcRunsSpec)) crcRunsCard

/-- THE TIED CARD OF 'sapperlaw02.CrcCuts'. -/
def crcCutsCard : Claim7 := { stood := { row := crcCutsRow, standIns := [], harness := (true, "ace8ce51fd5929461acc911d64e1214bce146d411b0d7a9fc16d8f242d842065"), looks := false }, kinds := [], alts := [], laidByText := true, laidKinds := [.data], laidTests := true, laidLooks := .later }
def CrcCutsCardSaid : Prop := Claim7.holds Tryd.pinned (.plain (OpenSpec.ofChange crcCutsSpec)) crcCutsCard

/-- THE TIED CARD OF 'sapperlaw02.CrcTurnsBack'. -/
def crcTurnsBackCard : Claim7 := { stood := { row := crcTurnsBackRow, standIns := [], harness := (true, "ace8ce51fd5929461acc911d64e1214bce146d411b0d7a9fc16d8f242d842065"), looks := false }, kinds := [], alts := [], laidByText := true, laidKinds := [.data], laidTests := true, laidLooks := .later }
def CrcTurnsBackCardSaid : Prop := Claim7.holds Tryd.pinned (.plain (OpenSpec.ofChange crcTurnsBackSpec)) crcTurnsBackCard

/-- THE SECOND FORM's CARD OF 'sapperlaw02.CrcTails'. -/
def crcTailsUptoCard : Claim7 := { stood := { row := crcTailsUptoRow, standIns := [], harness := (true, "ace8ce51fd5929461acc911d64e1214bce146d411b0d7a9fc16d8f242d842065"), looks := false }, kinds := [], alts := [], laidByText := true, laidKinds := [.data], laidTests := true, laidLooks := .later }
def CrcTailsUptoCardSaid : Prop := Claim7.holds Tryd.pinned (.plain (OpenSpec.upto crcTailsSpec)) crcTailsUptoCard

/-- THE SECOND FORM's CARD OF 'sapperlaw02.CrcFlips'. -/
def crcFlipsUptoCard : Claim7 := { stood := { row := crcFlipsUptoRow, standIns := [], harness := (true, "ace8ce51fd5929461acc911d64e1214bce146d411b0d7a9fc16d8f242d842065"), looks := false }, kinds := [], alts := [], laidByText := true, laidKinds := [.data], laidTests := true, laidLooks := .later }
def CrcFlipsUptoCardSaid : Prop := Claim7.holds Tryd.pinned (.plain (OpenSpec.upto crcFlipsSpec)) crcFlipsUptoCard

/-- THE SECOND FORM's CARD OF 'sapperlaw02.CrcThird'. -/
def crcThirdUptoCard : Claim7 := { stood := { row := crcThirdUptoRow, standIns := [], harness := (true, "ace8ce51fd5929461acc911d64e1214bce146d411b0d7a9fc16d8f242d842065"), looks := false }, kinds := [], alts := [], laidByText := true, laidKinds := [.data], laidTests := true, laidLooks := .later }
def CrcThirdUptoCardSaid : Prop := Claim7.holds Tryd.pinned (.plain (OpenSpec.upto crcThirdSpec)) crcThirdUptoCard

/-- THE SECOND FORM's CARD OF 'sapperlaw02.CrcRuns'. -/
def crcRunsUptoCard : Claim7 := { stood := { row := crcRunsUptoRow, standIns := [], harness := (true, "ace8ce51fd5929461acc911d64e1214bce146d411b0d7a9fc16d8f242d842065"), looks := false }, kinds := [], alts := [], laidByText := true, laidKinds := [.data], laidTests := true, laidLooks := .later }
def CrcRunsUptoCardSaid : Prop := Claim7.holds Tryd.pinned (.plain (OpenSpec.upto crcRunsSpec)) crcRunsUptoCard

/-- THE SECOND FORM's CARD OF 'sapperlaw02.CrcCuts'. -/
def crcCutsUptoCard : Claim7 := { stood := { row := crcCutsUptoRow, standIns := [], harness := (true, "ace8ce51fd5929461acc911d64e1214bce146d411b0d7a9fc16d8f242d842065"), looks := false }, kinds := [], alts := [], laidByText := true, laidKinds := [.data], laidTests := true, laidLooks := .later }
def CrcCutsUptoCardSaid : Prop := Claim7.holds Tryd.pinned (.plain (OpenSpec.upto crcCutsSpec)) crcCutsUptoCard

/-- THE SECOND FORM's CARD OF 'sapperlaw02.CrcTurnsBack'. -/
def crcTurnsBackUptoCard : Claim7 := { stood := { row := crcTurnsBackUptoRow, standIns := [], harness := (true, "ace8ce51fd5929461acc911d64e1214bce146d411b0d7a9fc16d8f242d842065"), looks := false }, kinds := [], alts := [], laidByText := true, laidKinds := [.data], laidTests := true, laidLooks := .later }
def CrcTurnsBackUptoCardSaid : Prop := Claim7.holds Tryd.pinned (.plain (OpenSpec.upto crcTurnsBackSpec)) crcTurnsBackUptoCard
end Rows
end Go.Proofs.YtnofaodahcfldabDoor
