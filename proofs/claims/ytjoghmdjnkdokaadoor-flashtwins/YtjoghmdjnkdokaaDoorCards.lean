/-
  DERIVED. GIVEN WITH THE SEED: THE CARDS: each row of YtjoghmdjnkdokaaDoorRows.lean that lists a variable, with what it lists TIED to the program's text (the seventh form; the later family's looks); each row that meets fmt, with fmt's text TOLD by the authors' own Lean function (tested against real Go, not proved from fmt's source: count such statements apart). THE CARD IS WHAT COUNTS. Prove the row's statement (the work); the ties are given (YtjoghmdjnkdokaaDoorTie.lean); close each card by the builder's one call (the guide's Derived/Test/ToyasCard.lean, 'card_holds'). Laid BY PROGRAM, IN A SANDBOX (cutbox-door.mjs). By AI agents, Wed Nov 11 2026. No macro, syntax, notation, axiom, sorry.
-/
import Derived.Test.YtjoghmdjnkdokaaDoorRows
import GoSem.ClaimSeven
namespace Go.Proofs.YtjoghmdjnkdokaaDoor
namespace Rows

/-- THE TIED CARD OF 'sapperlaw21.FlashPlays'. -/
def flashPlaysCard : Claim7 := { stood := { row := flashPlaysRow, standIns := [], harness := (true, "3a52a4fb34d8e4224a5fa59cd0d61e433fbd282930716f8dc4fa7ab0c332678d"), looks := true }, kinds := [], alts := [], laidByText := true, laidKinds := [.data], laidTests := true, laidLooks := .later }
def FlashPlaysCardSaid : Prop := Claim7.holds Tryd.pinned (.plain (OpenSpec.ofChange flashPlaysSpec)) flashPlaysCard

/-- THE TIED CARD OF 'sapperlaw21.FlashLoads'. -/
def flashLoadsCard : Claim7 := { stood := { row := flashLoadsRow, standIns := [], harness := (true, "3a52a4fb34d8e4224a5fa59cd0d61e433fbd282930716f8dc4fa7ab0c332678d"), looks := true }, kinds := [], alts := [], laidByText := true, laidKinds := [.data], laidTests := true, laidLooks := .later }
def FlashLoadsCardSaid : Prop := Claim7.holds Tryd.pinned (.plain (OpenSpec.ofChange flashLoadsSpec)) flashLoadsCard

/-- THE TIED CARD OF 'sapperlaw21.FlashTwins'. -/
def flashTwinsCard : Claim7 := { stood := { row := flashTwinsRow, standIns := [], harness := (true, "3a52a4fb34d8e4224a5fa59cd0d61e433fbd282930716f8dc4fa7ab0c332678d"), looks := true }, kinds := [], alts := [], laidByText := true, laidKinds := [.data], laidTests := true, laidLooks := .later }
def FlashTwinsCardSaid : Prop := Claim7.holds Tryd.pinned (.plain (OpenSpec.ofChange flashTwinsSpec)) flashTwinsCard

/-- THE SECOND FORM's CARD OF 'sapperlaw21.FlashPlays'. -/
def flashPlaysUptoCard : Claim7 := { stood := { row := flashPlaysUptoRow, standIns := [], harness := (true, "3a52a4fb34d8e4224a5fa59cd0d61e433fbd282930716f8dc4fa7ab0c332678d"), looks := true }, kinds := [], alts := [], laidByText := true, laidKinds := [.data], laidTests := true, laidLooks := .later }
def FlashPlaysUptoCardSaid : Prop := Claim7.holds Tryd.pinned (.plain (OpenSpec.upto flashPlaysSpec)) flashPlaysUptoCard

/-- THE SECOND FORM's CARD OF 'sapperlaw21.FlashLoads'. -/
def flashLoadsUptoCard : Claim7 := { stood := { row := flashLoadsUptoRow, standIns := [], harness := (true, "3a52a4fb34d8e4224a5fa59cd0d61e433fbd282930716f8dc4fa7ab0c332678d"), looks := true }, kinds := [], alts := [], laidByText := true, laidKinds := [.data], laidTests := true, laidLooks := .later }
def FlashLoadsUptoCardSaid : Prop := Claim7.holds Tryd.pinned (.plain (OpenSpec.upto flashLoadsSpec)) flashLoadsUptoCard

/-- THE SECOND FORM's CARD OF 'sapperlaw21.FlashTwins'. -/
def flashTwinsUptoCard : Claim7 := { stood := { row := flashTwinsUptoRow, standIns := [], harness := (true, "3a52a4fb34d8e4224a5fa59cd0d61e433fbd282930716f8dc4fa7ab0c332678d"), looks := true }, kinds := [], alts := [], laidByText := true, laidKinds := [.data], laidTests := true, laidLooks := .later }
def FlashTwinsUptoCardSaid : Prop := Claim7.holds Tryd.pinned (.plain (OpenSpec.upto flashTwinsSpec)) flashTwinsUptoCard
end Rows
end Go.Proofs.YtjoghmdjnkdokaaDoor
