/-
  No cell of these rows narrows 'for every input' (looked for: loops, veiled, ifaces, maps, wideKeys, modest, calm, conditions, laid).
  DERIVED. THE GIVEN ROWS OF THIS SEAT. 4 by the template 'for every input the law returns true; each argument reads behind the call as it read before'; 0 by the template 'total and deterministic' (their statements: YthplkcdockkiiabTotals.lean).
  GIVEN WITH THE SEED: the statements are not yours to turn. If you find one false, say at which input.
  Laid BY PROGRAM, IN A SANDBOX (cutbox-rows.mjs): the forced cells as the released guide's own fill.sh prints them over the translation 2570390419067c8c… (all of the seat's roots in one cut). By AI agents, Wed Nov 11 2026. No macro, syntax, notation, axiom, sorry.
-/
import Derived.Test.YthplkcdockkiiabChecked
import GoSem.Claim
import GoSem.ClaimJoined
import GoSem.ClaimMapViews
import Derived.JoinedTies
import Derived.KernelRfl
namespace Go.Proofs.Ythplkcdockkiiab
/- THE CELL 'sum', in the pinned program and in every row, IS THE sha256 OF THE DUMP (.gsa) THAT YthplkcdockkiiabProg.lean LOADS. Nothing in Lean hashes anything: it is a label: what it is worth is what the hold of that sum in a sandbox is worth. -/
noncomputable def Try.pinned : Pinned := { name := "ythplkcdockkiiab", sum := "2570390419067c8c967c623968cfb5190eb9b4e26a8d54813096242bb815c35e", checked := Try.checked }
namespace Rows
def none {H : Type} : Left H := { results := [], args := [] }

/-- 'sapperlaw12.SaisInducing': WHATEVER THE INPUT: true; the input reads as it did. -/
def saisInducingSpec : ChangeSpec := { name := "saisInducing", fn := fun _ => fun
  | [d] => { results := [.lit (.bool true)], args := [d] }
  | _ => none }
def saisInducingRow : OpenClaim := { program := "ythplkcdockkiiab", sum := "2570390419067c8c967c623968cfb5190eb9b4e26a8d54813096242bb815c35e", func := "sapper/sapperlaw12.SaisInducing", spec := "saisInducing", recurses := true, apart := false }
def SaisInducingSaid : Prop := saisInducingRow.holds Try.pinned (OpenSpec.ofChange saisInducingSpec)

/-- ITS FALSE NEIGHBOUR: 'it returns false'. Refute it at one input. -/
def saisInducingWrong : ChangeSpec := { name := "saisInducing", fn := fun _ => fun
  | [d] => { results := [.lit (.bool false)], args := [d] }
  | _ => none }
def SaisInducingWrongFalsely : Prop := saisInducingRow.holds Try.pinned (OpenSpec.ofChange saisInducingWrong)

/-- 'sapperlaw12.SaisPieces': WHATEVER THE INPUT: true; the input reads as it did. -/
def saisPiecesSpec : ChangeSpec := { name := "saisPieces", fn := fun _ => fun
  | [d1, d2] => { results := [.lit (.bool true)], args := [d1, d2] }
  | _ => none }
def saisPiecesRow : OpenClaim := { program := "ythplkcdockkiiab", sum := "2570390419067c8c967c623968cfb5190eb9b4e26a8d54813096242bb815c35e", func := "sapper/sapperlaw12.SaisPieces", spec := "saisPieces", recurses := true, apart := false }
def SaisPiecesSaid : Prop := saisPiecesRow.holds Try.pinned (OpenSpec.ofChange saisPiecesSpec)

/-- ITS FALSE NEIGHBOUR: 'it returns false'. Refute it at one input. -/
def saisPiecesWrong : ChangeSpec := { name := "saisPieces", fn := fun _ => fun
  | [d1, d2] => { results := [.lit (.bool false)], args := [d1, d2] }
  | _ => none }
def SaisPiecesWrongFalsely : Prop := saisPiecesRow.holds Try.pinned (OpenSpec.ofChange saisPiecesWrong)

/-- 'sapperlaw12.SaisAlone': WHATEVER THE INPUT: true; the input reads as it did. -/
def saisAloneSpec : ChangeSpec := { name := "saisAlone", fn := fun _ => fun
  | [d1, d2] => { results := [.lit (.bool true)], args := [d1, d2] }
  | _ => none }
def saisAloneRow : OpenClaim := { program := "ythplkcdockkiiab", sum := "2570390419067c8c967c623968cfb5190eb9b4e26a8d54813096242bb815c35e", func := "sapper/sapperlaw12.SaisAlone", spec := "saisAlone", recurses := true, apart := false }
def SaisAloneSaid : Prop := saisAloneRow.holds Try.pinned (OpenSpec.ofChange saisAloneSpec)

/-- ITS FALSE NEIGHBOUR: 'it returns false'. Refute it at one input. -/
def saisAloneWrong : ChangeSpec := { name := "saisAlone", fn := fun _ => fun
  | [d1, d2] => { results := [.lit (.bool false)], args := [d1, d2] }
  | _ => none }
def SaisAloneWrongFalsely : Prop := saisAloneRow.holds Try.pinned (OpenSpec.ofChange saisAloneWrong)

/-- 'sapperlaw12.SaisRefuses': WHATEVER THE INPUT: true; the input reads as it did. -/
def saisRefusesSpec : ChangeSpec := { name := "saisRefuses", fn := fun _ => fun
  | [d1, d2] => { results := [.lit (.bool true)], args := [d1, d2] }
  | _ => none }
def saisRefusesRow : OpenClaim := { program := "ythplkcdockkiiab", sum := "2570390419067c8c967c623968cfb5190eb9b4e26a8d54813096242bb815c35e", func := "sapper/sapperlaw12.SaisRefuses", spec := "saisRefuses", recurses := true, apart := false }
def SaisRefusesSaid : Prop := saisRefusesRow.holds Try.pinned (OpenSpec.ofChange saisRefusesSpec)

/-- ITS FALSE NEIGHBOUR: 'it returns false'. Refute it at one input. -/
def saisRefusesWrong : ChangeSpec := { name := "saisRefuses", fn := fun _ => fun
  | [d1, d2] => { results := [.lit (.bool false)], args := [d1, d2] }
  | _ => none }
def SaisRefusesWrongFalsely : Prop := saisRefusesRow.holds Try.pinned (OpenSpec.ofChange saisRefusesWrong)

/- THE SECOND FORM. 'bulk': how many values and letters a reading holds, each counted each time it is reached (what is shared counts as often as it is met; a slice's spare places count too). A statement '..UptoSaid' is the law's where the arguments, and the package variables that the reading takes, are together of bulk at most 1048576: NARROWER than '..Said'. Prove '..Said' where nothing that the law and all that it calls make is longer than what came in: it says more and counts as full. Else prove '..UptoSaid'. A law counts once. -/
mutual
def uptoBulk {H : Type} : DataW H → Nat
  | .lit (.string bytes) => bytes.length + 1
  | .lit _ => 1
  | .nil => 1
  | .ptr d => uptoBulk d + 1
  | .slice elems spare => uptoBulkAll elems + uptoBulkAll spare + 1
  | .agg parts => uptoBulkAll parts + 1
  | .iface _ d => uptoBulk d + 1
  | .map entries => uptoBulkEntries entries + 1
  | .held _ => 1
def uptoBulkAll {H : Type} : List (DataW H) → Nat
  | [] => 0
  | d :: r => uptoBulk d + uptoBulkAll r
def uptoBulkEntries {H : Type} : List (Lit × DataW H) → Nat
  | [] => 0
  | x :: r => uptoBulkEntry x + uptoBulkEntries r
def uptoBulkEntry {H : Type} : Lit × DataW H → Nat
  | (.string bytes, d) => bytes.length + uptoBulk d + 1
  | (_, d) => uptoBulk d + 1
 end
def uptoSmall : (H : Type) → List (DataW H) → Bool := fun _ ds => decide (uptoBulkAll ds ≤ 1048576)
def OpenSpec.upto (s : _root_.Go.ChangeSpec) : _root_.Go.OpenSpec := { _root_.Go.OpenSpec.ofChange s with cond := some uptoSmall }

/-- 'sapperlaw12.SaisInducing', WHERE WHAT IT READS IS OF BULK AT MOST 1048576: true; the input reads as it did. -/
def saisInducingUptoRow : OpenClaim := { program := "ythplkcdockkiiab", sum := "2570390419067c8c967c623968cfb5190eb9b4e26a8d54813096242bb815c35e", func := "sapper/sapperlaw12.SaisInducing", spec := "saisInducing", recurses := true, apart := false, narrowed := true }
def SaisInducingUptoSaid : Prop := saisInducingUptoRow.holds Try.pinned (OpenSpec.upto saisInducingSpec)

/-- 'sapperlaw12.SaisPieces', WHERE WHAT IT READS IS OF BULK AT MOST 1048576: true; the input reads as it did. -/
def saisPiecesUptoRow : OpenClaim := { program := "ythplkcdockkiiab", sum := "2570390419067c8c967c623968cfb5190eb9b4e26a8d54813096242bb815c35e", func := "sapper/sapperlaw12.SaisPieces", spec := "saisPieces", recurses := true, apart := false, narrowed := true }
def SaisPiecesUptoSaid : Prop := saisPiecesUptoRow.holds Try.pinned (OpenSpec.upto saisPiecesSpec)

/-- 'sapperlaw12.SaisAlone', WHERE WHAT IT READS IS OF BULK AT MOST 1048576: true; the input reads as it did. -/
def saisAloneUptoRow : OpenClaim := { program := "ythplkcdockkiiab", sum := "2570390419067c8c967c623968cfb5190eb9b4e26a8d54813096242bb815c35e", func := "sapper/sapperlaw12.SaisAlone", spec := "saisAlone", recurses := true, apart := false, narrowed := true }
def SaisAloneUptoSaid : Prop := saisAloneUptoRow.holds Try.pinned (OpenSpec.upto saisAloneSpec)

/-- 'sapperlaw12.SaisRefuses', WHERE WHAT IT READS IS OF BULK AT MOST 1048576: true; the input reads as it did. -/
def saisRefusesUptoRow : OpenClaim := { program := "ythplkcdockkiiab", sum := "2570390419067c8c967c623968cfb5190eb9b4e26a8d54813096242bb815c35e", func := "sapper/sapperlaw12.SaisRefuses", spec := "saisRefuses", recurses := true, apart := false, narrowed := true }
def SaisRefusesUptoSaid : Prop := saisRefusesUptoRow.holds Try.pinned (OpenSpec.upto saisRefusesSpec)

end Rows
end Go.Proofs.Ythplkcdockkiiab
