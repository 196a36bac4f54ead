/-
  NARROWER THAN 'FOR EVERY INPUT', by the rows' own cells (each row's printed sentence says how): BootNames: laid · BootChecks: laid · BootDecodes: laid · BootMoves: laid · BootWrites: laid · BootHolds: laid.
  DERIVED. THE GIVEN ROWS OF THIS SEAT. 6 by the template 'for every input the law returns true; each argument reads behind the call as it read before'; 0 by the template 'total and deterministic' (their statements: YteboaolflecibaaDoorTotals.lean).
  GIVEN WITH THE SEED: the statements are not yours to turn. If you find one false, say at which input.
  Laid BY PROGRAM, IN A SANDBOX (cutbox-rows.mjs): the forced cells as the released guide's own fill.sh prints them over the translation 517d5618dbff7b5f… (all of the seat's roots in one cut). By AI agents, Wed Nov 11 2026. No macro, syntax, notation, axiom, sorry.
-/
import Derived.Test.YteboaolflecibaaDoorChecked
import GoSem.Claim
import GoSem.ClaimJoined
import GoSem.ClaimMapViews
import Derived.JoinedTies
import Derived.KernelRfl
namespace Go.Proofs.YteboaolflecibaaDoor
/- THE CELL 'sum', in the pinned program and in every row, IS THE sha256 OF THE DUMP (.gsa) THAT YteboaolflecibaaDoorProg.lean LOADS. Nothing in Lean hashes anything: it is a label: what it is worth is what the hold of that sum in a sandbox is worth. -/
noncomputable def Tryd.pinned : Pinned := { name := "yteboaolflecibaadoor", sum := "517d5618dbff7b5f48eecdb44a9a165c36f0f2b10d943afa4347be9e1dc8c264", checked := Tryd.checked }
namespace Rows
def none {H : Type} : Left H := { results := [], args := [] }

/- WHAT THE LISTED PACKAGE-LEVEL VARIABLES READ AS WHEN THE CALL BEGINS. Each datum BY PROGRAM (the guide's laid-datum.mjs) off the statement by which the dump's own 'gosem.cut.vars' lays the variable. In a bare row this is a premise. The card (YteboaolflecibaaDoorCards.lean) ties it to the program's text. -/
def laid_sapper_crc_halves {H : Type} : DataW H := .agg [.lit (.int .u32 0), .lit (.int .u32 498536548), .lit (.int .u32 997073096), .lit (.int .u32 651767980), .lit (.int .u32 1994146192), .lit (.int .u32 1802195444), .lit (.int .u32 1303535960), .lit (.int .u32 1342533948), .lit (.int .u32 3988292384), .lit (.int .u32 4027552580), .lit (.int .u32 3604390888), .lit (.int .u32 3412177804), .lit (.int .u32 2607071920), .lit (.int .u32 2262029012), .lit (.int .u32 2685067896), .lit (.int .u32 3183342108)]

/-- 'sapperlaw25.BootNames': WHATEVER THE INPUT: true; the input reads as it did. -/
def bootNamesSpec : ChangeSpec := { name := "bootNames", fn := fun _ => fun
  | [] => { results := [.lit (.bool true)], args := [] }
  | _ => none }
def bootNamesRow : OpenClaim := { program := "yteboaolflecibaadoor", sum := "517d5618dbff7b5f48eecdb44a9a165c36f0f2b10d943afa4347be9e1dc8c264", func := "sapper/sapperlaw25.BootNames", spec := "bootNames", unfollowed := true, recurses := true, named := ["sapper/crc.halves"], plainKeys := false, apart := false, laid := [("sapper/crc.halves", laid_sapper_crc_halves)] }
def BootNamesSaid : Prop := bootNamesRow.holds Tryd.pinned (OpenSpec.ofChange bootNamesSpec)

/-- ITS FALSE NEIGHBOUR: 'it returns false'. Refute it at one input. -/
def bootNamesWrong : ChangeSpec := { name := "bootNames", fn := fun _ => fun
  | [] => { results := [.lit (.bool false)], args := [] }
  | _ => none }
def BootNamesWrongFalsely : Prop := bootNamesRow.holds Tryd.pinned (OpenSpec.ofChange bootNamesWrong)

/-- 'sapperlaw25.BootChecks': WHATEVER THE INPUT: true; the input reads as it did. -/
def bootChecksSpec : ChangeSpec := { name := "bootChecks", fn := fun _ => fun
  | [d] => { results := [.lit (.bool true)], args := [d] }
  | _ => none }
def bootChecksRow : OpenClaim := { program := "yteboaolflecibaadoor", sum := "517d5618dbff7b5f48eecdb44a9a165c36f0f2b10d943afa4347be9e1dc8c264", func := "sapper/sapperlaw25.BootChecks", spec := "bootChecks", unfollowed := true, recurses := true, named := ["sapper/crc.halves"], plainKeys := false, apart := false, laid := [("sapper/crc.halves", laid_sapper_crc_halves)] }
def BootChecksSaid : Prop := bootChecksRow.holds Tryd.pinned (OpenSpec.ofChange bootChecksSpec)

/-- ITS FALSE NEIGHBOUR: 'it returns false'. Refute it at one input. -/
def bootChecksWrong : ChangeSpec := { name := "bootChecks", fn := fun _ => fun
  | [d] => { results := [.lit (.bool false)], args := [d] }
  | _ => none }
def BootChecksWrongFalsely : Prop := bootChecksRow.holds Tryd.pinned (OpenSpec.ofChange bootChecksWrong)

/-- 'sapperlaw25.BootDecodes': WHATEVER THE INPUT: true; the input reads as it did. -/
def bootDecodesSpec : ChangeSpec := { name := "bootDecodes", fn := fun _ => fun
  | [d] => { results := [.lit (.bool true)], args := [d] }
  | _ => none }
def bootDecodesRow : OpenClaim := { program := "yteboaolflecibaadoor", sum := "517d5618dbff7b5f48eecdb44a9a165c36f0f2b10d943afa4347be9e1dc8c264", func := "sapper/sapperlaw25.BootDecodes", spec := "bootDecodes", unfollowed := true, recurses := true, named := ["sapper/crc.halves"], plainKeys := false, apart := false, laid := [("sapper/crc.halves", laid_sapper_crc_halves)] }
def BootDecodesSaid : Prop := bootDecodesRow.holds Tryd.pinned (OpenSpec.ofChange bootDecodesSpec)

/-- ITS FALSE NEIGHBOUR: 'it returns false'. Refute it at one input. -/
def bootDecodesWrong : ChangeSpec := { name := "bootDecodes", fn := fun _ => fun
  | [d] => { results := [.lit (.bool false)], args := [d] }
  | _ => none }
def BootDecodesWrongFalsely : Prop := bootDecodesRow.holds Tryd.pinned (OpenSpec.ofChange bootDecodesWrong)

/-- 'sapperlaw25.BootMoves': WHATEVER THE INPUT: true; the input reads as it did. -/
def bootMovesSpec : ChangeSpec := { name := "bootMoves", fn := fun _ => fun
  | [d1, d2, d3] => { results := [.lit (.bool true)], args := [d1, d2, d3] }
  | _ => none }
def bootMovesRow : OpenClaim := { program := "yteboaolflecibaadoor", sum := "517d5618dbff7b5f48eecdb44a9a165c36f0f2b10d943afa4347be9e1dc8c264", func := "sapper/sapperlaw25.BootMoves", spec := "bootMoves", unfollowed := true, recurses := true, named := ["sapper/crc.halves"], plainKeys := false, apart := false, laid := [("sapper/crc.halves", laid_sapper_crc_halves)] }
def BootMovesSaid : Prop := bootMovesRow.holds Tryd.pinned (OpenSpec.ofChange bootMovesSpec)

/-- ITS FALSE NEIGHBOUR: 'it returns false'. Refute it at one input. -/
def bootMovesWrong : ChangeSpec := { name := "bootMoves", fn := fun _ => fun
  | [d1, d2, d3] => { results := [.lit (.bool false)], args := [d1, d2, d3] }
  | _ => none }
def BootMovesWrongFalsely : Prop := bootMovesRow.holds Tryd.pinned (OpenSpec.ofChange bootMovesWrong)

/-- 'sapperlaw25.BootWrites': WHATEVER THE INPUT: true; the input reads as it did. -/
def bootWritesSpec : ChangeSpec := { name := "bootWrites", fn := fun _ => fun
  | [d1, d2] => { results := [.lit (.bool true)], args := [d1, d2] }
  | _ => none }
def bootWritesRow : OpenClaim := { program := "yteboaolflecibaadoor", sum := "517d5618dbff7b5f48eecdb44a9a165c36f0f2b10d943afa4347be9e1dc8c264", func := "sapper/sapperlaw25.BootWrites", spec := "bootWrites", inPlace := ["internal/bytealg.MakeNoZero"], unfollowed := true, recurses := true, named := ["sapper/crc.halves"], plainKeys := false, apart := false, laid := [("sapper/crc.halves", laid_sapper_crc_halves)] }
def BootWritesSaid : Prop := bootWritesRow.holds Tryd.pinned (OpenSpec.ofChange bootWritesSpec)

/-- ITS FALSE NEIGHBOUR: 'it returns false'. Refute it at one input. -/
def bootWritesWrong : ChangeSpec := { name := "bootWrites", fn := fun _ => fun
  | [d1, d2] => { results := [.lit (.bool false)], args := [d1, d2] }
  | _ => none }
def BootWritesWrongFalsely : Prop := bootWritesRow.holds Tryd.pinned (OpenSpec.ofChange bootWritesWrong)

/-- 'sapperlaw25.BootHolds': WHATEVER THE INPUT: true; the input reads as it did. -/
def bootHoldsSpec : ChangeSpec := { name := "bootHolds", fn := fun _ => fun
  | [d1, d2, d3] => { results := [.lit (.bool true)], args := [d1, d2, d3] }
  | _ => none }
def bootHoldsRow : OpenClaim := { program := "yteboaolflecibaadoor", sum := "517d5618dbff7b5f48eecdb44a9a165c36f0f2b10d943afa4347be9e1dc8c264", func := "sapper/sapperlaw25.BootHolds", spec := "bootHolds", inPlace := ["internal/bytealg.MakeNoZero"], unfollowed := true, recurses := true, named := ["sapper/crc.halves"], plainKeys := false, apart := false, laid := [("sapper/crc.halves", laid_sapper_crc_halves)] }
def BootHoldsSaid : Prop := bootHoldsRow.holds Tryd.pinned (OpenSpec.ofChange bootHoldsSpec)

/-- ITS FALSE NEIGHBOUR: 'it returns false'. Refute it at one input. -/
def bootHoldsWrong : ChangeSpec := { name := "bootHolds", fn := fun _ => fun
  | [d1, d2, d3] => { results := [.lit (.bool false)], args := [d1, d2, d3] }
  | _ => none }
def BootHoldsWrongFalsely : Prop := bootHoldsRow.holds Tryd.pinned (OpenSpec.ofChange bootHoldsWrong)

/- THE SECOND FORM. 'bulk': how many values and letters a reading holds, each counted each time it is reached (what is shared counts as often as it is met; a slice's spare places count too). A statement '..UptoSaid' is the law's where the arguments, and the package variables that the reading takes, are together of bulk at most 1048576: NARROWER than '..Said'. Prove '..Said' where nothing that the law and all that it calls make is longer than what came in: it says more and counts as full. Else prove '..UptoSaid'. A law counts once. -/
mutual
def uptoBulk {H : Type} : DataW H → Nat
  | .lit (.string bytes) => bytes.length + 1
  | .lit _ => 1
  | .nil => 1
  | .ptr d => uptoBulk d + 1
  | .slice elems spare => uptoBulkAll elems + uptoBulkAll spare + 1
  | .agg parts => uptoBulkAll parts + 1
  | .iface _ d => uptoBulk d + 1
  | .map entries => uptoBulkEntries entries + 1
  | .held _ => 1
def uptoBulkAll {H : Type} : List (DataW H) → Nat
  | [] => 0
  | d :: r => uptoBulk d + uptoBulkAll r
def uptoBulkEntries {H : Type} : List (Lit × DataW H) → Nat
  | [] => 0
  | x :: r => uptoBulkEntry x + uptoBulkEntries r
def uptoBulkEntry {H : Type} : Lit × DataW H → Nat
  | (.string bytes, d) => bytes.length + uptoBulk d + 1
  | (_, d) => uptoBulk d + 1
 end
def uptoSmall : (H : Type) → List (DataW H) → Bool := fun _ ds => decide (uptoBulkAll ds ≤ 1048576)
def OpenSpec.upto (s : _root_.Go.ChangeSpec) : _root_.Go.OpenSpec := { _root_.Go.OpenSpec.ofChange s with cond := some uptoSmall }

/-- 'sapperlaw25.BootNames', WHERE WHAT IT READS IS OF BULK AT MOST 1048576: true; the input reads as it did. -/
def bootNamesUptoRow : OpenClaim := { program := "yteboaolflecibaadoor", sum := "517d5618dbff7b5f48eecdb44a9a165c36f0f2b10d943afa4347be9e1dc8c264", func := "sapper/sapperlaw25.BootNames", spec := "bootNames", unfollowed := true, recurses := true, named := ["sapper/crc.halves"], plainKeys := false, apart := false, laid := [("sapper/crc.halves", laid_sapper_crc_halves)], narrowed := true }
def BootNamesUptoSaid : Prop := bootNamesUptoRow.holds Tryd.pinned (OpenSpec.upto bootNamesSpec)

/-- 'sapperlaw25.BootChecks', WHERE WHAT IT READS IS OF BULK AT MOST 1048576: true; the input reads as it did. -/
def bootChecksUptoRow : OpenClaim := { program := "yteboaolflecibaadoor", sum := "517d5618dbff7b5f48eecdb44a9a165c36f0f2b10d943afa4347be9e1dc8c264", func := "sapper/sapperlaw25.BootChecks", spec := "bootChecks", unfollowed := true, recurses := true, named := ["sapper/crc.halves"], plainKeys := false, apart := false, laid := [("sapper/crc.halves", laid_sapper_crc_halves)], narrowed := true }
def BootChecksUptoSaid : Prop := bootChecksUptoRow.holds Tryd.pinned (OpenSpec.upto bootChecksSpec)

/-- 'sapperlaw25.BootDecodes', WHERE WHAT IT READS IS OF BULK AT MOST 1048576: true; the input reads as it did. -/
def bootDecodesUptoRow : OpenClaim := { program := "yteboaolflecibaadoor", sum := "517d5618dbff7b5f48eecdb44a9a165c36f0f2b10d943afa4347be9e1dc8c264", func := "sapper/sapperlaw25.BootDecodes", spec := "bootDecodes", unfollowed := true, recurses := true, named := ["sapper/crc.halves"], plainKeys := false, apart := false, laid := [("sapper/crc.halves", laid_sapper_crc_halves)], narrowed := true }
def BootDecodesUptoSaid : Prop := bootDecodesUptoRow.holds Tryd.pinned (OpenSpec.upto bootDecodesSpec)

/-- 'sapperlaw25.BootMoves', WHERE WHAT IT READS IS OF BULK AT MOST 1048576: true; the input reads as it did. -/
def bootMovesUptoRow : OpenClaim := { program := "yteboaolflecibaadoor", sum := "517d5618dbff7b5f48eecdb44a9a165c36f0f2b10d943afa4347be9e1dc8c264", func := "sapper/sapperlaw25.BootMoves", spec := "bootMoves", unfollowed := true, recurses := true, named := ["sapper/crc.halves"], plainKeys := false, apart := false, laid := [("sapper/crc.halves", laid_sapper_crc_halves)], narrowed := true }
def BootMovesUptoSaid : Prop := bootMovesUptoRow.holds Tryd.pinned (OpenSpec.upto bootMovesSpec)

/-- 'sapperlaw25.BootWrites', WHERE WHAT IT READS IS OF BULK AT MOST 1048576: true; the input reads as it did. -/
def bootWritesUptoRow : OpenClaim := { program := "yteboaolflecibaadoor", sum := "517d5618dbff7b5f48eecdb44a9a165c36f0f2b10d943afa4347be9e1dc8c264", func := "sapper/sapperlaw25.BootWrites", spec := "bootWrites", inPlace := ["internal/bytealg.MakeNoZero"], unfollowed := true, recurses := true, named := ["sapper/crc.halves"], plainKeys := false, apart := false, laid := [("sapper/crc.halves", laid_sapper_crc_halves)], narrowed := true }
def BootWritesUptoSaid : Prop := bootWritesUptoRow.holds Tryd.pinned (OpenSpec.upto bootWritesSpec)

/-- 'sapperlaw25.BootHolds', WHERE WHAT IT READS IS OF BULK AT MOST 1048576: true; the input reads as it did. -/
def bootHoldsUptoRow : OpenClaim := { program := "yteboaolflecibaadoor", sum := "517d5618dbff7b5f48eecdb44a9a165c36f0f2b10d943afa4347be9e1dc8c264", func := "sapper/sapperlaw25.BootHolds", spec := "bootHolds", inPlace := ["internal/bytealg.MakeNoZero"], unfollowed := true, recurses := true, named := ["sapper/crc.halves"], plainKeys := false, apart := false, laid := [("sapper/crc.halves", laid_sapper_crc_halves)], narrowed := true }
def BootHoldsUptoSaid : Prop := bootHoldsUptoRow.holds Tryd.pinned (OpenSpec.upto bootHoldsSpec)

end Rows
end Go.Proofs.YteboaolflecibaaDoor
