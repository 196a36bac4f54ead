/-
  NARROWER THAN 'FOR EVERY INPUT', by the rows' own cells (each row's printed sentence says how): FlashLoads: laid · BootWrites: laid · BootHolds: laid · BootTries: laid.
  DERIVED. THE GIVEN ROWS OF THIS SEAT. 4 by the template 'for every input the law returns true; each argument reads behind the call as it read before'; 0 by the template 'total and deterministic' (their statements: YtmjlpfmacblcpaaDoorTotals.lean).
  GIVEN WITH THE SEED: the statements are not yours to turn. If you find one false, say at which input.
  Laid BY PROGRAM, IN A SANDBOX (cutbox-rows.mjs): the forced cells as the released guide's own fill.sh prints them over the translation 0de0438c5af724bc… (all of the seat's roots in one cut). By AI agents, Wed Nov 11 2026. No macro, syntax, notation, axiom, sorry.
-/
import Derived.Test.YtmjlpfmacblcpaaDoorChecked
import GoSem.Claim
import GoSem.ClaimJoined
import GoSem.ClaimMapViews
import Derived.JoinedTies
import Derived.KernelRfl
namespace Go.Proofs.YtmjlpfmacblcpaaDoor
/- THE CELL 'sum', in the pinned program and in every row, IS THE sha256 OF THE DUMP (.gsa) THAT YtmjlpfmacblcpaaDoorProg.lean LOADS. Nothing in Lean hashes anything: it is a label: what it is worth is what the hold of that sum in a sandbox is worth. -/
noncomputable def Tryd.pinned : Pinned := { name := "ytmjlpfmacblcpaadoor", sum := "0de0438c5af724bc438c7429e3a5e2dbe34e550a1174b1a7fde645a3eee2c719", checked := Tryd.checked }
namespace Rows
def none {H : Type} : Left H := { results := [], args := [] }

/- WHAT THE LISTED PACKAGE-LEVEL VARIABLES READ AS WHEN THE CALL BEGINS. Each datum BY PROGRAM (the guide's laid-datum.mjs) off the statement by which the dump's own 'gosem.cut.vars' lays the variable. In a bare row this is a premise. The card (YtmjlpfmacblcpaaDoorCards.lean) ties it to the program's text. -/
def laid_sapper_crc_halves {H : Type} : DataW H := .agg [.lit (.int .u32 0), .lit (.int .u32 498536548), .lit (.int .u32 997073096), .lit (.int .u32 651767980), .lit (.int .u32 1994146192), .lit (.int .u32 1802195444), .lit (.int .u32 1303535960), .lit (.int .u32 1342533948), .lit (.int .u32 3988292384), .lit (.int .u32 4027552580), .lit (.int .u32 3604390888), .lit (.int .u32 3412177804), .lit (.int .u32 2607071920), .lit (.int .u32 2262029012), .lit (.int .u32 2685067896), .lit (.int .u32 3183342108)]

/-- 'sapperlaw21.FlashLoads': WHATEVER THE INPUT: true; the input reads as it did. -/
def flashLoadsSpec : ChangeSpec := { name := "flashLoads", fn := fun _ => fun
  | [d1, d2] => { results := [.lit (.bool true)], args := [d1, d2] }
  | _ => none }
def flashLoadsRow : OpenClaim := { program := "ytmjlpfmacblcpaadoor", sum := "0de0438c5af724bc438c7429e3a5e2dbe34e550a1174b1a7fde645a3eee2c719", func := "sapper/sapperlaw21.FlashLoads", spec := "flashLoads", inPlace := ["internal/bytealg.MakeNoZero"], unfollowed := true, recurses := true, named := ["sapper/crc.halves"], plainKeys := false, apart := false, laid := [("sapper/crc.halves", laid_sapper_crc_halves)] }
def FlashLoadsSaid : Prop := flashLoadsRow.holds Tryd.pinned (OpenSpec.ofChange flashLoadsSpec)

/-- ITS FALSE NEIGHBOUR: 'it returns false'. Refute it at one input. -/
def flashLoadsWrong : ChangeSpec := { name := "flashLoads", fn := fun _ => fun
  | [d1, d2] => { results := [.lit (.bool false)], args := [d1, d2] }
  | _ => none }
def FlashLoadsWrongFalsely : Prop := flashLoadsRow.holds Tryd.pinned (OpenSpec.ofChange flashLoadsWrong)

/-- 'sapperlaw25.BootWrites': WHATEVER THE INPUT: true; the input reads as it did. -/
def bootWritesSpec : ChangeSpec := { name := "bootWrites", fn := fun _ => fun
  | [d1, d2] => { results := [.lit (.bool true)], args := [d1, d2] }
  | _ => none }
def bootWritesRow : OpenClaim := { program := "ytmjlpfmacblcpaadoor", sum := "0de0438c5af724bc438c7429e3a5e2dbe34e550a1174b1a7fde645a3eee2c719", func := "sapper/sapperlaw25.BootWrites", spec := "bootWrites", inPlace := ["internal/bytealg.MakeNoZero"], unfollowed := true, recurses := true, named := ["sapper/crc.halves"], plainKeys := false, apart := false, laid := [("sapper/crc.halves", laid_sapper_crc_halves)] }
def BootWritesSaid : Prop := bootWritesRow.holds Tryd.pinned (OpenSpec.ofChange bootWritesSpec)

/-- ITS FALSE NEIGHBOUR: 'it returns false'. Refute it at one input. -/
def bootWritesWrong : ChangeSpec := { name := "bootWrites", fn := fun _ => fun
  | [d1, d2] => { results := [.lit (.bool false)], args := [d1, d2] }
  | _ => none }
def BootWritesWrongFalsely : Prop := bootWritesRow.holds Tryd.pinned (OpenSpec.ofChange bootWritesWrong)

/-- 'sapperlaw25.BootHolds': WHATEVER THE INPUT: true; the input reads as it did. -/
def bootHoldsSpec : ChangeSpec := { name := "bootHolds", fn := fun _ => fun
  | [d1, d2, d3] => { results := [.lit (.bool true)], args := [d1, d2, d3] }
  | _ => none }
def bootHoldsRow : OpenClaim := { program := "ytmjlpfmacblcpaadoor", sum := "0de0438c5af724bc438c7429e3a5e2dbe34e550a1174b1a7fde645a3eee2c719", func := "sapper/sapperlaw25.BootHolds", spec := "bootHolds", inPlace := ["internal/bytealg.MakeNoZero"], unfollowed := true, recurses := true, named := ["sapper/crc.halves"], plainKeys := false, apart := false, laid := [("sapper/crc.halves", laid_sapper_crc_halves)] }
def BootHoldsSaid : Prop := bootHoldsRow.holds Tryd.pinned (OpenSpec.ofChange bootHoldsSpec)

/-- ITS FALSE NEIGHBOUR: 'it returns false'. Refute it at one input. -/
def bootHoldsWrong : ChangeSpec := { name := "bootHolds", fn := fun _ => fun
  | [d1, d2, d3] => { results := [.lit (.bool false)], args := [d1, d2, d3] }
  | _ => none }
def BootHoldsWrongFalsely : Prop := bootHoldsRow.holds Tryd.pinned (OpenSpec.ofChange bootHoldsWrong)

/-- 'sapperlaw25.BootTries': WHATEVER THE INPUT: true; the input reads as it did. -/
def bootTriesSpec : ChangeSpec := { name := "bootTries", fn := fun _ => fun
  | [d1, d2, d3] => { results := [.lit (.bool true)], args := [d1, d2, d3] }
  | _ => none }
def bootTriesRow : OpenClaim := { program := "ytmjlpfmacblcpaadoor", sum := "0de0438c5af724bc438c7429e3a5e2dbe34e550a1174b1a7fde645a3eee2c719", func := "sapper/sapperlaw25.BootTries", spec := "bootTries", unfollowed := true, recurses := true, named := ["sapper/crc.halves"], plainKeys := false, apart := false, laid := [("sapper/crc.halves", laid_sapper_crc_halves)] }
def BootTriesSaid : Prop := bootTriesRow.holds Tryd.pinned (OpenSpec.ofChange bootTriesSpec)

/-- ITS FALSE NEIGHBOUR: 'it returns false'. Refute it at one input. -/
def bootTriesWrong : ChangeSpec := { name := "bootTries", fn := fun _ => fun
  | [d1, d2, d3] => { results := [.lit (.bool false)], args := [d1, d2, d3] }
  | _ => none }
def BootTriesWrongFalsely : Prop := bootTriesRow.holds Tryd.pinned (OpenSpec.ofChange bootTriesWrong)

/- THE SECOND FORM. 'bulk': how many values and letters a reading holds, each counted each time it is reached (what is shared counts as often as it is met; a slice's spare places count too). A statement '..UptoSaid' is the law's where the arguments, and the package variables that the reading takes, are together of bulk at most 1048576: NARROWER than '..Said'. Prove '..Said' where nothing that the law and all that it calls make is longer than what came in: it says more and counts as full. Else prove '..UptoSaid'. A law counts once. -/
mutual
def uptoBulk {H : Type} : DataW H → Nat
  | .lit (.string bytes) => bytes.length + 1
  | .lit _ => 1
  | .nil => 1
  | .ptr d => uptoBulk d + 1
  | .slice elems spare => uptoBulkAll elems + uptoBulkAll spare + 1
  | .agg parts => uptoBulkAll parts + 1
  | .iface _ d => uptoBulk d + 1
  | .map entries => uptoBulkEntries entries + 1
  | .held _ => 1
def uptoBulkAll {H : Type} : List (DataW H) → Nat
  | [] => 0
  | d :: r => uptoBulk d + uptoBulkAll r
def uptoBulkEntries {H : Type} : List (Lit × DataW H) → Nat
  | [] => 0
  | x :: r => uptoBulkEntry x + uptoBulkEntries r
def uptoBulkEntry {H : Type} : Lit × DataW H → Nat
  | (.string bytes, d) => bytes.length + uptoBulk d + 1
  | (_, d) => uptoBulk d + 1
 end
def uptoSmall : (H : Type) → List (DataW H) → Bool := fun _ ds => decide (uptoBulkAll ds ≤ 1048576)
def OpenSpec.upto (s : _root_.Go.ChangeSpec) : _root_.Go.OpenSpec := { _root_.Go.OpenSpec.ofChange s with cond := some uptoSmall }

/-- 'sapperlaw21.FlashLoads', WHERE WHAT IT READS IS OF BULK AT MOST 1048576: true; the input reads as it did. -/
def flashLoadsUptoRow : OpenClaim := { program := "ytmjlpfmacblcpaadoor", sum := "0de0438c5af724bc438c7429e3a5e2dbe34e550a1174b1a7fde645a3eee2c719", func := "sapper/sapperlaw21.FlashLoads", spec := "flashLoads", inPlace := ["internal/bytealg.MakeNoZero"], unfollowed := true, recurses := true, named := ["sapper/crc.halves"], plainKeys := false, apart := false, laid := [("sapper/crc.halves", laid_sapper_crc_halves)], narrowed := true }
def FlashLoadsUptoSaid : Prop := flashLoadsUptoRow.holds Tryd.pinned (OpenSpec.upto flashLoadsSpec)

/-- 'sapperlaw25.BootWrites', WHERE WHAT IT READS IS OF BULK AT MOST 1048576: true; the input reads as it did. -/
def bootWritesUptoRow : OpenClaim := { program := "ytmjlpfmacblcpaadoor", sum := "0de0438c5af724bc438c7429e3a5e2dbe34e550a1174b1a7fde645a3eee2c719", func := "sapper/sapperlaw25.BootWrites", spec := "bootWrites", inPlace := ["internal/bytealg.MakeNoZero"], unfollowed := true, recurses := true, named := ["sapper/crc.halves"], plainKeys := false, apart := false, laid := [("sapper/crc.halves", laid_sapper_crc_halves)], narrowed := true }
def BootWritesUptoSaid : Prop := bootWritesUptoRow.holds Tryd.pinned (OpenSpec.upto bootWritesSpec)

/-- 'sapperlaw25.BootHolds', WHERE WHAT IT READS IS OF BULK AT MOST 1048576: true; the input reads as it did. -/
def bootHoldsUptoRow : OpenClaim := { program := "ytmjlpfmacblcpaadoor", sum := "0de0438c5af724bc438c7429e3a5e2dbe34e550a1174b1a7fde645a3eee2c719", func := "sapper/sapperlaw25.BootHolds", spec := "bootHolds", inPlace := ["internal/bytealg.MakeNoZero"], unfollowed := true, recurses := true, named := ["sapper/crc.halves"], plainKeys := false, apart := false, laid := [("sapper/crc.halves", laid_sapper_crc_halves)], narrowed := true }
def BootHoldsUptoSaid : Prop := bootHoldsUptoRow.holds Tryd.pinned (OpenSpec.upto bootHoldsSpec)

/-- 'sapperlaw25.BootTries', WHERE WHAT IT READS IS OF BULK AT MOST 1048576: true; the input reads as it did. -/
def bootTriesUptoRow : OpenClaim := { program := "ytmjlpfmacblcpaadoor", sum := "0de0438c5af724bc438c7429e3a5e2dbe34e550a1174b1a7fde645a3eee2c719", func := "sapper/sapperlaw25.BootTries", spec := "bootTries", unfollowed := true, recurses := true, named := ["sapper/crc.halves"], plainKeys := false, apart := false, laid := [("sapper/crc.halves", laid_sapper_crc_halves)], narrowed := true }
def BootTriesUptoSaid : Prop := bootTriesUptoRow.holds Tryd.pinned (OpenSpec.upto bootTriesSpec)

end Rows
end Go.Proofs.YtmjlpfmacblcpaaDoor
