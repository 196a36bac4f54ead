/-
  NARROWER THAN 'FOR EVERY INPUT', by the rows' own cells (each row's printed sentence says how): FrameNames: laid · FrameHeads: laid · FrameReads: laid · FrameSizes: laid · FrameBack: laid.
  DERIVED. THE GIVEN ROWS OF THIS SEAT. 5 by the template 'for every input the law returns true; each argument reads behind the call as it read before'; 0 by the template 'total and deterministic' (their statements: YtmojfdccobebfaaGreatDoorTotals.lean).
  GIVEN WITH THE SEED: the statements are not yours to turn. If you find one false, say at which input.
  Laid BY PROGRAM, IN A SANDBOX (cutbox-rows.mjs): the forced cells as the released guide's own fill.sh prints them over the translation 424ebed144b3bd18… (all of the seat's roots in one cut). By AI agents, Wed Nov 11 2026. No macro, syntax, notation, axiom, sorry.
-/
import Derived.Test.YtmojfdccobebfaaGreatDoorChecked
import GoSem.Claim
import GoSem.ClaimJoined
import GoSem.ClaimMapViews
import Derived.JoinedTies
import Derived.KernelRfl
namespace Go.Proofs.YtmojfdccobebfaaGreatDoor
/- THE CELL 'sum', in the pinned program and in every row, IS THE sha256 OF THE DUMP (.gsa) THAT YtmojfdccobebfaaGreatDoorProg.lean LOADS. Nothing in Lean hashes anything: it is a label: what it is worth is what the hold of that sum in a sandbox is worth. -/
noncomputable def Tryz.pinned : Pinned := { name := "ytmojfdccobebfaagreatdoor", sum := "424ebed144b3bd181a2411362997cb9d9d369775b72ed423f0cbc3cb0ae7f015", checked := Tryz.checked }
namespace Rows
def none {H : Type} : Left H := { results := [], args := [] }

/- WHAT THE LISTED PACKAGE-LEVEL VARIABLES READ AS WHEN THE CALL BEGINS. Each datum BY PROGRAM (the guide's laid-datum.mjs) off the statement by which the dump's own 'gosem.cut.vars' lays the variable. In a bare row this is a premise. The card (YtmojfdccobebfaaGreatDoorCards.lean) ties it to the program's text. -/
def laid_sapper_crc_halves {H : Type} : DataW H := .agg [.lit (.int .u32 0), .lit (.int .u32 498536548), .lit (.int .u32 997073096), .lit (.int .u32 651767980), .lit (.int .u32 1994146192), .lit (.int .u32 1802195444), .lit (.int .u32 1303535960), .lit (.int .u32 1342533948), .lit (.int .u32 3988292384), .lit (.int .u32 4027552580), .lit (.int .u32 3604390888), .lit (.int .u32 3412177804), .lit (.int .u32 2607071920), .lit (.int .u32 2262029012), .lit (.int .u32 2685067896), .lit (.int .u32 3183342108)]
def laid_sapper_head_senses {H : Type} : DataW H := .agg [.agg [.lit (.int .i64 0), .lit (.int .i64 1), .lit (.int .i64 0)], .agg [.lit (.int .i64 1), .lit (.int .i64 1), .lit (.int .i64 0)], .agg [.lit (.int .i64 2), .lit (.int .i64 1), .lit (.int .i64 0)], .agg [.lit (.int .i64 3), .lit (.int .i64 1), .lit (.int .i64 0)], .agg [.lit (.int .i64 4), .lit (.int .i64 1), .lit (.int .i64 0)], .agg [.lit (.int .i64 5), .lit (.int .i64 1), .lit (.int .i64 0)], .agg [.lit (.int .i64 6), .lit (.int .i64 1), .lit (.int .i64 0)], .agg [.lit (.int .i64 7), .lit (.int .i64 1), .lit (.int .i64 0)], .agg [.lit (.int .i64 8), .lit (.int .i64 1), .lit (.int .i64 0)], .agg [.lit (.int .i64 9), .lit (.int .i64 1), .lit (.int .i64 0)], .agg [.lit (.int .i64 10), .lit (.int .i64 1), .lit (.int .i64 0)], .agg [.lit (.int .i64 11), .lit (.int .i64 1), .lit (.int .i64 0)], .agg [.lit (.int .i64 12), .lit (.int .i64 1), .lit (.int .i64 0)], .agg [.lit (.int .i64 13), .lit (.int .i64 1), .lit (.int .i64 0)], .agg [.lit (.int .i64 14), .lit (.int .i64 1), .lit (.int .i64 0)], .agg [.lit (.int .i64 15), .lit (.int .i64 1), .lit (.int .i64 0)], .agg [.lit (.int .i64 (-1)), .lit (.int .i64 3), .lit (.int .i64 2)], .agg [.lit (.int .i64 0), .lit (.int .i64 3), .lit (.int .i64 3)], .agg [.lit (.int .i64 0), .lit (.int .i64 11), .lit (.int .i64 7)]]
def laid_sapper_head_order {H : Type} : DataW H := .agg [.lit (.int .i64 16), .lit (.int .i64 17), .lit (.int .i64 18), .lit (.int .i64 0), .lit (.int .i64 8), .lit (.int .i64 7), .lit (.int .i64 9), .lit (.int .i64 6), .lit (.int .i64 10), .lit (.int .i64 5), .lit (.int .i64 11), .lit (.int .i64 4), .lit (.int .i64 12), .lit (.int .i64 3), .lit (.int .i64 13), .lit (.int .i64 2), .lit (.int .i64 14), .lit (.int .i64 1), .lit (.int .i64 15)]

/-- 'sapperlaw18.FrameNames': WHATEVER THE INPUT: true; the input reads as it did. -/
def frameNamesSpec : ChangeSpec := { name := "frameNames", fn := fun _ => fun
  | [] => { results := [.lit (.bool true)], args := [] }
  | _ => none }
def frameNamesRow : OpenClaim := { program := "ytmojfdccobebfaagreatdoor", sum := "424ebed144b3bd181a2411362997cb9d9d369775b72ed423f0cbc3cb0ae7f015", func := "sapper/sapperlaw18.FrameNames", spec := "frameNames", unfollowed := true, recurses := true, named := ["sapper/crc.halves", "sapper/head.senses", "sapper/head.order"], plainKeys := false, apart := false, laid := [("sapper/crc.halves", laid_sapper_crc_halves), ("sapper/head.senses", laid_sapper_head_senses), ("sapper/head.order", laid_sapper_head_order)] }
def FrameNamesSaid : Prop := frameNamesRow.holds Tryz.pinned (OpenSpec.ofChange frameNamesSpec)

/-- ITS FALSE NEIGHBOUR: 'it returns false'. Refute it at one input. -/
def frameNamesWrong : ChangeSpec := { name := "frameNames", fn := fun _ => fun
  | [] => { results := [.lit (.bool false)], args := [] }
  | _ => none }
def FrameNamesWrongFalsely : Prop := frameNamesRow.holds Tryz.pinned (OpenSpec.ofChange frameNamesWrong)

/-- 'sapperlaw18.FrameHeads': WHATEVER THE INPUT: true; the input reads as it did. -/
def frameHeadsSpec : ChangeSpec := { name := "frameHeads", fn := fun _ => fun
  | [d1, d2] => { results := [.lit (.bool true)], args := [d1, d2] }
  | _ => none }
def frameHeadsRow : OpenClaim := { program := "ytmojfdccobebfaagreatdoor", sum := "424ebed144b3bd181a2411362997cb9d9d369775b72ed423f0cbc3cb0ae7f015", func := "sapper/sapperlaw18.FrameHeads", spec := "frameHeads", unfollowed := true, recurses := true, named := ["sapper/crc.halves", "sapper/head.senses", "sapper/head.order"], plainKeys := false, apart := false, laid := [("sapper/crc.halves", laid_sapper_crc_halves), ("sapper/head.senses", laid_sapper_head_senses), ("sapper/head.order", laid_sapper_head_order)] }
def FrameHeadsSaid : Prop := frameHeadsRow.holds Tryz.pinned (OpenSpec.ofChange frameHeadsSpec)

/-- ITS FALSE NEIGHBOUR: 'it returns false'. Refute it at one input. -/
def frameHeadsWrong : ChangeSpec := { name := "frameHeads", fn := fun _ => fun
  | [d1, d2] => { results := [.lit (.bool false)], args := [d1, d2] }
  | _ => none }
def FrameHeadsWrongFalsely : Prop := frameHeadsRow.holds Tryz.pinned (OpenSpec.ofChange frameHeadsWrong)

/-- 'sapperlaw18.FrameReads': WHATEVER THE INPUT: true; the input reads as it did. -/
def frameReadsSpec : ChangeSpec := { name := "frameReads", fn := fun _ => fun
  | [d] => { results := [.lit (.bool true)], args := [d] }
  | _ => none }
def frameReadsRow : OpenClaim := { program := "ytmojfdccobebfaagreatdoor", sum := "424ebed144b3bd181a2411362997cb9d9d369775b72ed423f0cbc3cb0ae7f015", func := "sapper/sapperlaw18.FrameReads", spec := "frameReads", unfollowed := true, recurses := true, named := ["sapper/crc.halves", "sapper/head.senses", "sapper/head.order"], plainKeys := false, apart := false, laid := [("sapper/crc.halves", laid_sapper_crc_halves), ("sapper/head.senses", laid_sapper_head_senses), ("sapper/head.order", laid_sapper_head_order)] }
def FrameReadsSaid : Prop := frameReadsRow.holds Tryz.pinned (OpenSpec.ofChange frameReadsSpec)

/-- ITS FALSE NEIGHBOUR: 'it returns false'. Refute it at one input. -/
def frameReadsWrong : ChangeSpec := { name := "frameReads", fn := fun _ => fun
  | [d] => { results := [.lit (.bool false)], args := [d] }
  | _ => none }
def FrameReadsWrongFalsely : Prop := frameReadsRow.holds Tryz.pinned (OpenSpec.ofChange frameReadsWrong)

/-- 'sapperlaw18.FrameSizes': WHATEVER THE INPUT: true; the input reads as it did. -/
def frameSizesSpec : ChangeSpec := { name := "frameSizes", fn := fun _ => fun
  | [d1, d2, d3] => { results := [.lit (.bool true)], args := [d1, d2, d3] }
  | _ => none }
def frameSizesRow : OpenClaim := { program := "ytmojfdccobebfaagreatdoor", sum := "424ebed144b3bd181a2411362997cb9d9d369775b72ed423f0cbc3cb0ae7f015", func := "sapper/sapperlaw18.FrameSizes", spec := "frameSizes", unfollowed := true, recurses := true, named := ["sapper/crc.halves", "sapper/head.senses", "sapper/head.order"], plainKeys := false, apart := false, laid := [("sapper/crc.halves", laid_sapper_crc_halves), ("sapper/head.senses", laid_sapper_head_senses), ("sapper/head.order", laid_sapper_head_order)] }
def FrameSizesSaid : Prop := frameSizesRow.holds Tryz.pinned (OpenSpec.ofChange frameSizesSpec)

/-- ITS FALSE NEIGHBOUR: 'it returns false'. Refute it at one input. -/
def frameSizesWrong : ChangeSpec := { name := "frameSizes", fn := fun _ => fun
  | [d1, d2, d3] => { results := [.lit (.bool false)], args := [d1, d2, d3] }
  | _ => none }
def FrameSizesWrongFalsely : Prop := frameSizesRow.holds Tryz.pinned (OpenSpec.ofChange frameSizesWrong)

/-- 'sapperlaw18.FrameBack': WHATEVER THE INPUT: true; the input reads as it did. -/
def frameBackSpec : ChangeSpec := { name := "frameBack", fn := fun _ => fun
  | [d1, d2, d3] => { results := [.lit (.bool true)], args := [d1, d2, d3] }
  | _ => none }
def frameBackRow : OpenClaim := { program := "ytmojfdccobebfaagreatdoor", sum := "424ebed144b3bd181a2411362997cb9d9d369775b72ed423f0cbc3cb0ae7f015", func := "sapper/sapperlaw18.FrameBack", spec := "frameBack", unfollowed := true, recurses := true, named := ["sapper/crc.halves", "sapper/head.senses", "sapper/head.order"], plainKeys := false, apart := false, laid := [("sapper/crc.halves", laid_sapper_crc_halves), ("sapper/head.senses", laid_sapper_head_senses), ("sapper/head.order", laid_sapper_head_order)] }
def FrameBackSaid : Prop := frameBackRow.holds Tryz.pinned (OpenSpec.ofChange frameBackSpec)

/-- ITS FALSE NEIGHBOUR: 'it returns false'. Refute it at one input. -/
def frameBackWrong : ChangeSpec := { name := "frameBack", fn := fun _ => fun
  | [d1, d2, d3] => { results := [.lit (.bool false)], args := [d1, d2, d3] }
  | _ => none }
def FrameBackWrongFalsely : Prop := frameBackRow.holds Tryz.pinned (OpenSpec.ofChange frameBackWrong)

/- THE SECOND FORM. 'bulk': how many values and letters a reading holds, each counted each time it is reached (what is shared counts as often as it is met; a slice's spare places count too). A statement '..UptoSaid' is the law's where the arguments, and the package variables that the reading takes, are together of bulk at most 1048576: NARROWER than '..Said'. Prove '..Said' where nothing that the law and all that it calls make is longer than what came in: it says more and counts as full. Else prove '..UptoSaid'. A law counts once. -/
mutual
def uptoBulk {H : Type} : DataW H → Nat
  | .lit (.string bytes) => bytes.length + 1
  | .lit _ => 1
  | .nil => 1
  | .ptr d => uptoBulk d + 1
  | .slice elems spare => uptoBulkAll elems + uptoBulkAll spare + 1
  | .agg parts => uptoBulkAll parts + 1
  | .iface _ d => uptoBulk d + 1
  | .map entries => uptoBulkEntries entries + 1
  | .held _ => 1
def uptoBulkAll {H : Type} : List (DataW H) → Nat
  | [] => 0
  | d :: r => uptoBulk d + uptoBulkAll r
def uptoBulkEntries {H : Type} : List (Lit × DataW H) → Nat
  | [] => 0
  | x :: r => uptoBulkEntry x + uptoBulkEntries r
def uptoBulkEntry {H : Type} : Lit × DataW H → Nat
  | (.string bytes, d) => bytes.length + uptoBulk d + 1
  | (_, d) => uptoBulk d + 1
 end
def uptoSmall : (H : Type) → List (DataW H) → Bool := fun _ ds => decide (uptoBulkAll ds ≤ 1048576)
def OpenSpec.upto (s : _root_.Go.ChangeSpec) : _root_.Go.OpenSpec := { _root_.Go.OpenSpec.ofChange s with cond := some uptoSmall }

/-- 'sapperlaw18.FrameNames', WHERE WHAT IT READS IS OF BULK AT MOST 1048576: true; the input reads as it did. -/
def frameNamesUptoRow : OpenClaim := { program := "ytmojfdccobebfaagreatdoor", sum := "424ebed144b3bd181a2411362997cb9d9d369775b72ed423f0cbc3cb0ae7f015", func := "sapper/sapperlaw18.FrameNames", spec := "frameNames", unfollowed := true, recurses := true, named := ["sapper/crc.halves", "sapper/head.senses", "sapper/head.order"], plainKeys := false, apart := false, laid := [("sapper/crc.halves", laid_sapper_crc_halves), ("sapper/head.senses", laid_sapper_head_senses), ("sapper/head.order", laid_sapper_head_order)], narrowed := true }
def FrameNamesUptoSaid : Prop := frameNamesUptoRow.holds Tryz.pinned (OpenSpec.upto frameNamesSpec)

/-- 'sapperlaw18.FrameHeads', WHERE WHAT IT READS IS OF BULK AT MOST 1048576: true; the input reads as it did. -/
def frameHeadsUptoRow : OpenClaim := { program := "ytmojfdccobebfaagreatdoor", sum := "424ebed144b3bd181a2411362997cb9d9d369775b72ed423f0cbc3cb0ae7f015", func := "sapper/sapperlaw18.FrameHeads", spec := "frameHeads", unfollowed := true, recurses := true, named := ["sapper/crc.halves", "sapper/head.senses", "sapper/head.order"], plainKeys := false, apart := false, laid := [("sapper/crc.halves", laid_sapper_crc_halves), ("sapper/head.senses", laid_sapper_head_senses), ("sapper/head.order", laid_sapper_head_order)], narrowed := true }
def FrameHeadsUptoSaid : Prop := frameHeadsUptoRow.holds Tryz.pinned (OpenSpec.upto frameHeadsSpec)

/-- 'sapperlaw18.FrameReads', WHERE WHAT IT READS IS OF BULK AT MOST 1048576: true; the input reads as it did. -/
def frameReadsUptoRow : OpenClaim := { program := "ytmojfdccobebfaagreatdoor", sum := "424ebed144b3bd181a2411362997cb9d9d369775b72ed423f0cbc3cb0ae7f015", func := "sapper/sapperlaw18.FrameReads", spec := "frameReads", unfollowed := true, recurses := true, named := ["sapper/crc.halves", "sapper/head.senses", "sapper/head.order"], plainKeys := false, apart := false, laid := [("sapper/crc.halves", laid_sapper_crc_halves), ("sapper/head.senses", laid_sapper_head_senses), ("sapper/head.order", laid_sapper_head_order)], narrowed := true }
def FrameReadsUptoSaid : Prop := frameReadsUptoRow.holds Tryz.pinned (OpenSpec.upto frameReadsSpec)

/-- 'sapperlaw18.FrameSizes', WHERE WHAT IT READS IS OF BULK AT MOST 1048576: true; the input reads as it did. -/
def frameSizesUptoRow : OpenClaim := { program := "ytmojfdccobebfaagreatdoor", sum := "424ebed144b3bd181a2411362997cb9d9d369775b72ed423f0cbc3cb0ae7f015", func := "sapper/sapperlaw18.FrameSizes", spec := "frameSizes", unfollowed := true, recurses := true, named := ["sapper/crc.halves", "sapper/head.senses", "sapper/head.order"], plainKeys := false, apart := false, laid := [("sapper/crc.halves", laid_sapper_crc_halves), ("sapper/head.senses", laid_sapper_head_senses), ("sapper/head.order", laid_sapper_head_order)], narrowed := true }
def FrameSizesUptoSaid : Prop := frameSizesUptoRow.holds Tryz.pinned (OpenSpec.upto frameSizesSpec)

/-- 'sapperlaw18.FrameBack', WHERE WHAT IT READS IS OF BULK AT MOST 1048576: true; the input reads as it did. -/
def frameBackUptoRow : OpenClaim := { program := "ytmojfdccobebfaagreatdoor", sum := "424ebed144b3bd181a2411362997cb9d9d369775b72ed423f0cbc3cb0ae7f015", func := "sapper/sapperlaw18.FrameBack", spec := "frameBack", unfollowed := true, recurses := true, named := ["sapper/crc.halves", "sapper/head.senses", "sapper/head.order"], plainKeys := false, apart := false, laid := [("sapper/crc.halves", laid_sapper_crc_halves), ("sapper/head.senses", laid_sapper_head_senses), ("sapper/head.order", laid_sapper_head_order)], narrowed := true }
def FrameBackUptoSaid : Prop := frameBackUptoRow.holds Tryz.pinned (OpenSpec.upto frameBackSpec)

end Rows
end Go.Proofs.YtmojfdccobebfaaGreatDoor
