/-
  NARROWER THAN 'FOR EVERY INPUT', by the rows' own cells (each row's printed sentence says how): BlockSymbols: laid · BlockSplits: laid · BlockLens: laid · BlockCosts: laid · BlockWrites: laid · BlockTrue: laid.
  DERIVED. THE GIVEN ROWS OF THIS SEAT. 6 by the template 'for every input the law returns true; each argument reads behind the call as it read before'; 0 by the template 'total and deterministic' (their statements: YtcifalelnfeggaaGreatDoorTotals.lean).
  GIVEN WITH THE SEED: the statements are not yours to turn. If you find one false, say at which input.
  Laid BY PROGRAM, IN A SANDBOX (cutbox-rows.mjs): the forced cells as the released guide's own fill.sh prints them over the translation 3c0d9c78eeee37c8… (all of the seat's roots in one cut). By AI agents, Wed Nov 11 2026. No macro, syntax, notation, axiom, sorry.
-/
import Derived.Test.YtcifalelnfeggaaGreatDoorChecked
import GoSem.Claim
import GoSem.ClaimJoined
import GoSem.ClaimMapViews
import Derived.JoinedTies
import Derived.KernelRfl
namespace Go.Proofs.YtcifalelnfeggaaGreatDoor
/- THE CELL 'sum', in the pinned program and in every row, IS THE sha256 OF THE DUMP (.gsa) THAT YtcifalelnfeggaaGreatDoorProg.lean LOADS. Nothing in Lean hashes anything: it is a label: what it is worth is what the hold of that sum in a sandbox is worth. -/
noncomputable def Tryz.pinned : Pinned := { name := "ytcifalelnfeggaagreatdoor", sum := "3c0d9c78eeee37c866a3894076f6d72b3a02c16e0ec60ce738760fbd28280541", checked := Tryz.checked }
namespace Rows
def none {H : Type} : Left H := { results := [], args := [] }

/- WHAT THE LISTED PACKAGE-LEVEL VARIABLES READ AS WHEN THE CALL BEGINS. Each datum BY PROGRAM (the guide's laid-datum.mjs) off the statement by which the dump's own 'gosem.cut.vars' lays the variable. In a bare row this is a premise. The card (YtcifalelnfeggaaGreatDoorCards.lean) ties it to the program's text. -/
def laid_sapper_head_senses {H : Type} : DataW H := .agg [.agg [.lit (.int .i64 0), .lit (.int .i64 1), .lit (.int .i64 0)], .agg [.lit (.int .i64 1), .lit (.int .i64 1), .lit (.int .i64 0)], .agg [.lit (.int .i64 2), .lit (.int .i64 1), .lit (.int .i64 0)], .agg [.lit (.int .i64 3), .lit (.int .i64 1), .lit (.int .i64 0)], .agg [.lit (.int .i64 4), .lit (.int .i64 1), .lit (.int .i64 0)], .agg [.lit (.int .i64 5), .lit (.int .i64 1), .lit (.int .i64 0)], .agg [.lit (.int .i64 6), .lit (.int .i64 1), .lit (.int .i64 0)], .agg [.lit (.int .i64 7), .lit (.int .i64 1), .lit (.int .i64 0)], .agg [.lit (.int .i64 8), .lit (.int .i64 1), .lit (.int .i64 0)], .agg [.lit (.int .i64 9), .lit (.int .i64 1), .lit (.int .i64 0)], .agg [.lit (.int .i64 10), .lit (.int .i64 1), .lit (.int .i64 0)], .agg [.lit (.int .i64 11), .lit (.int .i64 1), .lit (.int .i64 0)], .agg [.lit (.int .i64 12), .lit (.int .i64 1), .lit (.int .i64 0)], .agg [.lit (.int .i64 13), .lit (.int .i64 1), .lit (.int .i64 0)], .agg [.lit (.int .i64 14), .lit (.int .i64 1), .lit (.int .i64 0)], .agg [.lit (.int .i64 15), .lit (.int .i64 1), .lit (.int .i64 0)], .agg [.lit (.int .i64 (-1)), .lit (.int .i64 3), .lit (.int .i64 2)], .agg [.lit (.int .i64 0), .lit (.int .i64 3), .lit (.int .i64 3)], .agg [.lit (.int .i64 0), .lit (.int .i64 11), .lit (.int .i64 7)]]
def laid_sapper_head_order {H : Type} : DataW H := .agg [.lit (.int .i64 16), .lit (.int .i64 17), .lit (.int .i64 18), .lit (.int .i64 0), .lit (.int .i64 8), .lit (.int .i64 7), .lit (.int .i64 9), .lit (.int .i64 6), .lit (.int .i64 10), .lit (.int .i64 5), .lit (.int .i64 11), .lit (.int .i64 4), .lit (.int .i64 12), .lit (.int .i64 3), .lit (.int .i64 13), .lit (.int .i64 2), .lit (.int .i64 14), .lit (.int .i64 1), .lit (.int .i64 15)]

/-- 'sapperlaw09.BlockSymbols': WHATEVER THE INPUT: true; the input reads as it did. -/
def blockSymbolsSpec : ChangeSpec := { name := "blockSymbols", fn := fun _ => fun
  | [d1, d2] => { results := [.lit (.bool true)], args := [d1, d2] }
  | _ => none }
def blockSymbolsRow : OpenClaim := { program := "ytcifalelnfeggaagreatdoor", sum := "3c0d9c78eeee37c866a3894076f6d72b3a02c16e0ec60ce738760fbd28280541", func := "sapper/sapperlaw09.BlockSymbols", spec := "blockSymbols", unfollowed := true, recurses := true, named := ["sapper/head.senses", "sapper/head.order"], apart := false, laid := [("sapper/head.senses", laid_sapper_head_senses), ("sapper/head.order", laid_sapper_head_order)] }
def BlockSymbolsSaid : Prop := blockSymbolsRow.holds Tryz.pinned (OpenSpec.ofChange blockSymbolsSpec)

/-- ITS FALSE NEIGHBOUR: 'it returns false'. Refute it at one input. -/
def blockSymbolsWrong : ChangeSpec := { name := "blockSymbols", fn := fun _ => fun
  | [d1, d2] => { results := [.lit (.bool false)], args := [d1, d2] }
  | _ => none }
def BlockSymbolsWrongFalsely : Prop := blockSymbolsRow.holds Tryz.pinned (OpenSpec.ofChange blockSymbolsWrong)

/-- 'sapperlaw09.BlockSplits': WHATEVER THE INPUT: true; the input reads as it did. -/
def blockSplitsSpec : ChangeSpec := { name := "blockSplits", fn := fun _ => fun
  | [d1, d2] => { results := [.lit (.bool true)], args := [d1, d2] }
  | _ => none }
def blockSplitsRow : OpenClaim := { program := "ytcifalelnfeggaagreatdoor", sum := "3c0d9c78eeee37c866a3894076f6d72b3a02c16e0ec60ce738760fbd28280541", func := "sapper/sapperlaw09.BlockSplits", spec := "blockSplits", unfollowed := true, recurses := true, named := ["sapper/head.senses", "sapper/head.order"], apart := false, laid := [("sapper/head.senses", laid_sapper_head_senses), ("sapper/head.order", laid_sapper_head_order)] }
def BlockSplitsSaid : Prop := blockSplitsRow.holds Tryz.pinned (OpenSpec.ofChange blockSplitsSpec)

/-- ITS FALSE NEIGHBOUR: 'it returns false'. Refute it at one input. -/
def blockSplitsWrong : ChangeSpec := { name := "blockSplits", fn := fun _ => fun
  | [d1, d2] => { results := [.lit (.bool false)], args := [d1, d2] }
  | _ => none }
def BlockSplitsWrongFalsely : Prop := blockSplitsRow.holds Tryz.pinned (OpenSpec.ofChange blockSplitsWrong)

/-- 'sapperlaw09.BlockLens': WHATEVER THE INPUT: true; the input reads as it did. -/
def blockLensSpec : ChangeSpec := { name := "blockLens", fn := fun _ => fun
  | [d] => { results := [.lit (.bool true)], args := [d] }
  | _ => none }
def blockLensRow : OpenClaim := { program := "ytcifalelnfeggaagreatdoor", sum := "3c0d9c78eeee37c866a3894076f6d72b3a02c16e0ec60ce738760fbd28280541", func := "sapper/sapperlaw09.BlockLens", spec := "blockLens", unfollowed := true, recurses := true, named := ["sapper/head.senses", "sapper/head.order"], apart := false, laid := [("sapper/head.senses", laid_sapper_head_senses), ("sapper/head.order", laid_sapper_head_order)] }
def BlockLensSaid : Prop := blockLensRow.holds Tryz.pinned (OpenSpec.ofChange blockLensSpec)

/-- ITS FALSE NEIGHBOUR: 'it returns false'. Refute it at one input. -/
def blockLensWrong : ChangeSpec := { name := "blockLens", fn := fun _ => fun
  | [d] => { results := [.lit (.bool false)], args := [d] }
  | _ => none }
def BlockLensWrongFalsely : Prop := blockLensRow.holds Tryz.pinned (OpenSpec.ofChange blockLensWrong)

/-- 'sapperlaw09.BlockCosts': WHATEVER THE INPUT: true; the input reads as it did. -/
def blockCostsSpec : ChangeSpec := { name := "blockCosts", fn := fun _ => fun
  | [d1, d2, d3] => { results := [.lit (.bool true)], args := [d1, d2, d3] }
  | _ => none }
def blockCostsRow : OpenClaim := { program := "ytcifalelnfeggaagreatdoor", sum := "3c0d9c78eeee37c866a3894076f6d72b3a02c16e0ec60ce738760fbd28280541", func := "sapper/sapperlaw09.BlockCosts", spec := "blockCosts", unfollowed := true, recurses := true, named := ["sapper/head.senses", "sapper/head.order"], apart := false, laid := [("sapper/head.senses", laid_sapper_head_senses), ("sapper/head.order", laid_sapper_head_order)] }
def BlockCostsSaid : Prop := blockCostsRow.holds Tryz.pinned (OpenSpec.ofChange blockCostsSpec)

/-- ITS FALSE NEIGHBOUR: 'it returns false'. Refute it at one input. -/
def blockCostsWrong : ChangeSpec := { name := "blockCosts", fn := fun _ => fun
  | [d1, d2, d3] => { results := [.lit (.bool false)], args := [d1, d2, d3] }
  | _ => none }
def BlockCostsWrongFalsely : Prop := blockCostsRow.holds Tryz.pinned (OpenSpec.ofChange blockCostsWrong)

/-- 'sapperlaw09.BlockWrites': WHATEVER THE INPUT: true; the input reads as it did. -/
def blockWritesSpec : ChangeSpec := { name := "blockWrites", fn := fun _ => fun
  | [d1, d2] => { results := [.lit (.bool true)], args := [d1, d2] }
  | _ => none }
def blockWritesRow : OpenClaim := { program := "ytcifalelnfeggaagreatdoor", sum := "3c0d9c78eeee37c866a3894076f6d72b3a02c16e0ec60ce738760fbd28280541", func := "sapper/sapperlaw09.BlockWrites", spec := "blockWrites", unfollowed := true, recurses := true, named := ["sapper/head.senses", "sapper/head.order"], apart := false, laid := [("sapper/head.senses", laid_sapper_head_senses), ("sapper/head.order", laid_sapper_head_order)] }
def BlockWritesSaid : Prop := blockWritesRow.holds Tryz.pinned (OpenSpec.ofChange blockWritesSpec)

/-- ITS FALSE NEIGHBOUR: 'it returns false'. Refute it at one input. -/
def blockWritesWrong : ChangeSpec := { name := "blockWrites", fn := fun _ => fun
  | [d1, d2] => { results := [.lit (.bool false)], args := [d1, d2] }
  | _ => none }
def BlockWritesWrongFalsely : Prop := blockWritesRow.holds Tryz.pinned (OpenSpec.ofChange blockWritesWrong)

/-- 'sapperlaw09.BlockTrue': WHATEVER THE INPUT: true; the input reads as it did. -/
def blockTrueSpec : ChangeSpec := { name := "blockTrue", fn := fun _ => fun
  | [d1, d2] => { results := [.lit (.bool true)], args := [d1, d2] }
  | _ => none }
def blockTrueRow : OpenClaim := { program := "ytcifalelnfeggaagreatdoor", sum := "3c0d9c78eeee37c866a3894076f6d72b3a02c16e0ec60ce738760fbd28280541", func := "sapper/sapperlaw09.BlockTrue", spec := "blockTrue", unfollowed := true, recurses := true, named := ["sapper/head.senses", "sapper/head.order"], apart := false, laid := [("sapper/head.senses", laid_sapper_head_senses), ("sapper/head.order", laid_sapper_head_order)] }
def BlockTrueSaid : Prop := blockTrueRow.holds Tryz.pinned (OpenSpec.ofChange blockTrueSpec)

/-- ITS FALSE NEIGHBOUR: 'it returns false'. Refute it at one input. -/
def blockTrueWrong : ChangeSpec := { name := "blockTrue", fn := fun _ => fun
  | [d1, d2] => { results := [.lit (.bool false)], args := [d1, d2] }
  | _ => none }
def BlockTrueWrongFalsely : Prop := blockTrueRow.holds Tryz.pinned (OpenSpec.ofChange blockTrueWrong)

/- THE SECOND FORM. 'bulk': how many values and letters a reading holds, each counted each time it is reached (what is shared counts as often as it is met; a slice's spare places count too). A statement '..UptoSaid' is the law's where the arguments, and the package variables that the reading takes, are together of bulk at most 1048576: NARROWER than '..Said'. Prove '..Said' where nothing that the law and all that it calls make is longer than what came in: it says more and counts as full. Else prove '..UptoSaid'. A law counts once. -/
mutual
def uptoBulk {H : Type} : DataW H → Nat
  | .lit (.string bytes) => bytes.length + 1
  | .lit _ => 1
  | .nil => 1
  | .ptr d => uptoBulk d + 1
  | .slice elems spare => uptoBulkAll elems + uptoBulkAll spare + 1
  | .agg parts => uptoBulkAll parts + 1
  | .iface _ d => uptoBulk d + 1
  | .map entries => uptoBulkEntries entries + 1
  | .held _ => 1
def uptoBulkAll {H : Type} : List (DataW H) → Nat
  | [] => 0
  | d :: r => uptoBulk d + uptoBulkAll r
def uptoBulkEntries {H : Type} : List (Lit × DataW H) → Nat
  | [] => 0
  | x :: r => uptoBulkEntry x + uptoBulkEntries r
def uptoBulkEntry {H : Type} : Lit × DataW H → Nat
  | (.string bytes, d) => bytes.length + uptoBulk d + 1
  | (_, d) => uptoBulk d + 1
 end
def uptoSmall : (H : Type) → List (DataW H) → Bool := fun _ ds => decide (uptoBulkAll ds ≤ 1048576)
def OpenSpec.upto (s : _root_.Go.ChangeSpec) : _root_.Go.OpenSpec := { _root_.Go.OpenSpec.ofChange s with cond := some uptoSmall }

/-- 'sapperlaw09.BlockSymbols', WHERE WHAT IT READS IS OF BULK AT MOST 1048576: true; the input reads as it did. -/
def blockSymbolsUptoRow : OpenClaim := { program := "ytcifalelnfeggaagreatdoor", sum := "3c0d9c78eeee37c866a3894076f6d72b3a02c16e0ec60ce738760fbd28280541", func := "sapper/sapperlaw09.BlockSymbols", spec := "blockSymbols", unfollowed := true, recurses := true, named := ["sapper/head.senses", "sapper/head.order"], apart := false, laid := [("sapper/head.senses", laid_sapper_head_senses), ("sapper/head.order", laid_sapper_head_order)], narrowed := true }
def BlockSymbolsUptoSaid : Prop := blockSymbolsUptoRow.holds Tryz.pinned (OpenSpec.upto blockSymbolsSpec)

/-- 'sapperlaw09.BlockSplits', WHERE WHAT IT READS IS OF BULK AT MOST 1048576: true; the input reads as it did. -/
def blockSplitsUptoRow : OpenClaim := { program := "ytcifalelnfeggaagreatdoor", sum := "3c0d9c78eeee37c866a3894076f6d72b3a02c16e0ec60ce738760fbd28280541", func := "sapper/sapperlaw09.BlockSplits", spec := "blockSplits", unfollowed := true, recurses := true, named := ["sapper/head.senses", "sapper/head.order"], apart := false, laid := [("sapper/head.senses", laid_sapper_head_senses), ("sapper/head.order", laid_sapper_head_order)], narrowed := true }
def BlockSplitsUptoSaid : Prop := blockSplitsUptoRow.holds Tryz.pinned (OpenSpec.upto blockSplitsSpec)

/-- 'sapperlaw09.BlockLens', WHERE WHAT IT READS IS OF BULK AT MOST 1048576: true; the input reads as it did. -/
def blockLensUptoRow : OpenClaim := { program := "ytcifalelnfeggaagreatdoor", sum := "3c0d9c78eeee37c866a3894076f6d72b3a02c16e0ec60ce738760fbd28280541", func := "sapper/sapperlaw09.BlockLens", spec := "blockLens", unfollowed := true, recurses := true, named := ["sapper/head.senses", "sapper/head.order"], apart := false, laid := [("sapper/head.senses", laid_sapper_head_senses), ("sapper/head.order", laid_sapper_head_order)], narrowed := true }
def BlockLensUptoSaid : Prop := blockLensUptoRow.holds Tryz.pinned (OpenSpec.upto blockLensSpec)

/-- 'sapperlaw09.BlockCosts', WHERE WHAT IT READS IS OF BULK AT MOST 1048576: true; the input reads as it did. -/
def blockCostsUptoRow : OpenClaim := { program := "ytcifalelnfeggaagreatdoor", sum := "3c0d9c78eeee37c866a3894076f6d72b3a02c16e0ec60ce738760fbd28280541", func := "sapper/sapperlaw09.BlockCosts", spec := "blockCosts", unfollowed := true, recurses := true, named := ["sapper/head.senses", "sapper/head.order"], apart := false, laid := [("sapper/head.senses", laid_sapper_head_senses), ("sapper/head.order", laid_sapper_head_order)], narrowed := true }
def BlockCostsUptoSaid : Prop := blockCostsUptoRow.holds Tryz.pinned (OpenSpec.upto blockCostsSpec)

/-- 'sapperlaw09.BlockWrites', WHERE WHAT IT READS IS OF BULK AT MOST 1048576: true; the input reads as it did. -/
def blockWritesUptoRow : OpenClaim := { program := "ytcifalelnfeggaagreatdoor", sum := "3c0d9c78eeee37c866a3894076f6d72b3a02c16e0ec60ce738760fbd28280541", func := "sapper/sapperlaw09.BlockWrites", spec := "blockWrites", unfollowed := true, recurses := true, named := ["sapper/head.senses", "sapper/head.order"], apart := false, laid := [("sapper/head.senses", laid_sapper_head_senses), ("sapper/head.order", laid_sapper_head_order)], narrowed := true }
def BlockWritesUptoSaid : Prop := blockWritesUptoRow.holds Tryz.pinned (OpenSpec.upto blockWritesSpec)

/-- 'sapperlaw09.BlockTrue', WHERE WHAT IT READS IS OF BULK AT MOST 1048576: true; the input reads as it did. -/
def blockTrueUptoRow : OpenClaim := { program := "ytcifalelnfeggaagreatdoor", sum := "3c0d9c78eeee37c866a3894076f6d72b3a02c16e0ec60ce738760fbd28280541", func := "sapper/sapperlaw09.BlockTrue", spec := "blockTrue", unfollowed := true, recurses := true, named := ["sapper/head.senses", "sapper/head.order"], apart := false, laid := [("sapper/head.senses", laid_sapper_head_senses), ("sapper/head.order", laid_sapper_head_order)], narrowed := true }
def BlockTrueUptoSaid : Prop := blockTrueUptoRow.holds Tryz.pinned (OpenSpec.upto blockTrueSpec)

end Rows
end Go.Proofs.YtcifalelnfeggaaGreatDoor
