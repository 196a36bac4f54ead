/-
  No cell of these rows narrows 'for every input' (looked for: loops, veiled, ifaces, maps, wideKeys, modest, calm, conditions, laid).
  DERIVED. THE GIVEN ROWS OF THIS SEAT. 6 by the template 'for every input the law returns true; each argument reads behind the call as it read before'; 0 by the template 'total and deterministic' (their statements: YtlbledagpoimaaaTotals.lean).
  GIVEN WITH THE SEED: the statements are not yours to turn. If you find one false, say at which input.
  Laid BY PROGRAM, IN A SANDBOX (cutbox-rows.mjs): the forced cells as the released guide's own fill.sh prints them over the translation 34f6fb60f08f201d… (all of the seat's roots in one cut). By AI agents, Wed Nov 11 2026. No macro, syntax, notation, axiom, sorry.
-/
import Derived.Test.YtlbledagpoimaaaChecked
import GoSem.Claim
import GoSem.ClaimJoined
import GoSem.ClaimMapViews
import Derived.JoinedTies
import Derived.KernelRfl
namespace Go.Proofs.Ytlbledagpoimaaa
/- THE CELL 'sum', in the pinned program and in every row, IS THE sha256 OF THE DUMP (.gsa) THAT YtlbledagpoimaaaProg.lean LOADS. Nothing in Lean hashes anything: it is a label: what it is worth is what the hold of that sum in a sandbox is worth. -/
noncomputable def Try.pinned : Pinned := { name := "ytlbledagpoimaaa", sum := "34f6fb60f08f201d0b9719b4042c79172aa1294a3ad6e0f56cd5a17f2b7405c0", checked := Try.checked }
namespace Rows
def none {H : Type} : Left H := { results := [], args := [] }

/-- 'sapperlaw13.SuffixNames': WHATEVER THE INPUT: true; the input reads as it did. -/
def suffixNamesSpec : ChangeSpec := { name := "suffixNames", fn := fun _ => fun
  | [] => { results := [.lit (.bool true)], args := [] }
  | _ => none }
def suffixNamesRow : OpenClaim := { program := "ytlbledagpoimaaa", sum := "34f6fb60f08f201d0b9719b4042c79172aa1294a3ad6e0f56cd5a17f2b7405c0", func := "sapper/sapperlaw13.SuffixNames", spec := "suffixNames", unfollowed := true, recurses := true, apart := false }
def SuffixNamesSaid : Prop := suffixNamesRow.holds Try.pinned (OpenSpec.ofChange suffixNamesSpec)

/-- ITS FALSE NEIGHBOUR: 'it returns false'. Refute it at one input. -/
def suffixNamesWrong : ChangeSpec := { name := "suffixNames", fn := fun _ => fun
  | [] => { results := [.lit (.bool false)], args := [] }
  | _ => none }
def SuffixNamesWrongFalsely : Prop := suffixNamesRow.holds Try.pinned (OpenSpec.ofChange suffixNamesWrong)

/-- 'sapperlaw13.SuffixCommons': WHATEVER THE INPUT: true; the input reads as it did. -/
def suffixCommonsSpec : ChangeSpec := { name := "suffixCommons", fn := fun _ => fun
  | [d1, d2, d3] => { results := [.lit (.bool true)], args := [d1, d2, d3] }
  | _ => none }
def suffixCommonsRow : OpenClaim := { program := "ytlbledagpoimaaa", sum := "34f6fb60f08f201d0b9719b4042c79172aa1294a3ad6e0f56cd5a17f2b7405c0", func := "sapper/sapperlaw13.SuffixCommons", spec := "suffixCommons", unfollowed := true, recurses := true, apart := false }
def SuffixCommonsSaid : Prop := suffixCommonsRow.holds Try.pinned (OpenSpec.ofChange suffixCommonsSpec)

/-- ITS FALSE NEIGHBOUR: 'it returns false'. Refute it at one input. -/
def suffixCommonsWrong : ChangeSpec := { name := "suffixCommons", fn := fun _ => fun
  | [d1, d2, d3] => { results := [.lit (.bool false)], args := [d1, d2, d3] }
  | _ => none }
def SuffixCommonsWrongFalsely : Prop := suffixCommonsRow.holds Try.pinned (OpenSpec.ofChange suffixCommonsWrong)

/-- 'sapperlaw13.SuffixChecks': WHATEVER THE INPUT: true; the input reads as it did. -/
def suffixChecksSpec : ChangeSpec := { name := "suffixChecks", fn := fun _ => fun
  | [d1, d2] => { results := [.lit (.bool true)], args := [d1, d2] }
  | _ => none }
def suffixChecksRow : OpenClaim := { program := "ytlbledagpoimaaa", sum := "34f6fb60f08f201d0b9719b4042c79172aa1294a3ad6e0f56cd5a17f2b7405c0", func := "sapper/sapperlaw13.SuffixChecks", spec := "suffixChecks", unfollowed := true, recurses := true, apart := false }
def SuffixChecksSaid : Prop := suffixChecksRow.holds Try.pinned (OpenSpec.ofChange suffixChecksSpec)

/-- ITS FALSE NEIGHBOUR: 'it returns false'. Refute it at one input. -/
def suffixChecksWrong : ChangeSpec := { name := "suffixChecks", fn := fun _ => fun
  | [d1, d2] => { results := [.lit (.bool false)], args := [d1, d2] }
  | _ => none }
def SuffixChecksWrongFalsely : Prop := suffixChecksRow.holds Try.pinned (OpenSpec.ofChange suffixChecksWrong)

/-- 'sapperlaw13.SuffixOrders': WHATEVER THE INPUT: true; the input reads as it did. -/
def suffixOrdersSpec : ChangeSpec := { name := "suffixOrders", fn := fun _ => fun
  | [d] => { results := [.lit (.bool true)], args := [d] }
  | _ => none }
def suffixOrdersRow : OpenClaim := { program := "ytlbledagpoimaaa", sum := "34f6fb60f08f201d0b9719b4042c79172aa1294a3ad6e0f56cd5a17f2b7405c0", func := "sapper/sapperlaw13.SuffixOrders", spec := "suffixOrders", unfollowed := true, recurses := true, apart := false }
def SuffixOrdersSaid : Prop := suffixOrdersRow.holds Try.pinned (OpenSpec.ofChange suffixOrdersSpec)

/-- ITS FALSE NEIGHBOUR: 'it returns false'. Refute it at one input. -/
def suffixOrdersWrong : ChangeSpec := { name := "suffixOrders", fn := fun _ => fun
  | [d] => { results := [.lit (.bool false)], args := [d] }
  | _ => none }
def SuffixOrdersWrongFalsely : Prop := suffixOrdersRow.holds Try.pinned (OpenSpec.ofChange suffixOrdersWrong)

/-- 'sapperlaw13.SuffixLeast': WHATEVER THE INPUT: true; the input reads as it did. -/
def suffixLeastSpec : ChangeSpec := { name := "suffixLeast", fn := fun _ => fun
  | [d1, d2, d3] => { results := [.lit (.bool true)], args := [d1, d2, d3] }
  | _ => none }
def suffixLeastRow : OpenClaim := { program := "ytlbledagpoimaaa", sum := "34f6fb60f08f201d0b9719b4042c79172aa1294a3ad6e0f56cd5a17f2b7405c0", func := "sapper/sapperlaw13.SuffixLeast", spec := "suffixLeast", unfollowed := true, recurses := true, apart := false }
def SuffixLeastSaid : Prop := suffixLeastRow.holds Try.pinned (OpenSpec.ofChange suffixLeastSpec)

/-- ITS FALSE NEIGHBOUR: 'it returns false'. Refute it at one input. -/
def suffixLeastWrong : ChangeSpec := { name := "suffixLeast", fn := fun _ => fun
  | [d1, d2, d3] => { results := [.lit (.bool false)], args := [d1, d2, d3] }
  | _ => none }
def SuffixLeastWrongFalsely : Prop := suffixLeastRow.holds Try.pinned (OpenSpec.ofChange suffixLeastWrong)

/-- 'sapperlaw13.SuffixMade': WHATEVER THE INPUT: true; the input reads as it did. -/
def suffixMadeSpec : ChangeSpec := { name := "suffixMade", fn := fun _ => fun
  | [d1, d2] => { results := [.lit (.bool true)], args := [d1, d2] }
  | _ => none }
def suffixMadeRow : OpenClaim := { program := "ytlbledagpoimaaa", sum := "34f6fb60f08f201d0b9719b4042c79172aa1294a3ad6e0f56cd5a17f2b7405c0", func := "sapper/sapperlaw13.SuffixMade", spec := "suffixMade", unfollowed := true, recurses := true, apart := false }
def SuffixMadeSaid : Prop := suffixMadeRow.holds Try.pinned (OpenSpec.ofChange suffixMadeSpec)

/-- ITS FALSE NEIGHBOUR: 'it returns false'. Refute it at one input. -/
def suffixMadeWrong : ChangeSpec := { name := "suffixMade", fn := fun _ => fun
  | [d1, d2] => { results := [.lit (.bool false)], args := [d1, d2] }
  | _ => none }
def SuffixMadeWrongFalsely : Prop := suffixMadeRow.holds Try.pinned (OpenSpec.ofChange suffixMadeWrong)

/- THE SECOND FORM. 'bulk': how many values and letters a reading holds, each counted each time it is reached (what is shared counts as often as it is met; a slice's spare places count too). A statement '..UptoSaid' is the law's where the arguments, and the package variables that the reading takes, are together of bulk at most 1048576: NARROWER than '..Said'. Prove '..Said' where nothing that the law and all that it calls make is longer than what came in: it says more and counts as full. Else prove '..UptoSaid'. A law counts once. -/
mutual
def uptoBulk {H : Type} : DataW H → Nat
  | .lit (.string bytes) => bytes.length + 1
  | .lit _ => 1
  | .nil => 1
  | .ptr d => uptoBulk d + 1
  | .slice elems spare => uptoBulkAll elems + uptoBulkAll spare + 1
  | .agg parts => uptoBulkAll parts + 1
  | .iface _ d => uptoBulk d + 1
  | .map entries => uptoBulkEntries entries + 1
  | .held _ => 1
def uptoBulkAll {H : Type} : List (DataW H) → Nat
  | [] => 0
  | d :: r => uptoBulk d + uptoBulkAll r
def uptoBulkEntries {H : Type} : List (Lit × DataW H) → Nat
  | [] => 0
  | x :: r => uptoBulkEntry x + uptoBulkEntries r
def uptoBulkEntry {H : Type} : Lit × DataW H → Nat
  | (.string bytes, d) => bytes.length + uptoBulk d + 1
  | (_, d) => uptoBulk d + 1
 end
def uptoSmall : (H : Type) → List (DataW H) → Bool := fun _ ds => decide (uptoBulkAll ds ≤ 1048576)
def OpenSpec.upto (s : _root_.Go.ChangeSpec) : _root_.Go.OpenSpec := { _root_.Go.OpenSpec.ofChange s with cond := some uptoSmall }

/-- 'sapperlaw13.SuffixNames', WHERE WHAT IT READS IS OF BULK AT MOST 1048576: true; the input reads as it did. -/
def suffixNamesUptoRow : OpenClaim := { program := "ytlbledagpoimaaa", sum := "34f6fb60f08f201d0b9719b4042c79172aa1294a3ad6e0f56cd5a17f2b7405c0", func := "sapper/sapperlaw13.SuffixNames", spec := "suffixNames", unfollowed := true, recurses := true, apart := false, narrowed := true }
def SuffixNamesUptoSaid : Prop := suffixNamesUptoRow.holds Try.pinned (OpenSpec.upto suffixNamesSpec)

/-- 'sapperlaw13.SuffixCommons', WHERE WHAT IT READS IS OF BULK AT MOST 1048576: true; the input reads as it did. -/
def suffixCommonsUptoRow : OpenClaim := { program := "ytlbledagpoimaaa", sum := "34f6fb60f08f201d0b9719b4042c79172aa1294a3ad6e0f56cd5a17f2b7405c0", func := "sapper/sapperlaw13.SuffixCommons", spec := "suffixCommons", unfollowed := true, recurses := true, apart := false, narrowed := true }
def SuffixCommonsUptoSaid : Prop := suffixCommonsUptoRow.holds Try.pinned (OpenSpec.upto suffixCommonsSpec)

/-- 'sapperlaw13.SuffixChecks', WHERE WHAT IT READS IS OF BULK AT MOST 1048576: true; the input reads as it did. -/
def suffixChecksUptoRow : OpenClaim := { program := "ytlbledagpoimaaa", sum := "34f6fb60f08f201d0b9719b4042c79172aa1294a3ad6e0f56cd5a17f2b7405c0", func := "sapper/sapperlaw13.SuffixChecks", spec := "suffixChecks", unfollowed := true, recurses := true, apart := false, narrowed := true }
def SuffixChecksUptoSaid : Prop := suffixChecksUptoRow.holds Try.pinned (OpenSpec.upto suffixChecksSpec)

/-- 'sapperlaw13.SuffixOrders', WHERE WHAT IT READS IS OF BULK AT MOST 1048576: true; the input reads as it did. -/
def suffixOrdersUptoRow : OpenClaim := { program := "ytlbledagpoimaaa", sum := "34f6fb60f08f201d0b9719b4042c79172aa1294a3ad6e0f56cd5a17f2b7405c0", func := "sapper/sapperlaw13.SuffixOrders", spec := "suffixOrders", unfollowed := true, recurses := true, apart := false, narrowed := true }
def SuffixOrdersUptoSaid : Prop := suffixOrdersUptoRow.holds Try.pinned (OpenSpec.upto suffixOrdersSpec)

/-- 'sapperlaw13.SuffixLeast', WHERE WHAT IT READS IS OF BULK AT MOST 1048576: true; the input reads as it did. -/
def suffixLeastUptoRow : OpenClaim := { program := "ytlbledagpoimaaa", sum := "34f6fb60f08f201d0b9719b4042c79172aa1294a3ad6e0f56cd5a17f2b7405c0", func := "sapper/sapperlaw13.SuffixLeast", spec := "suffixLeast", unfollowed := true, recurses := true, apart := false, narrowed := true }
def SuffixLeastUptoSaid : Prop := suffixLeastUptoRow.holds Try.pinned (OpenSpec.upto suffixLeastSpec)

/-- 'sapperlaw13.SuffixMade', WHERE WHAT IT READS IS OF BULK AT MOST 1048576: true; the input reads as it did. -/
def suffixMadeUptoRow : OpenClaim := { program := "ytlbledagpoimaaa", sum := "34f6fb60f08f201d0b9719b4042c79172aa1294a3ad6e0f56cd5a17f2b7405c0", func := "sapper/sapperlaw13.SuffixMade", spec := "suffixMade", unfollowed := true, recurses := true, apart := false, narrowed := true }
def SuffixMadeUptoSaid : Prop := suffixMadeUptoRow.holds Try.pinned (OpenSpec.upto suffixMadeSpec)

end Rows
end Go.Proofs.Ytlbledagpoimaaa
