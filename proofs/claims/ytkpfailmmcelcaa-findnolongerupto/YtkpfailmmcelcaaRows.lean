/-
  No cell of these rows narrows 'for every input' (looked for: loops, veiled, ifaces, maps, wideKeys, modest, calm, conditions, laid).
  DERIVED. THE GIVEN ROWS OF THIS SEAT. 2 by the template 'for every input the law returns true; each argument reads behind the call as it read before'; 0 by the template 'total and deterministic' (their statements: YtkpfailmmcelcaaTotals.lean).
  GIVEN WITH THE SEED: the statements are not yours to turn. If you find one false, say at which input.
  Laid BY PROGRAM, IN A SANDBOX (cutbox-rows.mjs): the forced cells as the released guide's own fill.sh prints them over the translation a588779f1001a04d… (all of the seat's roots in one cut). By AI agents, Wed Nov 11 2026. No macro, syntax, notation, axiom, sorry.
-/
import Derived.Test.YtkpfailmmcelcaaChecked
import GoSem.Claim
import GoSem.ClaimJoined
import GoSem.ClaimMapViews
import Derived.JoinedTies
import Derived.KernelRfl
namespace Go.Proofs.Ytkpfailmmcelcaa
/- THE CELL 'sum', in the pinned program and in every row, IS THE sha256 OF THE DUMP (.gsa) THAT YtkpfailmmcelcaaProg.lean LOADS. Nothing in Lean hashes anything: it is a label: what it is worth is what the hold of that sum in a sandbox is worth. -/
noncomputable def Try.pinned : Pinned := { name := "ytkpfailmmcelcaa", sum := "a588779f1001a04d429b8cbef60444be91edb64ced41ebbbb1ff59d0f186dc19", checked := Try.checked }
namespace Rows
def none {H : Type} : Left H := { results := [], args := [] }

/-- 'sapperlaw14.FindStatistics': WHATEVER THE INPUT: true; the input reads as it did. -/
def findStatisticsSpec : ChangeSpec := { name := "findStatistics", fn := fun _ => fun
  | [d1, d2] => { results := [.lit (.bool true)], args := [d1, d2] }
  | _ => none }
def findStatisticsRow : OpenClaim := { program := "ytkpfailmmcelcaa", sum := "a588779f1001a04d429b8cbef60444be91edb64ced41ebbbb1ff59d0f186dc19", func := "sapper/sapperlaw14.FindStatistics", spec := "findStatistics", unfollowed := true, recurses := true, apart := false }
def FindStatisticsSaid : Prop := findStatisticsRow.holds Try.pinned (OpenSpec.ofChange findStatisticsSpec)

/-- ITS FALSE NEIGHBOUR: 'it returns false'. Refute it at one input. -/
def findStatisticsWrong : ChangeSpec := { name := "findStatistics", fn := fun _ => fun
  | [d1, d2] => { results := [.lit (.bool false)], args := [d1, d2] }
  | _ => none }
def FindStatisticsWrongFalsely : Prop := findStatisticsRow.holds Try.pinned (OpenSpec.ofChange findStatisticsWrong)

/-- 'sapperlaw14.FindNoLonger': WHATEVER THE INPUT: true; the input reads as it did. -/
def findNoLongerSpec : ChangeSpec := { name := "findNoLonger", fn := fun _ => fun
  | [d1, d2] => { results := [.lit (.bool true)], args := [d1, d2] }
  | _ => none }
def findNoLongerRow : OpenClaim := { program := "ytkpfailmmcelcaa", sum := "a588779f1001a04d429b8cbef60444be91edb64ced41ebbbb1ff59d0f186dc19", func := "sapper/sapperlaw14.FindNoLonger", spec := "findNoLonger", unfollowed := true, recurses := true, apart := false }
def FindNoLongerSaid : Prop := findNoLongerRow.holds Try.pinned (OpenSpec.ofChange findNoLongerSpec)

/-- ITS FALSE NEIGHBOUR: 'it returns false'. Refute it at one input. -/
def findNoLongerWrong : ChangeSpec := { name := "findNoLonger", fn := fun _ => fun
  | [d1, d2] => { results := [.lit (.bool false)], args := [d1, d2] }
  | _ => none }
def FindNoLongerWrongFalsely : Prop := findNoLongerRow.holds Try.pinned (OpenSpec.ofChange findNoLongerWrong)

/- THE SECOND FORM. 'bulk': how many values and letters a reading holds, each counted each time it is reached (what is shared counts as often as it is met; a slice's spare places count too). A statement '..UptoSaid' is the law's where the arguments, and the package variables that the reading takes, are together of bulk at most 1048576: NARROWER than '..Said'. Prove '..Said' where nothing that the law and all that it calls make is longer than what came in: it says more and counts as full. Else prove '..UptoSaid'. A law counts once. -/
mutual
def uptoBulk {H : Type} : DataW H → Nat
  | .lit (.string bytes) => bytes.length + 1
  | .lit _ => 1
  | .nil => 1
  | .ptr d => uptoBulk d + 1
  | .slice elems spare => uptoBulkAll elems + uptoBulkAll spare + 1
  | .agg parts => uptoBulkAll parts + 1
  | .iface _ d => uptoBulk d + 1
  | .map entries => uptoBulkEntries entries + 1
  | .held _ => 1
def uptoBulkAll {H : Type} : List (DataW H) → Nat
  | [] => 0
  | d :: r => uptoBulk d + uptoBulkAll r
def uptoBulkEntries {H : Type} : List (Lit × DataW H) → Nat
  | [] => 0
  | x :: r => uptoBulkEntry x + uptoBulkEntries r
def uptoBulkEntry {H : Type} : Lit × DataW H → Nat
  | (.string bytes, d) => bytes.length + uptoBulk d + 1
  | (_, d) => uptoBulk d + 1
 end
def uptoSmall : (H : Type) → List (DataW H) → Bool := fun _ ds => decide (uptoBulkAll ds ≤ 1048576)
def OpenSpec.upto (s : _root_.Go.ChangeSpec) : _root_.Go.OpenSpec := { _root_.Go.OpenSpec.ofChange s with cond := some uptoSmall }

/-- 'sapperlaw14.FindStatistics', WHERE WHAT IT READS IS OF BULK AT MOST 1048576: true; the input reads as it did. -/
def findStatisticsUptoRow : OpenClaim := { program := "ytkpfailmmcelcaa", sum := "a588779f1001a04d429b8cbef60444be91edb64ced41ebbbb1ff59d0f186dc19", func := "sapper/sapperlaw14.FindStatistics", spec := "findStatistics", unfollowed := true, recurses := true, apart := false, narrowed := true }
def FindStatisticsUptoSaid : Prop := findStatisticsUptoRow.holds Try.pinned (OpenSpec.upto findStatisticsSpec)

/-- 'sapperlaw14.FindNoLonger', WHERE WHAT IT READS IS OF BULK AT MOST 1048576: true; the input reads as it did. -/
def findNoLongerUptoRow : OpenClaim := { program := "ytkpfailmmcelcaa", sum := "a588779f1001a04d429b8cbef60444be91edb64ced41ebbbb1ff59d0f186dc19", func := "sapper/sapperlaw14.FindNoLonger", spec := "findNoLonger", unfollowed := true, recurses := true, apart := false, narrowed := true }
def FindNoLongerUptoSaid : Prop := findNoLongerUptoRow.holds Try.pinned (OpenSpec.upto findNoLongerSpec)

end Rows
end Go.Proofs.Ytkpfailmmcelcaa
