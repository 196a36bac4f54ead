/-
  No cell of these rows narrows 'for every input' (looked for: loops, veiled, ifaces, maps, wideKeys, modest, calm, conditions, laid).
  DERIVED. THE GIVEN ROWS OF THIS SEAT. 5 by the template 'for every input the law returns true; each argument reads behind the call as it read before'; 0 by the template 'total and deterministic' (their statements: YtidcdbdlaonoeaaTotals.lean).
  GIVEN WITH THE SEED: the statements are not yours to turn. If you find one false, say at which input.
  Laid BY PROGRAM, IN A SANDBOX (cutbox-rows.mjs): the forced cells as the released guide's own fill.sh prints them over the translation 38d54175e32cd071… (all of the seat's roots in one cut). By AI agents, Wed Nov 11 2026. No macro, syntax, notation, axiom, sorry.
-/
import Derived.Test.YtidcdbdlaonoeaaChecked
import GoSem.Claim
import GoSem.ClaimJoined
import GoSem.ClaimMapViews
import Derived.JoinedTies
import Derived.KernelRfl
namespace Go.Proofs.Ytidcdbdlaonoeaa
/- THE CELL 'sum', in the pinned program and in every row, IS THE sha256 OF THE DUMP (.gsa) THAT YtidcdbdlaonoeaaProg.lean LOADS. Nothing in Lean hashes anything: it is a label: what it is worth is what the hold of that sum in a sandbox is worth. -/
noncomputable def Try.pinned : Pinned := { name := "ytidcdbdlaonoeaa", sum := "38d54175e32cd071b8f2a2ca92efa2f6e6440cc69f7b24211ab6339075a30a30", checked := Try.checked }
namespace Rows
def none {H : Type} : Left H := { results := [], args := [] }

/-- 'sapperlaw14.FindRanges': WHATEVER THE INPUT: true; the input reads as it did. -/
def findRangesSpec : ChangeSpec := { name := "findRanges", fn := fun _ => fun
  | [d1, d2] => { results := [.lit (.bool true)], args := [d1, d2] }
  | _ => none }
def findRangesRow : OpenClaim := { program := "ytidcdbdlaonoeaa", sum := "38d54175e32cd071b8f2a2ca92efa2f6e6440cc69f7b24211ab6339075a30a30", func := "sapper/sapperlaw14.FindRanges", spec := "findRanges", unfollowed := true, recurses := true, apart := false }
def FindRangesSaid : Prop := findRangesRow.holds Try.pinned (OpenSpec.ofChange findRangesSpec)

/-- ITS FALSE NEIGHBOUR: 'it returns false'. Refute it at one input. -/
def findRangesWrong : ChangeSpec := { name := "findRanges", fn := fun _ => fun
  | [d1, d2] => { results := [.lit (.bool false)], args := [d1, d2] }
  | _ => none }
def FindRangesWrongFalsely : Prop := findRangesRow.holds Try.pinned (OpenSpec.ofChange findRangesWrong)

/-- 'sapperlaw14.FindPlaces': WHATEVER THE INPUT: true; the input reads as it did. -/
def findPlacesSpec : ChangeSpec := { name := "findPlaces", fn := fun _ => fun
  | [d1, d2] => { results := [.lit (.bool true)], args := [d1, d2] }
  | _ => none }
def findPlacesRow : OpenClaim := { program := "ytidcdbdlaonoeaa", sum := "38d54175e32cd071b8f2a2ca92efa2f6e6440cc69f7b24211ab6339075a30a30", func := "sapper/sapperlaw14.FindPlaces", spec := "findPlaces", unfollowed := true, recurses := true, apart := false }
def FindPlacesSaid : Prop := findPlacesRow.holds Try.pinned (OpenSpec.ofChange findPlacesSpec)

/-- ITS FALSE NEIGHBOUR: 'it returns false'. Refute it at one input. -/
def findPlacesWrong : ChangeSpec := { name := "findPlaces", fn := fun _ => fun
  | [d1, d2] => { results := [.lit (.bool false)], args := [d1, d2] }
  | _ => none }
def FindPlacesWrongFalsely : Prop := findPlacesRow.holds Try.pinned (OpenSpec.ofChange findPlacesWrong)

/-- 'sapperlaw14.FindLongest': WHATEVER THE INPUT: true; the input reads as it did. -/
def findLongestSpec : ChangeSpec := { name := "findLongest", fn := fun _ => fun
  | [d1, d2] => { results := [.lit (.bool true)], args := [d1, d2] }
  | _ => none }
def findLongestRow : OpenClaim := { program := "ytidcdbdlaonoeaa", sum := "38d54175e32cd071b8f2a2ca92efa2f6e6440cc69f7b24211ab6339075a30a30", func := "sapper/sapperlaw14.FindLongest", spec := "findLongest", unfollowed := true, recurses := true, apart := false }
def FindLongestSaid : Prop := findLongestRow.holds Try.pinned (OpenSpec.ofChange findLongestSpec)

/-- ITS FALSE NEIGHBOUR: 'it returns false'. Refute it at one input. -/
def findLongestWrong : ChangeSpec := { name := "findLongest", fn := fun _ => fun
  | [d1, d2] => { results := [.lit (.bool false)], args := [d1, d2] }
  | _ => none }
def FindLongestWrongFalsely : Prop := findLongestRow.holds Try.pinned (OpenSpec.ofChange findLongestWrong)

/-- 'sapperlaw14.FindDistinct': WHATEVER THE INPUT: true; the input reads as it did. -/
def findDistinctSpec : ChangeSpec := { name := "findDistinct", fn := fun _ => fun
  | [d] => { results := [.lit (.bool true)], args := [d] }
  | _ => none }
def findDistinctRow : OpenClaim := { program := "ytidcdbdlaonoeaa", sum := "38d54175e32cd071b8f2a2ca92efa2f6e6440cc69f7b24211ab6339075a30a30", func := "sapper/sapperlaw14.FindDistinct", spec := "findDistinct", unfollowed := true, recurses := true, apart := false }
def FindDistinctSaid : Prop := findDistinctRow.holds Try.pinned (OpenSpec.ofChange findDistinctSpec)

/-- ITS FALSE NEIGHBOUR: 'it returns false'. Refute it at one input. -/
def findDistinctWrong : ChangeSpec := { name := "findDistinct", fn := fun _ => fun
  | [d] => { results := [.lit (.bool false)], args := [d] }
  | _ => none }
def FindDistinctWrongFalsely : Prop := findDistinctRow.holds Try.pinned (OpenSpec.ofChange findDistinctWrong)

/-- 'sapperlaw14.FindCounts': WHATEVER THE INPUT: true; the input reads as it did. -/
def findCountsSpec : ChangeSpec := { name := "findCounts", fn := fun _ => fun
  | [d] => { results := [.lit (.bool true)], args := [d] }
  | _ => none }
def findCountsRow : OpenClaim := { program := "ytidcdbdlaonoeaa", sum := "38d54175e32cd071b8f2a2ca92efa2f6e6440cc69f7b24211ab6339075a30a30", func := "sapper/sapperlaw14.FindCounts", spec := "findCounts", unfollowed := true, recurses := true, apart := false }
def FindCountsSaid : Prop := findCountsRow.holds Try.pinned (OpenSpec.ofChange findCountsSpec)

/-- ITS FALSE NEIGHBOUR: 'it returns false'. Refute it at one input. -/
def findCountsWrong : ChangeSpec := { name := "findCounts", fn := fun _ => fun
  | [d] => { results := [.lit (.bool false)], args := [d] }
  | _ => none }
def FindCountsWrongFalsely : Prop := findCountsRow.holds Try.pinned (OpenSpec.ofChange findCountsWrong)

/- THE SECOND FORM. 'bulk': how many values and letters a reading holds, each counted each time it is reached (what is shared counts as often as it is met; a slice's spare places count too). A statement '..UptoSaid' is the law's where the arguments, and the package variables that the reading takes, are together of bulk at most 1048576: NARROWER than '..Said'. Prove '..Said' where nothing that the law and all that it calls make is longer than what came in: it says more and counts as full. Else prove '..UptoSaid'. A law counts once. -/
mutual
def uptoBulk {H : Type} : DataW H → Nat
  | .lit (.string bytes) => bytes.length + 1
  | .lit _ => 1
  | .nil => 1
  | .ptr d => uptoBulk d + 1
  | .slice elems spare => uptoBulkAll elems + uptoBulkAll spare + 1
  | .agg parts => uptoBulkAll parts + 1
  | .iface _ d => uptoBulk d + 1
  | .map entries => uptoBulkEntries entries + 1
  | .held _ => 1
def uptoBulkAll {H : Type} : List (DataW H) → Nat
  | [] => 0
  | d :: r => uptoBulk d + uptoBulkAll r
def uptoBulkEntries {H : Type} : List (Lit × DataW H) → Nat
  | [] => 0
  | x :: r => uptoBulkEntry x + uptoBulkEntries r
def uptoBulkEntry {H : Type} : Lit × DataW H → Nat
  | (.string bytes, d) => bytes.length + uptoBulk d + 1
  | (_, d) => uptoBulk d + 1
 end
def uptoSmall : (H : Type) → List (DataW H) → Bool := fun _ ds => decide (uptoBulkAll ds ≤ 1048576)
def OpenSpec.upto (s : _root_.Go.ChangeSpec) : _root_.Go.OpenSpec := { _root_.Go.OpenSpec.ofChange s with cond := some uptoSmall }

/-- 'sapperlaw14.FindRanges', WHERE WHAT IT READS IS OF BULK AT MOST 1048576: true; the input reads as it did. -/
def findRangesUptoRow : OpenClaim := { program := "ytidcdbdlaonoeaa", sum := "38d54175e32cd071b8f2a2ca92efa2f6e6440cc69f7b24211ab6339075a30a30", func := "sapper/sapperlaw14.FindRanges", spec := "findRanges", unfollowed := true, recurses := true, apart := false, narrowed := true }
def FindRangesUptoSaid : Prop := findRangesUptoRow.holds Try.pinned (OpenSpec.upto findRangesSpec)

/-- 'sapperlaw14.FindPlaces', WHERE WHAT IT READS IS OF BULK AT MOST 1048576: true; the input reads as it did. -/
def findPlacesUptoRow : OpenClaim := { program := "ytidcdbdlaonoeaa", sum := "38d54175e32cd071b8f2a2ca92efa2f6e6440cc69f7b24211ab6339075a30a30", func := "sapper/sapperlaw14.FindPlaces", spec := "findPlaces", unfollowed := true, recurses := true, apart := false, narrowed := true }
def FindPlacesUptoSaid : Prop := findPlacesUptoRow.holds Try.pinned (OpenSpec.upto findPlacesSpec)

/-- 'sapperlaw14.FindLongest', WHERE WHAT IT READS IS OF BULK AT MOST 1048576: true; the input reads as it did. -/
def findLongestUptoRow : OpenClaim := { program := "ytidcdbdlaonoeaa", sum := "38d54175e32cd071b8f2a2ca92efa2f6e6440cc69f7b24211ab6339075a30a30", func := "sapper/sapperlaw14.FindLongest", spec := "findLongest", unfollowed := true, recurses := true, apart := false, narrowed := true }
def FindLongestUptoSaid : Prop := findLongestUptoRow.holds Try.pinned (OpenSpec.upto findLongestSpec)

/-- 'sapperlaw14.FindDistinct', WHERE WHAT IT READS IS OF BULK AT MOST 1048576: true; the input reads as it did. -/
def findDistinctUptoRow : OpenClaim := { program := "ytidcdbdlaonoeaa", sum := "38d54175e32cd071b8f2a2ca92efa2f6e6440cc69f7b24211ab6339075a30a30", func := "sapper/sapperlaw14.FindDistinct", spec := "findDistinct", unfollowed := true, recurses := true, apart := false, narrowed := true }
def FindDistinctUptoSaid : Prop := findDistinctUptoRow.holds Try.pinned (OpenSpec.upto findDistinctSpec)

/-- 'sapperlaw14.FindCounts', WHERE WHAT IT READS IS OF BULK AT MOST 1048576: true; the input reads as it did. -/
def findCountsUptoRow : OpenClaim := { program := "ytidcdbdlaonoeaa", sum := "38d54175e32cd071b8f2a2ca92efa2f6e6440cc69f7b24211ab6339075a30a30", func := "sapper/sapperlaw14.FindCounts", spec := "findCounts", unfollowed := true, recurses := true, apart := false, narrowed := true }
def FindCountsUptoSaid : Prop := findCountsUptoRow.holds Try.pinned (OpenSpec.upto findCountsSpec)

end Rows
end Go.Proofs.Ytidcdbdlaonoeaa
