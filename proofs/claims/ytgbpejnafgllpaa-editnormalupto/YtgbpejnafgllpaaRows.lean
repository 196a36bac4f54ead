/-
  No cell of these rows narrows 'for every input' (looked for: loops, veiled, ifaces, maps, wideKeys, modest, calm, conditions, laid).
  DERIVED. THE GIVEN ROWS OF THIS SEAT. 6 by the template 'for every input the law returns true; each argument reads behind the call as it read before'; 0 by the template 'total and deterministic' (their statements: YtgbpejnafgllpaaTotals.lean).
  GIVEN WITH THE SEED: the statements are not yours to turn. If you find one false, say at which input.
  Laid BY PROGRAM, IN A SANDBOX (cutbox-rows.mjs): the forced cells as the released guide's own fill.sh prints them over the translation 06849718ab853a67… (all of the seat's roots in one cut). By AI agents, Wed Nov 11 2026. No macro, syntax, notation, axiom, sorry.
-/
import Derived.Test.YtgbpejnafgllpaaChecked
import GoSem.Claim
import GoSem.ClaimJoined
import GoSem.ClaimMapViews
import Derived.JoinedTies
import Derived.KernelRfl
namespace Go.Proofs.Ytgbpejnafgllpaa
/- THE CELL 'sum', in the pinned program and in every row, IS THE sha256 OF THE DUMP (.gsa) THAT YtgbpejnafgllpaaProg.lean LOADS. Nothing in Lean hashes anything: it is a label: what it is worth is what the hold of that sum in a sandbox is worth. -/
noncomputable def Try.pinned : Pinned := { name := "ytgbpejnafgllpaa", sum := "06849718ab853a67c2812854f333b4c0dfc727268398b33d3c94067d6a0658bb", checked := Try.checked }
namespace Rows
def none {H : Type} : Left H := { results := [], args := [] }

/-- 'sapperlaw16.EditNormals': WHATEVER THE INPUT: true; the input reads as it did. -/
def editNormalsSpec : ChangeSpec := { name := "editNormals", fn := fun _ => fun
  | [d] => { results := [.lit (.bool true)], args := [d] }
  | _ => none }
def editNormalsRow : OpenClaim := { program := "ytgbpejnafgllpaa", sum := "06849718ab853a67c2812854f333b4c0dfc727268398b33d3c94067d6a0658bb", func := "sapper/sapperlaw16.EditNormals", spec := "editNormals", unfollowed := true, recurses := true, apart := false }
def EditNormalsSaid : Prop := editNormalsRow.holds Try.pinned (OpenSpec.ofChange editNormalsSpec)

/-- ITS FALSE NEIGHBOUR: 'it returns false'. Refute it at one input. -/
def editNormalsWrong : ChangeSpec := { name := "editNormals", fn := fun _ => fun
  | [d] => { results := [.lit (.bool false)], args := [d] }
  | _ => none }
def EditNormalsWrongFalsely : Prop := editNormalsRow.holds Try.pinned (OpenSpec.ofChange editNormalsWrong)

/-- 'sapperlaw16.EditNormal': WHATEVER THE INPUT: true; the input reads as it did. -/
def editNormalSpec : ChangeSpec := { name := "editNormal", fn := fun _ => fun
  | [d1, d2] => { results := [.lit (.bool true)], args := [d1, d2] }
  | _ => none }
def editNormalRow : OpenClaim := { program := "ytgbpejnafgllpaa", sum := "06849718ab853a67c2812854f333b4c0dfc727268398b33d3c94067d6a0658bb", func := "sapper/sapperlaw16.EditNormal", spec := "editNormal", unfollowed := true, recurses := true, apart := false }
def EditNormalSaid : Prop := editNormalRow.holds Try.pinned (OpenSpec.ofChange editNormalSpec)

/-- ITS FALSE NEIGHBOUR: 'it returns false'. Refute it at one input. -/
def editNormalWrong : ChangeSpec := { name := "editNormal", fn := fun _ => fun
  | [d1, d2] => { results := [.lit (.bool false)], args := [d1, d2] }
  | _ => none }
def EditNormalWrongFalsely : Prop := editNormalRow.holds Try.pinned (OpenSpec.ofChange editNormalWrong)

/-- 'sapperlaw16.EditComposes': WHATEVER THE INPUT: true; the input reads as it did. -/
def editComposesSpec : ChangeSpec := { name := "editComposes", fn := fun _ => fun
  | [d1, d2] => { results := [.lit (.bool true)], args := [d1, d2] }
  | _ => none }
def editComposesRow : OpenClaim := { program := "ytgbpejnafgllpaa", sum := "06849718ab853a67c2812854f333b4c0dfc727268398b33d3c94067d6a0658bb", func := "sapper/sapperlaw16.EditComposes", spec := "editComposes", unfollowed := true, recurses := true, apart := false }
def EditComposesSaid : Prop := editComposesRow.holds Try.pinned (OpenSpec.ofChange editComposesSpec)

/-- ITS FALSE NEIGHBOUR: 'it returns false'. Refute it at one input. -/
def editComposesWrong : ChangeSpec := { name := "editComposes", fn := fun _ => fun
  | [d1, d2] => { results := [.lit (.bool false)], args := [d1, d2] }
  | _ => none }
def EditComposesWrongFalsely : Prop := editComposesRow.holds Try.pinned (OpenSpec.ofChange editComposesWrong)

/-- 'sapperlaw16.EditChain': WHATEVER THE INPUT: true; the input reads as it did. -/
def editChainSpec : ChangeSpec := { name := "editChain", fn := fun _ => fun
  | [d1, d2, d3] => { results := [.lit (.bool true)], args := [d1, d2, d3] }
  | _ => none }
def editChainRow : OpenClaim := { program := "ytgbpejnafgllpaa", sum := "06849718ab853a67c2812854f333b4c0dfc727268398b33d3c94067d6a0658bb", func := "sapper/sapperlaw16.EditChain", spec := "editChain", unfollowed := true, recurses := true, apart := false }
def EditChainSaid : Prop := editChainRow.holds Try.pinned (OpenSpec.ofChange editChainSpec)

/-- ITS FALSE NEIGHBOUR: 'it returns false'. Refute it at one input. -/
def editChainWrong : ChangeSpec := { name := "editChain", fn := fun _ => fun
  | [d1, d2, d3] => { results := [.lit (.bool false)], args := [d1, d2, d3] }
  | _ => none }
def EditChainWrongFalsely : Prop := editChainRow.holds Try.pinned (OpenSpec.ofChange editChainWrong)

/-- 'sapperlaw16.EditGroups': WHATEVER THE INPUT: true; the input reads as it did. -/
def editGroupsSpec : ChangeSpec := { name := "editGroups", fn := fun _ => fun
  | [d] => { results := [.lit (.bool true)], args := [d] }
  | _ => none }
def editGroupsRow : OpenClaim := { program := "ytgbpejnafgllpaa", sum := "06849718ab853a67c2812854f333b4c0dfc727268398b33d3c94067d6a0658bb", func := "sapper/sapperlaw16.EditGroups", spec := "editGroups", unfollowed := true, recurses := true, apart := false }
def EditGroupsSaid : Prop := editGroupsRow.holds Try.pinned (OpenSpec.ofChange editGroupsSpec)

/-- ITS FALSE NEIGHBOUR: 'it returns false'. Refute it at one input. -/
def editGroupsWrong : ChangeSpec := { name := "editGroups", fn := fun _ => fun
  | [d] => { results := [.lit (.bool false)], args := [d] }
  | _ => none }
def EditGroupsWrongFalsely : Prop := editGroupsRow.holds Try.pinned (OpenSpec.ofChange editGroupsWrong)

/-- 'sapperlaw16.EditNothing': WHATEVER THE INPUT: true; the input reads as it did. -/
def editNothingSpec : ChangeSpec := { name := "editNothing", fn := fun _ => fun
  | [d1, d2] => { results := [.lit (.bool true)], args := [d1, d2] }
  | _ => none }
def editNothingRow : OpenClaim := { program := "ytgbpejnafgllpaa", sum := "06849718ab853a67c2812854f333b4c0dfc727268398b33d3c94067d6a0658bb", func := "sapper/sapperlaw16.EditNothing", spec := "editNothing", unfollowed := true, recurses := true, apart := false }
def EditNothingSaid : Prop := editNothingRow.holds Try.pinned (OpenSpec.ofChange editNothingSpec)

/-- ITS FALSE NEIGHBOUR: 'it returns false'. Refute it at one input. -/
def editNothingWrong : ChangeSpec := { name := "editNothing", fn := fun _ => fun
  | [d1, d2] => { results := [.lit (.bool false)], args := [d1, d2] }
  | _ => none }
def EditNothingWrongFalsely : Prop := editNothingRow.holds Try.pinned (OpenSpec.ofChange editNothingWrong)

/- THE SECOND FORM. 'bulk': how many values and letters a reading holds, each counted each time it is reached (what is shared counts as often as it is met; a slice's spare places count too). A statement '..UptoSaid' is the law's where the arguments, and the package variables that the reading takes, are together of bulk at most 1048576: NARROWER than '..Said'. Prove '..Said' where nothing that the law and all that it calls make is longer than what came in: it says more and counts as full. Else prove '..UptoSaid'. A law counts once. -/
mutual
def uptoBulk {H : Type} : DataW H → Nat
  | .lit (.string bytes) => bytes.length + 1
  | .lit _ => 1
  | .nil => 1
  | .ptr d => uptoBulk d + 1
  | .slice elems spare => uptoBulkAll elems + uptoBulkAll spare + 1
  | .agg parts => uptoBulkAll parts + 1
  | .iface _ d => uptoBulk d + 1
  | .map entries => uptoBulkEntries entries + 1
  | .held _ => 1
def uptoBulkAll {H : Type} : List (DataW H) → Nat
  | [] => 0
  | d :: r => uptoBulk d + uptoBulkAll r
def uptoBulkEntries {H : Type} : List (Lit × DataW H) → Nat
  | [] => 0
  | x :: r => uptoBulkEntry x + uptoBulkEntries r
def uptoBulkEntry {H : Type} : Lit × DataW H → Nat
  | (.string bytes, d) => bytes.length + uptoBulk d + 1
  | (_, d) => uptoBulk d + 1
 end
def uptoSmall : (H : Type) → List (DataW H) → Bool := fun _ ds => decide (uptoBulkAll ds ≤ 1048576)
def OpenSpec.upto (s : _root_.Go.ChangeSpec) : _root_.Go.OpenSpec := { _root_.Go.OpenSpec.ofChange s with cond := some uptoSmall }

/-- 'sapperlaw16.EditNormals', WHERE WHAT IT READS IS OF BULK AT MOST 1048576: true; the input reads as it did. -/
def editNormalsUptoRow : OpenClaim := { program := "ytgbpejnafgllpaa", sum := "06849718ab853a67c2812854f333b4c0dfc727268398b33d3c94067d6a0658bb", func := "sapper/sapperlaw16.EditNormals", spec := "editNormals", unfollowed := true, recurses := true, apart := false, narrowed := true }
def EditNormalsUptoSaid : Prop := editNormalsUptoRow.holds Try.pinned (OpenSpec.upto editNormalsSpec)

/-- 'sapperlaw16.EditNormal', WHERE WHAT IT READS IS OF BULK AT MOST 1048576: true; the input reads as it did. -/
def editNormalUptoRow : OpenClaim := { program := "ytgbpejnafgllpaa", sum := "06849718ab853a67c2812854f333b4c0dfc727268398b33d3c94067d6a0658bb", func := "sapper/sapperlaw16.EditNormal", spec := "editNormal", unfollowed := true, recurses := true, apart := false, narrowed := true }
def EditNormalUptoSaid : Prop := editNormalUptoRow.holds Try.pinned (OpenSpec.upto editNormalSpec)

/-- 'sapperlaw16.EditComposes', WHERE WHAT IT READS IS OF BULK AT MOST 1048576: true; the input reads as it did. -/
def editComposesUptoRow : OpenClaim := { program := "ytgbpejnafgllpaa", sum := "06849718ab853a67c2812854f333b4c0dfc727268398b33d3c94067d6a0658bb", func := "sapper/sapperlaw16.EditComposes", spec := "editComposes", unfollowed := true, recurses := true, apart := false, narrowed := true }
def EditComposesUptoSaid : Prop := editComposesUptoRow.holds Try.pinned (OpenSpec.upto editComposesSpec)

/-- 'sapperlaw16.EditChain', WHERE WHAT IT READS IS OF BULK AT MOST 1048576: true; the input reads as it did. -/
def editChainUptoRow : OpenClaim := { program := "ytgbpejnafgllpaa", sum := "06849718ab853a67c2812854f333b4c0dfc727268398b33d3c94067d6a0658bb", func := "sapper/sapperlaw16.EditChain", spec := "editChain", unfollowed := true, recurses := true, apart := false, narrowed := true }
def EditChainUptoSaid : Prop := editChainUptoRow.holds Try.pinned (OpenSpec.upto editChainSpec)

/-- 'sapperlaw16.EditGroups', WHERE WHAT IT READS IS OF BULK AT MOST 1048576: true; the input reads as it did. -/
def editGroupsUptoRow : OpenClaim := { program := "ytgbpejnafgllpaa", sum := "06849718ab853a67c2812854f333b4c0dfc727268398b33d3c94067d6a0658bb", func := "sapper/sapperlaw16.EditGroups", spec := "editGroups", unfollowed := true, recurses := true, apart := false, narrowed := true }
def EditGroupsUptoSaid : Prop := editGroupsUptoRow.holds Try.pinned (OpenSpec.upto editGroupsSpec)

/-- 'sapperlaw16.EditNothing', WHERE WHAT IT READS IS OF BULK AT MOST 1048576: true; the input reads as it did. -/
def editNothingUptoRow : OpenClaim := { program := "ytgbpejnafgllpaa", sum := "06849718ab853a67c2812854f333b4c0dfc727268398b33d3c94067d6a0658bb", func := "sapper/sapperlaw16.EditNothing", spec := "editNothing", unfollowed := true, recurses := true, apart := false, narrowed := true }
def EditNothingUptoSaid : Prop := editNothingUptoRow.holds Try.pinned (OpenSpec.upto editNothingSpec)

end Rows
end Go.Proofs.Ytgbpejnafgllpaa
