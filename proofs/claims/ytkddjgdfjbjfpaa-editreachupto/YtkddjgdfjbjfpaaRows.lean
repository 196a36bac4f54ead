/-
  No cell of these rows narrows 'for every input' (looked for: loops, veiled, ifaces, maps, wideKeys, modest, calm, conditions, laid).
  DERIVED. THE GIVEN ROWS OF THIS SEAT. 6 by the template 'for every input the law returns true; each argument reads behind the call as it read before'; 0 by the template 'total and deterministic' (their statements: YtkddjgdfjbjfpaaTotals.lean).
  GIVEN WITH THE SEED: the statements are not yours to turn. If you find one false, say at which input.
  Laid BY PROGRAM, IN A SANDBOX (cutbox-rows.mjs): the forced cells as the released guide's own fill.sh prints them over the translation 6c0849f55e88a13d… (all of the seat's roots in one cut). By AI agents, Wed Nov 11 2026. No macro, syntax, notation, axiom, sorry.
-/
import Derived.Test.YtkddjgdfjbjfpaaChecked
import GoSem.Claim
import GoSem.ClaimJoined
import GoSem.ClaimMapViews
import Derived.JoinedTies
import Derived.KernelRfl
namespace Go.Proofs.Ytkddjgdfjbjfpaa
/- THE CELL 'sum', in the pinned program and in every row, IS THE sha256 OF THE DUMP (.gsa) THAT YtkddjgdfjbjfpaaProg.lean LOADS. Nothing in Lean hashes anything: it is a label: what it is worth is what the hold of that sum in a sandbox is worth. -/
noncomputable def Try.pinned : Pinned := { name := "ytkddjgdfjbjfpaa", sum := "6c0849f55e88a13dc3e7a9f0c296e814680635cd84d4fdd8982b8677a2aa9379", checked := Try.checked }
namespace Rows
def none {H : Type} : Left H := { results := [], args := [] }

/-- 'sapperlaw16.EditNames': WHATEVER THE INPUT: true; the input reads as it did. -/
def editNamesSpec : ChangeSpec := { name := "editNames", fn := fun _ => fun
  | [] => { results := [.lit (.bool true)], args := [] }
  | _ => none }
def editNamesRow : OpenClaim := { program := "ytkddjgdfjbjfpaa", sum := "6c0849f55e88a13dc3e7a9f0c296e814680635cd84d4fdd8982b8677a2aa9379", func := "sapper/sapperlaw16.EditNames", spec := "editNames", unfollowed := true, recurses := true, apart := false }
def EditNamesSaid : Prop := editNamesRow.holds Try.pinned (OpenSpec.ofChange editNamesSpec)

/-- ITS FALSE NEIGHBOUR: 'it returns false'. Refute it at one input. -/
def editNamesWrong : ChangeSpec := { name := "editNames", fn := fun _ => fun
  | [] => { results := [.lit (.bool false)], args := [] }
  | _ => none }
def EditNamesWrongFalsely : Prop := editNamesRow.holds Try.pinned (OpenSpec.ofChange editNamesWrong)

/-- 'sapperlaw16.EditChecks': WHATEVER THE INPUT: true; the input reads as it did. -/
def editChecksSpec : ChangeSpec := { name := "editChecks", fn := fun _ => fun
  | [d] => { results := [.lit (.bool true)], args := [d] }
  | _ => none }
def editChecksRow : OpenClaim := { program := "ytkddjgdfjbjfpaa", sum := "6c0849f55e88a13dc3e7a9f0c296e814680635cd84d4fdd8982b8677a2aa9379", func := "sapper/sapperlaw16.EditChecks", spec := "editChecks", unfollowed := true, recurses := true, apart := false }
def EditChecksSaid : Prop := editChecksRow.holds Try.pinned (OpenSpec.ofChange editChecksSpec)

/-- ITS FALSE NEIGHBOUR: 'it returns false'. Refute it at one input. -/
def editChecksWrong : ChangeSpec := { name := "editChecks", fn := fun _ => fun
  | [d] => { results := [.lit (.bool false)], args := [d] }
  | _ => none }
def EditChecksWrongFalsely : Prop := editChecksRow.holds Try.pinned (OpenSpec.ofChange editChecksWrong)

/-- 'sapperlaw16.EditApplies': WHATEVER THE INPUT: true; the input reads as it did. -/
def editAppliesSpec : ChangeSpec := { name := "editApplies", fn := fun _ => fun
  | [d1, d2] => { results := [.lit (.bool true)], args := [d1, d2] }
  | _ => none }
def editAppliesRow : OpenClaim := { program := "ytkddjgdfjbjfpaa", sum := "6c0849f55e88a13dc3e7a9f0c296e814680635cd84d4fdd8982b8677a2aa9379", func := "sapper/sapperlaw16.EditApplies", spec := "editApplies", unfollowed := true, recurses := true, apart := false }
def EditAppliesSaid : Prop := editAppliesRow.holds Try.pinned (OpenSpec.ofChange editAppliesSpec)

/-- ITS FALSE NEIGHBOUR: 'it returns false'. Refute it at one input. -/
def editAppliesWrong : ChangeSpec := { name := "editApplies", fn := fun _ => fun
  | [d1, d2] => { results := [.lit (.bool false)], args := [d1, d2] }
  | _ => none }
def EditAppliesWrongFalsely : Prop := editAppliesRow.holds Try.pinned (OpenSpec.ofChange editAppliesWrong)

/-- 'sapperlaw16.EditAlikes': WHATEVER THE INPUT: true; the input reads as it did. -/
def editAlikesSpec : ChangeSpec := { name := "editAlikes", fn := fun _ => fun
  | [d1, d2] => { results := [.lit (.bool true)], args := [d1, d2] }
  | _ => none }
def editAlikesRow : OpenClaim := { program := "ytkddjgdfjbjfpaa", sum := "6c0849f55e88a13dc3e7a9f0c296e814680635cd84d4fdd8982b8677a2aa9379", func := "sapper/sapperlaw16.EditAlikes", spec := "editAlikes", unfollowed := true, recurses := true, apart := false }
def EditAlikesSaid : Prop := editAlikesRow.holds Try.pinned (OpenSpec.ofChange editAlikesSpec)

/-- ITS FALSE NEIGHBOUR: 'it returns false'. Refute it at one input. -/
def editAlikesWrong : ChangeSpec := { name := "editAlikes", fn := fun _ => fun
  | [d1, d2] => { results := [.lit (.bool false)], args := [d1, d2] }
  | _ => none }
def EditAlikesWrongFalsely : Prop := editAlikesRow.holds Try.pinned (OpenSpec.ofChange editAlikesWrong)

/-- 'sapperlaw16.EditTells': WHATEVER THE INPUT: true; the input reads as it did. -/
def editTellsSpec : ChangeSpec := { name := "editTells", fn := fun _ => fun
  | [d] => { results := [.lit (.bool true)], args := [d] }
  | _ => none }
def editTellsRow : OpenClaim := { program := "ytkddjgdfjbjfpaa", sum := "6c0849f55e88a13dc3e7a9f0c296e814680635cd84d4fdd8982b8677a2aa9379", func := "sapper/sapperlaw16.EditTells", spec := "editTells", inPlace := ["internal/bytealg.Count", "internal/bytealg.IndexByte", "internal/bytealg.Index"], unfollowed := true, recurses := true, named := ["internal/bytealg.MaxLen"], apart := false }
def EditTellsSaid : Prop := editTellsRow.holds Try.pinned (OpenSpec.ofChange editTellsSpec)

/-- ITS FALSE NEIGHBOUR: 'it returns false'. Refute it at one input. -/
def editTellsWrong : ChangeSpec := { name := "editTells", fn := fun _ => fun
  | [d] => { results := [.lit (.bool false)], args := [d] }
  | _ => none }
def EditTellsWrongFalsely : Prop := editTellsRow.holds Try.pinned (OpenSpec.ofChange editTellsWrong)

/-- 'sapperlaw16.EditReach': WHATEVER THE INPUT: true; the input reads as it did. -/
def editReachSpec : ChangeSpec := { name := "editReach", fn := fun _ => fun
  | [d] => { results := [.lit (.bool true)], args := [d] }
  | _ => none }
def editReachRow : OpenClaim := { program := "ytkddjgdfjbjfpaa", sum := "6c0849f55e88a13dc3e7a9f0c296e814680635cd84d4fdd8982b8677a2aa9379", func := "sapper/sapperlaw16.EditReach", spec := "editReach", inPlace := ["internal/bytealg.Count", "internal/bytealg.IndexByte", "internal/bytealg.Index"], unfollowed := true, recurses := true, named := ["internal/bytealg.MaxLen"], apart := false }
def EditReachSaid : Prop := editReachRow.holds Try.pinned (OpenSpec.ofChange editReachSpec)

/-- ITS FALSE NEIGHBOUR: 'it returns false'. Refute it at one input. -/
def editReachWrong : ChangeSpec := { name := "editReach", fn := fun _ => fun
  | [d] => { results := [.lit (.bool false)], args := [d] }
  | _ => none }
def EditReachWrongFalsely : Prop := editReachRow.holds Try.pinned (OpenSpec.ofChange editReachWrong)

/- THE SECOND FORM. 'bulk': how many values and letters a reading holds, each counted each time it is reached (what is shared counts as often as it is met; a slice's spare places count too). A statement '..UptoSaid' is the law's where the arguments, and the package variables that the reading takes, are together of bulk at most 1048576: NARROWER than '..Said'. Prove '..Said' where nothing that the law and all that it calls make is longer than what came in: it says more and counts as full. Else prove '..UptoSaid'. A law counts once. -/
mutual
def uptoBulk {H : Type} : DataW H → Nat
  | .lit (.string bytes) => bytes.length + 1
  | .lit _ => 1
  | .nil => 1
  | .ptr d => uptoBulk d + 1
  | .slice elems spare => uptoBulkAll elems + uptoBulkAll spare + 1
  | .agg parts => uptoBulkAll parts + 1
  | .iface _ d => uptoBulk d + 1
  | .map entries => uptoBulkEntries entries + 1
  | .held _ => 1
def uptoBulkAll {H : Type} : List (DataW H) → Nat
  | [] => 0
  | d :: r => uptoBulk d + uptoBulkAll r
def uptoBulkEntries {H : Type} : List (Lit × DataW H) → Nat
  | [] => 0
  | x :: r => uptoBulkEntry x + uptoBulkEntries r
def uptoBulkEntry {H : Type} : Lit × DataW H → Nat
  | (.string bytes, d) => bytes.length + uptoBulk d + 1
  | (_, d) => uptoBulk d + 1
 end
def uptoSmall : (H : Type) → List (DataW H) → Bool := fun _ ds => decide (uptoBulkAll ds ≤ 1048576)
def OpenSpec.upto (s : _root_.Go.ChangeSpec) : _root_.Go.OpenSpec := { _root_.Go.OpenSpec.ofChange s with cond := some uptoSmall }

/-- 'sapperlaw16.EditNames', WHERE WHAT IT READS IS OF BULK AT MOST 1048576: true; the input reads as it did. -/
def editNamesUptoRow : OpenClaim := { program := "ytkddjgdfjbjfpaa", sum := "6c0849f55e88a13dc3e7a9f0c296e814680635cd84d4fdd8982b8677a2aa9379", func := "sapper/sapperlaw16.EditNames", spec := "editNames", unfollowed := true, recurses := true, apart := false, narrowed := true }
def EditNamesUptoSaid : Prop := editNamesUptoRow.holds Try.pinned (OpenSpec.upto editNamesSpec)

/-- 'sapperlaw16.EditChecks', WHERE WHAT IT READS IS OF BULK AT MOST 1048576: true; the input reads as it did. -/
def editChecksUptoRow : OpenClaim := { program := "ytkddjgdfjbjfpaa", sum := "6c0849f55e88a13dc3e7a9f0c296e814680635cd84d4fdd8982b8677a2aa9379", func := "sapper/sapperlaw16.EditChecks", spec := "editChecks", unfollowed := true, recurses := true, apart := false, narrowed := true }
def EditChecksUptoSaid : Prop := editChecksUptoRow.holds Try.pinned (OpenSpec.upto editChecksSpec)

/-- 'sapperlaw16.EditApplies', WHERE WHAT IT READS IS OF BULK AT MOST 1048576: true; the input reads as it did. -/
def editAppliesUptoRow : OpenClaim := { program := "ytkddjgdfjbjfpaa", sum := "6c0849f55e88a13dc3e7a9f0c296e814680635cd84d4fdd8982b8677a2aa9379", func := "sapper/sapperlaw16.EditApplies", spec := "editApplies", unfollowed := true, recurses := true, apart := false, narrowed := true }
def EditAppliesUptoSaid : Prop := editAppliesUptoRow.holds Try.pinned (OpenSpec.upto editAppliesSpec)

/-- 'sapperlaw16.EditAlikes', WHERE WHAT IT READS IS OF BULK AT MOST 1048576: true; the input reads as it did. -/
def editAlikesUptoRow : OpenClaim := { program := "ytkddjgdfjbjfpaa", sum := "6c0849f55e88a13dc3e7a9f0c296e814680635cd84d4fdd8982b8677a2aa9379", func := "sapper/sapperlaw16.EditAlikes", spec := "editAlikes", unfollowed := true, recurses := true, apart := false, narrowed := true }
def EditAlikesUptoSaid : Prop := editAlikesUptoRow.holds Try.pinned (OpenSpec.upto editAlikesSpec)

/-- 'sapperlaw16.EditTells', WHERE WHAT IT READS IS OF BULK AT MOST 1048576: true; the input reads as it did. -/
def editTellsUptoRow : OpenClaim := { program := "ytkddjgdfjbjfpaa", sum := "6c0849f55e88a13dc3e7a9f0c296e814680635cd84d4fdd8982b8677a2aa9379", func := "sapper/sapperlaw16.EditTells", spec := "editTells", inPlace := ["internal/bytealg.Count", "internal/bytealg.IndexByte", "internal/bytealg.Index"], unfollowed := true, recurses := true, named := ["internal/bytealg.MaxLen"], apart := false, narrowed := true }
def EditTellsUptoSaid : Prop := editTellsUptoRow.holds Try.pinned (OpenSpec.upto editTellsSpec)

/-- 'sapperlaw16.EditReach', WHERE WHAT IT READS IS OF BULK AT MOST 1048576: true; the input reads as it did. -/
def editReachUptoRow : OpenClaim := { program := "ytkddjgdfjbjfpaa", sum := "6c0849f55e88a13dc3e7a9f0c296e814680635cd84d4fdd8982b8677a2aa9379", func := "sapper/sapperlaw16.EditReach", spec := "editReach", inPlace := ["internal/bytealg.Count", "internal/bytealg.IndexByte", "internal/bytealg.Index"], unfollowed := true, recurses := true, named := ["internal/bytealg.MaxLen"], apart := false, narrowed := true }
def EditReachUptoSaid : Prop := editReachUptoRow.holds Try.pinned (OpenSpec.upto editReachSpec)

end Rows
end Go.Proofs.Ytkddjgdfjbjfpaa
