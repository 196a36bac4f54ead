/-
  No cell of these rows narrows 'for every input' (looked for: loops, veiled, ifaces, maps, wideKeys, modest, calm, conditions, laid).
  DERIVED. THE GIVEN ROWS OF THIS SEAT. 4 by the template 'for every input the law returns true; each argument reads behind the call as it read before'; 0 by the template 'total and deterministic' (their statements: YtkggfeipcmfghaaTotals.lean).
  GIVEN WITH THE SEED: the statements are not yours to turn. If you find one false, say at which input.
  Laid BY PROGRAM, IN A SANDBOX (cutbox-rows.mjs): the forced cells as the released guide's own fill.sh prints them over the translation c3aabb63e5576fe8… (all of the seat's roots in one cut). By AI agents, Wed Nov 11 2026. No macro, syntax, notation, axiom, sorry.
-/
import Derived.Test.YtkggfeipcmfghaaChecked
import GoSem.Claim
import GoSem.ClaimJoined
import GoSem.ClaimMapViews
import Derived.JoinedTies
import Derived.KernelRfl
namespace Go.Proofs.Ytkggfeipcmfghaa
/- THE CELL 'sum', in the pinned program and in every row, IS THE sha256 OF THE DUMP (.gsa) THAT YtkggfeipcmfghaaProg.lean LOADS. Nothing in Lean hashes anything: it is a label: what it is worth is what the hold of that sum in a sandbox is worth. -/
noncomputable def Try.pinned : Pinned := { name := "ytkggfeipcmfghaa", sum := "c3aabb63e5576fe8554864ff7b03196b520f5f774df91eff9c0fab7336300a1c", checked := Try.checked }
namespace Rows
def none {H : Type} : Left H := { results := [], args := [] }

/-- 'sapperlaw12.SaisInduces': WHATEVER THE INPUT: true; the input reads as it did. -/
def saisInducesSpec : ChangeSpec := { name := "saisInduces", fn := fun _ => fun
  | [d] => { results := [.lit (.bool true)], args := [d] }
  | _ => none }
def saisInducesRow : OpenClaim := { program := "ytkggfeipcmfghaa", sum := "c3aabb63e5576fe8554864ff7b03196b520f5f774df91eff9c0fab7336300a1c", func := "sapper/sapperlaw12.SaisInduces", spec := "saisInduces", recurses := true, apart := false }
def SaisInducesSaid : Prop := saisInducesRow.holds Try.pinned (OpenSpec.ofChange saisInducesSpec)

/-- ITS FALSE NEIGHBOUR: 'it returns false'. Refute it at one input. -/
def saisInducesWrong : ChangeSpec := { name := "saisInduces", fn := fun _ => fun
  | [d] => { results := [.lit (.bool false)], args := [d] }
  | _ => none }
def SaisInducesWrongFalsely : Prop := saisInducesRow.holds Try.pinned (OpenSpec.ofChange saisInducesWrong)

/-- 'sapperlaw13.SuffixShares': WHATEVER THE INPUT: true; the input reads as it did. -/
def suffixSharesSpec : ChangeSpec := { name := "suffixShares", fn := fun _ => fun
  | [d1, d2] => { results := [.lit (.bool true)], args := [d1, d2] }
  | _ => none }
def suffixSharesRow : OpenClaim := { program := "ytkggfeipcmfghaa", sum := "c3aabb63e5576fe8554864ff7b03196b520f5f774df91eff9c0fab7336300a1c", func := "sapper/sapperlaw13.SuffixShares", spec := "suffixShares", unfollowed := true, recurses := true, apart := false }
def SuffixSharesSaid : Prop := suffixSharesRow.holds Try.pinned (OpenSpec.ofChange suffixSharesSpec)

/-- ITS FALSE NEIGHBOUR: 'it returns false'. Refute it at one input. -/
def suffixSharesWrong : ChangeSpec := { name := "suffixShares", fn := fun _ => fun
  | [d1, d2] => { results := [.lit (.bool false)], args := [d1, d2] }
  | _ => none }
def SuffixSharesWrongFalsely : Prop := suffixSharesRow.holds Try.pinned (OpenSpec.ofChange suffixSharesWrong)

/-- 'sapperlaw13.SuffixKinds': WHATEVER THE INPUT: true; the input reads as it did. -/
def suffixKindsSpec : ChangeSpec := { name := "suffixKinds", fn := fun _ => fun
  | [d1, d2, d3] => { results := [.lit (.bool true)], args := [d1, d2, d3] }
  | _ => none }
def suffixKindsRow : OpenClaim := { program := "ytkggfeipcmfghaa", sum := "c3aabb63e5576fe8554864ff7b03196b520f5f774df91eff9c0fab7336300a1c", func := "sapper/sapperlaw13.SuffixKinds", spec := "suffixKinds", unfollowed := true, recurses := true, apart := false }
def SuffixKindsSaid : Prop := suffixKindsRow.holds Try.pinned (OpenSpec.ofChange suffixKindsSpec)

/-- ITS FALSE NEIGHBOUR: 'it returns false'. Refute it at one input. -/
def suffixKindsWrong : ChangeSpec := { name := "suffixKinds", fn := fun _ => fun
  | [d1, d2, d3] => { results := [.lit (.bool false)], args := [d1, d2, d3] }
  | _ => none }
def SuffixKindsWrongFalsely : Prop := suffixKindsRow.holds Try.pinned (OpenSpec.ofChange suffixKindsWrong)

/-- 'sapperlaw13.SuffixSteps': WHATEVER THE INPUT: true; the input reads as it did. -/
def suffixStepsSpec : ChangeSpec := { name := "suffixSteps", fn := fun _ => fun
  | [d] => { results := [.lit (.bool true)], args := [d] }
  | _ => none }
def suffixStepsRow : OpenClaim := { program := "ytkggfeipcmfghaa", sum := "c3aabb63e5576fe8554864ff7b03196b520f5f774df91eff9c0fab7336300a1c", func := "sapper/sapperlaw13.SuffixSteps", spec := "suffixSteps", unfollowed := true, recurses := true, apart := false }
def SuffixStepsSaid : Prop := suffixStepsRow.holds Try.pinned (OpenSpec.ofChange suffixStepsSpec)

/-- ITS FALSE NEIGHBOUR: 'it returns false'. Refute it at one input. -/
def suffixStepsWrong : ChangeSpec := { name := "suffixSteps", fn := fun _ => fun
  | [d] => { results := [.lit (.bool false)], args := [d] }
  | _ => none }
def SuffixStepsWrongFalsely : Prop := suffixStepsRow.holds Try.pinned (OpenSpec.ofChange suffixStepsWrong)

/- THE SECOND FORM. 'bulk': how many values and letters a reading holds, each counted each time it is reached (what is shared counts as often as it is met; a slice's spare places count too). A statement '..UptoSaid' is the law's where the arguments, and the package variables that the reading takes, are together of bulk at most 1048576: NARROWER than '..Said'. Prove '..Said' where nothing that the law and all that it calls make is longer than what came in: it says more and counts as full. Else prove '..UptoSaid'. A law counts once. -/
mutual
def uptoBulk {H : Type} : DataW H → Nat
  | .lit (.string bytes) => bytes.length + 1
  | .lit _ => 1
  | .nil => 1
  | .ptr d => uptoBulk d + 1
  | .slice elems spare => uptoBulkAll elems + uptoBulkAll spare + 1
  | .agg parts => uptoBulkAll parts + 1
  | .iface _ d => uptoBulk d + 1
  | .map entries => uptoBulkEntries entries + 1
  | .held _ => 1
def uptoBulkAll {H : Type} : List (DataW H) → Nat
  | [] => 0
  | d :: r => uptoBulk d + uptoBulkAll r
def uptoBulkEntries {H : Type} : List (Lit × DataW H) → Nat
  | [] => 0
  | x :: r => uptoBulkEntry x + uptoBulkEntries r
def uptoBulkEntry {H : Type} : Lit × DataW H → Nat
  | (.string bytes, d) => bytes.length + uptoBulk d + 1
  | (_, d) => uptoBulk d + 1
 end
def uptoSmall : (H : Type) → List (DataW H) → Bool := fun _ ds => decide (uptoBulkAll ds ≤ 1048576)
def OpenSpec.upto (s : _root_.Go.ChangeSpec) : _root_.Go.OpenSpec := { _root_.Go.OpenSpec.ofChange s with cond := some uptoSmall }

/-- 'sapperlaw12.SaisInduces', WHERE WHAT IT READS IS OF BULK AT MOST 1048576: true; the input reads as it did. -/
def saisInducesUptoRow : OpenClaim := { program := "ytkggfeipcmfghaa", sum := "c3aabb63e5576fe8554864ff7b03196b520f5f774df91eff9c0fab7336300a1c", func := "sapper/sapperlaw12.SaisInduces", spec := "saisInduces", recurses := true, apart := false, narrowed := true }
def SaisInducesUptoSaid : Prop := saisInducesUptoRow.holds Try.pinned (OpenSpec.upto saisInducesSpec)

/-- 'sapperlaw13.SuffixShares', WHERE WHAT IT READS IS OF BULK AT MOST 1048576: true; the input reads as it did. -/
def suffixSharesUptoRow : OpenClaim := { program := "ytkggfeipcmfghaa", sum := "c3aabb63e5576fe8554864ff7b03196b520f5f774df91eff9c0fab7336300a1c", func := "sapper/sapperlaw13.SuffixShares", spec := "suffixShares", unfollowed := true, recurses := true, apart := false, narrowed := true }
def SuffixSharesUptoSaid : Prop := suffixSharesUptoRow.holds Try.pinned (OpenSpec.upto suffixSharesSpec)

/-- 'sapperlaw13.SuffixKinds', WHERE WHAT IT READS IS OF BULK AT MOST 1048576: true; the input reads as it did. -/
def suffixKindsUptoRow : OpenClaim := { program := "ytkggfeipcmfghaa", sum := "c3aabb63e5576fe8554864ff7b03196b520f5f774df91eff9c0fab7336300a1c", func := "sapper/sapperlaw13.SuffixKinds", spec := "suffixKinds", unfollowed := true, recurses := true, apart := false, narrowed := true }
def SuffixKindsUptoSaid : Prop := suffixKindsUptoRow.holds Try.pinned (OpenSpec.upto suffixKindsSpec)

/-- 'sapperlaw13.SuffixSteps', WHERE WHAT IT READS IS OF BULK AT MOST 1048576: true; the input reads as it did. -/
def suffixStepsUptoRow : OpenClaim := { program := "ytkggfeipcmfghaa", sum := "c3aabb63e5576fe8554864ff7b03196b520f5f774df91eff9c0fab7336300a1c", func := "sapper/sapperlaw13.SuffixSteps", spec := "suffixSteps", unfollowed := true, recurses := true, apart := false, narrowed := true }
def SuffixStepsUptoSaid : Prop := suffixStepsUptoRow.holds Try.pinned (OpenSpec.upto suffixStepsSpec)

end Rows
end Go.Proofs.Ytkggfeipcmfghaa
