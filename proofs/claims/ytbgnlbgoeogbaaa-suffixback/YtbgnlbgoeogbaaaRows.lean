/-
  No cell of these rows narrows 'for every input' (looked for: loops, veiled, ifaces, maps, wideKeys, modest, calm, conditions, laid).
  DERIVED. THE GIVEN ROWS OF THIS SEAT. 6 by the template 'for every input the law returns true; each argument reads behind the call as it read before'; 0 by the template 'total and deterministic' (their statements: YtbgnlbgoeogbaaaTotals.lean).
  GIVEN WITH THE SEED: the statements are not yours to turn. If you find one false, say at which input.
  Laid BY PROGRAM, IN A SANDBOX (cutbox-rows.mjs): the forced cells as the released guide's own fill.sh prints them over the translation 6b7fa1eea5f53707… (all of the seat's roots in one cut). By AI agents, Wed Nov 11 2026. No macro, syntax, notation, axiom, sorry.
-/
import Derived.Test.YtbgnlbgoeogbaaaChecked
import GoSem.Claim
import GoSem.ClaimJoined
import GoSem.ClaimMapViews
import Derived.JoinedTies
import Derived.KernelRfl
namespace Go.Proofs.Ytbgnlbgoeogbaaa
/- THE CELL 'sum', in the pinned program and in every row, IS THE sha256 OF THE DUMP (.gsa) THAT YtbgnlbgoeogbaaaProg.lean LOADS. Nothing in Lean hashes anything: it is a label: what it is worth is what the hold of that sum in a sandbox is worth. -/
noncomputable def Try.pinned : Pinned := { name := "ytbgnlbgoeogbaaa", sum := "6b7fa1eea5f5370727d6621e8639dd52f365a96d84a41512a9da491ce16c1837", checked := Try.checked }
namespace Rows
def none {H : Type} : Left H := { results := [], args := [] }

/-- 'sapperlaw12.SaisBuckets': WHATEVER THE INPUT: true; the input reads as it did. -/
def saisBucketsSpec : ChangeSpec := { name := "saisBuckets", fn := fun _ => fun
  | [d1, d2] => { results := [.lit (.bool true)], args := [d1, d2] }
  | _ => none }
def saisBucketsRow : OpenClaim := { program := "ytbgnlbgoeogbaaa", sum := "6b7fa1eea5f5370727d6621e8639dd52f365a96d84a41512a9da491ce16c1837", func := "sapper/sapperlaw12.SaisBuckets", spec := "saisBuckets", recurses := true, apart := false }
def SaisBucketsSaid : Prop := saisBucketsRow.holds Try.pinned (OpenSpec.ofChange saisBucketsSpec)

/-- ITS FALSE NEIGHBOUR: 'it returns false'. Refute it at one input. -/
def saisBucketsWrong : ChangeSpec := { name := "saisBuckets", fn := fun _ => fun
  | [d1, d2] => { results := [.lit (.bool false)], args := [d1, d2] }
  | _ => none }
def SaisBucketsWrongFalsely : Prop := saisBucketsRow.holds Try.pinned (OpenSpec.ofChange saisBucketsWrong)

/-- 'sapperlaw12.SaisInduces': WHATEVER THE INPUT: true; the input reads as it did. -/
def saisInducesSpec : ChangeSpec := { name := "saisInduces", fn := fun _ => fun
  | [d] => { results := [.lit (.bool true)], args := [d] }
  | _ => none }
def saisInducesRow : OpenClaim := { program := "ytbgnlbgoeogbaaa", sum := "6b7fa1eea5f5370727d6621e8639dd52f365a96d84a41512a9da491ce16c1837", func := "sapper/sapperlaw12.SaisInduces", spec := "saisInduces", recurses := true, apart := false }
def SaisInducesSaid : Prop := saisInducesRow.holds Try.pinned (OpenSpec.ofChange saisInducesSpec)

/-- ITS FALSE NEIGHBOUR: 'it returns false'. Refute it at one input. -/
def saisInducesWrong : ChangeSpec := { name := "saisInduces", fn := fun _ => fun
  | [d] => { results := [.lit (.bool false)], args := [d] }
  | _ => none }
def SaisInducesWrongFalsely : Prop := saisInducesRow.holds Try.pinned (OpenSpec.ofChange saisInducesWrong)

/-- 'sapperlaw12.SaisPieces': WHATEVER THE INPUT: true; the input reads as it did. -/
def saisPiecesSpec : ChangeSpec := { name := "saisPieces", fn := fun _ => fun
  | [d1, d2] => { results := [.lit (.bool true)], args := [d1, d2] }
  | _ => none }
def saisPiecesRow : OpenClaim := { program := "ytbgnlbgoeogbaaa", sum := "6b7fa1eea5f5370727d6621e8639dd52f365a96d84a41512a9da491ce16c1837", func := "sapper/sapperlaw12.SaisPieces", spec := "saisPieces", recurses := true, apart := false }
def SaisPiecesSaid : Prop := saisPiecesRow.holds Try.pinned (OpenSpec.ofChange saisPiecesSpec)

/-- ITS FALSE NEIGHBOUR: 'it returns false'. Refute it at one input. -/
def saisPiecesWrong : ChangeSpec := { name := "saisPieces", fn := fun _ => fun
  | [d1, d2] => { results := [.lit (.bool false)], args := [d1, d2] }
  | _ => none }
def SaisPiecesWrongFalsely : Prop := saisPiecesRow.holds Try.pinned (OpenSpec.ofChange saisPiecesWrong)

/-- 'sapperlaw12.SaisAlone': WHATEVER THE INPUT: true; the input reads as it did. -/
def saisAloneSpec : ChangeSpec := { name := "saisAlone", fn := fun _ => fun
  | [d1, d2] => { results := [.lit (.bool true)], args := [d1, d2] }
  | _ => none }
def saisAloneRow : OpenClaim := { program := "ytbgnlbgoeogbaaa", sum := "6b7fa1eea5f5370727d6621e8639dd52f365a96d84a41512a9da491ce16c1837", func := "sapper/sapperlaw12.SaisAlone", spec := "saisAlone", recurses := true, apart := false }
def SaisAloneSaid : Prop := saisAloneRow.holds Try.pinned (OpenSpec.ofChange saisAloneSpec)

/-- ITS FALSE NEIGHBOUR: 'it returns false'. Refute it at one input. -/
def saisAloneWrong : ChangeSpec := { name := "saisAlone", fn := fun _ => fun
  | [d1, d2] => { results := [.lit (.bool false)], args := [d1, d2] }
  | _ => none }
def SaisAloneWrongFalsely : Prop := saisAloneRow.holds Try.pinned (OpenSpec.ofChange saisAloneWrong)

/-- 'sapperlaw13.SuffixTurns': WHATEVER THE INPUT: true; the input reads as it did. -/
def suffixTurnsSpec : ChangeSpec := { name := "suffixTurns", fn := fun _ => fun
  | [d1, d2, d3] => { results := [.lit (.bool true)], args := [d1, d2, d3] }
  | _ => none }
def suffixTurnsRow : OpenClaim := { program := "ytbgnlbgoeogbaaa", sum := "6b7fa1eea5f5370727d6621e8639dd52f365a96d84a41512a9da491ce16c1837", func := "sapper/sapperlaw13.SuffixTurns", spec := "suffixTurns", unfollowed := true, recurses := true, apart := false }
def SuffixTurnsSaid : Prop := suffixTurnsRow.holds Try.pinned (OpenSpec.ofChange suffixTurnsSpec)

/-- ITS FALSE NEIGHBOUR: 'it returns false'. Refute it at one input. -/
def suffixTurnsWrong : ChangeSpec := { name := "suffixTurns", fn := fun _ => fun
  | [d1, d2, d3] => { results := [.lit (.bool false)], args := [d1, d2, d3] }
  | _ => none }
def SuffixTurnsWrongFalsely : Prop := suffixTurnsRow.holds Try.pinned (OpenSpec.ofChange suffixTurnsWrong)

/-- 'sapperlaw13.SuffixBack': WHATEVER THE INPUT: true; the input reads as it did. -/
def suffixBackSpec : ChangeSpec := { name := "suffixBack", fn := fun _ => fun
  | [d1, d2, d3] => { results := [.lit (.bool true)], args := [d1, d2, d3] }
  | _ => none }
def suffixBackRow : OpenClaim := { program := "ytbgnlbgoeogbaaa", sum := "6b7fa1eea5f5370727d6621e8639dd52f365a96d84a41512a9da491ce16c1837", func := "sapper/sapperlaw13.SuffixBack", spec := "suffixBack", unfollowed := true, recurses := true, apart := false }
def SuffixBackSaid : Prop := suffixBackRow.holds Try.pinned (OpenSpec.ofChange suffixBackSpec)

/-- ITS FALSE NEIGHBOUR: 'it returns false'. Refute it at one input. -/
def suffixBackWrong : ChangeSpec := { name := "suffixBack", fn := fun _ => fun
  | [d1, d2, d3] => { results := [.lit (.bool false)], args := [d1, d2, d3] }
  | _ => none }
def SuffixBackWrongFalsely : Prop := suffixBackRow.holds Try.pinned (OpenSpec.ofChange suffixBackWrong)

/- THE SECOND FORM. 'bulk': how many values and letters a reading holds, each counted each time it is reached (what is shared counts as often as it is met; a slice's spare places count too). A statement '..UptoSaid' is the law's where the arguments, and the package variables that the reading takes, are together of bulk at most 1048576: NARROWER than '..Said'. Prove '..Said' where nothing that the law and all that it calls make is longer than what came in: it says more and counts as full. Else prove '..UptoSaid'. A law counts once. -/
mutual
def uptoBulk {H : Type} : DataW H → Nat
  | .lit (.string bytes) => bytes.length + 1
  | .lit _ => 1
  | .nil => 1
  | .ptr d => uptoBulk d + 1
  | .slice elems spare => uptoBulkAll elems + uptoBulkAll spare + 1
  | .agg parts => uptoBulkAll parts + 1
  | .iface _ d => uptoBulk d + 1
  | .map entries => uptoBulkEntries entries + 1
  | .held _ => 1
def uptoBulkAll {H : Type} : List (DataW H) → Nat
  | [] => 0
  | d :: r => uptoBulk d + uptoBulkAll r
def uptoBulkEntries {H : Type} : List (Lit × DataW H) → Nat
  | [] => 0
  | x :: r => uptoBulkEntry x + uptoBulkEntries r
def uptoBulkEntry {H : Type} : Lit × DataW H → Nat
  | (.string bytes, d) => bytes.length + uptoBulk d + 1
  | (_, d) => uptoBulk d + 1
 end
def uptoSmall : (H : Type) → List (DataW H) → Bool := fun _ ds => decide (uptoBulkAll ds ≤ 1048576)
def OpenSpec.upto (s : _root_.Go.ChangeSpec) : _root_.Go.OpenSpec := { _root_.Go.OpenSpec.ofChange s with cond := some uptoSmall }

/-- 'sapperlaw12.SaisBuckets', WHERE WHAT IT READS IS OF BULK AT MOST 1048576: true; the input reads as it did. -/
def saisBucketsUptoRow : OpenClaim := { program := "ytbgnlbgoeogbaaa", sum := "6b7fa1eea5f5370727d6621e8639dd52f365a96d84a41512a9da491ce16c1837", func := "sapper/sapperlaw12.SaisBuckets", spec := "saisBuckets", recurses := true, apart := false, narrowed := true }
def SaisBucketsUptoSaid : Prop := saisBucketsUptoRow.holds Try.pinned (OpenSpec.upto saisBucketsSpec)

/-- 'sapperlaw12.SaisInduces', WHERE WHAT IT READS IS OF BULK AT MOST 1048576: true; the input reads as it did. -/
def saisInducesUptoRow : OpenClaim := { program := "ytbgnlbgoeogbaaa", sum := "6b7fa1eea5f5370727d6621e8639dd52f365a96d84a41512a9da491ce16c1837", func := "sapper/sapperlaw12.SaisInduces", spec := "saisInduces", recurses := true, apart := false, narrowed := true }
def SaisInducesUptoSaid : Prop := saisInducesUptoRow.holds Try.pinned (OpenSpec.upto saisInducesSpec)

/-- 'sapperlaw12.SaisPieces', WHERE WHAT IT READS IS OF BULK AT MOST 1048576: true; the input reads as it did. -/
def saisPiecesUptoRow : OpenClaim := { program := "ytbgnlbgoeogbaaa", sum := "6b7fa1eea5f5370727d6621e8639dd52f365a96d84a41512a9da491ce16c1837", func := "sapper/sapperlaw12.SaisPieces", spec := "saisPieces", recurses := true, apart := false, narrowed := true }
def SaisPiecesUptoSaid : Prop := saisPiecesUptoRow.holds Try.pinned (OpenSpec.upto saisPiecesSpec)

/-- 'sapperlaw12.SaisAlone', WHERE WHAT IT READS IS OF BULK AT MOST 1048576: true; the input reads as it did. -/
def saisAloneUptoRow : OpenClaim := { program := "ytbgnlbgoeogbaaa", sum := "6b7fa1eea5f5370727d6621e8639dd52f365a96d84a41512a9da491ce16c1837", func := "sapper/sapperlaw12.SaisAlone", spec := "saisAlone", recurses := true, apart := false, narrowed := true }
def SaisAloneUptoSaid : Prop := saisAloneUptoRow.holds Try.pinned (OpenSpec.upto saisAloneSpec)

/-- 'sapperlaw13.SuffixTurns', WHERE WHAT IT READS IS OF BULK AT MOST 1048576: true; the input reads as it did. -/
def suffixTurnsUptoRow : OpenClaim := { program := "ytbgnlbgoeogbaaa", sum := "6b7fa1eea5f5370727d6621e8639dd52f365a96d84a41512a9da491ce16c1837", func := "sapper/sapperlaw13.SuffixTurns", spec := "suffixTurns", unfollowed := true, recurses := true, apart := false, narrowed := true }
def SuffixTurnsUptoSaid : Prop := suffixTurnsUptoRow.holds Try.pinned (OpenSpec.upto suffixTurnsSpec)

/-- 'sapperlaw13.SuffixBack', WHERE WHAT IT READS IS OF BULK AT MOST 1048576: true; the input reads as it did. -/
def suffixBackUptoRow : OpenClaim := { program := "ytbgnlbgoeogbaaa", sum := "6b7fa1eea5f5370727d6621e8639dd52f365a96d84a41512a9da491ce16c1837", func := "sapper/sapperlaw13.SuffixBack", spec := "suffixBack", unfollowed := true, recurses := true, apart := false, narrowed := true }
def SuffixBackUptoSaid : Prop := suffixBackUptoRow.holds Try.pinned (OpenSpec.upto suffixBackSpec)

end Rows
end Go.Proofs.Ytbgnlbgoeogbaaa
