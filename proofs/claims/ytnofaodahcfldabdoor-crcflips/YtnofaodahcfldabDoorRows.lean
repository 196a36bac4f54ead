/-
  NARROWER THAN 'FOR EVERY INPUT', by the rows' own cells (each row's printed sentence says how): CrcTails: laid · CrcFlips: laid · CrcThird: laid · CrcRuns: laid · CrcCuts: laid · CrcTurnsBack: laid.
  DERIVED. THE GIVEN ROWS OF THIS SEAT. 6 by the template 'for every input the law returns true; each argument reads behind the call as it read before'; 0 by the template 'total and deterministic' (their statements: YtnofaodahcfldabDoorTotals.lean).
  GIVEN WITH THE SEED: the statements are not yours to turn. If you find one false, say at which input.
  Laid BY PROGRAM, IN A SANDBOX (cutbox-rows.mjs): the forced cells as the released guide's own fill.sh prints them over the translation 97d3e0adb4d331e6… (all of the seat's roots in one cut). By AI agents, Wed Nov 11 2026. No macro, syntax, notation, axiom, sorry.
-/
import Derived.Test.YtnofaodahcfldabDoorChecked
import GoSem.Claim
import GoSem.ClaimJoined
import GoSem.ClaimMapViews
import Derived.JoinedTies
import Derived.KernelRfl
namespace Go.Proofs.YtnofaodahcfldabDoor
/- THE CELL 'sum', in the pinned program and in every row, IS THE sha256 OF THE DUMP (.gsa) THAT YtnofaodahcfldabDoorProg.lean LOADS. Nothing in Lean hashes anything: it is a label: what it is worth is what the hold of that sum in a sandbox is worth. -/
noncomputable def Tryd.pinned : Pinned := { name := "ytnofaodahcfldabdoor", sum := "97d3e0adb4d331e6ffcdb0eabc2fa6a9e0764adc0ba019c577a0fde291d69c38", checked := Tryd.checked }
namespace Rows
def none {H : Type} : Left H := { results := [], args := [] }

/- WHAT THE LISTED PACKAGE-LEVEL VARIABLES READ AS WHEN THE CALL BEGINS. Each datum BY PROGRAM (the guide's laid-datum.mjs) off the statement by which the dump's own 'gosem.cut.vars' lays the variable. In a bare row this is a premise. The card (YtnofaodahcfldabDoorCards.lean) ties it to the program's text. -/
def laid_sapper_crc_halves {H : Type} : DataW H := .agg [.lit (.int .u32 0), .lit (.int .u32 498536548), .lit (.int .u32 997073096), .lit (.int .u32 651767980), .lit (.int .u32 1994146192), .lit (.int .u32 1802195444), .lit (.int .u32 1303535960), .lit (.int .u32 1342533948), .lit (.int .u32 3988292384), .lit (.int .u32 4027552580), .lit (.int .u32 3604390888), .lit (.int .u32 3412177804), .lit (.int .u32 2607071920), .lit (.int .u32 2262029012), .lit (.int .u32 2685067896), .lit (.int .u32 3183342108)]

/-- 'sapperlaw02.CrcTails': WHATEVER THE INPUT: true; the input reads as it did. -/
def crcTailsSpec : ChangeSpec := { name := "crcTails", fn := fun _ => fun
  | [d1, d2] => { results := [.lit (.bool true)], args := [d1, d2] }
  | _ => none }
def crcTailsRow : OpenClaim := { program := "ytnofaodahcfldabdoor", sum := "97d3e0adb4d331e6ffcdb0eabc2fa6a9e0764adc0ba019c577a0fde291d69c38", func := "sapper/sapperlaw02.CrcTails", spec := "crcTails", named := ["sapper/crc.halves"], apart := false, laid := [("sapper/crc.halves", laid_sapper_crc_halves)] }
def CrcTailsSaid : Prop := crcTailsRow.holds Tryd.pinned (OpenSpec.ofChange crcTailsSpec)

/-- ITS FALSE NEIGHBOUR: 'it returns false'. Refute it at one input. -/
def crcTailsWrong : ChangeSpec := { name := "crcTails", fn := fun _ => fun
  | [d1, d2] => { results := [.lit (.bool false)], args := [d1, d2] }
  | _ => none }
def CrcTailsWrongFalsely : Prop := crcTailsRow.holds Tryd.pinned (OpenSpec.ofChange crcTailsWrong)

/-- 'sapperlaw02.CrcFlips': WHATEVER THE INPUT: true; the input reads as it did. -/
def crcFlipsSpec : ChangeSpec := { name := "crcFlips", fn := fun _ => fun
  | [d1, d2] => { results := [.lit (.bool true)], args := [d1, d2] }
  | _ => none }
def crcFlipsRow : OpenClaim := { program := "ytnofaodahcfldabdoor", sum := "97d3e0adb4d331e6ffcdb0eabc2fa6a9e0764adc0ba019c577a0fde291d69c38", func := "sapper/sapperlaw02.CrcFlips", spec := "crcFlips", named := ["sapper/crc.halves"], apart := false, laid := [("sapper/crc.halves", laid_sapper_crc_halves)] }
def CrcFlipsSaid : Prop := crcFlipsRow.holds Tryd.pinned (OpenSpec.ofChange crcFlipsSpec)

/-- ITS FALSE NEIGHBOUR: 'it returns false'. Refute it at one input. -/
def crcFlipsWrong : ChangeSpec := { name := "crcFlips", fn := fun _ => fun
  | [d1, d2] => { results := [.lit (.bool false)], args := [d1, d2] }
  | _ => none }
def CrcFlipsWrongFalsely : Prop := crcFlipsRow.holds Tryd.pinned (OpenSpec.ofChange crcFlipsWrong)

/-- 'sapperlaw02.CrcThird': WHATEVER THE INPUT: true; the input reads as it did. -/
def crcThirdSpec : ChangeSpec := { name := "crcThird", fn := fun _ => fun
  | [d] => { results := [.lit (.bool true)], args := [d] }
  | _ => none }
def crcThirdRow : OpenClaim := { program := "ytnofaodahcfldabdoor", sum := "97d3e0adb4d331e6ffcdb0eabc2fa6a9e0764adc0ba019c577a0fde291d69c38", func := "sapper/sapperlaw02.CrcThird", spec := "crcThird", named := ["sapper/crc.halves"], apart := false, laid := [("sapper/crc.halves", laid_sapper_crc_halves)] }
def CrcThirdSaid : Prop := crcThirdRow.holds Tryd.pinned (OpenSpec.ofChange crcThirdSpec)

/-- ITS FALSE NEIGHBOUR: 'it returns false'. Refute it at one input. -/
def crcThirdWrong : ChangeSpec := { name := "crcThird", fn := fun _ => fun
  | [d] => { results := [.lit (.bool false)], args := [d] }
  | _ => none }
def CrcThirdWrongFalsely : Prop := crcThirdRow.holds Tryd.pinned (OpenSpec.ofChange crcThirdWrong)

/-- 'sapperlaw02.CrcRuns': WHATEVER THE INPUT: true; the input reads as it did. -/
def crcRunsSpec : ChangeSpec := { name := "crcRuns", fn := fun _ => fun
  | [d1, d2, d3] => { results := [.lit (.bool true)], args := [d1, d2, d3] }
  | _ => none }
def crcRunsRow : OpenClaim := { program := "ytnofaodahcfldabdoor", sum := "97d3e0adb4d331e6ffcdb0eabc2fa6a9e0764adc0ba019c577a0fde291d69c38", func := "sapper/sapperlaw02.CrcRuns", spec := "crcRuns", named := ["sapper/crc.halves"], apart := false, laid := [("sapper/crc.halves", laid_sapper_crc_halves)] }
def CrcRunsSaid : Prop := crcRunsRow.holds Tryd.pinned (OpenSpec.ofChange crcRunsSpec)

/-- ITS FALSE NEIGHBOUR: 'it returns false'. Refute it at one input. -/
def crcRunsWrong : ChangeSpec := { name := "crcRuns", fn := fun _ => fun
  | [d1, d2, d3] => { results := [.lit (.bool false)], args := [d1, d2, d3] }
  | _ => none }
def CrcRunsWrongFalsely : Prop := crcRunsRow.holds Tryd.pinned (OpenSpec.ofChange crcRunsWrong)

/-- 'sapperlaw02.CrcCuts': WHATEVER THE INPUT: true; the input reads as it did. -/
def crcCutsSpec : ChangeSpec := { name := "crcCuts", fn := fun _ => fun
  | [d] => { results := [.lit (.bool true)], args := [d] }
  | _ => none }
def crcCutsRow : OpenClaim := { program := "ytnofaodahcfldabdoor", sum := "97d3e0adb4d331e6ffcdb0eabc2fa6a9e0764adc0ba019c577a0fde291d69c38", func := "sapper/sapperlaw02.CrcCuts", spec := "crcCuts", named := ["sapper/crc.halves"], apart := false, laid := [("sapper/crc.halves", laid_sapper_crc_halves)] }
def CrcCutsSaid : Prop := crcCutsRow.holds Tryd.pinned (OpenSpec.ofChange crcCutsSpec)

/-- ITS FALSE NEIGHBOUR: 'it returns false'. Refute it at one input. -/
def crcCutsWrong : ChangeSpec := { name := "crcCuts", fn := fun _ => fun
  | [d] => { results := [.lit (.bool false)], args := [d] }
  | _ => none }
def CrcCutsWrongFalsely : Prop := crcCutsRow.holds Tryd.pinned (OpenSpec.ofChange crcCutsWrong)

/-- 'sapperlaw02.CrcTurnsBack': WHATEVER THE INPUT: true; the input reads as it did. -/
def crcTurnsBackSpec : ChangeSpec := { name := "crcTurnsBack", fn := fun _ => fun
  | [d1, d2, d3] => { results := [.lit (.bool true)], args := [d1, d2, d3] }
  | _ => none }
def crcTurnsBackRow : OpenClaim := { program := "ytnofaodahcfldabdoor", sum := "97d3e0adb4d331e6ffcdb0eabc2fa6a9e0764adc0ba019c577a0fde291d69c38", func := "sapper/sapperlaw02.CrcTurnsBack", spec := "crcTurnsBack", named := ["sapper/crc.halves"], apart := false, laid := [("sapper/crc.halves", laid_sapper_crc_halves)] }
def CrcTurnsBackSaid : Prop := crcTurnsBackRow.holds Tryd.pinned (OpenSpec.ofChange crcTurnsBackSpec)

/-- ITS FALSE NEIGHBOUR: 'it returns false'. Refute it at one input. -/
def crcTurnsBackWrong : ChangeSpec := { name := "crcTurnsBack", fn := fun _ => fun
  | [d1, d2, d3] => { results := [.lit (.bool false)], args := [d1, d2, d3] }
  | _ => none }
def CrcTurnsBackWrongFalsely : Prop := crcTurnsBackRow.holds Tryd.pinned (OpenSpec.ofChange crcTurnsBackWrong)

/- THE SECOND FORM. 'bulk': how many values and letters a reading holds, each counted each time it is reached (what is shared counts as often as it is met; a slice's spare places count too). A statement '..UptoSaid' is the law's where the arguments, and the package variables that the reading takes, are together of bulk at most 1048576: NARROWER than '..Said'. Prove '..Said' where nothing that the law and all that it calls make is longer than what came in: it says more and counts as full. Else prove '..UptoSaid'. A law counts once. -/
mutual
def uptoBulk {H : Type} : DataW H → Nat
  | .lit (.string bytes) => bytes.length + 1
  | .lit _ => 1
  | .nil => 1
  | .ptr d => uptoBulk d + 1
  | .slice elems spare => uptoBulkAll elems + uptoBulkAll spare + 1
  | .agg parts => uptoBulkAll parts + 1
  | .iface _ d => uptoBulk d + 1
  | .map entries => uptoBulkEntries entries + 1
  | .held _ => 1
def uptoBulkAll {H : Type} : List (DataW H) → Nat
  | [] => 0
  | d :: r => uptoBulk d + uptoBulkAll r
def uptoBulkEntries {H : Type} : List (Lit × DataW H) → Nat
  | [] => 0
  | x :: r => uptoBulkEntry x + uptoBulkEntries r
def uptoBulkEntry {H : Type} : Lit × DataW H → Nat
  | (.string bytes, d) => bytes.length + uptoBulk d + 1
  | (_, d) => uptoBulk d + 1
 end
def uptoSmall : (H : Type) → List (DataW H) → Bool := fun _ ds => decide (uptoBulkAll ds ≤ 1048576)
def OpenSpec.upto (s : _root_.Go.ChangeSpec) : _root_.Go.OpenSpec := { _root_.Go.OpenSpec.ofChange s with cond := some uptoSmall }

/-- 'sapperlaw02.CrcTails', WHERE WHAT IT READS IS OF BULK AT MOST 1048576: true; the input reads as it did. -/
def crcTailsUptoRow : OpenClaim := { program := "ytnofaodahcfldabdoor", sum := "97d3e0adb4d331e6ffcdb0eabc2fa6a9e0764adc0ba019c577a0fde291d69c38", func := "sapper/sapperlaw02.CrcTails", spec := "crcTails", named := ["sapper/crc.halves"], apart := false, laid := [("sapper/crc.halves", laid_sapper_crc_halves)], narrowed := true }
def CrcTailsUptoSaid : Prop := crcTailsUptoRow.holds Tryd.pinned (OpenSpec.upto crcTailsSpec)

/-- 'sapperlaw02.CrcFlips', WHERE WHAT IT READS IS OF BULK AT MOST 1048576: true; the input reads as it did. -/
def crcFlipsUptoRow : OpenClaim := { program := "ytnofaodahcfldabdoor", sum := "97d3e0adb4d331e6ffcdb0eabc2fa6a9e0764adc0ba019c577a0fde291d69c38", func := "sapper/sapperlaw02.CrcFlips", spec := "crcFlips", named := ["sapper/crc.halves"], apart := false, laid := [("sapper/crc.halves", laid_sapper_crc_halves)], narrowed := true }
def CrcFlipsUptoSaid : Prop := crcFlipsUptoRow.holds Tryd.pinned (OpenSpec.upto crcFlipsSpec)

/-- 'sapperlaw02.CrcThird', WHERE WHAT IT READS IS OF BULK AT MOST 1048576: true; the input reads as it did. -/
def crcThirdUptoRow : OpenClaim := { program := "ytnofaodahcfldabdoor", sum := "97d3e0adb4d331e6ffcdb0eabc2fa6a9e0764adc0ba019c577a0fde291d69c38", func := "sapper/sapperlaw02.CrcThird", spec := "crcThird", named := ["sapper/crc.halves"], apart := false, laid := [("sapper/crc.halves", laid_sapper_crc_halves)], narrowed := true }
def CrcThirdUptoSaid : Prop := crcThirdUptoRow.holds Tryd.pinned (OpenSpec.upto crcThirdSpec)

/-- 'sapperlaw02.CrcRuns', WHERE WHAT IT READS IS OF BULK AT MOST 1048576: true; the input reads as it did. -/
def crcRunsUptoRow : OpenClaim := { program := "ytnofaodahcfldabdoor", sum := "97d3e0adb4d331e6ffcdb0eabc2fa6a9e0764adc0ba019c577a0fde291d69c38", func := "sapper/sapperlaw02.CrcRuns", spec := "crcRuns", named := ["sapper/crc.halves"], apart := false, laid := [("sapper/crc.halves", laid_sapper_crc_halves)], narrowed := true }
def CrcRunsUptoSaid : Prop := crcRunsUptoRow.holds Tryd.pinned (OpenSpec.upto crcRunsSpec)

/-- 'sapperlaw02.CrcCuts', WHERE WHAT IT READS IS OF BULK AT MOST 1048576: true; the input reads as it did. -/
def crcCutsUptoRow : OpenClaim := { program := "ytnofaodahcfldabdoor", sum := "97d3e0adb4d331e6ffcdb0eabc2fa6a9e0764adc0ba019c577a0fde291d69c38", func := "sapper/sapperlaw02.CrcCuts", spec := "crcCuts", named := ["sapper/crc.halves"], apart := false, laid := [("sapper/crc.halves", laid_sapper_crc_halves)], narrowed := true }
def CrcCutsUptoSaid : Prop := crcCutsUptoRow.holds Tryd.pinned (OpenSpec.upto crcCutsSpec)

/-- 'sapperlaw02.CrcTurnsBack', WHERE WHAT IT READS IS OF BULK AT MOST 1048576: true; the input reads as it did. -/
def crcTurnsBackUptoRow : OpenClaim := { program := "ytnofaodahcfldabdoor", sum := "97d3e0adb4d331e6ffcdb0eabc2fa6a9e0764adc0ba019c577a0fde291d69c38", func := "sapper/sapperlaw02.CrcTurnsBack", spec := "crcTurnsBack", named := ["sapper/crc.halves"], apart := false, laid := [("sapper/crc.halves", laid_sapper_crc_halves)], narrowed := true }
def CrcTurnsBackUptoSaid : Prop := crcTurnsBackUptoRow.holds Tryd.pinned (OpenSpec.upto crcTurnsBackSpec)

end Rows
end Go.Proofs.YtnofaodahcfldabDoor
