import Derived.Test.YtmjlpfmacblcpaaDoorFlA
import Derived.Deep.RegionHeld3
import Derived.Lib.SmallJoins
import Derived.Deep.CutRange
import Derived.Deep.QuietTactic
import Derived.Test.YtmjlpfmacblcpaaDoorOpen
import Derived.WalkKit
import Derived.ProofKit
import Derived.OpenShut
import Derived.SizedLaws
import Derived.Deep.Slices
namespace Go.Proofs.YtmjlpfmacblcpaaDoor
open Go.ChangeShapes Go.WideShapes Go.ChangeAt Go.RowKit Go.Deep
set_option linter.unusedVariables false
set_option maxRecDepth 100000
theorem cells_in21 : Tryd.prog.cellsOf 3 = 1 := by kernel_rfl
theorem cells_sl21 : Tryd.prog.cellsOf 22 = 1 := by kernel_rfl
theorem cells_u821 : Tryd.prog.cellsOf 5 = 1 := by kernel_rfl
theorem slc21 {H : Type} {enc : TypeId × Value → H} {W : World} {k : Nat} {v : Value} {y : DataW H × List MemPlace} (g : DataW.trod enc Tryd.prog W 0 (fun _ => true) true k 22 [v] = some y) :
    ∃ (ba : Option Addr) (p : List Int) (bc : Nat), v = .slice ba p.length bc ∧ Seg W ba p ∧ p.length ≤ bc ∧ (ba = none → bc = 0) ∧ ((y.1 = .nil ∧ p.length = 0) ∨ ∃ elems spare, y.1 = .slice elems spare ∧ elems.length = p.length) := by
  obtain ⟨ba, bl, bc, rfl⟩ : ∃ ba bl bc, v = .slice ba bl bc := by
    rcases open_ints Tryd.underlying22 Tryd.underlying5 cells_u821 g with ⟨hcs, _⟩ | ⟨x, l, c, zs, hcs, _⟩
    · simp at hcs; exact ⟨_, _, _, hcs⟩
    · simp at hcs; exact ⟨_, _, _, hcs⟩
  have ht : DataW.Trod enc Tryd.prog W 0 (fun _ => true) true 22 (.slice ba bl bc) y.1 y.2 := ⟨k, by simpa [Value.cells] using g⟩
  obtain ⟨p, hp, hseg, hcap, hnil, hd⟩ := open_seg (k := .u8) (M := 255) Tryd.underlying22 Tryd.underlying5 cells_u821 (by decide) (fun n hn => bounds_u8 hn) ht
  subst hp
  exact ⟨ba, p, bc, rfl, hseg, hcap, hnil, hd⟩
end Go.Proofs.YtmjlpfmacblcpaaDoor
