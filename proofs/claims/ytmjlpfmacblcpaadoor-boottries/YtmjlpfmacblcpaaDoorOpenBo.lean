import Derived.Test.YtmjlpfmacblcpaaDoorBoK
import Derived.Test.YtmjlpfmacblcpaaDoorOpen
import Derived.WalkKit
import Derived.ProofKit
import Derived.OpenShut
import Derived.Lib.SmallJoins
namespace Go.Proofs.YtmjlpfmacblcpaaDoor
open Go.ChangeShapes Go.WideShapes Go.ChangeAt Go.RowKit
set_option linter.unusedVariables false
set_option maxRecDepth 100000
theorem cells_int25 : Tryd.prog.cellsOf 3 = 1 := by kernel_rfl
theorem cells_u3225 : Tryd.prog.cellsOf 48 = 1 := by kernel_rfl
theorem cells_im25 : Tryd.prog.cellsOf 50 = 4 := by kernel_rfl
theorem cells_rc25 : Tryd.prog.cellsOf 52 = 10 := by kernel_rfl
def Im25.wd (i : Im25) : Prop := 0 ≤ i.m ∧ i.m ≤ 4294967295
/-- An image by value that came in. -/
theorem open_img25 {H : Type} {enc : TypeId × Value → H} {W : World} {r : Reach} {b0 : Nat} {v : Value} {d : DataW H} {pl : List MemPlace}
    (hv : Value.okWide Tryd.prog W r b0 50 v) (h : DataW.Trod enc Tryd.prog W 0 (fun _ => true) true 50 v d pl) :
    ∃ i : Im25, v = .agg i.cs ∧ i.wd := by
  obtain ⟨cs, rfl, hsz⟩ := okWide_struct Tryd.underlying50 hv
  rw [cells_im25] at hsz
  obtain ⟨l⟩ := cs
  match l, hsz with
  | [u0, u1, u2, u3], _ =>
    obtain ⟨fuel, hf⟩ := h
    obtain ⟨xs, kk, _, hd, _, hxl, hfl⟩ := DataW.trod_struct Tryd.underlying50 hf
    match xs, hxl with
    | [y0, y1, y2, y3], _ =>
      have g0 := hfl 0 _ rfl
      have g1 := hfl 1 _ rfl
      have g2 := hfl 2 _ rfl
      have g3 := hfl 3 _ rfl
      simp [cells_int25, cells_u3225, Value.cells] at g0 g1 g2 g3
      obtain ⟨V0, e0, _, w0⟩ := DataW.trod_int Tryd.underlying3 g0
      obtain ⟨V1, e1, _, w1⟩ := DataW.trod_int Tryd.underlying3 g1
      obtain ⟨V2, e2, _, w2⟩ := DataW.trod_int Tryd.underlying3 g2
      obtain ⟨V3, e3, _, w3⟩ := DataW.trod_int Tryd.underlying48 g3
      (try simp at e0)
      (try simp at e1)
      (try simp at e2)
      (try simp at e3)
      subst e0 e1 e2 e3
      have b3 := bounds_u32 w3
      exact ⟨⟨V0, V1, V2, V3⟩, rfl, b3.1, by show V3 ≤ 4294967295; omega⟩
end Go.Proofs.YtmjlpfmacblcpaaDoor
