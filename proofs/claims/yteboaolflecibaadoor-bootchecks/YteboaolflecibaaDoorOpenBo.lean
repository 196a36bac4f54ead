import Derived.Test.YteboaolflecibaaDoorBoK
import Derived.Test.YteboaolflecibaaDoorOwnSeg
import Derived.WalkKit
import Derived.ProofKit
import Derived.OpenShut
import Derived.SizedLaws
import Derived.Lib.SmallJoins
namespace Go.Proofs.YteboaolflecibaaDoor
open Go.ChangeShapes Go.WideShapes Go.ChangeAt Go.RowKit
set_option linter.unusedVariables false
set_option maxRecDepth 100000
theorem cells_int25 : Tryd.prog.cellsOf 3 = 1 := by kernel_rfl
theorem cells_u3225 : Tryd.prog.cellsOf 23 = 1 := by kernel_rfl
theorem cells_im25 : Tryd.prog.cellsOf 25 = 4 := by kernel_rfl
theorem cells_rc25 : Tryd.prog.cellsOf 27 = 10 := by kernel_rfl
def Im25.wd (i : Im25) : Prop := 0 ≤ i.m ∧ i.m ≤ 4294967295
/-- A record by value that came in. -/
theorem open_rec25 {H : Type} {enc : TypeId × Value → H} {W : World} {r : Reach} {b0 : Nat} {v : Value} {d : DataW H} {pl : List MemPlace}
    (hv : Value.okWide Tryd.prog W r b0 27 v) (h : DataW.Trod enc Tryd.prog W 0 (fun _ => true) true 27 v d pl) :
    ∃ r : Rc25, v = .agg r.cs ∧ r.wd := by
  obtain ⟨cs, rfl, hsz⟩ := okWide_struct Tryd.underlying27 hv
  rw [cells_rc25] at hsz
  obtain ⟨l⟩ := cs
  match l, hsz with
  | [u0, u1, u2, u3, u4, u5, u6, u7, u8, u9], _ =>
    obtain ⟨fuel, hf⟩ := h
    obtain ⟨xs, kk, _, hd, _, hxl, hfl⟩ := DataW.trod_struct Tryd.underlying27 hf
    match xs, hxl with
    | [y0, y1, y2, y3], _ =>
      have g0 := hfl 0 _ rfl
      have g1 := hfl 1 _ rfl
      have g2 := hfl 2 _ rfl
      have g3 := hfl 3 _ rfl
      simp [cells_int25, cells_im25, Value.cells] at g0 g1 g2 g3
      obtain ⟨V0, e0, _, w0⟩ := DataW.trod_int Tryd.underlying3 g0
      obtain ⟨V9, e9, _, w9⟩ := DataW.trod_int Tryd.underlying3 g3
      obtain ⟨xa, ka, _, _, _, hal, hfa⟩ := DataW.trod_struct Tryd.underlying25 g1
      obtain ⟨xb, kb, _, _, _, hbl, hfb⟩ := DataW.trod_struct Tryd.underlying25 g2
      match xa, hal, xb, hbl with
      | [p0, p1, p2, p3], _, [q0, q1, q2, q3], _ =>
        have a0 := hfa 0 _ rfl
        have a1 := hfa 1 _ rfl
        have a2 := hfa 2 _ rfl
        have a3 := hfa 3 _ rfl
        have c0 := hfb 0 _ rfl
        have c1 := hfb 1 _ rfl
        have c2 := hfb 2 _ rfl
        have c3 := hfb 3 _ rfl
        simp [cells_int25, cells_u3225] at a0 a1 a2 a3 c0 c1 c2 c3
        obtain ⟨A0, ea0, _, _⟩ := DataW.trod_int Tryd.underlying3 a0
        obtain ⟨A1, ea1, _, _⟩ := DataW.trod_int Tryd.underlying3 a1
        obtain ⟨A2, ea2, _, _⟩ := DataW.trod_int Tryd.underlying3 a2
        obtain ⟨A3, ea3, _, wa3⟩ := DataW.trod_int Tryd.underlying23 a3
        obtain ⟨C0, ec0, _, _⟩ := DataW.trod_int Tryd.underlying3 c0
        obtain ⟨C1, ec1, _, _⟩ := DataW.trod_int Tryd.underlying3 c1
        obtain ⟨C2, ec2, _, _⟩ := DataW.trod_int Tryd.underlying3 c2
        obtain ⟨C3, ec3, _, wc3⟩ := DataW.trod_int Tryd.underlying23 c3
        (try simp at e0)
        (try simp at e9)
        (try simp at ea0)
        (try simp at ea1)
        (try simp at ea2)
        (try simp at ea3)
        (try simp at ec0)
        (try simp at ec1)
        (try simp at ec2)
        (try simp at ec3)
        subst e0 e9 ea0 ea1 ea2 ea3 ec0 ec1 ec2 ec3
        have b3 := bounds_u32 wa3
        have b4 := bounds_u32 wc3
        exact ⟨⟨V0, ⟨A0, A1, A2, A3⟩, ⟨C0, C1, C2, C3⟩, V9⟩, rfl, ⟨b3.1, by show A3 ≤ 4294967295; omega⟩, b4.1, by show C3 ≤ 4294967295; omega⟩
end Go.Proofs.YteboaolflecibaaDoor
