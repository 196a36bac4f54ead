
import Derived.Test.YthefcmhmcgjcoaaPgM
import Derived.Test.YthefcmhmcgjcoaaOpen
import Derived.Test.YthefcmhmcgjcoaaOpenFl
import Derived.WalkKit
import Derived.ProofKit
import Derived.OpenShut
import Derived.Lib.SmallJoins
import Derived.Laws.IdiomArrays
namespace Go.Proofs.Ythefcmhmcgjcoaa
open Go.ChangeShapes Go.WideShapes Go.ChangeAt Go.RowKit
set_option linter.unusedVariables false
set_option maxRecDepth 100000

theorem cells_ui22 : Try.prog.cellsOf 53 = 1 := by kernel_rfl
theorem cells_bo22 : Try.prog.cellsOf 4 = 1 := by kernel_rfl
theorem cells_ar22 : Try.prog.cellsOf 32 = 2 := by kernel_rfl
theorem cells_dv22 : Try.prog.cellsOf 55 = 5 := by kernel_rfl
/-- Two slices in an array. -/
theorem trod_two22 {H : Type} {enc : TypeId × Value → H} {W : World} {fuel : Nat} {t e : TypeId} {c0 c1 : Value} {x : DataW H × List MemPlace} (ht : Try.prog.underlying t = some (.array 2 e)) (hce : Try.prog.cellsOf e = 1)
    (h : DataW.trod enc Try.prog W 0 (fun _ => true) true fuel t [c0, c1] = some x) :
    ∃ y0 y1 n, DataW.trod enc Try.prog W 0 (fun _ => true) true n e [c0] = some y0 ∧ DataW.trod enc Try.prog W 0 (fun _ => true) true n e [c1] = some y1 := by
  obtain ⟨xs, k, hx⟩ := DataW.trod_array ht h
  obtain ⟨_, _, _, hl, hf⟩ := hx
  match xs, hl with
  | [y0, y1], _ =>
    have g0 := hf 0 (by omega)
    have g1 := hf 1 (by omega)
    simp [hce] at g0 g1
    exact ⟨_, _, k, g0, g1⟩
/-- A device that came in. -/
theorem open_dev22 {H : Type} {enc : TypeId × Value → H} {W : World} {r : Reach} {b0 : Nat} {v : Value} {d : DataW H} {pl : List MemPlace}
    (hv : Value.okWide Try.prog W r b0 55 v) (h : DataW.Trod enc Try.prog W 0 (fun _ => true) true 55 v d pl) :
    ∃ s : Dv22, v = .agg #[.int .u64 (s.p : Int), .int .u64 (s.q : Int), .bool s.ac, .slice s.a0 s.l0.length s.k0, .slice s.a1 s.l1.length s.k1] ∧ Df22 W s := by
  obtain ⟨cs, rfl, hsz⟩ := okWide_struct Try.underlying55 hv
  rw [cells_dv22] at hsz
  obtain ⟨l⟩ := cs
  match l, hsz with
  | [u0, u1, u2, u3, u4], _ =>
    obtain ⟨fuel, hf⟩ := h
    obtain ⟨xs, kk, _, hd, _, hxl, hfl⟩ := DataW.trod_struct Try.underlying55 hf
    match xs, hxl with
    | [y0, y1, y2, y3], _ =>
      have g0 := hfl 0 _ rfl
      have g1 := hfl 1 _ rfl
      have g2 := hfl 2 _ rfl
      have g3 := hfl 3 _ rfl
      simp [cells_ui22, cells_bo22, cells_ar22, Value.cells] at g0 g1 g2 g3
      obtain ⟨V0, e0, _, w0⟩ := DataW.trod_int Try.underlying53 g0
      obtain ⟨V1, e1, _, w1⟩ := DataW.trod_int Try.underlying53 g1
      obtain ⟨V2, e2, _⟩ := DataW.trod_bool Try.underlying4 g2
      obtain ⟨z0, z1, n, t0, t1⟩ := trod_two22 Try.underlying32 cells_sl21 g3
      simp at e0 e1 e2
      subst e0 e1 e2
      obtain ⟨ba, p, bc, rfl, hs, hc, hn, _⟩ := slc21 t0
      obtain ⟨ba', p', bc', rfl, hs', hc', hn', _⟩ := slc21 t1
      have b0 := bounds_u64 w0
      have b1 := bounds_u64 w1
      refine ⟨⟨V0.toNat, V1.toNat, V2, ba, p, bc, ba', p', bc'⟩, ?_, ⟨hs, hs', hc, hc', hn, hn', ?_, ?_⟩⟩
      · show _ = Value.agg #[.int .u64 ((V0.toNat : Nat) : Int), .int .u64 ((V1.toNat : Nat) : Int), _, _, _]
        rw [show ((V0.toNat : Nat) : Int) = V0 by omega, show ((V1.toNat : Nat) : Int) = V1 by omega]
      · show V0.toNat < _; omega
      · show V1.toNat < _; omega
end Go.Proofs.Ythefcmhmcgjcoaa
