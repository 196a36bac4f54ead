
import Derived.Test.YtaipfcfmhdigfaaOpenT
namespace Go.Proofs.Ytaipfcfmhdigfaa
open Go.ChangeShapes Go.WideShapes Go.ChangeAt Go.RowKit Go.Deep
set_option linter.unusedVariables false
set_option maxRecDepth 100000

/-- A Price by value. -/
theorem open_price {H : Type} {enc : TypeId × Value → H} {W : World} {r : Reach} {b0 : Nat} {v : Value} {d : DataW H} {pl : List MemPlace}
    (hv : Value.okWide Try.prog W r b0 64 v) (h : DataW.Trod enc Try.prog W 0 (fun _ => true) true 64 v d pl) :
    ∃ x y z : Int, v = .agg #[.int .i64 x, .int .i64 y, .int .i64 z] := by
  obtain ⟨u0, u1, u2, y0, y1, y2, mm, rfl, _, _, t0, t1, t2⟩ := Go.Joins.open_agg3 Try.underlying64 (by kernel_rfl) (by kernel_rfl) hv h
  obtain ⟨f0, e0, _, g0⟩ := DataW.trod_int Try.underlying3 t0
  obtain rfl : u0 = .int .i64 f0 := by simpa using e0
  obtain ⟨f1, e1, _, g1⟩ := DataW.trod_int Try.underlying3 t1
  obtain rfl : u1 = .int .i64 f1 := by simpa using e1
  obtain ⟨f2, e2, _, g2⟩ := DataW.trod_int Try.underlying3 t2
  obtain rfl : u2 = .int .i64 f2 := by simpa using e2
  exact ⟨f0, f1, f2, rfl⟩
end Go.Proofs.Ytaipfcfmhdigfaa
