
import Derived.Test.YthebboppbebffaaOpenC
import Derived.Lib.SmallJoins
namespace Go.Proofs.Ythebboppbebffaa
open Go.ChangeShapes Go.WideShapes Go.ChangeAt Go.RowKit Go.Deep
set_option linter.unusedVariables false

/-- A Call by value: its four fields. -/
theorem open_callv {H : Type} {enc : TypeId × Value → H} {W : World} {r : Reach} {b0 : Nat} {v : Value} {d : DataW H} {pl : List MemPlace}
    (hv : Value.okWide Try.prog W r b0 36 v) (h : DataW.Trod enc Try.prog W 0 (fun _ => true) true 36 v d pl) :
    ∃ (k : Int) (pa : Option Addr) (pn pc : Nat) (ds mn : Int), v = .agg #[.int .i64 k, .slice pa pn pc, .int .i64 ds, .int .i64 mn] := by
  obtain ⟨u0, u1, u2, u3, y0, y1, y2, y3, mm, rfl, hd, _, t0, t1, t2, t3⟩ := Go.Joins.open_agg4 Try.underlying36 (by kernel_rfl) (by kernel_rfl) hv h
  obtain ⟨f0, e0, _, g0⟩ := DataW.trod_int Try.underlying3 t0
  obtain rfl : u0 = .int .i64 f0 := by simpa using e0
  obtain ⟨f2, e2, _, g2⟩ := DataW.trod_int Try.underlying3 t2
  obtain rfl : u2 = .int .i64 f2 := by simpa using e2
  obtain ⟨f3, e3, _, g3⟩ := DataW.trod_int Try.underlying3 t3
  obtain rfl : u3 = .int .i64 f3 := by simpa using e3
  obtain ⟨ba, bl, bc, rfl⟩ : ∃ ba bl bc, u1 = .slice ba bl bc := by
    rcases open_ints Try.underlying34 Try.underlying5 cells_u8C t1 with ⟨hcs, _⟩ | ⟨x, l, c, zs, hcs, _⟩
    · simp at hcs; exact ⟨_, _, _, hcs⟩
    · simp at hcs; exact ⟨_, _, _, hcs⟩
  exact ⟨f0, ba, bl, bc, f2, f3, rfl⟩
end Go.Proofs.Ythebboppbebffaa
