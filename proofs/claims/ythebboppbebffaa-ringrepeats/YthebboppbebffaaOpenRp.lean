
import Derived.Test.YthebboppbebffaaOpenC
import Derived.Lib.SmallJoins
namespace Go.Proofs.Ythebboppbebffaa
open Go.ChangeShapes Go.WideShapes Go.ChangeAt Go.RowKit Go.Deep
set_option linter.unusedVariables false

/-- A Repeat by value: its four fields, and what its bytes weigh. -/
theorem open_repeat {H : Type} {enc : TypeId × Value → H} {W : World} {r : Reach} {b0 : Nat} {v : Value} {d : DataW H} {pl : List MemPlace}
    (hv : Value.okWide Try.prog W r b0 54 v) (h : DataW.Trod enc Try.prog W 0 (fun _ => true) true 54 v d pl) (hw : (d.weights Try.prog 54).all (· ≤ reachBytes) = true) :
    ∃ (s : Int) (pa : Option Addr) (p : List Int) (pc : Nat) (ds mn : Int), v = .agg #[.int .u64 s, .slice pa p.length pc, .int .u64 ds, .int .u64 mn] ∧ Seg W pa p ∧ p.length ≤ pc ∧ (pa = none → pc = 0) ∧ p.length ≤ 140737488351232 ∧
      0 ≤ s ∧ s ≤ 18446744073709551615 ∧ 0 ≤ ds ∧ ds ≤ 18446744073709551615 ∧ 0 ≤ mn ∧ mn ≤ 18446744073709551615 := by
  obtain ⟨u0, u1, u2, u3, y0, y1, y2, y3, mm, rfl, hd, _, t0, t1, t2, t3⟩ := Go.Joins.open_agg4 Try.underlying54 (by kernel_rfl) (by kernel_rfl) hv h
  obtain ⟨f0, e0, _, g0⟩ := DataW.trod_int Try.underlying49 t0
  obtain rfl : u0 = .int .u64 f0 := by simpa using e0
  obtain ⟨f2, e2, _, g2⟩ := DataW.trod_int Try.underlying49 t2
  obtain rfl : u2 = .int .u64 f2 := by simpa using e2
  obtain ⟨f3, e3, _, g3⟩ := DataW.trod_int Try.underlying49 t3
  obtain rfl : u3 = .int .u64 f3 := by simpa using e3
  obtain ⟨ba, bl, bc, rfl⟩ : ∃ ba bl bc, u1 = .slice ba bl bc := by
    rcases open_ints Try.underlying34 Try.underlying5 cells_u8C t1 with ⟨hcs, _⟩ | ⟨x, l, c, zs, hcs, _⟩
    · simp at hcs; exact ⟨_, _, _, hcs⟩
    · simp at hcs; exact ⟨_, _, _, hcs⟩
  have ht : DataW.Trod enc Try.prog W 0 (fun _ => true) true 34 (.slice ba bl bc) y1.1 y1.2 := ⟨mm, by simpa [Value.cells] using t1⟩
  obtain ⟨p, hp, hseg, hcap, hnil, hr⟩ := open_seg (k := .u8) (M := 255) Try.underlying34 Try.underlying5 cells_u8C (by decide) (fun n hn => bounds_u8 hn) ht
  subst hp
  have b0 := bounds_u64 g0
  have b2 := bounds_u64 g2
  have b3 := bounds_u64 g3
  refine ⟨f0, ba, p, bc, f2, f3, rfl, hseg, hcap, hnil, ?_, b0.1, by omega, b2.1, by omega, b3.1, by omega⟩
  rcases hr with ⟨hd1, h0⟩ | ⟨elems, sp, hd1, h0⟩
  · omega
  · have hm1 : (elems.length + sp.length) * Try.prog.bytesOf 5 ∈ d.weights Try.prog 54 := by
      rw [hd, hd1]
      simp [DataW.weights, DataW.weightsEach, Try.underlying54, Try.underlying34]
    have hm3 := List.all_eq_true.1 hw _ hm1
    rw [bytes_u8C] at hm3
    simp [reachBytes] at hm3
    omega
end Go.Proofs.Ythebboppbebffaa
