import Derived.WalkKit
import Derived.ProofKit
import Derived.OpenShut
import Derived.Laws.IdiomArrays
namespace Go.Proofs.YtnofaodahcfldabDoor
open Go.ChangeShapes Go.WideShapes Go.ChangeAt Go.RowKit
set_option linter.unusedVariables false

/-- An array of three numbers that came in. -/
theorem open_arr3 {H : Type} {enc : TypeId × Value → H} {P : Program} {W : World} {r : Reach} {base : Nat} {T e : TypeId} {v : Value} {d : DataW H} {p : List MemPlace}
    (hT : P.underlying T = some (.array 3 e)) (he : P.underlying e = some (.int .u64)) (ce : P.cellsOf e = 1) (cT : P.cellsOf T = 3)
    (hv : Value.okWide P W r base T v) (h : DataW.Trod enc P W 0 (fun _ => true) true T v d p) :
    ∃ a b c, v = .agg #[.int .u64 a, .int .u64 b, .int .u64 c] ∧ (Lit.int .u64 a).wf = true ∧ (Lit.int .u64 b).wf = true ∧ (Lit.int .u64 c).wf = true := by
  have hok : ∃ cs, v = .agg cs ∧ cs.size = P.cellsOf T := by
    unfold Value.okWide at hv
    rw [hT] at hv
    obtain ⟨cs, h1, h2, _⟩ := hv
    exact ⟨cs, h1, h2⟩
  obtain ⟨cs, rfl, hsz⟩ := hok
  rw [cT] at hsz
  obtain ⟨l⟩ := cs
  match l, hsz with
  | [c0, c1, c2], _ =>
    obtain ⟨fuel, hf⟩ := h
    obtain ⟨y0, y1, y2, n, _, t0, t1, t2⟩ := trod_array3 hT ce (show DataW.trod enc P W 0 (fun _ => true) true fuel T [c0, c1, c2] = _ from hf)
    obtain ⟨a, e0, _, g0⟩ := DataW.trod_int he t0
    obtain ⟨b, e1, _, g1⟩ := DataW.trod_int he t1
    obtain ⟨c, e2, _, g2⟩ := DataW.trod_int he t2
    simp only [List.cons.injEq, and_true] at e0 e1 e2
    subst e0 e1 e2
    exact ⟨a, b, c, rfl, g0, g1, g2⟩
end Go.Proofs.YtnofaodahcfldabDoor
