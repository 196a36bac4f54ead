import Derived.Test.YtmfpdchfofffeaaGreatDoorFq6
import Derived.Defers
import Derived.Recover
namespace Go.Proofs.YtmfpdchfofffeaaGreatDoor
open Go.RowKit Go.Shelf
set_option linter.unusedVariables false
set_option linter.unusedSimpArgs false
theorem results_ccc18 {P : Program} {fn : Func} {p q r : Tmp} {ty tz tv : TypeId} (h : fn.results = #[.cell p ty, .cell q tz, .cell r tv]) (tmps : Array Value) (w : World) (g : Nat) (t : TypeId) (cs : Array Value) (fr : Nat × Nat) (d : TypeDesc)
    (hp : tmps.getD p undef = .pointer (some ⟨g, 0, none⟩)) (hg : w.heap[g]? = some (.cells cs t fr))
    (hu : P.underlying ty = some d) (hd : (match d with | .struct _ | .array _ _ => true | _ => false) = true) (hi : (P.info? ty).map (·.size) = some cs.size)
    (g2 : Nat) (x : Value) (hq : tmps.getD q undef = .pointer (some ⟨g2, 0, none⟩)) (hx : (loadVar tz ⟨g2, 0, none⟩).run P w = .ok x w)
    (g3 : Nat) (y : Value) (hr : tmps.getD r undef = .pointer (some ⟨g3, 0, none⟩)) (hy : (loadVar tv ⟨g3, 0, none⟩).run P w = .ok y w) :
    (results fn tmps).run P w = .ok (.tuple #[.agg cs, x, y]) w := by
  have e : (results fn tmps).run P w = ((asAddr (tmps.getD p undef)).run P w).andThen fun a w₁ => ((loadVar ty a).run P w₁).andThen fun x w₂ => ((asAddr (tmps.getD q undef)).run P w₂).andThen fun a' w₃ => ((loadVar tz a').run P w₃).andThen fun x' w₄ => ((asAddr (tmps.getD r undef)).run P w₄).andThen fun a'' w₅ => ((loadVar tv a'').run P w₅).andThen fun x'' w₆ => .ok (.tuple #[x, x', x'']) w₆ := by
    simp only [results, h]
    simp [Sem.run_bind, Result.andThen]
  rw [e, hp, hq, hr]
  simp [asAddr, Result.andThen, run_loadVar_row w g t ty cs fr d hg hu hd hi, hx, hy]
end Go.Proofs.YtmfpdchfofffeaaGreatDoor
