import Derived.Test.YteboaolflecibaaDoorBoA
import Derived.Test.YteboaolflecibaaDoorRowX
import Derived.Laws.Rows
import Derived.Laws.Tables
namespace Go.Proofs.YteboaolflecibaaDoor
open Go.RowKit
set_option linter.unusedVariables false
set_option linter.unusedSimpArgs false
theorem results_ct25 {P : Program} {fn : Func} {p u : Tmp} {ty : TypeId} (h : fn.results = #[.cell p ty, .tmp u]) (tmps : Array Value) (w : World) (g : Nat) (t : TypeId) (cs : Array Value) (fr : Nat × Nat) (d : TypeDesc)
    (hp : tmps.getD p undef = .pointer (some ⟨g, 0, none⟩)) (hg : w.heap[g]? = some (.cells cs t fr))
    (hu : P.underlying ty = some d) (hd : (match d with | .struct _ | .array _ _ => true | _ => false) = true) (hi : (P.info? ty).map (·.size) = some cs.size) :
    (results fn tmps).run P w = .ok (.tuple #[.agg cs, tmps.getD u undef]) w := by
  have e : (results fn tmps).run P w = ((asAddr (tmps.getD p undef)).run P w).andThen fun a w₁ => ((loadVar ty a).run P w₁).andThen fun x w₂ => .ok (.tuple #[x, tmps.getD u undef]) w₂ := by
    simp only [results, h]
    simp [Sem.run_bind, Result.andThen]
  rw [e, hp]
  simp [asAddr, Result.andThen, run_loadVar_row w g t ty cs fr d hg hu hd hi]
theorem info_rc25 : (Tryd.prog.info? 34).map (·.size) = some 10 := by kernel_rfl
theorem info_im25 : (Tryd.prog.info? 32).map (·.size) = some 4 := by kernel_rfl
theorem info_rc25d : (Tryd.prog.info? 27).map (·.size) = some 10 := by kernel_rfl
theorem row_rc25 (r : Rc25) : r.cs.all (·.oneCell') = true := by first | kernel_rfl | (unfold Rc25.cs; simp [Value.oneCell'])
/-- A block written whole is what was written; all others are kept. -/
theorem set_row25 {w : World} {g : Nat} {cs cs0 : Array Value} {t : TypeId} {fr : Nat × Nat} (h : w.heap[g]? = some (.cells cs0 t fr)) : (w.setRow g cs).heap[g]? = some (.cells cs t fr) := setRow_heap w g _ cs _ _ h
theorem kp_row25 (W : World) (g : Nat) (cs : Array Value) : Kp (fun k => k = g) W (W.setRow g cs) := ⟨rfl, rfl, rfl, by simp [World.setRow], fun k _ hk => setRow_other W g k cs (by intro e; first | exact hk e | exact hk e.symm)⟩
theorem below_row25 {w W : World} {g : Nat} (h : Below w.heap.size w W) (hg : w.heap.size ≤ g) (cs : Array Value) : Below w.heap.size w (W.setRow g cs) :=
  h.trans ((kp_row25 W g cs).below (fun k e => by subst e; exact hg) h.size)
theorem old_row25 {W : World} {g k : Nat} (cs : Array Value) (h : k ≠ g) : (W.setRow g cs).heap[k]? = W.heap[k]? := setRow_other W g k cs (by intro e; first | exact h e | exact h e.symm)
theorem free_row25 {W : World} {b : Nat} {cs : Array Value} {t : TypeId} (h : W.heap[b]? = some (.cells cs t (0, 0))) (i : Nat) : W.frozen? ⟨b, i, none⟩ = false := by simp [World.frozen?, h]
end Go.Proofs.YteboaolflecibaaDoor
