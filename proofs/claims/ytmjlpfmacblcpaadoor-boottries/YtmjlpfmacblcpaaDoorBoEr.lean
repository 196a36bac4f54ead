import Derived.Test.YtmjlpfmacblcpaaDoorBoA
import Derived.Test.YtmjlpfmacblcpaaDoorRowX
import Derived.Laws.Rows
import Derived.Laws.Tables
namespace Go.Proofs.YtmjlpfmacblcpaaDoor
open Go.RowKit
set_option linter.unusedVariables false
set_option linter.unusedSimpArgs false
theorem results_ct25 {P : Program} {fn : Func} {p u : Tmp} {ty : TypeId} (h : fn.results = #[.cell p ty, .tmp u]) (tmps : Array Value) (w : World) (g : Nat) (t : TypeId) (cs : Array Value) (fr : Nat × Nat) (d : TypeDesc)
    (hp : tmps.getD p undef = .pointer (some ⟨g, 0, none⟩)) (hg : w.heap[g]? = some (.cells cs t fr))
    (hu : P.underlying ty = some d) (hd : (match d with | .struct _ | .array _ _ => true | _ => false) = true) (hi : (P.info? ty).map (·.size) = some cs.size) :
    (results fn tmps).run P w = .ok (.tuple #[.agg cs, tmps.getD u undef]) w := by
  have e : (results fn tmps).run P w = ((asAddr (tmps.getD p undef)).run P w).andThen fun a w₁ => ((loadVar ty a).run P w₁).andThen fun x w₂ => .ok (.tuple #[x, tmps.getD u undef]) w₂ := by
    simp only [results, h]
    simp [Sem.run_bind, Result.andThen]
  rw [e, hp]
  simp [asAddr, Result.andThen, run_loadVar_row w g t ty cs fr d hg hu hd hi]
theorem results_cct25 {P : Program} {fn : Func} {p q u : Tmp} {ty ty2 : TypeId} (h : fn.results = #[.cell p ty, .cell q ty2, .tmp u]) (tmps : Array Value) (w : World) (g g2 : Nat) (t t2 : TypeId) (cs cs2 : Array Value) (fr fr2 : Nat × Nat) (d d2 : TypeDesc)
    (hp : tmps.getD p undef = .pointer (some ⟨g, 0, none⟩)) (hg : w.heap[g]? = some (.cells cs t fr)) (hp2 : tmps.getD q undef = .pointer (some ⟨g2, 0, none⟩)) (hg2 : w.heap[g2]? = some (.cells cs2 t2 fr2))
    (hu : P.underlying ty = some d) (hd : (match d with | .struct _ | .array _ _ => true | _ => false) = true) (hi : (P.info? ty).map (·.size) = some cs.size)
    (hu2 : P.underlying ty2 = some d2) (hd2 : (match d2 with | .struct _ | .array _ _ => true | _ => false) = true) (hi2 : (P.info? ty2).map (·.size) = some cs2.size) :
    (results fn tmps).run P w = .ok (.tuple #[.agg cs, .agg cs2, tmps.getD u undef]) w := by
  have e : (results fn tmps).run P w = ((asAddr (tmps.getD p undef)).run P w).andThen fun a w₁ => ((loadVar ty a).run P w₁).andThen fun x w₂ => ((asAddr (tmps.getD q undef)).run P w₂).andThen fun a2 w₃ => ((loadVar ty2 a2).run P w₃).andThen fun x2 w₄ => .ok (.tuple #[x, x2, tmps.getD u undef]) w₄ := by
    simp only [results, h]
    simp [Sem.run_bind, Result.andThen]
  rw [e, hp]
  simp [asAddr, Result.andThen, run_loadVar_row w g t ty cs fr d hg hu hd hi, hp2, run_loadVar_row w g2 t2 ty2 cs2 fr2 d2 hg2 hu2 hd2 hi2]
theorem info_rc25 : (Tryd.prog.info? 63).map (·.size) = some 10 := by kernel_rfl
theorem info_im25 : (Tryd.prog.info? 61).map (·.size) = some 4 := by kernel_rfl
theorem info_rc25d : (Tryd.prog.info? 52).map (·.size) = some 10 := by kernel_rfl
theorem info_im25d : (Tryd.prog.info? 50).map (·.size) = some 4 := by kernel_rfl
theorem info_int25 : (Tryd.prog.info? 3).map (·.size) = some 1 := by kernel_rfl
theorem row_rc25 (r : Rc25) : r.cs.all (·.oneCell') = true := by first | kernel_rfl | (unfold Rc25.cs; simp [Value.oneCell'])
theorem row_im25 (r : Im25) : r.cs.all (·.oneCell') = true := by first | kernel_rfl | (unfold Im25.cs; simp [Value.oneCell'])
/-- A block written whole is what was written; all others are kept. -/
theorem set_row25 {w : World} {g : Nat} {cs cs0 : Array Value} {t : TypeId} {fr : Nat × Nat} (h : w.heap[g]? = some (.cells cs0 t fr)) : (w.setRow g cs).heap[g]? = some (.cells cs t fr) := setRow_heap w g _ cs _ _ h
theorem kp_row25 (W : World) (g : Nat) (cs : Array Value) : Kp (fun k => k = g) W (W.setRow g cs) := ⟨rfl, rfl, rfl, by simp [World.setRow], fun k _ hk => setRow_other W g k cs (by intro e; first | exact hk e | exact hk e.symm)⟩
theorem below_row25 {w W : World} {g : Nat} (h : Below w.heap.size w W) (hg : w.heap.size ≤ g) (cs : Array Value) : Below w.heap.size w (W.setRow g cs) :=
  h.trans ((kp_row25 W g cs).below (fun k e => by subst e; exact hg) h.size)
theorem old_row25 {W : World} {g k : Nat} (cs : Array Value) (h : k ≠ g) : (W.setRow g cs).heap[k]? = W.heap[k]? := setRow_other W g k cs (by intro e; first | exact h e | exact h e.symm)
theorem below_cell25 {w W : World} {g i : Nat} {v : Value} (h : Below w.heap.size w W) (hg : w.heap.size ≤ g) : Below w.heap.size w (W.setCell ⟨g, i, none⟩ v) :=
  h.trans ((Kp.set (S := fun k => k = g) rfl v).below (fun k e => by subst e; exact hg) h.size)
theorem free_row25 {W : World} {b : Nat} {cs : Array Value} {t : TypeId} (h : W.heap[b]? = some (.cells cs t (0, 0))) (i : Nat) : W.frozen? ⟨b, i, none⟩ = false := by simp [World.frozen?, h]
/-- An image of a record is written over. -/
theorem set_next25 {W : World} {b : Nat} {ty : TypeId} {q gs gv gz gm ns nv nz nm t a c d e : Int} (h : W.heap[b]? = some (.cells #[.int .i64 q, .int .i64 gs, .int .i64 gv, .int .i64 gz, .int .u32 gm, .int .i64 ns, .int .i64 nv, .int .i64 nz, .int .u32 nm, .int .i64 t] ty (0, 0))) :
    ((((W.setCell ⟨b, 5, none⟩ (.int .i64 a)).setCell ⟨b, 6, none⟩ (.int .i64 c)).setCell ⟨b, 7, none⟩ (.int .i64 d)).setCell ⟨b, 8, none⟩ (.int .u32 e)).heap[b]? = some (.cells #[.int .i64 q, .int .i64 gs, .int .i64 gv, .int .i64 gz, .int .u32 gm, .int .i64 a, .int .i64 c, .int .i64 d, .int .u32 e, .int .i64 t] ty (0, 0)) := by
  simp [World.setCell, Array.getElem?_modify, h]
theorem set_trial25 {W : World} {b : Nat} {ty : TypeId} {q gs gv gz gm ns nv nz nm t a : Int} (h : W.heap[b]? = some (.cells #[.int .i64 q, .int .i64 gs, .int .i64 gv, .int .i64 gz, .int .u32 gm, .int .i64 ns, .int .i64 nv, .int .i64 nz, .int .u32 nm, .int .i64 t] ty (0, 0))) :
    (W.setCell ⟨b, 9, none⟩ (.int .i64 a)).heap[b]? = some (.cells #[.int .i64 q, .int .i64 gs, .int .i64 gv, .int .i64 gz, .int .u32 gm, .int .i64 ns, .int .i64 nv, .int .i64 nz, .int .u32 nm, .int .i64 a] ty (0, 0)) := by
  simp [World.setCell, Array.getElem?_modify, h]
theorem old_cell25 {W : World} {g k i : Nat} {v : Value} (h : k ≠ g) : (W.setCell ⟨g, i, none⟩ v).heap[k]? = W.heap[k]? := by
  simp only [World.setCell, Array.getElem?_modify]
  rw [if_neg (fun e => h e.symm)]
end Go.Proofs.YtmjlpfmacblcpaaDoor
