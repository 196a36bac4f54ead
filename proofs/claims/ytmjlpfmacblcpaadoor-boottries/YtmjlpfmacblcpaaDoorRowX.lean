import Derived.Test.YtmjlpfmacblcpaaDoorBtMem
import Derived.Laws.Rows
import Derived.Laws.Tables
import Derived.Deep.MidRow
namespace Go.Proofs.YtmjlpfmacblcpaaDoor
open Go.RowKit
set_option linter.unusedVariables false
set_option linter.unusedSimpArgs false
theorem modify_congr25 {α : Type} (a : Array α) (i : Nat) (f g : α → α) (x : α) (hx : a[i]? = some x) (h : f x = g x) : a.modify i f = a.modify i g := by
  apply Array.ext_getElem?
  intro j
  rw [Array.getElem?_modify, Array.getElem?_modify]
  by_cases e : i = j
  · subst e; simp [hx, h]
  · simp [e]
theorem setCell_row25 {w : World} {b i : Nat} {v : Value} {cs : Array Value} {t : TypeId} {fr : Nat × Nat} (h : w.heap[b]? = some (.cells cs t fr)) : w.setCell ⟨b, i, none⟩ v = w.setRow b (cs.setIfInBounds i v) := by
  unfold World.setCell World.setRow
  simp only
  congr 1
  exact modify_congr25 _ _ _ _ _ h (by simp)
theorem setRow_row25 {w : World} {b : Nat} {c c' : Array Value} : (w.setRow b c).setRow b c' = w.setRow b c' := by
  unfold World.setRow
  simp only
  congr 1
  apply Array.ext_getElem?
  intro j
  simp only [Array.getElem?_modify]
  by_cases e : b = j
  · subst e
    cases hh : w.heap[b]? with
    | none => simp
    | some o => cases o <;> simp
  · simp [e]
theorem setRow_self25 {w : World} {b : Nat} {c : Array Value} {t : TypeId} {fr : Nat × Nat} (h : w.heap[b]? = some (.cells c t fr)) : w.setRow b c = w := by
  obtain ⟨hp, tp, dr, os, ou⟩ := w
  simp only [World.setRow, World.mk.injEq, and_true, true_and]
  apply Array.ext_getElem?
  intro j
  rw [Array.getElem?_modify]
  by_cases e : b = j
  · subst e
    simp only at h
    simp [h]
  · simp [e]
/-- What is laid into a list from a place on. -/
def lay25 : List Value → Nat → List Value → List Value
  | c, _, [] => c
  | c, o, v :: r => lay25 (c.set o v) (o + 1) r
theorem setCells_row25 : ∀ (vs : List Value) (o : Nat) {w : World} {b : Nat} {cs : List Value} {t : TypeId} {fr : Nat × Nat}, w.heap[b]? = some (.cells cs.toArray t fr) → w.setCells b o vs = w.setRow b (lay25 cs o vs).toArray
  | [], o, w, b, cs, t, fr, h => (setRow_self25 h).symm
  | v :: r, o, w, b, cs, t, fr, h => by
    have e := setCell_row25 (i := o) (v := v) h
    show (w.setCell ⟨b, o, none⟩ v).setCells b (o + 1) r = _
    rw [e]
    have h2 : (w.setRow b (cs.toArray.setIfInBounds o v)).heap[b]? = some (.cells (cs.set o v).toArray t fr) := by
      have := setRow_heap w b _ (cs.toArray.setIfInBounds o v) _ _ h
      rw [this]; simp
    rw [setCells_row25 r (o + 1) h2, setRow_row25]
    rfl
theorem there25 {w : World} {b o n : Nat} {cs : Array Value} {t : TypeId} (h : w.heap[b]? = some (.cells cs t (0, 0))) (hn : o + n ≤ cs.size) : w.there b o n := fun j hj => by
  have e : cs[o + j]? = some cs[o + j] := Array.getElem?_eq_getElem (by omega)
  refine ⟨by simp [World.cell?, h, e], by simp [World.frozen?, h]⟩
theorem range25 {w : World} {b o : Nat} {cs : Array Value} {vs : List Value} {t : TypeId} {fr : Nat × Nat} (h : w.heap[b]? = some (.cells cs t fr)) (hv : ∀ j v, vs[j]? = some v → cs[o + j]? = some v) : w.rangeAt b o vs := fun j v hj => by
  simp [World.cell?, h, hv j v hj]
/-- A part of a row is written: the row, as a whole. -/
theorem wpList_part25 {P : Program} {ops : Array Oper} {rest : List Oper} {op : Oper} {a : Act} {w : World} {Q : Exit → Act → World → Prop} (hgd : op.guard = none) (ty : TypeId) (x y : Operand) (ho : op.op = .store ty x y)
    (b o : Nat) (cells : List Value) (hx : a.eval x = .pointer (some ⟨b, o, none⟩)) (hy : a.eval y = .agg cells.toArray) {cs : List Value} {t : TypeId} (hw : w.heap[b]? = some (.cells cs.toArray t (0, 0))) (hi : (P.info? ty).map (·.size) = some cells.length) (h1 : cells.toArray.all (·.oneCell') = true)
    (hn : o + cells.length ≤ cs.length) (c' : Array Value) (hc : (lay25 cs o cells).toArray = c') (h : wpList P ops Q rest (a.put op.dst undef) (w.setRow b c')) : wpList P ops Q (op :: rest) a w := by
  refine wpList_store_mid hgd ty x y ho b o cells.toArray hx hy (there25 hw (by simpa using hn)) (by simpa using hi) h1 ?_
  rw [List.toList_toArray, setCells_row25 cells o hw, hc]
  exact h
/-- The same of one number. -/
theorem wpList_cell25 {P : Program} {ops : Array Oper} {rest : List Oper} {op : Oper} {a : Act} {w : World} {Q : Exit → Act → World → Prop} (hgd : op.guard = none) (ty : TypeId) (x y : Operand) (ho : op.op = .store ty x y)
    (b o : Nat) (k : IntKind) (n : Int) (hx : a.eval x = .pointer (some ⟨b, o, none⟩)) (hy : a.eval y = .int k n) {cs : List Value} {t : TypeId} (hw : w.heap[b]? = some (.cells cs.toArray t (0, 0))) (hi : (P.info? ty).map (·.size) = some 1)
    (hn : o < cs.length) (c' : Array Value) (hc : (cs.set o (.int k n)).toArray = c') (h : wpList P ops Q rest (a.put op.dst undef) (w.setRow b c')) : wpList P ops Q (op :: rest) a w := by
  refine wpList_plain hgd fun K hK => ?_
  unfold Oper.wp execOp
  have e := run_storeCells_cells (P := P) b o [.int k n] 0 w (fun j hj => by simpa using (there25 (o := o) (n := 1) hw (by simp; omega) j (by simpa using hj)).1) (fun j hj => by simpa using (there25 (o := o) (n := 1) hw (by simp; omega) j (by simpa using hj)).2) (fun u hu => by simp at hu; rw [hu]; rfl)
  simp only [Nat.add_zero] at e
  have e2 : w.setCells b o [.int k n] = w.setRow b c' := by rw [setCells_row25 [.int k n] o hw]; rw [← hc]; rfl
  rw [e2] at e
  have e3 : (storeVar ty ⟨b, o, none⟩ (.int k n)).run P w = .ok () (w.setRow b c') := by
    cases hq : P.info? ty with
    | none => simp [hq] at hi
    | some i =>
      have hs : i.size = 1 := by simpa [hq] using hi
      simp [storeVar, sizeOf, typeInfo, hq, Value.cells, hs, e]
  simp only [ho, hx, hy, Instr.storeAt, Instr.sureAddr, Sem.run_bind, Sem.run_pure, Result.andThen_ok, e3]
  exact hK _ _ h
end Go.Proofs.YtmjlpfmacblcpaaDoor
