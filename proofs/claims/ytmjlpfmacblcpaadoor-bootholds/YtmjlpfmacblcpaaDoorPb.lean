import Derived.Test.YtmjlpfmacblcpaaDoorPa
import Derived.ScopeJumps
import Derived.Laws.EntriesVeiled
import Derived.Laws.Rows
import Derived.Laws.Tables
import Derived.Deep.MidRow
import Derived.RangeFuncNested
import Derived.RangeFuncBound
import Derived.RangeFuncCalls
import Derived.RangeFuncLeaves
import Derived.Shelf.Abstract
import Derived.WalkKit
import Derived.OwnWalkIn
import Derived.TacticsInMore
import Derived.LoopNIn
import Derived.LoopIn
import Derived.Test.YtmjlpfmacblcpaaDoorProg
import Derived.StillTailTactics
import Derived.OrdersIn
import Derived.OrdersHeld
import Derived.Deep.RegionHeld
import Derived.Maps.OwnSet
import Derived.DeepKeys4
import Derived.WideKeyPair
namespace Go.Proofs.YtmjlpfmacblcpaaDoor
open Go.RowKit
set_option linter.unusedVariables false
set_option linter.unusedSimpArgs false
theorem cell25 {W : World} {b k : Nat} {cs : Array Value} {t : TypeId} {v : Value} (h : W.heap[b]? = some (.cells cs t (0, 0))) (hk : cs[k]? = some v) : W.cell? ⟨b, k, none⟩ = some v := by simp [World.cell?, h, hk]
def no25 : Im25 := ⟨0, 0, 0, 0⟩
def zr25 : Rc25 := ⟨0, no25, no25, 0⟩
/-- An image may be, its version not below the least. -/
def Im25.may (i : Im25) (l : Int) : Prop := (i.s = 0 ∨ i.s = 1) ∧ l ≤ i.v ∧ i.v ≤ 2147483647 ∧ 0 ≤ i.z ∧ i.z ≤ 16777216
instance (i : Im25) (l : Int) : Decidable (i.may l) := by unfold Im25.may; infer_instance
def Rc25.may (r : Rc25) : Prop := (1 ≤ r.q ∧ r.q ≤ 1152921504606846976) ∧ (0 ≤ r.t ∧ r.t ≤ 15) ∧ r.g.may 1 ∧ ((r.n = no25 ∧ r.t = 0) ∨ (r.n ≠ no25 ∧ r.n.may r.g.v ∧ r.n.s ≠ r.g.s))
instance (r : Rc25) : Decidable r.may := by unfold Rc25.may; infer_instance
def ck25 (r : Rc25) : Int := if r.may then 0 else 250
set_option maxRecDepth 100000 in
set_option maxHeartbeats 4000000 in
theorem pmay25 (i : Im25) (l : Int) (w : World) : Calls Tryd.prog 82 #[.agg i.cs, .int .i64 l] w fun e w' => e = .returned (.bool (decide (i.may l))) ∧ Below w.heap.size w w' := by
  have HB : Hid (decide (i.may l) = true ↔ (i.s = 0 ∨ i.s = 1) ∧ l ≤ i.v ∧ i.v ≤ 2147483647 ∧ 0 ≤ i.z ∧ i.z ≤ 16777216) := decide_eq_true_iff
  generalize decide (i.may l) = B at *
  obtain ⟨s, v, z, m⟩ := i
  unfold Im25.cs
  simp only at *
  go_enter Tryd.func82, Tryd.ntmps82
  go_wp2
  all_goals go_ret
  all_goals refine ⟨?_, (Below.refl _ _).alloc (Nat.le_refl _) _⟩
  all_goals show Ending.returned (.bool _) = _
  all_goals congr 2
  all_goals rw [Bool.eq_iff_iff, HB.out]
  all_goals simp only [decide_eq_true_eq, Bool.false_eq_true, false_iff, iff_false, true_iff, iff_true, reduceCtorEq, eq_self_iff_true]
  all_goals omega
/-- What stands behind Check's label. -/
def Jm25 (w : World) (no : Prop) (a : Act) (W : World) : Prop := a.tmps.size = 48 ∧ a.defers = [] ∧ Below w.heap.size w W ∧ no
/-- A record in memory: its cells. -/
theorem cells25 {W : World} {b : Nat} {ty : TypeId} {q t : Int} {g n : Im25} (h : W.heap[b]? = some (.cells #[.int .i64 q, .int .i64 g.s, .int .i64 g.v, .int .i64 g.z, .int .u32 g.m, .int .i64 n.s, .int .i64 n.v, .int .i64 n.z, .int .u32 n.m, .int .i64 t] ty (0, 0))) :
    W.cell? ⟨b, 0, none⟩ = some (.int .i64 q) ∧ W.cell? ⟨b, 1, none⟩ = some (.int .i64 g.s) ∧ W.cell? ⟨b, 2, none⟩ = some (.int .i64 g.v) ∧ W.cell? ⟨b, 3, none⟩ = some (.int .i64 g.z) ∧ W.cell? ⟨b, 4, none⟩ = some (.int .u32 g.m) ∧ W.cell? ⟨b, 5, none⟩ = some (.int .i64 n.s) ∧ W.cell? ⟨b, 6, none⟩ = some (.int .i64 n.v) ∧ W.cell? ⟨b, 7, none⟩ = some (.int .i64 n.z) ∧ W.cell? ⟨b, 8, none⟩ = some (.int .u32 n.m) ∧ W.cell? ⟨b, 9, none⟩ = some (.int .i64 t) := 
  ⟨cell25 h rfl, cell25 h rfl, cell25 h rfl, cell25 h rfl, cell25 h rfl, cell25 h rfl, cell25 h rfl, cell25 h rfl, cell25 h rfl, cell25 h rfl⟩
set_option maxRecDepth 100000 in
set_option maxHeartbeats 8000000 in
theorem pcheck25 (r : Rc25) (w : World) : Calls Tryd.prog 36 #[.agg r.cs] w fun e w' => e = .returned (.int .i64 (ck25 r)) ∧ Below w.heap.size w w' := by
  obtain ⟨q, g, n, t⟩ := r
  unfold Rc25.cs
  simp only
  obtain ⟨wA, hwA⟩ : ∃ wA, wA = w.alloc (.cells #[.int .i64 q, .int .i64 g.s, .int .i64 g.v, .int .i64 g.z, .int .u32 g.m, .int .i64 n.s, .int .i64 n.v, .int .i64 n.z, .int .u32 n.m, .int .i64 t] 63) := ⟨_, rfl⟩
  have HWA : Hid (w.alloc (.cells #[.int .i64 q, .int .i64 g.s, .int .i64 g.v, .int .i64 g.z, .int .u32 g.m, .int .i64 n.s, .int .i64 n.v, .int .i64 n.z, .int .u32 n.m, .int .i64 t] 63) = wA) := hwA.symm
  have bA : Below w.heap.size w wA := by rw [hwA]; exact (Below.refl _ _).alloc (Nat.le_refl _) _
  have qA : wA.heap[w.heap.size]? = some (.cells #[.int .i64 q, .int .i64 g.s, .int .i64 g.v, .int .i64 g.z, .int .u32 g.m, .int .i64 n.s, .int .i64 n.v, .int .i64 n.z, .int .u32 n.m, .int .i64 t] 63 (0, 0)) := by rw [hwA]; exact heap_alloc_new _ _
  have HE : Hid (∀ W, (binOp .eql 61 (.agg #[.int .i64 n.s, .int .i64 n.v, .int .i64 n.z, .int .u32 n.m]) (.agg #[.int .i64 0, .int .i64 0, .int .i64 0, .int .u32 0])).run Tryd.prog W = .ok (.bool (decide (n = no25))) W) := fun W => bei25 n no25 W
  have HQ : Hid (∀ V, Below wA.heap.size wA V → V.heap[w.heap.size]? = some (.cells #[.int .i64 q, .int .i64 g.s, .int .i64 g.v, .int .i64 g.z, .int .u32 g.m, .int .i64 n.s, .int .i64 n.v, .int .i64 n.z, .int .u32 n.m, .int .i64 t] 63 (0, 0))) := fun V hV => (hV.block _ (Array.getElem?_eq_some_iff.1 qA).1).trans qA
  have HA : Hid (Below w.heap.size w wA) := bA
  clear hwA bA qA
  go_enter Tryd.func36, Tryd.ntmps36
  go_wp2_with fail
  rw [HWA.out]
  refine wp_scope_jumps 0 (Jm25 w (¬ (Rc25.mk q g n t).may)) (fun _ _ => 0) rfl ?_ ?_
  rotate_left
  · rintro a W ⟨h1, h2, h3, h4⟩
    obtain ⟨T, ds⟩ := a
    simp only at h1 h2
    subst h2
    go_wp2
    simp only [Exit.jump]
    go_ret
    refine ⟨?_, h3⟩
    rw [ck25, if_neg h4]
    simp [h1]
  · obtain ⟨c0, c1, c2, c3, c4, c5, c6, c7, c8, c9⟩ := cells25 (HQ.out wA (Below.refl _ _))
    by_cases h1 : q < 1
    · go_wp2
      go_step3
      exact ⟨rfl, rfl, rfl, HA.out, fun h => by have x : 1 ≤ q := h.1.1; omega⟩
    by_cases h2 : 1152921504606846976 < q
    · go_wp2
      go_step3
      exact ⟨rfl, rfl, rfl, HA.out, fun h => by have x : q ≤ 1152921504606846976 := h.1.2; omega⟩
    by_cases h3 : t < 0
    · go_wp2
      go_step3
      exact ⟨rfl, rfl, rfl, HA.out, fun h => by have x : 0 ≤ t := h.2.1.1; omega⟩
    by_cases h4 : 15 < t
    · go_wp2
      go_step3
      exact ⟨rfl, rfl, rfl, HA.out, fun h => by have x : t ≤ 15 := h.2.1.2; omega⟩
    have H14 : Hid ((1 ≤ q ∧ q ≤ 1152921504606846976) ∧ (0 ≤ t ∧ t ≤ 15)) := ⟨⟨by omega, by omega⟩, by omega, by omega⟩
    go_wp2_with fail
    refine (pmay25 g 1 wA).mono ?_
    rintro e1 w1 ⟨rfl, b1⟩
    have B1 : Hid (Below wA.heap.size wA w1) := b1
    clear c0 c1 c2 c3 c4 c5 c6 c7 c8 c9 h1 h2 b1
    obtain ⟨c0, c1, c2, c3, c4, c5, c6, c7, c8, c9⟩ := cells25 (HQ.out w1 B1.out)
    by_cases hg : g.may 1
    rotate_left
    · rw [decide_eq_false hg]
      go_wp2
      go_step3
      exact ⟨rfl, rfl, rfl, HA.out.trans (B1.out.mono HA.out.size), fun h => hg h.2.2.1⟩
    have HG : Hid (g.may 1) := hg
    rw [decide_eq_true hg]
    have E1 := HE.out w1
    by_cases hn : n = no25
    · rw [decide_eq_true hn] at E1
      have HN : Hid (n = no25) := hn
      by_cases h5 : 0 < t
      · clear hn hg
        go_wp2_with (refine wpList_bin25 rfl .eql 61 (.tmp 26) (.tmp 27) 61 rfl rfl rfl egi25 E1 ?_)
        go_step3
        exact ⟨rfl, rfl, rfl, HA.out.trans (B1.out.mono HA.out.size), fun h => h.2.2.2.elim (fun x => by have y : t = 0 := x.2; omega) (fun x => x.1 HN.out)⟩
      · have h6 : t = 0 := by omega
        clear hn hg
        go_wp2_with (refine wpList_bin25 rfl .eql 61 (.tmp 26) (.tmp 27) 61 rfl rfl rfl egi25 E1 ?_)
        simp only [Exit.jump]
        go_ret
        have hm : (Rc25.mk q g n t).may := ⟨H14.out.1, H14.out.2, HG.out, .inl ⟨HN.out, h6⟩⟩
        exact ⟨by rw [ck25, if_pos hm]; rfl, HA.out.trans (B1.out.mono HA.out.size)⟩
    rw [decide_eq_false hn] at E1
    have HN : Hid (n ≠ no25) := hn
    clear hn hg
    go_wp2_with (refine wpList_bin25 rfl .eql 61 (.tmp 26) (.tmp 27) 61 rfl rfl rfl egi25 E1 ?_)
    refine (pmay25 n g.v w1).mono ?_
    rintro e2 w2 ⟨rfl, b2⟩
    have B2 : Hid (Below wA.heap.size wA w2) := B1.out.trans (b2.mono B1.out.size)
    clear c0 c1 c2 c3 c4 c5 c6 c7 c8 c9 b2 E1
    obtain ⟨c0, c1, c2, c3, c4, c5, c6, c7, c8, c9⟩ := cells25 (HQ.out w2 B2.out)
    by_cases hm : n.may g.v
    rotate_left
    · rw [decide_eq_false hm]
      go_wp2
      go_step3
      exact ⟨rfl, rfl, rfl, HA.out.trans (B2.out.mono HA.out.size), fun h => h.2.2.2.elim (fun x => HN.out x.1) (fun x => hm x.2.1)⟩
    have HMM : Hid (n.may g.v) := hm
    rw [decide_eq_true hm]
    clear hm
    by_cases hs : n.s = g.s
    · go_wp2
      go_step3
      exact ⟨rfl, rfl, rfl, HA.out.trans (B2.out.mono HA.out.size), fun h => h.2.2.2.elim (fun x => HN.out x.1) (fun x => x.2.2 hs)⟩
    · go_wp2
      simp only [Exit.jump]
      go_ret
      have hm : (Rc25.mk q g n t).may := ⟨H14.out.1, H14.out.2, HG.out, .inr ⟨HN.out, HMM.out, hs⟩⟩
      exact ⟨by rw [ck25, if_pos hm]; rfl, HA.out.trans (B2.out.mono HA.out.size)⟩
end Go.Proofs.YtmjlpfmacblcpaaDoor

namespace Go.Proofs.YtmjlpfmacblcpaaDoor
open Go.RowKit
set_option linter.unusedVariables false
set_option linter.unusedSimpArgs false
theorem modify_congr25 {α : Type} (a : Array α) (i : Nat) (f g : α → α) (x : α) (hx : a[i]? = some x) (h : f x = g x) : a.modify i f = a.modify i g := by
  apply Array.ext_getElem?
  intro j
  rw [Array.getElem?_modify, Array.getElem?_modify]
  by_cases e : i = j
  · subst e; simp [hx, h]
  · simp [e]
theorem setCell_row25 {w : World} {b i : Nat} {v : Value} {cs : Array Value} {t : TypeId} {fr : Nat × Nat} (h : w.heap[b]? = some (.cells cs t fr)) : w.setCell ⟨b, i, none⟩ v = w.setRow b (cs.setIfInBounds i v) := by
  unfold World.setCell World.setRow
  simp only
  congr 1
  exact modify_congr25 _ _ _ _ _ h (by simp)
theorem setRow_row25 {w : World} {b : Nat} {c c' : Array Value} : (w.setRow b c).setRow b c' = w.setRow b c' := by
  unfold World.setRow
  simp only
  congr 1
  apply Array.ext_getElem?
  intro j
  simp only [Array.getElem?_modify]
  by_cases e : b = j
  · subst e
    cases hh : w.heap[b]? with
    | none => simp
    | some o => cases o <;> simp
  · simp [e]
theorem setRow_self25 {w : World} {b : Nat} {c : Array Value} {t : TypeId} {fr : Nat × Nat} (h : w.heap[b]? = some (.cells c t fr)) : w.setRow b c = w := by
  obtain ⟨hp, tp, dr, os, ou⟩ := w
  simp only [World.setRow, World.mk.injEq, and_true, true_and]
  apply Array.ext_getElem?
  intro j
  rw [Array.getElem?_modify]
  by_cases e : b = j
  · subst e
    simp only at h
    simp [h]
  · simp [e]
/-- What is laid into a list from a place on. -/
def lay25 : List Value → Nat → List Value → List Value
  | c, _, [] => c
  | c, o, v :: r => lay25 (c.set o v) (o + 1) r
theorem setCells_row25 : ∀ (vs : List Value) (o : Nat) {w : World} {b : Nat} {cs : List Value} {t : TypeId} {fr : Nat × Nat}, w.heap[b]? = some (.cells cs.toArray t fr) → w.setCells b o vs = w.setRow b (lay25 cs o vs).toArray
  | [], o, w, b, cs, t, fr, h => (setRow_self25 h).symm
  | v :: r, o, w, b, cs, t, fr, h => by
    have e := setCell_row25 (i := o) (v := v) h
    show (w.setCell ⟨b, o, none⟩ v).setCells b (o + 1) r = _
    rw [e]
    have h2 : (w.setRow b (cs.toArray.setIfInBounds o v)).heap[b]? = some (.cells (cs.set o v).toArray t fr) := by
      have := setRow_heap w b _ (cs.toArray.setIfInBounds o v) _ _ h
      rw [this]; simp
    rw [setCells_row25 r (o + 1) h2, setRow_row25]
    rfl
theorem there25 {w : World} {b o n : Nat} {cs : Array Value} {t : TypeId} (h : w.heap[b]? = some (.cells cs t (0, 0))) (hn : o + n ≤ cs.size) : w.there b o n := fun j hj => by
  have e : cs[o + j]? = some cs[o + j] := Array.getElem?_eq_getElem (by omega)
  refine ⟨by simp [World.cell?, h, e], by simp [World.frozen?, h]⟩
theorem range25 {w : World} {b o : Nat} {cs : Array Value} {vs : List Value} {t : TypeId} {fr : Nat × Nat} (h : w.heap[b]? = some (.cells cs t fr)) (hv : ∀ j v, vs[j]? = some v → cs[o + j]? = some v) : w.rangeAt b o vs := fun j v hj => by
  simp [World.cell?, h, hv j v hj]
/-- A part of a row is written: the row, as a whole. -/
theorem wpList_part25 {P : Program} {ops : Array Oper} {rest : List Oper} {op : Oper} {a : Act} {w : World} {Q : Exit → Act → World → Prop} (hgd : op.guard = none) (ty : TypeId) (x y : Operand) (ho : op.op = .store ty x y)
    (b o : Nat) (cells : List Value) (hx : a.eval x = .pointer (some ⟨b, o, none⟩)) (hy : a.eval y = .agg cells.toArray) {cs : List Value} {t : TypeId} (hw : w.heap[b]? = some (.cells cs.toArray t (0, 0))) (hi : (P.info? ty).map (·.size) = some cells.length) (h1 : cells.toArray.all (·.oneCell') = true)
    (hn : o + cells.length ≤ cs.length) (c' : Array Value) (hc : (lay25 cs o cells).toArray = c') (h : wpList P ops Q rest (a.put op.dst undef) (w.setRow b c')) : wpList P ops Q (op :: rest) a w := by
  refine wpList_store_mid hgd ty x y ho b o cells.toArray hx hy (there25 hw (by simpa using hn)) (by simpa using hi) h1 ?_
  rw [List.toList_toArray, setCells_row25 cells o hw, hc]
  exact h
/-- The same of one number. -/
theorem wpList_cell25 {P : Program} {ops : Array Oper} {rest : List Oper} {op : Oper} {a : Act} {w : World} {Q : Exit → Act → World → Prop} (hgd : op.guard = none) (ty : TypeId) (x y : Operand) (ho : op.op = .store ty x y)
    (b o : Nat) (k : IntKind) (n : Int) (hx : a.eval x = .pointer (some ⟨b, o, none⟩)) (hy : a.eval y = .int k n) {cs : List Value} {t : TypeId} (hw : w.heap[b]? = some (.cells cs.toArray t (0, 0))) (hi : (P.info? ty).map (·.size) = some 1)
    (hn : o < cs.length) (c' : Array Value) (hc : (cs.set o (.int k n)).toArray = c') (h : wpList P ops Q rest (a.put op.dst undef) (w.setRow b c')) : wpList P ops Q (op :: rest) a w := by
  refine wpList_plain hgd fun K hK => ?_
  unfold Oper.wp execOp
  have e := run_storeCells_cells (P := P) b o [.int k n] 0 w (fun j hj => by simpa using (there25 (o := o) (n := 1) hw (by simp; omega) j (by simpa using hj)).1) (fun j hj => by simpa using (there25 (o := o) (n := 1) hw (by simp; omega) j (by simpa using hj)).2) (fun u hu => by simp at hu; rw [hu]; rfl)
  simp only [Nat.add_zero] at e
  have e2 : w.setCells b o [.int k n] = w.setRow b c' := by rw [setCells_row25 [.int k n] o hw]; rw [← hc]; rfl
  rw [e2] at e
  have e3 : (storeVar ty ⟨b, o, none⟩ (.int k n)).run P w = .ok () (w.setRow b c') := by
    cases hq : P.info? ty with
    | none => simp [hq] at hi
    | some i =>
      have hs : i.size = 1 := by simpa [hq] using hi
      simp [storeVar, sizeOf, typeInfo, hq, Value.cells, hs, e]
  simp only [ho, hx, hy, Instr.storeAt, Instr.sureAddr, Sem.run_bind, Sem.run_pure, Result.andThen_ok, e3]
  exact hK _ _ h
end Go.Proofs.YtmjlpfmacblcpaaDoor

namespace Go.Proofs.YtmjlpfmacblcpaaDoor
open Go.RowKit
set_option linter.unusedVariables false
set_option linter.unusedSimpArgs false
theorem results_ct25 {P : Program} {fn : Func} {p u : Tmp} {ty : TypeId} (h : fn.results = #[.cell p ty, .tmp u]) (tmps : Array Value) (w : World) (g : Nat) (t : TypeId) (cs : Array Value) (fr : Nat × Nat) (d : TypeDesc)
    (hp : tmps.getD p undef = .pointer (some ⟨g, 0, none⟩)) (hg : w.heap[g]? = some (.cells cs t fr))
    (hu : P.underlying ty = some d) (hd : (match d with | .struct _ | .array _ _ => true | _ => false) = true) (hi : (P.info? ty).map (·.size) = some cs.size) :
    (results fn tmps).run P w = .ok (.tuple #[.agg cs, tmps.getD u undef]) w := by
  have e : (results fn tmps).run P w = ((asAddr (tmps.getD p undef)).run P w).andThen fun a w₁ => ((loadVar ty a).run P w₁).andThen fun x w₂ => .ok (.tuple #[x, tmps.getD u undef]) w₂ := by
    simp only [results, h]
    simp [Sem.run_bind, Result.andThen]
  rw [e, hp]
  simp [asAddr, Result.andThen, run_loadVar_row w g t ty cs fr d hg hu hd hi]
theorem info_rc25 : (Tryd.prog.info? 63).map (·.size) = some 10 := by kernel_rfl
theorem info_im25 : (Tryd.prog.info? 61).map (·.size) = some 4 := by kernel_rfl
theorem info_rc25d : (Tryd.prog.info? 52).map (·.size) = some 10 := by kernel_rfl
theorem info_int25 : (Tryd.prog.info? 3).map (·.size) = some 1 := by kernel_rfl
theorem row_rc25 (r : Rc25) : r.cs.all (·.oneCell') = true := by first | kernel_rfl | (unfold Rc25.cs; simp [Value.oneCell'])
/-- A block written whole is what was written; all others are kept. -/
theorem set_row25 {w : World} {g : Nat} {cs cs0 : Array Value} {t : TypeId} {fr : Nat × Nat} (h : w.heap[g]? = some (.cells cs0 t fr)) : (w.setRow g cs).heap[g]? = some (.cells cs t fr) := setRow_heap w g _ cs _ _ h
theorem kp_row25 (W : World) (g : Nat) (cs : Array Value) : Kp (fun k => k = g) W (W.setRow g cs) := ⟨rfl, rfl, rfl, by simp [World.setRow], fun k _ hk => setRow_other W g k cs (by intro e; first | exact hk e | exact hk e.symm)⟩
theorem below_row25 {w W : World} {g : Nat} (h : Below w.heap.size w W) (hg : w.heap.size ≤ g) (cs : Array Value) : Below w.heap.size w (W.setRow g cs) :=
  h.trans ((kp_row25 W g cs).below (fun k e => by subst e; exact hg) h.size)
theorem old_row25 {W : World} {g k : Nat} (cs : Array Value) (h : k ≠ g) : (W.setRow g cs).heap[k]? = W.heap[k]? := setRow_other W g k cs (by intro e; first | exact h e | exact h e.symm)
theorem free_row25 {W : World} {b : Nat} {cs : Array Value} {t : TypeId} (h : W.heap[b]? = some (.cells cs t (0, 0))) (i : Nat) : W.frozen? ⟨b, i, none⟩ = false := by simp [World.frozen?, h]
end Go.Proofs.YtmjlpfmacblcpaaDoor

namespace Go.Proofs.YtmjlpfmacblcpaaDoor
open Go.RowKit
set_option linter.unusedVariables false
open Go.RowKit Go.Shelf
open Go.RowKit Go.Shelf
open Go.RowKit Go.Shelf
attribute [local go_sem] Oper.semAt_some
/-- Below n₀ nothing has turned, but for blocks of E. -/
structure KeepE (n₀ : Nat) (E : Nat → Prop) (W W' : World) : Prop where
  size : W.heap.size ≤ W'.heap.size
  block : ∀ k, k < n₀ → ¬ E k → W'.heap[k]? = W.heap[k]?
theorem KeepE.refl (n₀ : Nat) (E : Nat → Prop) (W : World) : KeepE n₀ E W W := ⟨Nat.le_refl _, fun _ _ _ => rfl⟩
theorem KeepE.trans {n₀ : Nat} {E : Nat → Prop} {A B C : World} (h : KeepE n₀ E A B) (k : KeepE n₀ E B C) : KeepE n₀ E A C := ⟨Nat.le_trans h.size k.size, fun i hi hn => (k.block i hi hn).trans (h.block i hi hn)⟩
theorem KeepE.of_below {n₀ : Nat} {E : Nat → Prop} {A B : World} (h : Below n₀ A B) : KeepE n₀ E A B := ⟨h.size, fun k hk _ => h.block k hk⟩
theorem KeepE.cell {n₀ : Nat} {E : Nat → Prop} {A B : World} (h : KeepE n₀ E A B) {p : Addr} (hp : p.block < n₀) (hn : ¬ E p.block) : B.cell? p = A.cell? p := World.cell?_of_block (w := A) (h.block p.block hp hn)
theorem KeepE.set {n₀ : Nat} {E : Nat → Prop} {W : World} {b i : Nat} (hb : n₀ ≤ b ∨ E b) (v : Value) : KeepE n₀ E W (W.setCell ⟨b, i, none⟩ v) := by
  refine ⟨by simp, fun k hk hn => heap_setCell_other _ _ _ _ ?_⟩
  intro e
  have e' : k = b := e
  subst e'
  rcases hb with h | h
  · omega
  · exact hn h
end Go.Proofs.YtmjlpfmacblcpaaDoor

namespace Go.Proofs.YtmjlpfmacblcpaaDoor
open Go.RowKit Go.Shelf
set_option linter.unusedVariables false
section
variable {P : Program} {ops : Array Oper} {Q : Exit → Act → World → Prop} {md : Region.Mode} {S : World → Prop} {fin : Nat}
def wpAnyK (P : Program) (md : Region.Mode) (ops : Array Oper) (Q : Exit → Act → World → Prop) (S : World → Prop) (fin : Nat) : Nat → Array Bool → Act → World → Prop
  | 0, listed, a, w => Region.ready md ops listed = [] ∧ Q .normal a w
  | fuel + 1, listed, a, w =>
    (Region.ready md ops listed = [] → Q .normal a w) ∧
    ∀ i ∈ Region.ready md ops listed, wpOp P ops Q i (fun a' w' => (i ≠ fin → S w') ∧ wpAnyK P md ops Q S fin fuel (listed.setIfInBounds i true) a' w') a w
theorem wpAny_of_K : ∀ (fuel : Nat) (listed : Array Bool) (a : Act) (w : World), wpAnyK P md ops Q S fin fuel listed a w → wpAny P md ops Q fuel listed a w
  | 0, _, _, _, h => h
  | fuel + 1, _, _, _, h => ⟨h.1, fun i hi => wpOp_mono (fun a' w' h' => wpAny_of_K fuel _ a' w' h'.2) (h.2 i hi)⟩
theorem wpAnyK_first {i : Nat} {oi : Oper} {v : Value} (hi : ops[i]? = some oi) (hsel : ∀ (j : Nat) (o : Oper) cs b, ops[j]? = some o → o.op ≠ .select cs b)
    (hQ : ∀ c a w, Q (.panic c) (a.put oi.dst v) w → Q (.panic c) a w) (hfin : ∀ o, ops[fin]? = some o → ∃ e ∈ o.after, Region.binds md e = true ∧ e.on = i) :
    ∀ (fuel : Nat) (listed : Array Bool) (a : Act) (w : World),
      (∀ j oj, ops[j]? = some oj → j ≠ i → listed.getD j true = false → (∀ e ∈ oj.after, Region.binds md e = true → e.on ≠ i) → oi.apart ops oj = true) →
      i ∈ Region.ready md ops listed → YieldsIf P ops S oi v a → S w →
      wpAnyK P md ops Q S fin fuel (listed.setIfInBounds i true) (a.put oi.dst v) w → wpAnyK P md ops Q S fin (fuel + 1) listed a w := by
  intro fuel
  induction fuel with
  | zero =>
    intro listed a w _ hr hy hS H
    refine ⟨fun h => (by rw [h] at hr; cases hr), fun j hj => ?_⟩
    by_cases hji : j = i
    · subst hji; exact hy.wpOp hi hS ⟨fun _ => hS, H⟩
    · have := ready_mono hj hji
      rw [H.1] at this
      cases this
  | succ fuel ih =>
    intro listed a w hfree hr hy hS H
    refine ⟨fun h => (by rw [h] at hr; cases hr), fun j hj => ?_⟩
    by_cases hji : j = i
    · subst hji; exact hy.wpOp hi hS ⟨fun _ => hS, H⟩
    · have h1 := H.2 j (ready_mono hj hji)
      obtain ⟨hjun, oj, hoj, hall⟩ := mem_ready.1 hj
      have hnot : ∀ e ∈ oj.after, Region.binds md e = true → e.on ≠ i := fun e he hb heq => by
        have h1 := hall e he hb
        have h0 := (mem_ready.1 hr).1
        rw [heq] at h1
        rcases Nat.lt_or_ge i listed.size with h' | h'
        · simp [h'] at h0 h1; rw [h0] at h1; cases h1
        · simp [Array.getElem?_eq_none h'] at h1
      have hjf : j ≠ fin := by
        intro e
        subst e
        obtain ⟨e, he, hb, ho⟩ := hfin oj hoj
        exact hnot e he hb ho
      have h2 := wpOp_putIf hoj (hfree j oj hoj hji hjun hnot) (fun cs b => hsel i oi cs b hi) (fun cs b => hsel j oj cs b hoj) hQ hy h1
      have hfree' : ∀ k ok, ops[k]? = some ok → k ≠ i → (listed.setIfInBounds j true).getD k true = false →
          (∀ e ∈ ok.after, Region.binds md e = true → e.on ≠ i) → oi.apart ops ok = true := fun k ok hk hki hun hno => by
        refine hfree k ok hk hki ?_ hno
        by_cases hjk : j = k
        · subst hjk; exact hjun
        · rw [getD_set_ne true hjk] at hun; exact hun
      refine wpOp_mono (fun a' w' h3 => ⟨h3.2.1, ih (listed.setIfInBounds j true) a' w' hfree' (ready_mono hr (Ne.symm hji)) h3.1 (h3.2.1 hjf) ?_⟩) h2
      rw [Array.setIfInBounds_comm _ _ hji]
      exact h3.2.2
def fin16 (md : Region.Mode) (ops : Array Oper) (fin i : Nat) : Bool := decide (ops.size ≤ fin) || Region.waitsFor md ops fin i
theorem fin16_spec {i : Nat} (h : fin16 md ops fin i = true) : ∀ o, ops[fin]? = some o → ∃ e ∈ o.after, Region.binds md e = true ∧ e.on = i := by
  intro o ho
  simp only [fin16, Bool.or_eq_true, decide_eq_true_eq] at h
  rcases h with h | h
  · rw [Array.getElem?_eq_none h] at ho; cases ho
  · obtain ⟨oj, hj, e, he, hb⟩ := Region.waitsFor_spec h
    rw [ho] at hj
    cases hj
    exact ⟨e, he, hb⟩
theorem wpAnyK_take {i : Nat} {oi : Oper} {v : Value} {fuel : Nat} {listed : Array Bool} {a : Act} {w : World} (hi : ops[i]? = some oi)
    (hs : Region.noSelect ops = true) (hf : Region.free md ops listed i = true) (hr : (Region.ready md ops listed).contains i = true) (hfin : fin16 md ops fin i = true)
    (hQ : ∀ c a w, Q (.panic c) (a.put oi.dst v) w → Q (.panic c) a w) (hy : YieldsIf P ops S oi v a) (hS : S w)
    (h : wpAnyK P md ops Q S fin fuel (listed.setIfInBounds i true) (a.put oi.dst v) w) : wpAnyK P md ops Q S fin (fuel + 1) listed a w :=
  wpAnyK_first hi (Region.noSelect_spec hs) hQ (fin16_spec hfin) fuel listed a w (Region.free_spec hi hf) (by simpa using hr) hy hS h
/-- The one that may come up. -/
theorem wpAnyK_one {i : Nat} {fuel : Nat} {listed : Array Bool} {a : Act} {w : World} {o : Oper} (hr : Region.ready md ops listed = [i]) (ho : ops[i]? = some o)
    (h : ∀ K' : Act → World → Prop, Shut (∀ a w, (i ≠ fin → S w) → ((i ≠ fin → S w) → wpAnyK P md ops Q S fin fuel (listed.setIfInBounds i true) a w) → K' a w) → if Region.wanted o (yielded ops a.tmps) = true then Oper.wp P o a w K' Q else K' (a.put o.dst undef) w) :
    wpAnyK P md ops Q S fin (fuel + 1) listed a w :=
  ⟨fun h0 => (by rw [hr] at h0; cases h0), fun j hj => by
    rw [hr] at hj
    have : j = i := by simpa using hj
    subst this
    exact wpOp_step ho (fun K' hK => h K' (fun a w hS hW => hK a w ⟨hS, hW hS⟩))⟩
theorem wpAnyK_done {listed : Array Bool} {a : Act} {w : World} (hr : Region.ready md ops listed = []) (h : Q .normal a w) :
    ∀ fuel, wpAnyK P md ops Q S fin fuel listed a w
  | 0 => ⟨hr, h⟩
  | _ + 1 => ⟨fun _ => h, by rw [hr]; simp⟩
end
/-- The same outside of a round. -/
theorem plain_region16 {P : Program} {id : Nat} {Q : Exit → Act → World → Prop} {a : Act} {w : World} {ops : Array Oper} (S : World → Prop) (fin : Nat) (hm : P.follows .mixedOrders = true) (hS : S w.drew)
    (h : S w.drew → wpAnyK P .any ops Q S fin ops.size (Array.replicate ops.size false) a w.drew) : (Code.region id ops true).wp P Q a w :=
  wp_region_any hm (wpAny_of_K _ _ _ _ (h hS))
end Go.Proofs.YtmjlpfmacblcpaaDoor

namespace Go.Proofs.YtmjlpfmacblcpaaDoor
open Go.RowKit Go.Maps Go.WideMaps
set_option linter.unusedVariables false
set_option maxRecDepth 100000
theorem kt21 : Tryd.prog.keyTypeAt 2 98 = true := by kernel_rfl
theorem tl21 : Tryd.prog.tiled 2 98 = true := by kernel_rfl
theorem law21 : Keyed Tryd.prog 98 := Keyed.of_law (deep_law (m := 2) (by omega) kt21 tl21 (by rw [Tryd.underlying98]))
theorem row21 : (98 : TypeId) < Tryd.prog.types.size := of_decide_eq_true (by kernel_rfl)
theorem size21 : ∃ m, Tryd.prog.types.size = m + 1 := Nat.exists_eq_succ_of_ne_zero (Nat.pos_iff_ne_zero.mp (Nat.lt_of_le_of_lt (Nat.zero_le _) row21))
theorem cells21 : Tryd.prog.cellsOf 98 = 2 := by kernel_rfl
theorem cellsI21 : Tryd.prog.cellsOf 3 = 1 := by kernel_rfl
theorem ktp21 : Tryd.prog.keyType 98 = true := by kernel_rfl
def In21 (x : Int) : Prop := -9223372036854775808 ≤ x ∧ x ≤ 9223372036854775807
def k21 (x y : Int) : Lit := .string (keyBytes [.int .i64 x, .int .i64 y])
theorem keyOf21 {x y : Int} (hx : In21 x) (hy : In21 y) : keyOf Tryd.prog 98 (.agg #[.int .i64 x, .int .i64 y]) = some (k21 x y) := by
  obtain ⟨m, hm⟩ := size21
  have wx : (Lit.int .i64 x).wf = true := WalkArith.wf_i64 hx
  have wy : (Lit.int .i64 y).wf = true := WalkArith.wf_i64 hy
  unfold keyOf k21
  simp only [Tryd.underlying98]
  rw [if_pos (by simp [ktp21, Value.formed, Tryd.underlying98, cells21]), hm]
  unfold Program.keyLits
  simp only [Tryd.underlying98, Value.cells]
  rw [if_pos (by rw [cells21]; simp)]
  simp [cellsI21, Program.keyLits, Tryd.underlying3, wx, wy]
theorem k21_inj {x y x' y' : Int} (hx : In21 x) (hy : In21 y) (hx' : In21 x') (hy' : In21 y') (h : k21 x y = k21 x' y') : x = x' ∧ y = y' := by
  have h1 := keyOf21 hx hy
  have h2 := keyOf21 hx' hy'
  rw [← h] at h2
  have := law21.inj h1 h2
  simpa using this
def rd21 (v : Value) : Option (DataW Value × List MemPlace) := some (.held v, [])
def zs21 : Value := .agg #[.slice none 0 0, .bool false, .int .i64 0]
theorem zero21 (w : World) : (zeroValue 89).run Tryd.prog w = .ok zs21 w := by kernel_rfl
/-- Block m is a map that leads the place x, y to the value f x y. -/
def Mv21 (w : World) (m c : Nat) (f : Int → Int → Option Value) : Prop := ∃ D : DataW Value, w.ownsMap Tryd.prog 98 rd21 m c D ∧
  ∀ x y, In21 x → In21 y → (f x y = none ∧ Maps.has D (k21 x y) = false) ∨ (∃ v, f x y = some v ∧ Maps.has D (k21 x y) = true ∧ ∀ d, D.atKey (k21 x y) d = .held v)
theorem Mv21.lt {w : World} {m c : Nat} {f : Int → Int → Option Value} (h : Mv21 w m c f) : m < w.heap.size := by
  obtain ⟨D, ho, _⟩ := h
  exact ho.lt
theorem Mv21.block {w w' : World} {m c : Nat} {f : Int → Int → Option Value} (h : Mv21 w m c f) (hb : w'.heap[m]? = w.heap[m]?) : Mv21 w' m c f := by
  obtain ⟨D, ⟨es, clock, h1, h2⟩, h3⟩ := h
  exact ⟨D, ⟨es, clock, hb.trans h1, h2⟩, h3⟩
theorem Mv21.no {w : World} {m c : Nat} {f : Int → Int → Option Value} (h : Mv21 w m c f) {cs : Array Value} {t : TypeId} {p : Nat × Nat} : w.heap[m]? ≠ some (.cells cs t p) := by
  obtain ⟨D, ⟨es, clock, h1, h2⟩, h3⟩ := h
  rw [h1]; simp
theorem Mv21.made (w : World) : Mv21 (w.alloc (.map #[] 0)) w.heap.size 0 (fun _ _ => none) :=
  ⟨_, World.ownsMap_made _ _ _ _, fun x y _ _ => .inl ⟨rfl, rfl⟩⟩
theorem Mv21.look {w : World} {m c : Nat} {f : Int → Int → Option Value} (h : Mv21 w m c f) {x y : Int} (hx : In21 x) (hy : In21 y) :
    (Instr.lookup 91 (.map (some m)) (.agg #[.int .i64 x, .int .i64 y]) true).run Tryd.prog w = .ok (.tuple #[(f x y).getD zs21, .bool (f x y).isSome]) w := by
  obtain ⟨D, ho, hD⟩ := h
  obtain ⟨v, ps, hr, hv⟩ := ho.look_ok (zd := .held zs21) (zp := []) law21 Tryd.underlying91 (zero21 w) rfl (keyOf21 hx hy)
  unfold rd21 at hv
  injection hv with hv
  injection hv with hv _
  rcases hD x y hx hy with ⟨h1, h2⟩ | ⟨u, h1, h2, h3⟩
  · rw [atKey_of_not_has h2] at hv
    injection hv with hv
    subst hv
    rw [hr, h1, h2]
    rfl
  · rw [h3] at hv
    injection hv with hv
    subst hv
    rw [hr, h1, h2]
    rfl
theorem Mv21.store {w : World} {m c : Nat} {f : Int → Int → Option Value} (h : Mv21 w m c f) (hc : c < maxLen) {x y : Int} (hx : In21 x) (hy : In21 y) (v : Value) :
    ∃ w', (Instr.mapUpdate 91 (.map (some m)) (.agg #[.int .i64 x, .int .i64 y]) v).run Tryd.prog w = .ok () w' ∧ Mv21 w' m (c + 1) (fun x' y' => if x' = x ∧ y' = y then some v else f x' y') ∧ w.grownBy w' (some m) := by
  obtain ⟨D, ho, hD⟩ := h
  have hm := ho.isMap
  obtain ⟨w', hr, ho', hg⟩ := ho.update (d := .held v) (ps := []) law21 Tryd.underlying91 hc (keyOf21 hx hy) rfl
  refine ⟨w', hr, ⟨_, ho', fun x' y' hx' hy' => ?_⟩, hg⟩
  dsimp only
  by_cases e : x' = x ∧ y' = y
  · obtain ⟨rfl, rfl⟩ := e
    rw [if_pos ⟨rfl, rfl⟩]
    exact .inr ⟨v, rfl, has_put_same hm (law21.key (keyOf21 hx hy)) _, fun d => atKey_put_same hm (law21.key (keyOf21 hx hy)) _ _⟩
  · rw [if_neg e]
    have hne : k21 x' y' ≠ k21 x y := fun h => e (k21_inj hx' hy' hx hy h)
    rw [has_put_other hne]
    rcases hD x' y' hx' hy' with h1 | ⟨u, h1, h2, h3⟩
    · exact .inl h1
    · exact .inr ⟨u, h1, h2, fun d => by rw [atKey_put_other hne, h3]⟩
end Go.Proofs.YtmjlpfmacblcpaaDoor
