import Derived.Test.YteboaolflecibaaDoorProg
import Derived.Test.YteboaolflecibaaDoorPa
import Derived.Laws.StructEq
import Derived.ScopeJumps
import Derived.Laws.EntriesVeiled
import Derived.Laws.Rows
import Derived.Laws.Tables
import Derived.Deep.MidRow
namespace Go.Proofs.YteboaolflecibaaDoor
open Go.RowKit
set_option linter.unusedVariables false
set_option linter.unusedSimpArgs false
structure Im25 where
  s : Int
  v : Int
  z : Int
  m : Int
structure Rc25 where
  q : Int
  g : Im25
  n : Im25
  t : Int
def Im25.cs (i : Im25) : Array Value := #[.int .i64 i.s, .int .i64 i.v, .int .i64 i.z, .int .u32 i.m]
def Rc25.cs (r : Rc25) : Array Value := #[.int .i64 r.q, .int .i64 r.g.s, .int .i64 r.g.v, .int .i64 r.g.z, .int .u32 r.g.m, .int .i64 r.n.s, .int .i64 r.n.v, .int .i64 r.n.z, .int .u32 r.n.m, .int .i64 r.t]
theorem im25_ext (a b : Im25) : a = b ↔ a.s = b.s ∧ a.v = b.v ∧ a.z = b.z ∧ a.m = b.m := by
  obtain ⟨s, v, z, m⟩ := a; obtain ⟨s', v', z', m'⟩ := b; simp
theorem rc25_ext (a b : Rc25) : a = b ↔ a.q = b.q ∧ a.g = b.g ∧ a.n = b.n ∧ a.t = b.t := by
  obtain ⟨s, v, z, m⟩ := a; obtain ⟨s', v', z', m'⟩ := b; simp
instance : DecidableEq Im25 := fun a b => decidable_of_iff _ (im25_ext a b).symm
instance : DecidableEq Rc25 := fun a b => decidable_of_iff _ (rc25_ext a b).symm
theorem eqF25 {P : Program} (d : Nat) (xs ys : Array Value) (f : Field) (fs : List Field) (a b : Value) (r : Bool) (W : World) (hn : f.name ≠ "_") (ha : (part f.type xs f.offset).run P W = .ok a W) (hb : (part f.type ys f.offset).run P W = .ok b W)
    (he : (Op.equalIn d f.type a b).run P W = .ok r W) {R : Bool} (hr : (Op.eqFields d xs ys fs).run P W = .ok R W) : (Op.eqFields d xs ys (f :: fs)).run P W = .ok (r && R) W := by
  rw [Op.eqFields, if_pos hn]
  simp only [Sem.run_bind, ha, hb, he, Result.andThen_ok]
  cases r
  · simp
  · simp [hr]
theorem eqN25 {P : Program} (d : Nat) (xs ys : Array Value) (W : World) : (Op.eqFields d xs ys []).run P W = .ok true W := rfl
set_option maxRecDepth 100000 in
theorem eqi25e (s v z m s' v' z' m' : Int) (d : Nat) (W : World) : (Op.equalIn (d + 2) 32 (.agg #[.int .i64 s, .int .i64 v, .int .i64 z, .int .u32 m]) (.agg #[.int .i64 s', .int .i64 v', .int .i64 z', .int .u32 m'])).run Tryd.prog W = .ok (s == s' && (v == v' && (z == z' && (m == m' && true)))) W := by
  rw [run_equalIn_struct W (d + 1) 32 _ _ (by kernel_rfl) (by kernel_rfl)]
  have E : ∀ x y : Int, (Op.equalIn (d + 1) 3 (.int .i64 x) (.int .i64 y)).run Tryd.prog W = .ok (x == y) W := fun x y => run_equalIn_int W d 3 .i64 .i64 x y Tryd.underlying3
  have E4 : ∀ x y : Int, (Op.equalIn (d + 1) 23 (.int .u32 x) (.int .u32 y)).run Tryd.prog W = .ok (x == y) W := fun x y => run_equalIn_int W d 23 .u32 .u32 x y Tryd.underlying23
  simp only [Program.fieldsOf, Tryd.underlying32]
  refine eqF25 _ _ _ _ _ (.int .i64 s) (.int .i64 s') (s == s') W (by decide) (by kernel_rfl) (by kernel_rfl) (E s s') ?_
  refine eqF25 _ _ _ _ _ (.int .i64 v) (.int .i64 v') (v == v') W (by decide) (by kernel_rfl) (by kernel_rfl) (E v v') ?_
  refine eqF25 _ _ _ _ _ (.int .i64 z) (.int .i64 z') (z == z') W (by decide) (by kernel_rfl) (by kernel_rfl) (E z z') ?_
  refine eqF25 _ _ _ _ _ (.int .u32 m) (.int .u32 m') (m == m') W (by decide) (by kernel_rfl) (by kernel_rfl) (E4 m m') ?_
  exact eqN25 _ _ _ _
theorem eqi25 (i j : Im25) (W : World) : (Op.equalIn 10000 32 (.agg i.cs) (.agg j.cs)).run Tryd.prog W = .ok (decide (i = j)) W := by
  obtain ⟨s, v, z, m⟩ := i
  obtain ⟨s', v', z', m'⟩ := j
  refine (eqi25e s v z m s' v' z' m' 9998 W).trans ?_
  congr 1
  rw [Bool.eq_iff_iff]
  simp
set_option maxRecDepth 100000 in
theorem eqr25e (q s v z m a b c e t q' s' v' z' m' a' b' c' e' t' : Int) (d : Nat) (W : World) : (Op.equalIn (d + 3) 34 (.agg #[Value.int .i64 q, Value.int .i64 s, Value.int .i64 v, Value.int .i64 z, Value.int .u32 m, Value.int .i64 a, Value.int .i64 b, Value.int .i64 c, Value.int .u32 e, Value.int .i64 t]) (.agg #[Value.int .i64 q', Value.int .i64 s', Value.int .i64 v', Value.int .i64 z', Value.int .u32 m', Value.int .i64 a', Value.int .i64 b', Value.int .i64 c', Value.int .u32 e', Value.int .i64 t'])).run Tryd.prog W =
    .ok (q == q' && ((s == s' && (v == v' && (z == z' && (m == m' && true)))) && ((a == a' && (b == b' && (c == c' && (e == e' && true)))) && (t == t' && true)))) W := by
  rw [run_equalIn_struct W (d + 2) 34 _ _ (by kernel_rfl) (by kernel_rfl)]
  have E : ∀ x y : Int, (Op.equalIn (d + 2) 3 (.int .i64 x) (.int .i64 y)).run Tryd.prog W = .ok (x == y) W := fun x y => run_equalIn_int W (d + 1) 3 .i64 .i64 x y Tryd.underlying3
  simp only [Program.fieldsOf, Tryd.underlying34]
  refine eqF25 _ _ _ _ _ (.int .i64 q) (.int .i64 q') (q == q') W (by decide) (by kernel_rfl) (by kernel_rfl) (E q q') ?_
  refine eqF25 _ _ _ _ _ (.agg #[.int .i64 s, .int .i64 v, .int .i64 z, .int .u32 m]) (.agg #[.int .i64 s', .int .i64 v', .int .i64 z', .int .u32 m']) _ W (by decide) (by kernel_rfl) (by kernel_rfl) (eqi25e s v z m s' v' z' m' d W) ?_
  refine eqF25 _ _ _ _ _ (.agg #[.int .i64 a, .int .i64 b, .int .i64 c, .int .u32 e]) (.agg #[.int .i64 a', .int .i64 b', .int .i64 c', .int .u32 e']) _ W (by decide) (by kernel_rfl) (by kernel_rfl) (eqi25e a b c e a' b' c' e' d W) ?_
  refine eqF25 _ _ _ _ _ (.int .i64 t) (.int .i64 t') (t == t') W (by decide) (by kernel_rfl) (by kernel_rfl) (E t t') ?_
  exact eqN25 _ _ _ _
theorem eqr25 (i j : Rc25) (W : World) : (Op.equalIn 10000 34 (.agg i.cs) (.agg j.cs)).run Tryd.prog W = .ok (decide (i = j)) W := by
  obtain ⟨q, ⟨s, v, z, m⟩, ⟨a, b, c, e⟩, t⟩ := i
  obtain ⟨q', ⟨s', v', z', m'⟩, ⟨a', b', c', e'⟩, t'⟩ := j
  refine (eqr25e q s v z m a b c e t q' s' v' z' m' a' b' c' e' t' 9997 W).trans ?_
  congr 1
  rw [Bool.eq_iff_iff]
  simp
set_option maxRecDepth 100000 in
theorem eqi25ed (s v z m s' v' z' m' : Int) (d : Nat) (W : World) : (Op.equalIn (d + 2) 25 (.agg #[.int .i64 s, .int .i64 v, .int .i64 z, .int .u32 m]) (.agg #[.int .i64 s', .int .i64 v', .int .i64 z', .int .u32 m'])).run Tryd.prog W = .ok (s == s' && (v == v' && (z == z' && (m == m' && true)))) W := by
  rw [run_equalIn_struct W (d + 1) 25 _ _ (by kernel_rfl) (by kernel_rfl)]
  have E : ∀ x y : Int, (Op.equalIn (d + 1) 3 (.int .i64 x) (.int .i64 y)).run Tryd.prog W = .ok (x == y) W := fun x y => run_equalIn_int W d 3 .i64 .i64 x y Tryd.underlying3
  have E4 : ∀ x y : Int, (Op.equalIn (d + 1) 23 (.int .u32 x) (.int .u32 y)).run Tryd.prog W = .ok (x == y) W := fun x y => run_equalIn_int W d 23 .u32 .u32 x y Tryd.underlying23
  simp only [Program.fieldsOf, Tryd.underlying25]
  refine eqF25 _ _ _ _ _ (.int .i64 s) (.int .i64 s') (s == s') W (by decide) (by kernel_rfl) (by kernel_rfl) (E s s') ?_
  refine eqF25 _ _ _ _ _ (.int .i64 v) (.int .i64 v') (v == v') W (by decide) (by kernel_rfl) (by kernel_rfl) (E v v') ?_
  refine eqF25 _ _ _ _ _ (.int .i64 z) (.int .i64 z') (z == z') W (by decide) (by kernel_rfl) (by kernel_rfl) (E z z') ?_
  refine eqF25 _ _ _ _ _ (.int .u32 m) (.int .u32 m') (m == m') W (by decide) (by kernel_rfl) (by kernel_rfl) (E4 m m') ?_
  exact eqN25 _ _ _ _
theorem eqi25d (i j : Im25) (W : World) : (Op.equalIn 10000 25 (.agg i.cs) (.agg j.cs)).run Tryd.prog W = .ok (decide (i = j)) W := by
  obtain ⟨s, v, z, m⟩ := i
  obtain ⟨s', v', z', m'⟩ := j
  refine (eqi25ed s v z m s' v' z' m' 9998 W).trans ?_
  congr 1
  rw [Bool.eq_iff_iff]
  simp
theorem bei25 (i j : Im25) (W : World) : (binOp .eql 32 (.agg i.cs) (.agg j.cs)).run Tryd.prog W = .ok (.bool (decide (i = j))) W := by
  rw [run_eql_struct, eqi25]; rfl
theorem ber25 (i j : Rc25) (W : World) : (binOp .eql 34 (.agg i.cs) (.agg j.cs)).run Tryd.prog W = .ok (.bool (decide (i = j))) W := by
  rw [run_eql_struct, eqr25]; rfl
theorem bei25d (i j : Im25) (W : World) : (binOp .eql 25 (.agg i.cs) (.agg j.cs)).run Tryd.prog W = .ok (.bool (decide (i = j))) W := by
  rw [run_eql_struct, eqi25d]; rfl
theorem egi25 : Tryd.prog.eqGuardType Tryd.prog.depth 32 = false := by kernel_rfl
theorem egr25 : Tryd.prog.eqGuardType Tryd.prog.depth 34 = false := by kernel_rfl
theorem egi25d : Tryd.prog.eqGuardType Tryd.prog.depth 25 = false := by kernel_rfl
/-- Two structs are held against each other. -/
theorem wpList_bin25 {P : Program} {ops : Array Oper} {rest : List Oper} {o : Oper} {a : Act} {Q : Exit → Act → World → Prop} {w : World} (hgd : o.guard = none) (op : BinOp) (t : TypeId) (x y : Operand) (u' : TypeId) (ho : o.op = Op.binOp op t x y u') {u v : Array Value} (hx : a.eval x = .agg u) (hy : a.eval y = .agg v) (hm : P.eqGuardType P.depth t = false) {r : Value}
    (hr : (binOp op t (.agg u) (.agg v)).run P w = .ok r w) (h : wpList P ops Q rest (a.put o.dst r) w) : wpList P ops Q (o :: rest) a w := by
  refine wpList_plain hgd fun K hK => ?_
  unfold Oper.wp execOp
  simp only [ho, hx, hy, Sem.run_bind, run_eqGuard_agg (P := P) w op t x y u v hm, Result.andThen_ok, hr, Sem.run_pure]
  exact hK _ _ h
theorem wp_bin25 {P : Program} {o : Oper} {a : Act} {K : Act → World → Prop} {Q : Exit → Act → World → Prop} {w : World} (op : BinOp) (t : TypeId) (x y : Operand) (u' : TypeId) (ho : o.op = Op.binOp op t x y u') {u v : Array Value} (hx : a.eval x = .agg u) (hy : a.eval y = .agg v) (hm : P.eqGuardType P.depth t = false) {r : Value}
    (hr : (binOp op t (.agg u) (.agg v)).run P w = .ok r w) (h : K (a.put o.dst r) w) : Oper.wp P o a w K Q := by
  unfold Oper.wp execOp
  simp only [ho, hx, hy, Sem.run_bind, run_eqGuard_agg (P := P) w op t x y u v hm, Result.andThen_ok, hr, Sem.run_pure]
  exact h
end Go.Proofs.YteboaolflecibaaDoor

namespace Go.Proofs.YteboaolflecibaaDoor
open Go.RowKit
set_option linter.unusedVariables false
set_option linter.unusedSimpArgs false
theorem cell25 {W : World} {b k : Nat} {cs : Array Value} {t : TypeId} {v : Value} (h : W.heap[b]? = some (.cells cs t (0, 0))) (hk : cs[k]? = some v) : W.cell? ⟨b, k, none⟩ = some v := by simp [World.cell?, h, hk]
def no25 : Im25 := ⟨0, 0, 0, 0⟩
def zr25 : Rc25 := ⟨0, no25, no25, 0⟩
/-- An image may be, its version not below the least. -/
def Im25.may (i : Im25) (l : Int) : Prop := (i.s = 0 ∨ i.s = 1) ∧ l ≤ i.v ∧ i.v ≤ 2147483647 ∧ 0 ≤ i.z ∧ i.z ≤ 16777216
instance (i : Im25) (l : Int) : Decidable (i.may l) := by unfold Im25.may; infer_instance
def Rc25.may (r : Rc25) : Prop := (1 ≤ r.q ∧ r.q ≤ 1152921504606846976) ∧ (0 ≤ r.t ∧ r.t ≤ 15) ∧ r.g.may 1 ∧ ((r.n = no25 ∧ r.t = 0) ∨ (r.n ≠ no25 ∧ r.n.may r.g.v ∧ r.n.s ≠ r.g.s))
instance (r : Rc25) : Decidable r.may := by unfold Rc25.may; infer_instance
def ck25 (r : Rc25) : Int := if r.may then 0 else 250
set_option maxRecDepth 100000 in
set_option maxHeartbeats 4000000 in
theorem pmay25 (i : Im25) (l : Int) (w : World) : Calls Tryd.prog 47 #[.agg i.cs, .int .i64 l] w fun e w' => e = .returned (.bool (decide (i.may l))) ∧ Below w.heap.size w w' := by
  have HB : Hid (decide (i.may l) = true ↔ (i.s = 0 ∨ i.s = 1) ∧ l ≤ i.v ∧ i.v ≤ 2147483647 ∧ 0 ≤ i.z ∧ i.z ≤ 16777216) := decide_eq_true_iff
  generalize decide (i.may l) = B at *
  obtain ⟨s, v, z, m⟩ := i
  unfold Im25.cs
  simp only at *
  go_enter Tryd.func47, Tryd.ntmps47
  go_wp2
  all_goals go_ret
  all_goals refine ⟨?_, (Below.refl _ _).alloc (Nat.le_refl _) _⟩
  all_goals show Ending.returned (.bool _) = _
  all_goals congr 2
  all_goals rw [Bool.eq_iff_iff, HB.out]
  all_goals simp only [decide_eq_true_eq, Bool.false_eq_true, false_iff, iff_false, true_iff, iff_true, reduceCtorEq, eq_self_iff_true]
  all_goals omega
/-- What stands behind Check's label. -/
def Jm25 (w : World) (no : Prop) (a : Act) (W : World) : Prop := a.tmps.size = 48 ∧ a.defers = [] ∧ Below w.heap.size w W ∧ no
/-- A record in memory: its cells. -/
theorem cells25 {W : World} {b : Nat} {ty : TypeId} {q t : Int} {g n : Im25} (h : W.heap[b]? = some (.cells #[.int .i64 q, .int .i64 g.s, .int .i64 g.v, .int .i64 g.z, .int .u32 g.m, .int .i64 n.s, .int .i64 n.v, .int .i64 n.z, .int .u32 n.m, .int .i64 t] ty (0, 0))) :
    W.cell? ⟨b, 0, none⟩ = some (.int .i64 q) ∧ W.cell? ⟨b, 1, none⟩ = some (.int .i64 g.s) ∧ W.cell? ⟨b, 2, none⟩ = some (.int .i64 g.v) ∧ W.cell? ⟨b, 3, none⟩ = some (.int .i64 g.z) ∧ W.cell? ⟨b, 4, none⟩ = some (.int .u32 g.m) ∧ W.cell? ⟨b, 5, none⟩ = some (.int .i64 n.s) ∧ W.cell? ⟨b, 6, none⟩ = some (.int .i64 n.v) ∧ W.cell? ⟨b, 7, none⟩ = some (.int .i64 n.z) ∧ W.cell? ⟨b, 8, none⟩ = some (.int .u32 n.m) ∧ W.cell? ⟨b, 9, none⟩ = some (.int .i64 t) := 
  ⟨cell25 h rfl, cell25 h rfl, cell25 h rfl, cell25 h rfl, cell25 h rfl, cell25 h rfl, cell25 h rfl, cell25 h rfl, cell25 h rfl, cell25 h rfl⟩
set_option maxRecDepth 100000 in
set_option maxHeartbeats 8000000 in
theorem pcheck25 (r : Rc25) (w : World) : Calls Tryd.prog 13 #[.agg r.cs] w fun e w' => e = .returned (.int .i64 (ck25 r)) ∧ Below w.heap.size w w' := by
  obtain ⟨q, g, n, t⟩ := r
  unfold Rc25.cs
  simp only
  obtain ⟨wA, hwA⟩ : ∃ wA, wA = w.alloc (.cells #[.int .i64 q, .int .i64 g.s, .int .i64 g.v, .int .i64 g.z, .int .u32 g.m, .int .i64 n.s, .int .i64 n.v, .int .i64 n.z, .int .u32 n.m, .int .i64 t] 34) := ⟨_, rfl⟩
  have HWA : Hid (w.alloc (.cells #[.int .i64 q, .int .i64 g.s, .int .i64 g.v, .int .i64 g.z, .int .u32 g.m, .int .i64 n.s, .int .i64 n.v, .int .i64 n.z, .int .u32 n.m, .int .i64 t] 34) = wA) := hwA.symm
  have bA : Below w.heap.size w wA := by rw [hwA]; exact (Below.refl _ _).alloc (Nat.le_refl _) _
  have qA : wA.heap[w.heap.size]? = some (.cells #[.int .i64 q, .int .i64 g.s, .int .i64 g.v, .int .i64 g.z, .int .u32 g.m, .int .i64 n.s, .int .i64 n.v, .int .i64 n.z, .int .u32 n.m, .int .i64 t] 34 (0, 0)) := by rw [hwA]; exact heap_alloc_new _ _
  have HE : Hid (∀ W, (binOp .eql 32 (.agg #[.int .i64 n.s, .int .i64 n.v, .int .i64 n.z, .int .u32 n.m]) (.agg #[.int .i64 0, .int .i64 0, .int .i64 0, .int .u32 0])).run Tryd.prog W = .ok (.bool (decide (n = no25))) W) := fun W => bei25 n no25 W
  have HQ : Hid (∀ V, Below wA.heap.size wA V → V.heap[w.heap.size]? = some (.cells #[.int .i64 q, .int .i64 g.s, .int .i64 g.v, .int .i64 g.z, .int .u32 g.m, .int .i64 n.s, .int .i64 n.v, .int .i64 n.z, .int .u32 n.m, .int .i64 t] 34 (0, 0))) := fun V hV => (hV.block _ (Array.getElem?_eq_some_iff.1 qA).1).trans qA
  have HA : Hid (Below w.heap.size w wA) := bA
  clear hwA bA qA
  go_enter Tryd.func13, Tryd.ntmps13
  go_wp2_with fail
  rw [HWA.out]
  refine wp_scope_jumps 0 (Jm25 w (¬ (Rc25.mk q g n t).may)) (fun _ _ => 0) rfl ?_ ?_
  rotate_left
  · rintro a W ⟨h1, h2, h3, h4⟩
    obtain ⟨T, ds⟩ := a
    simp only at h1 h2
    subst h2
    go_wp2
    simp only [Exit.jump]
    go_ret
    refine ⟨?_, h3⟩
    rw [ck25, if_neg h4]
    simp [h1]
  · obtain ⟨c0, c1, c2, c3, c4, c5, c6, c7, c8, c9⟩ := cells25 (HQ.out wA (Below.refl _ _))
    by_cases h1 : q < 1
    · go_wp2
      go_step3
      exact ⟨rfl, rfl, rfl, HA.out, fun h => by have x : 1 ≤ q := h.1.1; omega⟩
    by_cases h2 : 1152921504606846976 < q
    · go_wp2
      go_step3
      exact ⟨rfl, rfl, rfl, HA.out, fun h => by have x : q ≤ 1152921504606846976 := h.1.2; omega⟩
    by_cases h3 : t < 0
    · go_wp2
      go_step3
      exact ⟨rfl, rfl, rfl, HA.out, fun h => by have x : 0 ≤ t := h.2.1.1; omega⟩
    by_cases h4 : 15 < t
    · go_wp2
      go_step3
      exact ⟨rfl, rfl, rfl, HA.out, fun h => by have x : t ≤ 15 := h.2.1.2; omega⟩
    have H14 : Hid ((1 ≤ q ∧ q ≤ 1152921504606846976) ∧ (0 ≤ t ∧ t ≤ 15)) := ⟨⟨by omega, by omega⟩, by omega, by omega⟩
    go_wp2_with fail
    refine (pmay25 g 1 wA).mono ?_
    rintro e1 w1 ⟨rfl, b1⟩
    have B1 : Hid (Below wA.heap.size wA w1) := b1
    clear c0 c1 c2 c3 c4 c5 c6 c7 c8 c9 h1 h2 b1
    obtain ⟨c0, c1, c2, c3, c4, c5, c6, c7, c8, c9⟩ := cells25 (HQ.out w1 B1.out)
    by_cases hg : g.may 1
    rotate_left
    · rw [decide_eq_false hg]
      go_wp2
      go_step3
      exact ⟨rfl, rfl, rfl, HA.out.trans (B1.out.mono HA.out.size), fun h => hg h.2.2.1⟩
    have HG : Hid (g.may 1) := hg
    rw [decide_eq_true hg]
    have E1 := HE.out w1
    by_cases hn : n = no25
    · rw [decide_eq_true hn] at E1
      have HN : Hid (n = no25) := hn
      by_cases h5 : 0 < t
      · clear hn hg
        go_wp2_with (refine wpList_bin25 rfl .eql 32 (.tmp 26) (.tmp 27) 32 rfl rfl rfl egi25 E1 ?_)
        go_step3
        exact ⟨rfl, rfl, rfl, HA.out.trans (B1.out.mono HA.out.size), fun h => h.2.2.2.elim (fun x => by have y : t = 0 := x.2; omega) (fun x => x.1 HN.out)⟩
      · have h6 : t = 0 := by omega
        clear hn hg
        go_wp2_with (refine wpList_bin25 rfl .eql 32 (.tmp 26) (.tmp 27) 32 rfl rfl rfl egi25 E1 ?_)
        simp only [Exit.jump]
        go_ret
        have hm : (Rc25.mk q g n t).may := ⟨H14.out.1, H14.out.2, HG.out, .inl ⟨HN.out, h6⟩⟩
        exact ⟨by rw [ck25, if_pos hm]; rfl, HA.out.trans (B1.out.mono HA.out.size)⟩
    rw [decide_eq_false hn] at E1
    have HN : Hid (n ≠ no25) := hn
    clear hn hg
    go_wp2_with (refine wpList_bin25 rfl .eql 32 (.tmp 26) (.tmp 27) 32 rfl rfl rfl egi25 E1 ?_)
    refine (pmay25 n g.v w1).mono ?_
    rintro e2 w2 ⟨rfl, b2⟩
    have B2 : Hid (Below wA.heap.size wA w2) := B1.out.trans (b2.mono B1.out.size)
    clear c0 c1 c2 c3 c4 c5 c6 c7 c8 c9 b2 E1
    obtain ⟨c0, c1, c2, c3, c4, c5, c6, c7, c8, c9⟩ := cells25 (HQ.out w2 B2.out)
    by_cases hm : n.may g.v
    rotate_left
    · rw [decide_eq_false hm]
      go_wp2
      go_step3
      exact ⟨rfl, rfl, rfl, HA.out.trans (B2.out.mono HA.out.size), fun h => h.2.2.2.elim (fun x => HN.out x.1) (fun x => hm x.2.1)⟩
    have HMM : Hid (n.may g.v) := hm
    rw [decide_eq_true hm]
    clear hm
    by_cases hs : n.s = g.s
    · go_wp2
      go_step3
      exact ⟨rfl, rfl, rfl, HA.out.trans (B2.out.mono HA.out.size), fun h => h.2.2.2.elim (fun x => HN.out x.1) (fun x => x.2.2 hs)⟩
    · go_wp2
      simp only [Exit.jump]
      go_ret
      have hm : (Rc25.mk q g n t).may := ⟨H14.out.1, H14.out.2, HG.out, .inr ⟨HN.out, HMM.out, hs⟩⟩
      exact ⟨by rw [ck25, if_pos hm]; rfl, HA.out.trans (B2.out.mono HA.out.size)⟩
end Go.Proofs.YteboaolflecibaaDoor

namespace Go.Proofs.YteboaolflecibaaDoor
open Go.RowKit
set_option linter.unusedVariables false
set_option linter.unusedSimpArgs false
theorem modify_congr25 {α : Type} (a : Array α) (i : Nat) (f g : α → α) (x : α) (hx : a[i]? = some x) (h : f x = g x) : a.modify i f = a.modify i g := by
  apply Array.ext_getElem?
  intro j
  rw [Array.getElem?_modify, Array.getElem?_modify]
  by_cases e : i = j
  · subst e; simp [hx, h]
  · simp [e]
theorem setCell_row25 {w : World} {b i : Nat} {v : Value} {cs : Array Value} {t : TypeId} {fr : Nat × Nat} (h : w.heap[b]? = some (.cells cs t fr)) : w.setCell ⟨b, i, none⟩ v = w.setRow b (cs.setIfInBounds i v) := by
  unfold World.setCell World.setRow
  simp only
  congr 1
  exact modify_congr25 _ _ _ _ _ h (by simp)
theorem setRow_row25 {w : World} {b : Nat} {c c' : Array Value} : (w.setRow b c).setRow b c' = w.setRow b c' := by
  unfold World.setRow
  simp only
  congr 1
  apply Array.ext_getElem?
  intro j
  simp only [Array.getElem?_modify]
  by_cases e : b = j
  · subst e
    cases hh : w.heap[b]? with
    | none => simp
    | some o => cases o <;> simp
  · simp [e]
theorem setRow_self25 {w : World} {b : Nat} {c : Array Value} {t : TypeId} {fr : Nat × Nat} (h : w.heap[b]? = some (.cells c t fr)) : w.setRow b c = w := by
  obtain ⟨hp, tp, dr, os, ou⟩ := w
  simp only [World.setRow, World.mk.injEq, and_true, true_and]
  apply Array.ext_getElem?
  intro j
  rw [Array.getElem?_modify]
  by_cases e : b = j
  · subst e
    simp only at h
    simp [h]
  · simp [e]
/-- What is laid into a list from a place on. -/
def lay25 : List Value → Nat → List Value → List Value
  | c, _, [] => c
  | c, o, v :: r => lay25 (c.set o v) (o + 1) r
theorem setCells_row25 : ∀ (vs : List Value) (o : Nat) {w : World} {b : Nat} {cs : List Value} {t : TypeId} {fr : Nat × Nat}, w.heap[b]? = some (.cells cs.toArray t fr) → w.setCells b o vs = w.setRow b (lay25 cs o vs).toArray
  | [], o, w, b, cs, t, fr, h => (setRow_self25 h).symm
  | v :: r, o, w, b, cs, t, fr, h => by
    have e := setCell_row25 (i := o) (v := v) h
    show (w.setCell ⟨b, o, none⟩ v).setCells b (o + 1) r = _
    rw [e]
    have h2 : (w.setRow b (cs.toArray.setIfInBounds o v)).heap[b]? = some (.cells (cs.set o v).toArray t fr) := by
      have := setRow_heap w b _ (cs.toArray.setIfInBounds o v) _ _ h
      rw [this]; simp
    rw [setCells_row25 r (o + 1) h2, setRow_row25]
    rfl
theorem there25 {w : World} {b o n : Nat} {cs : Array Value} {t : TypeId} (h : w.heap[b]? = some (.cells cs t (0, 0))) (hn : o + n ≤ cs.size) : w.there b o n := fun j hj => by
  have e : cs[o + j]? = some cs[o + j] := Array.getElem?_eq_getElem (by omega)
  refine ⟨by simp [World.cell?, h, e], by simp [World.frozen?, h]⟩
theorem range25 {w : World} {b o : Nat} {cs : Array Value} {vs : List Value} {t : TypeId} {fr : Nat × Nat} (h : w.heap[b]? = some (.cells cs t fr)) (hv : ∀ j v, vs[j]? = some v → cs[o + j]? = some v) : w.rangeAt b o vs := fun j v hj => by
  simp [World.cell?, h, hv j v hj]
/-- A part of a row is written: the row, as a whole. -/
theorem wpList_part25 {P : Program} {ops : Array Oper} {rest : List Oper} {op : Oper} {a : Act} {w : World} {Q : Exit → Act → World → Prop} (hgd : op.guard = none) (ty : TypeId) (x y : Operand) (ho : op.op = .store ty x y)
    (b o : Nat) (cells : List Value) (hx : a.eval x = .pointer (some ⟨b, o, none⟩)) (hy : a.eval y = .agg cells.toArray) {cs : List Value} {t : TypeId} (hw : w.heap[b]? = some (.cells cs.toArray t (0, 0))) (hi : (P.info? ty).map (·.size) = some cells.length) (h1 : cells.toArray.all (·.oneCell') = true)
    (hn : o + cells.length ≤ cs.length) (c' : Array Value) (hc : (lay25 cs o cells).toArray = c') (h : wpList P ops Q rest (a.put op.dst undef) (w.setRow b c')) : wpList P ops Q (op :: rest) a w := by
  refine wpList_store_mid hgd ty x y ho b o cells.toArray hx hy (there25 hw (by simpa using hn)) (by simpa using hi) h1 ?_
  rw [List.toList_toArray, setCells_row25 cells o hw, hc]
  exact h
end Go.Proofs.YteboaolflecibaaDoor
