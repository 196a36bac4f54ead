import Derived.Test.YtmjlpfmacblcpaaDoorProg
import Derived.Test.YtmjlpfmacblcpaaDoorBtMem
import Derived.Laws.StructEq
namespace Go.Proofs.YtmjlpfmacblcpaaDoor
open Go.RowKit
set_option linter.unusedVariables false
set_option linter.unusedSimpArgs false
structure Im25 where
  s : Int
  v : Int
  z : Int
  m : Int
structure Rc25 where
  q : Int
  g : Im25
  n : Im25
  t : Int
def Im25.cs (i : Im25) : Array Value := #[.int .i64 i.s, .int .i64 i.v, .int .i64 i.z, .int .u32 i.m]
def Rc25.cs (r : Rc25) : Array Value := #[.int .i64 r.q, .int .i64 r.g.s, .int .i64 r.g.v, .int .i64 r.g.z, .int .u32 r.g.m, .int .i64 r.n.s, .int .i64 r.n.v, .int .i64 r.n.z, .int .u32 r.n.m, .int .i64 r.t]
theorem im25_ext (a b : Im25) : a = b ↔ a.s = b.s ∧ a.v = b.v ∧ a.z = b.z ∧ a.m = b.m := by
  obtain ⟨s, v, z, m⟩ := a; obtain ⟨s', v', z', m'⟩ := b; simp
theorem rc25_ext (a b : Rc25) : a = b ↔ a.q = b.q ∧ a.g = b.g ∧ a.n = b.n ∧ a.t = b.t := by
  obtain ⟨s, v, z, m⟩ := a; obtain ⟨s', v', z', m'⟩ := b; simp
instance : DecidableEq Im25 := fun a b => decidable_of_iff _ (im25_ext a b).symm
instance : DecidableEq Rc25 := fun a b => decidable_of_iff _ (rc25_ext a b).symm
theorem eqF25 {P : Program} (d : Nat) (xs ys : Array Value) (f : Field) (fs : List Field) (a b : Value) (r : Bool) (W : World) (hn : f.name ≠ "_") (ha : (part f.type xs f.offset).run P W = .ok a W) (hb : (part f.type ys f.offset).run P W = .ok b W)
    (he : (Op.equalIn d f.type a b).run P W = .ok r W) {R : Bool} (hr : (Op.eqFields d xs ys fs).run P W = .ok R W) : (Op.eqFields d xs ys (f :: fs)).run P W = .ok (r && R) W := by
  rw [Op.eqFields, if_pos hn]
  simp only [Sem.run_bind, ha, hb, he, Result.andThen_ok]
  cases r
  · simp
  · simp [hr]
theorem eqN25 {P : Program} (d : Nat) (xs ys : Array Value) (W : World) : (Op.eqFields d xs ys []).run P W = .ok true W := rfl
set_option maxRecDepth 100000 in
theorem eqi25e (s v z m s' v' z' m' : Int) (d : Nat) (W : World) : (Op.equalIn (d + 2) 61 (.agg #[.int .i64 s, .int .i64 v, .int .i64 z, .int .u32 m]) (.agg #[.int .i64 s', .int .i64 v', .int .i64 z', .int .u32 m'])).run Tryd.prog W = .ok (s == s' && (v == v' && (z == z' && (m == m' && true)))) W := by
  rw [run_equalIn_struct W (d + 1) 61 _ _ (by kernel_rfl) (by kernel_rfl)]
  have E : ∀ x y : Int, (Op.equalIn (d + 1) 3 (.int .i64 x) (.int .i64 y)).run Tryd.prog W = .ok (x == y) W := fun x y => run_equalIn_int W d 3 .i64 .i64 x y Tryd.underlying3
  have E4 : ∀ x y : Int, (Op.equalIn (d + 1) 48 (.int .u32 x) (.int .u32 y)).run Tryd.prog W = .ok (x == y) W := fun x y => run_equalIn_int W d 48 .u32 .u32 x y Tryd.underlying48
  simp only [Program.fieldsOf, Tryd.underlying61]
  refine eqF25 _ _ _ _ _ (.int .i64 s) (.int .i64 s') (s == s') W (by decide) (by kernel_rfl) (by kernel_rfl) (E s s') ?_
  refine eqF25 _ _ _ _ _ (.int .i64 v) (.int .i64 v') (v == v') W (by decide) (by kernel_rfl) (by kernel_rfl) (E v v') ?_
  refine eqF25 _ _ _ _ _ (.int .i64 z) (.int .i64 z') (z == z') W (by decide) (by kernel_rfl) (by kernel_rfl) (E z z') ?_
  refine eqF25 _ _ _ _ _ (.int .u32 m) (.int .u32 m') (m == m') W (by decide) (by kernel_rfl) (by kernel_rfl) (E4 m m') ?_
  exact eqN25 _ _ _ _
theorem eqi25 (i j : Im25) (W : World) : (Op.equalIn 10000 61 (.agg i.cs) (.agg j.cs)).run Tryd.prog W = .ok (decide (i = j)) W := by
  obtain ⟨s, v, z, m⟩ := i
  obtain ⟨s', v', z', m'⟩ := j
  refine (eqi25e s v z m s' v' z' m' 9998 W).trans ?_
  congr 1
  rw [Bool.eq_iff_iff]
  simp
set_option maxRecDepth 100000 in
theorem eqr25e (q s v z m a b c e t q' s' v' z' m' a' b' c' e' t' : Int) (d : Nat) (W : World) : (Op.equalIn (d + 3) 63 (.agg #[Value.int .i64 q, Value.int .i64 s, Value.int .i64 v, Value.int .i64 z, Value.int .u32 m, Value.int .i64 a, Value.int .i64 b, Value.int .i64 c, Value.int .u32 e, Value.int .i64 t]) (.agg #[Value.int .i64 q', Value.int .i64 s', Value.int .i64 v', Value.int .i64 z', Value.int .u32 m', Value.int .i64 a', Value.int .i64 b', Value.int .i64 c', Value.int .u32 e', Value.int .i64 t'])).run Tryd.prog W =
    .ok (q == q' && ((s == s' && (v == v' && (z == z' && (m == m' && true)))) && ((a == a' && (b == b' && (c == c' && (e == e' && true)))) && (t == t' && true)))) W := by
  rw [run_equalIn_struct W (d + 2) 63 _ _ (by kernel_rfl) (by kernel_rfl)]
  have E : ∀ x y : Int, (Op.equalIn (d + 2) 3 (.int .i64 x) (.int .i64 y)).run Tryd.prog W = .ok (x == y) W := fun x y => run_equalIn_int W (d + 1) 3 .i64 .i64 x y Tryd.underlying3
  simp only [Program.fieldsOf, Tryd.underlying63]
  refine eqF25 _ _ _ _ _ (.int .i64 q) (.int .i64 q') (q == q') W (by decide) (by kernel_rfl) (by kernel_rfl) (E q q') ?_
  refine eqF25 _ _ _ _ _ (.agg #[.int .i64 s, .int .i64 v, .int .i64 z, .int .u32 m]) (.agg #[.int .i64 s', .int .i64 v', .int .i64 z', .int .u32 m']) _ W (by decide) (by kernel_rfl) (by kernel_rfl) (eqi25e s v z m s' v' z' m' d W) ?_
  refine eqF25 _ _ _ _ _ (.agg #[.int .i64 a, .int .i64 b, .int .i64 c, .int .u32 e]) (.agg #[.int .i64 a', .int .i64 b', .int .i64 c', .int .u32 e']) _ W (by decide) (by kernel_rfl) (by kernel_rfl) (eqi25e a b c e a' b' c' e' d W) ?_
  refine eqF25 _ _ _ _ _ (.int .i64 t) (.int .i64 t') (t == t') W (by decide) (by kernel_rfl) (by kernel_rfl) (E t t') ?_
  exact eqN25 _ _ _ _
theorem eqr25 (i j : Rc25) (W : World) : (Op.equalIn 10000 63 (.agg i.cs) (.agg j.cs)).run Tryd.prog W = .ok (decide (i = j)) W := by
  obtain ⟨q, ⟨s, v, z, m⟩, ⟨a, b, c, e⟩, t⟩ := i
  obtain ⟨q', ⟨s', v', z', m'⟩, ⟨a', b', c', e'⟩, t'⟩ := j
  refine (eqr25e q s v z m a b c e t q' s' v' z' m' a' b' c' e' t' 9997 W).trans ?_
  congr 1
  rw [Bool.eq_iff_iff]
  simp
theorem bei25 (i j : Im25) (W : World) : (binOp .eql 61 (.agg i.cs) (.agg j.cs)).run Tryd.prog W = .ok (.bool (decide (i = j))) W := by
  rw [run_eql_struct, eqi25]; rfl
theorem bni25 (i j : Im25) (W : World) : (binOp .neq 61 (.agg i.cs) (.agg j.cs)).run Tryd.prog W = .ok (.bool (!decide (i = j))) W := by
  rw [run_neq_struct, eqi25]; rfl
theorem ber25 (i j : Rc25) (W : World) : (binOp .eql 63 (.agg i.cs) (.agg j.cs)).run Tryd.prog W = .ok (.bool (decide (i = j))) W := by
  rw [run_eql_struct, eqr25]; rfl
theorem egi25 : Tryd.prog.eqGuardType Tryd.prog.depth 61 = false := by kernel_rfl
theorem egr25 : Tryd.prog.eqGuardType Tryd.prog.depth 63 = false := by kernel_rfl
/-- Two structs are held against each other. -/
theorem wpList_bin25 {P : Program} {ops : Array Oper} {rest : List Oper} {o : Oper} {a : Act} {Q : Exit → Act → World → Prop} {w : World} (hgd : o.guard = none) (op : BinOp) (t : TypeId) (x y : Operand) (u' : TypeId) (ho : o.op = Op.binOp op t x y u') {u v : Array Value} (hx : a.eval x = .agg u) (hy : a.eval y = .agg v) (hm : P.eqGuardType P.depth t = false) {r : Value}
    (hr : (binOp op t (.agg u) (.agg v)).run P w = .ok r w) (h : wpList P ops Q rest (a.put o.dst r) w) : wpList P ops Q (o :: rest) a w := by
  refine wpList_plain hgd fun K hK => ?_
  unfold Oper.wp execOp
  simp only [ho, hx, hy, Sem.run_bind, run_eqGuard_agg (P := P) w op t x y u v hm, Result.andThen_ok, hr, Sem.run_pure]
  exact hK _ _ h
theorem wp_bin25 {P : Program} {o : Oper} {a : Act} {K : Act → World → Prop} {Q : Exit → Act → World → Prop} {w : World} (op : BinOp) (t : TypeId) (x y : Operand) (u' : TypeId) (ho : o.op = Op.binOp op t x y u') {u v : Array Value} (hx : a.eval x = .agg u) (hy : a.eval y = .agg v) (hm : P.eqGuardType P.depth t = false) {r : Value}
    (hr : (binOp op t (.agg u) (.agg v)).run P w = .ok r w) (h : K (a.put o.dst r) w) : Oper.wp P o a w K Q := by
  unfold Oper.wp execOp
  simp only [ho, hx, hy, Sem.run_bind, run_eqGuard_agg (P := P) w op t x y u v hm, Result.andThen_ok, hr, Sem.run_pure]
  exact h
end Go.Proofs.YtmjlpfmacblcpaaDoor
