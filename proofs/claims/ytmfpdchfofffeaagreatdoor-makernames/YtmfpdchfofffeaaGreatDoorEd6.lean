import Derived.Test.YtmfpdchfofffeaaGreatDoorEd5
import Derived.Laws.MakeOwn
namespace Go.Proofs.YtmfpdchfofffeaaGreatDoor
open Go.RowKit Go.Shelf
set_option linter.unusedVariables false
attribute [local go_sem] Oper.semAt_some
theorem wpListIn_app16 {F : Fence} {n : Nat} {P : Program} {ops : Array Oper} {rest : List Oper} {o : Oper} {a : Act} {Q : Exit → Act → World → Prop} {w : World} (hg : o.guard = none) (s x : Operand) (t : TypeId)
    (hop : o.op = Op.call { callee := Callee.builtin Builtin.append, args := #[s, x], argTypes := #[t, t] }) {u v v' : Value} {w' : World} (hs : a.eval s = u) (hx : a.eval x = v) (hr : (Builtin.append_ #[t, t] o.type #[u, v]).run P w = .ok v' w')
    (h : wpListIn F n P ops Q rest (a.put o.dst v') w') : wpListIn F n P ops Q (o :: rest) a w := by
  refine wpListIn_plain hg fun K hK' => ?_
  unfold Oper.wpIn
  refine ⟨?_, ?_⟩
  · simp [Oper.about, hop, resolve, Target.leads, Sem.run_pure]
  · rw [Oper.semAt_plain F _ _ (by rw [hop]; intro c hc'; cases hc')]
    simp [execOp, hop, resolve, invoke, builtin, hs, hx, hr, Result.andThen]
    exact hK' _ _ h
theorem operwp_app16 {P : Program} {o : Oper} {a : Act} {K : Act → World → Prop} {Q : Exit → Act → World → Prop} {w : World} (s x : Operand) (t : TypeId)
    (ho : o.op = Op.call { callee := Callee.builtin Builtin.append, args := #[s, x], argTypes := #[t, t] }) {u v v' : Value} {w' : World} (hs : a.eval s = u) (hx : a.eval x = v) (hr : (Builtin.append_ #[t, t] o.type #[u, v]).run P w = .ok v' w')
    (h : K (a.put o.dst v') w') : Oper.wp P o a w K Q := by
  unfold Oper.wp execOp
  simp only [ho, resolve, invoke, builtin, Sem.run_bind, Sem.run_pure, Result.andThen_ok, List.map_toArray, List.map_cons, List.map_nil, hs, hx, hr]
  exact h

theorem info_u16 : (Tryz.prog.info? 5).map (fun i => (i.zero, i.size, i.bytes)) = some (some (.int .u8 0), 1, 1) := by kernel_rfl
/-- One byte more behind a row of the call's own. -/
structure Gr16 (V : World) (base : Nat) (ra : Option Addr) (n rc : Nat) (xs : List Value) (y : Value) (g rc' : Nat) (w' : World) : Prop where
  own : w'.ownsRow base 5 1 (.slice (some ⟨g, 0, none⟩) (n + 1) rc') (n + 1) (xs ++ [y])
  grown : V.grownBy w' (Value.slice ra n rc).ownBlock
  fresh : Fresh V (.slice ra n rc) (.slice (some ⟨g, 0, none⟩) (n + 1) rc')
/-- The state of Apply's loop. -/
structure Ai16 (w : World) (R : Nat → Prop) (bO bz : Nat) (zv : Value) (z : List Int) (L : List Og16) (i : Nat) (E : Nat → Prop) (ra : Option Addr) (rc : Nat) (V : World) : Prop where
  hO : V.heap[bO]? = some (.cells #[.slice ra i rc] 36 (0, 0))
  hz : V.heap[bz]? = some (.cells #[zv] 36 (0, 0))
  own : V.ownsRow w.heap.size 5 1 (.slice ra i rc) i (((L.take i).map (by16 z)).map (Value.int .u8))
  nO : ∀ g, (Value.slice ra i rc).ownBlock = some g → g ≠ bO ∧ g ≠ bz ∧ ¬ E g ∧ ¬ R g
  bl : Below w.heap.size w V
theorem Ai16.kp {w : World} {R : Nat → Prop} {bO bz : Nat} {zv : Value} {z : List Int} {L : List Og16} {i : Nat} {E E' : Nat → Prop} {ra : Option Addr} {rc : Nat} {V V' : World} (h : Ai16 w R bO bz zv z L i E ra rc V) (hk : Kp E V V') (hE : ¬ E bO ∧ ¬ E bz) (hw : ∀ k, E k → w.heap.size ≤ k) (h2 : ∀ k, E' k → E k ∨ V.heap.size ≤ k) : Ai16 w R bO bz zv z L i E' ra rc V' := by
  refine ⟨hk.heap h.hO hE.1, hk.heap h.hz hE.2, own_kp h.own hk (fun x e => (h.nO x e).2.2.1), fun g e => ⟨(h.nO g e).1, (h.nO g e).2.1, fun x => ?_, (h.nO g e).2.2.2⟩, h.bl.trans (hk.below hw h.bl.size)⟩
  rcases h2 g x with y | y
  · exact (h.nO g e).2.2.1 y
  · have := (h.own.lt g e).2
    omega
theorem two_boxes16 (w : World) (u : Array Value) (t : TypeId) (v : Array Value) (t' : TypeId) : let w1 := (w.alloc (.cells u t)).alloc (.cells v t')
    Below w.heap.size w w1 ∧ w1.heap.size = w.heap.size + 2 ∧ w1.heap[w.heap.size]? = some (.cells u t (0, 0)) ∧ w1.heap[w.heap.size + 1]? = some (.cells v t' (0, 0)) := by
  refine ⟨(below_box16 _ _).trans ((below_box16 _ _).mono (by simp)), by simp, ?_, ?_⟩
  · exact (Below.heap_alloc (w.alloc (.cells u t)) _ w.heap.size (by simp)).trans (heap_alloc_new w _)
  · have := heap_alloc_new (w.alloc (.cells u t)) (.cells v t' (0, 0))
    rw [show (w.alloc (.cells u t)).heap.size = w.heap.size + 1 by simp] at this
    exact this
/-- One byte more in Apply's loop. -/
theorem Ai16.more {w : World} {R : Nat → Prop} {bO bz : Nat} {zv : Value} {z : List Int} {L : List Og16} {i : Nat} {E : Nat → Prop} {ra : Option Addr} {rc : Nat} {V : World} (h : Ai16 w R bO bz zv z L i E ra rc V) (o : Og16) (y : Int) (ho : by16 z o = y) (hT : L.take (i + 1) = L.take i ++ [o])
    (hne : bO ≠ bz) (hlt : ∀ k, (E k ∨ R k ∨ k = bO ∨ k = bz) → k < V.heap.size) (hbO : ¬ E bO ∧ ¬ R bO) (hw : w.heap.size ≤ bO) {g rc' : Nat} {w' : World} (hg : Gr16 V w.heap.size ra i rc (((L.take i).map (by16 z)).map (Value.int .u8)) (.int .u8 y) g rc' w') :
    w'.heap[bO]? = some (.cells #[.slice ra i rc] 36 (0, 0)) ∧ Ai16 w R bO bz zv z L (i + 1) E (some ⟨g, 0, none⟩) rc' (w'.setCell ⟨bO, 0, none⟩ (.slice (some ⟨g, 0, none⟩) (i + 1) rc')) ∧ Kr16 (fun k => E k ∨ R k) V (w'.setCell ⟨bO, 0, none⟩ (.slice (some ⟨g, 0, none⟩) (i + 1) rc')) := by
  have kg : Kp (fun k => (Value.slice ra i rc).ownBlock = some k) V w' := Kp.grown hg.grown (fun i e => e)
  have hgn : g ≠ bO ∧ g ≠ bz ∧ ¬ E g ∧ ¬ R g := by
    rcases hg.fresh g rfl with e | e
    · exact h.nO g e
    · refine ⟨?_, ?_, ?_, ?_⟩
      · intro x; have := hlt bO (.inr (.inr (.inl rfl))); omega
      · intro x; have := hlt bz (.inr (.inr (.inr rfl))); omega
      · intro x; have := hlt g (.inl x); omega
      · intro x; have := hlt g (.inr (.inl x)); omega
  have hO' : w'.heap[bO]? = some (.cells #[.slice ra i rc] 36 (0, 0)) := kg.heap h.hO (fun e => (h.nO bO e).1 rfl)
  have ks : Kp (fun k => k = bO) w' (w'.setCell ⟨bO, 0, none⟩ (.slice (some ⟨g, 0, none⟩) (i + 1) rc')) := Kp.set (S := fun k => k = bO) rfl _
  refine ⟨hO', ⟨one_set16 hO' _, ks.heap (kg.heap h.hz (fun e => (h.nO bz e).2.1 rfl)) (fun e => hne e.symm), ?_, ?_, ?_⟩, ?_⟩
  · rw [hT, List.map_append, List.map_append]
    simp only [List.map_cons, List.map_nil, ho]
    exact own_kp hg.own ks (fun x e => by
      have : some g = some x := e
      injection this with this
      show ¬ x = bO
      omega)
  · intro x e
    have : some g = some x := e
    injection this with this
    subst this
    exact hgn
  · have b1 : Below w.heap.size V w' := kg.below (fun k e => (h.own.lt k e).1) h.bl.size
    exact (h.bl.trans b1).trans (ks.below (fun k e => by have e : k = bO := e; omega) (h.bl.trans b1).size)
  · refine ⟨Nat.le_trans kg.size ks.size, fun k hk x => ?_⟩
    refine (ks.block k (Nat.lt_of_lt_of_le hk kg.size) ?_).trans (kg.block k hk ?_)
    · intro e
      have e : k = bO := e
      subst e
      rcases x with x | x
      · exact hbO.1 x
      · exact hbO.2 x
    · intro e
      rcases x with x | x
      · exact (h.nO k e).2.2.1 x
      · exact (h.nO k e).2.2.2 x
variable {w : World} {sa da xa za : Option Addr} {n sc m dc k xc zl zc : Nat} {S : List St16} {D X z : List Int}
end Go.Proofs.YtmfpdchfofffeaaGreatDoor
