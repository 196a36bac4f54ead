import Derived.Test.YtmjlpfmacblcpaaDoorFlC
import Derived.Test.YtmjlpfmacblcpaaDoorBtMem
import Derived.Deep.AppendLies
import Derived.Test.YtmjlpfmacblcpaaDoorProg
import Derived.WalkKit
import Derived.Lib.BitFns
import Derived.Laws.BitsAllLaws
import Derived.Test.YtmjlpfmacblcpaaDoorSeg
import Derived.Test.YtmjlpfmacblcpaaDoorPush
import Derived.WalkSpells
import Derived.WalkLawsBesides
import Derived.Test.YtmjlpfmacblcpaaDoorFix
import Derived.Test.YtmjlpfmacblcpaaDoorCrcAwake
namespace Go.Proofs.YtmjlpfmacblcpaaDoor
open Go.RowKit Go.Shelf
set_option linter.unusedVariables false
set_option linter.unusedSimpArgs false
theorem own_below21 {w w' : World} {base n sz : Nat} {e : TypeId} {v : Value} {xs : List Value} (h : w.ownsRow base e sz v n xs) (hb : Below w.heap.size w w') : w'.ownsRow base e sz v n xs := by
  refine ⟨h.1, ?_⟩
  rcases h.2 with q | ⟨g, cap, cur, q1, q2, q3, q4⟩
  · exact .inl q
  · exact .inr ⟨g, cap, cur, q1, q2, (hb.block g (Array.getElem?_eq_some_iff.1 q3).1).trans q3, q4⟩
theorem own_kp21 {w w' : World} {base n sz : Nat} {e : TypeId} {v : Value} {xs : List Value} (h : w.ownsRow base e sz v n xs) (hk : ∀ k, v.ownBlock = some k → w'.heap[k]? = w.heap[k]?) : w'.ownsRow base e sz v n xs := by
  refine ⟨h.1, ?_⟩
  rcases h.2 with q | ⟨g, cap, cur, q1, q2, q3, q4⟩
  · exact .inl q
  · exact .inr ⟨g, cap, cur, q1, q2, (hk g (by rw [q1]; rfl)).trans q3, q4⟩
/-- A row of bytes behind another one; where they come from is all the same. -/
theorem app21g (V : World) {base m c c2 : Nat} {p : Option Addr} {p2 : Option Addr} {L M N : List Int} (hN : N = L ++ M) (ho : V.ownsRow base 5 1 (.slice p L.length c) L.length (L.map (Value.int .u8))) (h2 : Seg V p2 M) (hm : M.length = m) (hp : 0 < m) (hl : L.length + m ≤ 140737488355328) (hb : base ≤ V.heap.size) :
    ∃ g rc w', (Builtin.append_ #[22, 22] 22 #[.slice p L.length c, .slice p2 m c2]).run Tryd.prog V = .ok (.slice (some ⟨g, 0, none⟩) N.length rc) w' ∧ w'.ownsRow base 5 1 (.slice (some ⟨g, 0, none⟩) N.length rc) N.length (N.map (Value.int .u8)) ∧ Below base V w' ∧ Kp (fun k => (Value.slice p L.length c).ownBlock = some k) V w' ∧ ((Value.slice p L.length c).ownBlock = some g ∨ V.heap.size ≤ g) := by
  obtain ⟨i0, hi, hz0, hz1, hz2⟩ := info_parts info_y21
  subst hm
  obtain ⟨sg, soff, rfl, _⟩ := h2.at_ 0 (by omega)
  obtain ⟨g, rc, w', hr, h1, h3, h4, _⟩ := run_append_lies (P := Tryd.prog) V 22 22 base 5 i0 _ 1 1 Tryd.underlying22 hi hz0 hz1 hz2 rfl (by omega) _ _ _ ho ⟨sg, soff, none⟩ M.length c2 (M.map (Value.int .u8)) (by simp)
    (seg_cells h2) (ints_oneCell _ _) hp (by unfold maxLen; omega) (by omega) hb V.heap.size rfl
  have k1 := Kp.grown (S := fun k => (Value.slice p L.length c).ownBlock = some k) h3 (fun i e => e)
  subst hN
  rw [List.length_append, List.map_append]
  exact ⟨g, rc, w', hr, h1, k1.below (fun k x => (ho.lt k x).1) hb, k1, h4.imp_right (fun e => Nat.le_of_eq e.symm)⟩
theorem app21 (V : World) {base m c c2 : Nat} {p : Option Addr} {p2 : Option Addr} {L M N : List Int} (hN : N = L ++ M) (ho : V.ownsRow base 5 1 (.slice p L.length c) L.length (L.map (Value.int .u8))) (h2 : Seg V p2 M) (hm : M.length = m) (hp : 0 < m) (hl : L.length + m ≤ 140737488355328) (hb : base ≤ V.heap.size) :
    ∃ g rc w', (Builtin.append_ #[22, 22] 22 #[.slice p L.length c, .slice p2 m c2]).run Tryd.prog V = .ok (.slice (some ⟨g, 0, none⟩) N.length rc) w' ∧ w'.ownsRow base 5 1 (.slice (some ⟨g, 0, none⟩) N.length rc) N.length (N.map (Value.int .u8)) ∧ Below base V w' ∧ Kp (fun k => (Value.slice p L.length c).ownBlock = some k) V w' := by
  obtain ⟨g, rc, w', h1, h2, h3, h4, _⟩ := app21g V (c2 := c2) hN ho h2 hm hp hl hb
  exact ⟨g, rc, w', h1, h2, h3, h4⟩
theorem wpList_app21 {P : Program} {ops : Array Oper} {rest : List Oper} {o : Oper} {a : Act} {Q : Exit → Act → World → Prop} {w : World} (hgd : o.guard = none) (s x : Operand) (t : TypeId)
    (ho : o.op = Op.call { callee := Callee.builtin Builtin.append, args := #[s, x], argTypes := #[t, t] }) {u v v' : Value} {w' : World} (hs : a.eval s = u) (hx : a.eval x = v) (hr : (Builtin.append_ #[t, t] o.type #[u, v]).run P w = .ok v' w')
    (h : wpList P ops Q rest (a.put o.dst v') w') : wpList P ops Q (o :: rest) a w := by
  subst hs hx
  refine wpList_plain hgd fun K hK => ?_
  unfold Oper.wp execOp
  simp only [ho, resolve, invoke, builtin, Sem.run_bind, Sem.run_pure, Result.andThen_ok, List.map_toArray, List.map_cons, List.map_nil, hr]
  exact hK _ _ h
def sm21 (L : List Int) : List Int := fixL 4 (wI (sumW L))
theorem wI_bd21 (a : W32) : 0 ≤ wI a ∧ wI a ≤ 4294967295 := by
  have := a.isLt
  unfold wI
  omega
end Go.Proofs.YtmjlpfmacblcpaaDoor
