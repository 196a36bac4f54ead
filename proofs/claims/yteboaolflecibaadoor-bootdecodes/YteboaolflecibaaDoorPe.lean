import Derived.Test.YteboaolflecibaaDoorPc
import Derived.Test.YteboaolflecibaaDoorPa
import Derived.Deep.AppendLies
import Derived.Test.YteboaolflecibaaDoorProg
import Derived.WalkKit
import Derived.Lib.BitFns
import Derived.Laws.BitsAllLaws
import Derived.WalkSpells
import Derived.WalkLawsBesides
import Derived.Test.YteboaolflecibaaDoorPd
namespace Go.Proofs.YteboaolflecibaaDoor
open Go.RowKit Go.Shelf
set_option linter.unusedVariables false
set_option linter.unusedSimpArgs false
theorem own_sl21 {w : World} {base n sz : Nat} {e : TypeId} {v : Value} {xs : List Value} (h : w.ownsRow base e sz v n xs) : ∃ p c, v = .slice p n c := by
  rcases h.2 with ⟨h1, h2⟩ | ⟨g, cap, cur, h1, _⟩
  · exact ⟨none, 0, by rw [h1, h2]⟩
  · exact ⟨_, _, h1⟩
theorem own_below21 {w w' : World} {base n sz : Nat} {e : TypeId} {v : Value} {xs : List Value} (h : w.ownsRow base e sz v n xs) (hb : Below w.heap.size w w') : w'.ownsRow base e sz v n xs := by
  refine ⟨h.1, ?_⟩
  rcases h.2 with q | ⟨g, cap, cur, q1, q2, q3, q4⟩
  · exact .inl q
  · exact .inr ⟨g, cap, cur, q1, q2, (hb.block g (Array.getElem?_eq_some_iff.1 q3).1).trans q3, q4⟩
theorem own_base21 {w : World} {base base' n sz : Nat} {e : TypeId} {v : Value} {xs : List Value} (h : w.ownsRow base e sz v n xs) (hb : base' ≤ base) : w.ownsRow base' e sz v n xs := by
  refine ⟨h.1, ?_⟩
  rcases h.2 with q | ⟨g, cap, cur, q1, q2, q3⟩
  · exact .inl q
  · exact .inr ⟨g, cap, cur, q1, Nat.le_trans hb q2, q3⟩
theorem own_kp21 {w w' : World} {base n sz : Nat} {e : TypeId} {v : Value} {xs : List Value} (h : w.ownsRow base e sz v n xs) (hk : ∀ k, v.ownBlock = some k → w'.heap[k]? = w.heap[k]?) : w'.ownsRow base e sz v n xs := by
  refine ⟨h.1, ?_⟩
  rcases h.2 with q | ⟨g, cap, cur, q1, q2, q3, q4⟩
  · exact .inl q
  · exact .inr ⟨g, cap, cur, q1, q2, (hk g (by rw [q1]; rfl)).trans q3, q4⟩
/-- A row of bytes behind another one; where they come from is all the same. -/
theorem app21g (V : World) {base m c c2 : Nat} {p : Option Addr} {p2 : Option Addr} {L M N : List Int} (hN : N = L ++ M) (ho : V.ownsRow base 5 1 (.slice p L.length c) L.length (L.map (Value.int .u8))) (h2 : Seg V p2 M) (hm : M.length = m) (hp : 0 < m) (hl : L.length + m ≤ 140737488355328) (hb : base ≤ V.heap.size) :
    ∃ g rc w', (Builtin.append_ #[28, 28] 28 #[.slice p L.length c, .slice p2 m c2]).run Tryd.prog V = .ok (.slice (some ⟨g, 0, none⟩) N.length rc) w' ∧ w'.ownsRow base 5 1 (.slice (some ⟨g, 0, none⟩) N.length rc) N.length (N.map (Value.int .u8)) ∧ Below base V w' ∧ Kp (fun k => (Value.slice p L.length c).ownBlock = some k) V w' ∧ ((Value.slice p L.length c).ownBlock = some g ∨ V.heap.size ≤ g) := by
  obtain ⟨i0, hi, hz0, hz1, hz2⟩ := info_parts info_y21
  subst hm
  obtain ⟨sg, soff, rfl, _⟩ := h2.at_ 0 (by omega)
  obtain ⟨g, rc, w', hr, h1, h3, h4, _⟩ := run_append_lies (P := Tryd.prog) V 28 28 base 5 i0 _ 1 1 Tryd.underlying28 hi hz0 hz1 hz2 rfl (by omega) _ _ _ ho ⟨sg, soff, none⟩ M.length c2 (M.map (Value.int .u8)) (by simp)
    (seg_cells h2) (ints_oneCell _ _) hp (by unfold maxLen; omega) (by omega) hb V.heap.size rfl
  have k1 := Kp.grown (S := fun k => (Value.slice p L.length c).ownBlock = some k) h3 (fun i e => e)
  subst hN
  rw [List.length_append, List.map_append]
  exact ⟨g, rc, w', hr, h1, k1.below (fun k x => (ho.lt k x).1) hb, k1, h4.imp_right (fun e => Nat.le_of_eq e.symm)⟩
theorem app21 (V : World) {base m c c2 : Nat} {p : Option Addr} {p2 : Option Addr} {L M N : List Int} (hN : N = L ++ M) (ho : V.ownsRow base 5 1 (.slice p L.length c) L.length (L.map (Value.int .u8))) (h2 : Seg V p2 M) (hm : M.length = m) (hp : 0 < m) (hl : L.length + m ≤ 140737488355328) (hb : base ≤ V.heap.size) :
    ∃ g rc w', (Builtin.append_ #[28, 28] 28 #[.slice p L.length c, .slice p2 m c2]).run Tryd.prog V = .ok (.slice (some ⟨g, 0, none⟩) N.length rc) w' ∧ w'.ownsRow base 5 1 (.slice (some ⟨g, 0, none⟩) N.length rc) N.length (N.map (Value.int .u8)) ∧ Below base V w' ∧ Kp (fun k => (Value.slice p L.length c).ownBlock = some k) V w' := by
  obtain ⟨g, rc, w', h1, h2, h3, h4, _⟩ := app21g V (c2 := c2) hN ho h2 hm hp hl hb
  exact ⟨g, rc, w', h1, h2, h3, h4⟩
theorem wpList_app21 {P : Program} {ops : Array Oper} {rest : List Oper} {o : Oper} {a : Act} {Q : Exit → Act → World → Prop} {w : World} (hgd : o.guard = none) (s x : Operand) (t : TypeId)
    (ho : o.op = Op.call { callee := Callee.builtin Builtin.append, args := #[s, x], argTypes := #[t, t] }) {u v v' : Value} {w' : World} (hs : a.eval s = u) (hx : a.eval x = v) (hr : (Builtin.append_ #[t, t] o.type #[u, v]).run P w = .ok v' w')
    (h : wpList P ops Q rest (a.put o.dst v') w') : wpList P ops Q (o :: rest) a w := by
  subst hs hx
  refine wpList_plain hgd fun K hK => ?_
  unfold Oper.wp execOp
  simp only [ho, resolve, invoke, builtin, Sem.run_bind, Sem.run_pure, Result.andThen_ok, List.map_toArray, List.map_cons, List.map_nil, hr]
  exact hK _ _ h
def sm21 (L : List Int) : List Int := fixL 4 (wI (sumW L))
theorem wI_bd21 (a : W32) : 0 ≤ wI a ∧ wI a ≤ 4294967295 := by
  have := a.isLt
  unfold wI
  omega
theorem sm21_bd (L : List Int) : ∀ z ∈ sm21 L, 0 ≤ z ∧ z ≤ 255 := fixL_bd _ _
end Go.Proofs.YteboaolflecibaaDoor

namespace Go.Proofs.YteboaolflecibaaDoor
open Go.RowKit Go.Shelf
set_option linter.unusedVariables false
set_option linter.unusedSimpArgs false
section
variable {P : Program} {ops : Array Oper} {Q : Exit → Act → World → Prop} {md : Region.Mode} {S : World → Prop} {fin : Nat}
theorem wpAnyK_two24 {i j : Nat} {fuel : Nat} {listed : Array Bool} {a : Act} {w : World} {o p : Oper} (hr : Region.ready md ops listed = [i, j]) (ho : ops[i]? = some o) (hp : ops[j]? = some p)
    (h : ∀ K' : Act → World → Prop, Shut (∀ a w, (i ≠ fin → S w) → ((i ≠ fin → S w) → wpAnyK P md ops Q S fin fuel (listed.setIfInBounds i true) a w) → K' a w) → if Region.wanted o (yielded ops a.tmps) = true then Oper.wp P o a w K' Q else K' (a.put o.dst undef) w)
    (h2 : ∀ K' : Act → World → Prop, Shut (∀ a w, (j ≠ fin → S w) → ((j ≠ fin → S w) → wpAnyK P md ops Q S fin fuel (listed.setIfInBounds j true) a w) → K' a w) → if Region.wanted p (yielded ops a.tmps) = true then Oper.wp P p a w K' Q else K' (a.put p.dst undef) w) :
    wpAnyK P md ops Q S fin (fuel + 1) listed a w :=
  ⟨fun h0 => (by rw [hr] at h0; cases h0), fun k hk => by
    rw [hr] at hk
    have : k = i ∨ k = j := by simpa using hk
    rcases this with rfl | rfl
    · exact wpOp_step ho (fun K' hK => h K' (fun a w hS hW => hK a w ⟨hS, hW hS⟩))
    · exact wpOp_step hp (fun K' hK => h2 K' (fun a w hS hW => hK a w ⟨hS, hW hS⟩))⟩
end
theorem operwp_app24 {P : Program} {o : Oper} {a : Act} {K : Act → World → Prop} {Q : Exit → Act → World → Prop} {w : World} (s x : Operand) (t : TypeId)
    (ho : o.op = Op.call { callee := Callee.builtin Builtin.append, args := #[s, x], argTypes := #[t, t] }) {u v v' : Value} {w' : World} (hs : a.eval s = u) (hx : a.eval x = v) (hr : (Builtin.append_ #[t, t] o.type #[u, v]).run P w = .ok v' w')
    (h : K (a.put o.dst v') w') : Oper.wp P o a w K Q := by
  unfold Oper.wp execOp
  simp only [ho, resolve, invoke, builtin, Sem.run_bind, Sem.run_pure, Result.andThen_ok, List.map_toArray, List.map_cons, List.map_nil, hs, hx, hr]
  exact h
end Go.Proofs.YteboaolflecibaaDoor

namespace Go.Proofs.YteboaolflecibaaDoor
open Go.RowKit Go.Shelf
set_option linter.unusedVariables false
set_option linter.unusedSimpArgs false
def fz25 : Nat → Int := fun k => ([8, 1, 4, 4, 4, 1, 4, 4, 4, 1] : List Int).getD k 0
def fu25 (k : Nat) : Bool := k == 4 || k == 8
def fpt25 (k : Nat) : TypeId := if fu25 k then 147 else 143
def ffn25 (k : Nat) : Nat := if fu25 k then 92 else 91
structure Fb25 (V : World) (N rb k a s : Nat) : Prop where
  la : N ≤ a
  ls : N ≤ s
  ha : V.heap[a]? = some (.cells #[.pointer (some ⟨rb, k, none⟩)] (fpt25 k) (0, 0))
  hs : V.heap[s]? = some (.cells #[.int .i64 (fz25 k)] 3 (0, 0))
def fv25 (k a s : Nat) : Value := .func (.func (ffn25 k)) #[] #[.pointer (some ⟨a, 0, none⟩), .pointer (some ⟨s, 0, none⟩)]
def Fs25 (V : World) (N rb n : Nat) (xs : List Value) : Prop := xs.length = n ∧ ∀ k, k < n → ∃ a s, xs[k]? = some (fv25 k a s) ∧ Fb25 V N rb k a s
theorem Fb25.old {V W : World} {N rb k a s : Nat} (h : Fb25 V N rb k a s) (hb : Below V.heap.size V W) : Fb25 W N rb k a s :=
  ⟨h.la, h.ls, (hb.block _ (Array.getElem?_eq_some_iff.1 h.ha).1).trans h.ha, (hb.block _ (Array.getElem?_eq_some_iff.1 h.hs).1).trans h.hs⟩
theorem Fb25.kp {V W : World} {S : Nat → Prop} {N rb k a s : Nat} (h : Fb25 V N rb k a s) (hb : Kp S V W) (h1 : ¬ S a) (h2 : ¬ S s) : Fb25 W N rb k a s :=
  ⟨h.la, h.ls, hb.heap h.ha h1, hb.heap h.hs h2⟩
set_option maxRecDepth 100000 in
theorem pnum25i (rb k : Nat) (z : Int) (w : World) (hk : fu25 k = false) (hz : fz25 k = z) : Calls Tryd.prog 74 #[.pointer (some ⟨rb, k, none⟩), .int .i64 z] w fun e w' => ∃ a s, e = .returned (fv25 k a s) ∧ Fb25 w' w.heap.size rb k a s ∧ Below w.heap.size w w' := by
  have hmf : ∀ (fn : Fn) (first cap : Array Value) (w : World), (Instr.makeFunc fn first cap).run Tryd.prog w = .ok (.func fn first cap) w := fun _ _ _ _ => rfl
  have e1 : fpt25 k = 143 := by unfold fpt25; rw [hk]; rfl
  have e2 : ffn25 k = 91 := by unfold ffn25; rw [hk]; rfl
  go_enter Tryd.func74, Tryd.ntmps74
  go_wp2
  go_ret
  refine ⟨w.heap.size, w.heap.size + 1, by unfold fv25; rw [e2]; rfl, ⟨Nat.le_refl _, by omega, ?_, ?_⟩, ((Below.refl _ _).alloc (Nat.le_refl _) _).alloc (by simp) _⟩
  · rw [e1, heap_alloc_old _ _ (by simp)]; exact heap_alloc_new _ _
  · rw [hz]; exact heap_alloc2_new _ _ _
set_option maxRecDepth 100000 in
theorem pnum25u (rb k : Nat) (z : Int) (w : World) (hk : fu25 k = true) (hz : fz25 k = z) : Calls Tryd.prog 75 #[.pointer (some ⟨rb, k, none⟩), .int .i64 z] w fun e w' => ∃ a s, e = .returned (fv25 k a s) ∧ Fb25 w' w.heap.size rb k a s ∧ Below w.heap.size w w' := by
  have hmf : ∀ (fn : Fn) (first cap : Array Value) (w : World), (Instr.makeFunc fn first cap).run Tryd.prog w = .ok (.func fn first cap) w := fun _ _ _ _ => rfl
  have e1 : fpt25 k = 147 := by unfold fpt25; rw [hk]; rfl
  have e2 : ffn25 k = 92 := by unfold ffn25; rw [hk]; rfl
  go_enter Tryd.func75, Tryd.ntmps75
  go_wp2
  go_ret
  refine ⟨w.heap.size, w.heap.size + 1, by unfold fv25; rw [e2]; rfl, ⟨Nat.le_refl _, by omega, ?_, ?_⟩, ((Below.refl _ _).alloc (Nat.le_refl _) _).alloc (by simp) _⟩
  · rw [e1, heap_alloc_old _ _ (by simp)]; exact heap_alloc_new _ _
  · rw [hz]; exact heap_alloc2_new _ _ _
theorem info_fd25 : (Tryd.prog.info? 89).map (fun i => (i.zero, i.size, i.bytes)) = some (some .nilFunc, 1, 8) := by kernel_rfl
/-- Fields behind fields. -/
theorem appf25 (V : World) {base n m cp c2 g2 : Nat} {p : Option Addr} {xs news : List Value} {fr : Nat × Nat} (ho : V.ownsRow base 89 1 (.slice p n cp) n xs) (hq : V.heap[g2]? = some (.cells news.toArray 89 fr)) (hm : news.length = m) (hf : ∀ u ∈ news, u.oneCell' = true) (hp : 0 < m) (hn : n ≤ 100) (hm1 : m ≤ 100) (hb : base ≤ V.heap.size) (ty : TypeId) :
    ∃ g rc w', (Builtin.append_ #[85, 85] ty #[.slice p n cp, .slice (some ⟨g2, 0, none⟩) m c2]).run Tryd.prog V = .ok (.slice (some ⟨g, 0, none⟩) (n + m) rc) w' ∧ w'.ownsRow base 89 1 (.slice (some ⟨g, 0, none⟩) (n + m) rc) (n + m) (xs ++ news) ∧ Kp (fun k => (Value.slice p n cp).ownBlock = some k) V w' := by
  obtain ⟨i0, hi, hz0, hz1, hz2⟩ := info_parts info_fd25
  subst hm
  obtain ⟨g, rc, w', hr, h1, h3, h4, _⟩ := run_append_lies (P := Tryd.prog) V 85 ty base 89 i0 _ 1 8 Tryd.underlying85 hi hz0 hz1 hz2 rfl (by omega) _ _ _ ho ⟨g2, 0, none⟩ news.length c2 news (by simp)
    (fun j u hu => by
      have hadd : (⟨g2, 0, none⟩ : Addr).add j = ⟨g2, j, none⟩ := by unfold Addr.add; split <;> simp_all
      rw [hadd]; simp [World.cell?, hq, hu]) hf hp (by unfold maxLen; omega) (by omega) hb V.heap.size rfl
  exact ⟨g, rc, w', hr, h1, Kp.grown (S := fun k => (Value.slice p n cp).ownBlock = some k) h3 (fun i e => e)⟩
/-- One row of fields more. -/
theorem Fs25.app {V : World} {N rb n m : Nat} {xs news : List Value} (h : Fs25 V N rb n xs) (hm : news.length = m) (hn : ∀ j, j < m → ∃ a s, news[j]? = some (fv25 (n + j) a s) ∧ Fb25 V N rb (n + j) a s) : Fs25 V N rb (n + m) (xs ++ news) := by
  refine ⟨by rw [List.length_append, h.1, hm], fun k hk => ?_⟩
  by_cases hl : k < n
  · obtain ⟨a, s, e, f⟩ := h.2 k hl
    exact ⟨a, s, by rw [List.getElem?_append_left (by rw [h.1]; exact hl)]; exact e, f⟩
  · obtain ⟨a, s, e, f⟩ := hn (k - n) (by omega)
    rw [show n + (k - n) = k by omega] at e f
    exact ⟨a, s, by rw [List.getElem?_append_right (by rw [h.1]; omega), h.1]; exact e, f⟩
theorem Fs25.old {V W : World} {N rb n : Nat} {xs : List Value} (h : Fs25 V N rb n xs) (hb : Below V.heap.size V W) : Fs25 W N rb n xs := ⟨h.1, fun k hk => by obtain ⟨a, s, e, f⟩ := h.2 k hk; exact ⟨a, s, e, f.old hb⟩⟩
end Go.Proofs.YteboaolflecibaaDoor
