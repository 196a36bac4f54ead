
import Derived.Test.YtjoghmdjnkdokaaDoorRfA
import Derived.Test.YtjoghmdjnkdokaaDoorEnc
import Derived.Test.YtjoghmdjnkdokaaDoorFix
import Derived.Test.YtjoghmdjnkdokaaDoorCrcAwake
namespace Go.Proofs.YtjoghmdjnkdokaaDoor
open Go.RowKit Go.Shelf
set_option linter.unusedVariables false
set_option linter.unusedSimpArgs false

/-! The landed flash's Save: bytes behind bytes; sumOf. -/
theorem own_sl21 {w : World} {base n sz : Nat} {e : TypeId} {v : Value} {xs : List Value} (h : w.ownsRow base e sz v n xs) : ∃ p c, v = .slice p n c := by
  rcases h.2 with ⟨h1, h2⟩ | ⟨g, cap, cur, h1, _⟩
  · exact ⟨none, 0, by rw [h1, h2]⟩
  · exact ⟨_, _, h1⟩
theorem own_below21 {w w' : World} {base n sz : Nat} {e : TypeId} {v : Value} {xs : List Value} (h : w.ownsRow base e sz v n xs) (hb : Below w.heap.size w w') : w'.ownsRow base e sz v n xs := by
  refine ⟨h.1, ?_⟩
  rcases h.2 with q | ⟨g, cap, cur, q1, q2, q3, q4⟩
  · exact .inl q
  · exact .inr ⟨g, cap, cur, q1, q2, (hb.block g (Array.getElem?_eq_some_iff.1 q3).1).trans q3, q4⟩
theorem own_base21 {w : World} {base base' n sz : Nat} {e : TypeId} {v : Value} {xs : List Value} (h : w.ownsRow base e sz v n xs) (hb : base' ≤ base) : w.ownsRow base' e sz v n xs := by
  refine ⟨h.1, ?_⟩
  rcases h.2 with q | ⟨g, cap, cur, q1, q2, q3⟩
  · exact .inl q
  · exact .inr ⟨g, cap, cur, q1, Nat.le_trans hb q2, q3⟩
theorem own_kp21 {w w' : World} {base n sz : Nat} {e : TypeId} {v : Value} {xs : List Value} (h : w.ownsRow base e sz v n xs) (hk : ∀ k, v.ownBlock = some k → w'.heap[k]? = w.heap[k]?) : w'.ownsRow base e sz v n xs := by
  refine ⟨h.1, ?_⟩
  rcases h.2 with q | ⟨g, cap, cur, q1, q2, q3, q4⟩
  · exact .inl q
  · exact .inr ⟨g, cap, cur, q1, q2, (hk g (by rw [q1]; rfl)).trans q3, q4⟩
/-- A row of bytes behind another one; where they come from is all the same. -/
theorem app21g (V : World) {base m c c2 : Nat} {p : Option Addr} {p2 : Option Addr} {L M N : List Int} (hN : N = L ++ M) (ho : V.ownsRow base 5 1 (.slice p L.length c) L.length (L.map (Value.int .u8))) (h2 : Seg V p2 M) (hm : M.length = m) (hp : 0 < m) (hl : L.length + m ≤ 140737488355328) (hb : base ≤ V.heap.size) :
    ∃ g rc w', (Builtin.append_ #[22, 22] 22 #[.slice p L.length c, .slice p2 m c2]).run Tryd.prog V = .ok (.slice (some ⟨g, 0, none⟩) N.length rc) w' ∧ w'.ownsRow base 5 1 (.slice (some ⟨g, 0, none⟩) N.length rc) N.length (N.map (Value.int .u8)) ∧ Below base V w' ∧ Kp (fun k => (Value.slice p L.length c).ownBlock = some k) V w' ∧ ((Value.slice p L.length c).ownBlock = some g ∨ V.heap.size ≤ g) := by
  obtain ⟨i0, hi, hz0, hz1, hz2⟩ := info_parts info_y21
  subst hm
  obtain ⟨sg, soff, rfl, _⟩ := h2.at_ 0 (by omega)
  obtain ⟨g, rc, w', hr, h1, h3, h4, _⟩ := run_append_lies (P := Tryd.prog) V 22 22 base 5 i0 _ 1 1 Tryd.underlying22 hi hz0 hz1 hz2 rfl (by omega) _ _ _ ho ⟨sg, soff, none⟩ M.length c2 (M.map (Value.int .u8)) (by simp)
    (seg_cells h2) (ints_oneCell _ _) hp (by unfold maxLen; omega) (by omega) hb V.heap.size rfl
  have k1 := Kp.grown (S := fun k => (Value.slice p L.length c).ownBlock = some k) h3 (fun i e => e)
  subst hN
  rw [List.length_append, List.map_append]
  exact ⟨g, rc, w', hr, h1, k1.below (fun k x => (ho.lt k x).1) hb, k1, h4.imp_right (fun e => Nat.le_of_eq e.symm)⟩
theorem app21 (V : World) {base m c c2 : Nat} {p : Option Addr} {p2 : Option Addr} {L M N : List Int} (hN : N = L ++ M) (ho : V.ownsRow base 5 1 (.slice p L.length c) L.length (L.map (Value.int .u8))) (h2 : Seg V p2 M) (hm : M.length = m) (hp : 0 < m) (hl : L.length + m ≤ 140737488355328) (hb : base ≤ V.heap.size) :
    ∃ g rc w', (Builtin.append_ #[22, 22] 22 #[.slice p L.length c, .slice p2 m c2]).run Tryd.prog V = .ok (.slice (some ⟨g, 0, none⟩) N.length rc) w' ∧ w'.ownsRow base 5 1 (.slice (some ⟨g, 0, none⟩) N.length rc) N.length (N.map (Value.int .u8)) ∧ Below base V w' ∧ Kp (fun k => (Value.slice p L.length c).ownBlock = some k) V w' := by
  obtain ⟨g, rc, w', h1, h2, h3, h4, _⟩ := app21g V (c2 := c2) hN ho h2 hm hp hl hb
  exact ⟨g, rc, w', h1, h2, h3, h4⟩
theorem wpList_app21 {P : Program} {ops : Array Oper} {rest : List Oper} {o : Oper} {a : Act} {Q : Exit → Act → World → Prop} {w : World} (hgd : o.guard = none) (s x : Operand) (t : TypeId)
    (ho : o.op = Op.call { callee := Callee.builtin Builtin.append, args := #[s, x], argTypes := #[t, t] }) {u v v' : Value} {w' : World} (hs : a.eval s = u) (hx : a.eval x = v) (hr : (Builtin.append_ #[t, t] o.type #[u, v]).run P w = .ok v' w')
    (h : wpList P ops Q rest (a.put o.dst v') w') : wpList P ops Q (o :: rest) a w := by
  subst hs hx
  refine wpList_plain hgd fun K hK => ?_
  unfold Oper.wp execOp
  simp only [ho, resolve, invoke, builtin, Sem.run_bind, Sem.run_pure, Result.andThen_ok, List.map_toArray, List.map_cons, List.map_nil, hr]
  exact hK _ _ h
def sm21 (L : List Int) : List Int := fixL 4 (wI (sumW L))
theorem wI_bd21 (a : W32) : 0 ≤ wI a ∧ wI a ≤ 4294967295 := by
  have := a.isLt
  unfold wI
  omega
theorem sm21_len (L : List Int) : (sm21 L).length = 4 := fixL_len _ _
theorem sm21_bd (L : List Int) : ∀ z ∈ sm21 L, 0 ≤ z ∧ z ≤ 255 := fixL_bd _ _
/-- Four bytes of a row of their own. -/
def Sm21 (w : World) (L : List Int) (e : Ending) (w' : World) : Prop := ∃ g, e = .returned (.slice (some ⟨g, 0, none⟩) 4 4) ∧ w'.ownsRow w.heap.size 5 1 (.slice (some ⟨g, 0, none⟩) 4 4) 4 (L.map (Value.int .u8)) ∧ Seg w' (some ⟨g, 0, none⟩) L ∧ Below w.heap.size w w'
set_option maxRecDepth 100000 in
set_option maxHeartbeats 2000000 in
theorem psumof21 (a : Option Addr) (zs : List Int) (n cap : Nat) (w : World) (ht : Tab w) (hs : Seg w a zs) (hn : Hid (zs.length = n)) (hl : n ≤ 140737488355328) :
    Calls Tryd.prog 46 #[.slice a n cap] w fun e w' => Sm21 w (sm21 zs) e w' := by
  have e0 := hn.out
  subst e0
  obtain ⟨wA, hwA⟩ : ∃ wA, wA = w.alloc (.cells #[.slice a zs.length cap] 22) := ⟨_, rfl⟩
  have SM := sum_one w w.heap.size zs.length a zs cap 1 22 ht hs rfl rfl (by omega)
  have bA : Below w.heap.size w wA := by rw [hwA]; exact (Below.refl _ _).alloc (Nat.le_refl _) _
  rw [← hwA] at SM
  have HWA : Hid (w.alloc (.cells #[.slice a zs.length cap] 22) = wA) := hwA.symm
  have HBA : Hid (Below w.heap.size w wA) := bA
  have b0 := wI_bd21 (sumW zs)
  have HC : Hid (∀ v : Int, v = wI (sumW zs) → Calls Tryd.prog 67 #[.int .u64 v, .int .i64 4] wA fun e w' => e = .returned (.tuple #[.slice (some ⟨wA.heap.size, 0, none⟩) 4 4, .int .i64 0]) ∧
      w'.ownsRow wA.heap.size 5 1 (.slice (some ⟨wA.heap.size, 0, none⟩) 4 4) 4 ((fixL 4 v).map (Value.int .u8)) ∧ Below wA.heap.size wA w') := fun v hv => fixed_ok v 4 wA (by omega) (by omega) (by omega) (by omega) (by show v / 4294967296 = 0; omega)
  have HM : Hid (sm21 zs = fixL 4 (wI (sumW zs))) := rfl
  rw [HM.out]
  have hw : IntKind.u64.wrap (wI (sumW zs)) = wI (sumW zs) := IntWalk.u64_in _ (by omega)
  generalize hv : wI (sumW zs) = sv at *
  have C := HC.out sv rfl
  clear hwA ht hs hn hl b0 bA HM HC hv
  go_enter Tryd.func46, Tryd.ntmps46
  go_wp2_with fail
  rw [HWA.out]
  refine SM.mono ?_
  rintro e1 w1 ⟨rfl, hw1⟩
  subst w1
  clear SM
  go_wp2_with fail
  refine C.mono ?_
  rintro e2 w2 ⟨rfl, o2, b2⟩
  have HO : Hid (w2.ownsRow wA.heap.size 5 1 (.slice (some ⟨wA.heap.size, 0, none⟩) 4 4) 4 ((fixL 4 sv).map (Value.int .u8)) ∧ Below wA.heap.size wA w2) := ⟨o2, b2⟩
  clear o2 b2 C
  go_wp2_with fail
  go_ret
  obtain ⟨-, a', c', hv, sg, -⟩ := own_seg (M := 255) HO.out.1 (by decide) (fixL_bd _ _)
  injection hv with h1 h2 h3
  subst h1
  exact ⟨wA.heap.size, rfl, own_base21 HO.out.1 HBA.out.size, sg, HBA.out.trans (HO.out.2.mono HBA.out.size)⟩
end Go.Proofs.YtjoghmdjnkdokaaDoor
