import Derived.Test.YtmfpdchfofffeaaGreatDoorCu3
namespace Go.Proofs.YtmfpdchfofffeaaGreatDoor
open Go.RowKit Go.Shelf
set_option linter.unusedVariables false
variable {base bw : Nat} {vS vD vX : Value} {s : Pt17} {w : World}
/-- A step of noughts is appended through the part's pointer. -/
structure Ap17 (base bw : Nat) (vS vD vX : Value) (s : Pt17) (V : World) (g rc : Nat) (w' : World) : Prop where
  hr : (Builtin.append_ #[46, 46] 46 #[vS, .slice (some ⟨V.heap.size, 0, none⟩) 1 1]).run Tryz.prog (V.alloc (.cells #[.int .i64 0, .int .i64 0, .int .i64 0] 108)) = .ok (.slice (some ⟨g, 0, none⟩) (s.S.length + 1) rc) w'
  hp : w'.heap[bw]? = some (.cells #[.int .i64 s.pos, vS, vD, vX, .int .i64 s.p] 116 (0, 0))
  pr : Pr17 base bw (.slice (some ⟨g, 0, none⟩) (s.S.length + 1) rc) vD vX { s with S := s.S ++ [z16] } (w'.setCell ⟨bw, 1, none⟩ (.slice (some ⟨g, 0, none⟩) (s.S.length + 1) rc))
  kp : Kp (Pf17 bw vS vD vX) V (w'.setCell ⟨bw, 1, none⟩ (.slice (some ⟨g, 0, none⟩) (s.S.length + 1) rc))
  kw : Kp (fun k => vS.ownBlock = some k) V w'
  ft : ∀ k, Pf17 bw (.slice (some ⟨g, 0, none⟩) (s.S.length + 1) rc) vD vX k → Pf17 bw vS vD vX k ∨ V.heap.size ≤ k
theorem Pr17.app (h : Pr17 base bw vS vD vX s w) (hl : s.S.length + 1 ≤ 1099511627776) : ∃ g rc w', Ap17 base bw vS vD vX s w g rc w' := by
  obtain ⟨g, rc, w', hr, ow, k1, at1⟩ := apps16 w z16 h.oS hl (Nat.le_of_lt (Nat.lt_of_le_of_lt h.bb (h.lt bw (.inl rfl)).2))
  obtain ⟨p1, p2, p3⟩ := h.setS ow k1 at1
  refine ⟨g, rc, w', hr, p1, p2, p3, k1, ?_⟩
  rintro k (x | x | x | x)
  · exact .inl (.inl x)
  · have x : some g = some k := x
    injection x with x
    subst x
    rcases at1 with y | y
    · exact .inl (.inr (.inl y))
    · exact .inr y
  · exact .inl (.inr (.inr (.inl x)))
  · exact .inl (.inr (.inr (.inr x)))
theorem wpList_app17 {P : Program} {ops : Array Oper} {rest : List Oper} {o : Oper} {a : Act} {Q : Exit → Act → World → Prop} {w : World} (hg : o.guard = none) (s x : Operand) (t : TypeId)
    (hop : o.op = Op.call { callee := Callee.builtin Builtin.append, args := #[s, x], argTypes := #[t, t] }) {u v v' : Value} {w' : World} (hs : a.eval s = u) (hx : a.eval x = v) (hr : (Builtin.append_ #[t, t] o.type #[u, v]).run P w = .ok v' w')
    (h : wpList P ops Q rest (a.put o.dst v') w') : wpList P ops Q (o :: rest) a w := by
  refine wpList_plain hg fun K hK' => ?_
  exact operwp_app16 s x t hop hs hx hr (hK' _ _ h)
theorem own_sl17 {w : World} {base n sz : Nat} {e : TypeId} {v : Value} {xs : List Value} (h : w.ownsRow base e sz v n xs) : ∃ p c, v = .slice p n c := by
  rcases h.2 with ⟨h1, h2⟩ | ⟨g, cap, cur, h1, _⟩
  · exact ⟨none, 0, by rw [h1, h2]⟩
  · exact ⟨_, cap, h1⟩
/-- Behind the append: the place is told. -/
theorem Ap17.fin {g rc : Nat} {w' V : World} (A : Ap17 base bw vS vD vX s V g rc w') (hK : Kp (Pf17 bw vS vD vX) w V) (to : Int) (s' : Pt17) (hs : s' = { s with S := s.S ++ [z16], p := to }) : TkQ17 base bw vS vD vX s' w (.returned (.tuple #[])) ((w'.setCell ⟨bw, 1, none⟩ (.slice (some ⟨g, 0, none⟩) (s.S.length + 1) rc)).setCell ⟨bw, 4, none⟩ (.int .i64 to)) := by
  have h1 := A.pr
  have h2 : Pr17 base bw (.slice (some ⟨g, 0, none⟩) (s.S.length + 1) rc) vD vX s' ((w'.setCell ⟨bw, 1, none⟩ (.slice (some ⟨g, 0, none⟩) (s.S.length + 1) rc)).setCell ⟨bw, 4, none⟩ (.int .i64 to)) := h1.num (by rw [hs]) (by rw [hs]) (by rw [hs]) (by rw [hs]; exact five_set4 h1.hp _)
  refine ⟨rfl, _, _, _, h2, (hK.trans A.kp (fun _ _ x => x)).trans (Kp.set (S := Pf17 bw vS vD vX) (.inl rfl) _) (fun _ _ x => x), fun k x => ?_⟩
  rcases A.ft k x with y | y
  · exact .inl y
  · exact .inr (Nat.le_trans hK.size y)
set_option maxRecDepth 100000 in
set_option maxHeartbeats 4000000 in
theorem plead17_nil (to : Int) (h : Pr17 base bw vS vD vX s w) (hs : s.S = []) :
    Calls Tryz.prog 92 #[.pointer (some ⟨bw, 0, none⟩), .int .i64 to] w (TkQ17 base bw vS vD vX (s.lead to) w) := by
  obtain ⟨c0, c1, c2, c3, c4⟩ := five_cells h.hp
  obtain ⟨g, rc, w', A⟩ := h.app (by rw [hs]; decide)
  have HF : Hid (TkQ17 base bw vS vD vX (s.lead to) w (.returned (.tuple #[])) ((w'.setCell ⟨bw, 1, none⟩ (.slice (some ⟨g, 0, none⟩) (s.S.length + 1) rc)).setCell ⟨bw, 4, none⟩ (.int .i64 to))) := A.fin (Kp.refl _ _) to _ (by unfold Pt17.lead; rw [if_pos hs, hs]; rfl)
  have hr := A.hr
  obtain ⟨d0, d1, d2, d3, d4⟩ := five_cells A.hp
  have f1 := five_free (i := 1) A.hp
  have q := five_set1 A.hp (.slice (some ⟨g, 0, none⟩) (s.S.length + 1) rc)
  obtain ⟨e0, e1, e2, e3, e4⟩ := five_cells q
  have f4 := five_free (i := 4) q
  obtain ⟨sp, sc, hvS⟩ := own_sl17 h.oS
  rw [hs] at hvS hr HF e0 e1 e2 e3 e4 f4
  simp only [List.length_nil] at hvS hr HF e0 e1 e2 e3 e4 f4
  subst hvS
  clear A h q
  go_enter Tryz.func92, Tryz.ntmps92
  go_wp2_with (first
    | (at_builtin; refine wpList_app17 rfl (.tmp 51) (.tmp 53) 46 rfl rfl rfl hr ?_))
  go_end0
  exact HF.out
set_option maxRecDepth 100000 in
set_option maxHeartbeats 4000000 in
theorem plead17_stay (to : Int) (h : Pr17 base bw vS vD vX s w) (hs : s.S ≠ []) (hl : s.S.length ≤ 1073741824) (h0 : (s.S.getLastD z16).2.1 = 0) (ht : to = s.p) :
    Calls Tryz.prog 92 #[.pointer (some ⟨bw, 0, none⟩), .int .i64 to] w (TkQ17 base bw vS vD vX (s.lead to) w) := by
  obtain ⟨c0, c1, c2, c3, c4⟩ := five_cells h.hp
  obtain ⟨g, r, c, L⟩ := h.last hs
  have HF : Hid (TkQ17 base bw vS vD vX (s.lead to) w (.returned (.tuple #[])) w) := ⟨rfl, vS, vD, vX, by unfold Pt17.lead; rw [if_neg hs, if_pos ⟨h0, ht⟩]; exact h, Kp.refl _ _, fun k x => .inl x⟩
  have hb : r + 1 ≤ 1073741824 := by rw [← L.ln]; exact hl
  have hvS := L.vs
  have l1 := L.c1
  rw [h0] at l1
  obtain ⟨N, hN⟩ : ∃ N, N = r + 1 := ⟨_, rfl⟩
  rw [← hN] at hvS
  have hw1 : IntKind.i64.wrap ((N : Int) - 1) = (r : Int) := by rw [IntWalk.i64_in _ (by omega)]; omega
  have hp1 : (0 : Int) < (N : Int) := by omega
  have hp2 : (r : Int) < (N : Int) := by omega
  have hp3 : (0 : Int) ≤ (r : Int) := by omega
  have hp4 : r < N := by omega
  subst hvS
  subst ht
  clear h L hN
  go_enter Tryz.func92, Tryz.ntmps92
  go_wp2
  go_end0
  exact HF.out
set_option maxRecDepth 100000 in
set_option maxHeartbeats 4000000 in
theorem plead17_cpy (to : Int) (h : Pr17 base bw vS vD vX s w) (hs : s.S ≠ []) (hl : s.S.length + 1 ≤ 1073741824) (h0 : (s.S.getLastD z16).2.1 ≠ 0) (hto : -1152921504606846976 ≤ to ∧ to ≤ 1152921504606846976) (hpp : -1152921504606846976 ≤ s.p ∧ s.p ≤ 1152921504606846976) :
    Calls Tryz.prog 92 #[.pointer (some ⟨bw, 0, none⟩), .int .i64 to] w (TkQ17 base bw vS vD vX (s.lead to) w) := by
  obtain ⟨c0, c1, c2, c3, c4⟩ := five_cells h.hp
  obtain ⟨g, r, c, L⟩ := h.last hs
  have hg : vS.ownBlock = some g := by rw [L.vs]; rfl
  have hlr : s.S.length - 1 = r := by have := L.ln; omega
  obtain ⟨h1, k1⟩ := h.turn L (j := 2) (S' := ml17 (sek17 (to - s.p)) s.S) (u := .int .i64 (to - s.p)) (by omega) (by rw [← hlr]; exact flat17_set2 hs _) (ml17_len hs)
  obtain ⟨w1, hw1⟩ : ∃ w1, w1 = w.setCell ⟨g, r * 3 + 2, none⟩ (.int .i64 (to - s.p)) := ⟨_, rfl⟩
  rw [← hw1] at h1 k1
  obtain ⟨g2, rc, w', A⟩ := h1.app (by rw [ml17_len hs]; omega)
  have HF : Hid (TkQ17 base bw vS vD vX (s.lead to) w (.returned (.tuple #[])) ((w'.setCell ⟨bw, 1, none⟩ (.slice (some ⟨g2, 0, none⟩) ((ml17 (sek17 (to - s.p)) s.S).length + 1) rc)).setCell ⟨bw, 4, none⟩ (.int .i64 to))) := A.fin k1 to _ (by unfold Pt17.lead; rw [if_neg hs, if_neg (by omega)])
  have hr := A.hr
  obtain ⟨a0, a1, a2, a3, a4⟩ := five_cells h1.hp
  obtain ⟨d0, d1, d2, d3, d4⟩ := five_cells A.hp
  have f1 := five_free (i := 1) A.hp
  have q := five_set1 A.hp (.slice (some ⟨g2, 0, none⟩) ((ml17 (sek17 (to - s.p)) s.S).length + 1) rc)
  obtain ⟨e0, e1, e2, e3, e4⟩ := five_cells q
  have f4 := five_free (i := 4) q
  have fr := L.fr (r * 3 + 2)
  have hb : r + 1 ≤ 1073741824 := by rw [← L.ln]; omega
  have hvS := L.vs
  have l1 := L.c1
  have l2 := L.c2
  obtain ⟨N, hN⟩ : ∃ N, N = r + 1 := ⟨_, rfl⟩
  rw [← hN] at hvS
  have hw2 : IntKind.i64.wrap ((N : Int) - 1) = (r : Int) := by rw [IntWalk.i64_in _ (by omega)]; omega
  have hw3 : IntKind.i64.wrap (to - s.p) = to - s.p := IntWalk.i64_in _ (by omega)
  have hp1 : (0 : Int) < (N : Int) := by omega
  have hp2 : (r : Int) < (N : Int) := by omega
  have hp3 : (0 : Int) ≤ (r : Int) := by omega
  have hp4 : r < N := by omega
  simp only at *
  generalize (ml17 (sek17 (to - s.p)) s.S).length + 1 = M at *
  subst hvS
  have HW1 : Hid (w.setCell ⟨g, r * 3 + 2, none⟩ (.int .i64 (to - s.p)) = w1) := hw1.symm
  have z1 : w1.heap.size = w.heap.size := by rw [hw1]; simp
  rw [z1] at hr
  rw [hw1] at hr a0 a1 a2 a3 a4
  clear z1
  clear h h1 k1 L hN A q hlr hg hw1 hs
  generalize (s.S.getLastD z16).2.2 = u2 at *
  generalize (s.S.getLastD z16).2.1 = u1 at *
  have hbq : (u1 == 0) = false := by simp; exact h0
  have hbd : decide (u1 = 0) = false := decide_eq_false h0
  go_enter Tryz.func92, Tryz.ntmps92
  go_wp2_with (first
    | (at_builtin; refine wpList_app17 rfl (.tmp 51) (.tmp 53) 46 rfl rfl rfl hr ?_))
  go_end0
  exact HF.out
set_option maxRecDepth 100000 in
set_option maxHeartbeats 4000000 in
theorem plead17_far (to : Int) (h : Pr17 base bw vS vD vX s w) (hs : s.S ≠ []) (hl : s.S.length + 1 ≤ 1073741824) (h0 : (s.S.getLastD z16).2.1 = 0) (ht : to ≠ s.p) (hto : -1152921504606846976 ≤ to ∧ to ≤ 1152921504606846976) (hpp : -1152921504606846976 ≤ s.p ∧ s.p ≤ 1152921504606846976) :
    Calls Tryz.prog 92 #[.pointer (some ⟨bw, 0, none⟩), .int .i64 to] w (TkQ17 base bw vS vD vX (s.lead to) w) := by
  obtain ⟨c0, c1, c2, c3, c4⟩ := five_cells h.hp
  obtain ⟨g, r, c, L⟩ := h.last hs
  have hg : vS.ownBlock = some g := by rw [L.vs]; rfl
  have hlr : s.S.length - 1 = r := by have := L.ln; omega
  obtain ⟨h1, k1⟩ := h.turn L (j := 2) (S' := ml17 (sek17 (to - s.p)) s.S) (u := .int .i64 (to - s.p)) (by omega) (by rw [← hlr]; exact flat17_set2 hs _) (ml17_len hs)
  obtain ⟨w1, hw1⟩ : ∃ w1, w1 = w.setCell ⟨g, r * 3 + 2, none⟩ (.int .i64 (to - s.p)) := ⟨_, rfl⟩
  rw [← hw1] at h1 k1
  obtain ⟨g2, rc, w', A⟩ := h1.app (by rw [ml17_len hs]; omega)
  have HF : Hid (TkQ17 base bw vS vD vX (s.lead to) w (.returned (.tuple #[])) ((w'.setCell ⟨bw, 1, none⟩ (.slice (some ⟨g2, 0, none⟩) ((ml17 (sek17 (to - s.p)) s.S).length + 1) rc)).setCell ⟨bw, 4, none⟩ (.int .i64 to))) := A.fin k1 to _ (by unfold Pt17.lead; rw [if_neg hs, if_neg (by omega)])
  have hr := A.hr
  obtain ⟨a0, a1, a2, a3, a4⟩ := five_cells h1.hp
  obtain ⟨d0, d1, d2, d3, d4⟩ := five_cells A.hp
  have f1 := five_free (i := 1) A.hp
  have q := five_set1 A.hp (.slice (some ⟨g2, 0, none⟩) ((ml17 (sek17 (to - s.p)) s.S).length + 1) rc)
  obtain ⟨e0, e1, e2, e3, e4⟩ := five_cells q
  have f4 := five_free (i := 4) q
  have fr := L.fr (r * 3 + 2)
  have hb : r + 1 ≤ 1073741824 := by rw [← L.ln]; omega
  have hvS := L.vs
  have l1 := L.c1
  have l2 := L.c2
  obtain ⟨N, hN⟩ : ∃ N, N = r + 1 := ⟨_, rfl⟩
  rw [← hN] at hvS
  have hw2 : IntKind.i64.wrap ((N : Int) - 1) = (r : Int) := by rw [IntWalk.i64_in _ (by omega)]; omega
  have hw3 : IntKind.i64.wrap (to - s.p) = to - s.p := IntWalk.i64_in _ (by omega)
  have hp1 : (0 : Int) < (N : Int) := by omega
  have hp2 : (r : Int) < (N : Int) := by omega
  have hp3 : (0 : Int) ≤ (r : Int) := by omega
  have hp4 : r < N := by omega
  simp only at *
  generalize (ml17 (sek17 (to - s.p)) s.S).length + 1 = M at *
  subst hvS
  have HW1 : Hid (w.setCell ⟨g, r * 3 + 2, none⟩ (.int .i64 (to - s.p)) = w1) := hw1.symm
  have z1 : w1.heap.size = w.heap.size := by rw [hw1]; simp
  rw [z1] at hr
  rw [hw1] at hr a0 a1 a2 a3 a4
  clear z1
  rw [h0] at l1
  clear h h1 k1 L hN A q hlr hg hw1 hs
  generalize (s.S.getLastD z16).2.2 = u2 at *
  generalize (s.S.getLastD z16).2.1 = u1 at *
  have hbq : (to == s.p) = false := by simp; exact ht
  have hbd : decide (to = s.p) = false := decide_eq_false ht
  go_enter Tryz.func92, Tryz.ntmps92
  go_wp2_with (first
    | (at_builtin; refine wpList_app17 rfl (.tmp 51) (.tmp 53) 46 rfl rfl rfl hr ?_))
  go_end0
  exact HF.out
theorem plead17 (to : Int) (h : Pr17 base bw vS vD vX s w) (hl : s.S.length + 1 ≤ 1073741824) (hto : -1152921504606846976 ≤ to ∧ to ≤ 1152921504606846976) (hpp : -1152921504606846976 ≤ s.p ∧ s.p ≤ 1152921504606846976) :
    Calls Tryz.prog 92 #[.pointer (some ⟨bw, 0, none⟩), .int .i64 to] w (TkQ17 base bw vS vD vX (s.lead to) w) := by
  by_cases hs : s.S = []
  · exact plead17_nil to h hs
  · by_cases h0 : (s.S.getLastD z16).2.1 = 0
    · by_cases ht : to = s.p
      · exact plead17_stay to h hs (by omega) h0 ht
      · exact plead17_far to h hs hl h0 ht hto hpp
    · exact plead17_cpy to h hs hl h0 hto hpp
end Go.Proofs.YtmfpdchfofffeaaGreatDoor
