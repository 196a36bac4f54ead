import Derived.Test.YtmfpdchfofffeaaGreatDoorPp
namespace Go.Proofs.YtmfpdchfofffeaaGreatDoor
open Go.RowKit Go.Shelf
set_option linter.unusedVariables false
variable {base bw : Nat} {vS vD vX : Value} {s : Pt17} {w : World}
/-- A step of noughts is appended through the part's pointer. -/
structure Ap17 (base bw : Nat) (vS vD vX : Value) (s : Pt17) (V : World) (g rc : Nat) (w' : World) : Prop where
  hr : (Builtin.append_ #[46, 46] 46 #[vS, .slice (some ⟨V.heap.size, 0, none⟩) 1 1]).run Tryz.prog (V.alloc (.cells #[.int .i64 0, .int .i64 0, .int .i64 0] 108)) = .ok (.slice (some ⟨g, 0, none⟩) (s.S.length + 1) rc) w'
  hp : w'.heap[bw]? = some (.cells #[.int .i64 s.pos, vS, vD, vX, .int .i64 s.p] 116 (0, 0))
  pr : Pr17 base bw (.slice (some ⟨g, 0, none⟩) (s.S.length + 1) rc) vD vX { s with S := s.S ++ [z16] } (w'.setCell ⟨bw, 1, none⟩ (.slice (some ⟨g, 0, none⟩) (s.S.length + 1) rc))
  kp : Kp (Pf17 bw vS vD vX) V (w'.setCell ⟨bw, 1, none⟩ (.slice (some ⟨g, 0, none⟩) (s.S.length + 1) rc))
  kw : Kp (fun k => vS.ownBlock = some k) V w'
  ft : ∀ k, Pf17 bw (.slice (some ⟨g, 0, none⟩) (s.S.length + 1) rc) vD vX k → Pf17 bw vS vD vX k ∨ V.heap.size ≤ k
theorem Pr17.app (h : Pr17 base bw vS vD vX s w) (hl : s.S.length + 1 ≤ 1099511627776) : ∃ g rc w', Ap17 base bw vS vD vX s w g rc w' := by
  obtain ⟨g, rc, w', hr, ow, k1, at1⟩ := apps16 w z16 h.oS hl (Nat.le_of_lt (Nat.lt_of_le_of_lt h.bb (h.lt bw (.inl rfl)).2))
  obtain ⟨p1, p2, p3⟩ := h.setS ow k1 at1
  refine ⟨g, rc, w', hr, p1, p2, p3, k1, ?_⟩
  rintro k (x | x | x | x)
  · exact .inl (.inl x)
  · have x : some g = some k := x
    injection x with x
    subst x
    rcases at1 with y | y
    · exact .inl (.inr (.inl y))
    · exact .inr y
  · exact .inl (.inr (.inr (.inl x)))
  · exact .inl (.inr (.inr (.inr x)))
theorem wpList_app17 {P : Program} {ops : Array Oper} {rest : List Oper} {o : Oper} {a : Act} {Q : Exit → Act → World → Prop} {w : World} (hg : o.guard = none) (s x : Operand) (t : TypeId)
    (hop : o.op = Op.call { callee := Callee.builtin Builtin.append, args := #[s, x], argTypes := #[t, t] }) {u v v' : Value} {w' : World} (hs : a.eval s = u) (hx : a.eval x = v) (hr : (Builtin.append_ #[t, t] o.type #[u, v]).run P w = .ok v' w')
    (h : wpList P ops Q rest (a.put o.dst v') w') : wpList P ops Q (o :: rest) a w := by
  refine wpList_plain hg fun K hK' => ?_
  exact operwp_app16 s x t hop hs hx hr (hK' _ _ h)
theorem own_sl17 {w : World} {base n sz : Nat} {e : TypeId} {v : Value} {xs : List Value} (h : w.ownsRow base e sz v n xs) : ∃ p c, v = .slice p n c := by
  rcases h.2 with ⟨h1, h2⟩ | ⟨g, cap, cur, h1, _⟩
  · exact ⟨none, 0, by rw [h1, h2]⟩
  · exact ⟨_, cap, h1⟩
/-- Behind the append: the place is told. -/
theorem Ap17.fin {g rc : Nat} {w' V : World} (A : Ap17 base bw vS vD vX s V g rc w') (hK : Kp (Pf17 bw vS vD vX) w V) (to : Int) (s' : Pt17) (hs : s' = { s with S := s.S ++ [z16], p := to }) : TkQ17 base bw vS vD vX s' w (.returned (.tuple #[])) ((w'.setCell ⟨bw, 1, none⟩ (.slice (some ⟨g, 0, none⟩) (s.S.length + 1) rc)).setCell ⟨bw, 4, none⟩ (.int .i64 to)) := by
  have h1 := A.pr
  have h2 : Pr17 base bw (.slice (some ⟨g, 0, none⟩) (s.S.length + 1) rc) vD vX s' ((w'.setCell ⟨bw, 1, none⟩ (.slice (some ⟨g, 0, none⟩) (s.S.length + 1) rc)).setCell ⟨bw, 4, none⟩ (.int .i64 to)) := h1.num (by rw [hs]) (by rw [hs]) (by rw [hs]) (by rw [hs]; exact five_set4 h1.hp _)
  refine ⟨rfl, _, _, _, h2, (hK.trans A.kp (fun _ _ x => x)).trans (Kp.set (S := Pf17 bw vS vD vX) (.inl rfl) _) (fun _ _ x => x), fun k x => ?_⟩
  rcases A.ft k x with y | y
  · exact .inl y
  · exact .inr (Nat.le_trans hK.size y)
set_option maxRecDepth 100000 in
set_option maxHeartbeats 4000000 in
theorem plead17_nil (to : Int) (h : Pr17 base bw vS vD vX s w) (hs : s.S = []) :
    Calls Tryz.prog 92 #[.pointer (some ⟨bw, 0, none⟩), .int .i64 to] w (TkQ17 base bw vS vD vX (s.lead to) w) := by
  obtain ⟨c0, c1, c2, c3, c4⟩ := five_cells h.hp
  obtain ⟨g, rc, w', A⟩ := h.app (by rw [hs]; decide)
  have HF : Hid (TkQ17 base bw vS vD vX (s.lead to) w (.returned (.tuple #[])) ((w'.setCell ⟨bw, 1, none⟩ (.slice (some ⟨g, 0, none⟩) (s.S.length + 1) rc)).setCell ⟨bw, 4, none⟩ (.int .i64 to))) := A.fin (Kp.refl _ _) to _ (by unfold Pt17.lead; rw [if_pos hs, hs]; rfl)
  have hr := A.hr
  obtain ⟨d0, d1, d2, d3, d4⟩ := five_cells A.hp
  have f1 := five_free (i := 1) A.hp
  have q := five_set1 A.hp (.slice (some ⟨g, 0, none⟩) (s.S.length + 1) rc)
  obtain ⟨e0, e1, e2, e3, e4⟩ := five_cells q
  have f4 := five_free (i := 4) q
  obtain ⟨sp, sc, hvS⟩ := own_sl17 h.oS
  rw [hs] at hvS hr HF e0 e1 e2 e3 e4 f4
  simp only [List.length_nil] at hvS hr HF e0 e1 e2 e3 e4 f4
  subst hvS
  clear A h q
  go_enter Tryz.func92, Tryz.ntmps92
  go_wp2_with (first
    | (at_builtin; refine wpList_app17 rfl (.tmp 51) (.tmp 53) 46 rfl rfl rfl hr ?_))
  go_end0
  exact HF.out
set_option maxRecDepth 100000 in
set_option maxHeartbeats 4000000 in
theorem plead17_stay (to : Int) (h : Pr17 base bw vS vD vX s w) (hs : s.S ≠ []) (hl : s.S.length ≤ 1073741824) (h0 : (s.S.getLastD z16).2.1 = 0) (ht : to = s.p) :
    Calls Tryz.prog 92 #[.pointer (some ⟨bw, 0, none⟩), .int .i64 to] w (TkQ17 base bw vS vD vX (s.lead to) w) := by
  obtain ⟨c0, c1, c2, c3, c4⟩ := five_cells h.hp
  obtain ⟨g, r, c, L⟩ := h.last hs
  have HF : Hid (TkQ17 base bw vS vD vX (s.lead to) w (.returned (.tuple #[])) w) := ⟨rfl, vS, vD, vX, by unfold Pt17.lead; rw [if_neg hs, if_pos ⟨h0, ht⟩]; exact h, Kp.refl _ _, fun k x => .inl x⟩
  have hb : r + 1 ≤ 1073741824 := by rw [← L.ln]; exact hl
  have hvS := L.vs
  have l1 := L.c1
  rw [h0] at l1
  obtain ⟨N, hN⟩ : ∃ N, N = r + 1 := ⟨_, rfl⟩
  rw [← hN] at hvS
  have hw1 : IntKind.i64.wrap ((N : Int) - 1) = (r : Int) := by rw [IntWalk.i64_in _ (by omega)]; omega
  have hp1 : (0 : Int) < (N : Int) := by omega
  have hp2 : (r : Int) < (N : Int) := by omega
  have hp3 : (0 : Int) ≤ (r : Int) := by omega
  have hp4 : r < N := by omega
  subst hvS
  subst ht
  clear h L hN
  go_enter Tryz.func92, Tryz.ntmps92
  go_wp2
  go_end0
  exact HF.out
set_option maxRecDepth 100000 in
set_option maxHeartbeats 4000000 in
theorem plead17_cpy (to : Int) (h : Pr17 base bw vS vD vX s w) (hs : s.S ≠ []) (hl : s.S.length + 1 ≤ 1073741824) (h0 : (s.S.getLastD z16).2.1 ≠ 0) (hto : -1152921504606846976 ≤ to ∧ to ≤ 1152921504606846976) (hpp : -1152921504606846976 ≤ s.p ∧ s.p ≤ 1152921504606846976) :
    Calls Tryz.prog 92 #[.pointer (some ⟨bw, 0, none⟩), .int .i64 to] w (TkQ17 base bw vS vD vX (s.lead to) w) := by
  obtain ⟨c0, c1, c2, c3, c4⟩ := five_cells h.hp
  obtain ⟨g, r, c, L⟩ := h.last hs
  have hg : vS.ownBlock = some g := by rw [L.vs]; rfl
  have hlr : s.S.length - 1 = r := by have := L.ln; omega
  obtain ⟨h1, k1⟩ := h.turn L (j := 2) (S' := ml17 (sek17 (to - s.p)) s.S) (u := .int .i64 (to - s.p)) (by omega) (by rw [← hlr]; exact flat17_set2 hs _) (ml17_len hs)
  obtain ⟨w1, hw1⟩ : ∃ w1, w1 = w.setCell ⟨g, r * 3 + 2, none⟩ (.int .i64 (to - s.p)) := ⟨_, rfl⟩
  rw [← hw1] at h1 k1
  obtain ⟨g2, rc, w', A⟩ := h1.app (by rw [ml17_len hs]; omega)
  have HF : Hid (TkQ17 base bw vS vD vX (s.lead to) w (.returned (.tuple #[])) ((w'.setCell ⟨bw, 1, none⟩ (.slice (some ⟨g2, 0, none⟩) ((ml17 (sek17 (to - s.p)) s.S).length + 1) rc)).setCell ⟨bw, 4, none⟩ (.int .i64 to))) := A.fin k1 to _ (by unfold Pt17.lead; rw [if_neg hs, if_neg (by omega)])
  have hr := A.hr
  obtain ⟨a0, a1, a2, a3, a4⟩ := five_cells h1.hp
  obtain ⟨d0, d1, d2, d3, d4⟩ := five_cells A.hp
  have f1 := five_free (i := 1) A.hp
  have q := five_set1 A.hp (.slice (some ⟨g2, 0, none⟩) ((ml17 (sek17 (to - s.p)) s.S).length + 1) rc)
  obtain ⟨e0, e1, e2, e3, e4⟩ := five_cells q
  have f4 := five_free (i := 4) q
  have fr := L.fr (r * 3 + 2)
  have hb : r + 1 ≤ 1073741824 := by rw [← L.ln]; omega
  have hvS := L.vs
  have l1 := L.c1
  have l2 := L.c2
  obtain ⟨N, hN⟩ : ∃ N, N = r + 1 := ⟨_, rfl⟩
  rw [← hN] at hvS
  have hw2 : IntKind.i64.wrap ((N : Int) - 1) = (r : Int) := by rw [IntWalk.i64_in _ (by omega)]; omega
  have hw3 : IntKind.i64.wrap (to - s.p) = to - s.p := IntWalk.i64_in _ (by omega)
  have hp1 : (0 : Int) < (N : Int) := by omega
  have hp2 : (r : Int) < (N : Int) := by omega
  have hp3 : (0 : Int) ≤ (r : Int) := by omega
  have hp4 : r < N := by omega
  simp only at *
  generalize (ml17 (sek17 (to - s.p)) s.S).length + 1 = M at *
  subst hvS
  have HW1 : Hid (w.setCell ⟨g, r * 3 + 2, none⟩ (.int .i64 (to - s.p)) = w1) := hw1.symm
  have z1 : w1.heap.size = w.heap.size := by rw [hw1]; simp
  rw [z1] at hr
  rw [hw1] at hr a0 a1 a2 a3 a4
  clear z1
  clear h h1 k1 L hN A q hlr hg hw1 hs
  generalize (s.S.getLastD z16).2.2 = u2 at *
  generalize (s.S.getLastD z16).2.1 = u1 at *
  have hbq : (u1 == 0) = false := by simp; exact h0
  have hbd : decide (u1 = 0) = false := decide_eq_false h0
  go_enter Tryz.func92, Tryz.ntmps92
  go_wp2_with (first
    | (at_builtin; refine wpList_app17 rfl (.tmp 51) (.tmp 53) 46 rfl rfl rfl hr ?_))
  go_end0
  exact HF.out
set_option maxRecDepth 100000 in
set_option maxHeartbeats 4000000 in
theorem plead17_far (to : Int) (h : Pr17 base bw vS vD vX s w) (hs : s.S ≠ []) (hl : s.S.length + 1 ≤ 1073741824) (h0 : (s.S.getLastD z16).2.1 = 0) (ht : to ≠ s.p) (hto : -1152921504606846976 ≤ to ∧ to ≤ 1152921504606846976) (hpp : -1152921504606846976 ≤ s.p ∧ s.p ≤ 1152921504606846976) :
    Calls Tryz.prog 92 #[.pointer (some ⟨bw, 0, none⟩), .int .i64 to] w (TkQ17 base bw vS vD vX (s.lead to) w) := by
  obtain ⟨c0, c1, c2, c3, c4⟩ := five_cells h.hp
  obtain ⟨g, r, c, L⟩ := h.last hs
  have hg : vS.ownBlock = some g := by rw [L.vs]; rfl
  have hlr : s.S.length - 1 = r := by have := L.ln; omega
  obtain ⟨h1, k1⟩ := h.turn L (j := 2) (S' := ml17 (sek17 (to - s.p)) s.S) (u := .int .i64 (to - s.p)) (by omega) (by rw [← hlr]; exact flat17_set2 hs _) (ml17_len hs)
  obtain ⟨w1, hw1⟩ : ∃ w1, w1 = w.setCell ⟨g, r * 3 + 2, none⟩ (.int .i64 (to - s.p)) := ⟨_, rfl⟩
  rw [← hw1] at h1 k1
  obtain ⟨g2, rc, w', A⟩ := h1.app (by rw [ml17_len hs]; omega)
  have HF : Hid (TkQ17 base bw vS vD vX (s.lead to) w (.returned (.tuple #[])) ((w'.setCell ⟨bw, 1, none⟩ (.slice (some ⟨g2, 0, none⟩) ((ml17 (sek17 (to - s.p)) s.S).length + 1) rc)).setCell ⟨bw, 4, none⟩ (.int .i64 to))) := A.fin k1 to _ (by unfold Pt17.lead; rw [if_neg hs, if_neg (by omega)])
  have hr := A.hr
  obtain ⟨a0, a1, a2, a3, a4⟩ := five_cells h1.hp
  obtain ⟨d0, d1, d2, d3, d4⟩ := five_cells A.hp
  have f1 := five_free (i := 1) A.hp
  have q := five_set1 A.hp (.slice (some ⟨g2, 0, none⟩) ((ml17 (sek17 (to - s.p)) s.S).length + 1) rc)
  obtain ⟨e0, e1, e2, e3, e4⟩ := five_cells q
  have f4 := five_free (i := 4) q
  have fr := L.fr (r * 3 + 2)
  have hb : r + 1 ≤ 1073741824 := by rw [← L.ln]; omega
  have hvS := L.vs
  have l1 := L.c1
  have l2 := L.c2
  obtain ⟨N, hN⟩ : ∃ N, N = r + 1 := ⟨_, rfl⟩
  rw [← hN] at hvS
  have hw2 : IntKind.i64.wrap ((N : Int) - 1) = (r : Int) := by rw [IntWalk.i64_in _ (by omega)]; omega
  have hw3 : IntKind.i64.wrap (to - s.p) = to - s.p := IntWalk.i64_in _ (by omega)
  have hp1 : (0 : Int) < (N : Int) := by omega
  have hp2 : (r : Int) < (N : Int) := by omega
  have hp3 : (0 : Int) ≤ (r : Int) := by omega
  have hp4 : r < N := by omega
  simp only at *
  generalize (ml17 (sek17 (to - s.p)) s.S).length + 1 = M at *
  subst hvS
  have HW1 : Hid (w.setCell ⟨g, r * 3 + 2, none⟩ (.int .i64 (to - s.p)) = w1) := hw1.symm
  have z1 : w1.heap.size = w.heap.size := by rw [hw1]; simp
  rw [z1] at hr
  rw [hw1] at hr a0 a1 a2 a3 a4
  clear z1
  rw [h0] at l1
  clear h h1 k1 L hN A q hlr hg hw1 hs
  generalize (s.S.getLastD z16).2.2 = u2 at *
  generalize (s.S.getLastD z16).2.1 = u1 at *
  have hbq : (to == s.p) = false := by simp; exact ht
  have hbd : decide (to = s.p) = false := decide_eq_false ht
  go_enter Tryz.func92, Tryz.ntmps92
  go_wp2_with (first
    | (at_builtin; refine wpList_app17 rfl (.tmp 51) (.tmp 53) 46 rfl rfl rfl hr ?_))
  go_end0
  exact HF.out
theorem plead17 (to : Int) (h : Pr17 base bw vS vD vX s w) (hl : s.S.length + 1 ≤ 1073741824) (hto : -1152921504606846976 ≤ to ∧ to ≤ 1152921504606846976) (hpp : -1152921504606846976 ≤ s.p ∧ s.p ≤ 1152921504606846976) :
    Calls Tryz.prog 92 #[.pointer (some ⟨bw, 0, none⟩), .int .i64 to] w (TkQ17 base bw vS vD vX (s.lead to) w) := by
  by_cases hs : s.S = []
  · exact plead17_nil to h hs
  · by_cases h0 : (s.S.getLastD z16).2.1 = 0
    · by_cases ht : to = s.p
      · exact plead17_stay to h hs (by omega) h0 ht
      · exact plead17_far to h hs hl h0 ht hto hpp
    · exact plead17_cpy to h hs hl h0 hto hpp
end Go.Proofs.YtmfpdchfofffeaaGreatDoor

namespace Go.Proofs.YtmfpdchfofffeaaGreatDoor
open Go.RowKit Go.Shelf
set_option linter.unusedVariables false
variable {base bw : Nat} {vS vS0 vD vX : Value} {s : Pt17} {w : World}
/-- What an append of a byte to the j-th field meets. -/
structure Td17 (bw j ob : Nat) (v : Int) (vX : Value) (M : Nat) (V1 : World) (g2 rc : Nat) (w' : World) : Prop where
  d1 : V1.cell? ⟨bw, j, none⟩ = some vX
  o1 : V1.cell? ⟨ob, 1, none⟩ = some (.int .u8 v)
  k1 : ∀ o, (V1.alloc o).drew.cell? ⟨bw, j, none⟩ = some vX
  k2 : ∀ o, (V1.alloc o).drew.cell? ⟨ob, 1, none⟩ = some (.int .u8 v)
  hr : (Builtin.append_ #[36, 36] 36 #[vX, .slice (some ⟨V1.drew.heap.size, 0, none⟩) 1 1]).run Tryz.prog (V1.drew.alloc (.cells #[.int .u8 v] 5)) = .ok (.slice (some ⟨g2, 0, none⟩) M rc) w'
  x1 : w'.cell? ⟨bw, j, none⟩ = some vX
  xf : w'.frozen? ⟨bw, j, none⟩ = false
  o2 : w'.cell? ⟨ob, 1, none⟩ = some (.int .u8 v)
theorem tailc17 {ob g r c : Nat} {v : Int} {V : World} {t : TypeId} {y0 y2 : Value} (h : Pr17 base bw vS vD vX s V) (hs : s.S ≠ []) (L : La17 vS s.S g r c V) (hl : s.X.length + 1 ≤ 1099511627776) (hob : V.heap[ob]? = some (.cells #[y0, .int .u8 v, y2] t (0, 0))) (hn : ¬ Pf17 bw vS vD vX ob) (hK : Kp (Pf17 bw vS0 vD vX) w V) (hF : ∀ k, Pf17 bw vS vD vX k → Pf17 bw vS0 vD vX k ∨ w.heap.size ≤ k) :
    ∃ V1 g2 rc w', V1 = V.setCell ⟨g, r * 3 + 1, none⟩ (.int .i64 ((s.S.getLastD z16).2.1 + 1)) ∧ Td17 bw 3 ob v vX (s.X.length + 1) V1 g2 rc w' ∧ TkQ17 base bw vS0 vD vX { s with S := ml17 cpy17 s.S, X := s.X ++ [v] } w (.returned (.tuple #[])) (w'.setCell ⟨bw, 3, none⟩ (.slice (some ⟨g2, 0, none⟩) (s.X.length + 1) rc)) := by
  have hlr : s.S.length - 1 = r := by have := L.ln; omega
  obtain ⟨h1, k1⟩ := h.turn L (j := 1) (S' := ml17 cpy17 s.S) (u := .int .i64 ((s.S.getLastD z16).2.1 + 1)) (by omega) (by rw [← hlr, flat17_set1 hs]; rfl) (ml17_len hs)
  obtain ⟨V1, e1⟩ : ∃ V1, V1 = V.setCell ⟨g, r * 3 + 1, none⟩ (.int .i64 ((s.S.getLastD z16).2.1 + 1)) := ⟨_, rfl⟩
  rw [← e1] at h1 k1
  have q1 := k1.heap hob hn
  have hbl := (h1.lt bw (.inl rfl)).2
  have hobl : ob < V1.heap.size := (Array.getElem?_eq_some_iff.1 q1).1
  have d1 := (five_cells h1.hp).2.2.2.1
  have o1 := three_cell1 q1
  obtain ⟨g2, rc, w', hr, ow, k2, at2⟩ := appb16 V1.drew v h1.oX hl (Nat.le_of_lt (Nat.lt_of_le_of_lt h1.bb hbl))
  have k2' : Kp (fun k => vX.ownBlock = some k) V1 w' := ⟨k2.os, k2.tape, k2.output, k2.size, k2.block⟩
  obtain ⟨p1, p2, p3⟩ := h1.setX ow k2' at2
  refine ⟨V1, g2, rc, w', e1, ⟨d1, o1, fun o => (((Below.refl V1.heap.size V1).alloc (Nat.le_refl _) o).cell (p := ⟨bw, 3, none⟩) hbl).trans d1, fun o => (((Below.refl V1.heap.size V1).alloc (Nat.le_refl _) o).cell (p := ⟨ob, 1, none⟩) hobl).trans o1, hr, (five_cells p1).2.2.2.1, five_free p1, three_cell1 (k2'.heap q1 (fun e => hn (.inr (.inr (.inr e)))))⟩, rfl, vS, vD, _, p2, hK.trans (k1.trans p3 (fun _ _ x => x)) (fun i hi x => (hF i x).resolve_right (by omega)), ?_⟩
  have hKs := hK.size
  rintro k (x | x | x | x)
  · exact .inl (.inl x)
  · exact hF k (.inr (.inl x))
  · exact .inl (.inr (.inr (.inl x)))
  · have x : some g2 = some k := x
    injection x with x
    subst x
    rcases at2 with y | y
    · exact .inl (.inr (.inr (.inr y)))
    · exact .inr (Nat.le_trans hKs (Nat.le_trans k1.size y))
set_option maxRecDepth 100000 in
set_option maxHeartbeats 8000000 in
theorem ptk17_cs (at_ v : Int) (h : Pr17 base bw vS vD vX s w) (hs : s.S ≠ []) (hn : s.S.length ≤ 1073741824) (hl : s.X.length + 1 ≤ 1099511627776) (hc : 0 ≤ (s.S.getLastD z16).2.1 ∧ (s.S.getLastD z16).2.1 ≤ 1099511627776) :
    Calls Tryz.prog 61 #[.pointer (some ⟨bw, 0, none⟩), .agg #[.int .i64 at_, .int .u8 v, .bool false]] w (TkQ17 base bw vS vD vX { s with S := ml17 cpy17 s.S, X := s.X ++ [v] } w) := by
  obtain ⟨wA, hwA⟩ : ∃ wA, wA = w.alloc (.cells #[.int .i64 at_, .int .u8 v, .bool false] 124) := ⟨_, rfl⟩
  have cA : Cb16 w #[.int .i64 at_, .int .u8 v, .bool false] 124 wA := by rw [hwA]; exact cb16 _ _ _
  have hA := h.below cA.bl
  obtain ⟨ob, hob⟩ : ∃ ob, ob = w.heap.size := ⟨_, rfl⟩
  have qo : wA.heap[ob]? = some (.cells #[.int .i64 at_, .int .u8 v, .bool false] 124 (0, 0)) := by rw [hob]; exact cA.cl
  have hno : ¬ Pf17 bw vS vD vX ob := fun x => by have := (h.lt ob x).2; omega
  obtain ⟨a0, a1, a2, a3, a4⟩ := five_cells hA.hp
  have o2 := three_cell2 qo
  have bd : Below w.heap.size w wA.drew := cA.bl.drew
  have hD : Pr17 base bw vS vD vX s wA.drew := h.below bd
  obtain ⟨g, r, c, L⟩ := hD.last hs
  obtain ⟨V1, g2, rc, w', e1, T, hP⟩ := tailc17 (w := w) (vS0 := vS) hD hs L hl qo hno (Kp.of_below bd) (fun k x => .inl x)
  have HP : Hid (TkQ17 base bw vS vD vX { s with S := ml17 cpy17 s.S, X := s.X ++ [v] } w (.returned (.tuple #[])) (w'.setCell ⟨bw, 3, none⟩ (.slice (some ⟨g2, 0, none⟩) (s.X.length + 1) rc))) := hP
  have HWA : Hid (w.alloc (.cells #[.int .i64 at_, .int .u8 v, .bool false] 124) = wA) := hwA.symm
  have HOB : Hid (w.heap.size = ob) := hob.symm
  have hvS := L.vs
  have hb : r + 1 ≤ 1073741824 := by rw [← L.ln]; omega
  obtain ⟨N, hN⟩ : ∃ N, N = r + 1 := ⟨_, rfl⟩
  rw [← hN] at hvS
  have hne : ¬ (N : Int) = 0 := by omega
  have hneq : ((N : Int) == 0) = false := by simp; omega
  have hw2 : IntKind.i64.wrap ((N : Int) - 1) = (r : Int) := by rw [IntWalk.i64_in _ (by omega)]; omega
  have hp2 : (r : Int) < (N : Int) := by omega
  have hp3 : (0 : Int) ≤ (r : Int) := by omega
  have hp4 : r < N := by omega
  have l1 := L.c1
  have fr := L.fr (r * 3 + 1)
  have l1 : wA.cell? ⟨g, r * 3 + 1, none⟩ = some (.int .i64 (s.S.getLastD z16).2.1) := l1
  have fr : wA.frozen? ⟨g, r * 3 + 1, none⟩ = false := fr
  have HE : Hid ((wA.setCell ⟨g, r * 3 + 1, none⟩ (.int .i64 ((s.S.getLastD z16).2.1 + 1))).drew = V1) := by show _ = _; rw [e1]; rfl
  have b1 := a1
  have hw3 : IntKind.i64.wrap ((s.S.getLastD z16).2.1 + 1) = (s.S.getLastD z16).2.1 + 1 := IntWalk.i64_in _ (by omega)
  subst hvS
  rw [hwA, hob] at o2
  rw [hwA] at a0 a1 a2 a3 a4
  clear h hA cA hN L qo hD hP bd e1
  generalize (s.S.getLastD z16).2.1 = u1 at *
  go_enter Tryz.func61, Tryz.ntmps61
  go_wp2
  rw [HWA.out, HOB.out]
  clear o2 a0 a1 a2 a3 a4 hwA hob
  refine plain_region16 (fun V => V.cell? ⟨bw, 1, none⟩ = some (.slice (some ⟨g, 0, none⟩) N c) ∧ V.cell? ⟨g, r * 3 + 1, none⟩ = some (.int .i64 u1)) 16 (by kernel_rfl) ⟨b1, l1⟩ (fun hHeld => ?_)
  refine wpAnyK_take (i := 0) (v := .pointer (some ⟨bw, 1, none⟩)) rfl (by kernel_rfl) (by kernel_rfl) (by kernel_rfl) (by kernel_rfl) (fun _ _ _ h => h) (Or.inl ⟨by rfl, fun w hSw => by go_simp⟩) hHeld ?_
  simp only [List.getElem_toArray, List.getElem_cons_zero, Act.put, List.setIfInBounds_toArray, List.set_cons_zero, List.set_cons_succ]
  refine wpAnyK_take (i := 1) (v := .pointer (some ⟨bw, 1, none⟩)) rfl (by kernel_rfl) (by kernel_rfl) (by kernel_rfl) (by kernel_rfl) (fun _ _ _ h => h) (Or.inl ⟨by rfl, fun w hSw => by go_simp⟩) hHeld ?_
  simp only [List.getElem_toArray, List.getElem_cons_zero, List.getElem_cons_succ, Act.put, List.setIfInBounds_toArray, List.set_cons_zero, List.set_cons_succ]
  refine wpAnyK_take (i := 2) (v := .pointer (some ⟨bw, 1, none⟩)) rfl (by kernel_rfl) (by kernel_rfl) (by kernel_rfl) (by kernel_rfl) (fun _ _ _ h => h) (Or.inl ⟨by rfl, fun w hSw => by go_simp⟩) hHeld ?_
  simp only [List.getElem_toArray, List.getElem_cons_zero, List.getElem_cons_succ, Act.put, List.setIfInBounds_toArray, List.set_cons_zero, List.set_cons_succ]
  refine wpAnyK_take (i := 3) (v := .slice (some ⟨g, 0, none⟩) N c) rfl (by kernel_rfl) (by kernel_rfl) (by kernel_rfl) (by kernel_rfl) (fun _ _ _ h => h) (Or.inl ⟨by rfl, fun w hSw => by go_simp⟩) hHeld ?_
  simp only [List.getElem_toArray, List.getElem_cons_zero, List.getElem_cons_succ, Act.put, List.setIfInBounds_toArray, List.set_cons_zero, List.set_cons_succ]
  refine wpAnyK_take (i := 4) (v := .pointer (some ⟨bw, 1, none⟩)) rfl (by kernel_rfl) (by kernel_rfl) (by kernel_rfl) (by kernel_rfl) (fun _ _ _ h => h) (Or.inl ⟨by rfl, fun w hSw => by go_simp⟩) hHeld ?_
  simp only [List.getElem_toArray, List.getElem_cons_zero, List.getElem_cons_succ, Act.put, List.setIfInBounds_toArray, List.set_cons_zero, List.set_cons_succ]
  refine wpAnyK_take (i := 5) (v := .pointer (some ⟨bw, 1, none⟩)) rfl (by kernel_rfl) (by kernel_rfl) (by kernel_rfl) (by kernel_rfl) (fun _ _ _ h => h) (Or.inl ⟨by rfl, fun w hSw => by go_simp⟩) hHeld ?_
  simp only [List.getElem_toArray, List.getElem_cons_zero, List.getElem_cons_succ, Act.put, List.setIfInBounds_toArray, List.set_cons_zero, List.set_cons_succ]
  refine wpAnyK_take (i := 6) (v := .pointer (some ⟨bw, 1, none⟩)) rfl (by kernel_rfl) (by kernel_rfl) (by kernel_rfl) (by kernel_rfl) (fun _ _ _ h => h) (Or.inl ⟨by rfl, fun w hSw => by go_simp⟩) hHeld ?_
  simp only [List.getElem_toArray, List.getElem_cons_zero, List.getElem_cons_succ, Act.put, List.setIfInBounds_toArray, List.set_cons_zero, List.set_cons_succ]
  refine wpAnyK_take (i := 7) (v := .slice (some ⟨g, 0, none⟩) N c) rfl (by kernel_rfl) (by kernel_rfl) (by kernel_rfl) (by kernel_rfl) (fun _ _ _ h => h) (Or.inl ⟨by rfl, fun w hSw => by go_simp⟩) hHeld ?_
  simp only [List.getElem_toArray, List.getElem_cons_zero, List.getElem_cons_succ, Act.put, List.setIfInBounds_toArray, List.set_cons_zero, List.set_cons_succ]
  refine wpAnyK_take (i := 8) (v := .int .i64 (N : Int)) rfl (by kernel_rfl) (by kernel_rfl) (by kernel_rfl) (by kernel_rfl) (fun _ _ _ h => h) (Or.inl ⟨by rfl, fun w hSw => by go_simp⟩) hHeld ?_
  simp only [List.getElem_toArray, List.getElem_cons_zero, List.getElem_cons_succ, Act.put, List.setIfInBounds_toArray, List.set_cons_zero, List.set_cons_succ]
  refine wpAnyK_take (i := 9) (v := .int .i64 (r : Int)) rfl (by kernel_rfl) (by kernel_rfl) (by kernel_rfl) (by kernel_rfl) (fun _ _ _ h => h) (Or.inl ⟨by rfl, fun w hSw => by go_simp⟩) hHeld ?_
  simp only [List.getElem_toArray, List.getElem_cons_zero, List.getElem_cons_succ, Act.put, List.setIfInBounds_toArray, List.set_cons_zero, List.set_cons_succ]
  refine wpAnyK_take (i := 10) (v := .pointer (some ⟨g, r * 3, none⟩)) rfl (by kernel_rfl) (by kernel_rfl) (by kernel_rfl) (by kernel_rfl) (fun _ _ _ h => h) (Or.inl ⟨by rfl, fun w hSw => by go_simp⟩) hHeld ?_
  simp only [List.getElem_toArray, List.getElem_cons_zero, List.getElem_cons_succ, Act.put, List.setIfInBounds_toArray, List.set_cons_zero, List.set_cons_succ]
  refine wpAnyK_take (i := 11) (v := .pointer (some ⟨g, r * 3 + 1, none⟩)) rfl (by kernel_rfl) (by kernel_rfl) (by kernel_rfl) (by kernel_rfl) (fun _ _ _ h => h) (Or.inl ⟨by rfl, fun w hSw => by go_simp⟩) hHeld ?_
  simp only [List.getElem_toArray, List.getElem_cons_zero, List.getElem_cons_succ, Act.put, List.setIfInBounds_toArray, List.set_cons_zero, List.set_cons_succ]
  refine wpAnyK_take (i := 12) (v := .int .i64 u1) rfl (by kernel_rfl) (by kernel_rfl) (by kernel_rfl) (by kernel_rfl) (fun _ _ _ h => h) (Or.inl ⟨by rfl, fun w hSw => by go_simp⟩) hHeld ?_
  simp only [List.getElem_toArray, List.getElem_cons_zero, List.getElem_cons_succ, Act.put, List.setIfInBounds_toArray, List.set_cons_zero, List.set_cons_succ]
  refine wpAnyK_take (i := 13) (v := .int .i64 (u1 + 1)) rfl (by kernel_rfl) (by kernel_rfl) (by kernel_rfl) (by kernel_rfl) (fun _ _ _ h => h) (Or.inl ⟨by rfl, fun w hSw => by go_simp⟩) hHeld ?_
  simp only [List.getElem_toArray, List.getElem_cons_zero, List.getElem_cons_succ, Act.put, List.setIfInBounds_toArray, List.set_cons_zero, List.set_cons_succ]
  refine wpAnyK_one (i := 14) (by kernel_rfl) rfl (fun K hK => ?_)
  (try simp only [List.getElem_toArray, List.getElem_cons_zero, List.getElem_cons_succ, Act.put, List.setIfInBounds_toArray, List.set_cons_zero, List.set_cons_succ])
  go_simp
  refine hK.out _ _ (fun _ => ⟨b1, l1⟩) (fun hHeld0 => ?_)
  have hHeld := hHeld0 (by decide)
  clear hHeld0 hK K
  (try simp only [List.getElem_toArray, List.getElem_cons_zero, List.getElem_cons_succ, Act.put, List.setIfInBounds_toArray, List.set_cons_zero, List.set_cons_succ])
  refine wpAnyK_one (i := 15) (by kernel_rfl) rfl (fun K hK => ?_)
  (try simp only [List.getElem_toArray, List.getElem_cons_zero, List.getElem_cons_succ, Act.put, List.setIfInBounds_toArray, List.set_cons_zero, List.set_cons_succ])
  go_simp
  refine hK.out _ _ (fun _ => ⟨b1, l1⟩) (fun hHeld0 => ?_)
  have hHeld := hHeld0 (by decide)
  clear hHeld0 hK K
  (try simp only [List.getElem_toArray, List.getElem_cons_zero, List.getElem_cons_succ, Act.put, List.setIfInBounds_toArray, List.set_cons_zero, List.set_cons_succ])
  refine wpAnyK_one (i := 16) (by kernel_rfl) rfl (fun K hK => ?_)
  simp only [List.getElem_toArray, List.getElem_cons_zero, List.getElem_cons_succ, Act.put]
  go_simp
  refine hK.out _ _ (fun h => absurd rfl h) (fun _ => ?_)
  clear hK K
  refine wpAnyK_done (by kernel_rfl) ?_ _
  rw [HE.out]
  go_wp2
  clear b1 l1 fr
  have td1 := T.d1
  have to1 := T.o1
  refine plain_region16 (fun V => V.cell? ⟨bw, 3, none⟩ = some vX ∧ V.cell? ⟨ob, 1, none⟩ = some (.int .u8 v)) 11 (by kernel_rfl) ⟨td1, to1⟩ (fun hHeld => ?_)
  refine wpAnyK_take (i := 0) (v := .pointer (some ⟨bw, 1, none⟩)) rfl (by kernel_rfl) (by kernel_rfl) (by kernel_rfl) (by kernel_rfl) (fun _ _ _ h => h) (Or.inl ⟨by rfl, fun w hSw => by go_simp⟩) hHeld ?_
  simp only [List.getElem_toArray, List.getElem_cons_zero, Act.put, List.setIfInBounds_toArray, List.set_cons_zero, List.set_cons_succ]
  refine wpAnyK_take (i := 1) (v := .pointer (some ⟨bw, 1, none⟩)) rfl (by kernel_rfl) (by kernel_rfl) (by kernel_rfl) (by kernel_rfl) (fun _ _ _ h => h) (Or.inl ⟨by rfl, fun w hSw => by go_simp⟩) hHeld ?_
  simp only [List.getElem_toArray, List.getElem_cons_zero, List.getElem_cons_succ, Act.put, List.setIfInBounds_toArray, List.set_cons_zero, List.set_cons_succ]
  refine wpAnyK_take (i := 2) (v := .pointer (some ⟨bw, 1, none⟩)) rfl (by kernel_rfl) (by kernel_rfl) (by kernel_rfl) (by kernel_rfl) (fun _ _ _ h => h) (Or.inl ⟨by rfl, fun w hSw => by go_simp⟩) hHeld ?_
  simp only [List.getElem_toArray, List.getElem_cons_zero, List.getElem_cons_succ, Act.put, List.setIfInBounds_toArray, List.set_cons_zero, List.set_cons_succ]
  refine wpAnyK_take (i := 3) (v := .pointer (some ⟨bw, 3, none⟩)) rfl (by kernel_rfl) (by kernel_rfl) (by kernel_rfl) (by kernel_rfl) (fun _ _ _ h => h) (Or.inl ⟨by rfl, fun w hSw => by go_simp⟩) hHeld ?_
  simp only [List.getElem_toArray, List.getElem_cons_zero, List.getElem_cons_succ, Act.put, List.setIfInBounds_toArray, List.set_cons_zero, List.set_cons_succ]
  refine wpAnyK_take (i := 4) (v := vX) rfl (by kernel_rfl) (by kernel_rfl) (by kernel_rfl) (by kernel_rfl) (fun _ _ _ h => h) (Or.inl ⟨by rfl, fun w hSw => by go_simp⟩) hHeld ?_
  simp only [List.getElem_toArray, List.getElem_cons_zero, List.getElem_cons_succ, Act.put, List.setIfInBounds_toArray, List.set_cons_zero, List.set_cons_succ]
  refine wpAnyK_take (i := 5) (v := .pointer (some ⟨ob, 1, none⟩)) rfl (by kernel_rfl) (by kernel_rfl) (by kernel_rfl) (by kernel_rfl) (fun _ _ _ h => h) (Or.inl ⟨by rfl, fun w hSw => by go_simp⟩) hHeld ?_
  simp only [List.getElem_toArray, List.getElem_cons_zero, List.getElem_cons_succ, Act.put, List.setIfInBounds_toArray, List.set_cons_zero, List.set_cons_succ]
  refine wpAnyK_take (i := 6) (v := .int .u8 v) rfl (by kernel_rfl) (by kernel_rfl) (by kernel_rfl) (by kernel_rfl) (fun _ _ _ h => h) (Or.inl ⟨by rfl, fun w hSw => by go_simp⟩) hHeld ?_
  simp only [List.getElem_toArray, List.getElem_cons_zero, List.getElem_cons_succ, Act.put, List.setIfInBounds_toArray, List.set_cons_zero, List.set_cons_succ]
  refine wpAnyK_one (i := 7) (by kernel_rfl) rfl (fun K hK => ?_)
  (try simp only [List.getElem_toArray, List.getElem_cons_zero, List.getElem_cons_succ, Act.put, List.setIfInBounds_toArray, List.set_cons_zero, List.set_cons_succ])
  go_simp
  refine hK.out _ _ (fun _ => ⟨T.k1 _, T.k2 _⟩) (fun hHeld0 => ?_)
  have hHeld := hHeld0 (by decide)
  clear hHeld0 hK K
  (try simp only [List.getElem_toArray, List.getElem_cons_zero, List.getElem_cons_succ, Act.put, List.setIfInBounds_toArray, List.set_cons_zero, List.set_cons_succ])
  refine wpAnyK_one (i := 8) (by kernel_rfl) rfl (fun K hK => ?_)
  simp only [List.getElem_toArray, List.getElem_cons_zero, List.getElem_cons_succ]
  rw [if_pos (by rfl)]
  refine operwp_app16 _ _ _ rfl rfl rfl T.hr ?_
  have x1 := T.x1
  have xf := T.xf
  have o2 := T.o2
  refine hK.out _ _ (fun _ => ⟨x1, o2⟩) (fun hHeld0 => ?_)
  have hHeld := hHeld0 (by decide)
  clear hHeld0 hK K
  simp only [Act.put, List.setIfInBounds_toArray, List.set_cons_zero, List.set_cons_succ]
  refine wpAnyK_one (i := 9) (by kernel_rfl) rfl (fun K hK => ?_)
  (try simp only [List.getElem_toArray, List.getElem_cons_zero, List.getElem_cons_succ, Act.put, List.setIfInBounds_toArray, List.set_cons_zero, List.set_cons_succ])
  go_simp
  refine hK.out _ _ (fun _ => ⟨x1, o2⟩) (fun hHeld0 => ?_)
  have hHeld := hHeld0 (by decide)
  clear hHeld0 hK K
  (try simp only [List.getElem_toArray, List.getElem_cons_zero, List.getElem_cons_succ, Act.put, List.setIfInBounds_toArray, List.set_cons_zero, List.set_cons_succ])
  refine wpAnyK_one (i := 10) (by kernel_rfl) rfl (fun K hK => ?_)
  (try simp only [List.getElem_toArray, List.getElem_cons_zero, List.getElem_cons_succ, Act.put, List.setIfInBounds_toArray, List.set_cons_zero, List.set_cons_succ])
  go_simp
  refine hK.out _ _ (fun _ => ⟨x1, o2⟩) (fun hHeld0 => ?_)
  have hHeld := hHeld0 (by decide)
  clear hHeld0 hK K
  (try simp only [List.getElem_toArray, List.getElem_cons_zero, List.getElem_cons_succ, Act.put, List.setIfInBounds_toArray, List.set_cons_zero, List.set_cons_succ])
  refine wpAnyK_one (i := 11) (by kernel_rfl) rfl (fun K hK => ?_)
  simp only [List.getElem_toArray, List.getElem_cons_zero, List.getElem_cons_succ, Act.put]
  go_simp
  refine hK.out _ _ (fun h => absurd rfl h) (fun _ => ?_)
  clear hK K
  refine wpAnyK_done (by kernel_rfl) ?_ _
  go_wp2
  go_end0
  exact HP.out
set_option maxRecDepth 100000 in
set_option maxHeartbeats 8000000 in
theorem ptk17_cn (at_ v : Int) (h : Pr17 base bw vS vD vX s w) (hs0 : s.S = []) (hl : s.X.length + 1 ≤ 1099511627776) :
    Calls Tryz.prog 61 #[.pointer (some ⟨bw, 0, none⟩), .agg #[.int .i64 at_, .int .u8 v, .bool false]] w (TkQ17 base bw vS vD vX { s with S := ml17 cpy17 [z16], X := s.X ++ [v] } w) := by
  obtain ⟨wA, hwA⟩ : ∃ wA, wA = w.alloc (.cells #[.int .i64 at_, .int .u8 v, .bool false] 124) := ⟨_, rfl⟩
  have cA : Cb16 w #[.int .i64 at_, .int .u8 v, .bool false] 124 wA := by rw [hwA]; exact cb16 _ _ _
  have hA := h.below cA.bl
  obtain ⟨ob, hob⟩ : ∃ ob, ob = w.heap.size := ⟨_, rfl⟩
  have qo : wA.heap[ob]? = some (.cells #[.int .i64 at_, .int .u8 v, .bool false] 124 (0, 0)) := by rw [hob]; exact cA.cl
  have hno : ¬ Pf17 bw vS vD vX ob := fun x => by have := (h.lt ob x).2; omega
  obtain ⟨a0, a1, a2, a3, a4⟩ := five_cells hA.hp
  have o2 := three_cell2 qo
  obtain ⟨g0, rc0, wa, A⟩ := hA.app (by rw [hs0]; decide)
  have hr := A.hr
  rw [cA.sz, hwA] at hr
  obtain ⟨d0, d1, d2, d3, d4⟩ := five_cells A.hp
  have f1 := five_free (i := 1) A.hp
  obtain ⟨sp, sc, hvS0⟩ := own_sl17 h.oS
  obtain ⟨N, hN⟩ : ∃ N, N = s.S.length + 1 := ⟨_, rfl⟩
  obtain ⟨s1, hs1⟩ : ∃ s1 : Pt17, s1 = { s with S := s.S ++ [z16] } := ⟨_, rfl⟩
  have hpr := A.pr
  have hkp := A.kp
  have hft := A.ft
  rw [← hN] at hr hpr hkp hft
  rw [← hs1] at hpr
  obtain ⟨wB, hwB⟩ : ∃ wB, wB = wa.setCell ⟨bw, 1, none⟩ (.slice (some ⟨g0, 0, none⟩) N rc0) := ⟨_, rfl⟩
  rw [← hwB] at hpr hkp
  have hs1n : s1.S ≠ [] := by rw [hs1]; simp
  have bB : Below wB.heap.size wB wB.drew := (Below.refl _ _).drew
  have hD : Pr17 base bw (.slice (some ⟨g0, 0, none⟩) N rc0) vD vX s1 wB.drew := hpr.below bB
  obtain ⟨g, r, c, L⟩ := hD.last hs1n
  have hvS := L.vs
  have hlr := L.ln
  have hNr : N = r + 1 := by rw [hN, ← hlr, hs1]; simp
  have hK : Kp (Pf17 bw vS vD vX) w wB := (Kp.of_below (S := Pf17 bw vS vD vX) cA.bl).trans hkp (fun _ _ x => x)
  have hn2 : ¬ Pf17 bw (.slice (some ⟨g0, 0, none⟩) N rc0) vD vX ob := fun x => by
    rcases hft ob x with y | y
    · exact hno y
    · have := cA.sz; omega
  have hX : s1.X = s.X := by rw [hs1]
  obtain ⟨V1, g2, rc, w', e1, T, hP⟩ := tailc17 (w := w) (vS0 := vS) hD hs1n L (by rw [hX]; exact hl) (show wB.drew.heap[ob]? = _ from hkp.heap qo hno) hn2 (hK.drew) (fun k x => (hft k x).imp id (fun y => Nat.le_trans cA.bl.size y))
  rw [hX] at T hP
  have HP : Hid (TkQ17 base bw vS vD vX { s with S := ml17 cpy17 [z16], X := s.X ++ [v] } w (.returned (.tuple #[])) (w'.setCell ⟨bw, 3, none⟩ (.slice (some ⟨g2, 0, none⟩) (s.X.length + 1) rc))) := by
    have e : ({ s1 with S := ml17 cpy17 s1.S, X := s.X ++ [v] } : Pt17) = { s with S := ml17 cpy17 [z16], X := s.X ++ [v] } := by rw [hs1, hs0]; rfl
    rw [← e]; exact hP
  have HWB : Hid (wa.setCell ⟨bw, 1, none⟩ (.slice (some ⟨g0, 0, none⟩) N rc0) = wB) := hwB.symm
  have HOB : Hid (w.heap.size = ob) := hob.symm
  have b1 := (five_cells hpr.hp).2.1
  have l1 : wB.cell? ⟨g, r * 3 + 1, none⟩ = some (.int .i64 (s1.S.getLastD z16).2.1) := L.c1
  have fr : wB.frozen? ⟨g, r * 3 + 1, none⟩ = false := L.fr (r * 3 + 1)
  have hu0 : (s1.S.getLastD z16).2.1 = 0 := by rw [hs1, hs0]; rfl
  have HE : Hid ((wB.setCell ⟨g, r * 3 + 1, none⟩ (.int .i64 ((s1.S.getLastD z16).2.1 + 1))).drew = V1) := by show _ = _; rw [e1]; rfl
  have hN1 : N ≤ 1073741824 := by rw [hN, hs0]; decide
  have hw2 : IntKind.i64.wrap ((N : Int) - 1) = (r : Int) := by rw [IntWalk.i64_in _ (by omega)]; omega
  have hp2 : (r : Int) < (N : Int) := by omega
  have hp3 : (0 : Int) ≤ (r : Int) := by omega
  have hp4 : r < N := by omega
  have hw3 : IntKind.i64.wrap ((s1.S.getLastD z16).2.1 + 1) = (s1.S.getLastD z16).2.1 + 1 := IntWalk.i64_in _ (by omega)
  rw [← hNr] at hvS
  injection hvS with v1 v2 v3
  injection v1 with v1
  injection v1 with v1
  subst v1
  subst v3
  rw [hs0] at hvS0
  simp only [List.length_nil] at hvS0
  subst hvS0
  rw [hwA, hob] at o2
  rw [hwA] at a0 a1 a2 a3 a4
  clear h hA cA hN L qo hD hP e1 A hpr hkp hft hlr hs1n hs1 hX hK hn2 bB hwA hwB hu0 hno v2 hNr hob
  generalize (s1.S.getLastD z16).2.1 = u1 at *
  go_enter Tryz.func61, Tryz.ntmps61
  go_wp2_with (first
    | (at_builtin; refine wpList_app17 rfl (.tmp 22) (.tmp 24) 46 rfl rfl rfl hr ?_))
  rw [HWB.out, HOB.out]
  clear o2 a0 a1 a2 a3 a4 hr d0 d1 d2 d3 d4 f1
  refine plain_region16 (fun V => V.cell? ⟨bw, 1, none⟩ = some (.slice (some ⟨g0, 0, none⟩) N rc0) ∧ V.cell? ⟨g0, r * 3 + 1, none⟩ = some (.int .i64 u1)) 16 (by kernel_rfl) ⟨b1, l1⟩ (fun hHeld => ?_)
  refine wpAnyK_take (i := 0) (v := .pointer (some ⟨bw, 1, none⟩)) rfl (by kernel_rfl) (by kernel_rfl) (by kernel_rfl) (by kernel_rfl) (fun _ _ _ h => h) (Or.inl ⟨by rfl, fun w hSw => by go_simp⟩) hHeld ?_
  simp only [List.getElem_toArray, List.getElem_cons_zero, Act.put, List.setIfInBounds_toArray, List.set_cons_zero, List.set_cons_succ]
  refine wpAnyK_take (i := 1) (v := .pointer (some ⟨bw, 1, none⟩)) rfl (by kernel_rfl) (by kernel_rfl) (by kernel_rfl) (by kernel_rfl) (fun _ _ _ h => h) (Or.inl ⟨by rfl, fun w hSw => by go_simp⟩) hHeld ?_
  simp only [List.getElem_toArray, List.getElem_cons_zero, List.getElem_cons_succ, Act.put, List.setIfInBounds_toArray, List.set_cons_zero, List.set_cons_succ]
  refine wpAnyK_take (i := 2) (v := .pointer (some ⟨bw, 1, none⟩)) rfl (by kernel_rfl) (by kernel_rfl) (by kernel_rfl) (by kernel_rfl) (fun _ _ _ h => h) (Or.inl ⟨by rfl, fun w hSw => by go_simp⟩) hHeld ?_
  simp only [List.getElem_toArray, List.getElem_cons_zero, List.getElem_cons_succ, Act.put, List.setIfInBounds_toArray, List.set_cons_zero, List.set_cons_succ]
  refine wpAnyK_take (i := 3) (v := .slice (some ⟨g0, 0, none⟩) N rc0) rfl (by kernel_rfl) (by kernel_rfl) (by kernel_rfl) (by kernel_rfl) (fun _ _ _ h => h) (Or.inl ⟨by rfl, fun w hSw => by go_simp⟩) hHeld ?_
  simp only [List.getElem_toArray, List.getElem_cons_zero, List.getElem_cons_succ, Act.put, List.setIfInBounds_toArray, List.set_cons_zero, List.set_cons_succ]
  refine wpAnyK_take (i := 4) (v := .pointer (some ⟨bw, 1, none⟩)) rfl (by kernel_rfl) (by kernel_rfl) (by kernel_rfl) (by kernel_rfl) (fun _ _ _ h => h) (Or.inl ⟨by rfl, fun w hSw => by go_simp⟩) hHeld ?_
  simp only [List.getElem_toArray, List.getElem_cons_zero, List.getElem_cons_succ, Act.put, List.setIfInBounds_toArray, List.set_cons_zero, List.set_cons_succ]
  refine wpAnyK_take (i := 5) (v := .pointer (some ⟨bw, 1, none⟩)) rfl (by kernel_rfl) (by kernel_rfl) (by kernel_rfl) (by kernel_rfl) (fun _ _ _ h => h) (Or.inl ⟨by rfl, fun w hSw => by go_simp⟩) hHeld ?_
  simp only [List.getElem_toArray, List.getElem_cons_zero, List.getElem_cons_succ, Act.put, List.setIfInBounds_toArray, List.set_cons_zero, List.set_cons_succ]
  refine wpAnyK_take (i := 6) (v := .pointer (some ⟨bw, 1, none⟩)) rfl (by kernel_rfl) (by kernel_rfl) (by kernel_rfl) (by kernel_rfl) (fun _ _ _ h => h) (Or.inl ⟨by rfl, fun w hSw => by go_simp⟩) hHeld ?_
  simp only [List.getElem_toArray, List.getElem_cons_zero, List.getElem_cons_succ, Act.put, List.setIfInBounds_toArray, List.set_cons_zero, List.set_cons_succ]
  refine wpAnyK_take (i := 7) (v := .slice (some ⟨g0, 0, none⟩) N rc0) rfl (by kernel_rfl) (by kernel_rfl) (by kernel_rfl) (by kernel_rfl) (fun _ _ _ h => h) (Or.inl ⟨by rfl, fun w hSw => by go_simp⟩) hHeld ?_
  simp only [List.getElem_toArray, List.getElem_cons_zero, List.getElem_cons_succ, Act.put, List.setIfInBounds_toArray, List.set_cons_zero, List.set_cons_succ]
  refine wpAnyK_take (i := 8) (v := .int .i64 (N : Int)) rfl (by kernel_rfl) (by kernel_rfl) (by kernel_rfl) (by kernel_rfl) (fun _ _ _ h => h) (Or.inl ⟨by rfl, fun w hSw => by go_simp⟩) hHeld ?_
  simp only [List.getElem_toArray, List.getElem_cons_zero, List.getElem_cons_succ, Act.put, List.setIfInBounds_toArray, List.set_cons_zero, List.set_cons_succ]
  refine wpAnyK_take (i := 9) (v := .int .i64 (r : Int)) rfl (by kernel_rfl) (by kernel_rfl) (by kernel_rfl) (by kernel_rfl) (fun _ _ _ h => h) (Or.inl ⟨by rfl, fun w hSw => by go_simp⟩) hHeld ?_
  simp only [List.getElem_toArray, List.getElem_cons_zero, List.getElem_cons_succ, Act.put, List.setIfInBounds_toArray, List.set_cons_zero, List.set_cons_succ]
  refine wpAnyK_take (i := 10) (v := .pointer (some ⟨g0, r * 3, none⟩)) rfl (by kernel_rfl) (by kernel_rfl) (by kernel_rfl) (by kernel_rfl) (fun _ _ _ h => h) (Or.inl ⟨by rfl, fun w hSw => by go_simp⟩) hHeld ?_
  simp only [List.getElem_toArray, List.getElem_cons_zero, List.getElem_cons_succ, Act.put, List.setIfInBounds_toArray, List.set_cons_zero, List.set_cons_succ]
  refine wpAnyK_take (i := 11) (v := .pointer (some ⟨g0, r * 3 + 1, none⟩)) rfl (by kernel_rfl) (by kernel_rfl) (by kernel_rfl) (by kernel_rfl) (fun _ _ _ h => h) (Or.inl ⟨by rfl, fun w hSw => by go_simp⟩) hHeld ?_
  simp only [List.getElem_toArray, List.getElem_cons_zero, List.getElem_cons_succ, Act.put, List.setIfInBounds_toArray, List.set_cons_zero, List.set_cons_succ]
  refine wpAnyK_take (i := 12) (v := .int .i64 u1) rfl (by kernel_rfl) (by kernel_rfl) (by kernel_rfl) (by kernel_rfl) (fun _ _ _ h => h) (Or.inl ⟨by rfl, fun w hSw => by go_simp⟩) hHeld ?_
  simp only [List.getElem_toArray, List.getElem_cons_zero, List.getElem_cons_succ, Act.put, List.setIfInBounds_toArray, List.set_cons_zero, List.set_cons_succ]
  refine wpAnyK_take (i := 13) (v := .int .i64 (u1 + 1)) rfl (by kernel_rfl) (by kernel_rfl) (by kernel_rfl) (by kernel_rfl) (fun _ _ _ h => h) (Or.inl ⟨by rfl, fun w hSw => by go_simp⟩) hHeld ?_
  simp only [List.getElem_toArray, List.getElem_cons_zero, List.getElem_cons_succ, Act.put, List.setIfInBounds_toArray, List.set_cons_zero, List.set_cons_succ]
  refine wpAnyK_one (i := 14) (by kernel_rfl) rfl (fun K hK => ?_)
  (try simp only [List.getElem_toArray, List.getElem_cons_zero, List.getElem_cons_succ, Act.put, List.setIfInBounds_toArray, List.set_cons_zero, List.set_cons_succ])
  go_simp
  refine hK.out _ _ (fun _ => ⟨b1, l1⟩) (fun hHeld0 => ?_)
  have hHeld := hHeld0 (by decide)
  clear hHeld0 hK K
  (try simp only [List.getElem_toArray, List.getElem_cons_zero, List.getElem_cons_succ, Act.put, List.setIfInBounds_toArray, List.set_cons_zero, List.set_cons_succ])
  refine wpAnyK_one (i := 15) (by kernel_rfl) rfl (fun K hK => ?_)
  (try simp only [List.getElem_toArray, List.getElem_cons_zero, List.getElem_cons_succ, Act.put, List.setIfInBounds_toArray, List.set_cons_zero, List.set_cons_succ])
  go_simp
  refine hK.out _ _ (fun _ => ⟨b1, l1⟩) (fun hHeld0 => ?_)
  have hHeld := hHeld0 (by decide)
  clear hHeld0 hK K
  (try simp only [List.getElem_toArray, List.getElem_cons_zero, List.getElem_cons_succ, Act.put, List.setIfInBounds_toArray, List.set_cons_zero, List.set_cons_succ])
  refine wpAnyK_one (i := 16) (by kernel_rfl) rfl (fun K hK => ?_)
  simp only [List.getElem_toArray, List.getElem_cons_zero, List.getElem_cons_succ, Act.put]
  go_simp
  refine hK.out _ _ (fun h => absurd rfl h) (fun _ => ?_)
  clear hK K
  refine wpAnyK_done (by kernel_rfl) ?_ _
  rw [HE.out]
  go_wp2
  clear b1 l1 fr
  have td1 := T.d1
  have to1 := T.o1
  refine plain_region16 (fun V => V.cell? ⟨bw, 3, none⟩ = some vX ∧ V.cell? ⟨ob, 1, none⟩ = some (.int .u8 v)) 11 (by kernel_rfl) ⟨td1, to1⟩ (fun hHeld => ?_)
  refine wpAnyK_take (i := 0) (v := .pointer (some ⟨bw, 1, none⟩)) rfl (by kernel_rfl) (by kernel_rfl) (by kernel_rfl) (by kernel_rfl) (fun _ _ _ h => h) (Or.inl ⟨by rfl, fun w hSw => by go_simp⟩) hHeld ?_
  simp only [List.getElem_toArray, List.getElem_cons_zero, Act.put, List.setIfInBounds_toArray, List.set_cons_zero, List.set_cons_succ]
  refine wpAnyK_take (i := 1) (v := .pointer (some ⟨bw, 1, none⟩)) rfl (by kernel_rfl) (by kernel_rfl) (by kernel_rfl) (by kernel_rfl) (fun _ _ _ h => h) (Or.inl ⟨by rfl, fun w hSw => by go_simp⟩) hHeld ?_
  simp only [List.getElem_toArray, List.getElem_cons_zero, List.getElem_cons_succ, Act.put, List.setIfInBounds_toArray, List.set_cons_zero, List.set_cons_succ]
  refine wpAnyK_take (i := 2) (v := .pointer (some ⟨bw, 1, none⟩)) rfl (by kernel_rfl) (by kernel_rfl) (by kernel_rfl) (by kernel_rfl) (fun _ _ _ h => h) (Or.inl ⟨by rfl, fun w hSw => by go_simp⟩) hHeld ?_
  simp only [List.getElem_toArray, List.getElem_cons_zero, List.getElem_cons_succ, Act.put, List.setIfInBounds_toArray, List.set_cons_zero, List.set_cons_succ]
  refine wpAnyK_take (i := 3) (v := .pointer (some ⟨bw, 3, none⟩)) rfl (by kernel_rfl) (by kernel_rfl) (by kernel_rfl) (by kernel_rfl) (fun _ _ _ h => h) (Or.inl ⟨by rfl, fun w hSw => by go_simp⟩) hHeld ?_
  simp only [List.getElem_toArray, List.getElem_cons_zero, List.getElem_cons_succ, Act.put, List.setIfInBounds_toArray, List.set_cons_zero, List.set_cons_succ]
  refine wpAnyK_take (i := 4) (v := vX) rfl (by kernel_rfl) (by kernel_rfl) (by kernel_rfl) (by kernel_rfl) (fun _ _ _ h => h) (Or.inl ⟨by rfl, fun w hSw => by go_simp⟩) hHeld ?_
  simp only [List.getElem_toArray, List.getElem_cons_zero, List.getElem_cons_succ, Act.put, List.setIfInBounds_toArray, List.set_cons_zero, List.set_cons_succ]
  refine wpAnyK_take (i := 5) (v := .pointer (some ⟨ob, 1, none⟩)) rfl (by kernel_rfl) (by kernel_rfl) (by kernel_rfl) (by kernel_rfl) (fun _ _ _ h => h) (Or.inl ⟨by rfl, fun w hSw => by go_simp⟩) hHeld ?_
  simp only [List.getElem_toArray, List.getElem_cons_zero, List.getElem_cons_succ, Act.put, List.setIfInBounds_toArray, List.set_cons_zero, List.set_cons_succ]
  refine wpAnyK_take (i := 6) (v := .int .u8 v) rfl (by kernel_rfl) (by kernel_rfl) (by kernel_rfl) (by kernel_rfl) (fun _ _ _ h => h) (Or.inl ⟨by rfl, fun w hSw => by go_simp⟩) hHeld ?_
  simp only [List.getElem_toArray, List.getElem_cons_zero, List.getElem_cons_succ, Act.put, List.setIfInBounds_toArray, List.set_cons_zero, List.set_cons_succ]
  refine wpAnyK_one (i := 7) (by kernel_rfl) rfl (fun K hK => ?_)
  (try simp only [List.getElem_toArray, List.getElem_cons_zero, List.getElem_cons_succ, Act.put, List.setIfInBounds_toArray, List.set_cons_zero, List.set_cons_succ])
  go_simp
  refine hK.out _ _ (fun _ => ⟨T.k1 _, T.k2 _⟩) (fun hHeld0 => ?_)
  have hHeld := hHeld0 (by decide)
  clear hHeld0 hK K
  (try simp only [List.getElem_toArray, List.getElem_cons_zero, List.getElem_cons_succ, Act.put, List.setIfInBounds_toArray, List.set_cons_zero, List.set_cons_succ])
  refine wpAnyK_one (i := 8) (by kernel_rfl) rfl (fun K hK => ?_)
  simp only [List.getElem_toArray, List.getElem_cons_zero, List.getElem_cons_succ]
  rw [if_pos (by rfl)]
  refine operwp_app16 _ _ _ rfl rfl rfl T.hr ?_
  have x1 := T.x1
  have xf := T.xf
  have o2 := T.o2
  refine hK.out _ _ (fun _ => ⟨x1, o2⟩) (fun hHeld0 => ?_)
  have hHeld := hHeld0 (by decide)
  clear hHeld0 hK K
  simp only [Act.put, List.setIfInBounds_toArray, List.set_cons_zero, List.set_cons_succ]
  refine wpAnyK_one (i := 9) (by kernel_rfl) rfl (fun K hK => ?_)
  (try simp only [List.getElem_toArray, List.getElem_cons_zero, List.getElem_cons_succ, Act.put, List.setIfInBounds_toArray, List.set_cons_zero, List.set_cons_succ])
  go_simp
  refine hK.out _ _ (fun _ => ⟨x1, o2⟩) (fun hHeld0 => ?_)
  have hHeld := hHeld0 (by decide)
  clear hHeld0 hK K
  (try simp only [List.getElem_toArray, List.getElem_cons_zero, List.getElem_cons_succ, Act.put, List.setIfInBounds_toArray, List.set_cons_zero, List.set_cons_succ])
  refine wpAnyK_one (i := 10) (by kernel_rfl) rfl (fun K hK => ?_)
  (try simp only [List.getElem_toArray, List.getElem_cons_zero, List.getElem_cons_succ, Act.put, List.setIfInBounds_toArray, List.set_cons_zero, List.set_cons_succ])
  go_simp
  refine hK.out _ _ (fun _ => ⟨x1, o2⟩) (fun hHeld0 => ?_)
  have hHeld := hHeld0 (by decide)
  clear hHeld0 hK K
  (try simp only [List.getElem_toArray, List.getElem_cons_zero, List.getElem_cons_succ, Act.put, List.setIfInBounds_toArray, List.set_cons_zero, List.set_cons_succ])
  refine wpAnyK_one (i := 11) (by kernel_rfl) rfl (fun K hK => ?_)
  simp only [List.getElem_toArray, List.getElem_cons_zero, List.getElem_cons_succ, Act.put]
  go_simp
  refine hK.out _ _ (fun h => absurd rfl h) (fun _ => ?_)
  clear hK K
  refine wpAnyK_done (by kernel_rfl) ?_ _
  go_wp2
  go_end0
  exact HP.out
end Go.Proofs.YtmfpdchfofffeaaGreatDoor
