
import Derived.Test.YtgbpejnafgllpaaEd6
import Derived.Deep.AppendLies
import Derived.WalkLawsBesides
namespace Go.Proofs.Ytgbpejnafgllpaa
open Go.RowKit Go.Shelf
set_option linter.unusedVariables false

/-! The writer: bytes are laid down, by their origins, in as few steps as can be. -/
structure Wt16 where
  S : List St16
  D : List Int
  X : List Int
  a : Nat
  c : Nat
  p : Int
def flat16 (l : List St16) : List Value := l.flatMap fun t => [.int .i64 t.1, .int .i64 t.2.1, .int .i64 t.2.2]
theorem flat16_app (l r : List St16) : flat16 (l ++ r) = flat16 l ++ flat16 r := by unfold flat16; rw [List.flatMap_append]
theorem info_st16 : (Try.prog.info? 53).map (fun i => (i.zero, i.size, i.bytes)) = some (some (.agg #[.int .i64 0, .int .i64 0, .int .i64 0]), 3, 24) := by kernel_rfl
theorem own_kp16 {w w' : World} {S : Nat → Prop} {base n sz : Nat} {e : TypeId} {v : Value} {xs : List Value} (h : w.ownsRow base e sz v n xs) (hb : Kp S w w') (hn : ∀ x, v.ownBlock = some x → ¬ S x) : w'.ownsRow base e sz v n xs := by
  refine ⟨h.1, ?_⟩
  rcases h.2 with h | ⟨g, cap, cur, h1, h2, h3, h4⟩
  · exact .inl h
  · exact .inr ⟨g, cap, cur, h1, h2, hb.heap h3 (hn g (by rw [h1]; rfl)), h4⟩
/-- A writer in memory: its block, its three rows apart from one another. -/
structure Wr16 (base bw : Nat) (vS vD vX : Value) (s : Wt16) (sk : Int) (w : World) : Prop where
  hp : w.heap[bw]? = some (.cells #[vS, vD, vX, .int .i64 (s.a : Int), .int .i64 (s.c : Int), .int .i64 sk, .int .i64 s.p] 78 (0, 0))
  oS : w.ownsRow base 53 3 vS s.S.length (flat16 s.S)
  oD : w.ownsRow base 5 1 vD s.D.length (s.D.map (Value.int .u8))
  oX : w.ownsRow base 5 1 vX s.X.length (s.X.map (Value.int .u8))
  nS : vS.ownBlock ≠ some bw
  nD : vD.ownBlock ≠ some bw
  nX : vX.ownBlock ≠ some bw
  sd : ∀ g, vS.ownBlock = some g → vD.ownBlock ≠ some g
  sx : ∀ g, vS.ownBlock = some g → vX.ownBlock ≠ some g
  dx : ∀ g, vD.ownBlock = some g → vX.ownBlock ≠ some g
  bb : base ≤ bw
/-- The writer's own blocks. -/
def Wf16 (bw : Nat) (vS vD vX : Value) : Nat → Prop := fun k => k = bw ∨ vS.ownBlock = some k ∨ vD.ownBlock = some k ∨ vX.ownBlock = some k
theorem Wr16.kp {base bw : Nat} {vS vD vX : Value} {s : Wt16} {sk : Int} {w w' : World} {E : Nat → Prop} (h : Wr16 base bw vS vD vX s sk w) (hk : Kp E w w') (hE : ∀ k, Wf16 bw vS vD vX k → ¬ E k) : Wr16 base bw vS vD vX s sk w' :=
  ⟨hk.heap h.hp (hE bw (.inl rfl)), own_kp16 h.oS hk (fun x e => hE x (.inr (.inl e))), own_kp h.oD hk (fun x e => hE x (.inr (.inr (.inl e)))), own_kp h.oX hk (fun x e => hE x (.inr (.inr (.inr e)))), h.nS, h.nD, h.nX, h.sd, h.sx, h.dx, h.bb⟩
theorem Wr16.lt {base bw : Nat} {vS vD vX : Value} {s : Wt16} {sk : Int} {w : World} (h : Wr16 base bw vS vD vX s sk w) : ∀ k, Wf16 bw vS vD vX k → base ≤ k ∧ k < w.heap.size := by
  rintro k (rfl | e | e | e)
  · exact ⟨h.bb, (Array.getElem?_eq_some_iff.1 h.hp).1⟩
  · exact h.oS.lt k e
  · exact h.oD.lt k e
  · exact h.oX.lt k e
theorem seven_cells {V : World} {b : Nat} {x0 x1 x2 x3 x4 x5 x6 : Value} {t : TypeId} (h : V.heap[b]? = some (.cells #[x0, x1, x2, x3, x4, x5, x6] t (0, 0))) : V.cell? ⟨b, 0, none⟩ = some x0 ∧ V.cell? ⟨b, 1, none⟩ = some x1 ∧ V.cell? ⟨b, 2, none⟩ = some x2 ∧ V.cell? ⟨b, 3, none⟩ = some x3 ∧ V.cell? ⟨b, 4, none⟩ = some x4 ∧ V.cell? ⟨b, 5, none⟩ = some x5 ∧ V.cell? ⟨b, 6, none⟩ = some x6 := by
  simp [World.cell?, h]
theorem seven_free {w : World} {b i : Nat} {x0 x1 x2 x3 x4 x5 x6 : Value} {t : TypeId} (h : w.heap[b]? = some (.cells #[x0, x1, x2, x3, x4, x5, x6] t (0, 0))) : w.frozen? ⟨b, i, none⟩ = false := by simp [World.frozen?, h]
/-- Step appended: the run. -/
theorem apps16 (V : World) {base : Nat} {v : Value} {n : Nat} {xs : List Value} (y : St16) (hown : V.ownsRow base 53 3 v n xs) (hn : n + 1 ≤ 1099511627776) (hbase : base ≤ V.heap.size) :
    ∃ g rc w', (Builtin.append_ #[22, 22] 22 #[v, .slice (some ⟨V.heap.size, 0, none⟩) 1 1]).run Try.prog (V.alloc (.cells #[.int .i64 y.1, .int .i64 y.2.1, .int .i64 y.2.2] 53)) = .ok (.slice (some ⟨g, 0, none⟩) (n + 1) rc) w' ∧
      w'.ownsRow base 53 3 (.slice (some ⟨g, 0, none⟩) (n + 1) rc) (n + 1) (xs ++ [.int .i64 y.1, .int .i64 y.2.1, .int .i64 y.2.2]) ∧ Kp (fun k => v.ownBlock = some k) V w' ∧ (v.ownBlock = some g ∨ V.heap.size ≤ g) := by
  obtain ⟨i0, hi, hz0, hz1, hz2⟩ := info_parts info_st16
  obtain ⟨g, rc, w', hr, h1, h2, h3, h4⟩ := run_append_lies (P := Try.prog) (V.alloc (.cells #[.int .i64 y.1, .int .i64 y.2.1, .int .i64 y.2.2] 53)) 22 22 base 53 i0 _ 3 24 Try.underlying22 hi hz0 hz1 hz2 rfl (by omega) v n xs (hown.alloc _) ⟨V.heap.size, 0, none⟩ 1 1 [.int .i64 y.1, .int .i64 y.2.1, .int .i64 y.2.2] rfl
    (World.news_of_block (heap_alloc_new V (.cells #[.int .i64 y.1, .int .i64 y.2.1, .int .i64 y.2.2] 53 (0, 0)))) (by intro u hu; simp at hu; rcases hu with rfl | rfl | rfl <;> rfl) (by omega) (by unfold maxLen; omega) (by omega) (by simp; omega) (V.heap.size + 1) (by simp)
  refine ⟨g, rc, w', hr, h1, (Kp.alloc V _).trans (Kp.grown (S := fun k => v.ownBlock = some k) h2 (fun i e => e)) (fun _ _ e => e), ?_⟩
  rcases h3 with h | h
  · exact .inl h
  · exact .inr (by omega)
theorem appb16 (V : World) {base : Nat} {v : Value} {n : Nat} {xs : List Value} (y : Int) (hown : V.ownsRow base 5 1 v n xs) (hn : n + 1 ≤ 1099511627776) (hbase : base ≤ V.heap.size) :
    ∃ g rc w', (Builtin.append_ #[23, 23] 23 #[v, .slice (some ⟨V.heap.size, 0, none⟩) 1 1]).run Try.prog (V.alloc (.cells #[.int .u8 y] 5)) = .ok (.slice (some ⟨g, 0, none⟩) (n + 1) rc) w' ∧
      w'.ownsRow base 5 1 (.slice (some ⟨g, 0, none⟩) (n + 1) rc) (n + 1) (xs ++ [.int .u8 y]) ∧ Kp (fun k => v.ownBlock = some k) V w' ∧ (v.ownBlock = some g ∨ V.heap.size ≤ g) := by
  obtain ⟨i0, hi, hz0, hz1, hz2⟩ := info_parts info_u16
  obtain ⟨g, rc, w', hr, h1, h2, h3, h4⟩ := run_append_lies (P := Try.prog) (V.alloc (.cells #[.int .u8 y] 5)) 23 23 base 5 i0 _ 1 1 Try.underlying23 hi hz0 hz1 hz2 rfl (by omega) v n xs (hown.alloc _) ⟨V.heap.size, 0, none⟩ 1 1 [.int .u8 y] rfl
    (World.news_of_block (heap_alloc_new V (.cells #[.int .u8 y] 5 (0, 0)))) (by intro u hu; simp at hu; subst hu; rfl) (by omega) (by unfold maxLen; omega) (by omega) (by simp; omega) (V.heap.size + 1) (by simp)
  refine ⟨g, rc, w', hr, h1, (Kp.alloc V _).trans (Kp.grown (S := fun k => v.ownBlock = some k) h2 (fun i e => e)) (fun _ _ e => e), ?_⟩
  rcases h3 with h | h
  · exact .inl h
  · exact .inr (by omega)
def Wt16.seek (s : Wt16) (to : Int) : Wt16 := ⟨s.S ++ [((s.a : Int), (s.c : Int), to - s.p)], s.D, s.X, 0, 0, to⟩
/-- All is given up. -/
def pn16 : List PanicEntry := [{ v := .iface 29 (.int .i64 160), recovered := false }]
/-- The writer's steps have moved, if at all. -/
def SkQ16 (base bw : Nat) (vS vD vX : Value) (s : Wt16) (w : World) (e : Ending) (w' : World) : Prop :=
  e = .returned (.tuple #[]) ∧ ∃ vS', Wr16 base bw vS' vD vX s 0 w' ∧ Kp (Wf16 bw vS vD vX) w w' ∧ (∀ g, vS'.ownBlock = some g → vS.ownBlock = some g ∨ w.heap.size ≤ g)
theorem seven_set5 {w : World} {b : Nat} {x0 x1 x2 x3 x4 x5 x6 : Value} {t : TypeId} (h : w.heap[b]? = some (.cells #[x0, x1, x2, x3, x4, x5, x6] t (0, 0))) (u : Value) : (w.setCell ⟨b, 5, none⟩ u).heap[b]? = some (.cells #[x0, x1, x2, x3, x4, u, x6] t (0, 0)) := by
  simp [World.setCell, Array.getElem?_modify, h]
theorem seven_end {V : World} {b : Nat} {x0 x1 x2 x3 x4 x5 x6 : Value} {t : TypeId} (h : V.heap[b]? = some (.cells #[x0, x1, x2, x3, x4, x5, x6] t (0, 0))) (v0 v3 v4 v5 v6 : Value) : (((((V.setCell ⟨b, 0, none⟩ v0).setCell ⟨b, 3, none⟩ v3).setCell ⟨b, 4, none⟩ v4).setCell ⟨b, 5, none⟩ v5).setCell ⟨b, 6, none⟩ v6).heap[b]? = some (.cells #[v0, x1, x2, v3, v4, v5, v6] t (0, 0)) := by
  simp [World.setCell, Array.getElem?_modify, h]
variable {base bw : Nat} {vS vD vX : Value} {s : Wt16} {w : World}
set_option maxRecDepth 100000 in
set_option maxHeartbeats 4000000 in
theorem pseek16_no (to : Int) (h : Wr16 base bw vS vD vX s 0 w) (ha : s.a ≤ 16777216) (hc : s.c ≤ 16777216) (hp : -1152921504606846976 ≤ s.p ∧ s.p ≤ 1152921504606846976) (ht : -1152921504606846976 ≤ to ∧ to ≤ 1152921504606846976) (hb : ¬ (-16777216 ≤ to - s.p ∧ to - s.p ≤ 16777216)) :
    Calls Try.prog 50 #[.pointer (some ⟨bw, 0, none⟩), .int .i64 to] w fun e w' => e = .panicked pn16 ∧ Kp (Wf16 bw vS vD vX) w w' := by
  obtain ⟨c0, c1, c2, c3, c4, c5, c6⟩ := seven_cells h.hp
  have f5 := seven_free (i := 5) h.hp
  have hsub : IntKind.i64.wrap (to - s.p) = to - s.p := IntWalk.i64_in _ (by omega)
  have q1 := seven_set5 h.hp (.int .i64 (to - s.p))
  obtain ⟨d0, d1, d2, d3, d4, d5, d6⟩ := seven_cells q1
  have hm : may16 ((s.a : Int), (s.c : Int), to - s.p) = false := by unfold may16; exact decide_eq_false (fun hh => hb ⟨hh.2.2.2.2.1, hh.2.2.2.2.2⟩)
  have CM := pmay16 ((s.a : Int), (s.c : Int), to - s.p) (w.setCell ⟨bw, 5, none⟩ (.int .i64 (to - s.p)))
  rw [hm] at CM
  unfold sv16 at CM
  simp only at CM
  have HK : Hid (Kp (Wf16 bw vS vD vX) w (w.setCell ⟨bw, 5, none⟩ (.int .i64 (to - s.p)))) := Kp.set (S := Wf16 bw vS vD vX) (.inl rfl) _
  clear hm q1 h hb
  obtain ⟨S, D, X, a, c, p⟩ := s
  simp only at *
  go_enter Try.func50, Try.ntmps50
  go_wp2_with (first
    | (go_at_call 49; refine CM.mono ?_; rintro e1 w1 ⟨rfl, b1⟩; clear CM))
  exact ⟨rfl, rfl, HK.out.trans (Kp.of_below (S := Wf16 bw vS vD vX) b1) (fun _ _ h => h)⟩
set_option maxRecDepth 100000 in
set_option maxHeartbeats 4000000 in
theorem pseek16 (to : Int) (h : Wr16 base bw vS vD vX s 0 w) (ha : s.a ≤ 16777216) (hc : s.c ≤ 16777216) (hp : -1152921504606846976 ≤ s.p ∧ s.p ≤ 1152921504606846976) (ht : -1152921504606846976 ≤ to ∧ to ≤ 1152921504606846976) (hb : -16777216 ≤ to - s.p ∧ to - s.p ≤ 16777216) (hl : s.S.length + 1 ≤ 1099511627776) :
    Calls Try.prog 50 #[.pointer (some ⟨bw, 0, none⟩), .int .i64 to] w (SkQ16 base bw vS vD vX (s.seek to) w) := by
  obtain ⟨c0, c1, c2, c3, c4, c5, c6⟩ := seven_cells h.hp
  have f5 := seven_free (i := 5) h.hp
  have hsub : IntKind.i64.wrap (to - s.p) = to - s.p := IntWalk.i64_in _ (by omega)
  have q1 := seven_set5 h.hp (.int .i64 (to - s.p))
  obtain ⟨d0, d1, d2, d3, d4, d5, d6⟩ := seven_cells q1
  have hm : may16 ((s.a : Int), (s.c : Int), to - s.p) = true := may16_iff.2 ⟨by simp, by simp; omega, by simp, by simp; omega, hb.1, hb.2⟩
  have CM := pmay16 ((s.a : Int), (s.c : Int), to - s.p) (w.setCell ⟨bw, 5, none⟩ (.int .i64 (to - s.p)))
  rw [hm] at CM
  unfold sv16 at CM
  simp only at CM
  have h1 : Wr16 base bw vS vD vX s (to - s.p) (w.setCell ⟨bw, 5, none⟩ (.int .i64 (to - s.p))) := by
    have ks : Kp (fun k => k = bw) w (w.setCell ⟨bw, 5, none⟩ (.int .i64 (to - s.p))) := Kp.set (S := fun k => k = bw) rfl _
    exact ⟨q1, own_kp16 h.oS ks (fun x e x2 => h.nS (by rw [e, x2])), own_kp h.oD ks (fun x e x2 => h.nD (by rw [e, x2])), own_kp h.oX ks (fun x e x2 => h.nX (by rw [e, x2])), h.nS, h.nD, h.nX, h.sd, h.sx, h.dx, h.bb⟩
  have HK : Hid (Kp (Wf16 bw vS vD vX) w (w.setCell ⟨bw, 5, none⟩ (.int .i64 (to - s.p)))) := Kp.set (S := Wf16 bw vS vD vX) (.inl rfl) _
  have H1 : Hid (Wr16 base bw vS vD vX s (to - s.p) (w.setCell ⟨bw, 5, none⟩ (.int .i64 (to - s.p)))) := h1
  clear hm q1 h h1
  obtain ⟨S, D, X, a, c, p⟩ := s
  simp only at *
  go_enter Try.func50, Try.ntmps50
  go_wp2_with (first
    | (go_at_call 49; refine CM.mono ?_; rintro e1 w1 ⟨rfl, b1⟩; clear CM))
  have h2 := H1.out.kp (Kp.of_below (S := fun _ => False) b1) (fun _ _ x => x)
  have K2 : Kp (Wf16 bw vS vD vX) w w1 := HK.out.trans (Kp.of_below (S := Wf16 bw vS vD vX) b1) (fun _ _ h => h)
  have hlt2 := h2.lt
  obtain ⟨g0, g1, g2, g3, g4, g5, g6⟩ := seven_cells h2.hp
  have hbase : base ≤ w1.heap.size := Nat.le_of_lt (Nat.lt_of_le_of_lt h2.bb (h2.lt bw (.inl rfl)).2)
  obtain ⟨g, rc, w', hr, o1, k1, at1⟩ := apps16 w1.drew ((a : Int), (c : Int), to - p) h2.oS hl hbase
  have HW2 : Hid (Wr16 base bw vS vD vX ⟨S, D, X, a, c, p⟩ (to - p) w1) := h2
  have HO1 : Hid (w'.ownsRow base 53 3 (.slice (some ⟨g, 0, none⟩) (S.length + 1) rc) (S.length + 1) (flat16 (S ++ [((a : Int), (c : Int), to - p)]))) := by rw [flat16_app]; exact o1
  have HK1 : Hid (Kp (fun k => vS.ownBlock = some k) w1 w') := ⟨k1.os, k1.tape, k1.output, k1.size, k1.block⟩
  have HAT : Hid (vS.ownBlock = some g ∨ w1.heap.size ≤ g) := at1
  have HK2 : Hid (Kp (Wf16 bw vS vD vX) w w1) := K2
  have HSB : Hid (w.heap.size ≤ w1.heap.size) := K2.size
  clear h2 K2 o1 k1 at1 c0 c1 c2 c3 c4 c5 c6 d0 d1 d2 d3 d4 d5 d6 f5 H1 HK b1
  refine plain_region16 (fun V => V.cell? ⟨bw, 0, none⟩ = some vS ∧ V.cell? ⟨bw, 3, none⟩ = some (.int .i64 (a : Int)) ∧ V.cell? ⟨bw, 4, none⟩ = some (.int .i64 (c : Int)) ∧ V.cell? ⟨bw, 5, none⟩ = some (.int .i64 (to - p))) 15 (by kernel_rfl) ⟨g0, g3, g4, g5⟩ (fun hHeld => ?_)
  refine wpAnyK_take (i := 0) (v := .pointer (some ⟨bw, 0, none⟩)) rfl (by kernel_rfl) (by kernel_rfl) (by kernel_rfl) (by kernel_rfl) (fun _ _ _ h => h) (Or.inl ⟨by rfl, fun w hSw => by go_simp⟩) hHeld ?_
  simp only [List.getElem_toArray, List.getElem_cons_zero, Act.put, List.setIfInBounds_toArray, List.set_cons_zero, List.set_cons_succ]
  refine wpAnyK_take (i := 1) (v := .pointer (some ⟨bw, 0, none⟩)) rfl (by kernel_rfl) (by kernel_rfl) (by kernel_rfl) (by kernel_rfl) (fun _ _ _ h => h) (Or.inl ⟨by rfl, fun w hSw => by go_simp⟩) hHeld ?_
  simp only [List.getElem_toArray, List.getElem_cons_zero, List.getElem_cons_succ, Act.put, List.setIfInBounds_toArray, List.set_cons_zero, List.set_cons_succ]
  refine wpAnyK_take (i := 2) (v := .pointer (some ⟨bw, 0, none⟩)) rfl (by kernel_rfl) (by kernel_rfl) (by kernel_rfl) (by kernel_rfl) (fun _ _ _ h => h) (Or.inl ⟨by rfl, fun w hSw => by go_simp⟩) hHeld ?_
  simp only [List.getElem_toArray, List.getElem_cons_zero, List.getElem_cons_succ, Act.put, List.setIfInBounds_toArray, List.set_cons_zero, List.set_cons_succ]
  refine wpAnyK_take (i := 3) (v := .pointer (some ⟨bw, 0, none⟩)) rfl (by kernel_rfl) (by kernel_rfl) (by kernel_rfl) (by kernel_rfl) (fun _ _ _ h => h) (Or.inl ⟨by rfl, fun w hSw => by go_simp⟩) hHeld ?_
  simp only [List.getElem_toArray, List.getElem_cons_zero, List.getElem_cons_succ, Act.put, List.setIfInBounds_toArray, List.set_cons_zero, List.set_cons_succ]
  refine wpAnyK_take (i := 4) (v := .pointer (some ⟨bw, 0, none⟩)) rfl (by kernel_rfl) (by kernel_rfl) (by kernel_rfl) (by kernel_rfl) (fun _ _ _ h => h) (Or.inl ⟨by rfl, fun w hSw => by go_simp⟩) hHeld ?_
  simp only [List.getElem_toArray, List.getElem_cons_zero, List.getElem_cons_succ, Act.put, List.setIfInBounds_toArray, List.set_cons_zero, List.set_cons_succ]
  refine wpAnyK_take (i := 5) (v := vS) rfl (by kernel_rfl) (by kernel_rfl) (by kernel_rfl) (by kernel_rfl) (fun _ _ _ h => h) (Or.inl ⟨by rfl, fun w hSw => by go_simp⟩) hHeld ?_
  simp only [List.getElem_toArray, List.getElem_cons_zero, List.getElem_cons_succ, Act.put, List.setIfInBounds_toArray, List.set_cons_zero, List.set_cons_succ]
  refine wpAnyK_take (i := 6) (v := .pointer (some ⟨bw, 0, none⟩)) rfl (by kernel_rfl) (by kernel_rfl) (by kernel_rfl) (by kernel_rfl) (fun _ _ _ h => h) (Or.inl ⟨by rfl, fun w hSw => by go_simp⟩) hHeld ?_
  simp only [List.getElem_toArray, List.getElem_cons_zero, List.getElem_cons_succ, Act.put, List.setIfInBounds_toArray, List.set_cons_zero, List.set_cons_succ]
  refine wpAnyK_take (i := 7) (v := .pointer (some ⟨bw, 0, none⟩)) rfl (by kernel_rfl) (by kernel_rfl) (by kernel_rfl) (by kernel_rfl) (fun _ _ _ h => h) (Or.inl ⟨by rfl, fun w hSw => by go_simp⟩) hHeld ?_
  simp only [List.getElem_toArray, List.getElem_cons_zero, List.getElem_cons_succ, Act.put, List.setIfInBounds_toArray, List.set_cons_zero, List.set_cons_succ]
  refine wpAnyK_take (i := 8) (v := .pointer (some ⟨bw, 3, none⟩)) rfl (by kernel_rfl) (by kernel_rfl) (by kernel_rfl) (by kernel_rfl) (fun _ _ _ h => h) (Or.inl ⟨by rfl, fun w hSw => by go_simp⟩) hHeld ?_
  simp only [List.getElem_toArray, List.getElem_cons_zero, List.getElem_cons_succ, Act.put, List.setIfInBounds_toArray, List.set_cons_zero, List.set_cons_succ]
  refine wpAnyK_take (i := 9) (v := .agg #[.int .i64 (a : Int), .int .i64 (c : Int), .int .i64 (to - p)]) rfl (by kernel_rfl) (by kernel_rfl) (by kernel_rfl) (by kernel_rfl) (fun _ _ _ h => h) (Or.inl ⟨by rfl, fun w hSw => by go_simp⟩) hHeld ?_
  simp only [List.getElem_toArray, List.getElem_cons_zero, List.getElem_cons_succ, Act.put, List.setIfInBounds_toArray, List.set_cons_zero, List.set_cons_succ]
  refine wpAnyK_one (i := 10) (by kernel_rfl) rfl (fun K hK => ?_)
  (try simp only [List.getElem_toArray, List.getElem_cons_zero, List.getElem_cons_succ, Act.put, List.setIfInBounds_toArray, List.set_cons_zero, List.set_cons_succ])
  go_simp
  have hbl : bw < w1.heap.size := (hlt2 bw (.inl rfl)).2
  have k0 : ∀ o, (w1.alloc o).drew.cell? ⟨bw, 0, none⟩ = some vS := fun o => (((Below.refl w1.heap.size w1).alloc (Nat.le_refl _) o).cell (p := ⟨bw, 0, none⟩) hbl).trans g0
  have k3 : ∀ o, (w1.alloc o).drew.cell? ⟨bw, 3, none⟩ = some (.int .i64 (a : Int)) := fun o => (((Below.refl w1.heap.size w1).alloc (Nat.le_refl _) o).cell (p := ⟨bw, 3, none⟩) hbl).trans g3
  have k4 : ∀ o, (w1.alloc o).drew.cell? ⟨bw, 4, none⟩ = some (.int .i64 (c : Int)) := fun o => (((Below.refl w1.heap.size w1).alloc (Nat.le_refl _) o).cell (p := ⟨bw, 4, none⟩) hbl).trans g4
  have k5 : ∀ o, (w1.alloc o).drew.cell? ⟨bw, 5, none⟩ = some (.int .i64 (to - p)) := fun o => (((Below.refl w1.heap.size w1).alloc (Nat.le_refl _) o).cell (p := ⟨bw, 5, none⟩) hbl).trans g5
  refine hK.out _ _ (fun _ => ⟨k0 _, k3 _, k4 _, k5 _⟩) (fun hHeld0 => ?_)
  have hHeld := hHeld0 (by decide)
  clear hHeld0 hK K
  (try simp only [List.getElem_toArray, List.getElem_cons_zero, List.getElem_cons_succ, Act.put, List.setIfInBounds_toArray, List.set_cons_zero, List.set_cons_succ])
  refine wpAnyK_one (i := 11) (by kernel_rfl) rfl (fun K hK => ?_)
  simp only [List.getElem_toArray, List.getElem_cons_zero, List.getElem_cons_succ]
  rw [if_pos (by rfl)]
  refine operwp_app16 _ _ _ rfl rfl rfl hr ?_
  have q' : w'.heap[bw]? = some (.cells #[vS, vD, vX, .int .i64 (a : Int), .int .i64 (c : Int), .int .i64 (to - p), .int .i64 p] 78 (0, 0)) := HK1.out.heap HW2.out.hp (fun e => HW2.out.nS e)
  obtain ⟨e0, e1, e2, e3, e4, e5, e6⟩ := seven_cells q'
  have f0 := seven_free (i := 0) q'
  have f3 := seven_free (i := 3) q'
  have f4 := seven_free (i := 4) q'
  have f5 := seven_free (i := 5) q'
  have f6 := seven_free (i := 6) q'
  have HQ : Hid (w'.heap[bw]? = some (.cells #[vS, vD, vX, .int .i64 (a : Int), .int .i64 (c : Int), .int .i64 (to - p), .int .i64 p] 78 (0, 0))) := q'
  clear k0 k3 k4 k5 g0 g1 g2 g3 g4 g5 g6 q'
  refine hK.out _ _ (fun _ => ⟨e0, e3, e4, e5⟩) (fun hHeld0 => ?_)
  have hHeld := hHeld0 (by decide)
  clear hHeld0 hK K
  simp only [Act.put, List.setIfInBounds_toArray, List.set_cons_zero, List.set_cons_succ]
  refine wpAnyK_one (i := 12) (by kernel_rfl) rfl (fun K hK => ?_)
  (try simp only [List.getElem_toArray, List.getElem_cons_zero, List.getElem_cons_succ, Act.put, List.setIfInBounds_toArray, List.set_cons_zero, List.set_cons_succ])
  go_simp
  refine hK.out _ _ (fun _ => ⟨e0, e3, e4, e5⟩) (fun hHeld0 => ?_)
  have hHeld := hHeld0 (by decide)
  clear hHeld0 hK K
  (try simp only [List.getElem_toArray, List.getElem_cons_zero, List.getElem_cons_succ, Act.put, List.setIfInBounds_toArray, List.set_cons_zero, List.set_cons_succ])
  refine wpAnyK_one (i := 13) (by kernel_rfl) rfl (fun K hK => ?_)
  (try simp only [List.getElem_toArray, List.getElem_cons_zero, List.getElem_cons_succ, Act.put, List.setIfInBounds_toArray, List.set_cons_zero, List.set_cons_succ])
  go_simp
  refine hK.out _ _ (fun _ => ⟨e0, e3, e4, e5⟩) (fun hHeld0 => ?_)
  have hHeld := hHeld0 (by decide)
  clear hHeld0 hK K
  (try simp only [List.getElem_toArray, List.getElem_cons_zero, List.getElem_cons_succ, Act.put, List.setIfInBounds_toArray, List.set_cons_zero, List.set_cons_succ])
  refine wpAnyK_one (i := 14) (by kernel_rfl) rfl (fun K hK => ?_)
  (try simp only [List.getElem_toArray, List.getElem_cons_zero, List.getElem_cons_succ, Act.put, List.setIfInBounds_toArray, List.set_cons_zero, List.set_cons_succ])
  go_simp
  refine hK.out _ _ (fun _ => ⟨e0, e3, e4, e5⟩) (fun hHeld0 => ?_)
  have hHeld := hHeld0 (by decide)
  clear hHeld0 hK K
  (try simp only [List.getElem_toArray, List.getElem_cons_zero, List.getElem_cons_succ, Act.put, List.setIfInBounds_toArray, List.set_cons_zero, List.set_cons_succ])
  refine wpAnyK_one (i := 15) (by kernel_rfl) rfl (fun K hK => ?_)
  simp only [List.getElem_toArray, List.getElem_cons_zero, List.getElem_cons_succ, Act.put]
  go_simp
  refine hK.out _ _ (fun h => absurd rfl h) (fun _ => ?_)
  clear hK K
  refine wpAnyK_done (by kernel_rfl) ?_ _
  go_wp2
  go_end0
  have hw2 := HW2.out
  have ks : Kp (fun k => k = bw) w' (((((w'.setCell ⟨bw, 0, none⟩ (.slice (some ⟨g, 0, none⟩) (S.length + 1) rc)).setCell ⟨bw, 3, none⟩ (.int .i64 0)).setCell ⟨bw, 4, none⟩ (.int .i64 0)).setCell ⟨bw, 5, none⟩ (.int .i64 0)).setCell ⟨bw, 6, none⟩ (.int .i64 to)) :=
    ((((Kp.set (S := fun k => k = bw) rfl _).trans (Kp.set (S := fun k => k = bw) rfl _) (fun _ _ h => h)).trans (Kp.set (S := fun k => k = bw) rfl _) (fun _ _ h => h)).trans (Kp.set (S := fun k => k = bw) rfl _) (fun _ _ h => h)).trans (Kp.set (S := fun k => k = bw) rfl _) (fun _ _ h => h)
  have hgn : g ≠ bw ∧ (∀ x, vD.ownBlock = some x → g ≠ x) ∧ (∀ x, vX.ownBlock = some x → g ≠ x) := by
    rcases HAT.out with e | e
    · exact ⟨fun x => hw2.nS (by rw [e, x]), fun x hx y => hw2.sd g e (by rw [hx, y]), fun x hx y => hw2.sx g e (by rw [hx, y])⟩
    · have l1 := (hlt2 bw (.inl rfl)).2
      refine ⟨by omega, fun x hx y => ?_, fun x hx y => ?_⟩
      · have := (hlt2 x (.inr (.inr (.inl hx)))).2; omega
      · have := (hlt2 x (.inr (.inr (.inr hx)))).2; omega
  refine ⟨rfl, .slice (some ⟨g, 0, none⟩) (S.length + 1) rc, ⟨seven_end HQ.out _ _ _ _ _, ?_, ?_, ?_, ?_, hw2.nD, hw2.nX, ?_, ?_, hw2.dx, hw2.bb⟩, ?_, ?_⟩
  · have : (S ++ [((a : Int), (c : Int), to - p)]).length = S.length + 1 := by simp
    show World.ownsRow _ _ _ _ _ (S ++ [((a : Int), (c : Int), to - p)]).length _
    rw [this]
    exact own_kp16 HO1.out ks (fun x e y => by
      have e : some g = some x := e
      injection e with e
      exact hgn.1 (e.trans y))
  · exact own_kp (own_kp hw2.oD HK1.out (fun x e y => hw2.sd x y e)) ks (fun x e y => hw2.nD (by rw [e]; exact congrArg some y))
  · exact own_kp (own_kp hw2.oX HK1.out (fun x e y => hw2.sx x y e)) ks (fun x e y => hw2.nX (by rw [e]; exact congrArg some y))
  · intro e
    have e : some g = some bw := e
    injection e with e
    exact hgn.1 e
  · intro x e y
    have e : some g = some x := e
    injection e with e
    exact hgn.2.1 x y e
  · intro x e y
    have e : some g = some x := e
    injection e with e
    exact hgn.2.2 x y e
  · exact (HK2.out.trans (HK1.out.mono (S' := Wf16 bw vS vD vX) (fun i _ e => .inr (.inl e))) (fun _ _ h => h)).trans (ks.mono (S' := Wf16 bw vS vD vX) (fun i _ e => .inl e)) (fun _ _ h => h)
  · intro x e
    have e : some g = some x := e
    injection e with e
    subst e
    rcases HAT.out with h | h
    · exact .inl h
    · have := HSB.out; exact .inr (by omega)
end Go.Proofs.Ytgbpejnafgllpaa
