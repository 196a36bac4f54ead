
import Derived.Test.YtgbpejnafgllpaaEd11
namespace Go.Proofs.Ytgbpejnafgllpaa
open Go.RowKit Go.Shelf
set_option linter.unusedVariables false

/-! The writer's take of a byte of the old image. -/
/-- What the tail of take meets: the step's Add, the place, and the byte behind Diff. -/
structure Tl16 (base bw ob : Nat) (vS vD vX : Value) (s : Wt16) (v : Int) (V W : World) (g rc : Nat) (w' : World) : Prop where
  d1 : W.cell? ⟨bw, 1, none⟩ = some vD
  o1 : W.cell? ⟨ob, 1, none⟩ = some (.int .u8 v)
  k1 : ∀ o, (W.alloc o).drew.cell? ⟨bw, 1, none⟩ = some vD
  k2 : ∀ o, (W.alloc o).drew.cell? ⟨ob, 1, none⟩ = some (.int .u8 v)
  hr : (Builtin.append_ #[23, 23] 23 #[vD, .slice (some ⟨W.drew.heap.size, 0, none⟩) 1 1]).run Try.prog (W.drew.alloc (.cells #[.int .u8 v] 5)) = .ok (.slice (some ⟨g, 0, none⟩) (s.D.length + 1) rc) w'
  e1 : w'.cell? ⟨bw, 1, none⟩ = some vD
  ef : w'.frozen? ⟨bw, 1, none⟩ = false
  o2 : w'.cell? ⟨ob, 1, none⟩ = some (.int .u8 v)
  wr : Wr16 base bw vS (.slice (some ⟨g, 0, none⟩) (s.D.length + 1) rc) vX (s.add v) 0 (w'.setCell ⟨bw, 1, none⟩ (.slice (some ⟨g, 0, none⟩) (s.D.length + 1) rc))
  kp : Kp (Wf16 bw vS vD vX) V (w'.setCell ⟨bw, 1, none⟩ (.slice (some ⟨g, 0, none⟩) (s.D.length + 1) rc))
  ft : ∀ k, Wf16 bw vS (.slice (some ⟨g, 0, none⟩) (s.D.length + 1) rc) vX k → Wf16 bw vS vD vX k ∨ V.heap.size ≤ k
variable {base bw : Nat} {vS vD vX : Value} {s : Wt16} {w : World}
theorem tail16 {ob a1 : Nat} {v p1 : Int} {V W : World} {t : TypeId} {y0 y2 : Value} (h : Wr16 base bw vS vD vX s 0 V) (hW : W = (V.setCell ⟨bw, 3, none⟩ (.int .i64 (a1 : Int))).setCell ⟨bw, 6, none⟩ (.int .i64 p1)) (ha : a1 = s.a + 1) (hp : p1 = s.p + 1) (hl : s.D.length + 1 ≤ 1099511627776) (hob : V.heap[ob]? = some (.cells #[y0, .int .u8 v, y2] t (0, 0))) (hne : ob ≠ bw) (hnD : vD.ownBlock ≠ some ob) :
    ∃ g rc w', Tl16 base bw ob vS vD vX s v V W g rc w' := by
  have h3 : Wr16 base bw vS vD vX { s with a := a1 } 0 (V.setCell ⟨bw, 3, none⟩ (.int .i64 (a1 : Int))) := h.num rfl rfl rfl (seven_set3 h.hp _)
  have h6 : Wr16 base bw vS vD vX { s with a := a1, p := p1 } 0 ((V.setCell ⟨bw, 3, none⟩ (.int .i64 (a1 : Int))).setCell ⟨bw, 6, none⟩ (.int .i64 p1)) := h3.num (s' := { s with a := a1, p := p1 }) rfl rfl rfl (seven_set6 h3.hp _)
  have K6 : Kp (Wf16 bw vS vD vX) V ((V.setCell ⟨bw, 3, none⟩ (.int .i64 (a1 : Int))).setCell ⟨bw, 6, none⟩ (.int .i64 p1)) := (Kp.set (S := Wf16 bw vS vD vX) (.inl rfl) _).trans (Kp.set (S := Wf16 bw vS vD vX) (.inl rfl) _) (fun _ _ h => h)
  have q6 : ((V.setCell ⟨bw, 3, none⟩ (.int .i64 (a1 : Int))).setCell ⟨bw, 6, none⟩ (.int .i64 p1)).heap[ob]? = some (.cells #[y0, .int .u8 v, y2] t (0, 0)) := (heap_setCell_other _ _ _ _ hne).trans ((heap_setCell_other _ _ _ _ hne).trans hob)
  have z6 : ((V.setCell ⟨bw, 3, none⟩ (.int .i64 (a1 : Int))).setCell ⟨bw, 6, none⟩ (.int .i64 p1)).heap.size = V.heap.size := by simp
  rw [← hW] at h6 K6 q6 z6
  clear h3 hW
  have hbl := (h6.lt bw (.inl rfl)).2
  have hobl : ob < W.heap.size := (Array.getElem?_eq_some_iff.1 q6).1
  have d1 := (seven_cells h6.hp).2.1
  have o1 := three_cell1 q6
  obtain ⟨g, rc, w', hr, ow, k1, at1⟩ := appb16 W.drew v h6.oD hl (Nat.le_of_lt (Nat.lt_of_le_of_lt h6.bb hbl))
  have k1' : Kp (fun k => vD.ownBlock = some k) W w' := ⟨k1.os, k1.tape, k1.output, k1.size, k1.block⟩
  obtain ⟨p1', p2, p3⟩ := h6.setD ow k1' at1
  refine ⟨g, rc, w', d1, o1, fun o => (((Below.refl W.heap.size W).alloc (Nat.le_refl _) o).cell (p := ⟨bw, 1, none⟩) hbl).trans d1, fun o => (((Below.refl W.heap.size W).alloc (Nat.le_refl _) o).cell (p := ⟨ob, 1, none⟩) hobl).trans o1, hr, (seven_cells p1').2.1, seven_free p1', three_cell1 (k1'.heap q6 hnD), ?_, K6.trans p3 (fun _ _ h => h), ?_⟩
  · have e : s.add v = { ({ s with a := a1, p := p1 } : Wt16) with D := s.D ++ [v] } := by unfold Wt16.add; rw [ha, hp]
    rw [e]; exact p2
  · rintro k (x | x | x | x)
    · exact .inl (.inl x)
    · exact .inl (.inr (.inl x))
    · have x : some g = some k := x
      injection x with x
      subst x
      rcases at1 with y | y
      · exact .inl (.inr (.inr (.inl y)))
      · exact .inr (by have y : W.heap.size ≤ g := y; omega)
    · exact .inl (.inr (.inr (.inr x)))
set_option maxRecDepth 100000 in
set_option maxHeartbeats 8000000 in
/-- Where the place is right and nothing was copied. -/
theorem ptk_add16 (at_ v : Int) (h : Wr16 base bw vS vD vX s 0 w) (hat : at_ = s.p) (hc0 : s.c = 0) (ha : s.a ≤ 1099511627776) (hp : -1152921504606846976 ≤ s.p ∧ s.p ≤ 1152921504606846976) (hl : s.D.length + 1 ≤ 1099511627776) :
    Calls Try.prog 42 #[.pointer (some ⟨bw, 0, none⟩), .agg #[.int .i64 at_, .int .u8 v, .bool false]] w (TkQ16 base bw vS vD vX (s.add v) w) := by
  have hbl : bw < w.heap.size := (h.lt bw (.inl rfl)).2
  have hadd : IntKind.i64.wrap ((s.a : Int) + 1) = ((s.a + 1 : Nat) : Int) := by rw [IntWalk.i64_in _ (by omega)]; omega
  have hadp : IntKind.i64.wrap (s.p + 1) = s.p + 1 := IntWalk.i64_in _ (by omega)
  obtain ⟨a1, ha1⟩ : ∃ a1, a1 = s.a + 1 := ⟨_, rfl⟩
  rw [← ha1] at hadd
  obtain ⟨wA, hwA⟩ : ∃ wA, wA = w.alloc (.cells #[.int .i64 at_, .int .u8 v, .bool false] 65) := ⟨_, rfl⟩
  have cA : Cb16 w #[.int .i64 at_, .int .u8 v, .bool false] 65 wA := by rw [hwA]; exact cb16 _ _ _
  have hA := h.kp (Kp.of_below (S := fun _ => False) cA.bl) (fun _ _ x => x)
  obtain ⟨ob, hob⟩ : ∃ ob, ob = w.heap.size := ⟨_, rfl⟩
  have qo : wA.heap[ob]? = some (.cells #[.int .i64 at_, .int .u8 v, .bool false] 65 (0, 0)) := by rw [hob]; exact cA.cl
  obtain ⟨g0, g1, g2, g3, g4, g5, g6⟩ := seven_cells hA.hp
  have a0 := three_cell0 qo
  have a2 := three_cell2 qo
  have HWA : Hid (w.alloc (.cells #[.int .i64 at_, .int .u8 v, .bool false] 65) = wA) := hwA.symm
  have HOB : Hid (w.heap.size = ob) := hob.symm
  have HR : Hid (∀ nq, ∃ g rc w' wT, wT = (((wA.drewN nq).setCell ⟨bw, 3, none⟩ (.int .i64 (a1 : Int))).setCell ⟨bw, 6, none⟩ (.int .i64 (s.p + 1))) ∧ Tl16 base bw ob vS vD vX s v (wA.drewN nq) wT g rc w' ∧ TkQ16 base bw vS vD vX (s.add v) w (.returned (.tuple #[])) (w'.setCell ⟨bw, 1, none⟩ (.slice (some ⟨g, 0, none⟩) (s.D.length + 1) rc))) := by
    intro nq
    obtain ⟨g, rc, w', T⟩ := tail16 (V := wA.drewN nq) (hA.kp (Kp.of_below (S := fun _ => False) (below_drewN16 (Below.refl _ _) nq)) (fun _ _ x => x)) rfl ha1 rfl hl qo (by omega) (fun e => by have := (h.lt ob (.inr (.inr (.inl e)))).2; omega)
    exact ⟨g, rc, w', _, rfl, T, rfl, vS, _, vX, T.wr, (Kp.of_below (S := Wf16 bw vS vD vX) (below_drewN16 cA.bl nq)).trans T.kp (fun _ _ h => h), fun k x => (T.ft k x).imp id (fun y => Nat.le_trans cA.bl.size y)⟩
  have HF : Hid (∀ nq, (wA.drewN nq).cell? ⟨bw, 3, none⟩ = some (.int .i64 (s.a : Int)) ∧ (wA.drewN nq).frozen? ⟨bw, 3, none⟩ = false ∧ ((wA.drewN nq).setCell ⟨bw, 3, none⟩ (.int .i64 (a1 : Int))).cell? ⟨bw, 6, none⟩ = some (.int .i64 s.p) ∧ ((wA.drewN nq).setCell ⟨bw, 3, none⟩ (.int .i64 (a1 : Int))).frozen? ⟨bw, 6, none⟩ = false) := by
    intro nq
    have h := hA.kp (Kp.of_below (S := fun _ => False) (below_drewN16 (Below.refl _ wA) nq)) (fun _ _ x => x)
    have q3 := seven_set3 h.hp (.int .i64 (a1 : Int))
    exact ⟨(seven_cells h.hp).2.2.2.1, seven_free (i := 3) h.hp, (seven_cells q3).2.2.2.2.2.2, seven_free (i := 6) q3⟩
  subst hat
  rw [hc0] at g4
  clear hA qo cA h hc0 ha1
  obtain ⟨S, D, X, a, c, p⟩ := s
  simp only at *
  rw [hwA, hob] at a2
  go_enter Try.func42, Try.ntmps42
  go_wp2
  rw [HWA.out, HOB.out]
  clear hwA hob a2
  go_quiet (fail)
  obtain ⟨g, rc, w', wT, hwT, T, hP⟩ := HR.out nq
  obtain ⟨f1, f2, f3, f4⟩ := HF.out nq
  obtain ⟨wB, hwB⟩ : ∃ wB, wB = wA.drewN nq := ⟨_, rfl⟩
  rw [← hwB] at hwT T f1 f2 f3 f4 ⊢
  have HWT : Hid ((wB.setCell ⟨bw, 3, none⟩ (.int .i64 (a1 : Int))).setCell ⟨bw, 6, none⟩ (.int .i64 (p + 1)) = wT) := hwT.symm
  have HP : Hid (TkQ16 base bw vS vD vX (Wt16.add ⟨S, D, X, a, c, p⟩ v) w (.returned (.tuple #[])) (w'.setCell ⟨bw, 1, none⟩ (.slice (some ⟨g, 0, none⟩) (D.length + 1) rc))) := hP
  clear HR HF hwB hwT hP g0 g1 g2 g3 g4 g5 g6 a0
  go_wp2
  rw [HWT.out]

  refine plain_region16 (fun V => V.cell? ⟨bw, 1, none⟩ = some vD ∧ V.cell? ⟨ob, 1, none⟩ = some (.int .u8 v)) 13 (by kernel_rfl) ⟨T.d1, T.o1⟩ (fun hHeld => ?_)
  refine wpAnyK_take (i := 0) (v := .pointer (some ⟨bw, 0, none⟩)) rfl (by kernel_rfl) (by kernel_rfl) (by kernel_rfl) (by kernel_rfl) (fun _ _ _ h => h) (Or.inl ⟨by rfl, fun w hSw => by go_simp⟩) hHeld ?_
  simp only [List.getElem_toArray, List.getElem_cons_zero, Act.put, List.setIfInBounds_toArray, List.set_cons_zero, List.set_cons_succ]
  refine wpAnyK_take (i := 1) (v := .pointer (some ⟨bw, 0, none⟩)) rfl (by kernel_rfl) (by kernel_rfl) (by kernel_rfl) (by kernel_rfl) (fun _ _ _ h => h) (Or.inl ⟨by rfl, fun w hSw => by go_simp⟩) hHeld ?_
  simp only [List.getElem_toArray, List.getElem_cons_zero, List.getElem_cons_succ, Act.put, List.setIfInBounds_toArray, List.set_cons_zero, List.set_cons_succ]
  refine wpAnyK_take (i := 2) (v := .pointer (some ⟨bw, 0, none⟩)) rfl (by kernel_rfl) (by kernel_rfl) (by kernel_rfl) (by kernel_rfl) (fun _ _ _ h => h) (Or.inl ⟨by rfl, fun w hSw => by go_simp⟩) hHeld ?_
  simp only [List.getElem_toArray, List.getElem_cons_zero, List.getElem_cons_succ, Act.put, List.setIfInBounds_toArray, List.set_cons_zero, List.set_cons_succ]
  refine wpAnyK_take (i := 3) (v := .pointer (some ⟨bw, 0, none⟩)) rfl (by kernel_rfl) (by kernel_rfl) (by kernel_rfl) (by kernel_rfl) (fun _ _ _ h => h) (Or.inl ⟨by rfl, fun w hSw => by go_simp⟩) hHeld ?_
  simp only [List.getElem_toArray, List.getElem_cons_zero, List.getElem_cons_succ, Act.put, List.setIfInBounds_toArray, List.set_cons_zero, List.set_cons_succ]
  refine wpAnyK_take (i := 4) (v := .pointer (some ⟨bw, 1, none⟩)) rfl (by kernel_rfl) (by kernel_rfl) (by kernel_rfl) (by kernel_rfl) (fun _ _ _ h => h) (Or.inl ⟨by rfl, fun w hSw => by go_simp⟩) hHeld ?_
  simp only [List.getElem_toArray, List.getElem_cons_zero, List.getElem_cons_succ, Act.put, List.setIfInBounds_toArray, List.set_cons_zero, List.set_cons_succ]
  refine wpAnyK_take (i := 5) (v := vD) rfl (by kernel_rfl) (by kernel_rfl) (by kernel_rfl) (by kernel_rfl) (fun _ _ _ h => h) (Or.inl ⟨by rfl, fun w hSw => by go_simp⟩) hHeld ?_
  simp only [List.getElem_toArray, List.getElem_cons_zero, List.getElem_cons_succ, Act.put, List.setIfInBounds_toArray, List.set_cons_zero, List.set_cons_succ]
  refine wpAnyK_take (i := 6) (v := .pointer (some ⟨ob, 1, none⟩)) rfl (by kernel_rfl) (by kernel_rfl) (by kernel_rfl) (by kernel_rfl) (fun _ _ _ h => h) (Or.inl ⟨by rfl, fun w hSw => by go_simp⟩) hHeld ?_
  simp only [List.getElem_toArray, List.getElem_cons_zero, List.getElem_cons_succ, Act.put, List.setIfInBounds_toArray, List.set_cons_zero, List.set_cons_succ]
  refine wpAnyK_take (i := 7) (v := .int .u8 v) rfl (by kernel_rfl) (by kernel_rfl) (by kernel_rfl) (by kernel_rfl) (fun _ _ _ h => h) (Or.inl ⟨by rfl, fun w hSw => by go_simp⟩) hHeld ?_
  simp only [List.getElem_toArray, List.getElem_cons_zero, List.getElem_cons_succ, Act.put, List.setIfInBounds_toArray, List.set_cons_zero, List.set_cons_succ]
  refine wpAnyK_one (i := 8) (by kernel_rfl) rfl (fun K hK => ?_)
  (try simp only [List.getElem_toArray, List.getElem_cons_zero, List.getElem_cons_succ, Act.put, List.setIfInBounds_toArray, List.set_cons_zero, List.set_cons_succ])
  go_simp
  refine hK.out _ _ (fun _ => ⟨T.k1 _, T.k2 _⟩) (fun hHeld0 => ?_)
  have hHeld := hHeld0 (by decide)
  clear hHeld0 hK K
  (try simp only [List.getElem_toArray, List.getElem_cons_zero, List.getElem_cons_succ, Act.put, List.setIfInBounds_toArray, List.set_cons_zero, List.set_cons_succ])
  refine wpAnyK_one (i := 9) (by kernel_rfl) rfl (fun K hK => ?_)
  simp only [List.getElem_toArray, List.getElem_cons_zero, List.getElem_cons_succ]
  rw [if_pos (by rfl)]
  refine operwp_app16 _ _ _ rfl rfl rfl T.hr ?_
  have e1 := T.e1
  have ef := T.ef
  have o2 := T.o2
  refine hK.out _ _ (fun _ => ⟨e1, o2⟩) (fun hHeld0 => ?_)
  have hHeld := hHeld0 (by decide)
  clear hHeld0 hK K
  simp only [Act.put, List.setIfInBounds_toArray, List.set_cons_zero, List.set_cons_succ]
  refine wpAnyK_one (i := 10) (by kernel_rfl) rfl (fun K hK => ?_)
  (try simp only [List.getElem_toArray, List.getElem_cons_zero, List.getElem_cons_succ, Act.put, List.setIfInBounds_toArray, List.set_cons_zero, List.set_cons_succ])
  go_simp
  refine hK.out _ _ (fun _ => ⟨e1, o2⟩) (fun hHeld0 => ?_)
  have hHeld := hHeld0 (by decide)
  clear hHeld0 hK K
  (try simp only [List.getElem_toArray, List.getElem_cons_zero, List.getElem_cons_succ, Act.put, List.setIfInBounds_toArray, List.set_cons_zero, List.set_cons_succ])
  refine wpAnyK_one (i := 11) (by kernel_rfl) rfl (fun K hK => ?_)
  (try simp only [List.getElem_toArray, List.getElem_cons_zero, List.getElem_cons_succ, Act.put, List.setIfInBounds_toArray, List.set_cons_zero, List.set_cons_succ])
  go_simp
  refine hK.out _ _ (fun _ => ⟨e1, o2⟩) (fun hHeld0 => ?_)
  have hHeld := hHeld0 (by decide)
  clear hHeld0 hK K
  (try simp only [List.getElem_toArray, List.getElem_cons_zero, List.getElem_cons_succ, Act.put, List.setIfInBounds_toArray, List.set_cons_zero, List.set_cons_succ])
  refine wpAnyK_one (i := 12) (by kernel_rfl) rfl (fun K hK => ?_)
  (try simp only [List.getElem_toArray, List.getElem_cons_zero, List.getElem_cons_succ, Act.put, List.setIfInBounds_toArray, List.set_cons_zero, List.set_cons_succ])
  go_simp
  refine hK.out _ _ (fun _ => ⟨e1, o2⟩) (fun hHeld0 => ?_)
  have hHeld := hHeld0 (by decide)
  clear hHeld0 hK K
  (try simp only [List.getElem_toArray, List.getElem_cons_zero, List.getElem_cons_succ, Act.put, List.setIfInBounds_toArray, List.set_cons_zero, List.set_cons_succ])
  refine wpAnyK_one (i := 13) (by kernel_rfl) rfl (fun K hK => ?_)
  simp only [List.getElem_toArray, List.getElem_cons_zero, List.getElem_cons_succ, Act.put]
  go_simp
  refine hK.out _ _ (fun h => absurd rfl h) (fun _ => ?_)
  clear hK K
  refine wpAnyK_done (by kernel_rfl) ?_ _
  go_wp2
  go_end0
  exact HP.out
end Go.Proofs.Ytgbpejnafgllpaa
