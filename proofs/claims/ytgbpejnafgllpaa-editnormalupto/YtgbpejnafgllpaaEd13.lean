
import Derived.Test.YtgbpejnafgllpaaEd12
namespace Go.Proofs.Ytgbpejnafgllpaa
open Go.RowKit Go.Shelf
set_option linter.unusedVariables false

/-! The writer's take of a byte of the old image, behind a seek. -/
/-- What take meets behind the seek. -/
structure Bs16 (base bw ob : Nat) (vS vD vX vS' : Value) (s : Wt16) (at_ v : Int) (w w2 : World) (n0 n1 g rc : Nat) (w' wT : World) : Prop where
  hadd : IntKind.i64.wrap ((n0 : Int) + 1) = (n1 : Int)
  hwT : (w2.setCell ⟨bw, 3, none⟩ (.int .i64 (n1 : Int))).setCell ⟨bw, 6, none⟩ (.int .i64 (at_ + 1)) = wT
  T : Tl16 base bw ob vS' vD vX (s.seek at_) v w2 wT g rc w'
  P : TkQ16 base bw vS vD vX ((s.seek at_).add v) w (.returned (.tuple #[])) (w'.setCell ⟨bw, 1, none⟩ (.slice (some ⟨g, 0, none⟩) (s.D.length + 1) rc))
  f1 : w2.cell? ⟨bw, 3, none⟩ = some (.int .i64 (n0 : Int))
  f2 : w2.frozen? ⟨bw, 3, none⟩ = false
  f3 : (w2.setCell ⟨bw, 3, none⟩ (.int .i64 (n1 : Int))).cell? ⟨bw, 6, none⟩ = some (.int .i64 at_)
  f4 : (w2.setCell ⟨bw, 3, none⟩ (.int .i64 (n1 : Int))).frozen? ⟨bw, 6, none⟩ = false
variable {base bw : Nat} {vS vD vX : Value} {s : Wt16} {w : World}
theorem bs16 {ob : Nat} {at_ v : Int} {wB : World} (cA : Below w.heap.size w wB) (h : Wr16 base bw vS vD vX s 0 w) (hA : Wr16 base bw vS vD vX s 0 wB) (hob : ob = w.heap.size) (qo : wB.heap[ob]? = some (.cells #[.int .i64 at_, .int .u8 v, .bool false] 65 (0, 0))) (ha : s.a ≤ 16777216) (hc : s.c ≤ 16777216) (hp : -1152921504606846976 ≤ s.p ∧ s.p ≤ 1152921504606846976) (ht : -1152921504606846976 ≤ at_ ∧ at_ ≤ 1152921504606846976) (hb : -16777216 ≤ at_ - s.p ∧ at_ - s.p ≤ 16777216) (hl : s.S.length + 1 ≤ 1099511627776) (hd : s.D.length + 1 ≤ 1099511627776) :
    Calls Try.prog 50 #[.pointer (some ⟨bw, 0, none⟩), .int .i64 at_] wB fun e w2 => e = .returned (.tuple #[]) ∧ ∃ vS' n0 n1 g rc w' wT, Bs16 base bw ob vS vD vX vS' s at_ v w w2 n0 n1 g rc w' wT := by
  have hbl := (h.lt bw (.inl rfl)).2
  refine (pseek16 at_ hA ha hc hp ht hb hl).mono ?_
  rintro e w2 ⟨rfl, vS', h2, K2, a2⟩
  have hw : ∀ k, Wf16 bw vS vD vX k → k ≠ ob := fun k x e => by have := (h.lt k x).2; omega
  have q2 := K2.heap qo (fun x => hw ob x rfl)
  obtain ⟨g, rc, w', T⟩ := tail16 (V := w2) (a1 := 1) (p1 := at_ + 1) h2 rfl rfl rfl hd q2 (by omega) (fun e => hw ob (.inr (.inr (.inl e))) rfl)
  have q3 := seven_set3 h2.hp (.int .i64 ((1 : Nat) : Int))
  have K0 : Kp (Wf16 bw vS vD vX) w w2 := (Kp.of_below (S := Wf16 bw vS vD vX) cA).trans K2 (fun _ _ h => h)
  have hf : ∀ k, k < w.heap.size → Wf16 bw vS' vD vX k → Wf16 bw vS vD vX k := by
    rintro k hk (x | x | x | x)
    · exact .inl x
    · rcases a2 k x with y | y
      · exact .inr (.inl y)
      · have := cA.size; omega
    · exact .inr (.inr (.inl x))
    · exact .inr (.inr (.inr x))
  refine ⟨rfl, vS', 0, 1, g, rc, w', _, by decide, rfl, T, ⟨rfl, vS', _, vX, T.wr, K0.trans T.kp hf, fun k x => ?_⟩, (seven_cells h2.hp).2.2.2.1, seven_free (i := 3) h2.hp, (seven_cells q3).2.2.2.2.2.2, seven_free (i := 6) q3⟩
  rcases T.ft k x with y | y
  · by_cases hk : k < w.heap.size
    · exact .inl (hf k hk y)
    · exact .inr (by omega)
  · exact .inr (Nat.le_trans K0.size y)
set_option maxRecDepth 100000 in
set_option maxHeartbeats 8000000 in
theorem ptk_at16 (at_ v : Int) (h : Wr16 base bw vS vD vX s 0 w) (hat : ¬ at_ = s.p) (ha : s.a ≤ 16777216) (hc : s.c ≤ 16777216) (hp : -1152921504606846976 ≤ s.p ∧ s.p ≤ 1152921504606846976) (ht : -1152921504606846976 ≤ at_ ∧ at_ ≤ 1152921504606846976) (hb : -16777216 ≤ at_ - s.p ∧ at_ - s.p ≤ 16777216) (hl : s.S.length + 1 ≤ 1099511627776) (hd : s.D.length + 1 ≤ 1099511627776) :
    Calls Try.prog 42 #[.pointer (some ⟨bw, 0, none⟩), .agg #[.int .i64 at_, .int .u8 v, .bool false]] w (TkQ16 base bw vS vD vX ((s.seek at_).add v) w) := by
  have hbl : bw < w.heap.size := (h.lt bw (.inl rfl)).2
  have hadp : IntKind.i64.wrap (at_ + 1) = at_ + 1 := IntWalk.i64_in _ (by omega)
  obtain ⟨wA, hwA⟩ : ∃ wA, wA = w.alloc (.cells #[.int .i64 at_, .int .u8 v, .bool false] 65) := ⟨_, rfl⟩
  have cA : Cb16 w #[.int .i64 at_, .int .u8 v, .bool false] 65 wA := by rw [hwA]; exact cb16 _ _ _
  have hA := h.kp (Kp.of_below (S := fun _ => False) cA.bl) (fun _ _ x => x)
  obtain ⟨ob, hob⟩ : ∃ ob, ob = w.heap.size := ⟨_, rfl⟩
  have qo : wA.heap[ob]? = some (.cells #[.int .i64 at_, .int .u8 v, .bool false] 65 (0, 0)) := by rw [hob]; exact cA.cl
  obtain ⟨g0, g1, g2, g3, g4, g5, g6⟩ := seven_cells hA.hp
  have a0 := three_cell0 qo
  have a2 := three_cell2 qo
  have HWA : Hid (w.alloc (.cells #[.int .i64 at_, .int .u8 v, .bool false] 65) = wA) := hwA.symm
  have HOB : Hid (w.heap.size = ob) := hob.symm
  have HC : Hid (∀ nq, Calls Try.prog 50 #[.pointer (some ⟨bw, 0, none⟩), .int .i64 at_] (wA.drewN nq) fun e w2 => e = .returned (.tuple #[]) ∧ ∃ vS' n0 n1 g rc w' wT, Bs16 base bw ob vS vD vX vS' s at_ v w w2 n0 n1 g rc w' wT) := by
    intro nq
    exact bs16 (below_drewN16 cA.bl nq) h (hA.kp (Kp.of_below (S := fun _ => False) (below_drewN16 (Below.refl _ wA) nq)) (fun _ _ x => x)) hob qo ha hc hp ht hb hl hd
  clear hA qo cA h hb
  obtain ⟨S, D, X, a, c, p⟩ := s
  simp only at *
  rw [hwA, hob] at a2
  go_enter Try.func42, Try.ntmps42
  go_wp2
  rw [HWA.out, HOB.out]
  clear hwA hob a2
  go_quiet (fail)
  have CS := HC.out nq
  have b0 : (wA.drewN nq).cell? ⟨ob, 0, none⟩ = some (.int .i64 at_) := a0
  clear HC g0 g1 g2 g3 g4 g5 g6 a0
  obtain ⟨wB, hwB⟩ : ∃ wB, wB = wA.drewN nq := ⟨_, rfl⟩
  rw [← hwB] at CS b0 ⊢
  clear hwB
  go_wp2_with (first
    | (go_at_call 50; refine CS.mono ?_; rintro e1 w2 ⟨rfl, vS', n0, n1, g, rc, w', wT, B⟩; clear CS; have f1 := B.f1; have f2 := B.f2; have f3 := B.f3; have f4 := B.f4; have hadd := B.hadd))
  rw [B.hwT]
  have T : Tl16 base bw ob vS' vD vX ⟨S ++ [((a : Int), (c : Int), at_ - p)], D, X, 0, 0, at_⟩ v w2 wT g rc w' := B.T
  have HP : Hid (TkQ16 base bw vS vD vX ((Wt16.seek ⟨S, D, X, a, c, p⟩ at_).add v) w (.returned (.tuple #[])) (w'.setCell ⟨bw, 1, none⟩ (.slice (some ⟨g, 0, none⟩) (D.length + 1) rc))) := B.P
  generalize S ++ [((a : Int), (c : Int), at_ - p)] = S' at T
  clear B f1 f2 f3 f4 hadd b0
  refine plain_region16 (fun V => V.cell? ⟨bw, 1, none⟩ = some vD ∧ V.cell? ⟨ob, 1, none⟩ = some (.int .u8 v)) 13 (by kernel_rfl) ⟨T.d1, T.o1⟩ (fun hHeld => ?_)
  refine wpAnyK_take (i := 0) (v := .pointer (some ⟨bw, 0, none⟩)) rfl (by kernel_rfl) (by kernel_rfl) (by kernel_rfl) (by kernel_rfl) (fun _ _ _ h => h) (Or.inl ⟨by rfl, fun w hSw => by go_simp⟩) hHeld ?_
  simp only [List.getElem_toArray, List.getElem_cons_zero, Act.put, List.setIfInBounds_toArray, List.set_cons_zero, List.set_cons_succ]
  refine wpAnyK_take (i := 1) (v := .pointer (some ⟨bw, 0, none⟩)) rfl (by kernel_rfl) (by kernel_rfl) (by kernel_rfl) (by kernel_rfl) (fun _ _ _ h => h) (Or.inl ⟨by rfl, fun w hSw => by go_simp⟩) hHeld ?_
  simp only [List.getElem_toArray, List.getElem_cons_zero, List.getElem_cons_succ, Act.put, List.setIfInBounds_toArray, List.set_cons_zero, List.set_cons_succ]
  refine wpAnyK_take (i := 2) (v := .pointer (some ⟨bw, 0, none⟩)) rfl (by kernel_rfl) (by kernel_rfl) (by kernel_rfl) (by kernel_rfl) (fun _ _ _ h => h) (Or.inl ⟨by rfl, fun w hSw => by go_simp⟩) hHeld ?_
  simp only [List.getElem_toArray, List.getElem_cons_zero, List.getElem_cons_succ, Act.put, List.setIfInBounds_toArray, List.set_cons_zero, List.set_cons_succ]
  refine wpAnyK_take (i := 3) (v := .pointer (some ⟨bw, 0, none⟩)) rfl (by kernel_rfl) (by kernel_rfl) (by kernel_rfl) (by kernel_rfl) (fun _ _ _ h => h) (Or.inl ⟨by rfl, fun w hSw => by go_simp⟩) hHeld ?_
  simp only [List.getElem_toArray, List.getElem_cons_zero, List.getElem_cons_succ, Act.put, List.setIfInBounds_toArray, List.set_cons_zero, List.set_cons_succ]
  refine wpAnyK_take (i := 4) (v := .pointer (some ⟨bw, 1, none⟩)) rfl (by kernel_rfl) (by kernel_rfl) (by kernel_rfl) (by kernel_rfl) (fun _ _ _ h => h) (Or.inl ⟨by rfl, fun w hSw => by go_simp⟩) hHeld ?_
  simp only [List.getElem_toArray, List.getElem_cons_zero, List.getElem_cons_succ, Act.put, List.setIfInBounds_toArray, List.set_cons_zero, List.set_cons_succ]
  refine wpAnyK_take (i := 5) (v := vD) rfl (by kernel_rfl) (by kernel_rfl) (by kernel_rfl) (by kernel_rfl) (fun _ _ _ h => h) (Or.inl ⟨by rfl, fun w hSw => by go_simp⟩) hHeld ?_
  simp only [List.getElem_toArray, List.getElem_cons_zero, List.getElem_cons_succ, Act.put, List.setIfInBounds_toArray, List.set_cons_zero, List.set_cons_succ]
  refine wpAnyK_take (i := 6) (v := .pointer (some ⟨ob, 1, none⟩)) rfl (by kernel_rfl) (by kernel_rfl) (by kernel_rfl) (by kernel_rfl) (fun _ _ _ h => h) (Or.inl ⟨by rfl, fun w hSw => by go_simp⟩) hHeld ?_
  simp only [List.getElem_toArray, List.getElem_cons_zero, List.getElem_cons_succ, Act.put, List.setIfInBounds_toArray, List.set_cons_zero, List.set_cons_succ]
  refine wpAnyK_take (i := 7) (v := .int .u8 v) rfl (by kernel_rfl) (by kernel_rfl) (by kernel_rfl) (by kernel_rfl) (fun _ _ _ h => h) (Or.inl ⟨by rfl, fun w hSw => by go_simp⟩) hHeld ?_
  simp only [List.getElem_toArray, List.getElem_cons_zero, List.getElem_cons_succ, Act.put, List.setIfInBounds_toArray, List.set_cons_zero, List.set_cons_succ]
  refine wpAnyK_one (i := 8) (by kernel_rfl) rfl (fun K hK => ?_)
  (try simp only [List.getElem_toArray, List.getElem_cons_zero, List.getElem_cons_succ, Act.put, List.setIfInBounds_toArray, List.set_cons_zero, List.set_cons_succ])
  go_simp
  refine hK.out _ _ (fun _ => ⟨T.k1 _, T.k2 _⟩) (fun hHeld0 => ?_)
  have hHeld := hHeld0 (by decide)
  clear hHeld0 hK K
  (try simp only [List.getElem_toArray, List.getElem_cons_zero, List.getElem_cons_succ, Act.put, List.setIfInBounds_toArray, List.set_cons_zero, List.set_cons_succ])
  refine wpAnyK_one (i := 9) (by kernel_rfl) rfl (fun K hK => ?_)
  simp only [List.getElem_toArray, List.getElem_cons_zero, List.getElem_cons_succ]
  rw [if_pos (by rfl)]
  refine operwp_app16 _ _ _ rfl rfl rfl T.hr ?_
  have e1 := T.e1
  have ef := T.ef
  have o2 := T.o2
  refine hK.out _ _ (fun _ => ⟨e1, o2⟩) (fun hHeld0 => ?_)
  have hHeld := hHeld0 (by decide)
  clear hHeld0 hK K
  simp only [Act.put, List.setIfInBounds_toArray, List.set_cons_zero, List.set_cons_succ]
  refine wpAnyK_one (i := 10) (by kernel_rfl) rfl (fun K hK => ?_)
  (try simp only [List.getElem_toArray, List.getElem_cons_zero, List.getElem_cons_succ, Act.put, List.setIfInBounds_toArray, List.set_cons_zero, List.set_cons_succ])
  go_simp
  refine hK.out _ _ (fun _ => ⟨e1, o2⟩) (fun hHeld0 => ?_)
  have hHeld := hHeld0 (by decide)
  clear hHeld0 hK K
  (try simp only [List.getElem_toArray, List.getElem_cons_zero, List.getElem_cons_succ, Act.put, List.setIfInBounds_toArray, List.set_cons_zero, List.set_cons_succ])
  refine wpAnyK_one (i := 11) (by kernel_rfl) rfl (fun K hK => ?_)
  (try simp only [List.getElem_toArray, List.getElem_cons_zero, List.getElem_cons_succ, Act.put, List.setIfInBounds_toArray, List.set_cons_zero, List.set_cons_succ])
  go_simp
  refine hK.out _ _ (fun _ => ⟨e1, o2⟩) (fun hHeld0 => ?_)
  have hHeld := hHeld0 (by decide)
  clear hHeld0 hK K
  (try simp only [List.getElem_toArray, List.getElem_cons_zero, List.getElem_cons_succ, Act.put, List.setIfInBounds_toArray, List.set_cons_zero, List.set_cons_succ])
  refine wpAnyK_one (i := 12) (by kernel_rfl) rfl (fun K hK => ?_)
  (try simp only [List.getElem_toArray, List.getElem_cons_zero, List.getElem_cons_succ, Act.put, List.setIfInBounds_toArray, List.set_cons_zero, List.set_cons_succ])
  go_simp
  refine hK.out _ _ (fun _ => ⟨e1, o2⟩) (fun hHeld0 => ?_)
  have hHeld := hHeld0 (by decide)
  clear hHeld0 hK K
  (try simp only [List.getElem_toArray, List.getElem_cons_zero, List.getElem_cons_succ, Act.put, List.setIfInBounds_toArray, List.set_cons_zero, List.set_cons_succ])
  refine wpAnyK_one (i := 13) (by kernel_rfl) rfl (fun K hK => ?_)
  simp only [List.getElem_toArray, List.getElem_cons_zero, List.getElem_cons_succ, Act.put]
  go_simp
  refine hK.out _ _ (fun h => absurd rfl h) (fun _ => ?_)
  clear hK K
  refine wpAnyK_done (by kernel_rfl) ?_ _
  go_wp2
  go_end0
  exact HP.out
set_option maxRecDepth 100000 in
set_option maxHeartbeats 8000000 in
theorem ptk_cp16 (at_ v : Int) (h : Wr16 base bw vS vD vX s 0 w) (hat : at_ = s.p) (hc0 : (0 : Int) < (s.c : Int)) (ha : s.a ≤ 16777216) (hc : s.c ≤ 16777216) (hp : -1152921504606846976 ≤ s.p ∧ s.p ≤ 1152921504606846976) (ht : -1152921504606846976 ≤ at_ ∧ at_ ≤ 1152921504606846976) (hb : -16777216 ≤ at_ - s.p ∧ at_ - s.p ≤ 16777216) (hl : s.S.length + 1 ≤ 1099511627776) (hd : s.D.length + 1 ≤ 1099511627776) :
    Calls Try.prog 42 #[.pointer (some ⟨bw, 0, none⟩), .agg #[.int .i64 at_, .int .u8 v, .bool false]] w (TkQ16 base bw vS vD vX ((s.seek at_).add v) w) := by
  have hbl : bw < w.heap.size := (h.lt bw (.inl rfl)).2
  have hadp : IntKind.i64.wrap (at_ + 1) = at_ + 1 := IntWalk.i64_in _ (by omega)
  obtain ⟨wA, hwA⟩ : ∃ wA, wA = w.alloc (.cells #[.int .i64 at_, .int .u8 v, .bool false] 65) := ⟨_, rfl⟩
  have cA : Cb16 w #[.int .i64 at_, .int .u8 v, .bool false] 65 wA := by rw [hwA]; exact cb16 _ _ _
  have hA := h.kp (Kp.of_below (S := fun _ => False) cA.bl) (fun _ _ x => x)
  obtain ⟨ob, hob⟩ : ∃ ob, ob = w.heap.size := ⟨_, rfl⟩
  have qo : wA.heap[ob]? = some (.cells #[.int .i64 at_, .int .u8 v, .bool false] 65 (0, 0)) := by rw [hob]; exact cA.cl
  obtain ⟨g0, g1, g2, g3, g4, g5, g6⟩ := seven_cells hA.hp
  have a0 := three_cell0 qo
  have a2 := three_cell2 qo
  have HWA : Hid (w.alloc (.cells #[.int .i64 at_, .int .u8 v, .bool false] 65) = wA) := hwA.symm
  have HOB : Hid (w.heap.size = ob) := hob.symm
  have HC : Hid (∀ nq, Calls Try.prog 50 #[.pointer (some ⟨bw, 0, none⟩), .int .i64 at_] (wA.drewN nq) fun e w2 => e = .returned (.tuple #[]) ∧ ∃ vS' n0 n1 g rc w' wT, Bs16 base bw ob vS vD vX vS' s at_ v w w2 n0 n1 g rc w' wT) := by
    intro nq
    exact bs16 (below_drewN16 cA.bl nq) h (hA.kp (Kp.of_below (S := fun _ => False) (below_drewN16 (Below.refl _ wA) nq)) (fun _ _ x => x)) hob qo ha hc hp ht hb hl hd
  clear hA qo cA h hb
  obtain ⟨S, D, X, a, c, p⟩ := s
  simp only at *
  subst hat
  rw [hwA, hob] at a2
  go_enter Try.func42, Try.ntmps42
  go_wp2
  rw [HWA.out, HOB.out]
  clear hwA hob a2
  go_quiet (fail)
  have CS := HC.out nq
  have b0 : (wA.drewN nq).cell? ⟨ob, 0, none⟩ = some (.int .i64 at_) := a0
  clear HC g0 g1 g2 g3 g4 g5 g6 a0
  obtain ⟨wB, hwB⟩ : ∃ wB, wB = wA.drewN nq := ⟨_, rfl⟩
  rw [← hwB] at CS b0 ⊢
  clear hwB
  go_wp2_with (first
    | (go_at_call 50; refine CS.mono ?_; rintro e1 w2 ⟨rfl, vS', n0, n1, g, rc, w', wT, B⟩; clear CS; have f1 := B.f1; have f2 := B.f2; have f3 := B.f3; have f4 := B.f4; have hadd := B.hadd))
  rw [B.hwT]
  have T : Tl16 base bw ob vS' vD vX ⟨S ++ [((a : Int), (c : Int), at_ - at_)], D, X, 0, 0, at_⟩ v w2 wT g rc w' := B.T
  have HP : Hid (TkQ16 base bw vS vD vX ((Wt16.seek ⟨S, D, X, a, c, at_⟩ at_).add v) w (.returned (.tuple #[])) (w'.setCell ⟨bw, 1, none⟩ (.slice (some ⟨g, 0, none⟩) (D.length + 1) rc))) := B.P
  generalize S ++ [((a : Int), (c : Int), at_ - at_)] = S' at T
  clear B f1 f2 f3 f4 hadd b0
  refine plain_region16 (fun V => V.cell? ⟨bw, 1, none⟩ = some vD ∧ V.cell? ⟨ob, 1, none⟩ = some (.int .u8 v)) 13 (by kernel_rfl) ⟨T.d1, T.o1⟩ (fun hHeld => ?_)
  refine wpAnyK_take (i := 0) (v := .pointer (some ⟨bw, 0, none⟩)) rfl (by kernel_rfl) (by kernel_rfl) (by kernel_rfl) (by kernel_rfl) (fun _ _ _ h => h) (Or.inl ⟨by rfl, fun w hSw => by go_simp⟩) hHeld ?_
  simp only [List.getElem_toArray, List.getElem_cons_zero, Act.put, List.setIfInBounds_toArray, List.set_cons_zero, List.set_cons_succ]
  refine wpAnyK_take (i := 1) (v := .pointer (some ⟨bw, 0, none⟩)) rfl (by kernel_rfl) (by kernel_rfl) (by kernel_rfl) (by kernel_rfl) (fun _ _ _ h => h) (Or.inl ⟨by rfl, fun w hSw => by go_simp⟩) hHeld ?_
  simp only [List.getElem_toArray, List.getElem_cons_zero, List.getElem_cons_succ, Act.put, List.setIfInBounds_toArray, List.set_cons_zero, List.set_cons_succ]
  refine wpAnyK_take (i := 2) (v := .pointer (some ⟨bw, 0, none⟩)) rfl (by kernel_rfl) (by kernel_rfl) (by kernel_rfl) (by kernel_rfl) (fun _ _ _ h => h) (Or.inl ⟨by rfl, fun w hSw => by go_simp⟩) hHeld ?_
  simp only [List.getElem_toArray, List.getElem_cons_zero, List.getElem_cons_succ, Act.put, List.setIfInBounds_toArray, List.set_cons_zero, List.set_cons_succ]
  refine wpAnyK_take (i := 3) (v := .pointer (some ⟨bw, 0, none⟩)) rfl (by kernel_rfl) (by kernel_rfl) (by kernel_rfl) (by kernel_rfl) (fun _ _ _ h => h) (Or.inl ⟨by rfl, fun w hSw => by go_simp⟩) hHeld ?_
  simp only [List.getElem_toArray, List.getElem_cons_zero, List.getElem_cons_succ, Act.put, List.setIfInBounds_toArray, List.set_cons_zero, List.set_cons_succ]
  refine wpAnyK_take (i := 4) (v := .pointer (some ⟨bw, 1, none⟩)) rfl (by kernel_rfl) (by kernel_rfl) (by kernel_rfl) (by kernel_rfl) (fun _ _ _ h => h) (Or.inl ⟨by rfl, fun w hSw => by go_simp⟩) hHeld ?_
  simp only [List.getElem_toArray, List.getElem_cons_zero, List.getElem_cons_succ, Act.put, List.setIfInBounds_toArray, List.set_cons_zero, List.set_cons_succ]
  refine wpAnyK_take (i := 5) (v := vD) rfl (by kernel_rfl) (by kernel_rfl) (by kernel_rfl) (by kernel_rfl) (fun _ _ _ h => h) (Or.inl ⟨by rfl, fun w hSw => by go_simp⟩) hHeld ?_
  simp only [List.getElem_toArray, List.getElem_cons_zero, List.getElem_cons_succ, Act.put, List.setIfInBounds_toArray, List.set_cons_zero, List.set_cons_succ]
  refine wpAnyK_take (i := 6) (v := .pointer (some ⟨ob, 1, none⟩)) rfl (by kernel_rfl) (by kernel_rfl) (by kernel_rfl) (by kernel_rfl) (fun _ _ _ h => h) (Or.inl ⟨by rfl, fun w hSw => by go_simp⟩) hHeld ?_
  simp only [List.getElem_toArray, List.getElem_cons_zero, List.getElem_cons_succ, Act.put, List.setIfInBounds_toArray, List.set_cons_zero, List.set_cons_succ]
  refine wpAnyK_take (i := 7) (v := .int .u8 v) rfl (by kernel_rfl) (by kernel_rfl) (by kernel_rfl) (by kernel_rfl) (fun _ _ _ h => h) (Or.inl ⟨by rfl, fun w hSw => by go_simp⟩) hHeld ?_
  simp only [List.getElem_toArray, List.getElem_cons_zero, List.getElem_cons_succ, Act.put, List.setIfInBounds_toArray, List.set_cons_zero, List.set_cons_succ]
  refine wpAnyK_one (i := 8) (by kernel_rfl) rfl (fun K hK => ?_)
  (try simp only [List.getElem_toArray, List.getElem_cons_zero, List.getElem_cons_succ, Act.put, List.setIfInBounds_toArray, List.set_cons_zero, List.set_cons_succ])
  go_simp
  refine hK.out _ _ (fun _ => ⟨T.k1 _, T.k2 _⟩) (fun hHeld0 => ?_)
  have hHeld := hHeld0 (by decide)
  clear hHeld0 hK K
  (try simp only [List.getElem_toArray, List.getElem_cons_zero, List.getElem_cons_succ, Act.put, List.setIfInBounds_toArray, List.set_cons_zero, List.set_cons_succ])
  refine wpAnyK_one (i := 9) (by kernel_rfl) rfl (fun K hK => ?_)
  simp only [List.getElem_toArray, List.getElem_cons_zero, List.getElem_cons_succ]
  rw [if_pos (by rfl)]
  refine operwp_app16 _ _ _ rfl rfl rfl T.hr ?_
  have e1 := T.e1
  have ef := T.ef
  have o2 := T.o2
  refine hK.out _ _ (fun _ => ⟨e1, o2⟩) (fun hHeld0 => ?_)
  have hHeld := hHeld0 (by decide)
  clear hHeld0 hK K
  simp only [Act.put, List.setIfInBounds_toArray, List.set_cons_zero, List.set_cons_succ]
  refine wpAnyK_one (i := 10) (by kernel_rfl) rfl (fun K hK => ?_)
  (try simp only [List.getElem_toArray, List.getElem_cons_zero, List.getElem_cons_succ, Act.put, List.setIfInBounds_toArray, List.set_cons_zero, List.set_cons_succ])
  go_simp
  refine hK.out _ _ (fun _ => ⟨e1, o2⟩) (fun hHeld0 => ?_)
  have hHeld := hHeld0 (by decide)
  clear hHeld0 hK K
  (try simp only [List.getElem_toArray, List.getElem_cons_zero, List.getElem_cons_succ, Act.put, List.setIfInBounds_toArray, List.set_cons_zero, List.set_cons_succ])
  refine wpAnyK_one (i := 11) (by kernel_rfl) rfl (fun K hK => ?_)
  (try simp only [List.getElem_toArray, List.getElem_cons_zero, List.getElem_cons_succ, Act.put, List.setIfInBounds_toArray, List.set_cons_zero, List.set_cons_succ])
  go_simp
  refine hK.out _ _ (fun _ => ⟨e1, o2⟩) (fun hHeld0 => ?_)
  have hHeld := hHeld0 (by decide)
  clear hHeld0 hK K
  (try simp only [List.getElem_toArray, List.getElem_cons_zero, List.getElem_cons_succ, Act.put, List.setIfInBounds_toArray, List.set_cons_zero, List.set_cons_succ])
  refine wpAnyK_one (i := 12) (by kernel_rfl) rfl (fun K hK => ?_)
  (try simp only [List.getElem_toArray, List.getElem_cons_zero, List.getElem_cons_succ, Act.put, List.setIfInBounds_toArray, List.set_cons_zero, List.set_cons_succ])
  go_simp
  refine hK.out _ _ (fun _ => ⟨e1, o2⟩) (fun hHeld0 => ?_)
  have hHeld := hHeld0 (by decide)
  clear hHeld0 hK K
  (try simp only [List.getElem_toArray, List.getElem_cons_zero, List.getElem_cons_succ, Act.put, List.setIfInBounds_toArray, List.set_cons_zero, List.set_cons_succ])
  refine wpAnyK_one (i := 13) (by kernel_rfl) rfl (fun K hK => ?_)
  simp only [List.getElem_toArray, List.getElem_cons_zero, List.getElem_cons_succ, Act.put]
  go_simp
  refine hK.out _ _ (fun h => absurd rfl h) (fun _ => ?_)
  clear hK K
  refine wpAnyK_done (by kernel_rfl) ?_ _
  go_wp2
  go_end0
  exact HP.out
set_option maxRecDepth 100000 in
set_option maxHeartbeats 8000000 in
theorem ptk_no16 (at_ v : Int) (h : Wr16 base bw vS vD vX s 0 w) (hat : ¬ at_ = s.p) (ha : s.a ≤ 16777216) (hc : s.c ≤ 16777216) (hp : -1152921504606846976 ≤ s.p ∧ s.p ≤ 1152921504606846976) (ht : -1152921504606846976 ≤ at_ ∧ at_ ≤ 1152921504606846976) (hb : ¬ (-16777216 ≤ at_ - s.p ∧ at_ - s.p ≤ 16777216)) (hl : s.S.length + 1 ≤ 1099511627776) (hd : s.D.length + 1 ≤ 1099511627776) :
    Calls Try.prog 42 #[.pointer (some ⟨bw, 0, none⟩), .agg #[.int .i64 at_, .int .u8 v, .bool false]] w fun e w2 => e = .panicked pn16 ∧ Kp (Wf16 bw vS vD vX) w w2 := by
  have hbl : bw < w.heap.size := (h.lt bw (.inl rfl)).2
  have hadp : IntKind.i64.wrap (at_ + 1) = at_ + 1 := IntWalk.i64_in _ (by omega)
  obtain ⟨wA, hwA⟩ : ∃ wA, wA = w.alloc (.cells #[.int .i64 at_, .int .u8 v, .bool false] 65) := ⟨_, rfl⟩
  have cA : Cb16 w #[.int .i64 at_, .int .u8 v, .bool false] 65 wA := by rw [hwA]; exact cb16 _ _ _
  have hA := h.kp (Kp.of_below (S := fun _ => False) cA.bl) (fun _ _ x => x)
  obtain ⟨ob, hob⟩ : ∃ ob, ob = w.heap.size := ⟨_, rfl⟩
  have qo : wA.heap[ob]? = some (.cells #[.int .i64 at_, .int .u8 v, .bool false] 65 (0, 0)) := by rw [hob]; exact cA.cl
  obtain ⟨g0, g1, g2, g3, g4, g5, g6⟩ := seven_cells hA.hp
  have a0 := three_cell0 qo
  have a2 := three_cell2 qo
  have HWA : Hid (w.alloc (.cells #[.int .i64 at_, .int .u8 v, .bool false] 65) = wA) := hwA.symm
  have HOB : Hid (w.heap.size = ob) := hob.symm
  have HC : Hid (∀ nq, Calls Try.prog 50 #[.pointer (some ⟨bw, 0, none⟩), .int .i64 at_] (wA.drewN nq) fun e w2 => e = .panicked pn16 ∧ Kp (Wf16 bw vS vD vX) w w2) := by
    intro nq
    refine (pseek16_no at_ (hA.kp (Kp.of_below (S := fun _ => False) (below_drewN16 (Below.refl _ wA) nq)) (fun _ _ x => x)) ha hc hp ht hb).mono ?_
    rintro e w2 ⟨rfl, K2⟩
    exact ⟨rfl, (Kp.of_below (S := Wf16 bw vS vD vX) (below_drewN16 cA.bl nq)).trans K2 (fun _ _ h => h)⟩
  clear hA qo cA h hb
  obtain ⟨S, D, X, a, c, p⟩ := s
  simp only at *
  rw [hwA, hob] at a2
  go_enter Try.func42, Try.ntmps42
  go_wp2
  rw [HWA.out, HOB.out]
  clear hwA hob a2
  go_quiet (fail)
  have CS := HC.out nq
  have b0 : (wA.drewN nq).cell? ⟨ob, 0, none⟩ = some (.int .i64 at_) := a0
  clear HC g0 g1 g2 g3 g4 g5 g6 a0
  obtain ⟨wB, hwB⟩ : ∃ wB, wB = wA.drewN nq := ⟨_, rfl⟩
  rw [← hwB] at CS b0 ⊢
  clear hwB
  go_wp2_with (first
    | (go_at_call 50; refine CS.mono ?_; rintro e1 w2 ⟨rfl, K2⟩; clear CS))
  exact ⟨rfl, rfl, K2⟩
end Go.Proofs.Ytgbpejnafgllpaa
