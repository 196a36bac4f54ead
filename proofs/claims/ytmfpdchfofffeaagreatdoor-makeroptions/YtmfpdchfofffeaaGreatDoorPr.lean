import Derived.Test.YtmfpdchfofffeaaGreatDoorPq
import Derived.Test.YtmfpdchfofffeaaGreatDoorPh
namespace Go.Proofs.YtmfpdchfofffeaaGreatDoor
open Go.RowKit Go.Shelf
set_option linter.unusedVariables false
variable {base bw : Nat} {vS vD vX vS0 vD0 vX0 : Value} {s : Pt17} {w : World}
theorem taila17 {ob g r c : Nat} {v : Int} {V : World} {t : TypeId} {y0 y2 : Value} (h : Pr17 base bw vS vD vX s V) (hs : s.S ≠ []) (L : La17 vS s.S g r c V) (hl : s.D.length + 1 ≤ 1099511627776) (hob : V.heap[ob]? = some (.cells #[y0, .int .u8 v, y2] t (0, 0))) (hn : ¬ Pf17 bw vS vD vX ob) (hK : Kp (Pf17 bw vS0 vD0 vX0) w V) (hF : ∀ k, Pf17 bw vS vD vX k → Pf17 bw vS0 vD0 vX0 k ∨ w.heap.size ≤ k) :
    ∃ V1 g2 rc w', V1 = V.setCell ⟨g, r * 3, none⟩ (.int .i64 ((s.S.getLastD z16).1 + 1)) ∧ Td17 bw 2 ob v vD (s.D.length + 1) V1 g2 rc w' ∧ (w'.setCell ⟨bw, 2, none⟩ (.slice (some ⟨g2, 0, none⟩) (s.D.length + 1) rc)).cell? ⟨bw, 4, none⟩ = some (.int .i64 s.p) ∧ (w'.setCell ⟨bw, 2, none⟩ (.slice (some ⟨g2, 0, none⟩) (s.D.length + 1) rc)).frozen? ⟨bw, 4, none⟩ = false ∧ TkQ17 base bw vS0 vD0 vX0 { s with S := ml17 add17 s.S, D := s.D ++ [v], p := s.p + 1 } w (.returned (.tuple #[])) ((w'.setCell ⟨bw, 2, none⟩ (.slice (some ⟨g2, 0, none⟩) (s.D.length + 1) rc)).setCell ⟨bw, 4, none⟩ (.int .i64 (s.p + 1))) := by
  have hlr : s.S.length - 1 = r := by have := L.ln; omega
  obtain ⟨h1, k1⟩ := h.turn L (j := 0) (S' := ml17 add17 s.S) (u := .int .i64 ((s.S.getLastD z16).1 + 1)) (by omega) (by rw [← hlr, flat17_set0 hs]; rfl) (ml17_len hs)
  obtain ⟨V1, e1⟩ : ∃ V1, V1 = V.setCell ⟨g, r * 3, none⟩ (.int .i64 ((s.S.getLastD z16).1 + 1)) := ⟨_, rfl⟩
  rw [Nat.add_zero, ← e1] at h1 k1
  have q1 := k1.heap hob hn
  have hbl := (h1.lt bw (.inl rfl)).2
  have hobl : ob < V1.heap.size := (Array.getElem?_eq_some_iff.1 q1).1
  have d1 := (five_cells h1.hp).2.2.1
  have o1 := three_cell1 q1
  obtain ⟨g2, rc, w', hr, ow, k2, at2⟩ := appb16 V1.drew v h1.oD hl (Nat.le_of_lt (Nat.lt_of_le_of_lt h1.bb hbl))
  have k2' : Kp (fun k => vD.ownBlock = some k) V1 w' := ⟨k2.os, k2.tape, k2.output, k2.size, k2.block⟩
  obtain ⟨p1, p2, p3⟩ := h1.setD ow k2' at2
  have p4 : Pr17 base bw vS (.slice (some ⟨g2, 0, none⟩) (s.D.length + 1) rc) vX { s with S := ml17 add17 s.S, D := s.D ++ [v], p := s.p + 1 } ((w'.setCell ⟨bw, 2, none⟩ (.slice (some ⟨g2, 0, none⟩) (s.D.length + 1) rc)).setCell ⟨bw, 4, none⟩ (.int .i64 (s.p + 1))) := p2.num rfl rfl rfl (five_set4 p2.hp _)
  refine ⟨V1, g2, rc, w', e1, ⟨d1, o1, fun o => (((Below.refl V1.heap.size V1).alloc (Nat.le_refl _) o).cell (p := ⟨bw, 2, none⟩) hbl).trans d1, fun o => (((Below.refl V1.heap.size V1).alloc (Nat.le_refl _) o).cell (p := ⟨ob, 1, none⟩) hobl).trans o1, hr, (five_cells p1).2.2.1, five_free p1, three_cell1 (k2'.heap q1 (fun e => hn (.inr (.inr (.inl e)))))⟩, (five_cells p2.hp).2.2.2.2, five_free p2.hp, rfl, vS, _, vX, p4, (hK.trans (k1.trans p3 (fun _ _ x => x)) (fun i hi x => (hF i x).resolve_right (by omega))).trans (Kp.set (S := Pf17 bw vS0 vD0 vX0) (.inl rfl) _) (fun _ _ x => x), ?_⟩
  have hKs := hK.size
  rintro k (x | x | x | x)
  · exact .inl (.inl x)
  · exact hF k (.inr (.inl x))
  · have x : some g2 = some k := x
    injection x with x
    subst x
    rcases at2 with y | y
    · exact hF g2 (.inr (.inr (.inl y)))
    · exact .inr (Nat.le_trans hKs (Nat.le_trans k1.size y))
  · exact hF k (.inr (.inr (.inr x)))
theorem lead17_ne (s : Pt17) (to : Int) : (s.lead to).S ≠ [] := by
  unfold Pt17.lead
  split
  · simp
  · split
    · assumption
    · simp
set_option maxRecDepth 100000 in
set_option maxHeartbeats 8000000 in
theorem ptk17_as (at_ v : Int) (h : Pr17 base bw vS vD vX s w) (hd : s.D ≠ []) (hn : s.S.length + 1 ≤ 1073741824) (hl : s.D.length + 1 ≤ 1073741824) (hat : -576460752303423488 ≤ at_ ∧ at_ ≤ 576460752303423488) (hp : -1152921504606846976 ≤ s.p ∧ s.p ≤ 1152921504606846976)
    (s1 : Pt17) (hs1 : s1 = (s.ini at_).lead at_) (hc : 0 ≤ (s1.S.getLastD z16).1 ∧ (s1.S.getLastD z16).1 ≤ 1099511627776) (hq : -1152921504606846976 ≤ s1.p ∧ s1.p ≤ 1152921504606846976) (hn1 : s1.S.length ≤ 1073741824) :
    Calls Tryz.prog 61 #[.pointer (some ⟨bw, 0, none⟩), .agg #[.int .i64 at_, .int .u8 v, .bool true]] w (TkQ17 base bw vS vD vX { s1 with S := ml17 add17 s1.S, D := s.D ++ [v], p := s1.p + 1 } w) := by
  obtain ⟨wA, hwA⟩ : ∃ wA, wA = w.alloc (.cells #[.int .i64 at_, .int .u8 v, .bool true] 124) := ⟨_, rfl⟩
  have cA : Cb16 w #[.int .i64 at_, .int .u8 v, .bool true] 124 wA := by rw [hwA]; exact cb16 _ _ _
  have hA := h.below cA.bl
  obtain ⟨ob, hob⟩ : ∃ ob, ob = w.heap.size := ⟨_, rfl⟩
  have qo : wA.heap[ob]? = some (.cells #[.int .i64 at_, .int .u8 v, .bool true] 124 (0, 0)) := by rw [hob]; exact cA.cl
  have hno : ¬ Pf17 bw vS vD vX ob := fun x => by have := (h.lt ob x).2; omega
  obtain ⟨a0, a1, a2, a3, a4⟩ := five_cells hA.hp
  have b0 := three_cell0 qo
  have b2 := three_cell2 qo
  have hs1n : s1.S ≠ [] := by rw [hs1]; exact lead17_ne _ _
  have hD1 : s1.D = s.D := by rw [hs1, (lead17_len _ _).1, (ini17_len _ _).1]
  have HWA : Hid (w.alloc (.cells #[.int .i64 at_, .int .u8 v, .bool true] 124) = wA) := hwA.symm
  have HOB : Hid (w.heap.size = ob) := hob.symm
  obtain ⟨dp, dc, hvD⟩ := own_sl17 h.oD
  have hei : s.ini at_ = s := by unfold Pt17.ini; rw [if_neg hd]
  rw [hei] at hs1
  have CL := plead17 at_ hA (by omega) (by omega) hp
  rw [← hs1] at CL
  have hdn : 0 < s.D.length := List.length_pos_iff.2 hd
  obtain ⟨m, hm⟩ : ∃ m, m = s.D.length := ⟨_, rfl⟩
  rw [← hm] at hvD
  have hmq : ((m : Int) == 0) = false := by simp; omega
  have hmd : ¬ (m : Int) = 0 := by omega
  have HK0 : Hid (Kp (Pf17 bw vS vD vX) w wA) := Kp.of_below cA.bl
  have HQ0 : Hid (wA.heap[ob]? = some (.cells #[.int .i64 at_, .int .u8 v, .bool true] 124 (0, 0))) := qo
  have hvD' : vD = .slice dp m dc := hvD
  rw [hvD] at a2
  rw [hwA] at CL a0 a1 a2 a3 a4
  rw [hwA, hob] at b0 b2
  obtain ⟨wC, hwC⟩ : ∃ wC, wC = wA := ⟨_, rfl⟩
  have HWC : Hid (wC = wA) := hwC
  have HCS : Hid (w.heap.size < wC.heap.size) := by show _ < _; rw [hwC]; have := cA.sz; omega
  rw [← hwC] at HK0 HQ0
  clear hwC h hA qo hs1 hm hdn hei hwA hob hvD
  go_enter Tryz.func61, Tryz.ntmps61
  go_wp2_with (first
    | (go_at_call 92; refine CL.mono ?_; rintro e1 w1 ⟨rfl, vS1, vD1, vX1, h1, k1, ft1⟩; clear CL; rw [HWA.out, ← HWC.out] at k1 ft1; have HX : Hid (Pr17 base bw vS1 vD1 vX1 s1 w1 ∧ Kp (Pf17 bw vS vD vX) wC w1 ∧ (∀ k, Pf17 bw vS1 vD1 vX1 k → Pf17 bw vS vD vX k ∨ wC.heap.size ≤ k)) := ⟨h1, k1, ft1⟩; obtain ⟨x0, x1, x2, x3, x4⟩ := five_cells h1.hp; clear h1 k1 ft1 a0 a1 a2 a3 a4 b0 b2))
  rw [HOB.out]
  obtain ⟨h1, k1, ft1⟩ := HX.out
  have hk0 := HK0.out
  have qo := HQ0.out
  have bd : Below w1.heap.size w1 w1.drew := (Below.refl _ _).drew
  have hD := h1.below bd
  obtain ⟨g, r, c, L⟩ := hD.last hs1n
  have hobw : ob < wC.heap.size := (Array.getElem?_eq_some_iff.1 qo).1
  have hn2 : ¬ Pf17 bw vS1 vD1 vX1 ob := fun x => by
    rcases ft1 ob x with y | y
    · exact hno y
    · omega
  have hcs := HCS.out
  obtain ⟨V1, g2, rc, w', e1, T, t4, tf, hP⟩ := taila17 (w := w) (vS0 := vS) (vD0 := vD) (vX0 := vX) hD hs1n L (by rw [hD1]; omega) (show w1.drew.heap[ob]? = _ from k1.heap qo hno) hn2 ((hk0.trans k1 (fun _ _ x => x)).drew) (fun k x => (ft1 k x).imp id (fun y => by omega))
  rw [hD1] at T t4 tf hP
  have HP : Hid (TkQ17 base bw vS vD vX { s1 with S := ml17 add17 s1.S, D := s.D ++ [v], p := s1.p + 1 } w (.returned (.tuple #[])) ((w'.setCell ⟨bw, 2, none⟩ (.slice (some ⟨g2, 0, none⟩) (s.D.length + 1) rc)).setCell ⟨bw, 4, none⟩ (.int .i64 (s1.p + 1)))) := hP
  have hvS := L.vs
  have hb : r + 1 ≤ 1073741824 := by rw [← L.ln]; omega
  obtain ⟨N, hN⟩ : ∃ N, N = r + 1 := ⟨_, rfl⟩
  rw [← hN] at hvS
  have hw2 : IntKind.i64.wrap ((N : Int) - 1) = (r : Int) := by rw [IntWalk.i64_in _ (by omega)]; omega
  have hp2 : (r : Int) < (N : Int) := by omega
  have hp3 : (0 : Int) ≤ (r : Int) := by omega
  have hp4 : r < N := by omega
  have l1 : w1.cell? ⟨g, r * 3, none⟩ = some (.int .i64 (s1.S.getLastD z16).1) := L.c0
  have fr : w1.frozen? ⟨g, r * 3, none⟩ = false := L.fr (r * 3)
  have HE : Hid ((w1.setCell ⟨g, r * 3, none⟩ (.int .i64 ((s1.S.getLastD z16).1 + 1))).drew = V1) := by show _ = _; rw [e1]; rfl
  have b1 := x1
  have hw3 : IntKind.i64.wrap ((s1.S.getLastD z16).1 + 1) = (s1.S.getLastD z16).1 + 1 := IntWalk.i64_in _ (by omega)
  have hw4 : IntKind.i64.wrap (s1.p + 1) = s1.p + 1 := IntWalk.i64_in _ (by omega)
  rw [hvS] at b1
  have HX1 : Hid True := trivial
  clear hN L qo hD hP bd e1 h1 k1 ft1 hk0 hcs hn2 hno HX x0 x1 x2 x3 x4 hs1n hD1 hvS
  generalize (s1.S.getLastD z16).1 = u1 at *
  refine plain_region16 (fun V => V.cell? ⟨bw, 1, none⟩ = some (.slice (some ⟨g, 0, none⟩) N c) ∧ V.cell? ⟨g, r * 3, none⟩ = some (.int .i64 u1)) 16 (by kernel_rfl) ⟨b1, l1⟩ (fun hHeld => ?_)
  refine wpAnyK_take (i := 0) (v := .pointer (some ⟨bw, 1, none⟩)) rfl (by kernel_rfl) (by kernel_rfl) (by kernel_rfl) (by kernel_rfl) (fun _ _ _ h => h) (Or.inl ⟨by rfl, fun w hSw => by go_simp⟩) hHeld ?_
  simp only [List.getElem_toArray, List.getElem_cons_zero, Act.put, List.setIfInBounds_toArray, List.set_cons_zero, List.set_cons_succ]
  refine wpAnyK_take (i := 1) (v := .pointer (some ⟨bw, 1, none⟩)) rfl (by kernel_rfl) (by kernel_rfl) (by kernel_rfl) (by kernel_rfl) (fun _ _ _ h => h) (Or.inl ⟨by rfl, fun w hSw => by go_simp⟩) hHeld ?_
  simp only [List.getElem_toArray, List.getElem_cons_zero, List.getElem_cons_succ, Act.put, List.setIfInBounds_toArray, List.set_cons_zero, List.set_cons_succ]
  refine wpAnyK_take (i := 2) (v := .pointer (some ⟨bw, 1, none⟩)) rfl (by kernel_rfl) (by kernel_rfl) (by kernel_rfl) (by kernel_rfl) (fun _ _ _ h => h) (Or.inl ⟨by rfl, fun w hSw => by go_simp⟩) hHeld ?_
  simp only [List.getElem_toArray, List.getElem_cons_zero, List.getElem_cons_succ, Act.put, List.setIfInBounds_toArray, List.set_cons_zero, List.set_cons_succ]
  refine wpAnyK_take (i := 3) (v := .slice (some ⟨g, 0, none⟩) N c) rfl (by kernel_rfl) (by kernel_rfl) (by kernel_rfl) (by kernel_rfl) (fun _ _ _ h => h) (Or.inl ⟨by rfl, fun w hSw => by go_simp⟩) hHeld ?_
  simp only [List.getElem_toArray, List.getElem_cons_zero, List.getElem_cons_succ, Act.put, List.setIfInBounds_toArray, List.set_cons_zero, List.set_cons_succ]
  refine wpAnyK_take (i := 4) (v := .pointer (some ⟨bw, 1, none⟩)) rfl (by kernel_rfl) (by kernel_rfl) (by kernel_rfl) (by kernel_rfl) (fun _ _ _ h => h) (Or.inl ⟨by rfl, fun w hSw => by go_simp⟩) hHeld ?_
  simp only [List.getElem_toArray, List.getElem_cons_zero, List.getElem_cons_succ, Act.put, List.setIfInBounds_toArray, List.set_cons_zero, List.set_cons_succ]
  refine wpAnyK_take (i := 5) (v := .pointer (some ⟨bw, 1, none⟩)) rfl (by kernel_rfl) (by kernel_rfl) (by kernel_rfl) (by kernel_rfl) (fun _ _ _ h => h) (Or.inl ⟨by rfl, fun w hSw => by go_simp⟩) hHeld ?_
  simp only [List.getElem_toArray, List.getElem_cons_zero, List.getElem_cons_succ, Act.put, List.setIfInBounds_toArray, List.set_cons_zero, List.set_cons_succ]
  refine wpAnyK_take (i := 6) (v := .pointer (some ⟨bw, 1, none⟩)) rfl (by kernel_rfl) (by kernel_rfl) (by kernel_rfl) (by kernel_rfl) (fun _ _ _ h => h) (Or.inl ⟨by rfl, fun w hSw => by go_simp⟩) hHeld ?_
  simp only [List.getElem_toArray, List.getElem_cons_zero, List.getElem_cons_succ, Act.put, List.setIfInBounds_toArray, List.set_cons_zero, List.set_cons_succ]
  refine wpAnyK_take (i := 7) (v := .slice (some ⟨g, 0, none⟩) N c) rfl (by kernel_rfl) (by kernel_rfl) (by kernel_rfl) (by kernel_rfl) (fun _ _ _ h => h) (Or.inl ⟨by rfl, fun w hSw => by go_simp⟩) hHeld ?_
  simp only [List.getElem_toArray, List.getElem_cons_zero, List.getElem_cons_succ, Act.put, List.setIfInBounds_toArray, List.set_cons_zero, List.set_cons_succ]
  refine wpAnyK_take (i := 8) (v := .int .i64 (N : Int)) rfl (by kernel_rfl) (by kernel_rfl) (by kernel_rfl) (by kernel_rfl) (fun _ _ _ h => h) (Or.inl ⟨by rfl, fun w hSw => by go_simp⟩) hHeld ?_
  simp only [List.getElem_toArray, List.getElem_cons_zero, List.getElem_cons_succ, Act.put, List.setIfInBounds_toArray, List.set_cons_zero, List.set_cons_succ]
  refine wpAnyK_take (i := 9) (v := .int .i64 (r : Int)) rfl (by kernel_rfl) (by kernel_rfl) (by kernel_rfl) (by kernel_rfl) (fun _ _ _ h => h) (Or.inl ⟨by rfl, fun w hSw => by go_simp⟩) hHeld ?_
  simp only [List.getElem_toArray, List.getElem_cons_zero, List.getElem_cons_succ, Act.put, List.setIfInBounds_toArray, List.set_cons_zero, List.set_cons_succ]
  refine wpAnyK_take (i := 10) (v := .pointer (some ⟨g, r * 3, none⟩)) rfl (by kernel_rfl) (by kernel_rfl) (by kernel_rfl) (by kernel_rfl) (fun _ _ _ h => h) (Or.inl ⟨by rfl, fun w hSw => by go_simp⟩) hHeld ?_
  simp only [List.getElem_toArray, List.getElem_cons_zero, List.getElem_cons_succ, Act.put, List.setIfInBounds_toArray, List.set_cons_zero, List.set_cons_succ]
  refine wpAnyK_take (i := 11) (v := .pointer (some ⟨g, r * 3, none⟩)) rfl (by kernel_rfl) (by kernel_rfl) (by kernel_rfl) (by kernel_rfl) (fun _ _ _ h => h) (Or.inl ⟨by rfl, fun w hSw => by go_simp⟩) hHeld ?_
  simp only [List.getElem_toArray, List.getElem_cons_zero, List.getElem_cons_succ, Act.put, List.setIfInBounds_toArray, List.set_cons_zero, List.set_cons_succ]
  refine wpAnyK_take (i := 12) (v := .int .i64 u1) rfl (by kernel_rfl) (by kernel_rfl) (by kernel_rfl) (by kernel_rfl) (fun _ _ _ h => h) (Or.inl ⟨by rfl, fun w hSw => by go_simp⟩) hHeld ?_
  simp only [List.getElem_toArray, List.getElem_cons_zero, List.getElem_cons_succ, Act.put, List.setIfInBounds_toArray, List.set_cons_zero, List.set_cons_succ]
  refine wpAnyK_take (i := 13) (v := .int .i64 (u1 + 1)) rfl (by kernel_rfl) (by kernel_rfl) (by kernel_rfl) (by kernel_rfl) (fun _ _ _ h => h) (Or.inl ⟨by rfl, fun w hSw => by go_simp⟩) hHeld ?_
  simp only [List.getElem_toArray, List.getElem_cons_zero, List.getElem_cons_succ, Act.put, List.setIfInBounds_toArray, List.set_cons_zero, List.set_cons_succ]
  refine wpAnyK_one (i := 14) (by kernel_rfl) rfl (fun K hK => ?_)
  (try simp only [List.getElem_toArray, List.getElem_cons_zero, List.getElem_cons_succ, Act.put, List.setIfInBounds_toArray, List.set_cons_zero, List.set_cons_succ])
  go_simp
  refine hK.out _ _ (fun _ => ⟨b1, l1⟩) (fun hHeld0 => ?_)
  have hHeld := hHeld0 (by decide)
  clear hHeld0 hK K
  (try simp only [List.getElem_toArray, List.getElem_cons_zero, List.getElem_cons_succ, Act.put, List.setIfInBounds_toArray, List.set_cons_zero, List.set_cons_succ])
  refine wpAnyK_one (i := 15) (by kernel_rfl) rfl (fun K hK => ?_)
  (try simp only [List.getElem_toArray, List.getElem_cons_zero, List.getElem_cons_succ, Act.put, List.setIfInBounds_toArray, List.set_cons_zero, List.set_cons_succ])
  go_simp
  refine hK.out _ _ (fun _ => ⟨b1, l1⟩) (fun hHeld0 => ?_)
  have hHeld := hHeld0 (by decide)
  clear hHeld0 hK K
  (try simp only [List.getElem_toArray, List.getElem_cons_zero, List.getElem_cons_succ, Act.put, List.setIfInBounds_toArray, List.set_cons_zero, List.set_cons_succ])
  refine wpAnyK_one (i := 16) (by kernel_rfl) rfl (fun K hK => ?_)
  simp only [List.getElem_toArray, List.getElem_cons_zero, List.getElem_cons_succ, Act.put]
  go_simp
  refine hK.out _ _ (fun h => absurd rfl h) (fun _ => ?_)
  clear hK K
  refine wpAnyK_done (by kernel_rfl) ?_ _
  rw [HE.out]
  go_wp2
  clear b1 l1 fr
  have td1 := T.d1
  have to1 := T.o1
  refine plain_region16 (fun V => V.cell? ⟨bw, 2, none⟩ = some vD1 ∧ V.cell? ⟨ob, 1, none⟩ = some (.int .u8 v)) 11 (by kernel_rfl) ⟨td1, to1⟩ (fun hHeld => ?_)
  refine wpAnyK_take (i := 0) (v := .pointer (some ⟨bw, 1, none⟩)) rfl (by kernel_rfl) (by kernel_rfl) (by kernel_rfl) (by kernel_rfl) (fun _ _ _ h => h) (Or.inl ⟨by rfl, fun w hSw => by go_simp⟩) hHeld ?_
  simp only [List.getElem_toArray, List.getElem_cons_zero, Act.put, List.setIfInBounds_toArray, List.set_cons_zero, List.set_cons_succ]
  refine wpAnyK_take (i := 1) (v := .pointer (some ⟨bw, 1, none⟩)) rfl (by kernel_rfl) (by kernel_rfl) (by kernel_rfl) (by kernel_rfl) (fun _ _ _ h => h) (Or.inl ⟨by rfl, fun w hSw => by go_simp⟩) hHeld ?_
  simp only [List.getElem_toArray, List.getElem_cons_zero, List.getElem_cons_succ, Act.put, List.setIfInBounds_toArray, List.set_cons_zero, List.set_cons_succ]
  refine wpAnyK_take (i := 2) (v := .pointer (some ⟨bw, 1, none⟩)) rfl (by kernel_rfl) (by kernel_rfl) (by kernel_rfl) (by kernel_rfl) (fun _ _ _ h => h) (Or.inl ⟨by rfl, fun w hSw => by go_simp⟩) hHeld ?_
  simp only [List.getElem_toArray, List.getElem_cons_zero, List.getElem_cons_succ, Act.put, List.setIfInBounds_toArray, List.set_cons_zero, List.set_cons_succ]
  refine wpAnyK_take (i := 3) (v := .pointer (some ⟨bw, 2, none⟩)) rfl (by kernel_rfl) (by kernel_rfl) (by kernel_rfl) (by kernel_rfl) (fun _ _ _ h => h) (Or.inl ⟨by rfl, fun w hSw => by go_simp⟩) hHeld ?_
  simp only [List.getElem_toArray, List.getElem_cons_zero, List.getElem_cons_succ, Act.put, List.setIfInBounds_toArray, List.set_cons_zero, List.set_cons_succ]
  refine wpAnyK_take (i := 4) (v := vD1) rfl (by kernel_rfl) (by kernel_rfl) (by kernel_rfl) (by kernel_rfl) (fun _ _ _ h => h) (Or.inl ⟨by rfl, fun w hSw => by go_simp⟩) hHeld ?_
  simp only [List.getElem_toArray, List.getElem_cons_zero, List.getElem_cons_succ, Act.put, List.setIfInBounds_toArray, List.set_cons_zero, List.set_cons_succ]
  refine wpAnyK_take (i := 5) (v := .pointer (some ⟨ob, 1, none⟩)) rfl (by kernel_rfl) (by kernel_rfl) (by kernel_rfl) (by kernel_rfl) (fun _ _ _ h => h) (Or.inl ⟨by rfl, fun w hSw => by go_simp⟩) hHeld ?_
  simp only [List.getElem_toArray, List.getElem_cons_zero, List.getElem_cons_succ, Act.put, List.setIfInBounds_toArray, List.set_cons_zero, List.set_cons_succ]
  refine wpAnyK_take (i := 6) (v := .int .u8 v) rfl (by kernel_rfl) (by kernel_rfl) (by kernel_rfl) (by kernel_rfl) (fun _ _ _ h => h) (Or.inl ⟨by rfl, fun w hSw => by go_simp⟩) hHeld ?_
  simp only [List.getElem_toArray, List.getElem_cons_zero, List.getElem_cons_succ, Act.put, List.setIfInBounds_toArray, List.set_cons_zero, List.set_cons_succ]
  refine wpAnyK_one (i := 7) (by kernel_rfl) rfl (fun K hK => ?_)
  (try simp only [List.getElem_toArray, List.getElem_cons_zero, List.getElem_cons_succ, Act.put, List.setIfInBounds_toArray, List.set_cons_zero, List.set_cons_succ])
  go_simp
  refine hK.out _ _ (fun _ => ⟨T.k1 _, T.k2 _⟩) (fun hHeld0 => ?_)
  have hHeld := hHeld0 (by decide)
  clear hHeld0 hK K
  (try simp only [List.getElem_toArray, List.getElem_cons_zero, List.getElem_cons_succ, Act.put, List.setIfInBounds_toArray, List.set_cons_zero, List.set_cons_succ])
  refine wpAnyK_one (i := 8) (by kernel_rfl) rfl (fun K hK => ?_)
  simp only [List.getElem_toArray, List.getElem_cons_zero, List.getElem_cons_succ]
  rw [if_pos (by rfl)]
  refine operwp_app16 _ _ _ rfl rfl rfl T.hr ?_
  have x1 := T.x1
  have xf := T.xf
  have o2 := T.o2
  refine hK.out _ _ (fun _ => ⟨x1, o2⟩) (fun hHeld0 => ?_)
  have hHeld := hHeld0 (by decide)
  clear hHeld0 hK K
  simp only [Act.put, List.setIfInBounds_toArray, List.set_cons_zero, List.set_cons_succ]
  refine wpAnyK_one (i := 9) (by kernel_rfl) rfl (fun K hK => ?_)
  (try simp only [List.getElem_toArray, List.getElem_cons_zero, List.getElem_cons_succ, Act.put, List.setIfInBounds_toArray, List.set_cons_zero, List.set_cons_succ])
  go_simp
  refine hK.out _ _ (fun _ => ⟨x1, o2⟩) (fun hHeld0 => ?_)
  have hHeld := hHeld0 (by decide)
  clear hHeld0 hK K
  (try simp only [List.getElem_toArray, List.getElem_cons_zero, List.getElem_cons_succ, Act.put, List.setIfInBounds_toArray, List.set_cons_zero, List.set_cons_succ])
  refine wpAnyK_one (i := 10) (by kernel_rfl) rfl (fun K hK => ?_)
  (try simp only [List.getElem_toArray, List.getElem_cons_zero, List.getElem_cons_succ, Act.put, List.setIfInBounds_toArray, List.set_cons_zero, List.set_cons_succ])
  go_simp
  refine hK.out _ _ (fun _ => ⟨x1, o2⟩) (fun hHeld0 => ?_)
  have hHeld := hHeld0 (by decide)
  clear hHeld0 hK K
  (try simp only [List.getElem_toArray, List.getElem_cons_zero, List.getElem_cons_succ, Act.put, List.setIfInBounds_toArray, List.set_cons_zero, List.set_cons_succ])
  refine wpAnyK_one (i := 11) (by kernel_rfl) rfl (fun K hK => ?_)
  simp only [List.getElem_toArray, List.getElem_cons_zero, List.getElem_cons_succ, Act.put]
  go_simp
  refine hK.out _ _ (fun h => absurd rfl h) (fun _ => ?_)
  clear hK K
  refine wpAnyK_done (by kernel_rfl) ?_ _
  go_wp2
  go_end0
  exact HP.out
set_option maxRecDepth 100000 in
set_option maxHeartbeats 8000000 in
theorem ptk17_an (at_ v : Int) (h : Pr17 base bw vS vD vX s w) (hd : s.D = []) (hn : s.S.length + 1 ≤ 1073741824) (hl : s.D.length + 1 ≤ 1073741824) (hat : -576460752303423488 ≤ at_ ∧ at_ ≤ 576460752303423488) (hp : -1152921504606846976 ≤ s.p ∧ s.p ≤ 1152921504606846976)
    (s1 : Pt17) (hs1 : s1 = (s.ini at_).lead at_) (hc : 0 ≤ (s1.S.getLastD z16).1 ∧ (s1.S.getLastD z16).1 ≤ 1099511627776) (hq : -1152921504606846976 ≤ s1.p ∧ s1.p ≤ 1152921504606846976) (hn1 : s1.S.length ≤ 1073741824) :
    Calls Tryz.prog 61 #[.pointer (some ⟨bw, 0, none⟩), .agg #[.int .i64 at_, .int .u8 v, .bool true]] w (TkQ17 base bw vS vD vX { s1 with S := ml17 add17 s1.S, D := s.D ++ [v], p := s1.p + 1 } w) := by
  obtain ⟨wA, hwA⟩ : ∃ wA, wA = w.alloc (.cells #[.int .i64 at_, .int .u8 v, .bool true] 124) := ⟨_, rfl⟩
  have cA : Cb16 w #[.int .i64 at_, .int .u8 v, .bool true] 124 wA := by rw [hwA]; exact cb16 _ _ _
  have hA := h.below cA.bl
  obtain ⟨ob, hob⟩ : ∃ ob, ob = w.heap.size := ⟨_, rfl⟩
  have qo : wA.heap[ob]? = some (.cells #[.int .i64 at_, .int .u8 v, .bool true] 124 (0, 0)) := by rw [hob]; exact cA.cl
  have hno : ¬ Pf17 bw vS vD vX ob := fun x => by have := (h.lt ob x).2; omega
  obtain ⟨a0, a1, a2, a3, a4⟩ := five_cells hA.hp
  have b0 := three_cell0 qo
  have b2 := three_cell2 qo
  have hs1n : s1.S ≠ [] := by rw [hs1]; exact lead17_ne _ _
  have hD1 : s1.D = s.D := by rw [hs1, (lead17_len _ _).1, (ini17_len _ _).1]
  have HWA : Hid (w.alloc (.cells #[.int .i64 at_, .int .u8 v, .bool true] 124) = wA) := hwA.symm
  have HOB : Hid (w.heap.size = ob) := hob.symm
  obtain ⟨dp, dc, hvD⟩ := own_sl17 h.oD
  have hei : s.ini at_ = { s with pos := at_, p := at_ } := by unfold Pt17.ini; rw [if_pos hd]
  rw [hei] at hs1
  obtain ⟨wC, hwC⟩ : ∃ wC, wC = ((wA.setCell ⟨bw, 0, none⟩ (.int .i64 at_)).setCell ⟨bw, 4, none⟩ (.int .i64 at_)).drew := ⟨_, rfl⟩
  have hC1 : Pr17 base bw vS vD vX { s with pos := at_ } (wA.setCell ⟨bw, 0, none⟩ (.int .i64 at_)) := hA.num rfl rfl rfl (five_set0 hA.hp _)
  have hC2 : Pr17 base bw vS vD vX { s with pos := at_, p := at_ } ((wA.setCell ⟨bw, 0, none⟩ (.int .i64 at_)).setCell ⟨bw, 4, none⟩ (.int .i64 at_)) := hC1.num (s' := { s with pos := at_, p := at_ }) rfl rfl rfl (five_set4 hC1.hp _)
  have hC : Pr17 base bw vS vD vX { s with pos := at_, p := at_ } wC := by rw [hwC]; exact hC2.below ((Below.refl _ _).drew)
  have KC : Kp (Pf17 bw vS vD vX) wA wC := by
    rw [hwC]
    exact ((Kp.set (S := Pf17 bw vS vD vX) (.inl rfl) _).trans (Kp.set (S := Pf17 bw vS vD vX) (.inl rfl) _) (fun _ _ x => x)).drew
  have CL := plead17 at_ hC (by show s.S.length + 1 ≤ _; omega) (by omega) (by show _ ≤ at_ ∧ at_ ≤ _; omega)
  rw [← hs1] at CL
  have HCL : Hid (Calls Tryz.prog 92 #[.pointer (some ⟨bw, 0, none⟩), .int .i64 at_] wC (TkQ17 base bw vS vD vX s1 wC)) := CL
  have HK0 : Hid (Kp (Pf17 bw vS vD vX) w wC) := (Kp.of_below cA.bl).trans KC (fun _ _ x => x)
  have HQ0 : Hid (wC.heap[ob]? = some (.cells #[.int .i64 at_, .int .u8 v, .bool true] 124 (0, 0))) := KC.heap qo hno
  have HCS : Hid (w.heap.size < wC.heap.size) := by show _ < _; have := KC.size; have := cA.sz; omega
  have HWC : Hid (((wA.setCell ⟨bw, 0, none⟩ (.int .i64 at_)).setCell ⟨bw, 4, none⟩ (.int .i64 at_)).drew = wC) := hwC.symm
  have y0 := three_cell0 HQ0.out
  have f0 := five_free (i := 0) hA.hp
  have f4 := five_free (i := 4) hC1.hp
  have z4 := (five_cells hC1.hp).2.2.2.2
  have g0 := a0
  have g2 := b0
  have hobw0 : ob ≠ bw := fun e => hno (.inl e)
  have gz : (wA.setCell ⟨bw, 0, none⟩ (.int .i64 at_)).cell? ⟨ob, 0, none⟩ = some (.int .i64 at_) := cell_far16 b0 hobw0
  have gz4 : (wA.setCell ⟨bw, 4, none⟩ (.int .i64 at_)).cell? ⟨ob, 0, none⟩ = some (.int .i64 at_) := cell_far16 b0 hobw0
  rw [hd] at hvD
  simp only [List.length_nil] at hvD
  have hvD' : vD = .slice dp 0 dc := hvD
  rw [hvD] at a2
  rw [hwA] at a0 a1 a2 a3 a4
  rw [hwA, hob] at b0 b2
  clear h hA qo hs1 hei hwA hob hvD CL hC hC1 hC2 KC hwC
  go_enter Tryz.func61, Tryz.ntmps61
  go_wp2
  rw [HWA.out, HOB.out]
  clear a0 a1 a2 a3 a4 b0 b2
  go_region
  rw [HWC.out]
  have CL := HCL.out
  clear gz gz4 z4 f0 f4 g0 g2 HCL HWC hd hvD'
  go_wp2_with (first
    | (go_at_call 92; refine CL.mono ?_; rintro e1 w1 ⟨rfl, vS1, vD1, vX1, h1, k1, ft1⟩; clear CL; have HX : Hid (Pr17 base bw vS1 vD1 vX1 s1 w1 ∧ Kp (Pf17 bw vS vD vX) wC w1 ∧ (∀ k, Pf17 bw vS1 vD1 vX1 k → Pf17 bw vS vD vX k ∨ wC.heap.size ≤ k)) := ⟨h1, k1, ft1⟩; obtain ⟨x0, x1, x2, x3, x4⟩ := five_cells h1.hp; clear h1 k1 ft1 y0))
  obtain ⟨h1, k1, ft1⟩ := HX.out
  have hk0 := HK0.out
  have qo := HQ0.out
  have bd : Below w1.heap.size w1 w1.drew := (Below.refl _ _).drew
  have hD := h1.below bd
  obtain ⟨g, r, c, L⟩ := hD.last hs1n
  have hobw : ob < wC.heap.size := (Array.getElem?_eq_some_iff.1 qo).1
  have hn2 : ¬ Pf17 bw vS1 vD1 vX1 ob := fun x => by
    rcases ft1 ob x with y | y
    · exact hno y
    · omega
  have hcs := HCS.out
  obtain ⟨V1, g2, rc, w', e1, T, t4, tf, hP⟩ := taila17 (w := w) (vS0 := vS) (vD0 := vD) (vX0 := vX) hD hs1n L (by rw [hD1]; omega) (show w1.drew.heap[ob]? = _ from k1.heap qo hno) hn2 ((hk0.trans k1 (fun _ _ x => x)).drew) (fun k x => (ft1 k x).imp id (fun y => by omega))
  rw [hD1] at T t4 tf hP
  have HP : Hid (TkQ17 base bw vS vD vX { s1 with S := ml17 add17 s1.S, D := s.D ++ [v], p := s1.p + 1 } w (.returned (.tuple #[])) ((w'.setCell ⟨bw, 2, none⟩ (.slice (some ⟨g2, 0, none⟩) (s.D.length + 1) rc)).setCell ⟨bw, 4, none⟩ (.int .i64 (s1.p + 1)))) := hP
  have hvS := L.vs
  have hb : r + 1 ≤ 1073741824 := by rw [← L.ln]; omega
  obtain ⟨N, hN⟩ : ∃ N, N = r + 1 := ⟨_, rfl⟩
  rw [← hN] at hvS
  have hw2 : IntKind.i64.wrap ((N : Int) - 1) = (r : Int) := by rw [IntWalk.i64_in _ (by omega)]; omega
  have hp2 : (r : Int) < (N : Int) := by omega
  have hp3 : (0 : Int) ≤ (r : Int) := by omega
  have hp4 : r < N := by omega
  have l1 : w1.cell? ⟨g, r * 3, none⟩ = some (.int .i64 (s1.S.getLastD z16).1) := L.c0
  have fr : w1.frozen? ⟨g, r * 3, none⟩ = false := L.fr (r * 3)
  have HE : Hid ((w1.setCell ⟨g, r * 3, none⟩ (.int .i64 ((s1.S.getLastD z16).1 + 1))).drew = V1) := by show _ = _; rw [e1]; rfl
  have b1 := x1
  have hw3 : IntKind.i64.wrap ((s1.S.getLastD z16).1 + 1) = (s1.S.getLastD z16).1 + 1 := IntWalk.i64_in _ (by omega)
  have hw4 : IntKind.i64.wrap (s1.p + 1) = s1.p + 1 := IntWalk.i64_in _ (by omega)
  rw [hvS] at b1
  have HX1 : Hid True := trivial
  clear hN L qo hD hP bd e1 h1 k1 ft1 hk0 hcs hn2 hno HX x0 x1 x2 x3 x4 hs1n hD1 hvS
  generalize (s1.S.getLastD z16).1 = u1 at *
  refine plain_region16 (fun V => V.cell? ⟨bw, 1, none⟩ = some (.slice (some ⟨g, 0, none⟩) N c) ∧ V.cell? ⟨g, r * 3, none⟩ = some (.int .i64 u1)) 16 (by kernel_rfl) ⟨b1, l1⟩ (fun hHeld => ?_)
  refine wpAnyK_take (i := 0) (v := .pointer (some ⟨bw, 1, none⟩)) rfl (by kernel_rfl) (by kernel_rfl) (by kernel_rfl) (by kernel_rfl) (fun _ _ _ h => h) (Or.inl ⟨by rfl, fun w hSw => by go_simp⟩) hHeld ?_
  simp only [List.getElem_toArray, List.getElem_cons_zero, Act.put, List.setIfInBounds_toArray, List.set_cons_zero, List.set_cons_succ]
  refine wpAnyK_take (i := 1) (v := .pointer (some ⟨bw, 1, none⟩)) rfl (by kernel_rfl) (by kernel_rfl) (by kernel_rfl) (by kernel_rfl) (fun _ _ _ h => h) (Or.inl ⟨by rfl, fun w hSw => by go_simp⟩) hHeld ?_
  simp only [List.getElem_toArray, List.getElem_cons_zero, List.getElem_cons_succ, Act.put, List.setIfInBounds_toArray, List.set_cons_zero, List.set_cons_succ]
  refine wpAnyK_take (i := 2) (v := .pointer (some ⟨bw, 1, none⟩)) rfl (by kernel_rfl) (by kernel_rfl) (by kernel_rfl) (by kernel_rfl) (fun _ _ _ h => h) (Or.inl ⟨by rfl, fun w hSw => by go_simp⟩) hHeld ?_
  simp only [List.getElem_toArray, List.getElem_cons_zero, List.getElem_cons_succ, Act.put, List.setIfInBounds_toArray, List.set_cons_zero, List.set_cons_succ]
  refine wpAnyK_take (i := 3) (v := .slice (some ⟨g, 0, none⟩) N c) rfl (by kernel_rfl) (by kernel_rfl) (by kernel_rfl) (by kernel_rfl) (fun _ _ _ h => h) (Or.inl ⟨by rfl, fun w hSw => by go_simp⟩) hHeld ?_
  simp only [List.getElem_toArray, List.getElem_cons_zero, List.getElem_cons_succ, Act.put, List.setIfInBounds_toArray, List.set_cons_zero, List.set_cons_succ]
  refine wpAnyK_take (i := 4) (v := .pointer (some ⟨bw, 1, none⟩)) rfl (by kernel_rfl) (by kernel_rfl) (by kernel_rfl) (by kernel_rfl) (fun _ _ _ h => h) (Or.inl ⟨by rfl, fun w hSw => by go_simp⟩) hHeld ?_
  simp only [List.getElem_toArray, List.getElem_cons_zero, List.getElem_cons_succ, Act.put, List.setIfInBounds_toArray, List.set_cons_zero, List.set_cons_succ]
  refine wpAnyK_take (i := 5) (v := .pointer (some ⟨bw, 1, none⟩)) rfl (by kernel_rfl) (by kernel_rfl) (by kernel_rfl) (by kernel_rfl) (fun _ _ _ h => h) (Or.inl ⟨by rfl, fun w hSw => by go_simp⟩) hHeld ?_
  simp only [List.getElem_toArray, List.getElem_cons_zero, List.getElem_cons_succ, Act.put, List.setIfInBounds_toArray, List.set_cons_zero, List.set_cons_succ]
  refine wpAnyK_take (i := 6) (v := .pointer (some ⟨bw, 1, none⟩)) rfl (by kernel_rfl) (by kernel_rfl) (by kernel_rfl) (by kernel_rfl) (fun _ _ _ h => h) (Or.inl ⟨by rfl, fun w hSw => by go_simp⟩) hHeld ?_
  simp only [List.getElem_toArray, List.getElem_cons_zero, List.getElem_cons_succ, Act.put, List.setIfInBounds_toArray, List.set_cons_zero, List.set_cons_succ]
  refine wpAnyK_take (i := 7) (v := .slice (some ⟨g, 0, none⟩) N c) rfl (by kernel_rfl) (by kernel_rfl) (by kernel_rfl) (by kernel_rfl) (fun _ _ _ h => h) (Or.inl ⟨by rfl, fun w hSw => by go_simp⟩) hHeld ?_
  simp only [List.getElem_toArray, List.getElem_cons_zero, List.getElem_cons_succ, Act.put, List.setIfInBounds_toArray, List.set_cons_zero, List.set_cons_succ]
  refine wpAnyK_take (i := 8) (v := .int .i64 (N : Int)) rfl (by kernel_rfl) (by kernel_rfl) (by kernel_rfl) (by kernel_rfl) (fun _ _ _ h => h) (Or.inl ⟨by rfl, fun w hSw => by go_simp⟩) hHeld ?_
  simp only [List.getElem_toArray, List.getElem_cons_zero, List.getElem_cons_succ, Act.put, List.setIfInBounds_toArray, List.set_cons_zero, List.set_cons_succ]
  refine wpAnyK_take (i := 9) (v := .int .i64 (r : Int)) rfl (by kernel_rfl) (by kernel_rfl) (by kernel_rfl) (by kernel_rfl) (fun _ _ _ h => h) (Or.inl ⟨by rfl, fun w hSw => by go_simp⟩) hHeld ?_
  simp only [List.getElem_toArray, List.getElem_cons_zero, List.getElem_cons_succ, Act.put, List.setIfInBounds_toArray, List.set_cons_zero, List.set_cons_succ]
  refine wpAnyK_take (i := 10) (v := .pointer (some ⟨g, r * 3, none⟩)) rfl (by kernel_rfl) (by kernel_rfl) (by kernel_rfl) (by kernel_rfl) (fun _ _ _ h => h) (Or.inl ⟨by rfl, fun w hSw => by go_simp⟩) hHeld ?_
  simp only [List.getElem_toArray, List.getElem_cons_zero, List.getElem_cons_succ, Act.put, List.setIfInBounds_toArray, List.set_cons_zero, List.set_cons_succ]
  refine wpAnyK_take (i := 11) (v := .pointer (some ⟨g, r * 3, none⟩)) rfl (by kernel_rfl) (by kernel_rfl) (by kernel_rfl) (by kernel_rfl) (fun _ _ _ h => h) (Or.inl ⟨by rfl, fun w hSw => by go_simp⟩) hHeld ?_
  simp only [List.getElem_toArray, List.getElem_cons_zero, List.getElem_cons_succ, Act.put, List.setIfInBounds_toArray, List.set_cons_zero, List.set_cons_succ]
  refine wpAnyK_take (i := 12) (v := .int .i64 u1) rfl (by kernel_rfl) (by kernel_rfl) (by kernel_rfl) (by kernel_rfl) (fun _ _ _ h => h) (Or.inl ⟨by rfl, fun w hSw => by go_simp⟩) hHeld ?_
  simp only [List.getElem_toArray, List.getElem_cons_zero, List.getElem_cons_succ, Act.put, List.setIfInBounds_toArray, List.set_cons_zero, List.set_cons_succ]
  refine wpAnyK_take (i := 13) (v := .int .i64 (u1 + 1)) rfl (by kernel_rfl) (by kernel_rfl) (by kernel_rfl) (by kernel_rfl) (fun _ _ _ h => h) (Or.inl ⟨by rfl, fun w hSw => by go_simp⟩) hHeld ?_
  simp only [List.getElem_toArray, List.getElem_cons_zero, List.getElem_cons_succ, Act.put, List.setIfInBounds_toArray, List.set_cons_zero, List.set_cons_succ]
  refine wpAnyK_one (i := 14) (by kernel_rfl) rfl (fun K hK => ?_)
  (try simp only [List.getElem_toArray, List.getElem_cons_zero, List.getElem_cons_succ, Act.put, List.setIfInBounds_toArray, List.set_cons_zero, List.set_cons_succ])
  go_simp
  refine hK.out _ _ (fun _ => ⟨b1, l1⟩) (fun hHeld0 => ?_)
  have hHeld := hHeld0 (by decide)
  clear hHeld0 hK K
  (try simp only [List.getElem_toArray, List.getElem_cons_zero, List.getElem_cons_succ, Act.put, List.setIfInBounds_toArray, List.set_cons_zero, List.set_cons_succ])
  refine wpAnyK_one (i := 15) (by kernel_rfl) rfl (fun K hK => ?_)
  (try simp only [List.getElem_toArray, List.getElem_cons_zero, List.getElem_cons_succ, Act.put, List.setIfInBounds_toArray, List.set_cons_zero, List.set_cons_succ])
  go_simp
  refine hK.out _ _ (fun _ => ⟨b1, l1⟩) (fun hHeld0 => ?_)
  have hHeld := hHeld0 (by decide)
  clear hHeld0 hK K
  (try simp only [List.getElem_toArray, List.getElem_cons_zero, List.getElem_cons_succ, Act.put, List.setIfInBounds_toArray, List.set_cons_zero, List.set_cons_succ])
  refine wpAnyK_one (i := 16) (by kernel_rfl) rfl (fun K hK => ?_)
  simp only [List.getElem_toArray, List.getElem_cons_zero, List.getElem_cons_succ, Act.put]
  go_simp
  refine hK.out _ _ (fun h => absurd rfl h) (fun _ => ?_)
  clear hK K
  refine wpAnyK_done (by kernel_rfl) ?_ _
  rw [HE.out]
  go_wp2
  clear b1 l1 fr
  have td1 := T.d1
  have to1 := T.o1
  refine plain_region16 (fun V => V.cell? ⟨bw, 2, none⟩ = some vD1 ∧ V.cell? ⟨ob, 1, none⟩ = some (.int .u8 v)) 11 (by kernel_rfl) ⟨td1, to1⟩ (fun hHeld => ?_)
  refine wpAnyK_take (i := 0) (v := .pointer (some ⟨bw, 1, none⟩)) rfl (by kernel_rfl) (by kernel_rfl) (by kernel_rfl) (by kernel_rfl) (fun _ _ _ h => h) (Or.inl ⟨by rfl, fun w hSw => by go_simp⟩) hHeld ?_
  simp only [List.getElem_toArray, List.getElem_cons_zero, Act.put, List.setIfInBounds_toArray, List.set_cons_zero, List.set_cons_succ]
  refine wpAnyK_take (i := 1) (v := .pointer (some ⟨bw, 1, none⟩)) rfl (by kernel_rfl) (by kernel_rfl) (by kernel_rfl) (by kernel_rfl) (fun _ _ _ h => h) (Or.inl ⟨by rfl, fun w hSw => by go_simp⟩) hHeld ?_
  simp only [List.getElem_toArray, List.getElem_cons_zero, List.getElem_cons_succ, Act.put, List.setIfInBounds_toArray, List.set_cons_zero, List.set_cons_succ]
  refine wpAnyK_take (i := 2) (v := .pointer (some ⟨bw, 1, none⟩)) rfl (by kernel_rfl) (by kernel_rfl) (by kernel_rfl) (by kernel_rfl) (fun _ _ _ h => h) (Or.inl ⟨by rfl, fun w hSw => by go_simp⟩) hHeld ?_
  simp only [List.getElem_toArray, List.getElem_cons_zero, List.getElem_cons_succ, Act.put, List.setIfInBounds_toArray, List.set_cons_zero, List.set_cons_succ]
  refine wpAnyK_take (i := 3) (v := .pointer (some ⟨bw, 2, none⟩)) rfl (by kernel_rfl) (by kernel_rfl) (by kernel_rfl) (by kernel_rfl) (fun _ _ _ h => h) (Or.inl ⟨by rfl, fun w hSw => by go_simp⟩) hHeld ?_
  simp only [List.getElem_toArray, List.getElem_cons_zero, List.getElem_cons_succ, Act.put, List.setIfInBounds_toArray, List.set_cons_zero, List.set_cons_succ]
  refine wpAnyK_take (i := 4) (v := vD1) rfl (by kernel_rfl) (by kernel_rfl) (by kernel_rfl) (by kernel_rfl) (fun _ _ _ h => h) (Or.inl ⟨by rfl, fun w hSw => by go_simp⟩) hHeld ?_
  simp only [List.getElem_toArray, List.getElem_cons_zero, List.getElem_cons_succ, Act.put, List.setIfInBounds_toArray, List.set_cons_zero, List.set_cons_succ]
  refine wpAnyK_take (i := 5) (v := .pointer (some ⟨ob, 1, none⟩)) rfl (by kernel_rfl) (by kernel_rfl) (by kernel_rfl) (by kernel_rfl) (fun _ _ _ h => h) (Or.inl ⟨by rfl, fun w hSw => by go_simp⟩) hHeld ?_
  simp only [List.getElem_toArray, List.getElem_cons_zero, List.getElem_cons_succ, Act.put, List.setIfInBounds_toArray, List.set_cons_zero, List.set_cons_succ]
  refine wpAnyK_take (i := 6) (v := .int .u8 v) rfl (by kernel_rfl) (by kernel_rfl) (by kernel_rfl) (by kernel_rfl) (fun _ _ _ h => h) (Or.inl ⟨by rfl, fun w hSw => by go_simp⟩) hHeld ?_
  simp only [List.getElem_toArray, List.getElem_cons_zero, List.getElem_cons_succ, Act.put, List.setIfInBounds_toArray, List.set_cons_zero, List.set_cons_succ]
  refine wpAnyK_one (i := 7) (by kernel_rfl) rfl (fun K hK => ?_)
  (try simp only [List.getElem_toArray, List.getElem_cons_zero, List.getElem_cons_succ, Act.put, List.setIfInBounds_toArray, List.set_cons_zero, List.set_cons_succ])
  go_simp
  refine hK.out _ _ (fun _ => ⟨T.k1 _, T.k2 _⟩) (fun hHeld0 => ?_)
  have hHeld := hHeld0 (by decide)
  clear hHeld0 hK K
  (try simp only [List.getElem_toArray, List.getElem_cons_zero, List.getElem_cons_succ, Act.put, List.setIfInBounds_toArray, List.set_cons_zero, List.set_cons_succ])
  refine wpAnyK_one (i := 8) (by kernel_rfl) rfl (fun K hK => ?_)
  simp only [List.getElem_toArray, List.getElem_cons_zero, List.getElem_cons_succ]
  rw [if_pos (by rfl)]
  refine operwp_app16 _ _ _ rfl rfl rfl T.hr ?_
  have x1 := T.x1
  have xf := T.xf
  have o2 := T.o2
  refine hK.out _ _ (fun _ => ⟨x1, o2⟩) (fun hHeld0 => ?_)
  have hHeld := hHeld0 (by decide)
  clear hHeld0 hK K
  simp only [Act.put, List.setIfInBounds_toArray, List.set_cons_zero, List.set_cons_succ]
  refine wpAnyK_one (i := 9) (by kernel_rfl) rfl (fun K hK => ?_)
  (try simp only [List.getElem_toArray, List.getElem_cons_zero, List.getElem_cons_succ, Act.put, List.setIfInBounds_toArray, List.set_cons_zero, List.set_cons_succ])
  go_simp
  refine hK.out _ _ (fun _ => ⟨x1, o2⟩) (fun hHeld0 => ?_)
  have hHeld := hHeld0 (by decide)
  clear hHeld0 hK K
  (try simp only [List.getElem_toArray, List.getElem_cons_zero, List.getElem_cons_succ, Act.put, List.setIfInBounds_toArray, List.set_cons_zero, List.set_cons_succ])
  refine wpAnyK_one (i := 10) (by kernel_rfl) rfl (fun K hK => ?_)
  (try simp only [List.getElem_toArray, List.getElem_cons_zero, List.getElem_cons_succ, Act.put, List.setIfInBounds_toArray, List.set_cons_zero, List.set_cons_succ])
  go_simp
  refine hK.out _ _ (fun _ => ⟨x1, o2⟩) (fun hHeld0 => ?_)
  have hHeld := hHeld0 (by decide)
  clear hHeld0 hK K
  (try simp only [List.getElem_toArray, List.getElem_cons_zero, List.getElem_cons_succ, Act.put, List.setIfInBounds_toArray, List.set_cons_zero, List.set_cons_succ])
  refine wpAnyK_one (i := 11) (by kernel_rfl) rfl (fun K hK => ?_)
  simp only [List.getElem_toArray, List.getElem_cons_zero, List.getElem_cons_succ, Act.put]
  go_simp
  refine hK.out _ _ (fun h => absurd rfl h) (fun _ => ?_)
  clear hK K
  refine wpAnyK_done (by kernel_rfl) ?_ _
  go_wp2
  go_end0
  exact HP.out
structure Bd17 (s : Pt17) : Prop where
  S : s.S.length ≤ s.len
  a : 0 ≤ (s.S.getLastD z16).1 ∧ (s.S.getLastD z16).1 ≤ (s.D.length : Int)
  c : 0 ≤ (s.S.getLastD z16).2.1 ∧ (s.S.getLastD z16).2.1 ≤ (s.X.length : Int)
  p : -576460752303423488 ≤ s.p ∧ s.p ≤ 576460752303423489
theorem bd17_zero : Bd17 z17 := ⟨Nat.le_refl _, by decide, by decide, by decide⟩
theorem ml17_last (f : St16 → St16) (S : List St16) : (ml17 f S).getLastD z16 = f (S.getLastD z16) := by unfold ml17; simp
theorem snoc17_last (S : List St16) (t : St16) : (S ++ [t]).getLastD z16 = t := by simp
/-- What lead leaves. -/
theorem lead17_bd (s : Pt17) (to : Int) (h : Bd17 s) (hto : -576460752303423488 ≤ to ∧ to ≤ 576460752303423488) : (s.lead to).S.length ≤ s.S.length + 1 ∧ (0 ≤ ((s.lead to).S.getLastD z16).1 ∧ ((s.lead to).S.getLastD z16).1 ≤ (s.D.length : Int)) ∧ ((s.lead to).S.getLastD z16).2.1 = 0 ∧ (s.lead to).p = to := by
  unfold Pt17.lead
  by_cases h1 : s.S = []
  · rw [if_pos h1]
    exact ⟨by simp, by simp, by simp, rfl⟩
  · rw [if_neg h1]
    by_cases h2 : (s.S.getLastD z16).2.1 = 0 ∧ to = s.p
    · rw [if_pos h2]
      exact ⟨by omega, h.a, h2.1, h2.2.symm⟩
    · rw [if_neg h2]
      refine ⟨by simp only [List.length_append, List.length_cons, List.length_nil]; rw [ml17_len h1]; omega, ?_, ?_, rfl⟩
      · rw [snoc17_last]; simp
      · rw [snoc17_last]
theorem ini17_bd (s : Pt17) (to : Int) (h : Bd17 s) (hto : -576460752303423488 ≤ to ∧ to ≤ 576460752303423488) : Bd17 (s.ini to) := by
  unfold Pt17.ini
  split
  · exact ⟨h.S, h.a, h.c, by show _ ≤ to ∧ to ≤ _; omega⟩
  · exact h
theorem take17_bd (s : Pt17) (o : Wy17) (h : Bd17 s) (ho : -576460752303423488 ≤ o.1 ∧ o.1 ≤ 576460752303423488) : Bd17 (s.take o) := by
  obtain ⟨at_, v, b⟩ := o
  have hl := take17_len s (at_, v, b)
  unfold Pt17.take at *
  cases b
  · simp only [Bool.false_eq_true, if_false] at *
    have hS := h.S
    have ha := h.a
    have hc := h.c
    refine ⟨?_, ?_, ?_, h.p⟩
    · rw [hl]
      show (ml17 cpy17 _).length ≤ _
      split
      · simp [ml17]
      · rename_i hne
        rw [ml17_len hne]; omega
    · show 0 ≤ ((ml17 cpy17 _).getLastD z16).1 ∧ ((ml17 cpy17 _).getLastD z16).1 ≤ _
      rw [ml17_last]
      split
      · simp [cpy17]
      · exact ha
    · show 0 ≤ ((ml17 cpy17 _).getLastD z16).2.1 ∧ ((ml17 cpy17 _).getLastD z16).2.1 ≤ ((s.X ++ [v]).length : Int)
      rw [ml17_last]
      simp only [List.length_append, List.length_cons, List.length_nil]
      split
      · simp [cpy17]; omega
      · simp only [cpy17]; omega
  · simp only [if_true] at *
    have h1 := lead17_bd (s.ini at_) at_ (ini17_bd s at_ h ho) ho
    rw [(ini17_len _ _).1, (ini17_len _ _).2.2] at h1
    obtain ⟨x1, x2, x3, x4⟩ := h1
    have hS := h.S
    have hc := h.c
    refine ⟨?_, ?_, ?_, ?_⟩
    · rw [hl]
      show (ml17 add17 _).length ≤ _
      rw [ml17_len (lead17_ne _ _)]; omega
    · show 0 ≤ ((ml17 add17 _).getLastD z16).1 ∧ ((ml17 add17 _).getLastD z16).1 ≤ ((s.D ++ [v]).length : Int)
      rw [ml17_last]
      simp only [List.length_append, List.length_cons, List.length_nil, add17]; omega
    · show 0 ≤ ((ml17 add17 _).getLastD z16).2.1 ∧ ((ml17 add17 _).getLastD z16).2.1 ≤ _
      rw [ml17_last]
      simp only [add17]
      rw [x3]; omega
    · show _ ≤ ((s.ini at_).lead at_).p + 1 ∧ ((s.ini at_).lead at_).p + 1 ≤ _
      rw [x4]; omega
/-- TAKE, in one form. -/
theorem ptake17 (o : Wy17) (h : Pr17 base bw vS vD vX s w) (hb : Bd17 s) (hn : s.len ≤ 16777216) (ho : -576460752303423488 ≤ o.1 ∧ o.1 ≤ 576460752303423488) :
    Calls Tryz.prog 61 #[.pointer (some ⟨bw, 0, none⟩), wv17 o] w (TkQ17 base bw vS vD vX (s.take o) w) := by
  obtain ⟨at_, v, b⟩ := o
  have hS := hb.S
  have ha := hb.a
  have hc := hb.c
  have hp := hb.p
  have hlen : s.D.length + s.X.length ≤ 16777216 := hn
  unfold wv17 Pt17.take
  simp only at ho ⊢
  cases b
  · simp only [Bool.false_eq_true, if_false]
    by_cases h0 : s.S = []
    · rw [if_pos h0]
      exact ptk17_cn at_ v h h0 (by omega)
    · rw [if_neg h0]
      exact ptk17_cs at_ v h h0 (by omega) (by omega) (by omega)
  · simp only [if_true]
    have h1 := lead17_bd (s.ini at_) at_ (ini17_bd s at_ hb ho) ho
    rw [(ini17_len _ _).1, (ini17_len _ _).2.2] at h1
    obtain ⟨x1, x2, x3, x4⟩ := h1
    by_cases hd : s.D = []
    · exact ptk17_an at_ v h hd (by omega) (by omega) ho (by omega) _ rfl (by omega) (by rw [x4]; omega) (by omega)
    · exact ptk17_as at_ v h hd (by omega) (by omega) ho (by omega) _ rfl (by omega) (by rw [x4]; omega) (by omega)
end Go.Proofs.YtmfpdchfofffeaaGreatDoor

namespace Go.Proofs.YtmfpdchfofffeaaGreatDoor
open Go.RowKit Go.Shelf
set_option linter.unusedVariables false
def ck16 (old size : Int) (S : List St16) (m k : Nat) : Int :=
  if ¬ (0 ≤ old ∧ old ≤ 16777216 ∧ 0 ≤ size ∧ size ≤ 16777216) then 1 else if it16 S m k ≠ 0 then it16 S m k else if ((m + k : Nat) : Int) ≠ size then 162 else if ob16 S S.length old = true then 161 else 0
set_option maxRecDepth 100000 in
theorem pwit16 (l x : Int) (h1 : l ≤ x) (h2 : x ≤ 16777216) (w : World) : Calls Tryz.prog 88 #[.int .i64 l, .int .i64 x] w fun e w' => e = .returned (.bool true) ∧ w' = w := by
  go_enter Tryz.func88, Tryz.ntmps88
  go_wp2
  go_ret
  exact ⟨rfl, rfl⟩
variable {w : World} {sa da xa : Option Addr} {n sc m dc k xc : Nat} {S : List St16} {D X : List Int}
set_option maxRecDepth 100000 in
set_option maxHeartbeats 8000000 in
theorem pchk16 (old size : Int) (h : Ed16 w sa n S da m D xa k X) :
    Calls Tryz.prog 57 #[ev16 sa n sc da m dc xa k xc, .int .i64 old, .int .i64 size] w fun e w' => e = .returned (.int .i64 (ck16 old size S m k)) ∧ Below w.heap.size w w' := by
  obtain ⟨wA, hwA⟩ : ∃ wA, wA = w.alloc (.cells #[.slice sa n sc, .slice da m dc, .slice xa k xc] 48) := ⟨_, rfl⟩
  have bA : Below w.heap.size w wA := by rw [hwA]; exact below_box16 _ _
  have CS := psize16 (sc := sc) (dc := dc) (xc := xc) (h.old bA)
  have hn : Hid (S.length = n) := h.hn
  have HWA : Hid (wA = w.alloc (.cells #[.slice sa n sc, .slice da m dc, .slice xa k xc] 48)) := hwA
  have hpA : wA.heap[w.heap.size]? = some (.cells #[.slice sa n sc, .slice da m dc, .slice xa k xc] 48 (0, 0)) := by rw [hwA]; exact heap_alloc_new w _
  obtain ⟨ob, hob⟩ : ∃ ob, ob = w.heap.size := ⟨_, rfl⟩
  have hlt : ob < wA.heap.size := by rw [hwA, hob]; simp
  rw [← hob] at hpA
  have HOB : Hid (ob = w.heap.size) := hob
  have HB : Hid (∀ W, Below wA.heap.size wA W → W.cell? ⟨ob, 0, none⟩ = some (.slice sa n sc)) := fun W hW => three_cell0 ((hW.block ob hlt).trans hpA)
  have c0 := three_cell0 hpA
  have c1 := three_cell1 hpA
  have c2 := three_cell2 hpA
  rw [hwA, hob] at c0 c1 c2
  have CO : it16 S m k = 0 → Hid (∀ W, Below wA.heap.size wA W → Calls Tryz.prog 53 #[.slice sa n sc, .int .i64 old] W fun e w' => e = .returned (.bool (ob16 S n old)) ∧ Below W.heap.size W w') := fun hi W hW => by
    have hok : Hid (Ok16 S n) := by have := (it16_zero hi).1; rw [hn.out] at this; exact this
    exact pout16 sa n sc S old W ((h.ss.old bA).old hW) hn h.ln hok
  unfold ev16 at CS ⊢
  clear h hwA hob
  by_cases h1 : 0 ≤ old
  · by_cases h2 : old ≤ 16777216
    · by_cases h3 : 0 ≤ size
      · by_cases h4 : size ≤ 16777216
        · have hck : ck16 old size S m k = if it16 S m k ≠ 0 then it16 S m k else if ((m + k : Nat) : Int) ≠ size then 162 else if ob16 S S.length old = true then 161 else 0 := by unfold ck16; rw [if_neg (by omega)]
          have hcc := it16_cases S m k
          by_cases hi : it16 S m k = 0
          · have CO := CO hi
            have hsz : szR16 S m k = .tuple #[.int .i64 ((m + k : Nat) : Int), .int .i64 0] := by unfold szR16 sz16; rw [hi]; rfl
            rw [hsz] at CS
            rw [if_neg (by simpa using hi), hn.out] at hck
            clear hsz hcc hi
            by_cases h5 : ((m + k : Nat) : Int) = size
            · rw [if_neg (by simpa using h5)] at hck
              subst h5
              generalize m + k = mk at *
              cases ho : ob16 S n old
              · rw [ho] at CO hck
                have HC : Hid (ck16 old (mk : Int) S m k = 0) := hck
                rw [HC.out]
                clear hck ho
                go_enter Tryz.func57, Tryz.ntmps57
                go_wp2_with (first
                  | (go_at_call 88; refine (pwit16 _ _ (by assumption) (by assumption) _).mono ?_; rintro e9 w9 ⟨rfl, h9⟩; subst w9)
                  | (go_at_call 89; rw [← HWA.out]; refine CS.mono ?_; rintro e1 w1 ⟨rfl, B1⟩; have x1 := HB.out w1 B1; rw [HOB.out] at x1; clear CS)
                  | (go_at_call 53; refine (CO.out w1 B1).mono ?_; rintro e2 w2 ⟨rfl, B2⟩; clear CO))
                go_ret
                exact ⟨rfl, (bA.trans (B1.mono bA.size)).trans (B2.mono (bA.trans (B1.mono bA.size)).size)⟩
              · rw [ho] at CO hck
                have HC : Hid (ck16 old (mk : Int) S m k = 161) := hck
                rw [HC.out]
                clear hck ho
                go_enter Tryz.func57, Tryz.ntmps57
                go_wp2_with (first
                  | (go_at_call 88; refine (pwit16 _ _ (by assumption) (by assumption) _).mono ?_; rintro e9 w9 ⟨rfl, h9⟩; subst w9)
                  | (go_at_call 89; rw [← HWA.out]; refine CS.mono ?_; rintro e1 w1 ⟨rfl, B1⟩; have x1 := HB.out w1 B1; rw [HOB.out] at x1; clear CS)
                  | (go_at_call 53; refine (CO.out w1 B1).mono ?_; rintro e2 w2 ⟨rfl, B2⟩; clear CO))
                go_ret
                exact ⟨rfl, (bA.trans (B1.mono bA.size)).trans (B2.mono (bA.trans (B1.mono bA.size)).size)⟩
            · rw [if_pos h5] at hck
              rw [hck]
              have hne : (((m + k : Nat) : Int) != size) = true := by simpa using h5
              clear hck CO
              generalize m + k = mk at *
              go_enter Tryz.func57, Tryz.ntmps57
              go_wp2_with (first
                | (go_at_call 88; refine (pwit16 _ _ (by assumption) (by assumption) _).mono ?_; rintro e9 w9 ⟨rfl, h9⟩; subst w9)
                | (go_at_call 89; rw [← HWA.out]; refine CS.mono ?_; rintro e1 w1 ⟨rfl, B1⟩; clear CS))
              go_ret
              exact ⟨rfl, bA.trans (B1.mono bA.size)⟩
          · have hsz : szR16 S m k = .tuple #[.int .i64 0, .int .i64 (it16 S m k)] := by unfold szR16 sz16; rw [if_neg hi]; rfl
            rw [hsz] at CS
            rw [if_pos hi] at hck
            rw [hck]
            clear hsz hck CO
            generalize it16 S m k = er at *
            rcases hcc with rfl | rfl | rfl
            · exact absurd rfl hi
            · clear hi
              go_enter Tryz.func57, Tryz.ntmps57
              go_wp2_with (first
                | (go_at_call 88; refine (pwit16 _ _ (by assumption) (by assumption) _).mono ?_; rintro e9 w9 ⟨rfl, h9⟩; subst w9)
                | (go_at_call 89; rw [← HWA.out]; refine CS.mono ?_; rintro e1 w1 ⟨rfl, B1⟩; clear CS))
              go_ret
              exact ⟨rfl, bA.trans (B1.mono bA.size)⟩
            · clear hi
              go_enter Tryz.func57, Tryz.ntmps57
              go_wp2_with (first
                | (go_at_call 88; refine (pwit16 _ _ (by assumption) (by assumption) _).mono ?_; rintro e9 w9 ⟨rfl, h9⟩; subst w9)
                | (go_at_call 89; rw [← HWA.out]; refine CS.mono ?_; rintro e1 w1 ⟨rfl, B1⟩; clear CS))
              go_ret
              exact ⟨rfl, bA.trans (B1.mono bA.size)⟩
        · rw [show ck16 old size S m k = 1 by unfold ck16; rw [if_pos (by omega)]]
          clear CO CS
          go_enter Tryz.func57, Tryz.ntmps57
          go_wp2
          go_ret
          exact ⟨rfl, below_box16 _ _⟩
      · rw [show ck16 old size S m k = 1 by unfold ck16; rw [if_pos (by omega)]]
        clear CO CS
        go_enter Tryz.func57, Tryz.ntmps57
        go_wp2
        go_ret
        exact ⟨rfl, below_box16 _ _⟩
    · rw [show ck16 old size S m k = 1 by unfold ck16; rw [if_pos (by omega)]]
      clear CO CS
      go_enter Tryz.func57, Tryz.ntmps57
      go_wp2
      go_ret
      exact ⟨rfl, below_box16 _ _⟩
  · rw [show ck16 old size S m k = 1 by unfold ck16; rw [if_pos (by omega)]]
    clear CO CS
    go_enter Tryz.func57, Tryz.ntmps57
    go_wp2
    go_ret
    exact ⟨rfl, below_box16 _ _⟩
end Go.Proofs.YtmfpdchfofffeaaGreatDoor

namespace Go.Proofs.YtmfpdchfofffeaaGreatDoor
open Go.RowKit Go.Shelf
set_option linter.unusedVariables false
theorem info_win17 : (Tryz.prog.info? 87).map (fun i => (i.zero, i.size, i.bytes)) = some (some (.agg #[.int .i64 0, .slice none 0 0, .slice none 0 0, .slice none 0 0]), 4, 80) := by kernel_rfl
/-- Where a window's three lists lie. -/
abbrev Wv17 := Value × Value × Value
def Ft17 (v : Wv17) (k : Nat) : Prop := v.1.ownBlock = some k ∨ v.2.1.ownBlock = some k ∨ v.2.2.ownBlock = some k
structure Wn17 (base : Nat) (v : Wv17) (s : Pt17) (w : World) : Prop where
  oS : w.ownsRow base 108 3 v.1 s.S.length (flat16 s.S)
  oD : w.ownsRow base 5 1 v.2.1 s.D.length (s.D.map (Value.int .u8))
  oX : w.ownsRow base 5 1 v.2.2 s.X.length (s.X.map (Value.int .u8))
  sd : ∀ g, v.1.ownBlock = some g → v.2.1.ownBlock ≠ some g
  sx : ∀ g, v.1.ownBlock = some g → v.2.2.ownBlock ≠ some g
  dx : ∀ g, v.2.1.ownBlock = some g → v.2.2.ownBlock ≠ some g
theorem Wn17.kp {base : Nat} {v : Wv17} {s : Pt17} {w w' : World} {E : Nat → Prop} (h : Wn17 base v s w) (hk : Kp E w w') (hE : ∀ k, Ft17 v k → ¬ E k) : Wn17 base v s w' :=
  ⟨own_kp16 h.oS hk (fun x e => hE x (.inl e)), own_kp h.oD hk (fun x e => hE x (.inr (.inl e))), own_kp h.oX hk (fun x e => hE x (.inr (.inr e))), h.sd, h.sx, h.dx⟩
theorem Wn17.lt {base : Nat} {v : Wv17} {s : Pt17} {w : World} (h : Wn17 base v s w) : ∀ k, Ft17 v k → base ≤ k ∧ k < w.heap.size := by
  rintro k (e | e | e)
  · exact h.oS.lt k e
  · exact h.oD.lt k e
  · exact h.oX.lt k e
theorem Pr17.win {base bw : Nat} {vS vD vX : Value} {s : Pt17} {w : World} (h : Pr17 base bw vS vD vX s w) : Wn17 base (vS, vD, vX) s w := ⟨h.oS, h.oD, h.oX, h.sd, h.sx, h.dx⟩
/-- A list of windows: where the lists lie, what they are. -/
abbrev Wp17 := Wv17 × Pt17
def fw17 (l : List Wp17) : List Value := l.flatMap fun p => [.int .i64 p.2.pos, p.1.1, p.1.2.1, p.1.2.2]
theorem fw17_app (l r : List Wp17) : fw17 (l ++ r) = fw17 l ++ fw17 r := by unfold fw17; rw [List.flatMap_append]
structure Wl17 (base : Nat) (vO : Value) (l : List Wp17) (w : World) : Prop where
  own : w.ownsRow base 87 4 vO l.length (fw17 l)
  win : ∀ p ∈ l, Wn17 base p.1 p.2 w
  apO : ∀ p ∈ l, ∀ k, Ft17 p.1 k → vO.ownBlock ≠ some k
  ap : l.Pairwise fun p q => ∀ k, Ft17 p.1 k → ¬ Ft17 q.1 k
def Lf17 (vO : Value) (l : List Wp17) (k : Nat) : Prop := vO.ownBlock = some k ∨ ∃ p ∈ l, Ft17 p.1 k
theorem Wl17.kp {base : Nat} {vO : Value} {l : List Wp17} {w w' : World} {E : Nat → Prop} (h : Wl17 base vO l w) (hk : Kp E w w') (hE : ∀ k, Lf17 vO l k → ¬ E k) : Wl17 base vO l w' :=
  ⟨own_kp16 h.own hk (fun x e => hE x (.inl e)), fun p hp => (h.win p hp).kp hk (fun k x => hE k (.inr ⟨p, hp, x⟩)), h.apO, h.ap⟩
theorem Wl17.lt {base : Nat} {vO : Value} {l : List Wp17} {w : World} (h : Wl17 base vO l w) : ∀ k, Lf17 vO l k → base ≤ k ∧ k < w.heap.size := by
  rintro k (e | ⟨p, hp, e⟩)
  · exact h.own.lt k e
  · exact (h.win p hp).lt k e
/-- A window appended: the run. -/
theorem appw17 (V : World) {base : Nat} {v : Value} {n : Nat} {xs : List Value} (pos : Int) (a b c : Value) (ha : ∃ p n k, a = .slice p n k) (hb : ∃ p n k, b = .slice p n k) (hc : ∃ p n k, c = .slice p n k) (hown : V.ownsRow base 87 4 v n xs) (hn : n + 1 ≤ 1099511627776) (hbase : base ≤ V.heap.size) :
    ∃ g rc w', (Builtin.append_ #[52, 52] 52 #[v, .slice (some ⟨V.heap.size, 0, none⟩) 1 1]).run Tryz.prog (V.alloc (.cells #[.int .i64 pos, a, b, c] 87)) = .ok (.slice (some ⟨g, 0, none⟩) (n + 1) rc) w' ∧
      w'.ownsRow base 87 4 (.slice (some ⟨g, 0, none⟩) (n + 1) rc) (n + 1) (xs ++ [.int .i64 pos, a, b, c]) ∧ Kp (fun k => v.ownBlock = some k) V w' ∧ (v.ownBlock = some g ∨ V.heap.size ≤ g) := by
  obtain ⟨i0, hi, hz0, hz1, hz2⟩ := info_parts info_win17
  obtain ⟨pa, na, ka, rfl⟩ := ha
  obtain ⟨pb, nb, kb, rfl⟩ := hb
  obtain ⟨pc, nc, kc, rfl⟩ := hc
  obtain ⟨g, rc, w', hr, h1, h2, h3, h4⟩ := run_append_lies (P := Tryz.prog) (V.alloc (.cells #[.int .i64 pos, .slice pa na ka, .slice pb nb kb, .slice pc nc kc] 87)) 52 52 base 87 i0 _ 4 80 Tryz.underlying52 hi hz0 hz1 hz2 rfl (by omega) v n xs (hown.alloc _) ⟨V.heap.size, 0, none⟩ 1 1 [.int .i64 pos, .slice pa na ka, .slice pb nb kb, .slice pc nc kc] rfl
    (World.news_of_block (heap_alloc_new V (.cells #[.int .i64 pos, .slice pa na ka, .slice pb nb kb, .slice pc nc kc] 87 (0, 0)))) (by intro u hu; simp at hu; rcases hu with rfl | rfl | rfl | rfl <;> rfl) (by omega) (by unfold maxLen; omega) (by omega) (by simp; omega) (V.heap.size + 1) (by simp)
  refine ⟨g, rc, w', hr, h1, (Kp.alloc V _).trans (Kp.grown (S := fun k => v.ownBlock = some k) h2 (fun i e => e)) (fun _ _ e => e), ?_⟩
  rcases h3 with h | h
  · exact .inl h
  · exact .inr (by omega)
set_option maxRecDepth 100000 in
theorem pisw17 (x : Int) (w : World) : Calls Tryz.prog 56 #[.int .i64 x] w fun e w' => e = .returned (.bool (decide (64 ≤ x ∧ x ≤ 65536))) ∧ w' = w := by
  by_cases h1 : 64 ≤ x
  · by_cases h2 : x ≤ 65536
    · rw [decide_eq_true ⟨h1, h2⟩]
      go_enter Tryz.func56, Tryz.ntmps56
      go_wp2
      go_ret
      exact ⟨rfl, rfl⟩
    · rw [decide_eq_false (by omega)]
      go_enter Tryz.func56, Tryz.ntmps56
      go_wp2
      go_ret
      exact ⟨rfl, rfl⟩
  · rw [decide_eq_false (by omega)]
    go_enter Tryz.func56, Tryz.ntmps56
    go_wp2
    go_ret
    exact ⟨rfl, rfl⟩
set_option maxRecDepth 100000 in
theorem plen17 (sa : Option Addr) (n sc : Nat) (da : Option Addr) (m dc : Nat) (xa : Option Addr) (k xc : Nat) (hm : m ≤ 1152921504606846976) (hk : k ≤ 1152921504606846976) (w : World) : Calls Tryz.prog 58 #[ev16 sa n sc da m dc xa k xc] w fun e w' => e = .returned (.int .i64 ((m + k : Nat) : Int)) ∧ Below w.heap.size w w' := by
  have hw : IntKind.i64.wrap ((m : Int) + (k : Int)) = ((m + k : Nat) : Int) := by rw [IntWalk.i64_in _ (by omega)]; omega
  obtain ⟨z, hz⟩ : ∃ z, z = m + k := ⟨_, rfl⟩
  rw [← hz] at hw ⊢
  clear hz
  unfold ev16
  go_enter Tryz.func58, Tryz.ntmps58
  go_wp2
  go_ret
  exact ⟨rfl, below_box16 _ _⟩
end Go.Proofs.YtmfpdchfofffeaaGreatDoor
