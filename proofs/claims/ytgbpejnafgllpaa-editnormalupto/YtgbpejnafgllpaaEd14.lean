
import Derived.Test.YtgbpejnafgllpaaEd13
import Derived.Laws.StructEq
namespace Go.Proofs.Ytgbpejnafgllpaa
open Go.RowKit Go.Shelf
set_option linter.unusedVariables false

/-! The writer's end. -/
def Wt16.fin (s : Wt16) : List St16 := if s.a = 0 ∧ s.c = 0 then s.S else s.S ++ [((s.a : Int), (s.c : Int), 0)]
/-- What the end answers: the edit, its rows apart. -/
def EnQ16 (base bw : Nat) (vS vD vX : Value) (s : Wt16) (w : World) (e : Ending) (w' : World) : Prop :=
  ∃ vS', e = .returned (.agg #[vS', vD, vX]) ∧ w'.ownsRow base 53 3 vS' s.fin.length (flat16 s.fin) ∧ w'.ownsRow base 5 1 vD s.D.length (s.D.map (Value.int .u8)) ∧ w'.ownsRow base 5 1 vX s.X.length (s.X.map (Value.int .u8)) ∧ Kp (Wf16 bw vS vD vX) w w' ∧ (∀ g, vS'.ownBlock = some g → vS.ownBlock = some g ∨ w.heap.size ≤ g)
theorem own_slice16 {w : World} {base n sz : Nat} {e : TypeId} {v : Value} {xs : List Value} (h : w.ownsRow base e sz v n xs) : ∃ p l c, v = .slice p l c := by
  rcases h.2 with h | ⟨g, cap, cur, h1, h2, h3, h4⟩
  · exact ⟨_, _, _, h.1⟩
  · exact ⟨_, _, _, h1⟩
variable {base bw : Nat} {vS vD vX : Value} {s : Wt16} {w : World}
theorem seven_set0 {w : World} {b : Nat} {x0 x1 x2 x3 x4 x5 x6 : Value} {t : TypeId} (h : w.heap[b]? = some (.cells #[x0, x1, x2, x3, x4, x5, x6] t (0, 0))) (u : Value) : (w.setCell ⟨b, 0, none⟩ u).heap[b]? = some (.cells #[u, x1, x2, x3, x4, x5, x6] t (0, 0)) := by
  simp [World.setCell, Array.getElem?_modify, h]
theorem fin_no16 {a c : Nat} {S : List St16} {D X : List Int} {p : Int} (h : ¬ (a = 0 ∧ c = 0)) : Wt16.fin ⟨S, D, X, a, c, p⟩ = S ++ [((a : Int), (c : Int), 0)] := if_neg h
/-- The rows behind the end. -/
theorem end16 {ob g rc : Nat} {wA w' wF : World} (hz : ¬ (s.a = 0 ∧ s.c = 0)) (h : Wr16 base bw vS vD vX s 0 w) (cA : Below w.heap.size w wA) (hA : Wr16 base bw vS vD vX s 0 wA) (hob : ob = w.heap.size) (hoA : ob < wA.heap.size) (o1 : w'.ownsRow base 53 3 (.slice (some ⟨g, 0, none⟩) (s.S.length + 1) rc) (s.S.length + 1) (flat16 s.S ++ [.int .i64 (s.a : Int), .int .i64 (s.c : Int), .int .i64 0])) (K1 : Kp (fun k => vS.ownBlock = some k) wA w') (at1 : vS.ownBlock = some g ∨ wA.heap.size ≤ g) (ks : Kp (fun k => k = bw ∨ k = ob) w' wF) :
    EnQ16 base bw vS vD vX s w (.returned (.agg #[.slice (some ⟨g, 0, none⟩) (s.S.length + 1) rc, vD, vX])) wF := by
  have hlt := h.lt
  have hbl := (hlt bw (.inl rfl)).2
  have hg : g ≠ bw ∧ g ≠ ob := by
    rcases at1 with y | y
    · have := (hlt g (.inr (.inl y))).2
      exact ⟨fun e => h.nS (by rw [y, e]), by omega⟩
    · exact ⟨by have := cA.size; omega, by omega⟩
  have e : s.fin = s.S ++ [((s.a : Int), (s.c : Int), 0)] := if_neg hz
  refine ⟨_, rfl, ?_, own_kp (own_kp hA.oD K1 (fun x e y => h.sd x y e)) ks ?_, own_kp (own_kp hA.oX K1 (fun x e y => h.sx x y e)) ks ?_, ?_, ?_⟩
  · rw [e, flat16_app, List.length_append]
    refine own_kp16 o1 ks ?_
    intro x e2
    have e2 : some g = some x := e2
    injection e2 with e2
    subst e2
    rintro (y | y)
    · exact hg.1 y
    · exact hg.2 y
  · rintro x e2 (y | y)
    · exact h.nD (by rw [e2, y])
    · have := (hlt x (.inr (.inr (.inl e2)))).2; omega
  · rintro x e2 (y | y)
    · exact h.nX (by rw [e2, y])
    · have := (hlt x (.inr (.inr (.inr e2)))).2; omega
  · refine ((Kp.of_below (S := Wf16 bw vS vD vX) cA).trans K1 (fun _ _ y => .inr (.inl y))).trans ks ?_
    rintro k hk (y | y)
    · exact .inl y
    · omega
  · intro x e2
    have e2 : some g = some x := e2
    injection e2 with e2
    subst e2
    rcases at1 with y | y
    · exact .inl y
    · exact .inr (Nat.le_trans cA.size y)
set_option maxRecDepth 100000 in
set_option maxHeartbeats 8000000 in
theorem pend16 (h : Wr16 base bw vS vD vX s 0 w) (ha : s.a ≤ 1099511627776) (hc : s.c ≤ 1099511627776) (hl : s.S.length + 1 ≤ 1099511627776) :
    Calls Try.prog 43 #[.pointer (some ⟨bw, 0, none⟩)] w (EnQ16 base bw vS vD vX s w) := by
  have hbl : bw < w.heap.size := (h.lt bw (.inl rfl)).2
  obtain ⟨wA, hwA⟩ : ∃ wA, wA = w.alloc (.cells #[.slice none 0 0, .slice none 0 0, .slice none 0 0] 25) := ⟨_, rfl⟩
  have cA : Cb16 w #[.slice none 0 0, .slice none 0 0, .slice none 0 0] 25 wA := by rw [hwA]; exact cb16 _ _ _
  have hA := h.kp (Kp.of_below (S := fun _ => False) cA.bl) (fun _ _ x => x)
  obtain ⟨ob, hob⟩ : ∃ ob, ob = w.heap.size := ⟨_, rfl⟩
  have qo : wA.heap[ob]? = some (.cells #[.slice none 0 0, .slice none 0 0, .slice none 0 0] 25 (0, 0)) := by rw [hob]; exact cA.cl
  obtain ⟨pS, lS, cS, eS⟩ := own_slice16 h.oS
  obtain ⟨pD, lD, cD, eD⟩ := own_slice16 h.oD
  obtain ⟨pX, lX, cX, eX⟩ := own_slice16 h.oX
  subst eS; subst eD; subst eX
  obtain ⟨k0, k1, k2, k3, k4, k5, k6⟩ := seven_cells h.hp
  have HWA : Hid (w.alloc (.cells #[.slice none 0 0, .slice none 0 0, .slice none 0 0] 25) = wA) := hwA.symm
  have HOB : Hid (w.heap.size = ob) := hob.symm
  have HH : Hid (Wr16 base bw (.slice pS lS cS) (.slice pD lD cD) (.slice pX lX cX) s 0 w) := h
  have HA : Hid (Wr16 base bw (.slice pS lS cS) (.slice pD lD cD) (.slice pX lX cX) s 0 wA) := hA
  have HQ : Hid (wA.heap[ob]? = some (.cells #[.slice none 0 0, .slice none 0 0, .slice none 0 0] 25 (0, 0))) := qo
  have HC : Hid (Cb16 w #[.slice none 0 0, .slice none 0 0, .slice none 0 0] 25 wA) := cA
  clear h hA qo cA hwA hob
  obtain ⟨S, D, X, a, c, p⟩ := s
  simp only at *
  by_cases hz : a = 0 ∧ c = 0
  · obtain ⟨rfl, rfl⟩ := hz
    go_enter Try.func43, Try.ntmps43
    go_wp2_with fail
    have hn : (w.alloc (.cells #[.slice pS lS cS, .slice pD lD cD, .slice pX lX cX] 25)).heap[w.heap.size]? = some (.cells #[.slice pS lS cS, .slice pD lD cD, .slice pX lX cX] 25 (0, 0)) := heap_alloc_new w _
    refine bodyPost_ret (v := .agg #[.slice pS lS cS, .slice pD lD cD, .slice pX lX cX]) (results_cell_row (fn := Try.f43) (p := 2) (ty := 25) rfl _ _ w.heap.size _ _ _ _ rfl hn Try.underlying25 rfl (by kernel_rfl)) rfl ?_
    have hh := HH.out
    have e : Wt16.fin ⟨S, D, X, 0, 0, p⟩ = S := if_pos ⟨rfl, rfl⟩
    have bA : Below w.heap.size w (w.alloc (.cells #[.slice pS lS cS, .slice pD lD cD, .slice pX lX cX] 25)) := (Below.refl w.heap.size w).alloc (Nat.le_refl _) _
    have kA := Kp.of_below (S := fun _ => False) bA
    refine ⟨_, rfl, ?_, own_kp hh.oD kA (fun _ _ x => x), own_kp hh.oX kA (fun _ _ x => x), Kp.of_below bA, fun g x => .inl x⟩
    rw [e]
    exact own_kp16 hh.oS kA (fun _ _ x => x)
  · go_enter Try.func43, Try.ntmps43
    go_wp2_with fail
    all_goals
      (try rename_i ha0 hc0)
      (try (have ha1 : a = 0 := ha0; clear ha1 ha0))
      rw [HWA.out, HOB.out]
      obtain ⟨g0, g1, g2, g3, g4, g5, g6⟩ := seven_cells HA.out.hp
      have hblA : bw < wA.heap.size := (HA.out.lt bw (.inl rfl)).2
      have hoA : ob < wA.heap.size := (Array.getElem?_eq_some_iff.1 HQ.out).1
      obtain ⟨g, rc, w', hr, o1, k1', at1⟩ := apps16 wA.drew ((a : Int), (c : Int), 0) HA.out.oS hl (Nat.le_of_lt (Nat.lt_of_le_of_lt HA.out.bb hblA))
      have K1 : Kp (fun k => (Value.slice pS lS cS).ownBlock = some k) wA w' := ⟨k1'.os, k1'.tape, k1'.output, k1'.size, k1'.block⟩
      have q' := K1.heap HA.out.hp (fun e => HA.out.nS e)
      have qo' := K1.heap HQ.out (fun e => by have h1 := (HH.out.lt ob (.inr (.inl e))).2; have h2 := HOB.out; omega)
      have HEN : Hid (∀ wF, Kp (fun k => k = bw ∨ k = ob) w' wF → EnQ16 base bw (.slice pS lS cS) (.slice pD lD cD) (.slice pX lX cX) ⟨S, D, X, a, c, p⟩ w (.returned (.agg #[.slice (some ⟨g, 0, none⟩) (S.length + 1) rc, .slice pD lD cD, .slice pX lX cX])) wF) := fun wF ks => end16 hz HH.out HC.out.bl HA.out HOB.out.symm hoA o1 K1 at1 ks
      obtain ⟨wE, hwE⟩ : ∃ wE, wE = w'.setCell ⟨bw, 0, none⟩ (.slice (some ⟨g, 0, none⟩) (S.length + 1) rc) := ⟨_, rfl⟩
      have HKE : Hid (Kp (fun k => k = bw ∨ k = ob) w' wE) := by rw [hwE]; exact Kp.set (S := fun k => k = bw ∨ k = ob) (.inl rfl) _
      have hne : ob ≠ bw := by have h2 := HOB.out; omega
      have qE : wE.heap[bw]? = some (.cells #[.slice (some ⟨g, 0, none⟩) (S.length + 1) rc, .slice pD lD cD, .slice pX lX cX, .int .i64 (a : Int), .int .i64 (c : Int), .int .i64 0, .int .i64 p] 78 (0, 0)) := by rw [hwE]; exact seven_set0 q' _
      have qF : wE.heap[ob]? = some (.cells #[.slice none 0 0, .slice none 0 0, .slice none 0 0] 25 (0, 0)) := by rw [hwE]; exact (heap_setCell_other _ _ _ _ hne).trans qo'
      have HQE : Hid (wE.heap[bw]? = some (.cells #[.slice (some ⟨g, 0, none⟩) (S.length + 1) rc, .slice pD lD cD, .slice pX lX cX, .int .i64 (a : Int), .int .i64 (c : Int), .int .i64 0, .int .i64 p] 78 (0, 0))) := qE
      have HQF : Hid (wE.heap[ob]? = some (.cells #[.slice none 0 0, .slice none 0 0, .slice none 0 0] 25 (0, 0))) := qF
      have HWE : Hid (w'.setCell ⟨bw, 0, none⟩ (.slice (some ⟨g, 0, none⟩) (S.length + 1) rc) = wE) := hwE.symm
      obtain ⟨e0, e1, e2, e3, e4, e5, e6⟩ := seven_cells q'
      have f0 := seven_free (i := 0) q'
      have j0 : ∀ o, (wA.alloc o).drew.cell? ⟨bw, 0, none⟩ = some (.slice pS lS cS) := fun o => (((Below.refl wA.heap.size wA).alloc (Nat.le_refl _) o).cell (p := ⟨bw, 0, none⟩) hblA).trans g0
      have j3 : ∀ o, (wA.alloc o).drew.cell? ⟨bw, 3, none⟩ = some (.int .i64 (a : Int)) := fun o => (((Below.refl wA.heap.size wA).alloc (Nat.le_refl _) o).cell (p := ⟨bw, 3, none⟩) hblA).trans g3
      have j4 : ∀ o, (wA.alloc o).drew.cell? ⟨bw, 4, none⟩ = some (.int .i64 (c : Int)) := fun o => (((Below.refl wA.heap.size wA).alloc (Nat.le_refl _) o).cell (p := ⟨bw, 4, none⟩) hblA).trans g4
      have j5 : ∀ o, (wA.alloc o).drew.cell? ⟨bw, 5, none⟩ = some (.int .i64 0) := fun o => (((Below.refl wA.heap.size wA).alloc (Nat.le_refl _) o).cell (p := ⟨bw, 5, none⟩) hblA).trans g5
      clear hwE qE qF q' qo' K1 k1' o1 at1 k0 k1 k2 k3 k4 k5 k6 HA HH HQ HC
      refine plain_region16 (fun V => V.cell? ⟨bw, 0, none⟩ = some (.slice pS lS cS) ∧ V.cell? ⟨bw, 3, none⟩ = some (.int .i64 (a : Int)) ∧ V.cell? ⟨bw, 4, none⟩ = some (.int .i64 (c : Int)) ∧ V.cell? ⟨bw, 5, none⟩ = some (.int .i64 0)) 15 (by kernel_rfl) ⟨g0, g3, g4, g5⟩ (fun hHeld => ?_)
      refine wpAnyK_take (i := 0) (v := .pointer (some ⟨bw, 0, none⟩)) rfl (by kernel_rfl) (by kernel_rfl) (by kernel_rfl) (by kernel_rfl) (fun _ _ _ h => h) (Or.inl ⟨by rfl, fun w hSw => by go_simp⟩) hHeld ?_
      simp only [List.getElem_toArray, List.getElem_cons_zero, Act.put, List.setIfInBounds_toArray, List.set_cons_zero, List.set_cons_succ]
      refine wpAnyK_take (i := 1) (v := .pointer (some ⟨bw, 0, none⟩)) rfl (by kernel_rfl) (by kernel_rfl) (by kernel_rfl) (by kernel_rfl) (fun _ _ _ h => h) (Or.inl ⟨by rfl, fun w hSw => by go_simp⟩) hHeld ?_
      simp only [List.getElem_toArray, List.getElem_cons_zero, List.getElem_cons_succ, Act.put, List.setIfInBounds_toArray, List.set_cons_zero, List.set_cons_succ]
      refine wpAnyK_take (i := 2) (v := .pointer (some ⟨bw, 0, none⟩)) rfl (by kernel_rfl) (by kernel_rfl) (by kernel_rfl) (by kernel_rfl) (fun _ _ _ h => h) (Or.inl ⟨by rfl, fun w hSw => by go_simp⟩) hHeld ?_
      simp only [List.getElem_toArray, List.getElem_cons_zero, List.getElem_cons_succ, Act.put, List.setIfInBounds_toArray, List.set_cons_zero, List.set_cons_succ]
      refine wpAnyK_take (i := 3) (v := .pointer (some ⟨bw, 0, none⟩)) rfl (by kernel_rfl) (by kernel_rfl) (by kernel_rfl) (by kernel_rfl) (fun _ _ _ h => h) (Or.inl ⟨by rfl, fun w hSw => by go_simp⟩) hHeld ?_
      simp only [List.getElem_toArray, List.getElem_cons_zero, List.getElem_cons_succ, Act.put, List.setIfInBounds_toArray, List.set_cons_zero, List.set_cons_succ]
      refine wpAnyK_take (i := 4) (v := .pointer (some ⟨bw, 0, none⟩)) rfl (by kernel_rfl) (by kernel_rfl) (by kernel_rfl) (by kernel_rfl) (fun _ _ _ h => h) (Or.inl ⟨by rfl, fun w hSw => by go_simp⟩) hHeld ?_
      simp only [List.getElem_toArray, List.getElem_cons_zero, List.getElem_cons_succ, Act.put, List.setIfInBounds_toArray, List.set_cons_zero, List.set_cons_succ]
      refine wpAnyK_take (i := 5) (v := .slice pS lS cS) rfl (by kernel_rfl) (by kernel_rfl) (by kernel_rfl) (by kernel_rfl) (fun _ _ _ h => h) (Or.inl ⟨by rfl, fun w hSw => by go_simp⟩) hHeld ?_
      simp only [List.getElem_toArray, List.getElem_cons_zero, List.getElem_cons_succ, Act.put, List.setIfInBounds_toArray, List.set_cons_zero, List.set_cons_succ]
      refine wpAnyK_take (i := 6) (v := .pointer (some ⟨bw, 0, none⟩)) rfl (by kernel_rfl) (by kernel_rfl) (by kernel_rfl) (by kernel_rfl) (fun _ _ _ h => h) (Or.inl ⟨by rfl, fun w hSw => by go_simp⟩) hHeld ?_
      simp only [List.getElem_toArray, List.getElem_cons_zero, List.getElem_cons_succ, Act.put, List.setIfInBounds_toArray, List.set_cons_zero, List.set_cons_succ]
      refine wpAnyK_take (i := 7) (v := .pointer (some ⟨bw, 0, none⟩)) rfl (by kernel_rfl) (by kernel_rfl) (by kernel_rfl) (by kernel_rfl) (fun _ _ _ h => h) (Or.inl ⟨by rfl, fun w hSw => by go_simp⟩) hHeld ?_
      simp only [List.getElem_toArray, List.getElem_cons_zero, List.getElem_cons_succ, Act.put, List.setIfInBounds_toArray, List.set_cons_zero, List.set_cons_succ]
      refine wpAnyK_take (i := 8) (v := .pointer (some ⟨bw, 3, none⟩)) rfl (by kernel_rfl) (by kernel_rfl) (by kernel_rfl) (by kernel_rfl) (fun _ _ _ h => h) (Or.inl ⟨by rfl, fun w hSw => by go_simp⟩) hHeld ?_
      simp only [List.getElem_toArray, List.getElem_cons_zero, List.getElem_cons_succ, Act.put, List.setIfInBounds_toArray, List.set_cons_zero, List.set_cons_succ]
      refine wpAnyK_take (i := 9) (v := .agg #[.int .i64 (a : Int), .int .i64 (c : Int), .int .i64 0]) rfl (by kernel_rfl) (by kernel_rfl) (by kernel_rfl) (by kernel_rfl) (fun _ _ _ h => h) (Or.inl ⟨by rfl, fun w hSw => by go_simp⟩) hHeld ?_
      simp only [List.getElem_toArray, List.getElem_cons_zero, List.getElem_cons_succ, Act.put, List.setIfInBounds_toArray, List.set_cons_zero, List.set_cons_succ]
      refine wpAnyK_one (i := 10) (by kernel_rfl) rfl (fun K hK => ?_)
      (try simp only [List.getElem_toArray, List.getElem_cons_zero, List.getElem_cons_succ, Act.put, List.setIfInBounds_toArray, List.set_cons_zero, List.set_cons_succ])
      go_simp
      refine hK.out _ _ (fun _ => ⟨j0 _, j3 _, j4 _, j5 _⟩) (fun hHeld0 => ?_)
      have hHeld := hHeld0 (by decide)
      clear hHeld0 hK K
      (try simp only [List.getElem_toArray, List.getElem_cons_zero, List.getElem_cons_succ, Act.put, List.setIfInBounds_toArray, List.set_cons_zero, List.set_cons_succ])
      refine wpAnyK_one (i := 11) (by kernel_rfl) rfl (fun K hK => ?_)
      simp only [List.getElem_toArray, List.getElem_cons_zero, List.getElem_cons_succ]
      rw [if_pos (by rfl)]
      refine operwp_app16 _ _ _ rfl rfl rfl hr ?_
      clear j0 j3 j4 j5 g0 g1 g2 g3 g4 g5 g6
      refine hK.out _ _ (fun _ => ⟨e0, e3, e4, e5⟩) (fun hHeld0 => ?_)
      have hHeld := hHeld0 (by decide)
      clear hHeld0 hK K
      simp only [Act.put, List.setIfInBounds_toArray, List.set_cons_zero, List.set_cons_succ]
      refine wpAnyK_one (i := 12) (by kernel_rfl) rfl (fun K hK => ?_)
      (try simp only [List.getElem_toArray, List.getElem_cons_zero, List.getElem_cons_succ, Act.put, List.setIfInBounds_toArray, List.set_cons_zero, List.set_cons_succ])
      go_simp
      refine hK.out _ _ (fun _ => ⟨e0, e3, e4, e5⟩) (fun hHeld0 => ?_)
      have hHeld := hHeld0 (by decide)
      clear hHeld0 hK K
      (try simp only [List.getElem_toArray, List.getElem_cons_zero, List.getElem_cons_succ, Act.put, List.setIfInBounds_toArray, List.set_cons_zero, List.set_cons_succ])
      refine wpAnyK_one (i := 13) (by kernel_rfl) rfl (fun K hK => ?_)
      (try simp only [List.getElem_toArray, List.getElem_cons_zero, List.getElem_cons_succ, Act.put, List.setIfInBounds_toArray, List.set_cons_zero, List.set_cons_succ])
      go_simp
      refine hK.out _ _ (fun _ => ⟨e0, e3, e4, e5⟩) (fun hHeld0 => ?_)
      have hHeld := hHeld0 (by decide)
      clear hHeld0 hK K
      (try simp only [List.getElem_toArray, List.getElem_cons_zero, List.getElem_cons_succ, Act.put, List.setIfInBounds_toArray, List.set_cons_zero, List.set_cons_succ])
      refine wpAnyK_one (i := 14) (by kernel_rfl) rfl (fun K hK => ?_)
      (try simp only [List.getElem_toArray, List.getElem_cons_zero, List.getElem_cons_succ, Act.put, List.setIfInBounds_toArray, List.set_cons_zero, List.set_cons_succ])
      go_simp
      refine hK.out _ _ (fun _ => ⟨e0, e3, e4, e5⟩) (fun hHeld0 => ?_)
      have hHeld := hHeld0 (by decide)
      clear hHeld0 hK K
      (try simp only [List.getElem_toArray, List.getElem_cons_zero, List.getElem_cons_succ, Act.put, List.setIfInBounds_toArray, List.set_cons_zero, List.set_cons_succ])
      refine wpAnyK_one (i := 15) (by kernel_rfl) rfl (fun K hK => ?_)
      simp only [List.getElem_toArray, List.getElem_cons_zero, List.getElem_cons_succ, Act.put]
      go_simp
      refine hK.out _ _ (fun h => absurd rfl h) (fun _ => ?_)
      clear hK K
      refine wpAnyK_done (by kernel_rfl) ?_ _
      rw [HWE.out]
      clear e0 e1 e2 e3 e4 e5 e6 f0
      obtain ⟨m0, m1, m2, m3, m4, m5, m6⟩ := seven_cells HQE.out
      have n0 := three_cell0 HQF.out
      have n1 := three_cell1 HQF.out
      have n2 := three_cell2 HQF.out
      have f0 : wE.frozen? ⟨ob, 0, none⟩ = false := by simp [World.frozen?, HQF.out]
      have f1 : wE.frozen? ⟨ob, 1, none⟩ = false := by simp [World.frozen?, HQF.out]
      have f2 : wE.frozen? ⟨ob, 2, none⟩ = false := by simp [World.frozen?, HQF.out]
      go_wp2_with fail
      refine bodyPost_ret (v := .agg #[.slice (some ⟨g, 0, none⟩) (S.length + 1) rc, .slice pD lD cD, .slice pX lX cX]) (results_cell_row (fn := Try.f43) (p := 2) (ty := 25) rfl _ _ ob _ _ _ _ rfl (three_set2 (three_set1 (three_set0 HQF.out _) _) _) Try.underlying25 rfl (by kernel_rfl)) rfl ?_
      refine HEN.out _ ?_
      exact ((HKE.out.trans (Kp.set (S := fun k => k = bw ∨ k = ob) (.inr rfl) _) (fun _ _ x => x)).trans (Kp.set (S := fun k => k = bw ∨ k = ob) (.inr rfl) _) (fun _ _ x => x)).trans (Kp.set (S := fun k => k = bw ∨ k = ob) (.inr rfl) _) (fun _ _ x => x)
end Go.Proofs.Ytgbpejnafgllpaa
