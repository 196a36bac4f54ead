import Derived.Test.YtmfpdchfofffeaaGreatDoorMkE
namespace Go.Proofs.YtmfpdchfofffeaaGreatDoor
open Go.RowKit Go.Shelf
set_option linter.unusedVariables false
set_option linter.unusedSimpArgs false
theorem ed20 (w : World) (ga gx : Nat) : Ed16 w none 0 [] (some ⟨ga, 0, none⟩) 0 [] (some ⟨gx, 0, none⟩) 0 [] :=
  ⟨SegS.nil w none, SegK.nil (by decide) w _, SegK.nil (by decide) w _, rfl, rfl, rfl, by decide, by decide, by decide⟩
theorem pcut20 (ga gx : Nat) (w : World) : Calls Tryz.prog 36 #[.agg #[.slice none 0 0, .slice (some ⟨ga, 0, none⟩) 0 0, .slice (some ⟨gx, 0, none⟩) 0 0], .int .i64 64] w fun e w' => ∃ wa wc, e = .returned (.tuple #[.slice wa 0 wc, .int .i64 0]) ∧ Below w.heap.size w w' := by
  have h := pcut17 (sc := 0) (dc := 0) (xc := 0) 64 w (ed20 w ga gx) (by decide) (by decide) (by decide) (by decide)
  refine Calls.mono (show Calls Tryz.prog 36 #[.agg #[.slice none 0 0, .slice (some ⟨ga, 0, none⟩) 0 0, .slice (some ⟨gx, 0, none⟩) 0 0], .int .i64 64] w _ from h) ?_
  rintro e w' ⟨vO, l, rfl, hl, hw, hb⟩
  have h0 : l = [] := by
    have h1 : cw17 64 (ws17 (pi17 [] [] [] 0 0)) = [] := by decide
    rw [h1] at hl
    exact List.map_eq_nil_iff.1 hl
  subst h0
  obtain ⟨p, c, rfl⟩ := own_sl17 hw.own
  exact ⟨p, c, rfl, hb⟩
set_option maxRecDepth 100000 in
set_option maxHeartbeats 8000000 in
theorem pctt20 (b ga gx : Nat) (w : World) (h : Ma20 w b (mk20 (.int .i64 64) (.int .i64 100) (.int .i64 10) (.bool false) (.int .i64 100) (.slice none 0 0) (.slice none 0 0) (.slice none 0 0) (.slice (some ⟨ga, 0, none⟩) 0 0) (.slice (some ⟨gx, 0, none⟩) 0 0) (.int .i64 0) (.int .i64 0) (.int .u32 0) (.int .u32 0) (.int .i64 0) (.int .i64 0) (.slice none 0 0) (.slice none 0 0))) :
    Calls Tryz.prog 17 #[.pointer (some ⟨b, 0, none⟩)] w fun e w' => e = .returned (.tuple #[]) ∧ (∃ wa wc, Ma20 w' b (mk20 (.int .i64 64) (.int .i64 100) (.int .i64 10) (.bool false) (.int .i64 100) (.slice none 0 0) (.slice none 0 0) (.slice none 0 0) (.slice (some ⟨ga, 0, none⟩) 0 0) (.slice (some ⟨gx, 0, none⟩) 0 0) (.int .i64 0) (.int .i64 0) (.int .u32 0) (.int .u32 0) (.int .i64 64) (.int .i64 100) (.slice wa 0 wc) (.slice none 0 0))) ∧ Kp (fun k => k = b) w w' := by
  obtain ⟨u, hu⟩ : ∃ u, u = w.drew := ⟨_, rfl⟩
  have HU : Hid (w.drew = u) := hu.symm
  have ku : Kp (fun k => k = b) w u := by rw [hu]; exact (Kp.refl _ _).drew
  have HH : Hid (Ma20 u b (mk20 (.int .i64 64) (.int .i64 100) (.int .i64 10) (.bool false) (.int .i64 100) (.slice none 0 0) (.slice none 0 0) (.slice none 0 0) (.slice (some ⟨ga, 0, none⟩) 0 0) (.slice (some ⟨gx, 0, none⟩) 0 0) (.int .i64 0) (.int .i64 0) (.int .u32 0) (.int .u32 0) (.int .i64 0) (.int .i64 0) (.slice none 0 0) (.slice none 0 0))) := by show Ma20 _ _ _; rw [hu]; exact h
  have h1 : Ma20 (u.setCell ⟨b, 18, none⟩ (.int .i64 64)) b (mk20 (.int .i64 64) (.int .i64 100) (.int .i64 10) (.bool false) (.int .i64 100) (.slice none 0 0) (.slice none 0 0) (.slice none 0 0) (.slice (some ⟨ga, 0, none⟩) 0 0) (.slice (some ⟨gx, 0, none⟩) 0 0) (.int .i64 0) (.int .i64 0) (.int .u32 0) (.int .u32 0) (.int .i64 64) (.int .i64 0) (.slice none 0 0) (.slice none 0 0)) := HH.out.set (i := 18) (.int .i64 64)
  have h2 : Ma20 ((u.setCell ⟨b, 18, none⟩ (.int .i64 64)).setCell ⟨b, 19, none⟩ (.int .i64 100)) b (mk20 (.int .i64 64) (.int .i64 100) (.int .i64 10) (.bool false) (.int .i64 100) (.slice none 0 0) (.slice none 0 0) (.slice none 0 0) (.slice (some ⟨ga, 0, none⟩) 0 0) (.slice (some ⟨gx, 0, none⟩) 0 0) (.int .i64 0) (.int .i64 0) (.int .u32 0) (.int .u32 0) (.int .i64 64) (.int .i64 100) (.slice none 0 0) (.slice none 0 0)) := h1.set (i := 19) (.int .i64 100)
  have k2 : Kp (fun k => k = b) w ((u.setCell ⟨b, 18, none⟩ (.int .i64 64)).setCell ⟨b, 19, none⟩ (.int .i64 100)) := (ku.trans (Kp.set (S := fun k => k = b) rfl _) (fun _ _ x => x)).trans (Kp.set (S := fun k => k = b) rfl _) (fun _ _ x => x)
  obtain ⟨w1, hw1⟩ : ∃ w1, w1 = u.setCell ⟨b, 18, none⟩ (.int .i64 64) := ⟨_, rfl⟩
  rw [← hw1] at h1 h2 k2
  obtain ⟨w2, hw2⟩ : ∃ w2, w2 = w1.setCell ⟨b, 19, none⟩ (.int .i64 100) := ⟨_, rfl⟩
  rw [← hw2] at h2 k2
  have HW : Hid (u.setCell ⟨b, 18, none⟩ (.int .i64 64) = w1 ∧ w1.setCell ⟨b, 19, none⟩ (.int .i64 100) = w2) := ⟨hw1.symm, hw2.symm⟩
  have H1 := Hid.mk20 h1
  have H2 : Hid (Ma20 w2 b (mk20 (.int .i64 64) (.int .i64 100) (.int .i64 10) (.bool false) (.int .i64 100) (.slice none 0 0) (.slice none 0 0) (.slice none 0 0) (.slice (some ⟨ga, 0, none⟩) 0 0) (.slice (some ⟨gx, 0, none⟩) 0 0) (.int .i64 0) (.int .i64 0) (.int .u32 0) (.int .u32 0) (.int .i64 64) (.int .i64 100) (.slice none 0 0) (.slice none 0 0)) ∧ Kp (fun k => k = b) w w2) := ⟨h2, k2⟩
  clear h h1 h2 k2 hw1 hw2 ku hu
  go_enter Tryz.func17, Tryz.ntmps17
  go_wp2_with fail
  refine plain_region16 (fun V => V.cell? ⟨b, 0, none⟩ = some (.int .i64 64) ∧ V.cell? ⟨b, 1, none⟩ = some (.int .i64 100)) 24 (by kernel_rfl) (by rw [HU.out]; exact ⟨HH.out.c rfl, HH.out.c rfl⟩) (fun hHeld => ?_)
  rw [HU.out] at hHeld ⊢
  refine wpAnyK_take (i := 0) (v := .pointer (some ⟨b, 0, none⟩)) rfl (by kernel_rfl) (by kernel_rfl) (by kernel_rfl) (by kernel_rfl) (fun _ _ _ h => h) (Or.inl ⟨by rfl, fun w hSw => by go_simp⟩) hHeld ?_
  simp only [List.getElem_toArray, List.getElem_cons_zero, Act.put, List.setIfInBounds_toArray, List.set_cons_zero, List.set_cons_succ]
  refine wpAnyK_take (i := 1) (v := .pointer (some ⟨b, 0, none⟩)) rfl (by kernel_rfl) (by kernel_rfl) (by kernel_rfl) (by kernel_rfl) (fun _ _ _ h => h) (Or.inl ⟨by rfl, fun w hSw => by go_simp⟩) hHeld ?_
  simp only [List.getElem_toArray, List.getElem_cons_zero, List.getElem_cons_succ, Act.put, List.setIfInBounds_toArray, List.set_cons_zero, List.set_cons_succ]
  refine wpAnyK_take (i := 2) (v := .pointer (some ⟨b, 0, none⟩)) rfl (by kernel_rfl) (by kernel_rfl) (by kernel_rfl) (by kernel_rfl) (fun _ _ _ h => h) (Or.inl ⟨by rfl, fun w hSw => by go_simp⟩) hHeld ?_
  simp only [List.getElem_toArray, List.getElem_cons_zero, List.getElem_cons_succ, Act.put, List.setIfInBounds_toArray, List.set_cons_zero, List.set_cons_succ]
  refine wpAnyK_take (i := 3) (v := .pointer (some ⟨b, 0, none⟩)) rfl (by kernel_rfl) (by kernel_rfl) (by kernel_rfl) (by kernel_rfl) (fun _ _ _ h => h) (Or.inl ⟨by rfl, fun w hSw => by go_simp⟩) hHeld ?_
  simp only [List.getElem_toArray, List.getElem_cons_zero, List.getElem_cons_succ, Act.put, List.setIfInBounds_toArray, List.set_cons_zero, List.set_cons_succ]
  refine wpAnyK_take (i := 4) (v := .pointer (some ⟨b, 0, none⟩)) rfl (by kernel_rfl) (by kernel_rfl) (by kernel_rfl) (by kernel_rfl) (fun _ _ _ h => h) (Or.inl ⟨by rfl, fun w hSw => by go_simp⟩) hHeld ?_
  simp only [List.getElem_toArray, List.getElem_cons_zero, List.getElem_cons_succ, Act.put, List.setIfInBounds_toArray, List.set_cons_zero, List.set_cons_succ]
  refine wpAnyK_take (i := 5) (v := .pointer (some ⟨b, 0, none⟩)) rfl (by kernel_rfl) (by kernel_rfl) (by kernel_rfl) (by kernel_rfl) (fun _ _ _ h => h) (Or.inl ⟨by rfl, fun w hSw => by go_simp⟩) hHeld ?_
  simp only [List.getElem_toArray, List.getElem_cons_zero, List.getElem_cons_succ, Act.put, List.setIfInBounds_toArray, List.set_cons_zero, List.set_cons_succ]
  refine wpAnyK_take (i := 6) (v := .int .i64 64) rfl (by kernel_rfl) (by kernel_rfl) (by kernel_rfl) (by kernel_rfl) (fun _ _ _ h => h) (Or.inl ⟨by rfl, fun w hSw => by go_simp⟩) hHeld ?_
  simp only [List.getElem_toArray, List.getElem_cons_zero, List.getElem_cons_succ, Act.put, List.setIfInBounds_toArray, List.set_cons_zero, List.set_cons_succ]
  refine wpAnyK_take (i := 7) (v := .pointer (some ⟨b, 0, none⟩)) rfl (by kernel_rfl) (by kernel_rfl) (by kernel_rfl) (by kernel_rfl) (fun _ _ _ h => h) (Or.inl ⟨by rfl, fun w hSw => by go_simp⟩) hHeld ?_
  simp only [List.getElem_toArray, List.getElem_cons_zero, List.getElem_cons_succ, Act.put, List.setIfInBounds_toArray, List.set_cons_zero, List.set_cons_succ]
  refine wpAnyK_take (i := 8) (v := .pointer (some ⟨b, 0, none⟩)) rfl (by kernel_rfl) (by kernel_rfl) (by kernel_rfl) (by kernel_rfl) (fun _ _ _ h => h) (Or.inl ⟨by rfl, fun w hSw => by go_simp⟩) hHeld ?_
  simp only [List.getElem_toArray, List.getElem_cons_zero, List.getElem_cons_succ, Act.put, List.setIfInBounds_toArray, List.set_cons_zero, List.set_cons_succ]
  refine wpAnyK_take (i := 9) (v := .pointer (some ⟨b, 0, none⟩)) rfl (by kernel_rfl) (by kernel_rfl) (by kernel_rfl) (by kernel_rfl) (fun _ _ _ h => h) (Or.inl ⟨by rfl, fun w hSw => by go_simp⟩) hHeld ?_
  simp only [List.getElem_toArray, List.getElem_cons_zero, List.getElem_cons_succ, Act.put, List.setIfInBounds_toArray, List.set_cons_zero, List.set_cons_succ]
  refine wpAnyK_take (i := 10) (v := .pointer (some ⟨b, 1, none⟩)) rfl (by kernel_rfl) (by kernel_rfl) (by kernel_rfl) (by kernel_rfl) (fun _ _ _ h => h) (Or.inl ⟨by rfl, fun w hSw => by go_simp⟩) hHeld ?_
  simp only [List.getElem_toArray, List.getElem_cons_zero, List.getElem_cons_succ, Act.put, List.setIfInBounds_toArray, List.set_cons_zero, List.set_cons_succ]
  refine wpAnyK_take (i := 11) (v := .pointer (some ⟨b, 1, none⟩)) rfl (by kernel_rfl) (by kernel_rfl) (by kernel_rfl) (by kernel_rfl) (fun _ _ _ h => h) (Or.inl ⟨by rfl, fun w hSw => by go_simp⟩) hHeld ?_
  simp only [List.getElem_toArray, List.getElem_cons_zero, List.getElem_cons_succ, Act.put, List.setIfInBounds_toArray, List.set_cons_zero, List.set_cons_succ]
  refine wpAnyK_take (i := 12) (v := .pointer (some ⟨b, 1, none⟩)) rfl (by kernel_rfl) (by kernel_rfl) (by kernel_rfl) (by kernel_rfl) (fun _ _ _ h => h) (Or.inl ⟨by rfl, fun w hSw => by go_simp⟩) hHeld ?_
  simp only [List.getElem_toArray, List.getElem_cons_zero, List.getElem_cons_succ, Act.put, List.setIfInBounds_toArray, List.set_cons_zero, List.set_cons_succ]
  refine wpAnyK_take (i := 13) (v := .int .i64 100) rfl (by kernel_rfl) (by kernel_rfl) (by kernel_rfl) (by kernel_rfl) (fun _ _ _ h => h) (Or.inl ⟨by rfl, fun w hSw => by go_simp⟩) hHeld ?_
  simp only [List.getElem_toArray, List.getElem_cons_zero, List.getElem_cons_succ, Act.put, List.setIfInBounds_toArray, List.set_cons_zero, List.set_cons_succ]
  refine wpAnyK_take (i := 14) (v := .pointer (some ⟨b, 0, none⟩)) rfl (by kernel_rfl) (by kernel_rfl) (by kernel_rfl) (by kernel_rfl) (fun _ _ _ h => h) (Or.inl ⟨by rfl, fun w hSw => by go_simp⟩) hHeld ?_
  simp only [List.getElem_toArray, List.getElem_cons_zero, List.getElem_cons_succ, Act.put, List.setIfInBounds_toArray, List.set_cons_zero, List.set_cons_succ]
  refine wpAnyK_take (i := 15) (v := .pointer (some ⟨b, 14, none⟩)) rfl (by kernel_rfl) (by kernel_rfl) (by kernel_rfl) (by kernel_rfl) (fun _ _ _ h => h) (Or.inl ⟨by rfl, fun w hSw => by go_simp⟩) hHeld ?_
  simp only [List.getElem_toArray, List.getElem_cons_zero, List.getElem_cons_succ, Act.put, List.setIfInBounds_toArray, List.set_cons_zero, List.set_cons_succ]
  refine wpAnyK_take (i := 16) (v := .pointer (some ⟨b, 14, none⟩)) rfl (by kernel_rfl) (by kernel_rfl) (by kernel_rfl) (by kernel_rfl) (fun _ _ _ h => h) (Or.inl ⟨by rfl, fun w hSw => by go_simp⟩) hHeld ?_
  simp only [List.getElem_toArray, List.getElem_cons_zero, List.getElem_cons_succ, Act.put, List.setIfInBounds_toArray, List.set_cons_zero, List.set_cons_succ]
  refine wpAnyK_take (i := 17) (v := .pointer (some ⟨b, 18, none⟩)) rfl (by kernel_rfl) (by kernel_rfl) (by kernel_rfl) (by kernel_rfl) (fun _ _ _ h => h) (Or.inl ⟨by rfl, fun w hSw => by go_simp⟩) hHeld ?_
  simp only [List.getElem_toArray, List.getElem_cons_zero, List.getElem_cons_succ, Act.put, List.setIfInBounds_toArray, List.set_cons_zero, List.set_cons_succ]
  have d18 := HH.out.c (i := 18) rfl
  have f18 := HH.out.f (i := 18)
  refine wpAnyK_one (i := 18) (by kernel_rfl) rfl (fun K hK => ?_)
  simp only [List.getElem_toArray, List.getElem_cons_zero, List.getElem_cons_succ, Act.put]
  go_simp
  rw [HW.out.1]
  clear d18 f18
  refine hK.out _ _ (fun _ => ⟨H1.out.c rfl, H1.out.c rfl⟩) (fun hHeld0 => ?_)
  have hHeld := hHeld0 (by decide)
  clear hHeld0 hK K
  (try simp only [List.getElem_toArray, List.getElem_cons_zero, List.getElem_cons_succ, Act.put, List.setIfInBounds_toArray, List.set_cons_zero, List.set_cons_succ])
  refine wpAnyK_take (i := 19) (v := .pointer (some ⟨b, 0, none⟩)) rfl (by kernel_rfl) (by kernel_rfl) (by kernel_rfl) (by kernel_rfl) (fun _ _ _ h => h) (Or.inl ⟨by rfl, fun w hSw => by go_simp⟩) hHeld ?_
  simp only [List.getElem_toArray, List.getElem_cons_zero, List.getElem_cons_succ, Act.put, List.setIfInBounds_toArray, List.set_cons_zero, List.set_cons_succ]
  refine wpAnyK_take (i := 20) (v := .pointer (some ⟨b, 14, none⟩)) rfl (by kernel_rfl) (by kernel_rfl) (by kernel_rfl) (by kernel_rfl) (fun _ _ _ h => h) (Or.inl ⟨by rfl, fun w hSw => by go_simp⟩) hHeld ?_
  simp only [List.getElem_toArray, List.getElem_cons_zero, List.getElem_cons_succ, Act.put, List.setIfInBounds_toArray, List.set_cons_zero, List.set_cons_succ]
  refine wpAnyK_take (i := 21) (v := .pointer (some ⟨b, 14, none⟩)) rfl (by kernel_rfl) (by kernel_rfl) (by kernel_rfl) (by kernel_rfl) (fun _ _ _ h => h) (Or.inl ⟨by rfl, fun w hSw => by go_simp⟩) hHeld ?_
  simp only [List.getElem_toArray, List.getElem_cons_zero, List.getElem_cons_succ, Act.put, List.setIfInBounds_toArray, List.set_cons_zero, List.set_cons_succ]
  refine wpAnyK_take (i := 22) (v := .pointer (some ⟨b, 19, none⟩)) rfl (by kernel_rfl) (by kernel_rfl) (by kernel_rfl) (by kernel_rfl) (fun _ _ _ h => h) (Or.inl ⟨by rfl, fun w hSw => by go_simp⟩) hHeld ?_
  simp only [List.getElem_toArray, List.getElem_cons_zero, List.getElem_cons_succ, Act.put, List.setIfInBounds_toArray, List.set_cons_zero, List.set_cons_succ]
  have d19 := H1.out.c (i := 19) rfl
  have f19 := H1.out.f (i := 19)
  refine wpAnyK_one (i := 23) (by kernel_rfl) rfl (fun K hK => ?_)
  simp only [List.getElem_toArray, List.getElem_cons_zero, List.getElem_cons_succ, Act.put]
  go_simp
  rw [HW.out.2]
  clear d19 f19
  refine hK.out _ _ (fun _ => ⟨H2.out.1.c rfl, H2.out.1.c rfl⟩) (fun _ => ?_)
  clear hK K
  (try simp only [List.getElem_toArray, List.getElem_cons_zero, List.getElem_cons_succ, Act.put, List.setIfInBounds_toArray, List.set_cons_zero, List.set_cons_succ])
  refine wpAnyK_done (by kernel_rfl) ?_ _
  go_wp2_with fail
  have H3 : Hid (Ma20 w2.drew b (mk20 (.int .i64 64) (.int .i64 100) (.int .i64 10) (.bool false) (.int .i64 100) (.slice none 0 0) (.slice none 0 0) (.slice none 0 0) (.slice (some ⟨ga, 0, none⟩) 0 0) (.slice (some ⟨gx, 0, none⟩) 0 0) (.int .i64 0) (.int .i64 0) (.int .u32 0) (.int .u32 0) (.int .i64 64) (.int .i64 100) (.slice none 0 0) (.slice none 0 0)) ∧ Kp (fun k => k = b) w w2.drew) := ⟨H2.out.1, H2.out.2.drew⟩
  have HS : Hid (∀ V wn, Ma20 V b (mk20 (.int .i64 64) (.int .i64 100) (.int .i64 10) (.bool false) (.int .i64 100) (.slice none 0 0) (.slice none 0 0) (.slice none 0 0) (.slice (some ⟨ga, 0, none⟩) 0 0) (.slice (some ⟨gx, 0, none⟩) 0 0) (.int .i64 0) (.int .i64 0) (.int .u32 0) (.int .u32 0) (.int .i64 64) (.int .i64 100) wn (.slice none 0 0)) → V.cell? ⟨b, 0, none⟩ = some (.int .i64 64) ∧ V.cell? ⟨b, 11, none⟩ = some (.slice none 0 0) ∧ V.cell? ⟨b, 12, none⟩ = some (.slice (some ⟨ga, 0, none⟩) 0 0) ∧ V.cell? ⟨b, 13, none⟩ = some (.slice (some ⟨gx, 0, none⟩) 0 0)) := fun V wn hV => ⟨hV.c rfl, hV.c rfl, hV.c rfl, hV.c rfl⟩
  refine plain_region16 (fun V => V.cell? ⟨b, 0, none⟩ = some (.int .i64 64) ∧ V.cell? ⟨b, 11, none⟩ = some (.slice none 0 0) ∧ V.cell? ⟨b, 12, none⟩ = some (.slice (some ⟨ga, 0, none⟩) 0 0) ∧ V.cell? ⟨b, 13, none⟩ = some (.slice (some ⟨gx, 0, none⟩) 0 0)) 18 (by kernel_rfl) (HS.out _ _ H3.out.1) (fun hHeld => ?_)
  refine wpAnyK_take (i := 0) (v := .pointer (some ⟨b, 0, none⟩)) rfl (by kernel_rfl) (by kernel_rfl) (by kernel_rfl) (by kernel_rfl) (fun _ _ _ h => h) (Or.inl ⟨by rfl, fun w hSw => by go_simp⟩) hHeld ?_
  simp only [List.getElem_toArray, List.getElem_cons_zero, Act.put, List.setIfInBounds_toArray, List.set_cons_zero, List.set_cons_succ]
  refine wpAnyK_take (i := 1) (v := .pointer (some ⟨b, 0, none⟩)) rfl (by kernel_rfl) (by kernel_rfl) (by kernel_rfl) (by kernel_rfl) (fun _ _ _ h => h) (Or.inl ⟨by rfl, fun w hSw => by go_simp⟩) hHeld ?_
  simp only [List.getElem_toArray, List.getElem_cons_zero, List.getElem_cons_succ, Act.put, List.setIfInBounds_toArray, List.set_cons_zero, List.set_cons_succ]
  refine wpAnyK_take (i := 2) (v := .pointer (some ⟨b, 0, none⟩)) rfl (by kernel_rfl) (by kernel_rfl) (by kernel_rfl) (by kernel_rfl) (fun _ _ _ h => h) (Or.inl ⟨by rfl, fun w hSw => by go_simp⟩) hHeld ?_
  simp only [List.getElem_toArray, List.getElem_cons_zero, List.getElem_cons_succ, Act.put, List.setIfInBounds_toArray, List.set_cons_zero, List.set_cons_succ]
  refine wpAnyK_take (i := 3) (v := .pointer (some ⟨b, 11, none⟩)) rfl (by kernel_rfl) (by kernel_rfl) (by kernel_rfl) (by kernel_rfl) (fun _ _ _ h => h) (Or.inl ⟨by rfl, fun w hSw => by go_simp⟩) hHeld ?_
  simp only [List.getElem_toArray, List.getElem_cons_zero, List.getElem_cons_succ, Act.put, List.setIfInBounds_toArray, List.set_cons_zero, List.set_cons_succ]
  refine wpAnyK_take (i := 4) (v := .agg #[.slice none 0 0, .slice (some ⟨ga, 0, none⟩) 0 0, .slice (some ⟨gx, 0, none⟩) 0 0]) rfl (by kernel_rfl) (by kernel_rfl) (by kernel_rfl) (by kernel_rfl) (fun _ _ _ h => h) (Or.inl ⟨by rfl, fun w hSw => by go_simp⟩) hHeld ?_
  simp only [List.getElem_toArray, List.getElem_cons_zero, List.getElem_cons_succ, Act.put, List.setIfInBounds_toArray, List.set_cons_zero, List.set_cons_succ]
  refine wpAnyK_take (i := 5) (v := .pointer (some ⟨b, 0, none⟩)) rfl (by kernel_rfl) (by kernel_rfl) (by kernel_rfl) (by kernel_rfl) (fun _ _ _ h => h) (Or.inl ⟨by rfl, fun w hSw => by go_simp⟩) hHeld ?_
  simp only [List.getElem_toArray, List.getElem_cons_zero, List.getElem_cons_succ, Act.put, List.setIfInBounds_toArray, List.set_cons_zero, List.set_cons_succ]
  refine wpAnyK_take (i := 6) (v := .pointer (some ⟨b, 0, none⟩)) rfl (by kernel_rfl) (by kernel_rfl) (by kernel_rfl) (by kernel_rfl) (fun _ _ _ h => h) (Or.inl ⟨by rfl, fun w hSw => by go_simp⟩) hHeld ?_
  simp only [List.getElem_toArray, List.getElem_cons_zero, List.getElem_cons_succ, Act.put, List.setIfInBounds_toArray, List.set_cons_zero, List.set_cons_succ]
  refine wpAnyK_take (i := 7) (v := .pointer (some ⟨b, 0, none⟩)) rfl (by kernel_rfl) (by kernel_rfl) (by kernel_rfl) (by kernel_rfl) (fun _ _ _ h => h) (Or.inl ⟨by rfl, fun w hSw => by go_simp⟩) hHeld ?_
  simp only [List.getElem_toArray, List.getElem_cons_zero, List.getElem_cons_succ, Act.put, List.setIfInBounds_toArray, List.set_cons_zero, List.set_cons_succ]
  refine wpAnyK_take (i := 8) (v := .pointer (some ⟨b, 0, none⟩)) rfl (by kernel_rfl) (by kernel_rfl) (by kernel_rfl) (by kernel_rfl) (fun _ _ _ h => h) (Or.inl ⟨by rfl, fun w hSw => by go_simp⟩) hHeld ?_
  simp only [List.getElem_toArray, List.getElem_cons_zero, List.getElem_cons_succ, Act.put, List.setIfInBounds_toArray, List.set_cons_zero, List.set_cons_succ]
  refine wpAnyK_take (i := 9) (v := .int .i64 64) rfl (by kernel_rfl) (by kernel_rfl) (by kernel_rfl) (by kernel_rfl) (fun _ _ _ h => h) (Or.inl ⟨by rfl, fun w hSw => by go_simp⟩) hHeld ?_
  simp only [List.getElem_toArray, List.getElem_cons_zero, List.getElem_cons_succ, Act.put, List.setIfInBounds_toArray, List.set_cons_zero, List.set_cons_succ]
  refine wpAnyK_one (i := 10) (by kernel_rfl) rfl (fun K hK => ?_)
  (try simp only [List.getElem_toArray, List.getElem_cons_zero, List.getElem_cons_succ, Act.put, List.setIfInBounds_toArray, List.set_cons_zero, List.set_cons_succ])
  go_simp
  refine (pcut20 ga gx w2.drew).mono ?_
  rintro e4 w4 ⟨wa, wc, rfl, b4⟩
  have H4 : Hid (Ma20 w4 b (mk20 (.int .i64 64) (.int .i64 100) (.int .i64 10) (.bool false) (.int .i64 100) (.slice none 0 0) (.slice none 0 0) (.slice none 0 0) (.slice (some ⟨ga, 0, none⟩) 0 0) (.slice (some ⟨gx, 0, none⟩) 0 0) (.int .i64 0) (.int .i64 0) (.int .u32 0) (.int .u32 0) (.int .i64 64) (.int .i64 100) (.slice none 0 0) (.slice none 0 0)) ∧ Kp (fun k => k = b) w w4) := ⟨H3.out.1.old b4, H3.out.2.trans (Kp.of_below (S := fun _ => False) b4) (fun _ _ x => x.elim)⟩
  clear b4
  refine hK.out _ _ (fun _ => HS.out _ _ H4.out.1) (fun hHeld0 => ?_)
  have hHeld := hHeld0 (by decide)
  clear hHeld0 hK K
  (try simp only [List.getElem_toArray, List.getElem_cons_zero, List.getElem_cons_succ, Act.put, List.setIfInBounds_toArray, List.set_cons_zero, List.set_cons_succ])
  refine wpAnyK_take (i := 11) (v := .slice wa 0 wc) rfl (by kernel_rfl) (by kernel_rfl) (by kernel_rfl) (by kernel_rfl) (fun _ _ _ h => h) (Or.inl ⟨by rfl, fun w hSw => by go_simp⟩) hHeld ?_
  simp only [List.getElem_toArray, List.getElem_cons_zero, List.getElem_cons_succ, Act.put, List.setIfInBounds_toArray, List.set_cons_zero, List.set_cons_succ]
  refine wpAnyK_take (i := 12) (v := .int .i64 0) rfl (by kernel_rfl) (by kernel_rfl) (by kernel_rfl) (by kernel_rfl) (fun _ _ _ h => h) (Or.inl ⟨by rfl, fun w hSw => by go_simp⟩) hHeld ?_
  simp only [List.getElem_toArray, List.getElem_cons_zero, List.getElem_cons_succ, Act.put, List.setIfInBounds_toArray, List.set_cons_zero, List.set_cons_succ]
  refine wpAnyK_one (i := 13) (by kernel_rfl) rfl (fun K hK => ?_)
  (try simp only [List.getElem_toArray, List.getElem_cons_zero, List.getElem_cons_succ, Act.put, List.setIfInBounds_toArray, List.set_cons_zero, List.set_cons_succ])
  go_simp
  refine (pgot20w _ w4).mono ?_
  rintro e5 w5 ⟨rfl, hw5⟩
  subst w5
  refine hK.out _ _ (fun _ => HS.out _ _ H4.out.1) (fun hHeld0 => ?_)
  have hHeld := hHeld0 (by decide)
  clear hHeld0 hK K
  (try simp only [List.getElem_toArray, List.getElem_cons_zero, List.getElem_cons_succ, Act.put, List.setIfInBounds_toArray, List.set_cons_zero, List.set_cons_succ])
  refine wpAnyK_take (i := 14) (v := .pointer (some ⟨b, 0, none⟩)) rfl (by kernel_rfl) (by kernel_rfl) (by kernel_rfl) (by kernel_rfl) (fun _ _ _ h => h) (Or.inl ⟨by rfl, fun w hSw => by go_simp⟩) hHeld ?_
  simp only [List.getElem_toArray, List.getElem_cons_zero, List.getElem_cons_succ, Act.put, List.setIfInBounds_toArray, List.set_cons_zero, List.set_cons_succ]
  refine wpAnyK_take (i := 15) (v := .pointer (some ⟨b, 14, none⟩)) rfl (by kernel_rfl) (by kernel_rfl) (by kernel_rfl) (by kernel_rfl) (fun _ _ _ h => h) (Or.inl ⟨by rfl, fun w hSw => by go_simp⟩) hHeld ?_
  simp only [List.getElem_toArray, List.getElem_cons_zero, List.getElem_cons_succ, Act.put, List.setIfInBounds_toArray, List.set_cons_zero, List.set_cons_succ]
  refine wpAnyK_take (i := 16) (v := .pointer (some ⟨b, 20, none⟩)) rfl (by kernel_rfl) (by kernel_rfl) (by kernel_rfl) (by kernel_rfl) (fun _ _ _ h => h) (Or.inl ⟨by rfl, fun w hSw => by go_simp⟩) hHeld ?_
  simp only [List.getElem_toArray, List.getElem_cons_zero, List.getElem_cons_succ, Act.put, List.setIfInBounds_toArray, List.set_cons_zero, List.set_cons_succ]
  have d20 := H4.out.1.c (i := 20) rfl
  have f20 := H4.out.1.f (i := 20)
  have m9 : Ma20 (w4.setCell ⟨b, 20, none⟩ (.slice wa 0 wc)) b (mk20 (.int .i64 64) (.int .i64 100) (.int .i64 10) (.bool false) (.int .i64 100) (.slice none 0 0) (.slice none 0 0) (.slice none 0 0) (.slice (some ⟨ga, 0, none⟩) 0 0) (.slice (some ⟨gx, 0, none⟩) 0 0) (.int .i64 0) (.int .i64 0) (.int .u32 0) (.int .u32 0) (.int .i64 64) (.int .i64 100) (.slice wa 0 wc) (.slice none 0 0)) := H4.out.1.set (i := 20) (.slice wa 0 wc)
  have H9 : Hid (Ma20 (w4.setCell ⟨b, 20, none⟩ (.slice wa 0 wc)) b (mk20 (.int .i64 64) (.int .i64 100) (.int .i64 10) (.bool false) (.int .i64 100) (.slice none 0 0) (.slice none 0 0) (.slice none 0 0) (.slice (some ⟨ga, 0, none⟩) 0 0) (.slice (some ⟨gx, 0, none⟩) 0 0) (.int .i64 0) (.int .i64 0) (.int .u32 0) (.int .u32 0) (.int .i64 64) (.int .i64 100) (.slice wa 0 wc) (.slice none 0 0)) ∧ Kp (fun k => k = b) w (w4.setCell ⟨b, 20, none⟩ (.slice wa 0 wc))) := ⟨m9, H4.out.2.trans (Kp.set (S := fun k => k = b) rfl _) (fun _ _ x => x)⟩
  clear m9
  refine wpAnyK_one (i := 17) (by kernel_rfl) rfl (fun K hK => ?_)
  simp only [List.getElem_toArray, List.getElem_cons_zero, List.getElem_cons_succ, Act.put]
  go_simp
  refine hK.out _ _ (fun _ => HS.out _ _ H9.out.1) (fun _ => ?_)
  clear hK K
  (try simp only [List.getElem_toArray, List.getElem_cons_zero, List.getElem_cons_succ, Act.put, List.setIfInBounds_toArray, List.set_cons_zero, List.set_cons_succ])
  refine wpAnyK_done (by kernel_rfl) ?_ _
  go_end0
  exact ⟨rfl, ⟨wa, wc, H9.out.1⟩, H9.out.2⟩
set_option maxRecDepth 100000 in
set_option maxHeartbeats 8000000 in
theorem pwrt20 (b ga gx : Nat) (wa : Option Addr) (wc : Nat) (w : World) (ht : Tab w) (h : Ma20 w b (mk20 (.int .i64 64) (.int .i64 100) (.int .i64 10) (.bool false) (.int .i64 100) (.slice none 0 0) (.slice none 0 0) (.slice none 0 0) (.slice (some ⟨ga, 0, none⟩) 0 0) (.slice (some ⟨gx, 0, none⟩) 0 0) (.int .i64 0) (.int .i64 0) (.int .u32 0) (.int .u32 0) (.int .i64 64) (.int .i64 100) (.slice wa 0 wc) (.slice none 0 0))) :
    Calls Tryz.prog 18 #[.pointer (some ⟨b, 0, none⟩)] w fun e w' => e = .returned (.tuple #[]) ∧ (∃ p c, Ma20 w' b (mk20 (.int .i64 64) (.int .i64 100) (.int .i64 10) (.bool false) (.int .i64 100) (.slice none 0 0) (.slice none 0 0) (.slice none 0 0) (.slice (some ⟨ga, 0, none⟩) 0 0) (.slice (some ⟨gx, 0, none⟩) 0 0) (.int .i64 0) (.int .i64 0) (.int .u32 0) (.int .u32 0) (.int .i64 64) (.int .i64 100) (.slice wa 0 wc) (.slice p 25 c)) ∧ w'.ownsRow w.heap.size 5 1 (.slice p 25 c) 25 ((sum18 (sum18 (hd18 h018))).map (Value.int .u8))) ∧ Kp (fun k => k = b) w w' := by
  have hlt := (Array.getElem?_eq_some_iff.1 h).1
  have HL : Hid (b < w.heap.size) := hlt
  have HM : Hid (Ma20 w.drew b (mk20 (.int .i64 64) (.int .i64 100) (.int .i64 10) (.bool false) (.int .i64 100) (.slice none 0 0) (.slice none 0 0) (.slice none 0 0) (.slice (some ⟨ga, 0, none⟩) 0 0) (.slice (some ⟨gx, 0, none⟩) 0 0) (.int .i64 0) (.int .i64 0) (.int .u32 0) (.int .u32 0) (.int .i64 64) (.int .i64 100) (.slice wa 0 wc) (.slice none 0 0))) := h
  have EN : Hid (Calls Tryz.prog 38 #[.agg #[.int .i64 0, .int .i64 0, .int .u32 0, .int .u32 0, .int .i64 64, .int .i64 100], .agg #[.int .i64 100, .int .i64 10, .bool false, .int .i64 100], .slice wa 0 wc] w.drew (HdQ18 w.drew (sum18 (sum18 (hd18 h018))) 0)) := penc20 wa wc w.drew ht.drew
  have HN : Hid ((sum18 (sum18 (hd18 h018))).length = 25) := by show _ = _; rw [sum18_len, sum18_len]; rfl
  have HS : Hid (∀ V pp, Ma20 V b (mk20 (.int .i64 64) (.int .i64 100) (.int .i64 10) (.bool false) (.int .i64 100) (.slice none 0 0) (.slice none 0 0) (.slice none 0 0) (.slice (some ⟨ga, 0, none⟩) 0 0) (.slice (some ⟨gx, 0, none⟩) 0 0) (.int .i64 0) (.int .i64 0) (.int .u32 0) (.int .u32 0) (.int .i64 64) (.int .i64 100) (.slice wa 0 wc) pp) → V.cell? ⟨b, 1, none⟩ = some (.int .i64 100) ∧ V.cell? ⟨b, 2, none⟩ = some (.int .i64 10) ∧ V.cell? ⟨b, 3, none⟩ = some (.bool false) ∧ V.cell? ⟨b, 4, none⟩ = some (.int .i64 100) ∧ V.cell? ⟨b, 14, none⟩ = some (.int .i64 0) ∧ V.cell? ⟨b, 15, none⟩ = some (.int .i64 0) ∧ V.cell? ⟨b, 16, none⟩ = some (.int .u32 0) ∧ V.cell? ⟨b, 17, none⟩ = some (.int .u32 0) ∧ V.cell? ⟨b, 18, none⟩ = some (.int .i64 64) ∧ V.cell? ⟨b, 19, none⟩ = some (.int .i64 100) ∧ V.cell? ⟨b, 20, none⟩ = some (.slice wa 0 wc)) := fun V pp hV => ⟨hV.c rfl, hV.c rfl, hV.c rfl, hV.c rfl, hV.c rfl, hV.c rfl, hV.c rfl, hV.c rfl, hV.c rfl, hV.c rfl, hV.c rfl⟩
  generalize sum18 (sum18 (hd18 h018)) = L at *
  clear h ht hlt
  go_enter Tryz.func18, Tryz.ntmps18
  go_wp2_with fail
  refine plain_region16 (fun V => V.cell? ⟨b, 1, none⟩ = some (.int .i64 100) ∧ V.cell? ⟨b, 2, none⟩ = some (.int .i64 10) ∧ V.cell? ⟨b, 3, none⟩ = some (.bool false) ∧ V.cell? ⟨b, 4, none⟩ = some (.int .i64 100) ∧ V.cell? ⟨b, 14, none⟩ = some (.int .i64 0) ∧ V.cell? ⟨b, 15, none⟩ = some (.int .i64 0) ∧ V.cell? ⟨b, 16, none⟩ = some (.int .u32 0) ∧ V.cell? ⟨b, 17, none⟩ = some (.int .u32 0) ∧ V.cell? ⟨b, 18, none⟩ = some (.int .i64 64) ∧ V.cell? ⟨b, 19, none⟩ = some (.int .i64 100) ∧ V.cell? ⟨b, 20, none⟩ = some (.slice wa 0 wc)) 23 (by kernel_rfl) (HS.out _ _ HM.out) (fun hHeld => ?_)
  refine wpAnyK_take (i := 0) (v := .pointer (some ⟨b, 0, none⟩)) rfl (by kernel_rfl) (by kernel_rfl) (by kernel_rfl) (by kernel_rfl) (fun _ _ _ h => h) (Or.inl ⟨by rfl, fun w hSw => by go_simp⟩) hHeld ?_
  simp only [List.getElem_toArray, List.getElem_cons_zero, Act.put, List.setIfInBounds_toArray, List.set_cons_zero, List.set_cons_succ]
  refine wpAnyK_take (i := 1) (v := .pointer (some ⟨b, 0, none⟩)) rfl (by kernel_rfl) (by kernel_rfl) (by kernel_rfl) (by kernel_rfl) (fun _ _ _ h => h) (Or.inl ⟨by rfl, fun w hSw => by go_simp⟩) hHeld ?_
  simp only [List.getElem_toArray, List.getElem_cons_zero, List.getElem_cons_succ, Act.put, List.setIfInBounds_toArray, List.set_cons_zero, List.set_cons_succ]
  refine wpAnyK_take (i := 2) (v := .pointer (some ⟨b, 0, none⟩)) rfl (by kernel_rfl) (by kernel_rfl) (by kernel_rfl) (by kernel_rfl) (fun _ _ _ h => h) (Or.inl ⟨by rfl, fun w hSw => by go_simp⟩) hHeld ?_
  simp only [List.getElem_toArray, List.getElem_cons_zero, List.getElem_cons_succ, Act.put, List.setIfInBounds_toArray, List.set_cons_zero, List.set_cons_succ]
  refine wpAnyK_take (i := 3) (v := .pointer (some ⟨b, 14, none⟩)) rfl (by kernel_rfl) (by kernel_rfl) (by kernel_rfl) (by kernel_rfl) (fun _ _ _ h => h) (Or.inl ⟨by rfl, fun w hSw => by go_simp⟩) hHeld ?_
  simp only [List.getElem_toArray, List.getElem_cons_zero, List.getElem_cons_succ, Act.put, List.setIfInBounds_toArray, List.set_cons_zero, List.set_cons_succ]
  refine wpAnyK_take (i := 4) (v := .pointer (some ⟨b, 14, none⟩)) rfl (by kernel_rfl) (by kernel_rfl) (by kernel_rfl) (by kernel_rfl) (fun _ _ _ h => h) (Or.inl ⟨by rfl, fun w hSw => by go_simp⟩) hHeld ?_
  simp only [List.getElem_toArray, List.getElem_cons_zero, List.getElem_cons_succ, Act.put, List.setIfInBounds_toArray, List.set_cons_zero, List.set_cons_succ]
  refine wpAnyK_take (i := 5) (v := .agg #[.int .i64 0, .int .i64 0, .int .u32 0, .int .u32 0, .int .i64 64, .int .i64 100]) rfl (by kernel_rfl) (by kernel_rfl) (by kernel_rfl) (by kernel_rfl) (fun _ _ _ h => h) (Or.inl ⟨by rfl, fun w hSw => by go_simp⟩) hHeld ?_
  simp only [List.getElem_toArray, List.getElem_cons_zero, List.getElem_cons_succ, Act.put, List.setIfInBounds_toArray, List.set_cons_zero, List.set_cons_succ]
  refine wpAnyK_take (i := 6) (v := .pointer (some ⟨b, 0, none⟩)) rfl (by kernel_rfl) (by kernel_rfl) (by kernel_rfl) (by kernel_rfl) (fun _ _ _ h => h) (Or.inl ⟨by rfl, fun w hSw => by go_simp⟩) hHeld ?_
  simp only [List.getElem_toArray, List.getElem_cons_zero, List.getElem_cons_succ, Act.put, List.setIfInBounds_toArray, List.set_cons_zero, List.set_cons_succ]
  refine wpAnyK_take (i := 7) (v := .pointer (some ⟨b, 0, none⟩)) rfl (by kernel_rfl) (by kernel_rfl) (by kernel_rfl) (by kernel_rfl) (fun _ _ _ h => h) (Or.inl ⟨by rfl, fun w hSw => by go_simp⟩) hHeld ?_
  simp only [List.getElem_toArray, List.getElem_cons_zero, List.getElem_cons_succ, Act.put, List.setIfInBounds_toArray, List.set_cons_zero, List.set_cons_succ]
  refine wpAnyK_take (i := 8) (v := .pointer (some ⟨b, 0, none⟩)) rfl (by kernel_rfl) (by kernel_rfl) (by kernel_rfl) (by kernel_rfl) (fun _ _ _ h => h) (Or.inl ⟨by rfl, fun w hSw => by go_simp⟩) hHeld ?_
  simp only [List.getElem_toArray, List.getElem_cons_zero, List.getElem_cons_succ, Act.put, List.setIfInBounds_toArray, List.set_cons_zero, List.set_cons_succ]
  refine wpAnyK_take (i := 9) (v := .pointer (some ⟨b, 1, none⟩)) rfl (by kernel_rfl) (by kernel_rfl) (by kernel_rfl) (by kernel_rfl) (fun _ _ _ h => h) (Or.inl ⟨by rfl, fun w hSw => by go_simp⟩) hHeld ?_
  simp only [List.getElem_toArray, List.getElem_cons_zero, List.getElem_cons_succ, Act.put, List.setIfInBounds_toArray, List.set_cons_zero, List.set_cons_succ]
  refine wpAnyK_take (i := 10) (v := .agg #[.int .i64 100, .int .i64 10, .bool false, .int .i64 100]) rfl (by kernel_rfl) (by kernel_rfl) (by kernel_rfl) (by kernel_rfl) (fun _ _ _ h => h) (Or.inl ⟨by rfl, fun w hSw => by go_simp⟩) hHeld ?_
  simp only [List.getElem_toArray, List.getElem_cons_zero, List.getElem_cons_succ, Act.put, List.setIfInBounds_toArray, List.set_cons_zero, List.set_cons_succ]
  refine wpAnyK_take (i := 11) (v := .pointer (some ⟨b, 0, none⟩)) rfl (by kernel_rfl) (by kernel_rfl) (by kernel_rfl) (by kernel_rfl) (fun _ _ _ h => h) (Or.inl ⟨by rfl, fun w hSw => by go_simp⟩) hHeld ?_
  simp only [List.getElem_toArray, List.getElem_cons_zero, List.getElem_cons_succ, Act.put, List.setIfInBounds_toArray, List.set_cons_zero, List.set_cons_succ]
  refine wpAnyK_take (i := 12) (v := .pointer (some ⟨b, 0, none⟩)) rfl (by kernel_rfl) (by kernel_rfl) (by kernel_rfl) (by kernel_rfl) (fun _ _ _ h => h) (Or.inl ⟨by rfl, fun w hSw => by go_simp⟩) hHeld ?_
  simp only [List.getElem_toArray, List.getElem_cons_zero, List.getElem_cons_succ, Act.put, List.setIfInBounds_toArray, List.set_cons_zero, List.set_cons_succ]
  refine wpAnyK_take (i := 13) (v := .pointer (some ⟨b, 14, none⟩)) rfl (by kernel_rfl) (by kernel_rfl) (by kernel_rfl) (by kernel_rfl) (fun _ _ _ h => h) (Or.inl ⟨by rfl, fun w hSw => by go_simp⟩) hHeld ?_
  simp only [List.getElem_toArray, List.getElem_cons_zero, List.getElem_cons_succ, Act.put, List.setIfInBounds_toArray, List.set_cons_zero, List.set_cons_succ]
  refine wpAnyK_take (i := 14) (v := .pointer (some ⟨b, 20, none⟩)) rfl (by kernel_rfl) (by kernel_rfl) (by kernel_rfl) (by kernel_rfl) (fun _ _ _ h => h) (Or.inl ⟨by rfl, fun w hSw => by go_simp⟩) hHeld ?_
  simp only [List.getElem_toArray, List.getElem_cons_zero, List.getElem_cons_succ, Act.put, List.setIfInBounds_toArray, List.set_cons_zero, List.set_cons_succ]
  refine wpAnyK_take (i := 15) (v := .slice wa 0 wc) rfl (by kernel_rfl) (by kernel_rfl) (by kernel_rfl) (by kernel_rfl) (fun _ _ _ h => h) (Or.inl ⟨by rfl, fun w hSw => by go_simp⟩) hHeld ?_
  simp only [List.getElem_toArray, List.getElem_cons_zero, List.getElem_cons_succ, Act.put, List.setIfInBounds_toArray, List.set_cons_zero, List.set_cons_succ]
  refine wpAnyK_one (i := 16) (by kernel_rfl) rfl (fun K hK => ?_)
  (try simp only [List.getElem_toArray, List.getElem_cons_zero, List.getElem_cons_succ, Act.put, List.setIfInBounds_toArray, List.set_cons_zero, List.set_cons_succ])
  go_simp
  refine EN.out.mono ?_
  rintro e4 w4 ⟨p, c, rfl, o4, b4⟩
  have hb4 : Below w.heap.size w.drew w4 := b4
  have H4 : Hid (Ma20 w4 b (mk20 (.int .i64 64) (.int .i64 100) (.int .i64 10) (.bool false) (.int .i64 100) (.slice none 0 0) (.slice none 0 0) (.slice none 0 0) (.slice (some ⟨ga, 0, none⟩) 0 0) (.slice (some ⟨gx, 0, none⟩) 0 0) (.int .i64 0) (.int .i64 0) (.int .u32 0) (.int .u32 0) (.int .i64 64) (.int .i64 100) (.slice wa 0 wc) (.slice none 0 0)) ∧ Kp (fun k => k = b) w w4) := ⟨HM.out.old b4, ((Kp.refl _ _).drew).trans (Kp.of_below (S := fun _ => False) b4) (fun _ _ x => x.elim)⟩
  rw [HN.out] at o4 ⊢
  have o4 : w4.ownsRow w.heap.size 5 1 (.slice p 25 c) 25 (L.map (Value.int .u8)) := o4
  have HO := Hid.mk20 o4
  clear b4 hb4 o4 EN
  refine hK.out _ _ (fun _ => HS.out _ _ H4.out.1) (fun hHeld0 => ?_)
  have hHeld := hHeld0 (by decide)
  clear hHeld0 hK K
  (try simp only [List.getElem_toArray, List.getElem_cons_zero, List.getElem_cons_succ, Act.put, List.setIfInBounds_toArray, List.set_cons_zero, List.set_cons_succ])
  refine wpAnyK_take (i := 17) (v := .slice p 25 c) rfl (by kernel_rfl) (by kernel_rfl) (by kernel_rfl) (by kernel_rfl) (fun _ _ _ h => h) (Or.inl ⟨by rfl, fun w hSw => by go_simp⟩) hHeld ?_
  simp only [List.getElem_toArray, List.getElem_cons_zero, List.getElem_cons_succ, Act.put, List.setIfInBounds_toArray, List.set_cons_zero, List.set_cons_succ]
  refine wpAnyK_take (i := 18) (v := .int .i64 0) rfl (by kernel_rfl) (by kernel_rfl) (by kernel_rfl) (by kernel_rfl) (fun _ _ _ h => h) (Or.inl ⟨by rfl, fun w hSw => by go_simp⟩) hHeld ?_
  simp only [List.getElem_toArray, List.getElem_cons_zero, List.getElem_cons_succ, Act.put, List.setIfInBounds_toArray, List.set_cons_zero, List.set_cons_succ]
  refine wpAnyK_one (i := 19) (by kernel_rfl) rfl (fun K hK => ?_)
  (try simp only [List.getElem_toArray, List.getElem_cons_zero, List.getElem_cons_succ, Act.put, List.setIfInBounds_toArray, List.set_cons_zero, List.set_cons_succ])
  go_simp
  refine (pgot20b _ w4).mono ?_
  rintro e5 w5 ⟨rfl, hw5⟩
  subst w5
  refine hK.out _ _ (fun _ => HS.out _ _ H4.out.1) (fun hHeld0 => ?_)
  have hHeld := hHeld0 (by decide)
  clear hHeld0 hK K
  (try simp only [List.getElem_toArray, List.getElem_cons_zero, List.getElem_cons_succ, Act.put, List.setIfInBounds_toArray, List.set_cons_zero, List.set_cons_succ])
  refine wpAnyK_take (i := 20) (v := .pointer (some ⟨b, 0, none⟩)) rfl (by kernel_rfl) (by kernel_rfl) (by kernel_rfl) (by kernel_rfl) (fun _ _ _ h => h) (Or.inl ⟨by rfl, fun w hSw => by go_simp⟩) hHeld ?_
  simp only [List.getElem_toArray, List.getElem_cons_zero, List.getElem_cons_succ, Act.put, List.setIfInBounds_toArray, List.set_cons_zero, List.set_cons_succ]
  refine wpAnyK_take (i := 21) (v := .pointer (some ⟨b, 21, none⟩)) rfl (by kernel_rfl) (by kernel_rfl) (by kernel_rfl) (by kernel_rfl) (fun _ _ _ h => h) (Or.inl ⟨by rfl, fun w hSw => by go_simp⟩) hHeld ?_
  simp only [List.getElem_toArray, List.getElem_cons_zero, List.getElem_cons_succ, Act.put, List.setIfInBounds_toArray, List.set_cons_zero, List.set_cons_succ]
  have d21 := H4.out.1.c (i := 21) rfl
  have f21 := H4.out.1.f (i := 21)
  have m9 : Ma20 (w4.setCell ⟨b, 21, none⟩ (.slice p 25 c)) b (mk20 (.int .i64 64) (.int .i64 100) (.int .i64 10) (.bool false) (.int .i64 100) (.slice none 0 0) (.slice none 0 0) (.slice none 0 0) (.slice (some ⟨ga, 0, none⟩) 0 0) (.slice (some ⟨gx, 0, none⟩) 0 0) (.int .i64 0) (.int .i64 0) (.int .u32 0) (.int .u32 0) (.int .i64 64) (.int .i64 100) (.slice wa 0 wc) (.slice p 25 c)) := H4.out.1.set (i := 21) (.slice p 25 c)
  have k9 : Kp (fun k => k = b) w4 (w4.setCell ⟨b, 21, none⟩ (.slice p 25 c)) := Kp.set (S := fun k => k = b) rfl _
  have H9 : Hid (Ma20 (w4.setCell ⟨b, 21, none⟩ (.slice p 25 c)) b (mk20 (.int .i64 64) (.int .i64 100) (.int .i64 10) (.bool false) (.int .i64 100) (.slice none 0 0) (.slice none 0 0) (.slice none 0 0) (.slice (some ⟨ga, 0, none⟩) 0 0) (.slice (some ⟨gx, 0, none⟩) 0 0) (.int .i64 0) (.int .i64 0) (.int .u32 0) (.int .u32 0) (.int .i64 64) (.int .i64 100) (.slice wa 0 wc) (.slice p 25 c)) ∧ (w4.setCell ⟨b, 21, none⟩ (.slice p 25 c)).ownsRow w.heap.size 5 1 (.slice p 25 c) 25 (L.map (Value.int .u8)) ∧ Kp (fun k => k = b) w (w4.setCell ⟨b, 21, none⟩ (.slice p 25 c))) := ⟨m9, own_kp HO.out k9 (fun k hk x => by have := (HO.out.lt k hk).1; have x : k = b := x; have := HL.out; omega), H4.out.2.trans k9 (fun _ _ x => x)⟩
  clear m9 k9
  refine wpAnyK_one (i := 22) (by kernel_rfl) rfl (fun K hK => ?_)
  simp only [List.getElem_toArray, List.getElem_cons_zero, List.getElem_cons_succ, Act.put]
  go_simp
  refine hK.out _ _ (fun _ => HS.out _ _ H9.out.1) (fun _ => ?_)
  clear hK K
  (try simp only [List.getElem_toArray, List.getElem_cons_zero, List.getElem_cons_succ, Act.put, List.setIfInBounds_toArray, List.set_cons_zero, List.set_cons_succ])
  refine wpAnyK_done (by kernel_rfl) ?_ _
  go_end0
  exact ⟨rfl, ⟨p, c, H9.out.1, H9.out.2.1⟩, H9.out.2.2⟩
end Go.Proofs.YtmfpdchfofffeaaGreatDoor
