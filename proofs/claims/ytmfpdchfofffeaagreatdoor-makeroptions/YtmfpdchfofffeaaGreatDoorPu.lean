import Derived.Test.YtmfpdchfofffeaaGreatDoorPt
import Derived.Test.YtmfpdchfofffeaaGreatDoorPo
import Derived.Defers
import Derived.Recover
import Derived.Test.YtmfpdchfofffeaaGreatDoorPl
import Derived.Test.YtmfpdchfofffeaaGreatDoorPh
namespace Go.Proofs.YtmfpdchfofffeaaGreatDoor
open Go.RowKit Go.Shelf
set_option linter.unusedVariables false
set_option linter.unusedSimpArgs false
theorem ed20 (w : World) (ga gx : Nat) : Ed16 w none 0 [] (some ⟨ga, 0, none⟩) 0 [] (some ⟨gx, 0, none⟩) 0 [] :=
  ⟨SegS.nil w none, SegK.nil (by decide) w _, SegK.nil (by decide) w _, rfl, rfl, rfl, by decide, by decide, by decide⟩
theorem pcut20 (ga gx : Nat) (w : World) : Calls Tryz.prog 36 #[.agg #[.slice none 0 0, .slice (some ⟨ga, 0, none⟩) 0 0, .slice (some ⟨gx, 0, none⟩) 0 0], .int .i64 64] w fun e w' => ∃ wa wc, e = .returned (.tuple #[.slice wa 0 wc, .int .i64 0]) ∧ Below w.heap.size w w' := by
  have h := pcut17 (sc := 0) (dc := 0) (xc := 0) 64 w (ed20 w ga gx) (by decide) (by decide) (by decide) (by decide)
  refine Calls.mono (show Calls Tryz.prog 36 #[.agg #[.slice none 0 0, .slice (some ⟨ga, 0, none⟩) 0 0, .slice (some ⟨gx, 0, none⟩) 0 0], .int .i64 64] w _ from h) ?_
  rintro e w' ⟨vO, l, rfl, hl, hw, hb⟩
  have h0 : l = [] := by
    have h1 : cw17 64 (ws17 (pi17 [] [] [] 0 0)) = [] := by decide
    rw [h1] at hl
    exact List.map_eq_nil_iff.1 hl
  subst h0
  obtain ⟨p, c, rfl⟩ := own_sl17 hw.own
  exact ⟨p, c, rfl, hb⟩
set_option maxRecDepth 100000 in
set_option maxHeartbeats 8000000 in
theorem pctt20 (b ga gx : Nat) (w : World) (h : Ma20 w b (mk20 (.int .i64 64) (.int .i64 100) (.int .i64 10) (.bool false) (.int .i64 100) (.slice none 0 0) (.slice none 0 0) (.slice none 0 0) (.slice (some ⟨ga, 0, none⟩) 0 0) (.slice (some ⟨gx, 0, none⟩) 0 0) (.int .i64 0) (.int .i64 0) (.int .u32 0) (.int .u32 0) (.int .i64 0) (.int .i64 0) (.slice none 0 0) (.slice none 0 0))) :
    Calls Tryz.prog 17 #[.pointer (some ⟨b, 0, none⟩)] w fun e w' => e = .returned (.tuple #[]) ∧ (∃ wa wc, Ma20 w' b (mk20 (.int .i64 64) (.int .i64 100) (.int .i64 10) (.bool false) (.int .i64 100) (.slice none 0 0) (.slice none 0 0) (.slice none 0 0) (.slice (some ⟨ga, 0, none⟩) 0 0) (.slice (some ⟨gx, 0, none⟩) 0 0) (.int .i64 0) (.int .i64 0) (.int .u32 0) (.int .u32 0) (.int .i64 64) (.int .i64 100) (.slice wa 0 wc) (.slice none 0 0))) ∧ Kp (fun k => k = b) w w' := by
  obtain ⟨u, hu⟩ : ∃ u, u = w.drew := ⟨_, rfl⟩
  have HU : Hid (w.drew = u) := hu.symm
  have ku : Kp (fun k => k = b) w u := by rw [hu]; exact (Kp.refl _ _).drew
  have HH : Hid (Ma20 u b (mk20 (.int .i64 64) (.int .i64 100) (.int .i64 10) (.bool false) (.int .i64 100) (.slice none 0 0) (.slice none 0 0) (.slice none 0 0) (.slice (some ⟨ga, 0, none⟩) 0 0) (.slice (some ⟨gx, 0, none⟩) 0 0) (.int .i64 0) (.int .i64 0) (.int .u32 0) (.int .u32 0) (.int .i64 0) (.int .i64 0) (.slice none 0 0) (.slice none 0 0))) := by show Ma20 _ _ _; rw [hu]; exact h
  have h1 : Ma20 (u.setCell ⟨b, 18, none⟩ (.int .i64 64)) b (mk20 (.int .i64 64) (.int .i64 100) (.int .i64 10) (.bool false) (.int .i64 100) (.slice none 0 0) (.slice none 0 0) (.slice none 0 0) (.slice (some ⟨ga, 0, none⟩) 0 0) (.slice (some ⟨gx, 0, none⟩) 0 0) (.int .i64 0) (.int .i64 0) (.int .u32 0) (.int .u32 0) (.int .i64 64) (.int .i64 0) (.slice none 0 0) (.slice none 0 0)) := HH.out.set (i := 18) (.int .i64 64)
  have h2 : Ma20 ((u.setCell ⟨b, 18, none⟩ (.int .i64 64)).setCell ⟨b, 19, none⟩ (.int .i64 100)) b (mk20 (.int .i64 64) (.int .i64 100) (.int .i64 10) (.bool false) (.int .i64 100) (.slice none 0 0) (.slice none 0 0) (.slice none 0 0) (.slice (some ⟨ga, 0, none⟩) 0 0) (.slice (some ⟨gx, 0, none⟩) 0 0) (.int .i64 0) (.int .i64 0) (.int .u32 0) (.int .u32 0) (.int .i64 64) (.int .i64 100) (.slice none 0 0) (.slice none 0 0)) := h1.set (i := 19) (.int .i64 100)
  have k2 : Kp (fun k => k = b) w ((u.setCell ⟨b, 18, none⟩ (.int .i64 64)).setCell ⟨b, 19, none⟩ (.int .i64 100)) := (ku.trans (Kp.set (S := fun k => k = b) rfl _) (fun _ _ x => x)).trans (Kp.set (S := fun k => k = b) rfl _) (fun _ _ x => x)
  obtain ⟨w1, hw1⟩ : ∃ w1, w1 = u.setCell ⟨b, 18, none⟩ (.int .i64 64) := ⟨_, rfl⟩
  rw [← hw1] at h1 h2 k2
  obtain ⟨w2, hw2⟩ : ∃ w2, w2 = w1.setCell ⟨b, 19, none⟩ (.int .i64 100) := ⟨_, rfl⟩
  rw [← hw2] at h2 k2
  have HW : Hid (u.setCell ⟨b, 18, none⟩ (.int .i64 64) = w1 ∧ w1.setCell ⟨b, 19, none⟩ (.int .i64 100) = w2) := ⟨hw1.symm, hw2.symm⟩
  have H1 := Hid.mk20 h1
  have H2 : Hid (Ma20 w2 b (mk20 (.int .i64 64) (.int .i64 100) (.int .i64 10) (.bool false) (.int .i64 100) (.slice none 0 0) (.slice none 0 0) (.slice none 0 0) (.slice (some ⟨ga, 0, none⟩) 0 0) (.slice (some ⟨gx, 0, none⟩) 0 0) (.int .i64 0) (.int .i64 0) (.int .u32 0) (.int .u32 0) (.int .i64 64) (.int .i64 100) (.slice none 0 0) (.slice none 0 0)) ∧ Kp (fun k => k = b) w w2) := ⟨h2, k2⟩
  clear h h1 h2 k2 hw1 hw2 ku hu
  go_enter Tryz.func17, Tryz.ntmps17
  go_wp2_with fail
  refine plain_region16 (fun V => V.cell? ⟨b, 0, none⟩ = some (.int .i64 64) ∧ V.cell? ⟨b, 1, none⟩ = some (.int .i64 100)) 24 (by kernel_rfl) (by rw [HU.out]; exact ⟨HH.out.c rfl, HH.out.c rfl⟩) (fun hHeld => ?_)
  rw [HU.out] at hHeld ⊢
  refine wpAnyK_take (i := 0) (v := .pointer (some ⟨b, 0, none⟩)) rfl (by kernel_rfl) (by kernel_rfl) (by kernel_rfl) (by kernel_rfl) (fun _ _ _ h => h) (Or.inl ⟨by rfl, fun w hSw => by go_simp⟩) hHeld ?_
  simp only [List.getElem_toArray, List.getElem_cons_zero, Act.put, List.setIfInBounds_toArray, List.set_cons_zero, List.set_cons_succ]
  refine wpAnyK_take (i := 1) (v := .pointer (some ⟨b, 0, none⟩)) rfl (by kernel_rfl) (by kernel_rfl) (by kernel_rfl) (by kernel_rfl) (fun _ _ _ h => h) (Or.inl ⟨by rfl, fun w hSw => by go_simp⟩) hHeld ?_
  simp only [List.getElem_toArray, List.getElem_cons_zero, List.getElem_cons_succ, Act.put, List.setIfInBounds_toArray, List.set_cons_zero, List.set_cons_succ]
  refine wpAnyK_take (i := 2) (v := .pointer (some ⟨b, 0, none⟩)) rfl (by kernel_rfl) (by kernel_rfl) (by kernel_rfl) (by kernel_rfl) (fun _ _ _ h => h) (Or.inl ⟨by rfl, fun w hSw => by go_simp⟩) hHeld ?_
  simp only [List.getElem_toArray, List.getElem_cons_zero, List.getElem_cons_succ, Act.put, List.setIfInBounds_toArray, List.set_cons_zero, List.set_cons_succ]
  refine wpAnyK_take (i := 3) (v := .pointer (some ⟨b, 0, none⟩)) rfl (by kernel_rfl) (by kernel_rfl) (by kernel_rfl) (by kernel_rfl) (fun _ _ _ h => h) (Or.inl ⟨by rfl, fun w hSw => by go_simp⟩) hHeld ?_
  simp only [List.getElem_toArray, List.getElem_cons_zero, List.getElem_cons_succ, Act.put, List.setIfInBounds_toArray, List.set_cons_zero, List.set_cons_succ]
  refine wpAnyK_take (i := 4) (v := .pointer (some ⟨b, 0, none⟩)) rfl (by kernel_rfl) (by kernel_rfl) (by kernel_rfl) (by kernel_rfl) (fun _ _ _ h => h) (Or.inl ⟨by rfl, fun w hSw => by go_simp⟩) hHeld ?_
  simp only [List.getElem_toArray, List.getElem_cons_zero, List.getElem_cons_succ, Act.put, List.setIfInBounds_toArray, List.set_cons_zero, List.set_cons_succ]
  refine wpAnyK_take (i := 5) (v := .pointer (some ⟨b, 0, none⟩)) rfl (by kernel_rfl) (by kernel_rfl) (by kernel_rfl) (by kernel_rfl) (fun _ _ _ h => h) (Or.inl ⟨by rfl, fun w hSw => by go_simp⟩) hHeld ?_
  simp only [List.getElem_toArray, List.getElem_cons_zero, List.getElem_cons_succ, Act.put, List.setIfInBounds_toArray, List.set_cons_zero, List.set_cons_succ]
  refine wpAnyK_take (i := 6) (v := .int .i64 64) rfl (by kernel_rfl) (by kernel_rfl) (by kernel_rfl) (by kernel_rfl) (fun _ _ _ h => h) (Or.inl ⟨by rfl, fun w hSw => by go_simp⟩) hHeld ?_
  simp only [List.getElem_toArray, List.getElem_cons_zero, List.getElem_cons_succ, Act.put, List.setIfInBounds_toArray, List.set_cons_zero, List.set_cons_succ]
  refine wpAnyK_take (i := 7) (v := .pointer (some ⟨b, 0, none⟩)) rfl (by kernel_rfl) (by kernel_rfl) (by kernel_rfl) (by kernel_rfl) (fun _ _ _ h => h) (Or.inl ⟨by rfl, fun w hSw => by go_simp⟩) hHeld ?_
  simp only [List.getElem_toArray, List.getElem_cons_zero, List.getElem_cons_succ, Act.put, List.setIfInBounds_toArray, List.set_cons_zero, List.set_cons_succ]
  refine wpAnyK_take (i := 8) (v := .pointer (some ⟨b, 0, none⟩)) rfl (by kernel_rfl) (by kernel_rfl) (by kernel_rfl) (by kernel_rfl) (fun _ _ _ h => h) (Or.inl ⟨by rfl, fun w hSw => by go_simp⟩) hHeld ?_
  simp only [List.getElem_toArray, List.getElem_cons_zero, List.getElem_cons_succ, Act.put, List.setIfInBounds_toArray, List.set_cons_zero, List.set_cons_succ]
  refine wpAnyK_take (i := 9) (v := .pointer (some ⟨b, 0, none⟩)) rfl (by kernel_rfl) (by kernel_rfl) (by kernel_rfl) (by kernel_rfl) (fun _ _ _ h => h) (Or.inl ⟨by rfl, fun w hSw => by go_simp⟩) hHeld ?_
  simp only [List.getElem_toArray, List.getElem_cons_zero, List.getElem_cons_succ, Act.put, List.setIfInBounds_toArray, List.set_cons_zero, List.set_cons_succ]
  refine wpAnyK_take (i := 10) (v := .pointer (some ⟨b, 1, none⟩)) rfl (by kernel_rfl) (by kernel_rfl) (by kernel_rfl) (by kernel_rfl) (fun _ _ _ h => h) (Or.inl ⟨by rfl, fun w hSw => by go_simp⟩) hHeld ?_
  simp only [List.getElem_toArray, List.getElem_cons_zero, List.getElem_cons_succ, Act.put, List.setIfInBounds_toArray, List.set_cons_zero, List.set_cons_succ]
  refine wpAnyK_take (i := 11) (v := .pointer (some ⟨b, 1, none⟩)) rfl (by kernel_rfl) (by kernel_rfl) (by kernel_rfl) (by kernel_rfl) (fun _ _ _ h => h) (Or.inl ⟨by rfl, fun w hSw => by go_simp⟩) hHeld ?_
  simp only [List.getElem_toArray, List.getElem_cons_zero, List.getElem_cons_succ, Act.put, List.setIfInBounds_toArray, List.set_cons_zero, List.set_cons_succ]
  refine wpAnyK_take (i := 12) (v := .pointer (some ⟨b, 1, none⟩)) rfl (by kernel_rfl) (by kernel_rfl) (by kernel_rfl) (by kernel_rfl) (fun _ _ _ h => h) (Or.inl ⟨by rfl, fun w hSw => by go_simp⟩) hHeld ?_
  simp only [List.getElem_toArray, List.getElem_cons_zero, List.getElem_cons_succ, Act.put, List.setIfInBounds_toArray, List.set_cons_zero, List.set_cons_succ]
  refine wpAnyK_take (i := 13) (v := .int .i64 100) rfl (by kernel_rfl) (by kernel_rfl) (by kernel_rfl) (by kernel_rfl) (fun _ _ _ h => h) (Or.inl ⟨by rfl, fun w hSw => by go_simp⟩) hHeld ?_
  simp only [List.getElem_toArray, List.getElem_cons_zero, List.getElem_cons_succ, Act.put, List.setIfInBounds_toArray, List.set_cons_zero, List.set_cons_succ]
  refine wpAnyK_take (i := 14) (v := .pointer (some ⟨b, 0, none⟩)) rfl (by kernel_rfl) (by kernel_rfl) (by kernel_rfl) (by kernel_rfl) (fun _ _ _ h => h) (Or.inl ⟨by rfl, fun w hSw => by go_simp⟩) hHeld ?_
  simp only [List.getElem_toArray, List.getElem_cons_zero, List.getElem_cons_succ, Act.put, List.setIfInBounds_toArray, List.set_cons_zero, List.set_cons_succ]
  refine wpAnyK_take (i := 15) (v := .pointer (some ⟨b, 14, none⟩)) rfl (by kernel_rfl) (by kernel_rfl) (by kernel_rfl) (by kernel_rfl) (fun _ _ _ h => h) (Or.inl ⟨by rfl, fun w hSw => by go_simp⟩) hHeld ?_
  simp only [List.getElem_toArray, List.getElem_cons_zero, List.getElem_cons_succ, Act.put, List.setIfInBounds_toArray, List.set_cons_zero, List.set_cons_succ]
  refine wpAnyK_take (i := 16) (v := .pointer (some ⟨b, 14, none⟩)) rfl (by kernel_rfl) (by kernel_rfl) (by kernel_rfl) (by kernel_rfl) (fun _ _ _ h => h) (Or.inl ⟨by rfl, fun w hSw => by go_simp⟩) hHeld ?_
  simp only [List.getElem_toArray, List.getElem_cons_zero, List.getElem_cons_succ, Act.put, List.setIfInBounds_toArray, List.set_cons_zero, List.set_cons_succ]
  refine wpAnyK_take (i := 17) (v := .pointer (some ⟨b, 18, none⟩)) rfl (by kernel_rfl) (by kernel_rfl) (by kernel_rfl) (by kernel_rfl) (fun _ _ _ h => h) (Or.inl ⟨by rfl, fun w hSw => by go_simp⟩) hHeld ?_
  simp only [List.getElem_toArray, List.getElem_cons_zero, List.getElem_cons_succ, Act.put, List.setIfInBounds_toArray, List.set_cons_zero, List.set_cons_succ]
  have d18 := HH.out.c (i := 18) rfl
  have f18 := HH.out.f (i := 18)
  refine wpAnyK_one (i := 18) (by kernel_rfl) rfl (fun K hK => ?_)
  simp only [List.getElem_toArray, List.getElem_cons_zero, List.getElem_cons_succ, Act.put]
  go_simp
  rw [HW.out.1]
  clear d18 f18
  refine hK.out _ _ (fun _ => ⟨H1.out.c rfl, H1.out.c rfl⟩) (fun hHeld0 => ?_)
  have hHeld := hHeld0 (by decide)
  clear hHeld0 hK K
  (try simp only [List.getElem_toArray, List.getElem_cons_zero, List.getElem_cons_succ, Act.put, List.setIfInBounds_toArray, List.set_cons_zero, List.set_cons_succ])
  refine wpAnyK_take (i := 19) (v := .pointer (some ⟨b, 0, none⟩)) rfl (by kernel_rfl) (by kernel_rfl) (by kernel_rfl) (by kernel_rfl) (fun _ _ _ h => h) (Or.inl ⟨by rfl, fun w hSw => by go_simp⟩) hHeld ?_
  simp only [List.getElem_toArray, List.getElem_cons_zero, List.getElem_cons_succ, Act.put, List.setIfInBounds_toArray, List.set_cons_zero, List.set_cons_succ]
  refine wpAnyK_take (i := 20) (v := .pointer (some ⟨b, 14, none⟩)) rfl (by kernel_rfl) (by kernel_rfl) (by kernel_rfl) (by kernel_rfl) (fun _ _ _ h => h) (Or.inl ⟨by rfl, fun w hSw => by go_simp⟩) hHeld ?_
  simp only [List.getElem_toArray, List.getElem_cons_zero, List.getElem_cons_succ, Act.put, List.setIfInBounds_toArray, List.set_cons_zero, List.set_cons_succ]
  refine wpAnyK_take (i := 21) (v := .pointer (some ⟨b, 14, none⟩)) rfl (by kernel_rfl) (by kernel_rfl) (by kernel_rfl) (by kernel_rfl) (fun _ _ _ h => h) (Or.inl ⟨by rfl, fun w hSw => by go_simp⟩) hHeld ?_
  simp only [List.getElem_toArray, List.getElem_cons_zero, List.getElem_cons_succ, Act.put, List.setIfInBounds_toArray, List.set_cons_zero, List.set_cons_succ]
  refine wpAnyK_take (i := 22) (v := .pointer (some ⟨b, 19, none⟩)) rfl (by kernel_rfl) (by kernel_rfl) (by kernel_rfl) (by kernel_rfl) (fun _ _ _ h => h) (Or.inl ⟨by rfl, fun w hSw => by go_simp⟩) hHeld ?_
  simp only [List.getElem_toArray, List.getElem_cons_zero, List.getElem_cons_succ, Act.put, List.setIfInBounds_toArray, List.set_cons_zero, List.set_cons_succ]
  have d19 := H1.out.c (i := 19) rfl
  have f19 := H1.out.f (i := 19)
  refine wpAnyK_one (i := 23) (by kernel_rfl) rfl (fun K hK => ?_)
  simp only [List.getElem_toArray, List.getElem_cons_zero, List.getElem_cons_succ, Act.put]
  go_simp
  rw [HW.out.2]
  clear d19 f19
  refine hK.out _ _ (fun _ => ⟨H2.out.1.c rfl, H2.out.1.c rfl⟩) (fun _ => ?_)
  clear hK K
  (try simp only [List.getElem_toArray, List.getElem_cons_zero, List.getElem_cons_succ, Act.put, List.setIfInBounds_toArray, List.set_cons_zero, List.set_cons_succ])
  refine wpAnyK_done (by kernel_rfl) ?_ _
  go_wp2_with fail
  have H3 : Hid (Ma20 w2.drew b (mk20 (.int .i64 64) (.int .i64 100) (.int .i64 10) (.bool false) (.int .i64 100) (.slice none 0 0) (.slice none 0 0) (.slice none 0 0) (.slice (some ⟨ga, 0, none⟩) 0 0) (.slice (some ⟨gx, 0, none⟩) 0 0) (.int .i64 0) (.int .i64 0) (.int .u32 0) (.int .u32 0) (.int .i64 64) (.int .i64 100) (.slice none 0 0) (.slice none 0 0)) ∧ Kp (fun k => k = b) w w2.drew) := ⟨H2.out.1, H2.out.2.drew⟩
  have HS : Hid (∀ V wn, Ma20 V b (mk20 (.int .i64 64) (.int .i64 100) (.int .i64 10) (.bool false) (.int .i64 100) (.slice none 0 0) (.slice none 0 0) (.slice none 0 0) (.slice (some ⟨ga, 0, none⟩) 0 0) (.slice (some ⟨gx, 0, none⟩) 0 0) (.int .i64 0) (.int .i64 0) (.int .u32 0) (.int .u32 0) (.int .i64 64) (.int .i64 100) wn (.slice none 0 0)) → V.cell? ⟨b, 0, none⟩ = some (.int .i64 64) ∧ V.cell? ⟨b, 11, none⟩ = some (.slice none 0 0) ∧ V.cell? ⟨b, 12, none⟩ = some (.slice (some ⟨ga, 0, none⟩) 0 0) ∧ V.cell? ⟨b, 13, none⟩ = some (.slice (some ⟨gx, 0, none⟩) 0 0)) := fun V wn hV => ⟨hV.c rfl, hV.c rfl, hV.c rfl, hV.c rfl⟩
  refine plain_region16 (fun V => V.cell? ⟨b, 0, none⟩ = some (.int .i64 64) ∧ V.cell? ⟨b, 11, none⟩ = some (.slice none 0 0) ∧ V.cell? ⟨b, 12, none⟩ = some (.slice (some ⟨ga, 0, none⟩) 0 0) ∧ V.cell? ⟨b, 13, none⟩ = some (.slice (some ⟨gx, 0, none⟩) 0 0)) 18 (by kernel_rfl) (HS.out _ _ H3.out.1) (fun hHeld => ?_)
  refine wpAnyK_take (i := 0) (v := .pointer (some ⟨b, 0, none⟩)) rfl (by kernel_rfl) (by kernel_rfl) (by kernel_rfl) (by kernel_rfl) (fun _ _ _ h => h) (Or.inl ⟨by rfl, fun w hSw => by go_simp⟩) hHeld ?_
  simp only [List.getElem_toArray, List.getElem_cons_zero, Act.put, List.setIfInBounds_toArray, List.set_cons_zero, List.set_cons_succ]
  refine wpAnyK_take (i := 1) (v := .pointer (some ⟨b, 0, none⟩)) rfl (by kernel_rfl) (by kernel_rfl) (by kernel_rfl) (by kernel_rfl) (fun _ _ _ h => h) (Or.inl ⟨by rfl, fun w hSw => by go_simp⟩) hHeld ?_
  simp only [List.getElem_toArray, List.getElem_cons_zero, List.getElem_cons_succ, Act.put, List.setIfInBounds_toArray, List.set_cons_zero, List.set_cons_succ]
  refine wpAnyK_take (i := 2) (v := .pointer (some ⟨b, 0, none⟩)) rfl (by kernel_rfl) (by kernel_rfl) (by kernel_rfl) (by kernel_rfl) (fun _ _ _ h => h) (Or.inl ⟨by rfl, fun w hSw => by go_simp⟩) hHeld ?_
  simp only [List.getElem_toArray, List.getElem_cons_zero, List.getElem_cons_succ, Act.put, List.setIfInBounds_toArray, List.set_cons_zero, List.set_cons_succ]
  refine wpAnyK_take (i := 3) (v := .pointer (some ⟨b, 11, none⟩)) rfl (by kernel_rfl) (by kernel_rfl) (by kernel_rfl) (by kernel_rfl) (fun _ _ _ h => h) (Or.inl ⟨by rfl, fun w hSw => by go_simp⟩) hHeld ?_
  simp only [List.getElem_toArray, List.getElem_cons_zero, List.getElem_cons_succ, Act.put, List.setIfInBounds_toArray, List.set_cons_zero, List.set_cons_succ]
  refine wpAnyK_take (i := 4) (v := .agg #[.slice none 0 0, .slice (some ⟨ga, 0, none⟩) 0 0, .slice (some ⟨gx, 0, none⟩) 0 0]) rfl (by kernel_rfl) (by kernel_rfl) (by kernel_rfl) (by kernel_rfl) (fun _ _ _ h => h) (Or.inl ⟨by rfl, fun w hSw => by go_simp⟩) hHeld ?_
  simp only [List.getElem_toArray, List.getElem_cons_zero, List.getElem_cons_succ, Act.put, List.setIfInBounds_toArray, List.set_cons_zero, List.set_cons_succ]
  refine wpAnyK_take (i := 5) (v := .pointer (some ⟨b, 0, none⟩)) rfl (by kernel_rfl) (by kernel_rfl) (by kernel_rfl) (by kernel_rfl) (fun _ _ _ h => h) (Or.inl ⟨by rfl, fun w hSw => by go_simp⟩) hHeld ?_
  simp only [List.getElem_toArray, List.getElem_cons_zero, List.getElem_cons_succ, Act.put, List.setIfInBounds_toArray, List.set_cons_zero, List.set_cons_succ]
  refine wpAnyK_take (i := 6) (v := .pointer (some ⟨b, 0, none⟩)) rfl (by kernel_rfl) (by kernel_rfl) (by kernel_rfl) (by kernel_rfl) (fun _ _ _ h => h) (Or.inl ⟨by rfl, fun w hSw => by go_simp⟩) hHeld ?_
  simp only [List.getElem_toArray, List.getElem_cons_zero, List.getElem_cons_succ, Act.put, List.setIfInBounds_toArray, List.set_cons_zero, List.set_cons_succ]
  refine wpAnyK_take (i := 7) (v := .pointer (some ⟨b, 0, none⟩)) rfl (by kernel_rfl) (by kernel_rfl) (by kernel_rfl) (by kernel_rfl) (fun _ _ _ h => h) (Or.inl ⟨by rfl, fun w hSw => by go_simp⟩) hHeld ?_
  simp only [List.getElem_toArray, List.getElem_cons_zero, List.getElem_cons_succ, Act.put, List.setIfInBounds_toArray, List.set_cons_zero, List.set_cons_succ]
  refine wpAnyK_take (i := 8) (v := .pointer (some ⟨b, 0, none⟩)) rfl (by kernel_rfl) (by kernel_rfl) (by kernel_rfl) (by kernel_rfl) (fun _ _ _ h => h) (Or.inl ⟨by rfl, fun w hSw => by go_simp⟩) hHeld ?_
  simp only [List.getElem_toArray, List.getElem_cons_zero, List.getElem_cons_succ, Act.put, List.setIfInBounds_toArray, List.set_cons_zero, List.set_cons_succ]
  refine wpAnyK_take (i := 9) (v := .int .i64 64) rfl (by kernel_rfl) (by kernel_rfl) (by kernel_rfl) (by kernel_rfl) (fun _ _ _ h => h) (Or.inl ⟨by rfl, fun w hSw => by go_simp⟩) hHeld ?_
  simp only [List.getElem_toArray, List.getElem_cons_zero, List.getElem_cons_succ, Act.put, List.setIfInBounds_toArray, List.set_cons_zero, List.set_cons_succ]
  refine wpAnyK_one (i := 10) (by kernel_rfl) rfl (fun K hK => ?_)
  (try simp only [List.getElem_toArray, List.getElem_cons_zero, List.getElem_cons_succ, Act.put, List.setIfInBounds_toArray, List.set_cons_zero, List.set_cons_succ])
  go_simp
  refine (pcut20 ga gx w2.drew).mono ?_
  rintro e4 w4 ⟨wa, wc, rfl, b4⟩
  have H4 : Hid (Ma20 w4 b (mk20 (.int .i64 64) (.int .i64 100) (.int .i64 10) (.bool false) (.int .i64 100) (.slice none 0 0) (.slice none 0 0) (.slice none 0 0) (.slice (some ⟨ga, 0, none⟩) 0 0) (.slice (some ⟨gx, 0, none⟩) 0 0) (.int .i64 0) (.int .i64 0) (.int .u32 0) (.int .u32 0) (.int .i64 64) (.int .i64 100) (.slice none 0 0) (.slice none 0 0)) ∧ Kp (fun k => k = b) w w4) := ⟨H3.out.1.old b4, H3.out.2.trans (Kp.of_below (S := fun _ => False) b4) (fun _ _ x => x.elim)⟩
  clear b4
  refine hK.out _ _ (fun _ => HS.out _ _ H4.out.1) (fun hHeld0 => ?_)
  have hHeld := hHeld0 (by decide)
  clear hHeld0 hK K
  (try simp only [List.getElem_toArray, List.getElem_cons_zero, List.getElem_cons_succ, Act.put, List.setIfInBounds_toArray, List.set_cons_zero, List.set_cons_succ])
  refine wpAnyK_take (i := 11) (v := .slice wa 0 wc) rfl (by kernel_rfl) (by kernel_rfl) (by kernel_rfl) (by kernel_rfl) (fun _ _ _ h => h) (Or.inl ⟨by rfl, fun w hSw => by go_simp⟩) hHeld ?_
  simp only [List.getElem_toArray, List.getElem_cons_zero, List.getElem_cons_succ, Act.put, List.setIfInBounds_toArray, List.set_cons_zero, List.set_cons_succ]
  refine wpAnyK_take (i := 12) (v := .int .i64 0) rfl (by kernel_rfl) (by kernel_rfl) (by kernel_rfl) (by kernel_rfl) (fun _ _ _ h => h) (Or.inl ⟨by rfl, fun w hSw => by go_simp⟩) hHeld ?_
  simp only [List.getElem_toArray, List.getElem_cons_zero, List.getElem_cons_succ, Act.put, List.setIfInBounds_toArray, List.set_cons_zero, List.set_cons_succ]
  refine wpAnyK_one (i := 13) (by kernel_rfl) rfl (fun K hK => ?_)
  (try simp only [List.getElem_toArray, List.getElem_cons_zero, List.getElem_cons_succ, Act.put, List.setIfInBounds_toArray, List.set_cons_zero, List.set_cons_succ])
  go_simp
  refine (pgot20w _ w4).mono ?_
  rintro e5 w5 ⟨rfl, hw5⟩
  subst w5
  refine hK.out _ _ (fun _ => HS.out _ _ H4.out.1) (fun hHeld0 => ?_)
  have hHeld := hHeld0 (by decide)
  clear hHeld0 hK K
  (try simp only [List.getElem_toArray, List.getElem_cons_zero, List.getElem_cons_succ, Act.put, List.setIfInBounds_toArray, List.set_cons_zero, List.set_cons_succ])
  refine wpAnyK_take (i := 14) (v := .pointer (some ⟨b, 0, none⟩)) rfl (by kernel_rfl) (by kernel_rfl) (by kernel_rfl) (by kernel_rfl) (fun _ _ _ h => h) (Or.inl ⟨by rfl, fun w hSw => by go_simp⟩) hHeld ?_
  simp only [List.getElem_toArray, List.getElem_cons_zero, List.getElem_cons_succ, Act.put, List.setIfInBounds_toArray, List.set_cons_zero, List.set_cons_succ]
  refine wpAnyK_take (i := 15) (v := .pointer (some ⟨b, 14, none⟩)) rfl (by kernel_rfl) (by kernel_rfl) (by kernel_rfl) (by kernel_rfl) (fun _ _ _ h => h) (Or.inl ⟨by rfl, fun w hSw => by go_simp⟩) hHeld ?_
  simp only [List.getElem_toArray, List.getElem_cons_zero, List.getElem_cons_succ, Act.put, List.setIfInBounds_toArray, List.set_cons_zero, List.set_cons_succ]
  refine wpAnyK_take (i := 16) (v := .pointer (some ⟨b, 20, none⟩)) rfl (by kernel_rfl) (by kernel_rfl) (by kernel_rfl) (by kernel_rfl) (fun _ _ _ h => h) (Or.inl ⟨by rfl, fun w hSw => by go_simp⟩) hHeld ?_
  simp only [List.getElem_toArray, List.getElem_cons_zero, List.getElem_cons_succ, Act.put, List.setIfInBounds_toArray, List.set_cons_zero, List.set_cons_succ]
  have d20 := H4.out.1.c (i := 20) rfl
  have f20 := H4.out.1.f (i := 20)
  have m9 : Ma20 (w4.setCell ⟨b, 20, none⟩ (.slice wa 0 wc)) b (mk20 (.int .i64 64) (.int .i64 100) (.int .i64 10) (.bool false) (.int .i64 100) (.slice none 0 0) (.slice none 0 0) (.slice none 0 0) (.slice (some ⟨ga, 0, none⟩) 0 0) (.slice (some ⟨gx, 0, none⟩) 0 0) (.int .i64 0) (.int .i64 0) (.int .u32 0) (.int .u32 0) (.int .i64 64) (.int .i64 100) (.slice wa 0 wc) (.slice none 0 0)) := H4.out.1.set (i := 20) (.slice wa 0 wc)
  have H9 : Hid (Ma20 (w4.setCell ⟨b, 20, none⟩ (.slice wa 0 wc)) b (mk20 (.int .i64 64) (.int .i64 100) (.int .i64 10) (.bool false) (.int .i64 100) (.slice none 0 0) (.slice none 0 0) (.slice none 0 0) (.slice (some ⟨ga, 0, none⟩) 0 0) (.slice (some ⟨gx, 0, none⟩) 0 0) (.int .i64 0) (.int .i64 0) (.int .u32 0) (.int .u32 0) (.int .i64 64) (.int .i64 100) (.slice wa 0 wc) (.slice none 0 0)) ∧ Kp (fun k => k = b) w (w4.setCell ⟨b, 20, none⟩ (.slice wa 0 wc))) := ⟨m9, H4.out.2.trans (Kp.set (S := fun k => k = b) rfl _) (fun _ _ x => x)⟩
  clear m9
  refine wpAnyK_one (i := 17) (by kernel_rfl) rfl (fun K hK => ?_)
  simp only [List.getElem_toArray, List.getElem_cons_zero, List.getElem_cons_succ, Act.put]
  go_simp
  refine hK.out _ _ (fun _ => HS.out _ _ H9.out.1) (fun _ => ?_)
  clear hK K
  (try simp only [List.getElem_toArray, List.getElem_cons_zero, List.getElem_cons_succ, Act.put, List.setIfInBounds_toArray, List.set_cons_zero, List.set_cons_succ])
  refine wpAnyK_done (by kernel_rfl) ?_ _
  go_end0
  exact ⟨rfl, ⟨wa, wc, H9.out.1⟩, H9.out.2⟩
set_option maxRecDepth 100000 in
set_option maxHeartbeats 8000000 in
theorem pwrt20 (b ga gx : Nat) (wa : Option Addr) (wc : Nat) (w : World) (ht : Tab w) (h : Ma20 w b (mk20 (.int .i64 64) (.int .i64 100) (.int .i64 10) (.bool false) (.int .i64 100) (.slice none 0 0) (.slice none 0 0) (.slice none 0 0) (.slice (some ⟨ga, 0, none⟩) 0 0) (.slice (some ⟨gx, 0, none⟩) 0 0) (.int .i64 0) (.int .i64 0) (.int .u32 0) (.int .u32 0) (.int .i64 64) (.int .i64 100) (.slice wa 0 wc) (.slice none 0 0))) :
    Calls Tryz.prog 18 #[.pointer (some ⟨b, 0, none⟩)] w fun e w' => e = .returned (.tuple #[]) ∧ (∃ p c, Ma20 w' b (mk20 (.int .i64 64) (.int .i64 100) (.int .i64 10) (.bool false) (.int .i64 100) (.slice none 0 0) (.slice none 0 0) (.slice none 0 0) (.slice (some ⟨ga, 0, none⟩) 0 0) (.slice (some ⟨gx, 0, none⟩) 0 0) (.int .i64 0) (.int .i64 0) (.int .u32 0) (.int .u32 0) (.int .i64 64) (.int .i64 100) (.slice wa 0 wc) (.slice p 25 c)) ∧ w'.ownsRow w.heap.size 5 1 (.slice p 25 c) 25 ((sum18 (sum18 (hd18 h018))).map (Value.int .u8))) ∧ Kp (fun k => k = b) w w' := by
  have hlt := (Array.getElem?_eq_some_iff.1 h).1
  have HL : Hid (b < w.heap.size) := hlt
  have HM : Hid (Ma20 w.drew b (mk20 (.int .i64 64) (.int .i64 100) (.int .i64 10) (.bool false) (.int .i64 100) (.slice none 0 0) (.slice none 0 0) (.slice none 0 0) (.slice (some ⟨ga, 0, none⟩) 0 0) (.slice (some ⟨gx, 0, none⟩) 0 0) (.int .i64 0) (.int .i64 0) (.int .u32 0) (.int .u32 0) (.int .i64 64) (.int .i64 100) (.slice wa 0 wc) (.slice none 0 0))) := h
  have EN : Hid (Calls Tryz.prog 38 #[.agg #[.int .i64 0, .int .i64 0, .int .u32 0, .int .u32 0, .int .i64 64, .int .i64 100], .agg #[.int .i64 100, .int .i64 10, .bool false, .int .i64 100], .slice wa 0 wc] w.drew (HdQ18 w.drew (sum18 (sum18 (hd18 h018))) 0)) := penc20 wa wc w.drew ht.drew
  have HN : Hid ((sum18 (sum18 (hd18 h018))).length = 25) := by show _ = _; rw [sum18_len, sum18_len]; rfl
  have HS : Hid (∀ V pp, Ma20 V b (mk20 (.int .i64 64) (.int .i64 100) (.int .i64 10) (.bool false) (.int .i64 100) (.slice none 0 0) (.slice none 0 0) (.slice none 0 0) (.slice (some ⟨ga, 0, none⟩) 0 0) (.slice (some ⟨gx, 0, none⟩) 0 0) (.int .i64 0) (.int .i64 0) (.int .u32 0) (.int .u32 0) (.int .i64 64) (.int .i64 100) (.slice wa 0 wc) pp) → V.cell? ⟨b, 1, none⟩ = some (.int .i64 100) ∧ V.cell? ⟨b, 2, none⟩ = some (.int .i64 10) ∧ V.cell? ⟨b, 3, none⟩ = some (.bool false) ∧ V.cell? ⟨b, 4, none⟩ = some (.int .i64 100) ∧ V.cell? ⟨b, 14, none⟩ = some (.int .i64 0) ∧ V.cell? ⟨b, 15, none⟩ = some (.int .i64 0) ∧ V.cell? ⟨b, 16, none⟩ = some (.int .u32 0) ∧ V.cell? ⟨b, 17, none⟩ = some (.int .u32 0) ∧ V.cell? ⟨b, 18, none⟩ = some (.int .i64 64) ∧ V.cell? ⟨b, 19, none⟩ = some (.int .i64 100) ∧ V.cell? ⟨b, 20, none⟩ = some (.slice wa 0 wc)) := fun V pp hV => ⟨hV.c rfl, hV.c rfl, hV.c rfl, hV.c rfl, hV.c rfl, hV.c rfl, hV.c rfl, hV.c rfl, hV.c rfl, hV.c rfl, hV.c rfl⟩
  generalize sum18 (sum18 (hd18 h018)) = L at *
  clear h ht hlt
  go_enter Tryz.func18, Tryz.ntmps18
  go_wp2_with fail
  refine plain_region16 (fun V => V.cell? ⟨b, 1, none⟩ = some (.int .i64 100) ∧ V.cell? ⟨b, 2, none⟩ = some (.int .i64 10) ∧ V.cell? ⟨b, 3, none⟩ = some (.bool false) ∧ V.cell? ⟨b, 4, none⟩ = some (.int .i64 100) ∧ V.cell? ⟨b, 14, none⟩ = some (.int .i64 0) ∧ V.cell? ⟨b, 15, none⟩ = some (.int .i64 0) ∧ V.cell? ⟨b, 16, none⟩ = some (.int .u32 0) ∧ V.cell? ⟨b, 17, none⟩ = some (.int .u32 0) ∧ V.cell? ⟨b, 18, none⟩ = some (.int .i64 64) ∧ V.cell? ⟨b, 19, none⟩ = some (.int .i64 100) ∧ V.cell? ⟨b, 20, none⟩ = some (.slice wa 0 wc)) 23 (by kernel_rfl) (HS.out _ _ HM.out) (fun hHeld => ?_)
  refine wpAnyK_take (i := 0) (v := .pointer (some ⟨b, 0, none⟩)) rfl (by kernel_rfl) (by kernel_rfl) (by kernel_rfl) (by kernel_rfl) (fun _ _ _ h => h) (Or.inl ⟨by rfl, fun w hSw => by go_simp⟩) hHeld ?_
  simp only [List.getElem_toArray, List.getElem_cons_zero, Act.put, List.setIfInBounds_toArray, List.set_cons_zero, List.set_cons_succ]
  refine wpAnyK_take (i := 1) (v := .pointer (some ⟨b, 0, none⟩)) rfl (by kernel_rfl) (by kernel_rfl) (by kernel_rfl) (by kernel_rfl) (fun _ _ _ h => h) (Or.inl ⟨by rfl, fun w hSw => by go_simp⟩) hHeld ?_
  simp only [List.getElem_toArray, List.getElem_cons_zero, List.getElem_cons_succ, Act.put, List.setIfInBounds_toArray, List.set_cons_zero, List.set_cons_succ]
  refine wpAnyK_take (i := 2) (v := .pointer (some ⟨b, 0, none⟩)) rfl (by kernel_rfl) (by kernel_rfl) (by kernel_rfl) (by kernel_rfl) (fun _ _ _ h => h) (Or.inl ⟨by rfl, fun w hSw => by go_simp⟩) hHeld ?_
  simp only [List.getElem_toArray, List.getElem_cons_zero, List.getElem_cons_succ, Act.put, List.setIfInBounds_toArray, List.set_cons_zero, List.set_cons_succ]
  refine wpAnyK_take (i := 3) (v := .pointer (some ⟨b, 14, none⟩)) rfl (by kernel_rfl) (by kernel_rfl) (by kernel_rfl) (by kernel_rfl) (fun _ _ _ h => h) (Or.inl ⟨by rfl, fun w hSw => by go_simp⟩) hHeld ?_
  simp only [List.getElem_toArray, List.getElem_cons_zero, List.getElem_cons_succ, Act.put, List.setIfInBounds_toArray, List.set_cons_zero, List.set_cons_succ]
  refine wpAnyK_take (i := 4) (v := .pointer (some ⟨b, 14, none⟩)) rfl (by kernel_rfl) (by kernel_rfl) (by kernel_rfl) (by kernel_rfl) (fun _ _ _ h => h) (Or.inl ⟨by rfl, fun w hSw => by go_simp⟩) hHeld ?_
  simp only [List.getElem_toArray, List.getElem_cons_zero, List.getElem_cons_succ, Act.put, List.setIfInBounds_toArray, List.set_cons_zero, List.set_cons_succ]
  refine wpAnyK_take (i := 5) (v := .agg #[.int .i64 0, .int .i64 0, .int .u32 0, .int .u32 0, .int .i64 64, .int .i64 100]) rfl (by kernel_rfl) (by kernel_rfl) (by kernel_rfl) (by kernel_rfl) (fun _ _ _ h => h) (Or.inl ⟨by rfl, fun w hSw => by go_simp⟩) hHeld ?_
  simp only [List.getElem_toArray, List.getElem_cons_zero, List.getElem_cons_succ, Act.put, List.setIfInBounds_toArray, List.set_cons_zero, List.set_cons_succ]
  refine wpAnyK_take (i := 6) (v := .pointer (some ⟨b, 0, none⟩)) rfl (by kernel_rfl) (by kernel_rfl) (by kernel_rfl) (by kernel_rfl) (fun _ _ _ h => h) (Or.inl ⟨by rfl, fun w hSw => by go_simp⟩) hHeld ?_
  simp only [List.getElem_toArray, List.getElem_cons_zero, List.getElem_cons_succ, Act.put, List.setIfInBounds_toArray, List.set_cons_zero, List.set_cons_succ]
  refine wpAnyK_take (i := 7) (v := .pointer (some ⟨b, 0, none⟩)) rfl (by kernel_rfl) (by kernel_rfl) (by kernel_rfl) (by kernel_rfl) (fun _ _ _ h => h) (Or.inl ⟨by rfl, fun w hSw => by go_simp⟩) hHeld ?_
  simp only [List.getElem_toArray, List.getElem_cons_zero, List.getElem_cons_succ, Act.put, List.setIfInBounds_toArray, List.set_cons_zero, List.set_cons_succ]
  refine wpAnyK_take (i := 8) (v := .pointer (some ⟨b, 0, none⟩)) rfl (by kernel_rfl) (by kernel_rfl) (by kernel_rfl) (by kernel_rfl) (fun _ _ _ h => h) (Or.inl ⟨by rfl, fun w hSw => by go_simp⟩) hHeld ?_
  simp only [List.getElem_toArray, List.getElem_cons_zero, List.getElem_cons_succ, Act.put, List.setIfInBounds_toArray, List.set_cons_zero, List.set_cons_succ]
  refine wpAnyK_take (i := 9) (v := .pointer (some ⟨b, 1, none⟩)) rfl (by kernel_rfl) (by kernel_rfl) (by kernel_rfl) (by kernel_rfl) (fun _ _ _ h => h) (Or.inl ⟨by rfl, fun w hSw => by go_simp⟩) hHeld ?_
  simp only [List.getElem_toArray, List.getElem_cons_zero, List.getElem_cons_succ, Act.put, List.setIfInBounds_toArray, List.set_cons_zero, List.set_cons_succ]
  refine wpAnyK_take (i := 10) (v := .agg #[.int .i64 100, .int .i64 10, .bool false, .int .i64 100]) rfl (by kernel_rfl) (by kernel_rfl) (by kernel_rfl) (by kernel_rfl) (fun _ _ _ h => h) (Or.inl ⟨by rfl, fun w hSw => by go_simp⟩) hHeld ?_
  simp only [List.getElem_toArray, List.getElem_cons_zero, List.getElem_cons_succ, Act.put, List.setIfInBounds_toArray, List.set_cons_zero, List.set_cons_succ]
  refine wpAnyK_take (i := 11) (v := .pointer (some ⟨b, 0, none⟩)) rfl (by kernel_rfl) (by kernel_rfl) (by kernel_rfl) (by kernel_rfl) (fun _ _ _ h => h) (Or.inl ⟨by rfl, fun w hSw => by go_simp⟩) hHeld ?_
  simp only [List.getElem_toArray, List.getElem_cons_zero, List.getElem_cons_succ, Act.put, List.setIfInBounds_toArray, List.set_cons_zero, List.set_cons_succ]
  refine wpAnyK_take (i := 12) (v := .pointer (some ⟨b, 0, none⟩)) rfl (by kernel_rfl) (by kernel_rfl) (by kernel_rfl) (by kernel_rfl) (fun _ _ _ h => h) (Or.inl ⟨by rfl, fun w hSw => by go_simp⟩) hHeld ?_
  simp only [List.getElem_toArray, List.getElem_cons_zero, List.getElem_cons_succ, Act.put, List.setIfInBounds_toArray, List.set_cons_zero, List.set_cons_succ]
  refine wpAnyK_take (i := 13) (v := .pointer (some ⟨b, 14, none⟩)) rfl (by kernel_rfl) (by kernel_rfl) (by kernel_rfl) (by kernel_rfl) (fun _ _ _ h => h) (Or.inl ⟨by rfl, fun w hSw => by go_simp⟩) hHeld ?_
  simp only [List.getElem_toArray, List.getElem_cons_zero, List.getElem_cons_succ, Act.put, List.setIfInBounds_toArray, List.set_cons_zero, List.set_cons_succ]
  refine wpAnyK_take (i := 14) (v := .pointer (some ⟨b, 20, none⟩)) rfl (by kernel_rfl) (by kernel_rfl) (by kernel_rfl) (by kernel_rfl) (fun _ _ _ h => h) (Or.inl ⟨by rfl, fun w hSw => by go_simp⟩) hHeld ?_
  simp only [List.getElem_toArray, List.getElem_cons_zero, List.getElem_cons_succ, Act.put, List.setIfInBounds_toArray, List.set_cons_zero, List.set_cons_succ]
  refine wpAnyK_take (i := 15) (v := .slice wa 0 wc) rfl (by kernel_rfl) (by kernel_rfl) (by kernel_rfl) (by kernel_rfl) (fun _ _ _ h => h) (Or.inl ⟨by rfl, fun w hSw => by go_simp⟩) hHeld ?_
  simp only [List.getElem_toArray, List.getElem_cons_zero, List.getElem_cons_succ, Act.put, List.setIfInBounds_toArray, List.set_cons_zero, List.set_cons_succ]
  refine wpAnyK_one (i := 16) (by kernel_rfl) rfl (fun K hK => ?_)
  (try simp only [List.getElem_toArray, List.getElem_cons_zero, List.getElem_cons_succ, Act.put, List.setIfInBounds_toArray, List.set_cons_zero, List.set_cons_succ])
  go_simp
  refine EN.out.mono ?_
  rintro e4 w4 ⟨p, c, rfl, o4, b4⟩
  have hb4 : Below w.heap.size w.drew w4 := b4
  have H4 : Hid (Ma20 w4 b (mk20 (.int .i64 64) (.int .i64 100) (.int .i64 10) (.bool false) (.int .i64 100) (.slice none 0 0) (.slice none 0 0) (.slice none 0 0) (.slice (some ⟨ga, 0, none⟩) 0 0) (.slice (some ⟨gx, 0, none⟩) 0 0) (.int .i64 0) (.int .i64 0) (.int .u32 0) (.int .u32 0) (.int .i64 64) (.int .i64 100) (.slice wa 0 wc) (.slice none 0 0)) ∧ Kp (fun k => k = b) w w4) := ⟨HM.out.old b4, ((Kp.refl _ _).drew).trans (Kp.of_below (S := fun _ => False) b4) (fun _ _ x => x.elim)⟩
  rw [HN.out] at o4 ⊢
  have o4 : w4.ownsRow w.heap.size 5 1 (.slice p 25 c) 25 (L.map (Value.int .u8)) := o4
  have HO := Hid.mk20 o4
  clear b4 hb4 o4 EN
  refine hK.out _ _ (fun _ => HS.out _ _ H4.out.1) (fun hHeld0 => ?_)
  have hHeld := hHeld0 (by decide)
  clear hHeld0 hK K
  (try simp only [List.getElem_toArray, List.getElem_cons_zero, List.getElem_cons_succ, Act.put, List.setIfInBounds_toArray, List.set_cons_zero, List.set_cons_succ])
  refine wpAnyK_take (i := 17) (v := .slice p 25 c) rfl (by kernel_rfl) (by kernel_rfl) (by kernel_rfl) (by kernel_rfl) (fun _ _ _ h => h) (Or.inl ⟨by rfl, fun w hSw => by go_simp⟩) hHeld ?_
  simp only [List.getElem_toArray, List.getElem_cons_zero, List.getElem_cons_succ, Act.put, List.setIfInBounds_toArray, List.set_cons_zero, List.set_cons_succ]
  refine wpAnyK_take (i := 18) (v := .int .i64 0) rfl (by kernel_rfl) (by kernel_rfl) (by kernel_rfl) (by kernel_rfl) (fun _ _ _ h => h) (Or.inl ⟨by rfl, fun w hSw => by go_simp⟩) hHeld ?_
  simp only [List.getElem_toArray, List.getElem_cons_zero, List.getElem_cons_succ, Act.put, List.setIfInBounds_toArray, List.set_cons_zero, List.set_cons_succ]
  refine wpAnyK_one (i := 19) (by kernel_rfl) rfl (fun K hK => ?_)
  (try simp only [List.getElem_toArray, List.getElem_cons_zero, List.getElem_cons_succ, Act.put, List.setIfInBounds_toArray, List.set_cons_zero, List.set_cons_succ])
  go_simp
  refine (pgot20b _ w4).mono ?_
  rintro e5 w5 ⟨rfl, hw5⟩
  subst w5
  refine hK.out _ _ (fun _ => HS.out _ _ H4.out.1) (fun hHeld0 => ?_)
  have hHeld := hHeld0 (by decide)
  clear hHeld0 hK K
  (try simp only [List.getElem_toArray, List.getElem_cons_zero, List.getElem_cons_succ, Act.put, List.setIfInBounds_toArray, List.set_cons_zero, List.set_cons_succ])
  refine wpAnyK_take (i := 20) (v := .pointer (some ⟨b, 0, none⟩)) rfl (by kernel_rfl) (by kernel_rfl) (by kernel_rfl) (by kernel_rfl) (fun _ _ _ h => h) (Or.inl ⟨by rfl, fun w hSw => by go_simp⟩) hHeld ?_
  simp only [List.getElem_toArray, List.getElem_cons_zero, List.getElem_cons_succ, Act.put, List.setIfInBounds_toArray, List.set_cons_zero, List.set_cons_succ]
  refine wpAnyK_take (i := 21) (v := .pointer (some ⟨b, 21, none⟩)) rfl (by kernel_rfl) (by kernel_rfl) (by kernel_rfl) (by kernel_rfl) (fun _ _ _ h => h) (Or.inl ⟨by rfl, fun w hSw => by go_simp⟩) hHeld ?_
  simp only [List.getElem_toArray, List.getElem_cons_zero, List.getElem_cons_succ, Act.put, List.setIfInBounds_toArray, List.set_cons_zero, List.set_cons_succ]
  have d21 := H4.out.1.c (i := 21) rfl
  have f21 := H4.out.1.f (i := 21)
  have m9 : Ma20 (w4.setCell ⟨b, 21, none⟩ (.slice p 25 c)) b (mk20 (.int .i64 64) (.int .i64 100) (.int .i64 10) (.bool false) (.int .i64 100) (.slice none 0 0) (.slice none 0 0) (.slice none 0 0) (.slice (some ⟨ga, 0, none⟩) 0 0) (.slice (some ⟨gx, 0, none⟩) 0 0) (.int .i64 0) (.int .i64 0) (.int .u32 0) (.int .u32 0) (.int .i64 64) (.int .i64 100) (.slice wa 0 wc) (.slice p 25 c)) := H4.out.1.set (i := 21) (.slice p 25 c)
  have k9 : Kp (fun k => k = b) w4 (w4.setCell ⟨b, 21, none⟩ (.slice p 25 c)) := Kp.set (S := fun k => k = b) rfl _
  have H9 : Hid (Ma20 (w4.setCell ⟨b, 21, none⟩ (.slice p 25 c)) b (mk20 (.int .i64 64) (.int .i64 100) (.int .i64 10) (.bool false) (.int .i64 100) (.slice none 0 0) (.slice none 0 0) (.slice none 0 0) (.slice (some ⟨ga, 0, none⟩) 0 0) (.slice (some ⟨gx, 0, none⟩) 0 0) (.int .i64 0) (.int .i64 0) (.int .u32 0) (.int .u32 0) (.int .i64 64) (.int .i64 100) (.slice wa 0 wc) (.slice p 25 c)) ∧ (w4.setCell ⟨b, 21, none⟩ (.slice p 25 c)).ownsRow w.heap.size 5 1 (.slice p 25 c) 25 (L.map (Value.int .u8)) ∧ Kp (fun k => k = b) w (w4.setCell ⟨b, 21, none⟩ (.slice p 25 c))) := ⟨m9, own_kp HO.out k9 (fun k hk x => by have := (HO.out.lt k hk).1; have x : k = b := x; have := HL.out; omega), H4.out.2.trans k9 (fun _ _ x => x)⟩
  clear m9 k9
  refine wpAnyK_one (i := 22) (by kernel_rfl) rfl (fun K hK => ?_)
  simp only [List.getElem_toArray, List.getElem_cons_zero, List.getElem_cons_succ, Act.put]
  go_simp
  refine hK.out _ _ (fun _ => HS.out _ _ H9.out.1) (fun _ => ?_)
  clear hK K
  (try simp only [List.getElem_toArray, List.getElem_cons_zero, List.getElem_cons_succ, Act.put, List.setIfInBounds_toArray, List.set_cons_zero, List.set_cons_succ])
  refine wpAnyK_done (by kernel_rfl) ?_ _
  go_end0
  exact ⟨rfl, ⟨p, c, H9.out.1, H9.out.2.1⟩, H9.out.2.2⟩
end Go.Proofs.YtmfpdchfofffeaaGreatDoor

namespace Go.Proofs.YtmfpdchfofffeaaGreatDoor
open Go.RowKit Go.Shelf
set_option linter.unusedVariables false
set_option linter.unusedSimpArgs false
def g020 : Array Value := (mk20 (.int .i64 64) (.int .i64 100) (.int .i64 10) (.bool false) (.int .i64 100) (.slice none 0 0) (.slice none 0 0) (.slice none 0 0) (.slice none 0 0) (.slice none 0 0) (.int .i64 0) (.int .i64 0) (.int .u32 0) (.int .u32 0) (.int .i64 0) (.int .i64 0) (.slice none 0 0) (.slice none 0 0))
/-- What holds ahead of the i-th part. -/
def Gi20 (b B : Nat) : Nat → World → Prop
  | 0 => fun V => Tab V ∧ B ≤ V.heap.size ∧ Ma20 V b g020
  | 1 => fun V => Tab V ∧ B ≤ V.heap.size ∧ Ma20 V b g020
  | 2 => fun V => Tab V ∧ B ≤ V.heap.size ∧ Ma20 V b g020
  | 3 => fun V => Tab V ∧ B ≤ V.heap.size ∧ ∃ ga gx, Ma20 V b (mk20 (.int .i64 64) (.int .i64 100) (.int .i64 10) (.bool false) (.int .i64 100) (.slice none 0 0) (.slice none 0 0) (.slice none 0 0) (.slice (some ⟨ga, 0, none⟩) 0 0) (.slice (some ⟨gx, 0, none⟩) 0 0) (.int .i64 0) (.int .i64 0) (.int .u32 0) (.int .u32 0) (.int .i64 0) (.int .i64 0) (.slice none 0 0) (.slice none 0 0))
  | 4 => fun V => Tab V ∧ B ≤ V.heap.size ∧ ∃ ga gx wa wc, Ma20 V b (mk20 (.int .i64 64) (.int .i64 100) (.int .i64 10) (.bool false) (.int .i64 100) (.slice none 0 0) (.slice none 0 0) (.slice none 0 0) (.slice (some ⟨ga, 0, none⟩) 0 0) (.slice (some ⟨gx, 0, none⟩) 0 0) (.int .i64 0) (.int .i64 0) (.int .u32 0) (.int .u32 0) (.int .i64 64) (.int .i64 100) (.slice wa 0 wc) (.slice none 0 0))
  | _ => fun V => Tab V ∧ B ≤ V.heap.size ∧ ∃ ga gx wa wc p c, Ma20 V b (mk20 (.int .i64 64) (.int .i64 100) (.int .i64 10) (.bool false) (.int .i64 100) (.slice none 0 0) (.slice none 0 0) (.slice none 0 0) (.slice (some ⟨ga, 0, none⟩) 0 0) (.slice (some ⟨gx, 0, none⟩) 0 0) (.int .i64 0) (.int .i64 0) (.int .u32 0) (.int .u32 0) (.int .i64 64) (.int .i64 100) (.slice wa 0 wc) (.slice p 25 c)) ∧ V.ownsRow B 5 1 (.slice p 25 c) 25 ((sum18 (sum18 (hd18 h018))).map (Value.int .u8))
theorem gi20_step (b B : Nat) (hb : b ≠ 0) : ∀ i, i < 5 → ∀ V, Gi20 b B i V → Calls Tryz.prog ([14, 15, 16, 17, 18].getD i 0) #[.pointer (some ⟨b, 0, none⟩)] V fun e V' => e = .returned (.tuple #[]) ∧ Gi20 b B (i + 1) V' ∧ Kp (fun k => k = b) V V' := by
  intro i hi V hV
  rcases (by omega : i = 0 ∨ i = 1 ∨ i = 2 ∨ i = 3 ∨ i = 4) with rfl | rfl | rfl | rfl | rfl
  · obtain ⟨t, h, m⟩ := hV
    refine Calls.mono (pbnd20 b g020 V m rfl rfl) ?_
    rintro e V' ⟨rfl, hv⟩
    subst hv
    exact ⟨rfl, ⟨t, h, m⟩, Kp.refl _ _⟩
  · obtain ⟨t, h, m⟩ := hV
    refine Calls.mono (palw20 b _ _ _ _ _ _ _ _ _ _ _ _ _ V m) ?_
    rintro e V' ⟨rfl, bl⟩
    exact ⟨rfl, ⟨t.old bl, by have := bl.size; omega, m.old bl⟩, (Kp.of_below bl).mono (fun _ _ x => x)⟩
  · obtain ⟨t, h, m⟩ := hV
    refine Calls.mono (pscn20 b _ _ _ _ _ V t hb m) ?_
    rintro e V' ⟨rfl, ⟨ga, gx, m'⟩, k⟩
    exact ⟨rfl, ⟨tab20 t k hb, by have := k.size; omega, ga, gx, m'⟩, k⟩
  · obtain ⟨t, h, ga, gx, m⟩ := hV
    refine Calls.mono (pctt20 b ga gx V m) ?_
    rintro e V' ⟨rfl, ⟨wa, wc, m'⟩, k⟩
    exact ⟨rfl, ⟨tab20 t k hb, by have := k.size; omega, ga, gx, wa, wc, m'⟩, k⟩
  · obtain ⟨t, h, ga, gx, wa, wc, m⟩ := hV
    refine Calls.mono (pwrt20 b ga gx wa wc V t m) ?_
    rintro e V' ⟨rfl, ⟨p, c, m', o⟩, k⟩
    exact ⟨rfl, ⟨tab20 t k hb, by have := k.size; omega, ga, gx, wa, wc, p, c, m', own_base o h⟩, k⟩
def zm20 : Array Value := #[.int .i64 0, .int .i64 0, .int .i64 0, .bool false, .int .i64 0, .slice none 0 0, .int .i64 0, .slice none 0 0, .slice none 0 0, .slice none 0 0, .slice none 0 0, .slice none 0 0, .slice none 0 0, .slice none 0 0, .int .i64 0, .int .i64 0, .int .u32 0, .int .u32 0, .int .i64 0, .int .i64 0, .slice none 0 0, .slice none 0 0]
set_option maxRecDepth 100000 in
set_option maxHeartbeats 8000000 in
theorem pgen20 (w : World) (ht : Tab w) : Calls Tryz.prog 10 #[.slice none 0 0, .slice none 0 0, .agg #[.int .i64 64, .int .i64 100, .int .i64 10, .bool false, .int .i64 100]] w fun e w' => ∃ p c, e = .returned (.tuple #[.slice p 25 c, .int .i64 0]) ∧ w'.ownsRow w.heap.size 5 1 (.slice p 25 c) 25 ((sum18 (sum18 (hd18 h018))).map (Value.int .u8)) ∧ Below w.heap.size w w' := by
  have h0 : 0 < w.heap.size := SegK.lt ht 0 0 rfl (by decide)
  obtain ⟨w1, hw1⟩ : ∃ w1, w1 = w.alloc (.cells #[.int .i64 64, .int .i64 100, .int .i64 10, .bool false, .int .i64 100] 31) := ⟨_, rfl⟩
  have k1 := cb16 w #[.int .i64 64, .int .i64 100, .int .i64 10, .bool false, .int .i64 100] 31
  rw [← hw1] at k1
  obtain ⟨w2, hw2⟩ : ∃ w2, w2 = w1.alloc (.cells zm20 56) := ⟨_, rfl⟩
  have k2 := cb16 w1 zm20 56
  rw [← hw2] at k2
  obtain ⟨b5, hb5⟩ : ∃ x, x = w.heap.size := ⟨_, rfl⟩
  obtain ⟨b8, hb8⟩ : ∃ x, x = w1.heap.size := ⟨_, rfl⟩
  have q8 := k2.cl
  rw [← hb8] at q8
  obtain ⟨w3, hw3⟩ : ∃ w3, w3 = w2.setRow b8 g020 := ⟨_, rfl⟩
  have q83 : Ma20 w3 b8 g020 := by rw [hw3]; exact setRow_heap _ _ _ _ _ _ q8
  have kk3 : Kp (fun k => k = b8) w2 w3 := by rw [hw3]; exact grow20 _ _ _
  obtain ⟨w4, hw4⟩ : ∃ w4, w4 = w3.alloc (.cells #[.nilFunc, .nilFunc, .nilFunc, .nilFunc, .nilFunc] 59) := ⟨_, rfl⟩
  have k4 := cb16 w3 #[.nilFunc, .nilFunc, .nilFunc, .nilFunc, .nilFunc] 59
  rw [← hw4] at k4
  obtain ⟨b9, hb9⟩ : ∃ x, x = w3.heap.size := ⟨_, rfl⟩
  have q9 := k4.cl
  rw [← hb9] at q9
  obtain ⟨w5, hw5⟩ : ∃ w5, w5 = w4.setRow b9 (fv20 [14, 15, 16, 17, 18]) := ⟨_, rfl⟩
  have q95 : w5.heap[b9]? = some (.cells (fv20 [14, 15, 16, 17, 18]) 59 (0, 0)) := by rw [hw5]; exact setRow_heap _ _ _ _ _ _ q9
  have kk5 : Kp (fun k => k = b9) w4 w5 := by rw [hw5]; exact grow20 _ _ _
  have s1 := k1.sz
  have s2 := k2.sz
  have s3 : w3.heap.size = w2.heap.size := by rw [hw3]; simp [World.setRow]
  have s4 := k4.sz
  have s5 : w5.heap.size = w4.heap.size := by rw [hw5]; simp [World.setRow]
  have K : Kp (fun k => w.heap.size ≤ k) w w5 := ((((Kp.of_below (S := fun k => w.heap.size ≤ k) k1.bl).trans (Kp.of_below (S := fun _ => False) k2.bl) (fun _ _ x => x.elim)).trans kk3 (fun k _ x => by have x : k = b8 := x; show w.heap.size ≤ k; omega)).trans (Kp.of_below (S := fun _ => False) k4.bl) (fun _ _ x => x.elim)).trans kk5 (fun k _ x => by have x : k = b9 := x; show w.heap.size ≤ k; omega)
  have B5 : Below w.heap.size w w5 := K.below (fun _ x => x) (Nat.le_refl _)
  have m5 : Ma20 w5 b8 g020 := kk5.heap (q83.old k4.bl) (fun x => by have x : b8 = b9 := x; omega)
  have RU := prun20 b8 b9 5 5 [14, 15, 16, 17, 18] (Gi20 b8 (w5.heap.size + 1)) w5 59 rfl (by decide) (by decide) (by omega) (by omega) q95
    (by
      intro f hf x W
      simp only [List.mem_cons, List.not_mem_nil, or_false] at hf
      rcases hf with rfl | rfl | rfl | rfl | rfl <;> kernel_rfl)
    (fun V hV hl => ⟨(ht.old B5).old hV, hl, m5.old hV⟩)
    (gi20_step b8 _ (by omega))
  have HRU := Hid.mk20 RU
  have HW : Hid (w.alloc (.cells #[.int .i64 64, .int .i64 100, .int .i64 10, .bool false, .int .i64 100] 31) = w1 ∧ w.heap.size = b5 ∧ w1.alloc (.cells #[.int .i64 0, .int .i64 0, .int .i64 0, .bool false, .int .i64 0, .slice none 0 0, .int .i64 0, .slice none 0 0, .slice none 0 0, .slice none 0 0, .slice none 0 0, .slice none 0 0, .slice none 0 0, .slice none 0 0, .int .i64 0, .int .i64 0, .int .u32 0, .int .u32 0, .int .i64 0, .int .i64 0, .slice none 0 0, .slice none 0 0] 56) = w2 ∧ w1.heap.size = b8 ∧ w3.alloc (.cells #[.nilFunc, .nilFunc, .nilFunc, .nilFunc, .nilFunc] 59) = w4 ∧ w3.heap.size = b9 ∧ w2.setRow b8 g020 = w3 ∧ w4.setRow b9 (fv20 [14, 15, 16, 17, 18]) = w5 ∧ b5 + 1 = b8) := ⟨hw1.symm, hb5.symm, hw2.symm, hb8.symm, hw4.symm, hb9.symm, hw3.symm, hw5.symm, by omega⟩
  have HQ : Hid (w2.heap[b8]? = some (.cells zm20 56 (0, 0)) ∧ w4.heap[b9]? = some (.cells #[.nilFunc, .nilFunc, .nilFunc, .nilFunc, .nilFunc] 59 (0, 0))) := ⟨q8, q9⟩
  have HB5 := Hid.mk20 B5
  have q5 := k1.cl
  rw [← hb5] at q5
  have e0 : w1.cell? ⟨b5, 0, none⟩ = some (.int .i64 64) := cell18 q5 rfl
  have e1 : w1.cell? ⟨b5, 1, none⟩ = some (.int .i64 100) := cell18 q5 rfl
  have e2 : w1.cell? ⟨b5, 2, none⟩ = some (.int .i64 10) := cell18 q5 rfl
  have e3 : w1.cell? ⟨b5, 3, none⟩ = some (.bool false) := cell18 q5 rfl
  have e4 : w1.cell? ⟨b5, 4, none⟩ = some (.int .i64 100) := cell18 q5 rfl
  rw [← HW.out.1, ← HW.out.2.1] at e0 e1 e2 e3 e4
  have HSZ : Hid (b8 < w5.heap.size) := (by omega : b8 < w5.heap.size)
  have HN : Hid (w.heap.size ≤ w5.heap.size ∧ w.heap.size < b8) := ⟨B5.size, by omega⟩
  clear hw1 hw2 hw3 hw4 hw5 hb5 hb8 hb9 k1 k2 k4 q8 q9 q83 kk3 kk5 s1 s2 s3 s4 s5 K B5 m5 RU q5 q95 h0 ht
  go_enter Tryz.func10, Tryz.ntmps10
  go_wp2_with (first
    | (rw [HW.out.1, HW.out.2.1, HW.out.2.2.2.2.2.2.2.2, HW.out.2.2.1]; refine wpList_store_row rfl 56 (.tmp 8) (.tmp 14) rfl b8 g020 rfl rfl _ _ HQ.out.1 (by kernel_rfl) rfl (by kernel_rfl) ?_; rw [HW.out.2.2.2.2.2.2.1])
    | (rw [HW.out.2.2.2.2.1, HW.out.2.2.2.2.2.1]; refine wpList_store_row rfl 59 (.tmp 9) (.tmp 15) rfl b9 (fv20 [14, 15, 16, 17, 18]) rfl rfl _ _ HQ.out.2 (by kernel_rfl) rfl (by kernel_rfl) ?_; rw [HW.out.2.2.2.2.2.2.2.1]))
  refine HRU.out.mono ?_
  rintro e1 w6 ⟨rfl, V, ⟨-, -, ga, gx, wa, wc, p, c, m6, o6⟩, kv, kw, hsz⟩
  have hne : b8 ≠ w5.heap.size := by have q := HSZ.out; omega
  have m7 : Ma20 w6 b8 _ := kv.heap m6 (fun x => hne x)
  have c21 := m7.c (i := 21) rfl
  have o7 : w6.ownsRow w.heap.size 5 1 (.slice p 25 c) 25 ((sum18 (sum18 (hd18 h018))).map (Value.int .u8)) := own_base (own_kp o6 kv (fun k hk x => by have := (o6.lt k hk).1; have x : k = w5.heap.size := x; omega)) (by have := HN.out.1; omega)
  have B7 : Below w.heap.size w w6 := by
    have k7 : Kp (fun k => w.heap.size ≤ k) w w6 := (Kp.of_below (S := fun k => w.heap.size ≤ k) HB5.out).trans kw (fun k _ x => by have x : k = b8 := x; have := HN.out.2; show w.heap.size ≤ k; omega)
    exact k7.below (fun _ x => x) (Nat.le_refl _)
  have HP : Hid (w6.ownsRow w.heap.size 5 1 (.slice p 25 c) 25 ((sum18 (sum18 (hd18 h018))).map (Value.int .u8)) ∧ Below w.heap.size w w6) := ⟨o7, B7⟩
  clear m6 o6 kv kw hsz m7 o7 B7 hne e0 e1 e2 e3 e4
  go_wp2_with fail
  go_ret2
  exact ⟨p, c, rfl, HP.out.1, HP.out.2⟩
end Go.Proofs.YtmfpdchfofffeaaGreatDoor

namespace Go.Proofs.YtmfpdchfofffeaaGreatDoor
open Go.RowKit Go.Shelf
set_option linter.unusedVariables false
set_option linter.unusedSimpArgs false
theorem results_ccc18 {P : Program} {fn : Func} {p q r : Tmp} {ty tz tv : TypeId} (h : fn.results = #[.cell p ty, .cell q tz, .cell r tv]) (tmps : Array Value) (w : World) (g : Nat) (t : TypeId) (cs : Array Value) (fr : Nat × Nat) (d : TypeDesc)
    (hp : tmps.getD p undef = .pointer (some ⟨g, 0, none⟩)) (hg : w.heap[g]? = some (.cells cs t fr))
    (hu : P.underlying ty = some d) (hd : (match d with | .struct _ | .array _ _ => true | _ => false) = true) (hi : (P.info? ty).map (·.size) = some cs.size)
    (g2 : Nat) (x : Value) (hq : tmps.getD q undef = .pointer (some ⟨g2, 0, none⟩)) (hx : (loadVar tz ⟨g2, 0, none⟩).run P w = .ok x w)
    (g3 : Nat) (y : Value) (hr : tmps.getD r undef = .pointer (some ⟨g3, 0, none⟩)) (hy : (loadVar tv ⟨g3, 0, none⟩).run P w = .ok y w) :
    (results fn tmps).run P w = .ok (.tuple #[.agg cs, x, y]) w := by
  have e : (results fn tmps).run P w = ((asAddr (tmps.getD p undef)).run P w).andThen fun a w₁ => ((loadVar ty a).run P w₁).andThen fun x w₂ => ((asAddr (tmps.getD q undef)).run P w₂).andThen fun a' w₃ => ((loadVar tz a').run P w₃).andThen fun x' w₄ => ((asAddr (tmps.getD r undef)).run P w₄).andThen fun a'' w₅ => ((loadVar tv a'').run P w₅).andThen fun x'' w₆ => .ok (.tuple #[x, x', x'']) w₆ := by
    simp only [results, h]
    simp [Sem.run_bind, Result.andThen]
  rw [e, hp, hq, hr]
  simp [asAddr, Result.andThen, run_loadVar_row w g t ty cs fr d hg hu hd hi, hx, hy]
end Go.Proofs.YtmfpdchfofffeaaGreatDoor

namespace Go.Proofs.YtmfpdchfofffeaaGreatDoor
open Go.RowKit
set_option linter.unusedVariables false
/-- What was written is taken up, whatever stands behind. -/
theorem dec_enc : ∀ (f c : Nat) (u v : Int) (rest : List Int), c + f = 9 → 0 ≤ v → v < 2 * 128 ^ f → (c = 0 ∨ 0 < v) → decL u c (encL f v ++ rest) = (u + v * 128 ^ c, (c : Int) + ((encL f v).length : Int), 0)
  | 0, c, u, v, rest, hc, h0, h1, h2 => by
    obtain rfl : c = 9 := by omega
    simp at h1
    have hv : 0 < v := by rcases h2 with h | h; · omega
                          · exact h
    obtain rfl : v = 1 := by omega
    simp [encL, decL, tkErr, tkVal]
  | f + 1, c, u, v, rest, hc, h0, h1, h2 => by
    have hp := pow128_pos f
    have h3 : (128 : Int) ^ (f + 1) = 128 ^ f * 128 := Int.pow_succ _ _
    have hc9 : c ≠ 9 := by omega
    by_cases h7 : 127 < v
    · have ih := dec_enc f (c + 1) (tkVal u c (v % 128 + 128)) (v / 128) rest (by omega) (by omega) (by omega) (Or.inr (by omega))
      have ht : tkErr c (v % 128 + 128) = 0 := by
        unfold tkErr
        rw [if_neg (by omega), if_neg (by omega)]
      have e : encL (f + 1) v = (v % 128 + 128) :: encL f (v / 128) := by rw [encL, if_pos h7]
      rw [e, List.cons_append, decL, if_neg (by simp [ht]), if_neg (by omega), ih]
      have e2 : (v % 128 + 128) % 128 = v % 128 := by omega
      have e3 : v / 128 * 128 ^ (c + 1) = (v / 128 * 128) * 128 ^ c := by rw [Int.pow_succ, Int.mul_assoc, Int.mul_comm 128, ← Int.mul_assoc]
      have e4 : v % 128 * 128 ^ c + v / 128 * 128 ^ (c + 1) = v * 128 ^ c := by
        rw [e3, ← Int.add_mul]
        congr 1
        omega
      have e5 : tkVal u c (v % 128 + 128) + v / 128 * 128 ^ (c + 1) = u + v * 128 ^ c := by
        unfold tkVal
        rw [e2, Int.add_assoc, e4]
      rw [e5]
      simp only [List.length_cons, Prod.mk.injEq, true_and, and_true]
      omega
    · have e : encL (f + 1) v = [v] := by rw [encL, if_neg h7]
      have ht : tkErr c v = 0 := by
        unfold tkErr
        rw [if_neg (by omega), if_neg (by omega)]
      rw [e, List.singleton_append, decL, if_neg (by simp [ht]), if_pos (by omega)]
      have e2 : v % 128 = v := by omega
      simp [tkVal, e2]
theorem dec_encI (v : Int) (rest : List Int) (h0 : 0 ≤ v) (h1 : v ≤ 18446744073709551615) : decL 0 0 (encI v ++ rest) = (v, ((encI v).length : Int), 0) := by
  have := dec_enc 9 0 0 v rest rfl h0 (by rw [pow9]; omega) (Or.inl rfl)
  simp at this
  exact this

end Go.Proofs.YtmfpdchfofffeaaGreatDoor

namespace Go.Proofs.YtmfpdchfofffeaaGreatDoor
open Go.RowKit Go.Shelf
set_option linter.unusedVariables false
theorem unf_fix4 {v : Int} (h0 : 0 ≤ v) (h1 : v ≤ 4294967295) : unfL (fixL 4 v) = v := unf_fix 4 v (by rw [show (2 : Int) ^ (8 * 4) = 4294967296 by decide]; omega)
theorem dec_at18 {z A R : List Int} {p : Nat} {v : Int} (hz : z = A ++ (encI v ++ R)) (hp : p = A.length) (h0 : 0 ≤ v) (h1 : v ≤ 16777216) : decL 0 0 (z.drop p) = (v, ((encI v).length : Int), 0) := by
  rw [hz, hp, List.drop_left, dec_encI v R h0 (by omega)]
theorem wd_at18 {z A R : List Int} {p : Nat} {v : Int} (hz : z = A ++ (fixL 4 v ++ R)) (hp : p = A.length) (h0 : 0 ≤ v) (h1 : v ≤ 4294967295) : wd18 z p = v := by
  unfold wd18
  rw [hz, hp, List.drop_left, List.take_left' (fixL_len 4 v), unf_fix4 h0 h1]
theorem hh18_back {h : Hd18} (hk : h.Ok) (hso : 0 ≤ h.so ∧ h.so ≤ 4294967295) (hsn : 0 ≤ h.sn ∧ h.sn ≤ 4294967295) (r : List Int) : hx18 (sum18 (hd18 h) ++ r) = 0 ∧ hr18 (sum18 (hd18 h) ++ r) = h ∧ pl18 (sum18 (hd18 h) ++ r) 5 4 + 12 = (sum18 (hd18 h)).length := by
  obtain ⟨z, hz⟩ : ∃ z, z = sum18 (hd18 h) ++ r := ⟨_, rfl⟩
  have hsb := wI_bd18 (sumW (hd18 h))
  obtain ⟨⟨o0, o1⟩, ⟨n0, n1⟩, ⟨w0, w1⟩, l0, l1⟩ := hk
  rw [← hz]
  have e0 : z = mag18 ++ (encI h.o ++ (encI h.n ++ (encI h.wi ++ (encI h.lo ++ (fixL 4 h.so ++ (fixL 4 h.sn ++ (fixL 4 (wI (sumW (hd18 h))) ++ r))))))) := by rw [hz]; simp [sum18, hd18, hv18, encA]
  have e1 : z = (mag18 ++ encI h.o) ++ (encI h.n ++ (encI h.wi ++ (encI h.lo ++ (fixL 4 h.so ++ (fixL 4 h.sn ++ (fixL 4 (wI (sumW (hd18 h))) ++ r)))))) := by rw [e0]; simp
  have e2 : z = (mag18 ++ (encI h.o ++ encI h.n)) ++ (encI h.wi ++ (encI h.lo ++ (fixL 4 h.so ++ (fixL 4 h.sn ++ (fixL 4 (wI (sumW (hd18 h))) ++ r))))) := by rw [e0]; simp
  have e3 : z = (mag18 ++ (encI h.o ++ (encI h.n ++ encI h.wi))) ++ (encI h.lo ++ (fixL 4 h.so ++ (fixL 4 h.sn ++ (fixL 4 (wI (sumW (hd18 h))) ++ r)))) := by rw [e0]; simp
  have e4 : z = (mag18 ++ (encI h.o ++ (encI h.n ++ (encI h.wi ++ encI h.lo)))) ++ (fixL 4 h.so ++ (fixL 4 h.sn ++ (fixL 4 (wI (sumW (hd18 h))) ++ r))) := by rw [e0]; simp
  have e5 : z = (mag18 ++ (encI h.o ++ (encI h.n ++ (encI h.wi ++ (encI h.lo ++ fixL 4 h.so))))) ++ (fixL 4 h.sn ++ (fixL 4 (wI (sumW (hd18 h))) ++ r)) := by rw [e0]; simp
  have e6 : z = hd18 h ++ (fixL 4 (wI (sumW (hd18 h))) ++ r) := by rw [hz]; simp [sum18]
  have hL : (hd18 h).length = 5 + (encI h.o).length + (encI h.n).length + (encI h.wi).length + (encI h.lo).length + 8 := by simp [hd18, hv18, encA, fixL_len, mag18]; omega
  have m5 : mag18.length = 5 := rfl
  have d0 := dec_at18 e0 (p := 5) rfl o0 o1
  have p1 : pl18 z 5 1 = 5 + (encI h.o).length := by simp only [pl18]; rw [d0]; simp
  have d1 := dec_at18 e1 (p := 5 + (encI h.o).length) (by simp [mag18]; omega) n0 n1
  have p2 : pl18 z 5 2 = 5 + (encI h.o).length + (encI h.n).length := by rw [show pl18 z 5 2 = pl18 z 5 1 + (decL 0 0 (z.drop (pl18 z 5 1))).2.1.toNat from rfl, p1, d1]; simp
  have d2 := dec_at18 e2 (p := 5 + (encI h.o).length + (encI h.n).length) (by simp [mag18]; omega) (v := h.wi) (by omega) (by omega)
  have p3 : pl18 z 5 3 = 5 + (encI h.o).length + (encI h.n).length + (encI h.wi).length := by rw [show pl18 z 5 3 = pl18 z 5 2 + (decL 0 0 (z.drop (pl18 z 5 2))).2.1.toNat from rfl, p2, d2]; simp
  have d3 := dec_at18 e3 (p := 5 + (encI h.o).length + (encI h.n).length + (encI h.wi).length) (by simp [mag18]; omega) (v := h.lo) (by omega) (by omega)
  have p4 : pl18 z 5 4 = 5 + (encI h.o).length + (encI h.n).length + (encI h.wi).length + (encI h.lo).length := by rw [show pl18 z 5 4 = pl18 z 5 3 + (decL 0 0 (z.drop (pl18 z 5 3))).2.1.toNat from rfl, p3, d3]; simp
  have q0 : wd18 z (pl18 z 5 4) = h.so := wd_at18 e4 (by rw [p4]; simp [mag18]; omega) hso.1 hso.2
  have q1 : wd18 z (pl18 z 5 4 + 4) = h.sn := wd_at18 e5 (by rw [p4]; simp [mag18, fixL_len]; omega) hsn.1 hsn.2
  have q2 : wd18 z (pl18 z 5 4 + 8) = wI (sumW (hd18 h)) := wd_at18 e6 (by rw [p4, hL]) hsb.1 hsb.2
  have q3 : z.take (pl18 z 5 4 + 8) = hd18 h := by rw [e6, List.take_left' (by rw [← e6, p4, hL])]
  have v0 : vl18 z 5 0 = h.o := by unfold vl18; rw [show pl18 z 5 0 = 5 from rfl, d0]
  have v1 : vl18 z 5 1 = h.n := by unfold vl18; rw [p1, d1]
  have v2 : vl18 z 5 2 = h.wi := by unfold vl18; rw [p2, d2]
  have v3 : vl18 z 5 3 = h.lo := by unfold vl18; rw [p3, d3]
  have hf : Hf18 z := by
    refine ⟨⟨?_, ?_⟩, fun j hj => ?_, ?_⟩
    · rw [e0]; simp [mag18]
    · rw [e0]; exact List.take_left' rfl
    · unfold No18
      rcases (by omega : j = 0 ∨ j = 1 ∨ j = 2 ∨ j = 3) with rfl | rfl | rfl | rfl
      · rw [show pl18 z 5 0 = 5 from rfl, d0]; exact ⟨rfl, o0, o1⟩
      · rw [p1, d1]; exact ⟨rfl, n0, n1⟩
      · rw [p2, d2]; exact ⟨rfl, w0, w1⟩
      · rw [p3, d3]; exact ⟨rfl, l0, l1⟩
    · rw [hz, ← hz, p4]
      rw [show z.length = (sum18 (hd18 h)).length + r.length by rw [hz]; simp, sum18_len, hL]
      omega
  refine ⟨hx18_ok hf ?_, ?_, ?_⟩
  · unfold Su18
    rw [q2, q3]
  · unfold hr18 hp18
    rw [q0, q1, v0, v1, v2, v3]
    rfl
  · rw [p4, sum18_len, hL]
end Go.Proofs.YtmfpdchfofffeaaGreatDoor
