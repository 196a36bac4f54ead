import Derived.Test.YtmfpdchfofffeaaGreatDoorMkI
namespace Go.Proofs.YtmfpdchfofffeaaGreatDoor
open Go.RowKit Go.Shelf
set_option linter.unusedVariables false
set_option linter.unusedSimpArgs false
set_option maxRecDepth 100000 in
set_option maxHeartbeats 8000000 in
theorem pmtf20 (b gb gc rb rc B : Nat) (w : World) (ht : Tab w) (h : Ma20 w b (mm20 (.slice (some ⟨gb, 0, none⟩) 1 gc) (.slice (some ⟨rb, 0, none⟩) 1 rc))) (hr : Rd20 w B rb rc) :
    Calls Tryz.prog 21 #[.pointer (some ⟨b, 0, none⟩)] w fun e w' => e = .returned (.tuple #[]) ∧ Below w.heap.size w w' := by
  have c10 : w.cell? ⟨b, 10, none⟩ = some (.slice (some ⟨rb, 0, none⟩) 1 rc) := h.c rfl
  have r0 : w.cell? ⟨rb, 0, none⟩ = some (.int .i64 0) := hr.c rfl
  have r1 : w.cell? ⟨rb, 1, none⟩ = some (.int .i64 0) := hr.c rfl
  have r2 : w.cell? ⟨rb, 2, none⟩ = some (.int .u32 0) := hr.c rfl
  have r3 : w.cell? ⟨rb, 3, none⟩ = some (.int .u32 0) := hr.c rfl
  have r4 : w.cell? ⟨rb, 4, none⟩ = some (.int .i64 64) := hr.c rfl
  have r5 : w.cell? ⟨rb, 5, none⟩ = some (.int .i64 100) := hr.c rfl
  have r6 : w.cell? ⟨rb, 6, none⟩ = some (.slice none 0 0) := hr.c rfl
  obtain ⟨w1, hw1⟩ : ∃ w1, w1 = w.alloc (.cells #[.int .i64 0, .int .i64 0, .int .u32 0, .int .u32 0, .int .i64 64, .int .i64 100] 51) := ⟨_, rfl⟩
  have k1 := cb16 w #[.int .i64 0, .int .i64 0, .int .u32 0, .int .u32 0, .int .i64 64, .int .i64 100] 51
  rw [← hw1] at k1
  obtain ⟨b2, hb2⟩ : ∃ b2, b2 = w.heap.size := ⟨_, rfl⟩
  have q1 := k1.cl
  rw [← hb2] at q1
  have HW : Hid (w.alloc (.cells #[.int .i64 0, .int .i64 0, .int .u32 0, .int .u32 0, .int .i64 64, .int .i64 100] 51) = w1 ∧ w.heap.size = b2) := ⟨hw1.symm, hb2.symm⟩
  obtain ⟨u, hu⟩ : ∃ u, u = w1.drew := ⟨_, rfl⟩
  have HU : Hid (w1.drew = u) := hu.symm
  have mu : Ma20 u b (mm20 (.slice (some ⟨gb, 0, none⟩) 1 gc) (.slice (some ⟨rb, 0, none⟩) 1 rc)) := by rw [hu]; exact h.old k1.bl.drew
  have qu : u.heap[b2]? = some (.cells #[.int .i64 0, .int .i64 0, .int .u32 0, .int .u32 0, .int .i64 64, .int .i64 100] 51 (0, 0)) := by rw [hu]; exact q1
  have bu : Below w.heap.size w u := by rw [hu]; exact k1.bl.drew
  obtain ⟨u2, hu2⟩ : ∃ u2, u2 = u.alloc (.cells #[.slice none 0 0] 36) := ⟨_, rfl⟩
  have k2 := cb16 u #[.slice none 0 0] 36
  rw [← hu2] at k2
  have HU2 : Hid (u.alloc (.cells #[.slice none 0 0] 36) = u2) := hu2.symm
  have SU : Hid (Calls Tryz.prog 28 #[.slice (some ⟨u.heap.size, 0, none⟩) 1 1] u2 fun e w' => e = .returned (.int .u32 0) ∧ w' = u2) := psum20 u.heap.size _ u2 ((ht.old bu).old k2.bl) k2.cl
  have HS : Hid (∀ V, Ma20 V b (mm20 (.slice (some ⟨gb, 0, none⟩) 1 gc) (.slice (some ⟨rb, 0, none⟩) 1 rc)) → V.heap[b2]? = some (.cells #[.int .i64 0, .int .i64 0, .int .u32 0, .int .u32 0, .int .i64 64, .int .i64 100] 51 (0, 0)) → V.cell? ⟨b, 7, none⟩ = some (.slice none 0 0) ∧ V.cell? ⟨b2, 0, none⟩ = some (.int .i64 0) ∧ V.cell? ⟨b2, 2, none⟩ = some (.int .u32 0)) := fun V m q => ⟨m.c rfl, cell18 q rfl, cell18 q rfl⟩
  have H1 : Hid (u.cell? ⟨b, 7, none⟩ = some (.slice none 0 0) ∧ u.cell? ⟨b2, 0, none⟩ = some (.int .i64 0) ∧ u.cell? ⟨b2, 2, none⟩ = some (.int .u32 0)) := HS.out u mu qu
  have H2 : Hid ((u2.cell? ⟨b, 7, none⟩ = some (.slice none 0 0) ∧ u2.cell? ⟨b2, 0, none⟩ = some (.int .i64 0) ∧ u2.cell? ⟨b2, 2, none⟩ = some (.int .u32 0)) ∧ Below w.heap.size w u2) := ⟨HS.out u2 (mu.old k2.bl) ((k2.bl.block _ (Array.getElem?_eq_some_iff.1 qu).1).trans qu), bu.trans (k2.bl.mono bu.size)⟩
  clear h hr ht hw1 k1 hb2 q1 hu mu qu bu hu2 k2 HS
  go_enter Tryz.func21, Tryz.ntmps21
  go_wp2_with fail
  (try rw [HW.out.1])
  (try rw [HW.out.2])
  refine plain_region16 (fun V => V.cell? ⟨b, 7, none⟩ = some (.slice none 0 0) ∧ V.cell? ⟨b2, 0, none⟩ = some (.int .i64 0) ∧ V.cell? ⟨b2, 2, none⟩ = some (.int .u32 0)) 20 (by kernel_rfl) (by rw [HU.out]; exact H1.out) (fun hHeld => ?_)
  rw [HU.out] at hHeld ⊢
  refine wpAnyK_take (i := 0) (v := .pointer (some ⟨b, 0, none⟩)) rfl (by kernel_rfl) (by kernel_rfl) (by kernel_rfl) (by kernel_rfl) (fun _ _ _ h => h) (Or.inl ⟨by rfl, fun w hSw => by go_simp⟩) hHeld ?_
  simp only [List.getElem_toArray, List.getElem_cons_zero, Act.put, List.setIfInBounds_toArray, List.set_cons_zero, List.set_cons_succ]
  refine wpAnyK_take (i := 1) (v := .pointer (some ⟨b, 0, none⟩)) rfl (by kernel_rfl) (by kernel_rfl) (by kernel_rfl) (by kernel_rfl) (fun _ _ _ h => h) (Or.inl ⟨by rfl, fun w hSw => by go_simp⟩) hHeld ?_
  simp only [List.getElem_toArray, List.getElem_cons_zero, List.getElem_cons_succ, Act.put, List.setIfInBounds_toArray, List.set_cons_zero, List.set_cons_succ]
  refine wpAnyK_take (i := 2) (v := .pointer (some ⟨b, 7, none⟩)) rfl (by kernel_rfl) (by kernel_rfl) (by kernel_rfl) (by kernel_rfl) (fun _ _ _ h => h) (Or.inl ⟨by rfl, fun w hSw => by go_simp⟩) hHeld ?_
  simp only [List.getElem_toArray, List.getElem_cons_zero, List.getElem_cons_succ, Act.put, List.setIfInBounds_toArray, List.set_cons_zero, List.set_cons_succ]
  refine wpAnyK_take (i := 3) (v := .slice none 0 0) rfl (by kernel_rfl) (by kernel_rfl) (by kernel_rfl) (by kernel_rfl) (fun _ _ _ h => h) (Or.inl ⟨by rfl, fun w hSw => by go_simp⟩) hHeld ?_
  simp only [List.getElem_toArray, List.getElem_cons_zero, List.getElem_cons_succ, Act.put, List.setIfInBounds_toArray, List.set_cons_zero, List.set_cons_succ]
  refine wpAnyK_take (i := 4) (v := .int .i64 0) rfl (by kernel_rfl) (by kernel_rfl) (by kernel_rfl) (by kernel_rfl) (fun _ _ _ h => h) (Or.inl ⟨by rfl, fun w hSw => by go_simp⟩) hHeld ?_
  simp only [List.getElem_toArray, List.getElem_cons_zero, List.getElem_cons_succ, Act.put, List.setIfInBounds_toArray, List.set_cons_zero, List.set_cons_succ]
  refine wpAnyK_take (i := 5) (v := .pointer (some ⟨b2, 0, none⟩)) rfl (by kernel_rfl) (by kernel_rfl) (by kernel_rfl) (by kernel_rfl) (fun _ _ _ h => h) (Or.inl ⟨by rfl, fun w hSw => by go_simp⟩) hHeld ?_
  simp only [List.getElem_toArray, List.getElem_cons_zero, List.getElem_cons_succ, Act.put, List.setIfInBounds_toArray, List.set_cons_zero, List.set_cons_succ]
  refine wpAnyK_take (i := 6) (v := .int .i64 0) rfl (by kernel_rfl) (by kernel_rfl) (by kernel_rfl) (by kernel_rfl) (fun _ _ _ h => h) (Or.inl ⟨by rfl, fun w hSw => by go_simp⟩) hHeld ?_
  simp only [List.getElem_toArray, List.getElem_cons_zero, List.getElem_cons_succ, Act.put, List.setIfInBounds_toArray, List.set_cons_zero, List.set_cons_succ]
  refine wpAnyK_take (i := 7) (v := .bool true) rfl (by kernel_rfl) (by kernel_rfl) (by kernel_rfl) (by kernel_rfl) (fun _ _ _ h => h) (Or.inl ⟨by rfl, fun w hSw => by go_simp⟩) hHeld ?_
  simp only [List.getElem_toArray, List.getElem_cons_zero, List.getElem_cons_succ, Act.put, List.setIfInBounds_toArray, List.set_cons_zero, List.set_cons_succ]
  refine wpAnyK_take (i := 8) (v := .bool true) rfl (by kernel_rfl) (by kernel_rfl) (by kernel_rfl) (by kernel_rfl) (fun _ _ _ h => h) (Or.inl ⟨by rfl, fun w hSw => by go_simp⟩) hHeld ?_
  simp only [List.getElem_toArray, List.getElem_cons_zero, List.getElem_cons_succ, Act.put, List.setIfInBounds_toArray, List.set_cons_zero, List.set_cons_succ]
  refine wpAnyK_take (i := 9) (v := .pointer (some ⟨b, 0, none⟩)) rfl (by kernel_rfl) (by kernel_rfl) (by kernel_rfl) (by kernel_rfl) (fun _ _ _ h => h) (Or.inl ⟨by rfl, fun w hSw => by go_simp⟩) hHeld ?_
  simp only [List.getElem_toArray, List.getElem_cons_zero, List.getElem_cons_succ, Act.put, List.setIfInBounds_toArray, List.set_cons_zero, List.set_cons_succ]
  refine wpAnyK_take (i := 10) (v := .pointer (some ⟨b, 0, none⟩)) rfl (by kernel_rfl) (by kernel_rfl) (by kernel_rfl) (by kernel_rfl) (fun _ _ _ h => h) (Or.inl ⟨by rfl, fun w hSw => by go_simp⟩) hHeld ?_
  simp only [List.getElem_toArray, List.getElem_cons_zero, List.getElem_cons_succ, Act.put, List.setIfInBounds_toArray, List.set_cons_zero, List.set_cons_succ]
  refine wpAnyK_take (i := 11) (v := .pointer (some ⟨b, 7, none⟩)) rfl (by kernel_rfl) (by kernel_rfl) (by kernel_rfl) (by kernel_rfl) (fun _ _ _ h => h) (Or.inl ⟨by rfl, fun w hSw => by go_simp⟩) hHeld ?_
  simp only [List.getElem_toArray, List.getElem_cons_zero, List.getElem_cons_succ, Act.put, List.setIfInBounds_toArray, List.set_cons_zero, List.set_cons_succ]
  refine wpAnyK_take (i := 12) (v := .slice none 0 0) rfl (by kernel_rfl) (by kernel_rfl) (by kernel_rfl) (by kernel_rfl) (fun _ _ _ h => h) (Or.inl ⟨by rfl, fun w hSw => by go_simp⟩) hHeld ?_
  simp only [List.getElem_toArray, List.getElem_cons_zero, List.getElem_cons_succ, Act.put, List.setIfInBounds_toArray, List.set_cons_zero, List.set_cons_succ]
  refine wpAnyK_take (i := 15) (v := .pointer (some ⟨b2, 2, none⟩)) rfl (by kernel_rfl) (by kernel_rfl) (by kernel_rfl) (by kernel_rfl) (fun _ _ _ h => h) (Or.inl ⟨by rfl, fun w hSw => by go_simp⟩) hHeld ?_
  simp only [List.getElem_toArray, List.getElem_cons_zero, List.getElem_cons_succ, Act.put, List.setIfInBounds_toArray, List.set_cons_zero, List.set_cons_succ]
  refine wpAnyK_take (i := 16) (v := .int .u32 0) rfl (by kernel_rfl) (by kernel_rfl) (by kernel_rfl) (by kernel_rfl) (fun _ _ _ h => h) (Or.inl ⟨by rfl, fun w hSw => by go_simp⟩) hHeld ?_
  simp only [List.getElem_toArray, List.getElem_cons_zero, List.getElem_cons_succ, Act.put, List.setIfInBounds_toArray, List.set_cons_zero, List.set_cons_succ]
  refine wpAnyK_one (i := 13) (by kernel_rfl) rfl (fun K hK => ?_)
  (try simp only [List.getElem_toArray, List.getElem_cons_zero, List.getElem_cons_succ, Act.put, List.setIfInBounds_toArray, List.set_cons_zero, List.set_cons_succ])
  go_simp
  rw [HU2.out]
  refine hK.out _ _ (fun _ => H2.out.1) (fun hHeld0 => ?_)
  have hHeld := hHeld0 (by decide)
  clear hHeld0 hK K
  (try simp only [List.getElem_toArray, List.getElem_cons_zero, List.getElem_cons_succ, Act.put, List.setIfInBounds_toArray, List.set_cons_zero, List.set_cons_succ])
  refine wpAnyK_one (i := 14) (by kernel_rfl) rfl (fun K hK => ?_)
  (try simp only [List.getElem_toArray, List.getElem_cons_zero, List.getElem_cons_succ, Act.put, List.setIfInBounds_toArray, List.set_cons_zero, List.set_cons_succ])
  go_simp
  refine SU.out.mono ?_
  rintro e3 w3 ⟨rfl, hw3⟩
  subst w3
  refine hK.out _ _ (fun _ => H2.out.1) (fun hHeld0 => ?_)
  have hHeld := hHeld0 (by decide)
  clear hHeld0 hK K
  (try simp only [List.getElem_toArray, List.getElem_cons_zero, List.getElem_cons_succ, Act.put, List.setIfInBounds_toArray, List.set_cons_zero, List.set_cons_succ])
  refine wpAnyK_take (i := 17) (v := .bool true) rfl (by kernel_rfl) (by kernel_rfl) (by kernel_rfl) (by kernel_rfl) (fun _ _ _ h => h) (Or.inl ⟨by rfl, fun w hSw => by go_simp⟩) hHeld ?_
  simp only [List.getElem_toArray, List.getElem_cons_zero, List.getElem_cons_succ, Act.put, List.setIfInBounds_toArray, List.set_cons_zero, List.set_cons_succ]
  refine wpAnyK_take (i := 18) (v := .bool true) rfl (by kernel_rfl) (by kernel_rfl) (by kernel_rfl) (by kernel_rfl) (fun _ _ _ h => h) (Or.inl ⟨by rfl, fun w hSw => by go_simp⟩) hHeld ?_
  simp only [List.getElem_toArray, List.getElem_cons_zero, List.getElem_cons_succ, Act.put, List.setIfInBounds_toArray, List.set_cons_zero, List.set_cons_succ]
  refine wpAnyK_one (i := 19) (by kernel_rfl) rfl (fun K hK => ?_)
  (try simp only [List.getElem_toArray, List.getElem_cons_zero, List.getElem_cons_succ, Act.put, List.setIfInBounds_toArray, List.set_cons_zero, List.set_cons_succ])
  go_simp
  refine (pmus20 _ u2).mono ?_
  rintro e4 w4 ⟨rfl, hw4⟩
  subst w4
  refine hK.out _ _ (fun _ => H2.out.1) (fun _ => ?_)
  clear hK K
  (try simp only [List.getElem_toArray, List.getElem_cons_zero, List.getElem_cons_succ, Act.put, List.setIfInBounds_toArray, List.set_cons_zero, List.set_cons_succ])
  refine wpAnyK_done (by kernel_rfl) ?_ _
  go_end0
  exact ⟨rfl, H2.out.2⟩
set_option maxRecDepth 100000 in
set_option maxHeartbeats 8000000 in
theorem pins20 (b gb gc rb rc B : Nat) (w : World) (h : Ma20 w b (mm20 (.slice (some ⟨gb, 0, none⟩) 1 gc) (.slice (some ⟨rb, 0, none⟩) 1 rc))) (hr : Rd20 w B rb rc) :
    Calls Tryz.prog 22 #[.pointer (some ⟨b, 0, none⟩)] w fun e w' => e = .returned (.tuple #[]) ∧ Below w.heap.size w w' := by
  have c10 : w.cell? ⟨b, 10, none⟩ = some (.slice (some ⟨rb, 0, none⟩) 1 rc) := h.c rfl
  have r0 : w.cell? ⟨rb, 0, none⟩ = some (.int .i64 0) := hr.c rfl
  have r1 : w.cell? ⟨rb, 1, none⟩ = some (.int .i64 0) := hr.c rfl
  have r2 : w.cell? ⟨rb, 2, none⟩ = some (.int .u32 0) := hr.c rfl
  have r3 : w.cell? ⟨rb, 3, none⟩ = some (.int .u32 0) := hr.c rfl
  have r4 : w.cell? ⟨rb, 4, none⟩ = some (.int .i64 64) := hr.c rfl
  have r5 : w.cell? ⟨rb, 5, none⟩ = some (.int .i64 100) := hr.c rfl
  have r6 : w.cell? ⟨rb, 6, none⟩ = some (.slice none 0 0) := hr.c rfl
  obtain ⟨w1, hw1⟩ : ∃ w1, w1 = w.alloc (.cells #[.int .i64 0, .int .i64 0, .int .u32 0, .int .u32 0, .int .i64 64, .int .i64 100, .slice none 0 0] 54) := ⟨_, rfl⟩
  have k1 := cb16 w #[.int .i64 0, .int .i64 0, .int .u32 0, .int .u32 0, .int .i64 64, .int .i64 100, .slice none 0 0] 54
  rw [← hw1] at k1
  obtain ⟨b2, hb2⟩ : ∃ b2, b2 = w.heap.size := ⟨_, rfl⟩
  have q1 := k1.cl
  rw [← hb2] at q1
  have c6 : w1.cell? ⟨b2, 6, none⟩ = some (.slice none 0 0) := cell18 q1 rfl
  have HW : Hid (w.alloc (.cells #[.int .i64 0, .int .i64 0, .int .u32 0, .int .u32 0, .int .i64 64, .int .i64 100, .slice none 0 0] 54) = w1 ∧ w.heap.size = b2) := ⟨hw1.symm, hb2.symm⟩
  rw [← HW.out.1, ← HW.out.2] at c6
  have HB : Hid (Below w.heap.size w w1) := k1.bl
  clear h hr hw1 k1 hb2 q1
  go_enter Tryz.func22, Tryz.ntmps22
  go_wp2_with fail
  go_loopw [11] (fun t11 V => (t11 = .int .i64 0 ∧ V = w) ∨ (t11 = .int .i64 1 ∧ V = w1)) (fun t11 _ => 1 - (intOf t11).toNat)
  case atStart => exact .inl ⟨rfl, rfl⟩
  case round =>
    rcases hrel with ⟨rfl, hV⟩ | ⟨rfl, hV⟩
    rotate_left
    · subst wr
      clear c6 c10 r0 r1 r2 r3 r4 r5 r6
      go_wp2_with fail
      go_end0
      exact ⟨rfl, HB.out⟩
    subst wr
    go_wp2_with fail
    go_loopw [18] (fun t18 V => t18 = .int .i64 0 ∧ V = w1) (fun _ _ => 0)
    case atStart => exact ⟨rfl, HW.out.1⟩
    case round =>
      obtain ⟨rfl, hV⟩ := hrel
      subst wr
      clear c6 c10 r0 r1 r2 r3 r4 r5 r6
      go_wp2_with fail
      go_roundw
      case rel => exact .inr ⟨by first | rfl | simp, by first | rfl | trivial⟩
      case measure => simp [intOf]
set_option maxRecDepth 100000 in
set_option maxHeartbeats 8000000 in
theorem pmnt20 (b gb gc rb rc B : Nat) (w : World) (ht : Tab w) (h : Ma20 w b (mm20 (.slice (some ⟨gb, 0, none⟩) 1 gc) (.slice (some ⟨rb, 0, none⟩) 1 rc))) (hr : Rd20 w B rb rc) :
    Calls Tryz.prog 23 #[.pointer (some ⟨b, 0, none⟩)] w fun e w' => e = .returned (.tuple #[]) ∧ Below w.heap.size w w' := by
  have c10 : w.cell? ⟨b, 10, none⟩ = some (.slice (some ⟨rb, 0, none⟩) 1 rc) := h.c rfl
  have r0 : w.cell? ⟨rb, 0, none⟩ = some (.int .i64 0) := hr.c rfl
  have r1 : w.cell? ⟨rb, 1, none⟩ = some (.int .i64 0) := hr.c rfl
  have r2 : w.cell? ⟨rb, 2, none⟩ = some (.int .u32 0) := hr.c rfl
  have r3 : w.cell? ⟨rb, 3, none⟩ = some (.int .u32 0) := hr.c rfl
  have r4 : w.cell? ⟨rb, 4, none⟩ = some (.int .i64 64) := hr.c rfl
  have r5 : w.cell? ⟨rb, 5, none⟩ = some (.int .i64 100) := hr.c rfl
  have r6 : w.cell? ⟨rb, 6, none⟩ = some (.slice none 0 0) := hr.c rfl
  obtain ⟨w1, hw1⟩ : ∃ w1, w1 = w.alloc (.cells #[.int .i64 0, .int .i64 0, .int .u32 0, .int .u32 0, .int .i64 64, .int .i64 100, .slice none 0 0] 54) := ⟨_, rfl⟩
  have k1 := cb16 w #[.int .i64 0, .int .i64 0, .int .u32 0, .int .u32 0, .int .i64 64, .int .i64 100, .slice none 0 0] 54
  rw [← hw1] at k1
  obtain ⟨b2, hb2⟩ : ∃ b2, b2 = w.heap.size := ⟨_, rfl⟩
  have q1 := k1.cl
  rw [← hb2] at q1
  have c6 : w1.cell? ⟨b2, 6, none⟩ = some (.slice none 0 0) := cell18 q1 rfl
  have HW : Hid (w.alloc (.cells #[.int .i64 0, .int .i64 0, .int .u32 0, .int .u32 0, .int .i64 64, .int .i64 100, .slice none 0 0] 54) = w1 ∧ w.heap.size = b2) := ⟨hw1.symm, hb2.symm⟩
  rw [← HW.out.1, ← HW.out.2] at c6
  obtain ⟨u, hu⟩ : ∃ u, u = w1.drew := ⟨_, rfl⟩
  have HU : Hid (w1.drew = u) := hu.symm
  have mu : Ma20 u b (mm20 (.slice (some ⟨gb, 0, none⟩) 1 gc) (.slice (some ⟨rb, 0, none⟩) 1 rc)) := by rw [hu]; exact h.old k1.bl.drew
  have qu : u.heap[b2]? = some (.cells #[.int .i64 0, .int .i64 0, .int .u32 0, .int .u32 0, .int .i64 64, .int .i64 100, .slice none 0 0] 54 (0, 0)) := by rw [hu]; exact q1
  have bu : Below w.heap.size w u := by rw [hu]; exact k1.bl.drew
  obtain ⟨u2, hu2⟩ : ∃ u2, u2 = u.alloc (.cells #[.slice none 0 0] 36) := ⟨_, rfl⟩
  have k2 := cb16 u #[.slice none 0 0] 36
  rw [← hu2] at k2
  have HU2 : Hid (u.alloc (.cells #[.slice none 0 0] 36) = u2) := hu2.symm
  have SU : Hid (Calls Tryz.prog 28 #[.slice (some ⟨u.heap.size, 0, none⟩) 1 1] u2 fun e w' => e = .returned (.int .u32 0) ∧ w' = u2) := psum20 u.heap.size _ u2 ((ht.old bu).old k2.bl) k2.cl
  have HS : Hid (∀ V, Ma20 V b (mm20 (.slice (some ⟨gb, 0, none⟩) 1 gc) (.slice (some ⟨rb, 0, none⟩) 1 rc)) → V.heap[b2]? = some (.cells #[.int .i64 0, .int .i64 0, .int .u32 0, .int .u32 0, .int .i64 64, .int .i64 100, .slice none 0 0] 54 (0, 0)) → V.cell? ⟨b, 8, none⟩ = some (.slice none 0 0) ∧ V.cell? ⟨b2, 3, none⟩ = some (.int .u32 0)) := fun V m q => ⟨m.c rfl, cell18 q rfl⟩
  have H1 : Hid (u.cell? ⟨b, 8, none⟩ = some (.slice none 0 0) ∧ u.cell? ⟨b2, 3, none⟩ = some (.int .u32 0)) := HS.out u mu qu
  have H2 : Hid ((u2.cell? ⟨b, 8, none⟩ = some (.slice none 0 0) ∧ u2.cell? ⟨b2, 3, none⟩ = some (.int .u32 0)) ∧ Below w.heap.size w u2) := ⟨HS.out u2 (mu.old k2.bl) ((k2.bl.block _ (Array.getElem?_eq_some_iff.1 qu).1).trans qu), bu.trans (k2.bl.mono bu.size)⟩
  clear h hr ht hw1 k1 hb2 q1 hu mu qu bu hu2 k2 HS
  go_enter Tryz.func23, Tryz.ntmps23
  go_wp2_with fail
  go_loopw [14] (fun t14 V => t14 = .int .i64 0 ∧ V = w1) (fun _ _ => 0)
  case atStart => exact ⟨rfl, HW.out.1⟩
  case round =>
    obtain ⟨rfl, hV⟩ := hrel
    subst wr
    clear c6 c10 r0 r1 r2 r3 r4 r5 r6
    go_wp2_with fail
    (try rw [HW.out.2])
    refine plain_region16 (fun V => V.cell? ⟨b, 8, none⟩ = some (.slice none 0 0) ∧ V.cell? ⟨b2, 3, none⟩ = some (.int .u32 0)) 11 (by kernel_rfl) (by rw [HU.out]; exact H1.out) (fun hHeld => ?_)
    rw [HU.out] at hHeld ⊢
    refine wpAnyK_take (i := 0) (v := .pointer (some ⟨b, 0, none⟩)) rfl (by kernel_rfl) (by kernel_rfl) (by kernel_rfl) (by kernel_rfl) (fun _ _ _ h => h) (Or.inl ⟨by rfl, fun w hSw => by go_simp⟩) hHeld ?_
    simp only [List.getElem_toArray, List.getElem_cons_zero, Act.put, List.setIfInBounds_toArray, List.set_cons_zero, List.set_cons_succ]
    refine wpAnyK_take (i := 1) (v := .pointer (some ⟨b, 0, none⟩)) rfl (by kernel_rfl) (by kernel_rfl) (by kernel_rfl) (by kernel_rfl) (fun _ _ _ h => h) (Or.inl ⟨by rfl, fun w hSw => by go_simp⟩) hHeld ?_
    simp only [List.getElem_toArray, List.getElem_cons_zero, List.getElem_cons_succ, Act.put, List.setIfInBounds_toArray, List.set_cons_zero, List.set_cons_succ]
    refine wpAnyK_take (i := 2) (v := .pointer (some ⟨b, 8, none⟩)) rfl (by kernel_rfl) (by kernel_rfl) (by kernel_rfl) (by kernel_rfl) (fun _ _ _ h => h) (Or.inl ⟨by rfl, fun w hSw => by go_simp⟩) hHeld ?_
    simp only [List.getElem_toArray, List.getElem_cons_zero, List.getElem_cons_succ, Act.put, List.setIfInBounds_toArray, List.set_cons_zero, List.set_cons_succ]
    refine wpAnyK_take (i := 3) (v := .slice none 0 0) rfl (by kernel_rfl) (by kernel_rfl) (by kernel_rfl) (by kernel_rfl) (fun _ _ _ h => h) (Or.inl ⟨by rfl, fun w hSw => by go_simp⟩) hHeld ?_
    simp only [List.getElem_toArray, List.getElem_cons_zero, List.getElem_cons_succ, Act.put, List.setIfInBounds_toArray, List.set_cons_zero, List.set_cons_succ]
    refine wpAnyK_take (i := 6) (v := .pointer (some ⟨b2, 0, none⟩)) rfl (by kernel_rfl) (by kernel_rfl) (by kernel_rfl) (by kernel_rfl) (fun _ _ _ h => h) (Or.inl ⟨by rfl, fun w hSw => by go_simp⟩) hHeld ?_
    simp only [List.getElem_toArray, List.getElem_cons_zero, List.getElem_cons_succ, Act.put, List.setIfInBounds_toArray, List.set_cons_zero, List.set_cons_succ]
    refine wpAnyK_take (i := 7) (v := .pointer (some ⟨b2, 3, none⟩)) rfl (by kernel_rfl) (by kernel_rfl) (by kernel_rfl) (by kernel_rfl) (fun _ _ _ h => h) (Or.inl ⟨by rfl, fun w hSw => by go_simp⟩) hHeld ?_
    simp only [List.getElem_toArray, List.getElem_cons_zero, List.getElem_cons_succ, Act.put, List.setIfInBounds_toArray, List.set_cons_zero, List.set_cons_succ]
    refine wpAnyK_take (i := 8) (v := .int .u32 0) rfl (by kernel_rfl) (by kernel_rfl) (by kernel_rfl) (by kernel_rfl) (fun _ _ _ h => h) (Or.inl ⟨by rfl, fun w hSw => by go_simp⟩) hHeld ?_
    simp only [List.getElem_toArray, List.getElem_cons_zero, List.getElem_cons_succ, Act.put, List.setIfInBounds_toArray, List.set_cons_zero, List.set_cons_succ]
    refine wpAnyK_one (i := 4) (by kernel_rfl) rfl (fun K hK => ?_)
    (try simp only [List.getElem_toArray, List.getElem_cons_zero, List.getElem_cons_succ, Act.put, List.setIfInBounds_toArray, List.set_cons_zero, List.set_cons_succ])
    go_simp
    rw [HU2.out]
    refine hK.out _ _ (fun _ => H2.out.1) (fun hHeld0 => ?_)
    have hHeld := hHeld0 (by decide)
    clear hHeld0 hK K
    (try simp only [List.getElem_toArray, List.getElem_cons_zero, List.getElem_cons_succ, Act.put, List.setIfInBounds_toArray, List.set_cons_zero, List.set_cons_succ])
    refine wpAnyK_one (i := 5) (by kernel_rfl) rfl (fun K hK => ?_)
    (try simp only [List.getElem_toArray, List.getElem_cons_zero, List.getElem_cons_succ, Act.put, List.setIfInBounds_toArray, List.set_cons_zero, List.set_cons_succ])
    go_simp
    refine SU.out.mono ?_
    rintro e3 w3 ⟨rfl, hw3⟩
    subst w3
    refine hK.out _ _ (fun _ => H2.out.1) (fun hHeld0 => ?_)
    have hHeld := hHeld0 (by decide)
    clear hHeld0 hK K
    (try simp only [List.getElem_toArray, List.getElem_cons_zero, List.getElem_cons_succ, Act.put, List.setIfInBounds_toArray, List.set_cons_zero, List.set_cons_succ])
    refine wpAnyK_take (i := 9) (v := .bool true) rfl (by kernel_rfl) (by kernel_rfl) (by kernel_rfl) (by kernel_rfl) (fun _ _ _ h => h) (Or.inl ⟨by rfl, fun w hSw => by go_simp⟩) hHeld ?_
    simp only [List.getElem_toArray, List.getElem_cons_zero, List.getElem_cons_succ, Act.put, List.setIfInBounds_toArray, List.set_cons_zero, List.set_cons_succ]
    refine wpAnyK_one (i := 10) (by kernel_rfl) rfl (fun K hK => ?_)
    (try simp only [List.getElem_toArray, List.getElem_cons_zero, List.getElem_cons_succ, Act.put, List.setIfInBounds_toArray, List.set_cons_zero, List.set_cons_succ])
    go_simp
    refine (pmus20 _ u2).mono ?_
    rintro e4 w4 ⟨rfl, hw4⟩
    subst w4
    refine hK.out _ _ (fun _ => H2.out.1) (fun _ => ?_)
    clear hK K
    (try simp only [List.getElem_toArray, List.getElem_cons_zero, List.getElem_cons_succ, Act.put, List.setIfInBounds_toArray, List.set_cons_zero, List.set_cons_succ])
    refine wpAnyK_done (by kernel_rfl) ?_ _
    go_end0
    exact ⟨rfl, H2.out.2⟩
end Go.Proofs.YtmfpdchfofffeaaGreatDoor
