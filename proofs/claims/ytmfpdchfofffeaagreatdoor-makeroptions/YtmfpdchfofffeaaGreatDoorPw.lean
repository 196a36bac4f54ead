import Derived.Test.YtmfpdchfofffeaaGreatDoorPv
import Derived.Test.YtmfpdchfofffeaaGreatDoorPu
import Derived.Test.YtmfpdchfofffeaaGreatDoorPj
import Derived.Test.YtmfpdchfofffeaaGreatDoorPa
import Derived.WalkKit
import Derived.ProofKit
import Derived.OpenShut
import Derived.SizedLaws
import Derived.Lib.SmallJoins
import Derived.Test.YtmfpdchfofffeaaGreatDoorRows
import Derived.Test.YtmfpdchfofffeaaGreatDoorPi
import Derived.Deep.DeepHandedRow
import Derived.Lib.LaidTab
namespace Go.Proofs.YtmfpdchfofffeaaGreatDoor
open Go.RowKit Go.Shelf
set_option linter.unusedVariables false
set_option linter.unusedSimpArgs false
set_option maxRecDepth 100000 in
set_option maxHeartbeats 8000000 in
theorem pmtf20 (b gb gc rb rc B : Nat) (w : World) (ht : Tab w) (h : Ma20 w b (mm20 (.slice (some ⟨gb, 0, none⟩) 1 gc) (.slice (some ⟨rb, 0, none⟩) 1 rc))) (hr : Rd20 w B rb rc) :
    Calls Tryz.prog 21 #[.pointer (some ⟨b, 0, none⟩)] w fun e w' => e = .returned (.tuple #[]) ∧ Below w.heap.size w w' := by
  have c10 : w.cell? ⟨b, 10, none⟩ = some (.slice (some ⟨rb, 0, none⟩) 1 rc) := h.c rfl
  have r0 : w.cell? ⟨rb, 0, none⟩ = some (.int .i64 0) := hr.c rfl
  have r1 : w.cell? ⟨rb, 1, none⟩ = some (.int .i64 0) := hr.c rfl
  have r2 : w.cell? ⟨rb, 2, none⟩ = some (.int .u32 0) := hr.c rfl
  have r3 : w.cell? ⟨rb, 3, none⟩ = some (.int .u32 0) := hr.c rfl
  have r4 : w.cell? ⟨rb, 4, none⟩ = some (.int .i64 64) := hr.c rfl
  have r5 : w.cell? ⟨rb, 5, none⟩ = some (.int .i64 100) := hr.c rfl
  have r6 : w.cell? ⟨rb, 6, none⟩ = some (.slice none 0 0) := hr.c rfl
  obtain ⟨w1, hw1⟩ : ∃ w1, w1 = w.alloc (.cells #[.int .i64 0, .int .i64 0, .int .u32 0, .int .u32 0, .int .i64 64, .int .i64 100] 51) := ⟨_, rfl⟩
  have k1 := cb16 w #[.int .i64 0, .int .i64 0, .int .u32 0, .int .u32 0, .int .i64 64, .int .i64 100] 51
  rw [← hw1] at k1
  obtain ⟨b2, hb2⟩ : ∃ b2, b2 = w.heap.size := ⟨_, rfl⟩
  have q1 := k1.cl
  rw [← hb2] at q1
  have HW : Hid (w.alloc (.cells #[.int .i64 0, .int .i64 0, .int .u32 0, .int .u32 0, .int .i64 64, .int .i64 100] 51) = w1 ∧ w.heap.size = b2) := ⟨hw1.symm, hb2.symm⟩
  obtain ⟨u, hu⟩ : ∃ u, u = w1.drew := ⟨_, rfl⟩
  have HU : Hid (w1.drew = u) := hu.symm
  have mu : Ma20 u b (mm20 (.slice (some ⟨gb, 0, none⟩) 1 gc) (.slice (some ⟨rb, 0, none⟩) 1 rc)) := by rw [hu]; exact h.old k1.bl.drew
  have qu : u.heap[b2]? = some (.cells #[.int .i64 0, .int .i64 0, .int .u32 0, .int .u32 0, .int .i64 64, .int .i64 100] 51 (0, 0)) := by rw [hu]; exact q1
  have bu : Below w.heap.size w u := by rw [hu]; exact k1.bl.drew
  obtain ⟨u2, hu2⟩ : ∃ u2, u2 = u.alloc (.cells #[.slice none 0 0] 36) := ⟨_, rfl⟩
  have k2 := cb16 u #[.slice none 0 0] 36
  rw [← hu2] at k2
  have HU2 : Hid (u.alloc (.cells #[.slice none 0 0] 36) = u2) := hu2.symm
  have SU : Hid (Calls Tryz.prog 28 #[.slice (some ⟨u.heap.size, 0, none⟩) 1 1] u2 fun e w' => e = .returned (.int .u32 0) ∧ w' = u2) := psum20 u.heap.size _ u2 ((ht.old bu).old k2.bl) k2.cl
  have HS : Hid (∀ V, Ma20 V b (mm20 (.slice (some ⟨gb, 0, none⟩) 1 gc) (.slice (some ⟨rb, 0, none⟩) 1 rc)) → V.heap[b2]? = some (.cells #[.int .i64 0, .int .i64 0, .int .u32 0, .int .u32 0, .int .i64 64, .int .i64 100] 51 (0, 0)) → V.cell? ⟨b, 7, none⟩ = some (.slice none 0 0) ∧ V.cell? ⟨b2, 0, none⟩ = some (.int .i64 0) ∧ V.cell? ⟨b2, 2, none⟩ = some (.int .u32 0)) := fun V m q => ⟨m.c rfl, cell18 q rfl, cell18 q rfl⟩
  have H1 : Hid (u.cell? ⟨b, 7, none⟩ = some (.slice none 0 0) ∧ u.cell? ⟨b2, 0, none⟩ = some (.int .i64 0) ∧ u.cell? ⟨b2, 2, none⟩ = some (.int .u32 0)) := HS.out u mu qu
  have H2 : Hid ((u2.cell? ⟨b, 7, none⟩ = some (.slice none 0 0) ∧ u2.cell? ⟨b2, 0, none⟩ = some (.int .i64 0) ∧ u2.cell? ⟨b2, 2, none⟩ = some (.int .u32 0)) ∧ Below w.heap.size w u2) := ⟨HS.out u2 (mu.old k2.bl) ((k2.bl.block _ (Array.getElem?_eq_some_iff.1 qu).1).trans qu), bu.trans (k2.bl.mono bu.size)⟩
  clear h hr ht hw1 k1 hb2 q1 hu mu qu bu hu2 k2 HS
  go_enter Tryz.func21, Tryz.ntmps21
  go_wp2_with fail
  (try rw [HW.out.1])
  (try rw [HW.out.2])
  refine plain_region16 (fun V => V.cell? ⟨b, 7, none⟩ = some (.slice none 0 0) ∧ V.cell? ⟨b2, 0, none⟩ = some (.int .i64 0) ∧ V.cell? ⟨b2, 2, none⟩ = some (.int .u32 0)) 20 (by kernel_rfl) (by rw [HU.out]; exact H1.out) (fun hHeld => ?_)
  rw [HU.out] at hHeld ⊢
  refine wpAnyK_take (i := 0) (v := .pointer (some ⟨b, 0, none⟩)) rfl (by kernel_rfl) (by kernel_rfl) (by kernel_rfl) (by kernel_rfl) (fun _ _ _ h => h) (Or.inl ⟨by rfl, fun w hSw => by go_simp⟩) hHeld ?_
  simp only [List.getElem_toArray, List.getElem_cons_zero, Act.put, List.setIfInBounds_toArray, List.set_cons_zero, List.set_cons_succ]
  refine wpAnyK_take (i := 1) (v := .pointer (some ⟨b, 0, none⟩)) rfl (by kernel_rfl) (by kernel_rfl) (by kernel_rfl) (by kernel_rfl) (fun _ _ _ h => h) (Or.inl ⟨by rfl, fun w hSw => by go_simp⟩) hHeld ?_
  simp only [List.getElem_toArray, List.getElem_cons_zero, List.getElem_cons_succ, Act.put, List.setIfInBounds_toArray, List.set_cons_zero, List.set_cons_succ]
  refine wpAnyK_take (i := 2) (v := .pointer (some ⟨b, 7, none⟩)) rfl (by kernel_rfl) (by kernel_rfl) (by kernel_rfl) (by kernel_rfl) (fun _ _ _ h => h) (Or.inl ⟨by rfl, fun w hSw => by go_simp⟩) hHeld ?_
  simp only [List.getElem_toArray, List.getElem_cons_zero, List.getElem_cons_succ, Act.put, List.setIfInBounds_toArray, List.set_cons_zero, List.set_cons_succ]
  refine wpAnyK_take (i := 3) (v := .slice none 0 0) rfl (by kernel_rfl) (by kernel_rfl) (by kernel_rfl) (by kernel_rfl) (fun _ _ _ h => h) (Or.inl ⟨by rfl, fun w hSw => by go_simp⟩) hHeld ?_
  simp only [List.getElem_toArray, List.getElem_cons_zero, List.getElem_cons_succ, Act.put, List.setIfInBounds_toArray, List.set_cons_zero, List.set_cons_succ]
  refine wpAnyK_take (i := 4) (v := .int .i64 0) rfl (by kernel_rfl) (by kernel_rfl) (by kernel_rfl) (by kernel_rfl) (fun _ _ _ h => h) (Or.inl ⟨by rfl, fun w hSw => by go_simp⟩) hHeld ?_
  simp only [List.getElem_toArray, List.getElem_cons_zero, List.getElem_cons_succ, Act.put, List.setIfInBounds_toArray, List.set_cons_zero, List.set_cons_succ]
  refine wpAnyK_take (i := 5) (v := .pointer (some ⟨b2, 0, none⟩)) rfl (by kernel_rfl) (by kernel_rfl) (by kernel_rfl) (by kernel_rfl) (fun _ _ _ h => h) (Or.inl ⟨by rfl, fun w hSw => by go_simp⟩) hHeld ?_
  simp only [List.getElem_toArray, List.getElem_cons_zero, List.getElem_cons_succ, Act.put, List.setIfInBounds_toArray, List.set_cons_zero, List.set_cons_succ]
  refine wpAnyK_take (i := 6) (v := .int .i64 0) rfl (by kernel_rfl) (by kernel_rfl) (by kernel_rfl) (by kernel_rfl) (fun _ _ _ h => h) (Or.inl ⟨by rfl, fun w hSw => by go_simp⟩) hHeld ?_
  simp only [List.getElem_toArray, List.getElem_cons_zero, List.getElem_cons_succ, Act.put, List.setIfInBounds_toArray, List.set_cons_zero, List.set_cons_succ]
  refine wpAnyK_take (i := 7) (v := .bool true) rfl (by kernel_rfl) (by kernel_rfl) (by kernel_rfl) (by kernel_rfl) (fun _ _ _ h => h) (Or.inl ⟨by rfl, fun w hSw => by go_simp⟩) hHeld ?_
  simp only [List.getElem_toArray, List.getElem_cons_zero, List.getElem_cons_succ, Act.put, List.setIfInBounds_toArray, List.set_cons_zero, List.set_cons_succ]
  refine wpAnyK_take (i := 8) (v := .bool true) rfl (by kernel_rfl) (by kernel_rfl) (by kernel_rfl) (by kernel_rfl) (fun _ _ _ h => h) (Or.inl ⟨by rfl, fun w hSw => by go_simp⟩) hHeld ?_
  simp only [List.getElem_toArray, List.getElem_cons_zero, List.getElem_cons_succ, Act.put, List.setIfInBounds_toArray, List.set_cons_zero, List.set_cons_succ]
  refine wpAnyK_take (i := 9) (v := .pointer (some ⟨b, 0, none⟩)) rfl (by kernel_rfl) (by kernel_rfl) (by kernel_rfl) (by kernel_rfl) (fun _ _ _ h => h) (Or.inl ⟨by rfl, fun w hSw => by go_simp⟩) hHeld ?_
  simp only [List.getElem_toArray, List.getElem_cons_zero, List.getElem_cons_succ, Act.put, List.setIfInBounds_toArray, List.set_cons_zero, List.set_cons_succ]
  refine wpAnyK_take (i := 10) (v := .pointer (some ⟨b, 0, none⟩)) rfl (by kernel_rfl) (by kernel_rfl) (by kernel_rfl) (by kernel_rfl) (fun _ _ _ h => h) (Or.inl ⟨by rfl, fun w hSw => by go_simp⟩) hHeld ?_
  simp only [List.getElem_toArray, List.getElem_cons_zero, List.getElem_cons_succ, Act.put, List.setIfInBounds_toArray, List.set_cons_zero, List.set_cons_succ]
  refine wpAnyK_take (i := 11) (v := .pointer (some ⟨b, 7, none⟩)) rfl (by kernel_rfl) (by kernel_rfl) (by kernel_rfl) (by kernel_rfl) (fun _ _ _ h => h) (Or.inl ⟨by rfl, fun w hSw => by go_simp⟩) hHeld ?_
  simp only [List.getElem_toArray, List.getElem_cons_zero, List.getElem_cons_succ, Act.put, List.setIfInBounds_toArray, List.set_cons_zero, List.set_cons_succ]
  refine wpAnyK_take (i := 12) (v := .slice none 0 0) rfl (by kernel_rfl) (by kernel_rfl) (by kernel_rfl) (by kernel_rfl) (fun _ _ _ h => h) (Or.inl ⟨by rfl, fun w hSw => by go_simp⟩) hHeld ?_
  simp only [List.getElem_toArray, List.getElem_cons_zero, List.getElem_cons_succ, Act.put, List.setIfInBounds_toArray, List.set_cons_zero, List.set_cons_succ]
  refine wpAnyK_take (i := 15) (v := .pointer (some ⟨b2, 2, none⟩)) rfl (by kernel_rfl) (by kernel_rfl) (by kernel_rfl) (by kernel_rfl) (fun _ _ _ h => h) (Or.inl ⟨by rfl, fun w hSw => by go_simp⟩) hHeld ?_
  simp only [List.getElem_toArray, List.getElem_cons_zero, List.getElem_cons_succ, Act.put, List.setIfInBounds_toArray, List.set_cons_zero, List.set_cons_succ]
  refine wpAnyK_take (i := 16) (v := .int .u32 0) rfl (by kernel_rfl) (by kernel_rfl) (by kernel_rfl) (by kernel_rfl) (fun _ _ _ h => h) (Or.inl ⟨by rfl, fun w hSw => by go_simp⟩) hHeld ?_
  simp only [List.getElem_toArray, List.getElem_cons_zero, List.getElem_cons_succ, Act.put, List.setIfInBounds_toArray, List.set_cons_zero, List.set_cons_succ]
  refine wpAnyK_one (i := 13) (by kernel_rfl) rfl (fun K hK => ?_)
  (try simp only [List.getElem_toArray, List.getElem_cons_zero, List.getElem_cons_succ, Act.put, List.setIfInBounds_toArray, List.set_cons_zero, List.set_cons_succ])
  go_simp
  rw [HU2.out]
  refine hK.out _ _ (fun _ => H2.out.1) (fun hHeld0 => ?_)
  have hHeld := hHeld0 (by decide)
  clear hHeld0 hK K
  (try simp only [List.getElem_toArray, List.getElem_cons_zero, List.getElem_cons_succ, Act.put, List.setIfInBounds_toArray, List.set_cons_zero, List.set_cons_succ])
  refine wpAnyK_one (i := 14) (by kernel_rfl) rfl (fun K hK => ?_)
  (try simp only [List.getElem_toArray, List.getElem_cons_zero, List.getElem_cons_succ, Act.put, List.setIfInBounds_toArray, List.set_cons_zero, List.set_cons_succ])
  go_simp
  refine SU.out.mono ?_
  rintro e3 w3 ⟨rfl, hw3⟩
  subst w3
  refine hK.out _ _ (fun _ => H2.out.1) (fun hHeld0 => ?_)
  have hHeld := hHeld0 (by decide)
  clear hHeld0 hK K
  (try simp only [List.getElem_toArray, List.getElem_cons_zero, List.getElem_cons_succ, Act.put, List.setIfInBounds_toArray, List.set_cons_zero, List.set_cons_succ])
  refine wpAnyK_take (i := 17) (v := .bool true) rfl (by kernel_rfl) (by kernel_rfl) (by kernel_rfl) (by kernel_rfl) (fun _ _ _ h => h) (Or.inl ⟨by rfl, fun w hSw => by go_simp⟩) hHeld ?_
  simp only [List.getElem_toArray, List.getElem_cons_zero, List.getElem_cons_succ, Act.put, List.setIfInBounds_toArray, List.set_cons_zero, List.set_cons_succ]
  refine wpAnyK_take (i := 18) (v := .bool true) rfl (by kernel_rfl) (by kernel_rfl) (by kernel_rfl) (by kernel_rfl) (fun _ _ _ h => h) (Or.inl ⟨by rfl, fun w hSw => by go_simp⟩) hHeld ?_
  simp only [List.getElem_toArray, List.getElem_cons_zero, List.getElem_cons_succ, Act.put, List.setIfInBounds_toArray, List.set_cons_zero, List.set_cons_succ]
  refine wpAnyK_one (i := 19) (by kernel_rfl) rfl (fun K hK => ?_)
  (try simp only [List.getElem_toArray, List.getElem_cons_zero, List.getElem_cons_succ, Act.put, List.setIfInBounds_toArray, List.set_cons_zero, List.set_cons_succ])
  go_simp
  refine (pmus20 _ u2).mono ?_
  rintro e4 w4 ⟨rfl, hw4⟩
  subst w4
  refine hK.out _ _ (fun _ => H2.out.1) (fun _ => ?_)
  clear hK K
  (try simp only [List.getElem_toArray, List.getElem_cons_zero, List.getElem_cons_succ, Act.put, List.setIfInBounds_toArray, List.set_cons_zero, List.set_cons_succ])
  refine wpAnyK_done (by kernel_rfl) ?_ _
  go_end0
  exact ⟨rfl, H2.out.2⟩
set_option maxRecDepth 100000 in
set_option maxHeartbeats 8000000 in
theorem pins20 (b gb gc rb rc B : Nat) (w : World) (h : Ma20 w b (mm20 (.slice (some ⟨gb, 0, none⟩) 1 gc) (.slice (some ⟨rb, 0, none⟩) 1 rc))) (hr : Rd20 w B rb rc) :
    Calls Tryz.prog 22 #[.pointer (some ⟨b, 0, none⟩)] w fun e w' => e = .returned (.tuple #[]) ∧ Below w.heap.size w w' := by
  have c10 : w.cell? ⟨b, 10, none⟩ = some (.slice (some ⟨rb, 0, none⟩) 1 rc) := h.c rfl
  have r0 : w.cell? ⟨rb, 0, none⟩ = some (.int .i64 0) := hr.c rfl
  have r1 : w.cell? ⟨rb, 1, none⟩ = some (.int .i64 0) := hr.c rfl
  have r2 : w.cell? ⟨rb, 2, none⟩ = some (.int .u32 0) := hr.c rfl
  have r3 : w.cell? ⟨rb, 3, none⟩ = some (.int .u32 0) := hr.c rfl
  have r4 : w.cell? ⟨rb, 4, none⟩ = some (.int .i64 64) := hr.c rfl
  have r5 : w.cell? ⟨rb, 5, none⟩ = some (.int .i64 100) := hr.c rfl
  have r6 : w.cell? ⟨rb, 6, none⟩ = some (.slice none 0 0) := hr.c rfl
  obtain ⟨w1, hw1⟩ : ∃ w1, w1 = w.alloc (.cells #[.int .i64 0, .int .i64 0, .int .u32 0, .int .u32 0, .int .i64 64, .int .i64 100, .slice none 0 0] 54) := ⟨_, rfl⟩
  have k1 := cb16 w #[.int .i64 0, .int .i64 0, .int .u32 0, .int .u32 0, .int .i64 64, .int .i64 100, .slice none 0 0] 54
  rw [← hw1] at k1
  obtain ⟨b2, hb2⟩ : ∃ b2, b2 = w.heap.size := ⟨_, rfl⟩
  have q1 := k1.cl
  rw [← hb2] at q1
  have c6 : w1.cell? ⟨b2, 6, none⟩ = some (.slice none 0 0) := cell18 q1 rfl
  have HW : Hid (w.alloc (.cells #[.int .i64 0, .int .i64 0, .int .u32 0, .int .u32 0, .int .i64 64, .int .i64 100, .slice none 0 0] 54) = w1 ∧ w.heap.size = b2) := ⟨hw1.symm, hb2.symm⟩
  rw [← HW.out.1, ← HW.out.2] at c6
  have HB : Hid (Below w.heap.size w w1) := k1.bl
  clear h hr hw1 k1 hb2 q1
  go_enter Tryz.func22, Tryz.ntmps22
  go_wp2_with fail
  go_loopw [11] (fun t11 V => (t11 = .int .i64 0 ∧ V = w) ∨ (t11 = .int .i64 1 ∧ V = w1)) (fun t11 _ => 1 - (intOf t11).toNat)
  case atStart => exact .inl ⟨rfl, rfl⟩
  case round =>
    rcases hrel with ⟨rfl, hV⟩ | ⟨rfl, hV⟩
    rotate_left
    · subst wr
      clear c6 c10 r0 r1 r2 r3 r4 r5 r6
      go_wp2_with fail
      go_end0
      exact ⟨rfl, HB.out⟩
    subst wr
    go_wp2_with fail
    go_loopw [18] (fun t18 V => t18 = .int .i64 0 ∧ V = w1) (fun _ _ => 0)
    case atStart => exact ⟨rfl, HW.out.1⟩
    case round =>
      obtain ⟨rfl, hV⟩ := hrel
      subst wr
      clear c6 c10 r0 r1 r2 r3 r4 r5 r6
      go_wp2_with fail
      go_roundw
      case rel => exact .inr ⟨by first | rfl | simp, by first | rfl | trivial⟩
      case measure => simp [intOf]
set_option maxRecDepth 100000 in
set_option maxHeartbeats 8000000 in
theorem pmnt20 (b gb gc rb rc B : Nat) (w : World) (ht : Tab w) (h : Ma20 w b (mm20 (.slice (some ⟨gb, 0, none⟩) 1 gc) (.slice (some ⟨rb, 0, none⟩) 1 rc))) (hr : Rd20 w B rb rc) :
    Calls Tryz.prog 23 #[.pointer (some ⟨b, 0, none⟩)] w fun e w' => e = .returned (.tuple #[]) ∧ Below w.heap.size w w' := by
  have c10 : w.cell? ⟨b, 10, none⟩ = some (.slice (some ⟨rb, 0, none⟩) 1 rc) := h.c rfl
  have r0 : w.cell? ⟨rb, 0, none⟩ = some (.int .i64 0) := hr.c rfl
  have r1 : w.cell? ⟨rb, 1, none⟩ = some (.int .i64 0) := hr.c rfl
  have r2 : w.cell? ⟨rb, 2, none⟩ = some (.int .u32 0) := hr.c rfl
  have r3 : w.cell? ⟨rb, 3, none⟩ = some (.int .u32 0) := hr.c rfl
  have r4 : w.cell? ⟨rb, 4, none⟩ = some (.int .i64 64) := hr.c rfl
  have r5 : w.cell? ⟨rb, 5, none⟩ = some (.int .i64 100) := hr.c rfl
  have r6 : w.cell? ⟨rb, 6, none⟩ = some (.slice none 0 0) := hr.c rfl
  obtain ⟨w1, hw1⟩ : ∃ w1, w1 = w.alloc (.cells #[.int .i64 0, .int .i64 0, .int .u32 0, .int .u32 0, .int .i64 64, .int .i64 100, .slice none 0 0] 54) := ⟨_, rfl⟩
  have k1 := cb16 w #[.int .i64 0, .int .i64 0, .int .u32 0, .int .u32 0, .int .i64 64, .int .i64 100, .slice none 0 0] 54
  rw [← hw1] at k1
  obtain ⟨b2, hb2⟩ : ∃ b2, b2 = w.heap.size := ⟨_, rfl⟩
  have q1 := k1.cl
  rw [← hb2] at q1
  have c6 : w1.cell? ⟨b2, 6, none⟩ = some (.slice none 0 0) := cell18 q1 rfl
  have HW : Hid (w.alloc (.cells #[.int .i64 0, .int .i64 0, .int .u32 0, .int .u32 0, .int .i64 64, .int .i64 100, .slice none 0 0] 54) = w1 ∧ w.heap.size = b2) := ⟨hw1.symm, hb2.symm⟩
  rw [← HW.out.1, ← HW.out.2] at c6
  obtain ⟨u, hu⟩ : ∃ u, u = w1.drew := ⟨_, rfl⟩
  have HU : Hid (w1.drew = u) := hu.symm
  have mu : Ma20 u b (mm20 (.slice (some ⟨gb, 0, none⟩) 1 gc) (.slice (some ⟨rb, 0, none⟩) 1 rc)) := by rw [hu]; exact h.old k1.bl.drew
  have qu : u.heap[b2]? = some (.cells #[.int .i64 0, .int .i64 0, .int .u32 0, .int .u32 0, .int .i64 64, .int .i64 100, .slice none 0 0] 54 (0, 0)) := by rw [hu]; exact q1
  have bu : Below w.heap.size w u := by rw [hu]; exact k1.bl.drew
  obtain ⟨u2, hu2⟩ : ∃ u2, u2 = u.alloc (.cells #[.slice none 0 0] 36) := ⟨_, rfl⟩
  have k2 := cb16 u #[.slice none 0 0] 36
  rw [← hu2] at k2
  have HU2 : Hid (u.alloc (.cells #[.slice none 0 0] 36) = u2) := hu2.symm
  have SU : Hid (Calls Tryz.prog 28 #[.slice (some ⟨u.heap.size, 0, none⟩) 1 1] u2 fun e w' => e = .returned (.int .u32 0) ∧ w' = u2) := psum20 u.heap.size _ u2 ((ht.old bu).old k2.bl) k2.cl
  have HS : Hid (∀ V, Ma20 V b (mm20 (.slice (some ⟨gb, 0, none⟩) 1 gc) (.slice (some ⟨rb, 0, none⟩) 1 rc)) → V.heap[b2]? = some (.cells #[.int .i64 0, .int .i64 0, .int .u32 0, .int .u32 0, .int .i64 64, .int .i64 100, .slice none 0 0] 54 (0, 0)) → V.cell? ⟨b, 8, none⟩ = some (.slice none 0 0) ∧ V.cell? ⟨b2, 3, none⟩ = some (.int .u32 0)) := fun V m q => ⟨m.c rfl, cell18 q rfl⟩
  have H1 : Hid (u.cell? ⟨b, 8, none⟩ = some (.slice none 0 0) ∧ u.cell? ⟨b2, 3, none⟩ = some (.int .u32 0)) := HS.out u mu qu
  have H2 : Hid ((u2.cell? ⟨b, 8, none⟩ = some (.slice none 0 0) ∧ u2.cell? ⟨b2, 3, none⟩ = some (.int .u32 0)) ∧ Below w.heap.size w u2) := ⟨HS.out u2 (mu.old k2.bl) ((k2.bl.block _ (Array.getElem?_eq_some_iff.1 qu).1).trans qu), bu.trans (k2.bl.mono bu.size)⟩
  clear h hr ht hw1 k1 hb2 q1 hu mu qu bu hu2 k2 HS
  go_enter Tryz.func23, Tryz.ntmps23
  go_wp2_with fail
  go_loopw [14] (fun t14 V => t14 = .int .i64 0 ∧ V = w1) (fun _ _ => 0)
  case atStart => exact ⟨rfl, HW.out.1⟩
  case round =>
    obtain ⟨rfl, hV⟩ := hrel
    subst wr
    clear c6 c10 r0 r1 r2 r3 r4 r5 r6
    go_wp2_with fail
    (try rw [HW.out.2])
    refine plain_region16 (fun V => V.cell? ⟨b, 8, none⟩ = some (.slice none 0 0) ∧ V.cell? ⟨b2, 3, none⟩ = some (.int .u32 0)) 11 (by kernel_rfl) (by rw [HU.out]; exact H1.out) (fun hHeld => ?_)
    rw [HU.out] at hHeld ⊢
    refine wpAnyK_take (i := 0) (v := .pointer (some ⟨b, 0, none⟩)) rfl (by kernel_rfl) (by kernel_rfl) (by kernel_rfl) (by kernel_rfl) (fun _ _ _ h => h) (Or.inl ⟨by rfl, fun w hSw => by go_simp⟩) hHeld ?_
    simp only [List.getElem_toArray, List.getElem_cons_zero, Act.put, List.setIfInBounds_toArray, List.set_cons_zero, List.set_cons_succ]
    refine wpAnyK_take (i := 1) (v := .pointer (some ⟨b, 0, none⟩)) rfl (by kernel_rfl) (by kernel_rfl) (by kernel_rfl) (by kernel_rfl) (fun _ _ _ h => h) (Or.inl ⟨by rfl, fun w hSw => by go_simp⟩) hHeld ?_
    simp only [List.getElem_toArray, List.getElem_cons_zero, List.getElem_cons_succ, Act.put, List.setIfInBounds_toArray, List.set_cons_zero, List.set_cons_succ]
    refine wpAnyK_take (i := 2) (v := .pointer (some ⟨b, 8, none⟩)) rfl (by kernel_rfl) (by kernel_rfl) (by kernel_rfl) (by kernel_rfl) (fun _ _ _ h => h) (Or.inl ⟨by rfl, fun w hSw => by go_simp⟩) hHeld ?_
    simp only [List.getElem_toArray, List.getElem_cons_zero, List.getElem_cons_succ, Act.put, List.setIfInBounds_toArray, List.set_cons_zero, List.set_cons_succ]
    refine wpAnyK_take (i := 3) (v := .slice none 0 0) rfl (by kernel_rfl) (by kernel_rfl) (by kernel_rfl) (by kernel_rfl) (fun _ _ _ h => h) (Or.inl ⟨by rfl, fun w hSw => by go_simp⟩) hHeld ?_
    simp only [List.getElem_toArray, List.getElem_cons_zero, List.getElem_cons_succ, Act.put, List.setIfInBounds_toArray, List.set_cons_zero, List.set_cons_succ]
    refine wpAnyK_take (i := 6) (v := .pointer (some ⟨b2, 0, none⟩)) rfl (by kernel_rfl) (by kernel_rfl) (by kernel_rfl) (by kernel_rfl) (fun _ _ _ h => h) (Or.inl ⟨by rfl, fun w hSw => by go_simp⟩) hHeld ?_
    simp only [List.getElem_toArray, List.getElem_cons_zero, List.getElem_cons_succ, Act.put, List.setIfInBounds_toArray, List.set_cons_zero, List.set_cons_succ]
    refine wpAnyK_take (i := 7) (v := .pointer (some ⟨b2, 3, none⟩)) rfl (by kernel_rfl) (by kernel_rfl) (by kernel_rfl) (by kernel_rfl) (fun _ _ _ h => h) (Or.inl ⟨by rfl, fun w hSw => by go_simp⟩) hHeld ?_
    simp only [List.getElem_toArray, List.getElem_cons_zero, List.getElem_cons_succ, Act.put, List.setIfInBounds_toArray, List.set_cons_zero, List.set_cons_succ]
    refine wpAnyK_take (i := 8) (v := .int .u32 0) rfl (by kernel_rfl) (by kernel_rfl) (by kernel_rfl) (by kernel_rfl) (fun _ _ _ h => h) (Or.inl ⟨by rfl, fun w hSw => by go_simp⟩) hHeld ?_
    simp only [List.getElem_toArray, List.getElem_cons_zero, List.getElem_cons_succ, Act.put, List.setIfInBounds_toArray, List.set_cons_zero, List.set_cons_succ]
    refine wpAnyK_one (i := 4) (by kernel_rfl) rfl (fun K hK => ?_)
    (try simp only [List.getElem_toArray, List.getElem_cons_zero, List.getElem_cons_succ, Act.put, List.setIfInBounds_toArray, List.set_cons_zero, List.set_cons_succ])
    go_simp
    rw [HU2.out]
    refine hK.out _ _ (fun _ => H2.out.1) (fun hHeld0 => ?_)
    have hHeld := hHeld0 (by decide)
    clear hHeld0 hK K
    (try simp only [List.getElem_toArray, List.getElem_cons_zero, List.getElem_cons_succ, Act.put, List.setIfInBounds_toArray, List.set_cons_zero, List.set_cons_succ])
    refine wpAnyK_one (i := 5) (by kernel_rfl) rfl (fun K hK => ?_)
    (try simp only [List.getElem_toArray, List.getElem_cons_zero, List.getElem_cons_succ, Act.put, List.setIfInBounds_toArray, List.set_cons_zero, List.set_cons_succ])
    go_simp
    refine SU.out.mono ?_
    rintro e3 w3 ⟨rfl, hw3⟩
    subst w3
    refine hK.out _ _ (fun _ => H2.out.1) (fun hHeld0 => ?_)
    have hHeld := hHeld0 (by decide)
    clear hHeld0 hK K
    (try simp only [List.getElem_toArray, List.getElem_cons_zero, List.getElem_cons_succ, Act.put, List.setIfInBounds_toArray, List.set_cons_zero, List.set_cons_succ])
    refine wpAnyK_take (i := 9) (v := .bool true) rfl (by kernel_rfl) (by kernel_rfl) (by kernel_rfl) (by kernel_rfl) (fun _ _ _ h => h) (Or.inl ⟨by rfl, fun w hSw => by go_simp⟩) hHeld ?_
    simp only [List.getElem_toArray, List.getElem_cons_zero, List.getElem_cons_succ, Act.put, List.setIfInBounds_toArray, List.set_cons_zero, List.set_cons_succ]
    refine wpAnyK_one (i := 10) (by kernel_rfl) rfl (fun K hK => ?_)
    (try simp only [List.getElem_toArray, List.getElem_cons_zero, List.getElem_cons_succ, Act.put, List.setIfInBounds_toArray, List.set_cons_zero, List.set_cons_succ])
    go_simp
    refine (pmus20 _ u2).mono ?_
    rintro e4 w4 ⟨rfl, hw4⟩
    subst w4
    refine hK.out _ _ (fun _ => H2.out.1) (fun _ => ?_)
    clear hK K
    (try simp only [List.getElem_toArray, List.getElem_cons_zero, List.getElem_cons_succ, Act.put, List.setIfInBounds_toArray, List.set_cons_zero, List.set_cons_succ])
    refine wpAnyK_done (by kernel_rfl) ?_ _
    go_end0
    exact ⟨rfl, H2.out.2⟩
end Go.Proofs.YtmfpdchfofffeaaGreatDoor

namespace Go.Proofs.YtmfpdchfofffeaaGreatDoor
open Go.RowKit Go.Shelf
set_option linter.unusedVariables false
set_option linter.unusedSimpArgs false
/-- What holds ahead of the i-th part. -/
def Mi20 (b gb : Nat) (za : Option Addr) (zc B : Nat) : Nat → World → Prop
  | 0 => fun V => Tab V ∧ Ma20 V b (mm20 (.slice (some ⟨gb, 0, none⟩) 1 1) (.slice none 0 0)) ∧ V.heap[gb]? = some (.cells #[.slice za 25 zc] 36 (0, 0)) ∧ Seg V za z20
  | _ => fun V => Tab V ∧ ∃ rb rc B', Ma20 V b (mm20 (.slice (some ⟨gb, 0, none⟩) 1 1) (.slice (some ⟨rb, 0, none⟩) 1 rc)) ∧ Rd20 V B' rb rc
theorem mi20_step (b gb : Nat) (za : Option Addr) (zc B : Nat) (hb : b ≠ 0) (hgb : gb ≠ b) (hzb : ∀ x off, za = some ⟨x, off, none⟩ → x ≠ b) (hc : 25 ≤ zc) : ∀ i, i < 4 → ∀ V, Mi20 b gb za zc B i V → Calls Tryz.prog ([20, 21, 22, 23].getD i 0) #[.pointer (some ⟨b, 0, none⟩)] V fun e V' => e = .returned (.tuple #[]) ∧ Mi20 b gb za zc B (i + 1) V' ∧ Kp (fun k => k = b) V V' := by
  intro i hi V hV
  rcases (by omega : i = 0 ∨ i = 1 ∨ i = 2 ∨ i = 3) with rfl | rfl | rfl | rfl
  · obtain ⟨t, m, q, sg⟩ := hV
    refine Calls.mono (pdcd20 b gb za zc 1 V t hgb hb m q sg hzb hc) ?_
    rintro e V' ⟨rfl, ⟨rb, rc, m', r'⟩, k⟩
    exact ⟨rfl, ⟨tab20 t k hb, rb, rc, _, m', r'⟩, k⟩
  · obtain ⟨t, rb, rc, B', m, r⟩ := hV
    refine Calls.mono (pmtf20 b gb 1 rb rc B' V t m r) ?_
    rintro e V' ⟨rfl, bl⟩
    exact ⟨rfl, ⟨t.old bl, rb, rc, B', m.old bl, r.kp (Kp.of_below (S := fun _ => False) bl) (fun x => x)⟩, (Kp.of_below bl).mono (fun _ _ x => x)⟩
  · obtain ⟨t, rb, rc, B', m, r⟩ := hV
    refine Calls.mono (pins20 b gb 1 rb rc B' V m r) ?_
    rintro e V' ⟨rfl, bl⟩
    exact ⟨rfl, ⟨t.old bl, rb, rc, B', m.old bl, r.kp (Kp.of_below (S := fun _ => False) bl) (fun x => x)⟩, (Kp.of_below bl).mono (fun _ _ x => x)⟩
  · obtain ⟨t, rb, rc, B', m, r⟩ := hV
    refine Calls.mono (pmnt20 b gb 1 rb rc B' V t m r) ?_
    rintro e V' ⟨rfl, bl⟩
    exact ⟨rfl, ⟨t.old bl, rb, rc, B', m.old bl, r.kp (Kp.of_below (S := fun _ => False) bl) (fun x => x)⟩, (Kp.of_below bl).mono (fun _ _ x => x)⟩
set_option maxRecDepth 100000 in
set_option maxHeartbeats 8000000 in
theorem pmea20 (za : Option Addr) (zc : Nat) (w : World) (ht : Tab w) (hz : Seg w za z20) (hc : 25 ≤ zc) : Calls Tryz.prog 11 #[.slice za 25 zc, .slice none 0 0] w fun e w' => e = .returned (.tuple #[.slice none 0 0, .int .i64 0]) ∧ Below w.heap.size w w' := by
  have h0 : 0 < w.heap.size := SegK.lt ht 0 0 rfl (by decide)
  obtain ⟨w1, hw1⟩ : ∃ w1, w1 = w.alloc (.cells #[.slice za 25 zc] 36) := ⟨_, rfl⟩
  have k1 := cb16 w #[.slice za 25 zc] 36
  rw [← hw1] at k1
  obtain ⟨w2, hw2⟩ : ∃ w2, w2 = w1.alloc (.cells zm20 56) := ⟨_, rfl⟩
  have k2 := cb16 w1 zm20 56
  rw [← hw2] at k2
  obtain ⟨b5, hb5⟩ : ∃ x, x = w.heap.size := ⟨_, rfl⟩
  obtain ⟨b8, hb8⟩ : ∃ x, x = w1.heap.size := ⟨_, rfl⟩
  have q8 := k2.cl
  rw [← hb8] at q8
  obtain ⟨w3, hw3⟩ : ∃ w3, w3 = w2.setRow b8 (mm20 (.slice (some ⟨b5, 0, none⟩) 1 1) (.slice none 0 0)) := ⟨_, rfl⟩
  have q83 : Ma20 w3 b8 (mm20 (.slice (some ⟨b5, 0, none⟩) 1 1) (.slice none 0 0)) := by rw [hw3]; exact setRow_heap _ _ _ _ _ _ q8
  have kk3 : Kp (fun k => k = b8) w2 w3 := by rw [hw3]; exact grow20 _ _ _
  obtain ⟨w4, hw4⟩ : ∃ w4, w4 = w3.alloc (.cells #[.nilFunc, .nilFunc, .nilFunc, .nilFunc] 62) := ⟨_, rfl⟩
  have k4 := cb16 w3 #[.nilFunc, .nilFunc, .nilFunc, .nilFunc] 62
  rw [← hw4] at k4
  obtain ⟨b9, hb9⟩ : ∃ x, x = w3.heap.size := ⟨_, rfl⟩
  have q9 := k4.cl
  rw [← hb9] at q9
  obtain ⟨w5, hw5⟩ : ∃ w5, w5 = w4.setRow b9 (fv20 [20, 21, 22, 23]) := ⟨_, rfl⟩
  have q95 : w5.heap[b9]? = some (.cells (fv20 [20, 21, 22, 23]) 62 (0, 0)) := by rw [hw5]; exact setRow_heap _ _ _ _ _ _ q9
  have kk5 : Kp (fun k => k = b9) w4 w5 := by rw [hw5]; exact grow20 _ _ _
  have s1 := k1.sz
  have s2 := k2.sz
  have s3 : w3.heap.size = w2.heap.size := by rw [hw3]; simp [World.setRow]
  have s4 := k4.sz
  have s5 : w5.heap.size = w4.heap.size := by rw [hw5]; simp [World.setRow]
  have K : Kp (fun k => w.heap.size ≤ k) w w5 := ((((Kp.of_below (S := fun k => w.heap.size ≤ k) k1.bl).trans (Kp.of_below (S := fun _ => False) k2.bl) (fun _ _ x => x.elim)).trans kk3 (fun k _ x => by have x : k = b8 := x; show w.heap.size ≤ k; omega)).trans (Kp.of_below (S := fun _ => False) k4.bl) (fun _ _ x => x.elim)).trans kk5 (fun k _ x => by have x : k = b9 := x; show w.heap.size ≤ k; omega)
  have B5 : Below w.heap.size w w5 := K.below (fun _ x => x) (Nat.le_refl _)
  have m5 : Ma20 w5 b8 (mm20 (.slice (some ⟨b5, 0, none⟩) 1 1) (.slice none 0 0)) := kk5.heap (q83.old k4.bl) (fun x => by have x : b8 = b9 := x; omega)
  have q5 := k1.cl
  rw [← hb5] at q5
  have g5 : w5.heap[b5]? = some (.cells #[.slice za 25 zc] 36 (0, 0)) := by
    have g3 := kk3.heap ((k2.bl.block _ (by omega)).trans q5) (fun x => by have x : b5 = b8 := x; omega)
    exact kk5.heap ((k4.bl.block _ (Array.getElem?_eq_some_iff.1 g3).1).trans g3) (fun x => by have x : b5 = b9 := x; omega)
  have hlt : ∀ x off, za = some ⟨x, off, none⟩ → x < w.heap.size := fun x off e => hz.lt x off e (by rw [z20_len]; decide)
  have RU := prun20 b8 b9 4 4 [20, 21, 22, 23] (Mi20 b8 b5 za zc 0) w5 62 rfl (by decide) (by decide) (by omega) (by omega) q95
    (by
      intro f hf x W
      simp only [List.mem_cons, List.not_mem_nil, or_false] at hf
      rcases hf with rfl | rfl | rfl | rfl <;> kernel_rfl)
    (fun V hV hl => ⟨(ht.old B5).old hV, m5.old hV, (hV.block _ (Array.getElem?_eq_some_iff.1 g5).1).trans g5, (hz.old B5).old hV⟩)
    (mi20_step b8 b5 za zc 0 (by omega) (by omega) (fun x off e => by have := hlt x off e; omega) hc)
  have HRU := Hid.mk20 RU
  have HW : Hid (w.alloc (.cells #[.slice za 25 zc] 36) = w1 ∧ w.heap.size = b5 ∧ w1.alloc (.cells #[.int .i64 0, .int .i64 0, .int .i64 0, .bool false, .int .i64 0, .slice none 0 0, .int .i64 0, .slice none 0 0, .slice none 0 0, .slice none 0 0, .slice none 0 0, .slice none 0 0, .slice none 0 0, .slice none 0 0, .int .i64 0, .int .i64 0, .int .u32 0, .int .u32 0, .int .i64 0, .int .i64 0, .slice none 0 0, .slice none 0 0] 56) = w2 ∧ w1.heap.size = b8 ∧ w3.alloc (.cells #[.nilFunc, .nilFunc, .nilFunc, .nilFunc] 62) = w4 ∧ w3.heap.size = b9 ∧ w2.setRow b8 (mm20 (.slice (some ⟨b5, 0, none⟩) 1 1) (.slice none 0 0)) = w3 ∧ w4.setRow b9 (fv20 [20, 21, 22, 23]) = w5 ∧ b5 + 1 = b8) := ⟨hw1.symm, hb5.symm, hw2.symm, hb8.symm, hw4.symm, hb9.symm, hw3.symm, hw5.symm, by omega⟩
  have HQ : Hid (w2.heap[b8]? = some (.cells zm20 56 (0, 0)) ∧ w4.heap[b9]? = some (.cells #[.nilFunc, .nilFunc, .nilFunc, .nilFunc] 62 (0, 0))) := ⟨q8, q9⟩
  have HB5 := Hid.mk20 B5
  have HSZ : Hid (b8 < w5.heap.size) := (by omega : b8 < w5.heap.size)
  have HN : Hid (w.heap.size < b8) := (by omega : w.heap.size < b8)
  clear hw1 hw2 hw3 hw4 hw5 hb5 hb8 hb9 k1 k2 k4 q8 q9 q83 kk3 kk5 s1 s2 s3 s4 s5 K B5 m5 RU q5 q95 h0 ht hz hc hlt g5
  go_enter Tryz.func11, Tryz.ntmps11
  go_wp2_with (first
    | (rw [HW.out.1, HW.out.2.1, HW.out.2.2.2.2.2.2.2.2, HW.out.2.2.1]; refine wpList_store_row rfl 56 (.tmp 6) (.tmp 12) rfl b8 (mm20 (.slice (some ⟨b5, 0, none⟩) 1 1) (.slice none 0 0)) rfl rfl _ _ HQ.out.1 (by kernel_rfl) rfl (by kernel_rfl) ?_; rw [HW.out.2.2.2.2.2.2.1])
    | (rw [HW.out.2.2.2.2.1, HW.out.2.2.2.2.2.1]; refine wpList_store_row rfl 62 (.tmp 7) (.tmp 13) rfl b9 (fv20 [20, 21, 22, 23]) rfl rfl _ _ HQ.out.2 (by kernel_rfl) rfl (by kernel_rfl) ?_; rw [HW.out.2.2.2.2.2.2.2.1]))
  refine HRU.out.mono ?_
  rintro e1 w6 ⟨rfl, V, ⟨-, rb, rc, B', m6, -⟩, kv, kw, hsz⟩
  have hne : b8 ≠ w5.heap.size := by have q := HSZ.out; omega
  have m7 : Ma20 w6 b8 _ := kv.heap m6 (fun x => hne x)
  have c8 : w6.cell? ⟨b8, 8, none⟩ = some (.slice none 0 0) := m7.c rfl
  have B7 : Below w.heap.size w w6 := by
    have k7 : Kp (fun k => w.heap.size ≤ k) w w6 := (Kp.of_below (S := fun k => w.heap.size ≤ k) HB5.out).trans kw (fun k _ x => by have x : k = b8 := x; have := HN.out; show w.heap.size ≤ k; omega)
    exact k7.below (fun _ x => x) (Nat.le_refl _)
  have HP := Hid.mk20 B7
  clear m6 kv kw hsz m7 B7 hne
  go_wp2_with fail
  go_ret2
  exact ⟨rfl, HP.out⟩
set_option maxRecDepth 100000 in
theorem pgood20 (w : World) : Calls Tryz.prog 9 #[] w fun e w' => e = .returned (.agg #[.int .i64 64, .int .i64 100, .int .i64 10, .bool false, .int .i64 100]) ∧ Below w.heap.size w w' := by
  have cP := cb16 w #[.int .i64 64, .int .i64 100, .int .i64 10, .bool false, .int .i64 100] 31
  have HP := Hid.mk20 cP
  clear cP
  go_enter Tryz.func9, Tryz.ntmps9
  go_wp2
  refine bodyPost_ret (v := .agg #[.int .i64 64, .int .i64 100, .int .i64 10, .bool false, .int .i64 100]) (results_cell_row (fn := Tryz.f9) (p := 0) (ty := 31) rfl _ _ w.heap.size _ _ _ _ rfl HP.out.cl Tryz.underlying31 rfl (by kernel_rfl)) rfl ?_
  exact ⟨rfl, HP.out.bl⟩
set_option maxRecDepth 100000 in
set_option maxHeartbeats 4000000 in
theorem pawk20 (w : World) (ht : Tab w) : Calls Tryz.prog 6 #[] w fun e w' => e = .returned (.bool true) ∧ Below w.heap.size w w' := by
  have HT := Hid.mk20 ht
  clear ht
  go_enter Tryz.func6, Tryz.ntmps6
  go_wp2_with fail
  refine (pgood20 w).mono ?_
  rintro e1 w1 ⟨rfl, b1⟩
  have HB1 := Hid.mk20 b1
  clear b1
  go_wp2_with fail
  refine (pgen20 w1 (HT.out.old HB1.out)).mono ?_
  rintro e2 w2 ⟨p, c, rfl, o2, b2⟩
  have hs : Seg w2 p z20 ∧ 25 ≤ c := by
    have o3 : w2.ownsRow w1.heap.size 5 1 (.slice p 25 c) 25 (z20.map (Value.int .u8)) := o2
    obtain ⟨-, a1, c1', hv1, sg1, -, hc1, -⟩ := own_seg o3 (M := 255) (by decide) z20_bd
    injection hv1 with h1 h2 h3
    subst h1
    exact ⟨sg1, by omega⟩
  have HB2 : Hid (Below w.heap.size w w2) := HB1.out.trans (b2.mono HB1.out.size)
  have ME := Hid.mk20 (pmea20 p c w2 (HT.out.old HB2.out) hs.1 hs.2)
  clear o2 b2 hs
  go_wp2_with fail
  refine ME.out.mono ?_
  rintro e3 w3 ⟨rfl, b3⟩
  have HB3 : Hid (Below w.heap.size w w3) := HB2.out.trans (b3.mono HB2.out.size)
  clear b3 ME
  go_wp2_with fail
  go_ret
  exact ⟨rfl, HB3.out⟩
end Go.Proofs.YtmfpdchfofffeaaGreatDoor

namespace Go.Proofs.YtmfpdchfofffeaaGreatDoor
open Go.RowKit Go.Shelf
set_option linter.unusedVariables false
set_option linter.unusedSimpArgs false
set_option maxRecDepth 100000 in
set_option maxHeartbeats 1000000 in
theorem rpop20 (k c : Int) (z : Bool) (B : Int) (w : World) : Calls Tryz.prog 13 #[look7 k c z, .int .i64 B] w fun e w' => e = .returned (.int .i64 (po20 k c B)) ∧ Below w.heap.size w w' := by
  unfold look7
  obtain ⟨wA, hwA⟩ : ∃ wA, wA = w.alloc (.cells #[.int .i64 k, .int .i64 c, .bool z] 41) := ⟨_, rfl⟩
  have cA := cb16 w #[.int .i64 k, .int .i64 c, .bool z] 41
  rw [← hwA] at cA
  obtain ⟨b4, hb4⟩ : ∃ b4, b4 = w.heap.size := ⟨_, rfl⟩
  have HWA : Hid (w.alloc (.cells #[.int .i64 k, .int .i64 c, .bool z] 41) = wA) := hwA.symm
  have HB4 : Hid (w.heap.size = b4) := hb4.symm
  have OP : Hid (Calls Tryz.prog 25 #[.agg #[.int .i64 k, .int .i64 c, .bool z]] wA fun e w' => e = .returned (.int .i64 (opt7 k c)) ∧ Below wA.heap.size wA w') := ropt7 k c z wA
  have HA : Hid (Below w.heap.size w wA) := cA.bl
  clear hwA cA hb4
  generalize hx : opt7 k c = x at *
  by_cases h0 : x = 0
  · subst h0
    by_cases h1 : B < 1
    · have HE : po20 k c B = 100 := by unfold po20; rw [if_pos (.inr (.inl h1))]
      rw [HE]
      clear HE hx
      go_enter Tryz.func13, Tryz.ntmps13
      go_wp2_with fail
      rw [HWA.out]
      refine OP.out.mono ?_
      rintro e1 w1 ⟨rfl, b1⟩
      go_wp2_with fail
      go_ret
      exact ⟨rfl, HA.out.trans (b1.mono HA.out.size)⟩
    · by_cases h2 : 65536 < B
      · have HE : po20 k c B = 100 := by unfold po20; rw [if_pos (.inr (.inr h2))]
        rw [HE]
        clear HE hx
        go_enter Tryz.func13, Tryz.ntmps13
        go_wp2_with fail
        rw [HWA.out]
        refine OP.out.mono ?_
        rintro e1 w1 ⟨rfl, b1⟩
        go_wp2_with fail
        go_ret
        exact ⟨rfl, HA.out.trans (b1.mono HA.out.size)⟩
      · have HE : po20 k c B = 0 := by unfold po20; rw [if_neg (by rw [hx]; omega)]
        rw [HE]
        clear HE hx
        go_enter Tryz.func13, Tryz.ntmps13
        go_wp2_with fail
        rw [HWA.out]
        refine OP.out.mono ?_
        rintro e1 w1 ⟨rfl, b1⟩
        go_wp2_with fail
        go_ret
        exact ⟨rfl, HA.out.trans (b1.mono HA.out.size)⟩
  · have HE : po20 k c B = 100 := by unfold po20; rw [if_pos (.inl (by rw [hx]; exact h0))]
    rw [HE]
    clear HE hx
    go_enter Tryz.func13, Tryz.ntmps13
    go_wp2_with fail
    rw [HWA.out]
    refine OP.out.mono ?_
    rintro e1 w1 ⟨rfl, b1⟩
    go_wp2_with fail
    go_ret
    exact ⟨rfl, HA.out.trans (b1.mono HA.out.size)⟩

set_option maxRecDepth 100000 in
set_option maxHeartbeats 4000000 in
theorem ropt20 (W k c : Int) (z : Bool) (B : Int) (w : World) : Calls Tryz.prog 8 #[.agg #[.int .i64 W, .int .i64 k, .int .i64 c, .bool z, .int .i64 B]] w fun e w' => e = .returned (.int .i64 (op20 W k c B)) ∧ Below w.heap.size w w' := by
  obtain ⟨wA, hwA⟩ : ∃ wA, wA = w.alloc (.cells #[.int .i64 W, .int .i64 k, .int .i64 c, .bool z, .int .i64 B] 31) := ⟨_, rfl⟩
  have cA := cb16 w #[.int .i64 W, .int .i64 k, .int .i64 c, .bool z, .int .i64 B] 31
  rw [← hwA] at cA
  obtain ⟨wB, hwB⟩ : ∃ wB, wB = wA.alloc (.cells #[.int .i64 k, .int .i64 c, .bool z] 41) := ⟨_, rfl⟩
  have cB := cb16 wA #[.int .i64 k, .int .i64 c, .bool z] 41
  rw [← hwB] at cB
  obtain ⟨b1, hb1⟩ : ∃ b1, b1 = w.heap.size := ⟨_, rfl⟩
  obtain ⟨b3, hb3⟩ : ∃ b3, b3 = w.heap.size + 1 := ⟨_, rfl⟩
  have sA := cA.sz
  have qA := cA.cl
  rw [← hb1] at qA
  have qB : wB.heap[b3]? = some (.cells #[.int .i64 k, .int .i64 c, .bool z] 41 (0, 0)) := by rw [show b3 = wA.heap.size by omega]; exact cB.cl
  have qA2 := (cB.bl.block _ (Array.getElem?_eq_some_iff.1 qA).1).trans qA
  have a0 : wA.cell? ⟨b1, 0, none⟩ = some (.int .i64 W) := cell18 qA rfl
  have a1 : wA.cell? ⟨b1, 1, none⟩ = some (.int .i64 k) := cell18 qA rfl
  have a2 : wA.cell? ⟨b1, 2, none⟩ = some (.int .i64 c) := cell18 qA rfl
  have a3 : wA.cell? ⟨b1, 3, none⟩ = some (.bool z) := cell18 qA rfl
  have HW : Hid (w.alloc (.cells #[.int .i64 W, .int .i64 k, .int .i64 c, .bool z, .int .i64 B] 31) = wA ∧ w.heap.size = b1 ∧ wA.alloc (.cells #[.int .i64 k, .int .i64 c, .bool z] 41) = wB ∧ b1 + 1 = b3 ∧ wA.heap.size = b3) := ⟨hwA.symm, hb1.symm, hwB.symm, by omega, by omega⟩
  have HA : Hid (Below w.heap.size w wB) := cA.bl.trans (cB.bl.mono cA.bl.size)
  have HC : Hid (wB.cell? ⟨b1, 0, none⟩ = some (.int .i64 W) ∧ wB.cell? ⟨b1, 4, none⟩ = some (.int .i64 B) ∧ wB.cell? ⟨b3, 0, none⟩ = some (.int .i64 k) ∧ wB.cell? ⟨b3, 1, none⟩ = some (.int .i64 c) ∧ wB.cell? ⟨b3, 2, none⟩ = some (.bool z)) := ⟨cell18 qA2 rfl, cell18 qA2 rfl, cell18 qB rfl, cell18 qB rfl, cell18 qB rfl⟩
  have OP : Hid (Calls Tryz.prog 13 #[.agg #[.int .i64 k, .int .i64 c, .bool z], .int .i64 B] wB fun e w' => e = .returned (.int .i64 (po20 k c B)) ∧ Below wB.heap.size wB w') := rpop20 k c z B wB
  rw [← HW.out.1, ← HW.out.2.1] at a0 a1 a2 a3
  clear hwA hwB cA cB hb1 hb3 sA qA qB qA2
  generalize hx : po20 k c B = x at *
  by_cases h1 : W < 64
  · have HE : op20 W k c B = 200 := by unfold op20; rw [if_pos (.inl h1)]
    rw [HE]
    clear HE hx OP
    go_enter Tryz.func8, Tryz.ntmps8
    go_wp2_with fail
    go_ret
    rw [HW.out.1, HW.out.2.2.1]
    exact ⟨rfl, HA.out⟩
  · by_cases h2 : 65536 < W
    · have HE : op20 W k c B = 200 := by unfold op20; rw [if_pos (.inr (.inl h2))]
      rw [HE]
      clear HE hx OP
      go_enter Tryz.func8, Tryz.ntmps8
      go_wp2_with fail
      go_wp2_with fail
      go_ret
      rw [HW.out.1, HW.out.2.2.1]
      exact ⟨rfl, HA.out⟩
    · by_cases h0 : x = 0
      · have HE : op20 W k c B = 0 := by unfold op20; rw [if_neg (by rw [hx]; omega)]
        rw [HE]
        subst h0
        clear HE hx
        go_enter Tryz.func8, Tryz.ntmps8
        go_wp2_with fail
        go_wp2_with fail
        rw [HW.out.1, HW.out.2.2.1]
        refine OP.out.mono ?_
        rintro e1 w1 ⟨rfl, b1⟩
        go_wp2_with fail
        go_ret
        exact ⟨rfl, HA.out.trans (b1.mono HA.out.size)⟩
      · have HE : op20 W k c B = 200 := by unfold op20; rw [if_pos (.inr (.inr (by rw [hx]; exact h0)))]
        rw [HE]
        clear HE hx
        go_enter Tryz.func8, Tryz.ntmps8
        go_wp2_with fail
        go_wp2_with fail
        rw [HW.out.1, HW.out.2.2.1]
        refine OP.out.mono ?_
        rintro e1 w1 ⟨rfl, b1⟩
        go_wp2_with fail
        go_ret
        exact ⟨rfl, HA.out.trans (b1.mono HA.out.size)⟩
set_option maxRecDepth 100000 in
theorem pnum20 (v : Int) (w : World) : Calls Tryz.prog 5 #[.int .i64 v] w fun e w' => e = .returned (.int .i64 v) ∧ w' = w := by
  go_enter Tryz.func5, Tryz.ntmps5
  go_wp2
  go_ret
  exact ⟨rfl, rfl⟩
set_option maxRecDepth 100000 in
set_option maxHeartbeats 4000000 in
theorem makerOptions_walk (w : World) (ht : Tab w) (W k c : Int) (z : Bool) (B : Int) : Calls Tryz.prog 4 #[.agg #[.int .i64 W, .int .i64 k, .int .i64 c, .bool z, .int .i64 B]] w fun e w' => e = .returned (.bool true) ∧ Below w.heap.size w w' := by
  obtain ⟨w1, hw1⟩ : ∃ w1, w1 = w.alloc (.cells #[.int .i64 W, .int .i64 k, .int .i64 c, .bool z, .int .i64 B] 31) := ⟨_, rfl⟩
  have k1 := cb16 w #[.int .i64 W, .int .i64 k, .int .i64 c, .bool z, .int .i64 B] 31
  rw [← hw1] at k1
  obtain ⟨b1, hb1⟩ : ∃ b1, b1 = w.heap.size := ⟨_, rfl⟩
  have q1 := k1.cl
  rw [← hb1] at q1
  have HW : Hid (w.alloc (.cells #[.int .i64 W, .int .i64 k, .int .i64 c, .bool z, .int .i64 B] 31) = w1 ∧ w.heap.size = b1) := ⟨hw1.symm, hb1.symm⟩
  have HS : Hid (∀ V, Below w1.heap.size w1 V → V.cell? ⟨b1, 0, none⟩ = some (.int .i64 W) ∧ V.cell? ⟨b1, 1, none⟩ = some (.int .i64 k) ∧ V.cell? ⟨b1, 2, none⟩ = some (.int .i64 c) ∧ V.cell? ⟨b1, 3, none⟩ = some (.bool z) ∧ V.cell? ⟨b1, 4, none⟩ = some (.int .i64 B)) := fun V hV => by
    have q := (hV.block _ (Array.getElem?_eq_some_iff.1 q1).1).trans q1
    exact ⟨cell18 q rfl, cell18 q rfl, cell18 q rfl, cell18 q rfl, cell18 q rfl⟩
  have HB : Hid (Below w.heap.size w w1 ∧ ∀ V, Below w1.heap.size w1 V → Tab V) := ⟨k1.bl, fun V hV => (ht.old k1.bl).old hV⟩
  have HD : Hid (Below w1.heap.size w1 w1.drew) := (Below.refl _ _).drew
  have O1 : Hid (∀ V, Calls Tryz.prog 7 #[.agg #[.int .i64 W, .int .i64 k, .int .i64 c, .bool z, .int .i64 B]] V fun e w' => e = .returned (.int .i64 (op20 W k c B)) ∧ Below V.heap.size V w') := fun V => pops20 W k c z B V
  have O2 : Hid (∀ V, Calls Tryz.prog 8 #[.agg #[.int .i64 W, .int .i64 k, .int .i64 c, .bool z, .int .i64 B]] V fun e w' => e = .returned (.int .i64 (op20 W k c B)) ∧ Below V.heap.size V w') := fun V => ropt20 W k c z B V
  have O3 : Hid (∀ V, Calls Tryz.prog 7 #[.agg #[.int .i64 64, .int .i64 100, .int .i64 10, .bool false, .int .i64 100]] V fun e w' => e = .returned (.int .i64 0) ∧ Below V.heap.size V w') := fun V => by
    have := pops20 64 100 10 false 100 V
    rw [op20_good] at this
    exact this
  generalize op20 W k c B = x at *
  clear hw1 k1 hb1 q1 ht
  go_enter Tryz.func4, Tryz.ntmps4
  go_wp2_with fail
  rw [HW.out.1, HW.out.2]
  refine plain_region16 (fun V => V.cell? ⟨b1, 0, none⟩ = some (.int .i64 W) ∧ V.cell? ⟨b1, 1, none⟩ = some (.int .i64 k) ∧ V.cell? ⟨b1, 2, none⟩ = some (.int .i64 c) ∧ V.cell? ⟨b1, 3, none⟩ = some (.bool z) ∧ V.cell? ⟨b1, 4, none⟩ = some (.int .i64 B)) 15 (by kernel_rfl) (HS.out _ HD.out) (fun hHeld => ?_)
  refine wpAnyK_take (i := 0) (v := .agg #[.int .i64 W, .int .i64 k, .int .i64 c, .bool z, .int .i64 B]) rfl (by kernel_rfl) (by kernel_rfl) (by kernel_rfl) (by kernel_rfl) (fun _ _ _ h => h) (Or.inl ⟨by rfl, fun w hSw => by go_simp⟩) hHeld ?_
  simp only [List.getElem_toArray, List.getElem_cons_zero, Act.put, List.setIfInBounds_toArray, List.set_cons_zero, List.set_cons_succ]
  refine wpAnyK_take (i := 3) (v := .agg #[.int .i64 W, .int .i64 k, .int .i64 c, .bool z, .int .i64 B]) rfl (by kernel_rfl) (by kernel_rfl) (by kernel_rfl) (by kernel_rfl) (fun _ _ _ h => h) (Or.inl ⟨by rfl, fun w hSw => by go_simp⟩) hHeld ?_
  simp only [List.getElem_toArray, List.getElem_cons_zero, List.getElem_cons_succ, Act.put, List.setIfInBounds_toArray, List.set_cons_zero, List.set_cons_succ]
  refine wpAnyK_one (i := 1) (by kernel_rfl) rfl (fun K hK => ?_)
  (try simp only [List.getElem_toArray, List.getElem_cons_zero, List.getElem_cons_succ, Act.put, List.setIfInBounds_toArray, List.set_cons_zero, List.set_cons_succ])
  go_simp
  refine (O1.out w1.drew).mono ?_
  rintro e2 w2 ⟨rfl, b2⟩
  have H2 : Hid (Below w1.heap.size w1 w2) := HD.out.trans b2
  clear b2
  refine hK.out _ _ (fun _ => HS.out _ H2.out) (fun hHeld0 => ?_)
  have hHeld := hHeld0 (by decide)
  clear hHeld0 hK K
  (try simp only [List.getElem_toArray, List.getElem_cons_zero, List.getElem_cons_succ, Act.put, List.setIfInBounds_toArray, List.set_cons_zero, List.set_cons_succ])
  refine wpAnyK_one (i := 2) (by kernel_rfl) rfl (fun K hK => ?_)
  (try simp only [List.getElem_toArray, List.getElem_cons_zero, List.getElem_cons_succ, Act.put, List.setIfInBounds_toArray, List.set_cons_zero, List.set_cons_succ])
  go_simp
  refine (pnum20 x w2).mono ?_
  rintro e3 w3 ⟨rfl, hw3⟩
  subst w3
  refine hK.out _ _ (fun _ => HS.out _ H2.out) (fun hHeld0 => ?_)
  have hHeld := hHeld0 (by decide)
  clear hHeld0 hK K
  (try simp only [List.getElem_toArray, List.getElem_cons_zero, List.getElem_cons_succ, Act.put, List.setIfInBounds_toArray, List.set_cons_zero, List.set_cons_succ])
  refine wpAnyK_one (i := 4) (by kernel_rfl) rfl (fun K hK => ?_)
  (try simp only [List.getElem_toArray, List.getElem_cons_zero, List.getElem_cons_succ, Act.put, List.setIfInBounds_toArray, List.set_cons_zero, List.set_cons_succ])
  go_simp
  refine (O2.out w2).mono ?_
  rintro e4 w4 ⟨rfl, b4⟩
  have H4 : Hid (Below w1.heap.size w1 w4) := H2.out.trans (b4.mono H2.out.size)
  clear b4 H2
  refine hK.out _ _ (fun _ => HS.out _ H4.out) (fun hHeld0 => ?_)
  have hHeld := hHeld0 (by decide)
  clear hHeld0 hK K
  (try simp only [List.getElem_toArray, List.getElem_cons_zero, List.getElem_cons_succ, Act.put, List.setIfInBounds_toArray, List.set_cons_zero, List.set_cons_succ])
  refine wpAnyK_take (i := 5) (v := .bool true) rfl (by kernel_rfl) (by kernel_rfl) (by kernel_rfl) (by kernel_rfl) (fun _ _ _ h => h) (Or.inl ⟨by rfl, fun w hSw => by go_simp⟩) hHeld ?_
  simp only [List.getElem_toArray, List.getElem_cons_zero, List.getElem_cons_succ, Act.put, List.setIfInBounds_toArray, List.set_cons_zero, List.set_cons_succ]
  refine wpAnyK_take (i := 6) (v := .bool true) rfl (by kernel_rfl) (by kernel_rfl) (by kernel_rfl) (by kernel_rfl) (fun _ _ _ h => h) (Or.inl ⟨by rfl, fun w hSw => by go_simp⟩) hHeld ?_
  simp only [List.getElem_toArray, List.getElem_cons_zero, List.getElem_cons_succ, Act.put, List.setIfInBounds_toArray, List.set_cons_zero, List.set_cons_succ]
  refine wpAnyK_one (i := 7) (by kernel_rfl) rfl (fun K hK => ?_)
  (try simp only [List.getElem_toArray, List.getElem_cons_zero, List.getElem_cons_succ, Act.put, List.setIfInBounds_toArray, List.set_cons_zero, List.set_cons_succ])
  go_simp
  refine (pgood20 w4).mono ?_
  rintro e5 w5 ⟨rfl, b5⟩
  have H5 : Hid (Below w1.heap.size w1 w5) := H4.out.trans (b5.mono H4.out.size)
  clear b5 H4
  refine hK.out _ _ (fun _ => HS.out _ H5.out) (fun hHeld0 => ?_)
  have hHeld := hHeld0 (by decide)
  clear hHeld0 hK K
  (try simp only [List.getElem_toArray, List.getElem_cons_zero, List.getElem_cons_succ, Act.put, List.setIfInBounds_toArray, List.set_cons_zero, List.set_cons_succ])
  refine wpAnyK_one (i := 8) (by kernel_rfl) rfl (fun K hK => ?_)
  (try simp only [List.getElem_toArray, List.getElem_cons_zero, List.getElem_cons_succ, Act.put, List.setIfInBounds_toArray, List.set_cons_zero, List.set_cons_succ])
  go_simp
  refine (O3.out w5).mono ?_
  rintro e6 w6 ⟨rfl, b6⟩
  have H6 : Hid (Below w1.heap.size w1 w6) := H5.out.trans (b6.mono H5.out.size)
  clear b6 H5
  refine hK.out _ _ (fun _ => HS.out _ H6.out) (fun hHeld0 => ?_)
  have hHeld := hHeld0 (by decide)
  clear hHeld0 hK K
  (try simp only [List.getElem_toArray, List.getElem_cons_zero, List.getElem_cons_succ, Act.put, List.setIfInBounds_toArray, List.set_cons_zero, List.set_cons_succ])
  refine wpAnyK_take (i := 9) (v := .bool true) rfl (by kernel_rfl) (by kernel_rfl) (by kernel_rfl) (by kernel_rfl) (fun _ _ _ h => h) (Or.inl ⟨by rfl, fun w hSw => by go_simp⟩) hHeld ?_
  simp only [List.getElem_toArray, List.getElem_cons_zero, List.getElem_cons_succ, Act.put, List.setIfInBounds_toArray, List.set_cons_zero, List.set_cons_succ]
  refine wpAnyK_take (i := 10) (v := .bool true) rfl (by kernel_rfl) (by kernel_rfl) (by kernel_rfl) (by kernel_rfl) (fun _ _ _ h => h) (Or.inl ⟨by rfl, fun w hSw => by go_simp⟩) hHeld ?_
  simp only [List.getElem_toArray, List.getElem_cons_zero, List.getElem_cons_succ, Act.put, List.setIfInBounds_toArray, List.set_cons_zero, List.set_cons_succ]
  refine wpAnyK_take (i := 11) (v := .bool true) rfl (by kernel_rfl) (by kernel_rfl) (by kernel_rfl) (by kernel_rfl) (fun _ _ _ h => h) (Or.inl ⟨by rfl, fun w hSw => by go_simp⟩) hHeld ?_
  simp only [List.getElem_toArray, List.getElem_cons_zero, List.getElem_cons_succ, Act.put, List.setIfInBounds_toArray, List.set_cons_zero, List.set_cons_succ]
  refine wpAnyK_one (i := 12) (by kernel_rfl) rfl (fun K hK => ?_)
  (try simp only [List.getElem_toArray, List.getElem_cons_zero, List.getElem_cons_succ, Act.put, List.setIfInBounds_toArray, List.set_cons_zero, List.set_cons_succ])
  go_simp
  refine (pawk20 w6 (HB.out.2 w6 H6.out)).mono ?_
  rintro e7 w7 ⟨rfl, b7⟩
  have H7 : Hid (Below w1.heap.size w1 w7) := H6.out.trans (b7.mono H6.out.size)
  clear b7 H6
  refine hK.out _ _ (fun _ => HS.out _ H7.out) (fun hHeld0 => ?_)
  have hHeld := hHeld0 (by decide)
  clear hHeld0 hK K
  (try simp only [List.getElem_toArray, List.getElem_cons_zero, List.getElem_cons_succ, Act.put, List.setIfInBounds_toArray, List.set_cons_zero, List.set_cons_succ])
  refine wpAnyK_take (i := 13) (v := .bool true) rfl (by kernel_rfl) (by kernel_rfl) (by kernel_rfl) (by kernel_rfl) (fun _ _ _ h => h) (Or.inl ⟨by rfl, fun w hSw => by go_simp⟩) hHeld ?_
  simp only [List.getElem_toArray, List.getElem_cons_zero, List.getElem_cons_succ, Act.put, List.setIfInBounds_toArray, List.set_cons_zero, List.set_cons_succ]
  refine wpAnyK_one (i := 14) (by kernel_rfl) rfl (fun K hK => ?_)
  (try simp only [List.getElem_toArray, List.getElem_cons_zero, List.getElem_cons_succ, Act.put, List.setIfInBounds_toArray, List.set_cons_zero, List.set_cons_succ])
  go_simp
  refine hK.out _ _ (fun _ => HS.out _ H7.out) (fun _ => ?_)
  clear hK K
  (try simp only [List.getElem_toArray, List.getElem_cons_zero, List.getElem_cons_succ, Act.put, List.setIfInBounds_toArray, List.set_cons_zero, List.set_cons_succ])
  refine wpAnyK_done (by kernel_rfl) ?_ _
  go_wp2_with fail
  go_ret
  exact ⟨rfl, HB.out.1.trans (H7.out.mono HB.out.1.size)⟩
end Go.Proofs.YtmfpdchfofffeaaGreatDoor

namespace Go.Proofs.YtmfpdchfofffeaaGreatDoor
open Go.ChangeShapes Go.WideShapes Go.ChangeAt Go.RowKit
set_option linter.unusedVariables false
set_option maxRecDepth 100000
theorem cells_int20 : Tryz.prog.cellsOf 3 = 1 := by kernel_rfl
theorem cells_bool20 : Tryz.prog.cellsOf 4 = 1 := by kernel_rfl
theorem cells_lk20 : Tryz.prog.cellsOf 27 = 3 := by kernel_rfl
theorem cells_pr20 : Tryz.prog.cellsOf 29 = 4 := by kernel_rfl
theorem cells_ot20 : Tryz.prog.cellsOf 31 = 5 := by kernel_rfl
/-- Options by value that came in. -/
theorem open_opts20 {H : Type} {enc : TypeId × Value → H} {W : World} {r : Reach} {b0 : Nat} {v : Value} {d : DataW H} {pl : List MemPlace}
    (hv : Value.okWide Tryz.prog W r b0 31 v) (h : DataW.Trod enc Tryz.prog W 0 (fun _ => true) true 31 v d pl) :
    ∃ (a k c : Int) (z : Bool) (B : Int), v = .agg #[.int .i64 a, .int .i64 k, .int .i64 c, .bool z, .int .i64 B] := by
  obtain ⟨cs, rfl, hsz⟩ := okWide_struct Tryz.underlying31 hv
  rw [cells_ot20] at hsz
  obtain ⟨l⟩ := cs
  match l, hsz with
  | [u0, u1, u2, u3, u4], _ =>
    obtain ⟨fuel, hf⟩ := h
    obtain ⟨xs, kk, _, hd, _, hxl, hfl⟩ := DataW.trod_struct Tryz.underlying31 hf
    match xs, hxl with
    | [y0, y1], _ =>
      have g0 := hfl 0 _ rfl
      have g1 := hfl 1 _ rfl
      simp [cells_int20, cells_pr20, Value.cells] at g0 g1
      obtain ⟨V0, e0, _, w0⟩ := DataW.trod_int Tryz.underlying3 g0
      obtain ⟨xs2, kk2, _, hd2, _, hxl2, hfl2⟩ := DataW.trod_struct Tryz.underlying29 g1
      match xs2, hxl2 with
      | [y2, y3], _ =>
        have g2 := hfl2 0 _ rfl
        have g3 := hfl2 1 _ rfl
        simp [cells_int20, cells_lk20] at g2 g3
        obtain ⟨V4, e4, _, w4⟩ := DataW.trod_int Tryz.underlying3 g3
        obtain ⟨xs3, kk3, _, hd3, _, hxl3, hfl3⟩ := DataW.trod_struct Tryz.underlying27 g2
        match xs3, hxl3 with
        | [y4, y5, y6], _ =>
          have g4 := hfl3 0 _ rfl
          have g5 := hfl3 1 _ rfl
          have g6 := hfl3 2 _ rfl
          simp [cells_int20, cells_bool20] at g4 g5 g6
          obtain ⟨V1, e1, _, w1⟩ := DataW.trod_int Tryz.underlying3 g4
          obtain ⟨V2, e2, _, w2⟩ := DataW.trod_int Tryz.underlying3 g5
          obtain ⟨V3, e3, _⟩ := DataW.trod_bool Tryz.underlying4 g6
          simp at e0 e1 e2 e3 e4
          subst e0 e1 e2 e3 e4
          exact ⟨V0, V1, V2, V3, V4, rfl⟩
end Go.Proofs.YtmfpdchfofffeaaGreatDoor

namespace Go.Proofs.YtmfpdchfofffeaaGreatDoor
set_option linter.unusedVariables false
structure Rn8 where
  sy : Int
  ct : Int
def lst8 (s : Int) : Int := if s = 16 ∨ s = 17 then 3 else if s = 18 then 11 else 1
def grt8 (s : Int) : Int := if s = 16 then 6 else if s = 17 then 10 else if s = 18 then 138 else 1
def bad8 (r : Rn8) (n : Nat) : Prop := r.sy < 0 ∨ 18 < r.sy ∨ r.ct < lst8 r.sy ∨ grt8 r.sy < r.ct ∨ (r.sy = 16 ∧ n = 0)
instance (r : Rn8) (n : Nat) : Decidable (bad8 r n) := by unfold bad8; infer_instance
end Go.Proofs.YtmfpdchfofffeaaGreatDoor

namespace Go.Proofs.YtmfpdchfofffeaaGreatDoor
open Go.RowKit
set_option linter.unusedVariables false
def snsL : List Int := [0, 1, 0, 1, 1, 0, 2, 1, 0, 3, 1, 0, 4, 1, 0, 5, 1, 0, 6, 1, 0, 7, 1, 0, 8, 1, 0, 9, 1, 0, 10, 1, 0, 11, 1, 0, 12, 1, 0, 13, 1, 0, 14, 1, 0, 15, 1, 0, -1, 3, 2, 0, 3, 3, 0, 11, 7]
def ordL : List Int := [16, 17, 18, 0, 8, 7, 9, 6, 10, 5, 11, 4, 12, 3, 13, 2, 14, 1, 15]
end Go.Proofs.YtmfpdchfofffeaaGreatDoor

namespace Go.Proofs.YtmfpdchfofffeaaGreatDoor
open Go.ChangeShapes Go.WideShapes Go.ChangeAt Go.RowKit
theorem gTab : Tryz.prog.globalNamed "sapper/crc.halves" = some 0 := by kernel_rfl
theorem gTabType : (Tryz.prog.globals[0]?).map (·.type) = some 185 := by kernel_rfl
theorem cellsTab : Tryz.prog.cellsOf 185 = 16 := by kernel_rfl
theorem cellsWord : Tryz.prog.cellsOf 49 = 1 := by kernel_rfl
theorem halfL_bd : ∀ z ∈ halfL, 0 ≤ z ∧ z ≤ 4294967295 := by decide

/-- What the row's list gives: the table's cells. -/
theorem tab_of18 {W : World} (h : laidMetH Tryz.prog [("sapper/crc.halves", Rows.laid_sapper_crc_halves), ("sapper/head.senses", Rows.laid_sapper_head_senses), ("sapper/head.order", Rows.laid_sapper_head_order)] W) : Tab W := by
  have ht : Lib.TabIs Tryz.prog W "sapper/crc.halves" .u32 halfL :=
    Lib.tabIs_of_head (rest := [("sapper/head.senses", Rows.laid_sapper_head_senses), ("sapper/head.order", Rows.laid_sapper_head_order)]) gTab gTabType Tryz.underlying185 Tryz.underlying49 cellsWord cellsTab h
  refine ⟨fun i hi => ⟨0, 0, rfl, ?_⟩, by decide, fun i => ?_⟩
  · rw [Nat.zero_add]
    exact ht.cell gTab i hi
  · by_cases hi : i < halfL.length
    · have := halfL_bd halfL[i] (List.getElem_mem hi)
      simpa [List.getD, hi] using this
    · have : halfL[i]? = none := List.getElem?_eq_none (by omega)
      simp [List.getD, this]

end Go.Proofs.YtmfpdchfofffeaaGreatDoor
