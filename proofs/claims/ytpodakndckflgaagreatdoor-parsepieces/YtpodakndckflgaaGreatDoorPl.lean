import Derived.Test.YtpodakndckflgaaGreatDoorPk
import Derived.Test.YtpodakndckflgaaGreatDoorPe
import Derived.Laws.StructEq
import Derived.ChangeKeysEq
import Derived.Test.YtpodakndckflgaaGreatDoorPj
import Derived.Test.YtpodakndckflgaaGreatDoorPa
import Derived.Laws.ResultCell
namespace Go.Proofs.YtpodakndckflgaaGreatDoor
open Go.RowKit Go.Shelf
set_option linter.unusedVariables false
set_option linter.unusedSimpArgs false
def en19 (s : R19) : Int := if s.wr ≠ 0 then s.wr else if s.nx = 8 then 0 else 192
set_option maxRecDepth 100000 in
theorem pend19 (b : Nat) (t : TypeId) (s : R19) (w : World) (h : St19 w b t s) (hn : s.nx ≠ 0) : Calls Tryz.prog 8 #[.pointer (some ⟨b, 0, none⟩)] w fun e w' => e = .returned (.int .i64 (en19 s)) ∧ w' = w := by
  have RF := pref19 b t s w h hn
  have DN := pdone19 b t s w h hn
  by_cases hw : s.wr = 0
  · by_cases h8 : s.nx = 8
    · have HE : Hid (en19 s = 0) := by show _ = _; unfold en19; rw [if_neg (by simp [hw]), if_pos h8]
      rw [hw] at RF
      rw [show (s.nx == 8) = true by simp [h8]] at DN
      clear h hn hw h8
      go_enter Tryz.func8, Tryz.ntmps8
      go_wp2_with fail
      refine RF.mono ?_
      rintro e w' ⟨rfl, hw'⟩
      subst w'
      clear RF
      go_wp2_with fail
      refine DN.mono ?_
      rintro e w' ⟨rfl, hw'⟩
      subst w'
      clear DN
      go_wp2
      go_ret
      rw [HE.out]
      exact ⟨rfl, rfl⟩
    · have HE : Hid (en19 s = 192) := by show _ = _; unfold en19; rw [if_neg (by simp [hw]), if_neg h8]
      rw [hw] at RF
      rw [show (s.nx == 8) = false by simp [h8]] at DN
      clear h hn hw h8
      go_enter Tryz.func8, Tryz.ntmps8
      go_wp2_with fail
      refine RF.mono ?_
      rintro e w' ⟨rfl, hw'⟩
      subst w'
      clear RF
      go_wp2_with fail
      refine DN.mono ?_
      rintro e w' ⟨rfl, hw'⟩
      subst w'
      clear DN
      go_wp2
      go_ret
      rw [HE.out]
      exact ⟨rfl, rfl⟩
  · have HE : Hid (en19 s = s.wr) := by show _ = _; unfold en19; rw [if_pos hw]
    have hwb : (s.wr != 0) = true := by simp [hw]
    clear h hn hw DN
    generalize s.wr = x at *
    go_enter Tryz.func8, Tryz.ntmps8
    go_wp2_with fail
    refine RF.mono ?_
    rintro e w' ⟨rfl, hw'⟩
    subst w'
    clear RF
    go_wp2
    go_ret
    rw [HE.out]
    exact ⟨rfl, rfl⟩
end Go.Proofs.YtpodakndckflgaaGreatDoor

namespace Go.Proofs.YtpodakndckflgaaGreatDoor
open Go.RowKit Go.Shelf
set_option linter.unusedVariables false
set_option linter.unusedSimpArgs false
theorem hidm19 {p : Prop} (h : p) : Hid p := h
set_option maxRecDepth 100000 in
set_option maxHeartbeats 4000000 in
theorem pphd19 (h : Hd18) (w : World) : Calls Tryz.prog 16 #[.agg #[.int .i64 h.o, .int .i64 h.n, .int .u32 h.so, .int .u32 h.sn, .int .i64 h.wi, .int .i64 h.lo]] w fun e w' => e = .returned (.agg #[.int .i64 h.o, .int .i64 h.n, .int .u32 h.so, .int .u32 h.sn, .int .i64 h.wi, .int .i64 h.lo]) ∧ Below w.heap.size w w' := by
  obtain ⟨w1, b1, X⟩ := bx18 w h
  obtain ⟨w2, hw2⟩ : ∃ w2, w2 = w1.alloc (.cells #[.int .i64 0, .int .i64 0, .int .u32 0, .int .u32 0, .int .i64 0, .int .i64 0] 44) := ⟨_, rfl⟩
  have k2 := cb16 w1 #[.int .i64 0, .int .i64 0, .int .u32 0, .int .u32 0, .int .i64 0, .int .i64 0] 44
  rw [← hw2] at k2
  obtain ⟨b2, hb2⟩ : ∃ b2, b2 = w1.heap.size := ⟨_, rfl⟩
  have q2 := k2.cl
  rw [← hb2] at q2
  have hne : b1 < b2 := by have := X.sz; have := X.b; omega
  obtain ⟨a0, a1, a2, a3, a4, a5⟩ := X.cl (V := w2) k2.bl
  have HW : Hid (w.alloc (.cells #[.int .i64 h.o, .int .i64 h.n, .int .u32 h.so, .int .u32 h.sn, .int .i64 h.wi, .int .i64 h.lo] 34) = w1 ∧ w.heap.size = b1 ∧ w1.alloc (.cells #[.int .i64 0, .int .i64 0, .int .u32 0, .int .u32 0, .int .i64 0, .int .i64 0] 44) = w2 ∧ b1 + 1 = b2) := ⟨X.wa, X.b, hw2.symm, by have := X.sz; have := X.b; omega⟩
  have HQ := hidm19 q2
  have HF : Hid ((w2.setRow b2 #[.int .i64 h.o, .int .i64 h.n, .int .u32 h.so, .int .u32 h.sn, .int .i64 h.wi, .int .i64 h.lo]).heap[b2]? = some (.cells #[.int .i64 h.o, .int .i64 h.n, .int .u32 h.so, .int .u32 h.sn, .int .i64 h.wi, .int .i64 h.lo] 44 (0, 0)) ∧ Below w.heap.size w (w2.setRow b2 #[.int .i64 h.o, .int .i64 h.n, .int .u32 h.so, .int .u32 h.sn, .int .i64 h.wi, .int .i64 h.lo])) := by
    refine ⟨setRow_heap _ _ _ _ _ _ q2, ?_⟩
    have B2 : Below w.heap.size w w2 := X.bl.trans (k2.bl.mono X.bl.size)
    have := X.b
    have kk : Kp (fun q => w.heap.size ≤ q) w (w2.setRow b2 #[.int .i64 h.o, .int .i64 h.n, .int .u32 h.so, .int .u32 h.sn, .int .i64 h.wi, .int .i64 h.lo]) := (Kp.of_below (S := fun q => w.heap.size ≤ q) B2).trans (grow19 _ _ _) (fun q _ y => by have y : q = b2 := y; show w.heap.size ≤ q; omega)
    exact kk.below (fun _ y => y) (Nat.le_refl _)
  rw [← HW.out.2.2.1, ← HW.out.1, ← HW.out.2.1] at a0 a1 a2 a3 a4 a5
  clear X hw2 k2 hb2 q2 hne
  go_enter Tryz.func16, Tryz.ntmps16
  go_wp2_with (first
    | (rw [HW.out.1, HW.out.2.1, HW.out.2.2.2, HW.out.2.2.1]; refine wpList_store_row rfl 44 (.tmp 2) (.tmp 15) rfl b2 #[.int .i64 h.o, .int .i64 h.n, .int .u32 h.so, .int .u32 h.sn, .int .i64 h.wi, .int .i64 h.lo] rfl rfl _ _ HQ.out (by kernel_rfl) rfl (by kernel_rfl) ?_))
  refine bodyPost_ret (v := .agg #[.int .i64 h.o, .int .i64 h.n, .int .u32 h.so, .int .u32 h.sn, .int .i64 h.wi, .int .i64 h.lo]) (results_cell_row (fn := Tryz.f16) (p := 2) (ty := 44) rfl _ _ b2 _ _ _ _ rfl HF.out.1 Tryz.underlying44 rfl (by kernel_rfl)) rfl ?_
  exact ⟨rfl, HF.out.2⟩
set_option maxRecDepth 100000 in
set_option maxHeartbeats 8000000 in
theorem ppln19 (e : E19) (p : Option Addr) (c : Nat) (w : World) : Calls Tryz.prog 11 #[.agg (e.cs p c)] w fun en w' => en = .returned (.agg (e.cs p c)) ∧ Below w.heap.size w w' := by
  have HCS : Hid (e.cs p c = #[.int .i64 e.kd, .int .i64 e.hd.o, .int .i64 e.hd.n, .int .u32 e.hd.so, .int .u32 e.hd.sn, .int .i64 e.hd.wi, .int .i64 e.hd.lo, .int .i64 e.ps, .int .i64 e.r0, .int .i64 e.r1, .int .i64 e.r2, .int .i64 e.p0, .int .i64 e.p1, .int .i64 e.p2, .int .i64 e.st, .slice p e.bs.length c]) := rfl
  obtain ⟨w1, hw1⟩ : ∃ w1, w1 = w.alloc (.cells (e.cs p c) 39) := ⟨_, rfl⟩
  have k1 := cb16 w (e.cs p c) 39
  rw [← hw1] at k1
  obtain ⟨b1, hb1⟩ : ∃ b1, b1 = w.heap.size := ⟨_, rfl⟩
  obtain ⟨w2, hw2⟩ : ∃ w2, w2 = w1.alloc (.cells #[.int .i64 0, .int .i64 0, .int .i64 0, .int .u32 0, .int .u32 0, .int .i64 0, .int .i64 0, .int .i64 0, .int .i64 0, .int .i64 0, .int .i64 0, .int .i64 0, .int .i64 0, .int .i64 0, .int .i64 0, .slice none 0 0] 47) := ⟨_, rfl⟩
  have k2 := cb16 w1 #[.int .i64 0, .int .i64 0, .int .i64 0, .int .u32 0, .int .u32 0, .int .i64 0, .int .i64 0, .int .i64 0, .int .i64 0, .int .i64 0, .int .i64 0, .int .i64 0, .int .i64 0, .int .i64 0, .int .i64 0, .slice none 0 0] 47
  rw [← hw2] at k2
  obtain ⟨b2, hb2⟩ : ∃ b2, b2 = w1.heap.size := ⟨_, rfl⟩
  have q1 := k1.cl
  rw [← hb1] at q1
  have q2 := k2.cl
  rw [← hb2] at q2
  have s1 := k1.sz
  obtain ⟨u, hu⟩ : ∃ u, u = w2.drew := ⟨_, rfl⟩
  have HU : Hid (w2.drew = u) := hu.symm
  have B2 : Below w.heap.size w w2 := k1.bl.trans (k2.bl.mono k1.bl.size)
  have qu1 : u.heap[b1]? = some (.cells (e.cs p c) 39 (0, 0)) := by rw [hu]; exact (k2.bl.block _ (by omega)).trans q1
  have qu2 : u.heap[b2]? = some (.cells #[.int .i64 0, .int .i64 0, .int .i64 0, .int .u32 0, .int .u32 0, .int .i64 0, .int .i64 0, .int .i64 0, .int .i64 0, .int .i64 0, .int .i64 0, .int .i64 0, .int .i64 0, .int .i64 0, .int .i64 0, .slice none 0 0] 47 (0, 0)) := by rw [hu]; exact q2
  have HS : Hid (∀ V : World, V.heap[b1]? = some (.cells (e.cs p c) 39 (0, 0)) → V.cell? ⟨b1, 0, none⟩ = some (.int .i64 e.kd) ∧ V.cell? ⟨b1, 1, none⟩ = some (.int .i64 e.hd.o) ∧ V.cell? ⟨b1, 2, none⟩ = some (.int .i64 e.hd.n) ∧ V.cell? ⟨b1, 3, none⟩ = some (.int .u32 e.hd.so) ∧ V.cell? ⟨b1, 4, none⟩ = some (.int .u32 e.hd.sn) ∧ V.cell? ⟨b1, 5, none⟩ = some (.int .i64 e.hd.wi) ∧ V.cell? ⟨b1, 6, none⟩ = some (.int .i64 e.hd.lo) ∧ V.cell? ⟨b1, 7, none⟩ = some (.int .i64 e.ps) ∧ V.cell? ⟨b1, 8, none⟩ = some (.int .i64 e.r0) ∧ V.cell? ⟨b1, 9, none⟩ = some (.int .i64 e.r1) ∧ V.cell? ⟨b1, 10, none⟩ = some (.int .i64 e.r2) ∧ V.cell? ⟨b1, 11, none⟩ = some (.int .i64 e.p0) ∧ V.cell? ⟨b1, 12, none⟩ = some (.int .i64 e.p1) ∧ V.cell? ⟨b1, 13, none⟩ = some (.int .i64 e.p2) ∧ V.cell? ⟨b1, 14, none⟩ = some (.int .i64 e.st) ∧ V.cell? ⟨b1, 15, none⟩ = some (.slice p e.bs.length c)) := fun V q => ⟨cell18 q rfl, cell18 q rfl, cell18 q rfl, cell18 q rfl, cell18 q rfl, cell18 q rfl, cell18 q rfl, cell18 q rfl, cell18 q rfl, cell18 q rfl, cell18 q rfl, cell18 q rfl, cell18 q rfl, cell18 q rfl, cell18 q rfl, cell18 q rfl⟩
  have PH : Hid (Calls Tryz.prog 16 #[.agg #[.int .i64 e.hd.o, .int .i64 e.hd.n, .int .u32 e.hd.so, .int .u32 e.hd.sn, .int .i64 e.hd.wi, .int .i64 e.hd.lo]] u fun en w' => en = .returned (.agg #[.int .i64 e.hd.o, .int .i64 e.hd.n, .int .u32 e.hd.so, .int .u32 e.hd.sn, .int .i64 e.hd.wi, .int .i64 e.hd.lo]) ∧ Below u.heap.size u w') := pphd19 e.hd u
  have HW : Hid (w.alloc (.cells #[.int .i64 e.kd, .int .i64 e.hd.o, .int .i64 e.hd.n, .int .u32 e.hd.so, .int .u32 e.hd.sn, .int .i64 e.hd.wi, .int .i64 e.hd.lo, .int .i64 e.ps, .int .i64 e.r0, .int .i64 e.r1, .int .i64 e.r2, .int .i64 e.p0, .int .i64 e.p1, .int .i64 e.p2, .int .i64 e.st, .slice p e.bs.length c] 39) = w1 ∧ w.heap.size = b1 ∧ w1.alloc (.cells #[.int .i64 0, .int .i64 0, .int .i64 0, .int .u32 0, .int .u32 0, .int .i64 0, .int .i64 0, .int .i64 0, .int .i64 0, .int .i64 0, .int .i64 0, .int .i64 0, .int .i64 0, .int .i64 0, .int .i64 0, .slice none 0 0] 47) = w2 ∧ b1 + 1 = b2) := ⟨hw1.symm, hb1.symm, hw2.symm, by omega⟩
  have H1 : Hid (u.heap[b1]? = some (.cells (e.cs p c) 39 (0, 0)) ∧ u.heap[b2]? = some (.cells #[.int .i64 0, .int .i64 0, .int .i64 0, .int .u32 0, .int .u32 0, .int .i64 0, .int .i64 0, .int .i64 0, .int .i64 0, .int .i64 0, .int .i64 0, .int .i64 0, .int .i64 0, .int .i64 0, .int .i64 0, .slice none 0 0] 47 (0, 0)) ∧ Below w.heap.size w u ∧ w.heap.size ≤ b2 ∧ b1 ≠ b2) := ⟨qu1, qu2, by rw [hu]; exact B2.drew, by have := k1.bl.size; omega, by omega⟩
  clear hw1 k1 hb1 hw2 k2 hb2 q1 q2 s1 hu B2 qu1 qu2
  rw [HCS.out]
  go_enter Tryz.func11, Tryz.ntmps11
  go_wp2_with fail
  rw [HW.out.1, HW.out.2.1, HW.out.2.2.2, HW.out.2.2.1]
  refine plain_region16 (fun (V : World) => V.cell? ⟨b1, 0, none⟩ = some (.int .i64 e.kd) ∧ V.cell? ⟨b1, 1, none⟩ = some (.int .i64 e.hd.o) ∧ V.cell? ⟨b1, 2, none⟩ = some (.int .i64 e.hd.n) ∧ V.cell? ⟨b1, 3, none⟩ = some (.int .u32 e.hd.so) ∧ V.cell? ⟨b1, 4, none⟩ = some (.int .u32 e.hd.sn) ∧ V.cell? ⟨b1, 5, none⟩ = some (.int .i64 e.hd.wi) ∧ V.cell? ⟨b1, 6, none⟩ = some (.int .i64 e.hd.lo) ∧ V.cell? ⟨b1, 7, none⟩ = some (.int .i64 e.ps) ∧ V.cell? ⟨b1, 8, none⟩ = some (.int .i64 e.r0) ∧ V.cell? ⟨b1, 9, none⟩ = some (.int .i64 e.r1) ∧ V.cell? ⟨b1, 10, none⟩ = some (.int .i64 e.r2) ∧ V.cell? ⟨b1, 11, none⟩ = some (.int .i64 e.p0) ∧ V.cell? ⟨b1, 12, none⟩ = some (.int .i64 e.p1) ∧ V.cell? ⟨b1, 13, none⟩ = some (.int .i64 e.p2) ∧ V.cell? ⟨b1, 14, none⟩ = some (.int .i64 e.st) ∧ V.cell? ⟨b1, 15, none⟩ = some (.slice p e.bs.length c)) 20 (by kernel_rfl) (by rw [HU.out]; exact HS.out _ H1.out.1) (fun hHeld => ?_)
  rw [HU.out] at hHeld ⊢
  refine wpAnyK_take (i := 0) (v := .pointer (some ⟨b1, 0, none⟩)) rfl (by kernel_rfl) (by kernel_rfl) (by kernel_rfl) (by kernel_rfl) (fun _ _ _ h => h) (Or.inl ⟨by rfl, fun w hSw => by go_simp⟩) hHeld ?_
  simp only [List.getElem_toArray, List.getElem_cons_zero, Act.put, List.setIfInBounds_toArray, List.set_cons_zero, List.set_cons_succ]
  refine wpAnyK_take (i := 1) (v := .int .i64 e.kd) rfl (by kernel_rfl) (by kernel_rfl) (by kernel_rfl) (by kernel_rfl) (fun _ _ _ h => h) (Or.inl ⟨by rfl, fun w hSw => by go_simp⟩) hHeld ?_
  simp only [List.getElem_toArray, List.getElem_cons_zero, List.getElem_cons_succ, Act.put, List.setIfInBounds_toArray, List.set_cons_zero, List.set_cons_succ]
  refine wpAnyK_take (i := 2) (v := .pointer (some ⟨b1, 1, none⟩)) rfl (by kernel_rfl) (by kernel_rfl) (by kernel_rfl) (by kernel_rfl) (fun _ _ _ h => h) (Or.inl ⟨by rfl, fun w hSw => by go_simp⟩) hHeld ?_
  simp only [List.getElem_toArray, List.getElem_cons_zero, List.getElem_cons_succ, Act.put, List.setIfInBounds_toArray, List.set_cons_zero, List.set_cons_succ]
  refine wpAnyK_take (i := 3) (v := .agg #[.int .i64 e.hd.o, .int .i64 e.hd.n, .int .u32 e.hd.so, .int .u32 e.hd.sn, .int .i64 e.hd.wi, .int .i64 e.hd.lo]) rfl (by kernel_rfl) (by kernel_rfl) (by kernel_rfl) (by kernel_rfl) (fun _ _ _ h => h) (Or.inl ⟨by rfl, fun w hSw => by go_simp⟩) hHeld ?_
  simp only [List.getElem_toArray, List.getElem_cons_zero, List.getElem_cons_succ, Act.put, List.setIfInBounds_toArray, List.set_cons_zero, List.set_cons_succ]
  refine wpAnyK_take (i := 5) (v := .pointer (some ⟨b1, 7, none⟩)) rfl (by kernel_rfl) (by kernel_rfl) (by kernel_rfl) (by kernel_rfl) (fun _ _ _ h => h) (Or.inl ⟨by rfl, fun w hSw => by go_simp⟩) hHeld ?_
  simp only [List.getElem_toArray, List.getElem_cons_zero, List.getElem_cons_succ, Act.put, List.setIfInBounds_toArray, List.set_cons_zero, List.set_cons_succ]
  refine wpAnyK_take (i := 6) (v := .pointer (some ⟨b1, 7, none⟩)) rfl (by kernel_rfl) (by kernel_rfl) (by kernel_rfl) (by kernel_rfl) (fun _ _ _ h => h) (Or.inl ⟨by rfl, fun w hSw => by go_simp⟩) hHeld ?_
  simp only [List.getElem_toArray, List.getElem_cons_zero, List.getElem_cons_succ, Act.put, List.setIfInBounds_toArray, List.set_cons_zero, List.set_cons_succ]
  refine wpAnyK_take (i := 7) (v := .int .i64 e.ps) rfl (by kernel_rfl) (by kernel_rfl) (by kernel_rfl) (by kernel_rfl) (fun _ _ _ h => h) (Or.inl ⟨by rfl, fun w hSw => by go_simp⟩) hHeld ?_
  simp only [List.getElem_toArray, List.getElem_cons_zero, List.getElem_cons_succ, Act.put, List.setIfInBounds_toArray, List.set_cons_zero, List.set_cons_succ]
  refine wpAnyK_take (i := 8) (v := .pointer (some ⟨b1, 7, none⟩)) rfl (by kernel_rfl) (by kernel_rfl) (by kernel_rfl) (by kernel_rfl) (fun _ _ _ h => h) (Or.inl ⟨by rfl, fun w hSw => by go_simp⟩) hHeld ?_
  simp only [List.getElem_toArray, List.getElem_cons_zero, List.getElem_cons_succ, Act.put, List.setIfInBounds_toArray, List.set_cons_zero, List.set_cons_succ]
  refine wpAnyK_take (i := 9) (v := .pointer (some ⟨b1, 8, none⟩)) rfl (by kernel_rfl) (by kernel_rfl) (by kernel_rfl) (by kernel_rfl) (fun _ _ _ h => h) (Or.inl ⟨by rfl, fun w hSw => by go_simp⟩) hHeld ?_
  simp only [List.getElem_toArray, List.getElem_cons_zero, List.getElem_cons_succ, Act.put, List.setIfInBounds_toArray, List.set_cons_zero, List.set_cons_succ]
  refine wpAnyK_take (i := 10) (v := .agg #[.int .i64 e.r0, .int .i64 e.r1, .int .i64 e.r2]) rfl (by kernel_rfl) (by kernel_rfl) (by kernel_rfl) (by kernel_rfl) (fun _ _ _ h => h) (Or.inl ⟨by rfl, fun w hSw => by go_simp⟩) hHeld ?_
  simp only [List.getElem_toArray, List.getElem_cons_zero, List.getElem_cons_succ, Act.put, List.setIfInBounds_toArray, List.set_cons_zero, List.set_cons_succ]
  refine wpAnyK_take (i := 11) (v := .pointer (some ⟨b1, 7, none⟩)) rfl (by kernel_rfl) (by kernel_rfl) (by kernel_rfl) (by kernel_rfl) (fun _ _ _ h => h) (Or.inl ⟨by rfl, fun w hSw => by go_simp⟩) hHeld ?_
  simp only [List.getElem_toArray, List.getElem_cons_zero, List.getElem_cons_succ, Act.put, List.setIfInBounds_toArray, List.set_cons_zero, List.set_cons_succ]
  refine wpAnyK_take (i := 12) (v := .pointer (some ⟨b1, 11, none⟩)) rfl (by kernel_rfl) (by kernel_rfl) (by kernel_rfl) (by kernel_rfl) (fun _ _ _ h => h) (Or.inl ⟨by rfl, fun w hSw => by go_simp⟩) hHeld ?_
  simp only [List.getElem_toArray, List.getElem_cons_zero, List.getElem_cons_succ, Act.put, List.setIfInBounds_toArray, List.set_cons_zero, List.set_cons_succ]
  refine wpAnyK_take (i := 13) (v := .agg #[.int .i64 e.p0, .int .i64 e.p1, .int .i64 e.p2]) rfl (by kernel_rfl) (by kernel_rfl) (by kernel_rfl) (by kernel_rfl) (fun _ _ _ h => h) (Or.inl ⟨by rfl, fun w hSw => by go_simp⟩) hHeld ?_
  simp only [List.getElem_toArray, List.getElem_cons_zero, List.getElem_cons_succ, Act.put, List.setIfInBounds_toArray, List.set_cons_zero, List.set_cons_succ]
  refine wpAnyK_take (i := 14) (v := .agg #[.int .i64 e.ps, .int .i64 e.r0, .int .i64 e.r1, .int .i64 e.r2, .int .i64 e.p0, .int .i64 e.p1, .int .i64 e.p2]) rfl (by kernel_rfl) (by kernel_rfl) (by kernel_rfl) (by kernel_rfl) (fun _ _ _ h => h) (Or.inl ⟨by rfl, fun w hSw => by go_simp⟩) hHeld ?_
  simp only [List.getElem_toArray, List.getElem_cons_zero, List.getElem_cons_succ, Act.put, List.setIfInBounds_toArray, List.set_cons_zero, List.set_cons_succ]
  refine wpAnyK_take (i := 15) (v := .pointer (some ⟨b1, 14, none⟩)) rfl (by kernel_rfl) (by kernel_rfl) (by kernel_rfl) (by kernel_rfl) (fun _ _ _ h => h) (Or.inl ⟨by rfl, fun w hSw => by go_simp⟩) hHeld ?_
  simp only [List.getElem_toArray, List.getElem_cons_zero, List.getElem_cons_succ, Act.put, List.setIfInBounds_toArray, List.set_cons_zero, List.set_cons_succ]
  refine wpAnyK_take (i := 16) (v := .int .i64 e.st) rfl (by kernel_rfl) (by kernel_rfl) (by kernel_rfl) (by kernel_rfl) (fun _ _ _ h => h) (Or.inl ⟨by rfl, fun w hSw => by go_simp⟩) hHeld ?_
  simp only [List.getElem_toArray, List.getElem_cons_zero, List.getElem_cons_succ, Act.put, List.setIfInBounds_toArray, List.set_cons_zero, List.set_cons_succ]
  refine wpAnyK_take (i := 17) (v := .pointer (some ⟨b1, 15, none⟩)) rfl (by kernel_rfl) (by kernel_rfl) (by kernel_rfl) (by kernel_rfl) (fun _ _ _ h => h) (Or.inl ⟨by rfl, fun w hSw => by go_simp⟩) hHeld ?_
  simp only [List.getElem_toArray, List.getElem_cons_zero, List.getElem_cons_succ, Act.put, List.setIfInBounds_toArray, List.set_cons_zero, List.set_cons_succ]
  refine wpAnyK_take (i := 18) (v := .slice p e.bs.length c) rfl (by kernel_rfl) (by kernel_rfl) (by kernel_rfl) (by kernel_rfl) (fun _ _ _ h => h) (Or.inl ⟨by rfl, fun w hSw => by go_simp⟩) hHeld ?_
  simp only [List.getElem_toArray, List.getElem_cons_zero, List.getElem_cons_succ, Act.put, List.setIfInBounds_toArray, List.set_cons_zero, List.set_cons_succ]
  refine wpAnyK_one (i := 4) (by kernel_rfl) rfl (fun K hK => ?_)
  (try simp only [List.getElem_toArray, List.getElem_cons_zero, List.getElem_cons_succ, Act.put, List.setIfInBounds_toArray, List.set_cons_zero, List.set_cons_succ])
  go_simp
  refine PH.out.mono ?_
  rintro e4 w4 ⟨rfl, b4⟩
  have H4 : Hid (w4.heap[b1]? = some (.cells (e.cs p c) 39 (0, 0)) ∧ w4.heap[b2]? = some (.cells #[.int .i64 0, .int .i64 0, .int .i64 0, .int .u32 0, .int .u32 0, .int .i64 0, .int .i64 0, .int .i64 0, .int .i64 0, .int .i64 0, .int .i64 0, .int .i64 0, .int .i64 0, .int .i64 0, .int .i64 0, .slice none 0 0] 47 (0, 0)) ∧ Below w.heap.size w w4) := ⟨(b4.block _ (Array.getElem?_eq_some_iff.1 H1.out.1).1).trans H1.out.1, (b4.block _ (Array.getElem?_eq_some_iff.1 H1.out.2.1).1).trans H1.out.2.1, H1.out.2.2.1.trans (b4.mono H1.out.2.2.1.size)⟩
  clear b4
  refine hK.out _ _ (fun _ => HS.out _ H4.out.1) (fun hHeld0 => ?_)
  have hHeld := hHeld0 (by decide)
  clear hHeld0 hK K
  (try simp only [List.getElem_toArray, List.getElem_cons_zero, List.getElem_cons_succ, Act.put, List.setIfInBounds_toArray, List.set_cons_zero, List.set_cons_succ])
  refine wpAnyK_take (i := 19) (v := .agg #[.int .i64 e.kd, .int .i64 e.hd.o, .int .i64 e.hd.n, .int .u32 e.hd.so, .int .u32 e.hd.sn, .int .i64 e.hd.wi, .int .i64 e.hd.lo, .int .i64 e.ps, .int .i64 e.r0, .int .i64 e.r1, .int .i64 e.r2, .int .i64 e.p0, .int .i64 e.p1, .int .i64 e.p2, .int .i64 e.st, .slice p e.bs.length c]) rfl (by kernel_rfl) (by kernel_rfl) (by kernel_rfl) (by kernel_rfl) (fun _ _ _ h => h) (Or.inl ⟨by rfl, fun w hSw => by go_simp⟩) hHeld ?_
  simp only [List.getElem_toArray, List.getElem_cons_zero, List.getElem_cons_succ, Act.put, List.setIfInBounds_toArray, List.set_cons_zero, List.set_cons_succ]
  refine wpAnyK_one (i := 20) (by kernel_rfl) rfl (fun K hK => ?_)
  rw [if_pos (show Region.wanted _ _ = true from rfl)]
  refine wp_store_row 47 (.tmp 2) (.tmp 22) rfl b2 #[.int .i64 e.kd, .int .i64 e.hd.o, .int .i64 e.hd.n, .int .u32 e.hd.so, .int .u32 e.hd.sn, .int .i64 e.hd.wi, .int .i64 e.hd.lo, .int .i64 e.ps, .int .i64 e.r0, .int .i64 e.r1, .int .i64 e.r2, .int .i64 e.p0, .int .i64 e.p1, .int .i64 e.p2, .int .i64 e.st, .slice p e.bs.length c] rfl rfl _ _ H4.out.2.1 (by kernel_rfl) rfl (by first | kernel_rfl | simp [Value.oneCell']) ?_
  have kr : Kp (fun k => k = b2) w4 (w4.setRow b2 #[.int .i64 e.kd, .int .i64 e.hd.o, .int .i64 e.hd.n, .int .u32 e.hd.so, .int .u32 e.hd.sn, .int .i64 e.hd.wi, .int .i64 e.hd.lo, .int .i64 e.ps, .int .i64 e.r0, .int .i64 e.r1, .int .i64 e.r2, .int .i64 e.p0, .int .i64 e.p1, .int .i64 e.p2, .int .i64 e.st, .slice p e.bs.length c]) := grow19 _ _ _
  refine hK.out _ _ (fun _ => HS.out _ (kr.heap H4.out.1 (fun x => H1.out.2.2.2.2 x))) (fun _ => ?_)
  clear hK K
  refine wpAnyK_done (by kernel_rfl) ?_ _
  have qf : (w4.setRow b2 #[.int .i64 e.kd, .int .i64 e.hd.o, .int .i64 e.hd.n, .int .u32 e.hd.so, .int .u32 e.hd.sn, .int .i64 e.hd.wi, .int .i64 e.hd.lo, .int .i64 e.ps, .int .i64 e.r0, .int .i64 e.r1, .int .i64 e.r2, .int .i64 e.p0, .int .i64 e.p1, .int .i64 e.p2, .int .i64 e.st, .slice p e.bs.length c]).heap[b2]? = some (.cells #[.int .i64 e.kd, .int .i64 e.hd.o, .int .i64 e.hd.n, .int .u32 e.hd.so, .int .u32 e.hd.sn, .int .i64 e.hd.wi, .int .i64 e.hd.lo, .int .i64 e.ps, .int .i64 e.r0, .int .i64 e.r1, .int .i64 e.r2, .int .i64 e.p0, .int .i64 e.p1, .int .i64 e.p2, .int .i64 e.st, .slice p e.bs.length c] 47 (0, 0)) := setRow_heap _ _ _ _ _ _ H4.out.2.1
  have bf : Below w.heap.size w (w4.setRow b2 #[.int .i64 e.kd, .int .i64 e.hd.o, .int .i64 e.hd.n, .int .u32 e.hd.so, .int .u32 e.hd.sn, .int .i64 e.hd.wi, .int .i64 e.hd.lo, .int .i64 e.ps, .int .i64 e.r0, .int .i64 e.r1, .int .i64 e.r2, .int .i64 e.p0, .int .i64 e.p1, .int .i64 e.p2, .int .i64 e.st, .slice p e.bs.length c]) := by
    have kk : Kp (fun q => w.heap.size ≤ q) w (w4.setRow b2 #[.int .i64 e.kd, .int .i64 e.hd.o, .int .i64 e.hd.n, .int .u32 e.hd.so, .int .u32 e.hd.sn, .int .i64 e.hd.wi, .int .i64 e.hd.lo, .int .i64 e.ps, .int .i64 e.r0, .int .i64 e.r1, .int .i64 e.r2, .int .i64 e.p0, .int .i64 e.p1, .int .i64 e.p2, .int .i64 e.st, .slice p e.bs.length c]) := (Kp.of_below (S := fun q => w.heap.size ≤ q) H4.out.2.2).trans kr (fun q _ y => by have y : q = b2 := y; have := H1.out.2.2.2.1; show w.heap.size ≤ q; omega)
    exact kk.below (fun _ y => y) (Nat.le_refl _)
  have HQF := hidm19 qf
  have HBF := hidm19 bf
  clear qf bf kr H4 H1 HS
  generalize w4.setRow b2 #[.int .i64 e.kd, .int .i64 e.hd.o, .int .i64 e.hd.n, .int .u32 e.hd.so, .int .u32 e.hd.sn, .int .i64 e.hd.wi, .int .i64 e.hd.lo, .int .i64 e.ps, .int .i64 e.r0, .int .i64 e.r1, .int .i64 e.r2, .int .i64 e.p0, .int .i64 e.p1, .int .i64 e.p2, .int .i64 e.st, .slice p e.bs.length c] = wF at *
  go_wp2_with fail
  refine bodyPost_ret (v := .agg #[.int .i64 e.kd, .int .i64 e.hd.o, .int .i64 e.hd.n, .int .u32 e.hd.so, .int .u32 e.hd.sn, .int .i64 e.hd.wi, .int .i64 e.hd.lo, .int .i64 e.ps, .int .i64 e.r0, .int .i64 e.r1, .int .i64 e.r2, .int .i64 e.p0, .int .i64 e.p1, .int .i64 e.p2, .int .i64 e.st, .slice p e.bs.length c]) (results_cell_row (fn := Tryz.f11) (p := 2) (ty := 47) rfl _ _ b2 _ _ _ _ rfl HQF.out Tryz.underlying47 rfl (by kernel_rfl)) rfl ?_
  exact ⟨rfl, HBF.out⟩
end Go.Proofs.YtpodakndckflgaaGreatDoor

namespace Go.Proofs.YtpodakndckflgaaGreatDoor
open Go.RowKit Go.Shelf
set_option linter.unusedVariables false
set_option linter.unusedSimpArgs false
theorem eqarr19 (W : World) (a b c : Int) : (Op.equalIn 9999 35 (.agg #[.int .i64 a, .int .i64 b, .int .i64 c]) (.agg #[.int .i64 a, .int .i64 b, .int .i64 c])).run Tryz.prog W = .ok true W := by
  have hc : Tryz.prog.cellsOf 3 = 1 := by kernel_rfl
  have hi : Tryz.prog.info? 3 = some ((Tryz.prog.info? 3).getD default) := by kernel_rfl
  have p0 : (part 3 #[.int .i64 a, .int .i64 b, .int .i64 c] (0 * 1)).run Tryz.prog W = .ok (.int .i64 a) W := by kernel_rfl
  have p1 : (part 3 #[.int .i64 a, .int .i64 b, .int .i64 c] (1 * 1)).run Tryz.prog W = .ok (.int .i64 b) W := by kernel_rfl
  have p2 : (part 3 #[.int .i64 a, .int .i64 b, .int .i64 c] (2 * 1)).run Tryz.prog W = .ok (.int .i64 c) W := by kernel_rfl
  have e : ∀ v : Int, (Op.equalIn 9998 3 (.int .i64 v) (.int .i64 v)).run Tryz.prog W = .ok true W := fun v => by
    rw [run_equalIn_int W 9997 3 .i64 .i64 v v Tryz.underlying3, beq_self_eq_true]
  rw [run_equalIn_array W 9998 _ _ Tryz.underlying35 hi, hc]
  rw [show List.range 3 = [0, 1, 2] from rfl]
  simp only [Op.eqItems, Sem.run_bind, p0, p1, p2, e, Result.andThen_ok, Bool.not_true, Bool.false_eq_true, if_false, Sem.run_ite, Sem.run_pure]
set_option maxRecDepth 100000 in
set_option maxHeartbeats 8000000 in
theorem rsam19 (e : E19) (p1 : Option Addr) (c1 : Nat) (p2 : Option Addr) (c2 : Nat) (w : World) (h1 : Seg w p1 e.bs) (h2 : Seg w p2 e.bs) :
    Calls Tryz.prog 10 #[.agg (e.cs p1 c1), .agg (e.cs p2 c2)] w fun en w' => en = .returned (.bool true) ∧ Below w.heap.size w w' := by
  obtain ⟨w1, hw1⟩ : ∃ w1, w1 = w.alloc (.cells (e.cs p1 c1) 47) := ⟨_, rfl⟩
  have k1 := cb16 w (e.cs p1 c1) 47
  rw [← hw1] at k1
  obtain ⟨b1, hb1⟩ : ∃ b1, b1 = w.heap.size := ⟨_, rfl⟩
  obtain ⟨w2, hw2⟩ : ∃ w2, w2 = w1.alloc (.cells (e.cs p2 c2) 47) := ⟨_, rfl⟩
  have k2 := cb16 w1 (e.cs p2 c2) 47
  rw [← hw2] at k2
  have s1 := k1.sz
  obtain ⟨b2, hb2⟩ : ∃ b2, b2 = b1 + 1 := ⟨_, rfl⟩
  have qx0 := k1.cl
  rw [← hb1] at qx0
  have qx := (k2.bl.block _ (Array.getElem?_eq_some_iff.1 qx0).1).trans qx0
  have qy : w2.heap[b2]? = some (.cells (e.cs p2 c2) 47 (0, 0)) := by rw [show b2 = w1.heap.size by omega]; exact k2.cl
  have B2 : Below w.heap.size w w2 := k1.bl.trans (k2.bl.mono k1.bl.size)
  have x0 : w2.cell? ⟨b1, 0, none⟩ = some (.int .i64 e.kd) := cell18 qx rfl
  have x1 : w2.cell? ⟨b1, 1, none⟩ = some (.int .i64 e.hd.o) := cell18 qx rfl
  have x2 : w2.cell? ⟨b1, 2, none⟩ = some (.int .i64 e.hd.n) := cell18 qx rfl
  have x3 : w2.cell? ⟨b1, 3, none⟩ = some (.int .u32 e.hd.so) := cell18 qx rfl
  have x4 : w2.cell? ⟨b1, 4, none⟩ = some (.int .u32 e.hd.sn) := cell18 qx rfl
  have x5 : w2.cell? ⟨b1, 5, none⟩ = some (.int .i64 e.hd.wi) := cell18 qx rfl
  have x6 : w2.cell? ⟨b1, 6, none⟩ = some (.int .i64 e.hd.lo) := cell18 qx rfl
  have x7 : w2.cell? ⟨b1, 7, none⟩ = some (.int .i64 e.ps) := cell18 qx rfl
  have x8 : w2.cell? ⟨b1, 8, none⟩ = some (.int .i64 e.r0) := cell18 qx rfl
  have x9 : w2.cell? ⟨b1, 9, none⟩ = some (.int .i64 e.r1) := cell18 qx rfl
  have x10 : w2.cell? ⟨b1, 10, none⟩ = some (.int .i64 e.r2) := cell18 qx rfl
  have x11 : w2.cell? ⟨b1, 11, none⟩ = some (.int .i64 e.p0) := cell18 qx rfl
  have x12 : w2.cell? ⟨b1, 12, none⟩ = some (.int .i64 e.p1) := cell18 qx rfl
  have x13 : w2.cell? ⟨b1, 13, none⟩ = some (.int .i64 e.p2) := cell18 qx rfl
  have x14 : w2.cell? ⟨b1, 14, none⟩ = some (.int .i64 e.st) := cell18 qx rfl
  have x15 : w2.cell? ⟨b1, 15, none⟩ = some (.slice p1 e.bs.length c1) := cell18 qx rfl
  have y0 : w2.cell? ⟨b2, 0, none⟩ = some (.int .i64 e.kd) := cell18 qy rfl
  have y1 : w2.cell? ⟨b2, 1, none⟩ = some (.int .i64 e.hd.o) := cell18 qy rfl
  have y2 : w2.cell? ⟨b2, 2, none⟩ = some (.int .i64 e.hd.n) := cell18 qy rfl
  have y3 : w2.cell? ⟨b2, 3, none⟩ = some (.int .u32 e.hd.so) := cell18 qy rfl
  have y4 : w2.cell? ⟨b2, 4, none⟩ = some (.int .u32 e.hd.sn) := cell18 qy rfl
  have y5 : w2.cell? ⟨b2, 5, none⟩ = some (.int .i64 e.hd.wi) := cell18 qy rfl
  have y6 : w2.cell? ⟨b2, 6, none⟩ = some (.int .i64 e.hd.lo) := cell18 qy rfl
  have y7 : w2.cell? ⟨b2, 7, none⟩ = some (.int .i64 e.ps) := cell18 qy rfl
  have y8 : w2.cell? ⟨b2, 8, none⟩ = some (.int .i64 e.r0) := cell18 qy rfl
  have y9 : w2.cell? ⟨b2, 9, none⟩ = some (.int .i64 e.r1) := cell18 qy rfl
  have y10 : w2.cell? ⟨b2, 10, none⟩ = some (.int .i64 e.r2) := cell18 qy rfl
  have y11 : w2.cell? ⟨b2, 11, none⟩ = some (.int .i64 e.p0) := cell18 qy rfl
  have y12 : w2.cell? ⟨b2, 12, none⟩ = some (.int .i64 e.p1) := cell18 qy rfl
  have y13 : w2.cell? ⟨b2, 13, none⟩ = some (.int .i64 e.p2) := cell18 qy rfl
  have y14 : w2.cell? ⟨b2, 14, none⟩ = some (.int .i64 e.st) := cell18 qy rfl
  have y15 : w2.cell? ⟨b2, 15, none⟩ = some (.slice p2 e.bs.length c2) := cell18 qy rfl
  have v1 := run_conv_segS (P := Tryz.prog) c1 (h1.old B2) 22 5 9 Tryz.underlying22 Tryz.underlying5 Tryz.underlying9
  have v2 := run_conv_segS (P := Tryz.prog) c2 (h2.old B2) 22 5 9 Tryz.underlying22 Tryz.underlying5 Tryz.underlying9
  have HW : Hid (w.alloc (.cells #[.int .i64 e.kd, .int .i64 e.hd.o, .int .i64 e.hd.n, .int .u32 e.hd.so, .int .u32 e.hd.sn, .int .i64 e.hd.wi, .int .i64 e.hd.lo, .int .i64 e.ps, .int .i64 e.r0, .int .i64 e.r1, .int .i64 e.r2, .int .i64 e.p0, .int .i64 e.p1, .int .i64 e.p2, .int .i64 e.st, .slice p1 e.bs.length c1] 47) = w1 ∧ w1.alloc (.cells #[.int .i64 e.kd, .int .i64 e.hd.o, .int .i64 e.hd.n, .int .u32 e.hd.so, .int .u32 e.hd.sn, .int .i64 e.hd.wi, .int .i64 e.hd.lo, .int .i64 e.ps, .int .i64 e.r0, .int .i64 e.r1, .int .i64 e.r2, .int .i64 e.p0, .int .i64 e.p1, .int .i64 e.p2, .int .i64 e.st, .slice p2 e.bs.length c2] 47) = w2 ∧ w.heap.size = b1 ∧ b1 + 1 = b2) := ⟨hw1.symm, hw2.symm, hb1.symm, hb2.symm⟩
  have HB := hidm19 B2
  have hz := eqarr19 w2
  rw [← HW.out.2.1, ← HW.out.1] at hz v1 v2
  show Calls Tryz.prog 10 #[.agg #[.int .i64 e.kd, .int .i64 e.hd.o, .int .i64 e.hd.n, .int .u32 e.hd.so, .int .u32 e.hd.sn, .int .i64 e.hd.wi, .int .i64 e.hd.lo, .int .i64 e.ps, .int .i64 e.r0, .int .i64 e.r1, .int .i64 e.r2, .int .i64 e.p0, .int .i64 e.p1, .int .i64 e.p2, .int .i64 e.st, .slice p1 e.bs.length c1], .agg #[.int .i64 e.kd, .int .i64 e.hd.o, .int .i64 e.hd.n, .int .u32 e.hd.so, .int .u32 e.hd.sn, .int .i64 e.hd.wi, .int .i64 e.hd.lo, .int .i64 e.ps, .int .i64 e.r0, .int .i64 e.r1, .int .i64 e.r2, .int .i64 e.p0, .int .i64 e.p1, .int .i64 e.p2, .int .i64 e.st, .slice p2 e.bs.length c2]] w _
  clear hw1 hw2 k1 k2 s1 hb1 hb2 qx0 qx qy B2 h1 h2
  go_enter Tryz.func10, Tryz.ntmps10
  go_wp2_with (first | (rw [HW.out.1, HW.out.2.1, HW.out.2.2.1, HW.out.2.2.2]; fail))

  go_ret
  rw [HW.out.1, HW.out.2.1]
  exact ⟨by first | rfl | simp, HB.out⟩
end Go.Proofs.YtpodakndckflgaaGreatDoor

namespace Go.Proofs.YtpodakndckflgaaGreatDoor
open Go.RowKit Go.Shelf
set_option linter.unusedVariables false
set_option linter.unusedSimpArgs false
/-- The first stream that still has bytes. -/
def op19 (a b c : Int) : Int × Bool := if 0 < a then (0, true) else if 0 < b then (1, true) else if 0 < c then (2, true) else (0, false)
set_option maxRecDepth 100000 in
set_option maxHeartbeats 2000000 in
theorem popn19 (b : Nat) (t : TypeId) (s : R19) (w : World) (h : St19 w b t s) :
    Calls Tryz.prog 39 #[.pointer (some ⟨b, 0, none⟩)] w fun e w' => e = .returned (.tuple #[.int .i64 (op19 s.l0 s.l1 s.l2).1, .bool (op19 s.l0 s.l1 s.l2).2]) ∧ w' = w := by
  have c0 := h.c0
  have c19 := h.c19
  have c20 := h.c20
  have c21 := h.c21
  clear h
  generalize s.l0 = x0 at *
  generalize s.l1 = x1 at *
  generalize s.l2 = x2 at *
  go_enter Tryz.func39, Tryz.ntmps39
  go_wp2_with fail
  go_loopw [10] (fun t10 V => V = w ∧ ∃ i : Nat, i ≤ 3 ∧ t10 = .int .i64 (i : Int) ∧ (0 < i → ¬ 0 < x0) ∧ (1 < i → ¬ 0 < x1) ∧ (2 < i → ¬ 0 < x2)) (fun t10 _ => 3 - (intOf t10).toNat)
  case atStart => exact ⟨rfl, 0, by omega, rfl, by omega, by omega, by omega⟩
  case round =>
    obtain ⟨rfl, i, hi, rfl, h0, h1, h2⟩ := hrel
    rcases (by omega : i = 0 ∨ i = 1 ∨ i = 2 ∨ i = 3) with rfl | rfl | rfl | rfl
    · have hix : ∀ W : World, (Instr.index 35 (.agg #[.int .i64 x0, .int .i64 x1, .int .i64 x2]) (.int .i64 0)).run Tryz.prog W = .ok (.int .i64 x0) W := fun W => by kernel_rfl
      by_cases hx : 0 < x0
      · have HO : Hid (op19 x0 x1 x2 = (0, true)) := by show _ = _; unfold op19; rw [if_pos hx]
        clear h0 h1 h2
        go_wp2
        go_ret2
        rw [HO.out]
        exact ⟨rfl, rfl⟩
      · have HH : Hid ((0 < 1 → ¬ 0 < x0) ∧ (1 < 1 → ¬ 0 < x1) ∧ (2 < 1 → ¬ 0 < x2)) := ⟨fun _ => by first | exact hx | exact h0 (by omega), fun _ => by first | omega | exact hx | exact h1 (by omega), fun _ => by first | omega | exact hx | exact h2 (by omega)⟩
        clear h0 h1 h2
        go_wp2
        go_roundw
        case rel => exact ⟨trivial, 1, by omega, by go_num, HH.out.1, HH.out.2.1, HH.out.2.2⟩
        case measure => simp [intOf]
    · have hix : ∀ W : World, (Instr.index 35 (.agg #[.int .i64 x0, .int .i64 x1, .int .i64 x2]) (.int .i64 1)).run Tryz.prog W = .ok (.int .i64 x1) W := fun W => by kernel_rfl
      by_cases hx : 0 < x1
      · have HO : Hid (op19 x0 x1 x2 = (1, true)) := by show _ = _; unfold op19; rw [if_neg (h0 (by omega)), if_pos hx]
        clear h0 h1 h2
        go_wp2
        go_ret2
        rw [HO.out]
        exact ⟨rfl, rfl⟩
      · have HH : Hid ((0 < 2 → ¬ 0 < x0) ∧ (1 < 2 → ¬ 0 < x1) ∧ (2 < 2 → ¬ 0 < x2)) := ⟨fun _ => by first | exact hx | exact h0 (by omega), fun _ => by first | omega | exact hx | exact h1 (by omega), fun _ => by first | omega | exact hx | exact h2 (by omega)⟩
        clear h0 h1 h2
        go_wp2
        go_roundw
        case rel => exact ⟨trivial, 2, by omega, by go_num, HH.out.1, HH.out.2.1, HH.out.2.2⟩
        case measure => simp [intOf]
    · have hix : ∀ W : World, (Instr.index 35 (.agg #[.int .i64 x0, .int .i64 x1, .int .i64 x2]) (.int .i64 2)).run Tryz.prog W = .ok (.int .i64 x2) W := fun W => by kernel_rfl
      by_cases hx : 0 < x2
      · have HO : Hid (op19 x0 x1 x2 = (2, true)) := by show _ = _; unfold op19; rw [if_neg (h0 (by omega)), if_neg (h1 (by omega)), if_pos hx]
        clear h0 h1 h2
        go_wp2
        go_ret2
        rw [HO.out]
        exact ⟨rfl, rfl⟩
      · have HH : Hid ((0 < 3 → ¬ 0 < x0) ∧ (1 < 3 → ¬ 0 < x1) ∧ (2 < 3 → ¬ 0 < x2)) := ⟨fun _ => by first | exact hx | exact h0 (by omega), fun _ => by first | omega | exact hx | exact h1 (by omega), fun _ => by first | omega | exact hx | exact h2 (by omega)⟩
        clear h0 h1 h2
        go_wp2
        go_roundw
        case rel => exact ⟨trivial, 3, by omega, by go_num, HH.out.1, HH.out.2.1, HH.out.2.2⟩
        case measure => simp [intOf]
    · have HO : Hid (op19 x0 x1 x2 = (0, false)) := by show _ = _; unfold op19; rw [if_neg (h0 (by omega)), if_neg (h1 (by omega)), if_neg (h2 (by omega))]
      clear h0 h1 h2
      go_wp2
      go_ret2
      rw [HO.out]
      exact ⟨rfl, rfl⟩
end Go.Proofs.YtpodakndckflgaaGreatDoor

namespace Go.Proofs.YtpodakndckflgaaGreatDoor
open Go.RowKit Go.Shelf
set_option linter.unusedVariables false
theorem appb18 (V : World) {base : Nat} {v : Value} {n : Nat} {xs : List Value} (x : Int) (hown : V.ownsRow base 5 1 v n xs) (hn : n + 1 ≤ 140737488355328) (hbase : base ≤ V.heap.size) :
    ∃ g rc w', (Builtin.append_ #[22, 22] 22 #[v, .slice (some ⟨V.heap.size, 0, none⟩) 1 1]).run Tryz.prog (V.alloc (.cells #[.int .u8 x] 5)) = .ok (.slice (some ⟨g, 0, none⟩) (n + 1) rc) w' ∧
      w'.ownsRow base 5 1 (.slice (some ⟨g, 0, none⟩) (n + 1) rc) (n + 1) (xs ++ [.int .u8 x]) ∧ Kp (fun k => v.ownBlock = some k) V w' ∧ (v.ownBlock = some g ∨ V.heap.size ≤ g) := by
  obtain ⟨i0, hi, hz0, hz1, hz2⟩ := info_parts info_u8g
  obtain ⟨g, rc, w', hr, h1, h2, h3, h4⟩ := run_append_lies (P := Tryz.prog) (V.alloc (.cells #[.int .u8 x] 5)) 22 22 base 5 i0 _ 1 1 Tryz.underlying22 hi hz0 hz1 hz2 rfl (by omega) v n xs (hown.alloc _) ⟨V.heap.size, 0, none⟩ 1 1 [.int .u8 x] rfl
    (World.news_of_block (heap_alloc_new V (.cells #[.int .u8 x] 5 (0, 0)))) (by intro u hu; simp at hu; rcases hu with rfl; rfl) (by omega) (by unfold maxLen; omega) (by omega) (by simp; omega) (V.heap.size + 1) (by simp)
  refine ⟨g, rc, w', hr, h1, (Kp.alloc V _).trans (Kp.grown (S := fun k => v.ownBlock = some k) h2 (fun i e => e)) (fun _ _ e => e), ?_⟩
  rcases h3 with h | h
  · exact .inl h
  · exact .inr (by omega)
/-- Where a slice's bytes lie. -/
def At18 (p : Option Addr) (L : List Int) (k : Nat) : Prop := ∃ off, p = some ⟨k, off, none⟩ ∧ 0 < L.length
structure Ow18 (w : World) (base : Nat) (pb pw : Option Addr) (L : List Int) (v : Value) (n : Nat) (V : World) : Prop where
  own : ∃ Y, V.ownsRow base 5 1 v n Y
  sb : Seg V pb L
  sw : Seg V pw L
  bl : Below base w V
  sz : base ≤ V.heap.size
  wz : w.heap.size ≤ V.heap.size
  ap : ∀ k, v.ownBlock = some k → ¬ At18 pb L k ∧ ¬ At18 pw L k
  lb : ∀ k, At18 pb L k ∨ At18 pw L k → k < w.heap.size
theorem Ow18.kp {w V V' : World} {base : Nat} {pb pw : Option Addr} {L : List Int} {v v' : Value} {n n' : Nat} (h : Ow18 w base pb pw L v n V) (hk : Kp (fun k => v.ownBlock = some k) V V') (ho : ∃ Y, V'.ownsRow base 5 1 v' n' Y) (ha : ∀ k, v'.ownBlock = some k → v.ownBlock = some k ∨ V.heap.size ≤ k) : Ow18 w base pb pw L v' n' V' := by
  have hlt : ∀ k, v.ownBlock = some k → base ≤ k := by
    obtain ⟨Y, hY⟩ := h.own
    exact fun k x => (hY.lt k x).1
  have bl := hk.below hlt h.sz
  refine ⟨ho, h.sb.kp hk (fun x off e hp hx => (h.ap x hx).1 ⟨off, e, hp⟩), h.sw.kp hk (fun x off e hp hx => (h.ap x hx).2 ⟨off, e, hp⟩), h.bl.trans bl, Nat.le_trans h.sz bl.size, Nat.le_trans h.wz bl.size, ?_, h.lb⟩
  intro k hk'
  rcases ha k hk' with x | x
  · exact h.ap k x
  · have := h.wz
    refine ⟨fun y => ?_, fun y => ?_⟩
    · have := h.lb k (.inl y); omega
    · have := h.lb k (.inr y); omega
end Go.Proofs.YtpodakndckflgaaGreatDoor
