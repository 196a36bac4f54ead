import Derived.Test.YtalojcpgkgeofaaGreatDoorPn
import Derived.Test.YtalojcpgkgeofaaGreatDoorPl
import Derived.Test.YtalojcpgkgeofaaGreatDoorProg
namespace Go.Proofs.YtalojcpgkgeofaaGreatDoor
open Go.RowKit Go.Shelf
set_option linter.unusedVariables false

/-! The reader: sum. -/
set_option maxRecDepth 100000 in
set_option maxHeartbeats 2000000 in
theorem psm18_no (br : Nat) (za : Option Addr) (zn zc at_ : Nat) (w : World) (h : Rq18 w br za zn zc at_) (hl : zn ≤ 140737488351232) (hc : zn ≤ zc) (hat : at_ ≤ zn) (hn : zn < at_ + 4) :
    Calls Tryz.prog 58 #[.pointer (some ⟨br, 0, none⟩)] w fun e w' => e = .panicked (pn18 182) ∧ Below w.heap.size w w' := by
  have HS : Hid (w.drew.cell? ⟨br, 0, none⟩ = some (.slice za zn zc) ∧ w.drew.cell? ⟨br, 1, none⟩ = some (.int .i64 (at_ : Int))) := ⟨cell18 (W := w.drew) h rfl, cell18 (W := w.drew) h rfl⟩
  have W := pwd18_no br za zn zc at_ w.drew h hl hat hn
  have hai : (at_ : Int) ≤ (zc : Int) := by omega
  clear h hl hat hn hc
  go_enter Tryz.func58, Tryz.ntmps58
  go_wp2_with fail
  refine plain_region16 (fun V => V.cell? ⟨br, 0, none⟩ = some (.slice za zn zc) ∧ V.cell? ⟨br, 1, none⟩ = some (.int .i64 (at_ : Int))) 10 (by kernel_rfl) HS.out (fun hHeld => ?_)
  refine wpAnyK_take (i := 0) (v := .pointer (some ⟨br, 0, none⟩)) rfl (by kernel_rfl) (by kernel_rfl) (by kernel_rfl) (by kernel_rfl) (fun _ _ _ h => h) (Or.inl ⟨by rfl, fun w hSw => by go_simp⟩) hHeld ?_
  simp only [List.getElem_toArray, List.getElem_cons_zero, Act.put, List.setIfInBounds_toArray, List.set_cons_zero, List.set_cons_succ]
  refine wpAnyK_take (i := 1) (v := .pointer (some ⟨br, 0, none⟩)) rfl (by kernel_rfl) (by kernel_rfl) (by kernel_rfl) (by kernel_rfl) (fun _ _ _ h => h) (Or.inl ⟨by rfl, fun w hSw => by go_simp⟩) hHeld ?_
  simp only [List.getElem_toArray, List.getElem_cons_zero, List.getElem_cons_succ, Act.put, List.setIfInBounds_toArray, List.set_cons_zero, List.set_cons_succ]
  refine wpAnyK_take (i := 2) (v := .pointer (some ⟨br, 0, none⟩)) rfl (by kernel_rfl) (by kernel_rfl) (by kernel_rfl) (by kernel_rfl) (fun _ _ _ h => h) (Or.inl ⟨by rfl, fun w hSw => by go_simp⟩) hHeld ?_
  simp only [List.getElem_toArray, List.getElem_cons_zero, List.getElem_cons_succ, Act.put, List.setIfInBounds_toArray, List.set_cons_zero, List.set_cons_succ]
  refine wpAnyK_take (i := 3) (v := .slice za zn zc) rfl (by kernel_rfl) (by kernel_rfl) (by kernel_rfl) (by kernel_rfl) (fun _ _ _ h => h) (Or.inl ⟨by rfl, fun w hSw => by go_simp⟩) hHeld ?_
  simp only [List.getElem_toArray, List.getElem_cons_zero, List.getElem_cons_succ, Act.put, List.setIfInBounds_toArray, List.set_cons_zero, List.set_cons_succ]
  refine wpAnyK_take (i := 4) (v := .pointer (some ⟨br, 0, none⟩)) rfl (by kernel_rfl) (by kernel_rfl) (by kernel_rfl) (by kernel_rfl) (fun _ _ _ h => h) (Or.inl ⟨by rfl, fun w hSw => by go_simp⟩) hHeld ?_
  simp only [List.getElem_toArray, List.getElem_cons_zero, List.getElem_cons_succ, Act.put, List.setIfInBounds_toArray, List.set_cons_zero, List.set_cons_succ]
  refine wpAnyK_take (i := 5) (v := .pointer (some ⟨br, 0, none⟩)) rfl (by kernel_rfl) (by kernel_rfl) (by kernel_rfl) (by kernel_rfl) (fun _ _ _ h => h) (Or.inl ⟨by rfl, fun w hSw => by go_simp⟩) hHeld ?_
  simp only [List.getElem_toArray, List.getElem_cons_zero, List.getElem_cons_succ, Act.put, List.setIfInBounds_toArray, List.set_cons_zero, List.set_cons_succ]
  refine wpAnyK_take (i := 6) (v := .pointer (some ⟨br, 1, none⟩)) rfl (by kernel_rfl) (by kernel_rfl) (by kernel_rfl) (by kernel_rfl) (fun _ _ _ h => h) (Or.inl ⟨by rfl, fun w hSw => by go_simp⟩) hHeld ?_
  simp only [List.getElem_toArray, List.getElem_cons_zero, List.getElem_cons_succ, Act.put, List.setIfInBounds_toArray, List.set_cons_zero, List.set_cons_succ]
  refine wpAnyK_take (i := 7) (v := .int .i64 (at_ : Int)) rfl (by kernel_rfl) (by kernel_rfl) (by kernel_rfl) (by kernel_rfl) (fun _ _ _ h => h) (Or.inl ⟨by rfl, fun w hSw => by go_simp⟩) hHeld ?_
  simp only [List.getElem_toArray, List.getElem_cons_zero, List.getElem_cons_succ, Act.put, List.setIfInBounds_toArray, List.set_cons_zero, List.set_cons_succ]
  refine wpAnyK_take (i := 8) (v := .slice za at_ zc) rfl (by kernel_rfl) (by kernel_rfl) (by kernel_rfl) (by kernel_rfl) (fun _ _ _ h => h) (Or.inl ⟨by rfl, fun w hSw => by go_simp⟩) hHeld ?_
  simp only [List.getElem_toArray, List.getElem_cons_zero, List.getElem_cons_succ, Act.put, List.setIfInBounds_toArray, List.set_cons_zero, List.set_cons_succ]
  refine wpAnyK_one (i := 9) (by kernel_rfl) rfl (fun K hK => ?_)
  (try simp only [List.getElem_toArray, List.getElem_cons_zero, List.getElem_cons_succ, Act.put, List.setIfInBounds_toArray, List.set_cons_zero, List.set_cons_succ])
  go_simp
  refine hK.out _ _ (fun _ => HS.out) (fun hHeld0 => ?_)
  clear hHeld0 hK K
  (try simp only [List.getElem_toArray, List.getElem_cons_zero, List.getElem_cons_succ, Act.put, List.setIfInBounds_toArray, List.set_cons_zero, List.set_cons_succ])
  refine wpAnyK_done (by kernel_rfl) ?_ _
  go_wp2_with fail
  refine W.mono ?_
  rintro e1 w1 ⟨rfl, b1⟩
  exact ⟨rfl, rfl, (Below.refl _ _).drew.trans (b1.mono (Nat.le_refl _))⟩
/-- Is the sum right? -/
def Su18 (z : List Int) (at_ : Nat) : Prop := wd18 z at_ = wI (sumW (z.take at_))
set_option maxRecDepth 100000 in
set_option maxHeartbeats 4000000 in
theorem psm18 (br : Nat) (za : Option Addr) (zc : Nat) (z : List Int) (at_ : Nat) (w : World) (ht : Tab w) (hbr : br ≠ 0) (h : Rq18 w br za z.length zc at_) (hz : Seg w za z) (hzb : ∀ x off, za = some ⟨x, off, none⟩ → 0 < z.length → x ≠ br) (hl : z.length ≤ 140737488351232) (hc : z.length ≤ zc) (hn : at_ + 4 ≤ z.length) (hs : Su18 z at_) :
    Calls Tryz.prog 58 #[.pointer (some ⟨br, 0, none⟩)] w fun e w' => e = .returned (.tuple #[]) ∧ Rq18 w' br za z.length zc (at_ + 4) ∧ Kp (fun k => k = br) w w' := by
  obtain ⟨zn, hzn⟩ : ∃ zn, zn = z.length := ⟨_, rfl⟩
  have HS : Hid (w.drew.cell? ⟨br, 0, none⟩ = some (.slice za zn zc) ∧ w.drew.cell? ⟨br, 1, none⟩ = some (.int .i64 (at_ : Int))) := by rw [hzn]; exact ⟨cell18 (W := w.drew) h rfl, cell18 (W := w.drew) h rfl⟩
  have W := pwd18 br za zc z at_ w.drew h hz.drew hzb hl hc hn
  have hai : (at_ : Int) ≤ (zc : Int) := by omega
  have HSM : Hid (∀ V, Kp (fun k => k = br) w V → Calls Tryz.prog 88 #[.slice (some ⟨V.heap.size, 0, none⟩) 1 1] (V.alloc (.cells #[.slice za at_ zc] 26)) fun e w' => e = .returned (.int .u32 (wI (sumW (z.take at_)))) ∧ w' = V.alloc (.cells #[.slice za at_ zc] 26)) := fun V hV => by
    have sg : Seg V za z := hz.kp hV (fun x off e hp => hzb x off e hp)
    have tb : Tab V := SegK.kp ht hV (fun x off e hp => by cases e; exact fun x => hbr x.symm)
    exact sum_one V V.heap.size at_ za (z.take at_) zc 1 26 tb (sg.take at_) rfl (by rw [List.length_take]; omega) (by rw [List.length_take]; omega)
  unfold Su18 at hs
  rw [← hzn] at W
  (try rw [← hzn])
  generalize wd18 z at_ = a at *
  generalize wI (sumW (z.take at_)) = b at *
  clear h hz hzb hl hc hn ht hbr hzn
  subst hs
  go_enter Tryz.func58, Tryz.ntmps58
  go_wp2_with fail
  refine plain_region16 (fun V => V.cell? ⟨br, 0, none⟩ = some (.slice za zn zc) ∧ V.cell? ⟨br, 1, none⟩ = some (.int .i64 (at_ : Int))) 10 (by kernel_rfl) HS.out (fun hHeld => ?_)
  refine wpAnyK_take (i := 0) (v := .pointer (some ⟨br, 0, none⟩)) rfl (by kernel_rfl) (by kernel_rfl) (by kernel_rfl) (by kernel_rfl) (fun _ _ _ h => h) (Or.inl ⟨by rfl, fun w hSw => by go_simp⟩) hHeld ?_
  simp only [List.getElem_toArray, List.getElem_cons_zero, Act.put, List.setIfInBounds_toArray, List.set_cons_zero, List.set_cons_succ]
  refine wpAnyK_take (i := 1) (v := .pointer (some ⟨br, 0, none⟩)) rfl (by kernel_rfl) (by kernel_rfl) (by kernel_rfl) (by kernel_rfl) (fun _ _ _ h => h) (Or.inl ⟨by rfl, fun w hSw => by go_simp⟩) hHeld ?_
  simp only [List.getElem_toArray, List.getElem_cons_zero, List.getElem_cons_succ, Act.put, List.setIfInBounds_toArray, List.set_cons_zero, List.set_cons_succ]
  refine wpAnyK_take (i := 2) (v := .pointer (some ⟨br, 0, none⟩)) rfl (by kernel_rfl) (by kernel_rfl) (by kernel_rfl) (by kernel_rfl) (fun _ _ _ h => h) (Or.inl ⟨by rfl, fun w hSw => by go_simp⟩) hHeld ?_
  simp only [List.getElem_toArray, List.getElem_cons_zero, List.getElem_cons_succ, Act.put, List.setIfInBounds_toArray, List.set_cons_zero, List.set_cons_succ]
  refine wpAnyK_take (i := 3) (v := .slice za zn zc) rfl (by kernel_rfl) (by kernel_rfl) (by kernel_rfl) (by kernel_rfl) (fun _ _ _ h => h) (Or.inl ⟨by rfl, fun w hSw => by go_simp⟩) hHeld ?_
  simp only [List.getElem_toArray, List.getElem_cons_zero, List.getElem_cons_succ, Act.put, List.setIfInBounds_toArray, List.set_cons_zero, List.set_cons_succ]
  refine wpAnyK_take (i := 4) (v := .pointer (some ⟨br, 0, none⟩)) rfl (by kernel_rfl) (by kernel_rfl) (by kernel_rfl) (by kernel_rfl) (fun _ _ _ h => h) (Or.inl ⟨by rfl, fun w hSw => by go_simp⟩) hHeld ?_
  simp only [List.getElem_toArray, List.getElem_cons_zero, List.getElem_cons_succ, Act.put, List.setIfInBounds_toArray, List.set_cons_zero, List.set_cons_succ]
  refine wpAnyK_take (i := 5) (v := .pointer (some ⟨br, 0, none⟩)) rfl (by kernel_rfl) (by kernel_rfl) (by kernel_rfl) (by kernel_rfl) (fun _ _ _ h => h) (Or.inl ⟨by rfl, fun w hSw => by go_simp⟩) hHeld ?_
  simp only [List.getElem_toArray, List.getElem_cons_zero, List.getElem_cons_succ, Act.put, List.setIfInBounds_toArray, List.set_cons_zero, List.set_cons_succ]
  refine wpAnyK_take (i := 6) (v := .pointer (some ⟨br, 1, none⟩)) rfl (by kernel_rfl) (by kernel_rfl) (by kernel_rfl) (by kernel_rfl) (fun _ _ _ h => h) (Or.inl ⟨by rfl, fun w hSw => by go_simp⟩) hHeld ?_
  simp only [List.getElem_toArray, List.getElem_cons_zero, List.getElem_cons_succ, Act.put, List.setIfInBounds_toArray, List.set_cons_zero, List.set_cons_succ]
  refine wpAnyK_take (i := 7) (v := .int .i64 (at_ : Int)) rfl (by kernel_rfl) (by kernel_rfl) (by kernel_rfl) (by kernel_rfl) (fun _ _ _ h => h) (Or.inl ⟨by rfl, fun w hSw => by go_simp⟩) hHeld ?_
  simp only [List.getElem_toArray, List.getElem_cons_zero, List.getElem_cons_succ, Act.put, List.setIfInBounds_toArray, List.set_cons_zero, List.set_cons_succ]
  refine wpAnyK_take (i := 8) (v := .slice za at_ zc) rfl (by kernel_rfl) (by kernel_rfl) (by kernel_rfl) (by kernel_rfl) (fun _ _ _ h => h) (Or.inl ⟨by rfl, fun w hSw => by go_simp⟩) hHeld ?_
  simp only [List.getElem_toArray, List.getElem_cons_zero, List.getElem_cons_succ, Act.put, List.setIfInBounds_toArray, List.set_cons_zero, List.set_cons_succ]
  refine wpAnyK_one (i := 9) (by kernel_rfl) rfl (fun K hK => ?_)
  (try simp only [List.getElem_toArray, List.getElem_cons_zero, List.getElem_cons_succ, Act.put, List.setIfInBounds_toArray, List.set_cons_zero, List.set_cons_succ])
  go_simp
  refine hK.out _ _ (fun _ => HS.out) (fun hHeld0 => ?_)
  clear hHeld0 hK K
  (try simp only [List.getElem_toArray, List.getElem_cons_zero, List.getElem_cons_succ, Act.put, List.setIfInBounds_toArray, List.set_cons_zero, List.set_cons_succ])
  refine wpAnyK_done (by kernel_rfl) ?_ _
  go_wp2_with fail
  refine W.mono ?_
  rintro e1 w1 ⟨rfl, q1, k1⟩
  have k1' : Kp (fun k => k = br) w w1 := (Kp.of_below ((Below.refl _ _).drew)).trans k1 (fun _ _ x => x)
  have SM := HSM.out w1 k1'
  have HKA : Hid (Kp (fun k => k = br) w (w1.alloc (.cells #[.slice za at_ zc] 26))) := k1'.trans (Kp.alloc w1 _) (fun _ _ x => x)
  have HQA : Hid (Rq18 (w1.alloc (.cells #[.slice za at_ zc] 26)) br za zn zc (at_ + 4)) := (((Below.refl _ _).alloc (Nat.le_refl _) _).block _ (Array.getElem?_eq_some_iff.1 q1).1).trans q1
  clear q1 k1 k1'
  go_wp2_with fail
  refine SM.mono ?_
  rintro e2 w2 ⟨rfl, hw2⟩
  subst w2
  go_wp2_with fail
  go_end0
  exact ⟨rfl, HQA.out, HKA.out⟩
set_option maxRecDepth 100000 in
set_option maxHeartbeats 4000000 in
theorem psm18_bad (br : Nat) (za : Option Addr) (zc : Nat) (z : List Int) (at_ : Nat) (w : World) (ht : Tab w) (hbr : br ≠ 0) (h : Rq18 w br za z.length zc at_) (hz : Seg w za z) (hzb : ∀ x off, za = some ⟨x, off, none⟩ → 0 < z.length → x ≠ br) (hl : z.length ≤ 140737488351232) (hc : z.length ≤ zc) (hn : at_ + 4 ≤ z.length) (hs : ¬ Su18 z at_) :
    Calls Tryz.prog 58 #[.pointer (some ⟨br, 0, none⟩)] w fun e w' => e = .panicked (pn18 183) ∧ Kp (fun k => k = br) w w' := by
  obtain ⟨zn, hzn⟩ : ∃ zn, zn = z.length := ⟨_, rfl⟩
  have HS : Hid (w.drew.cell? ⟨br, 0, none⟩ = some (.slice za zn zc) ∧ w.drew.cell? ⟨br, 1, none⟩ = some (.int .i64 (at_ : Int))) := by rw [hzn]; exact ⟨cell18 (W := w.drew) h rfl, cell18 (W := w.drew) h rfl⟩
  have W := pwd18 br za zc z at_ w.drew h hz.drew hzb hl hc hn
  have hai : (at_ : Int) ≤ (zc : Int) := by omega
  have HSM : Hid (∀ V, Kp (fun k => k = br) w V → Calls Tryz.prog 88 #[.slice (some ⟨V.heap.size, 0, none⟩) 1 1] (V.alloc (.cells #[.slice za at_ zc] 26)) fun e w' => e = .returned (.int .u32 (wI (sumW (z.take at_)))) ∧ w' = V.alloc (.cells #[.slice za at_ zc] 26)) := fun V hV => by
    have sg : Seg V za z := hz.kp hV (fun x off e hp => hzb x off e hp)
    have tb : Tab V := SegK.kp ht hV (fun x off e hp => by cases e; exact fun x => hbr x.symm)
    exact sum_one V V.heap.size at_ za (z.take at_) zc 1 26 tb (sg.take at_) rfl (by rw [List.length_take]; omega) (by rw [List.length_take]; omega)
  unfold Su18 at hs
  rw [← hzn] at W
  (try rw [← hzn])
  generalize wd18 z at_ = a at *
  generalize wI (sumW (z.take at_)) = b at *
  clear h hz hzb hl hc hn ht hbr hzn
  have hs2 : (a != b) = true := by simp [hs]
  go_enter Tryz.func58, Tryz.ntmps58
  go_wp2_with fail
  refine plain_region16 (fun V => V.cell? ⟨br, 0, none⟩ = some (.slice za zn zc) ∧ V.cell? ⟨br, 1, none⟩ = some (.int .i64 (at_ : Int))) 10 (by kernel_rfl) HS.out (fun hHeld => ?_)
  refine wpAnyK_take (i := 0) (v := .pointer (some ⟨br, 0, none⟩)) rfl (by kernel_rfl) (by kernel_rfl) (by kernel_rfl) (by kernel_rfl) (fun _ _ _ h => h) (Or.inl ⟨by rfl, fun w hSw => by go_simp⟩) hHeld ?_
  simp only [List.getElem_toArray, List.getElem_cons_zero, Act.put, List.setIfInBounds_toArray, List.set_cons_zero, List.set_cons_succ]
  refine wpAnyK_take (i := 1) (v := .pointer (some ⟨br, 0, none⟩)) rfl (by kernel_rfl) (by kernel_rfl) (by kernel_rfl) (by kernel_rfl) (fun _ _ _ h => h) (Or.inl ⟨by rfl, fun w hSw => by go_simp⟩) hHeld ?_
  simp only [List.getElem_toArray, List.getElem_cons_zero, List.getElem_cons_succ, Act.put, List.setIfInBounds_toArray, List.set_cons_zero, List.set_cons_succ]
  refine wpAnyK_take (i := 2) (v := .pointer (some ⟨br, 0, none⟩)) rfl (by kernel_rfl) (by kernel_rfl) (by kernel_rfl) (by kernel_rfl) (fun _ _ _ h => h) (Or.inl ⟨by rfl, fun w hSw => by go_simp⟩) hHeld ?_
  simp only [List.getElem_toArray, List.getElem_cons_zero, List.getElem_cons_succ, Act.put, List.setIfInBounds_toArray, List.set_cons_zero, List.set_cons_succ]
  refine wpAnyK_take (i := 3) (v := .slice za zn zc) rfl (by kernel_rfl) (by kernel_rfl) (by kernel_rfl) (by kernel_rfl) (fun _ _ _ h => h) (Or.inl ⟨by rfl, fun w hSw => by go_simp⟩) hHeld ?_
  simp only [List.getElem_toArray, List.getElem_cons_zero, List.getElem_cons_succ, Act.put, List.setIfInBounds_toArray, List.set_cons_zero, List.set_cons_succ]
  refine wpAnyK_take (i := 4) (v := .pointer (some ⟨br, 0, none⟩)) rfl (by kernel_rfl) (by kernel_rfl) (by kernel_rfl) (by kernel_rfl) (fun _ _ _ h => h) (Or.inl ⟨by rfl, fun w hSw => by go_simp⟩) hHeld ?_
  simp only [List.getElem_toArray, List.getElem_cons_zero, List.getElem_cons_succ, Act.put, List.setIfInBounds_toArray, List.set_cons_zero, List.set_cons_succ]
  refine wpAnyK_take (i := 5) (v := .pointer (some ⟨br, 0, none⟩)) rfl (by kernel_rfl) (by kernel_rfl) (by kernel_rfl) (by kernel_rfl) (fun _ _ _ h => h) (Or.inl ⟨by rfl, fun w hSw => by go_simp⟩) hHeld ?_
  simp only [List.getElem_toArray, List.getElem_cons_zero, List.getElem_cons_succ, Act.put, List.setIfInBounds_toArray, List.set_cons_zero, List.set_cons_succ]
  refine wpAnyK_take (i := 6) (v := .pointer (some ⟨br, 1, none⟩)) rfl (by kernel_rfl) (by kernel_rfl) (by kernel_rfl) (by kernel_rfl) (fun _ _ _ h => h) (Or.inl ⟨by rfl, fun w hSw => by go_simp⟩) hHeld ?_
  simp only [List.getElem_toArray, List.getElem_cons_zero, List.getElem_cons_succ, Act.put, List.setIfInBounds_toArray, List.set_cons_zero, List.set_cons_succ]
  refine wpAnyK_take (i := 7) (v := .int .i64 (at_ : Int)) rfl (by kernel_rfl) (by kernel_rfl) (by kernel_rfl) (by kernel_rfl) (fun _ _ _ h => h) (Or.inl ⟨by rfl, fun w hSw => by go_simp⟩) hHeld ?_
  simp only [List.getElem_toArray, List.getElem_cons_zero, List.getElem_cons_succ, Act.put, List.setIfInBounds_toArray, List.set_cons_zero, List.set_cons_succ]
  refine wpAnyK_take (i := 8) (v := .slice za at_ zc) rfl (by kernel_rfl) (by kernel_rfl) (by kernel_rfl) (by kernel_rfl) (fun _ _ _ h => h) (Or.inl ⟨by rfl, fun w hSw => by go_simp⟩) hHeld ?_
  simp only [List.getElem_toArray, List.getElem_cons_zero, List.getElem_cons_succ, Act.put, List.setIfInBounds_toArray, List.set_cons_zero, List.set_cons_succ]
  refine wpAnyK_one (i := 9) (by kernel_rfl) rfl (fun K hK => ?_)
  (try simp only [List.getElem_toArray, List.getElem_cons_zero, List.getElem_cons_succ, Act.put, List.setIfInBounds_toArray, List.set_cons_zero, List.set_cons_succ])
  go_simp
  refine hK.out _ _ (fun _ => HS.out) (fun hHeld0 => ?_)
  clear hHeld0 hK K
  (try simp only [List.getElem_toArray, List.getElem_cons_zero, List.getElem_cons_succ, Act.put, List.setIfInBounds_toArray, List.set_cons_zero, List.set_cons_succ])
  refine wpAnyK_done (by kernel_rfl) ?_ _
  go_wp2_with fail
  refine W.mono ?_
  rintro e1 w1 ⟨rfl, q1, k1⟩
  have k1' : Kp (fun k => k = br) w w1 := (Kp.of_below ((Below.refl _ _).drew)).trans k1 (fun _ _ x => x)
  have SM := HSM.out w1 k1'
  have HKA : Hid (Kp (fun k => k = br) w (w1.alloc (.cells #[.slice za at_ zc] 26))) := k1'.trans (Kp.alloc w1 _) (fun _ _ x => x)
  have HQA : Hid (Rq18 (w1.alloc (.cells #[.slice za at_ zc] 26)) br za zn zc (at_ + 4)) := (((Below.refl _ _).alloc (Nat.le_refl _) _).block _ (Array.getElem?_eq_some_iff.1 q1).1).trans q1
  clear q1 k1 k1'
  go_wp2_with fail
  refine SM.mono ?_
  rintro e2 w2 ⟨rfl, hw2⟩
  subst w2
  go_wp2_with fail
  exact ⟨rfl, rfl, HKA.out⟩
end Go.Proofs.YtalojcpgkgeofaaGreatDoor

namespace Go.Proofs.YtalojcpgkgeofaaGreatDoor
open Go.RowKit
set_option linter.unusedVariables false

/-- The number that bytes are. -/
def valL : List Int → Int
  | [] => 0
  | z :: r => z % 128 + 128 * valL r
theorem valL_pos : ∀ zs : List Int, 0 ≤ valL zs
  | [] => by simp [valL]
  | z :: r => by have := valL_pos r; simp only [valL]; omega
theorem valL_snoc : ∀ (l : List Int) (x : Int), valL (l ++ [x]) = valL l + x % 128 * 128 ^ l.length
  | [], x => by simp [valL]
  | z :: r, x => by
    simp only [List.cons_append, valL, valL_snoc r x, List.length_cons, Int.pow_succ]
    have e : x % 128 * (128 ^ r.length * 128) = 128 * (x % 128 * 128 ^ r.length) := by rw [← Int.mul_assoc, Int.mul_comm]
    rw [e]
    omega
theorem valL_lt : ∀ l : List Int, valL l < 128 ^ l.length
  | [] => by simp [valL]
  | z :: r => by
    have := valL_lt r
    simp only [valL, List.length_cons, Int.pow_succ]
    omega
theorem valL_take (zs : List Int) (k : Nat) (h : k < zs.length) : valL (zs.take (k + 1)) = tkVal (valL (zs.take k)) k (zs.getD k 0) := by
  rw [List.take_succ_eq_append_getElem h, valL_snoc]
  unfold tkVal
  simp [List.getD, h, Nat.min_eq_left (Nat.le_of_lt h)]
theorem valL_drop_le : ∀ (zs : List Int) (k : Nat), valL (zs.drop k) ≤ valL zs
  | zs, 0 => by simp
  | [], k + 1 => by simp
  | z :: r, k + 1 => by
    have h1 := valL_drop_le r k
    have h2 := valL_pos r
    simp only [List.drop_succ_cons, valL]
    omega
end Go.Proofs.YtalojcpgkgeofaaGreatDoor

namespace Go.Proofs.YtalojcpgkgeofaaGreatDoor
open Go.RowKit
set_option linter.unusedVariables false

set_option maxRecDepth 100000 in
theorem wrong_any (b off n cap : Nat) (x : Int) (w : World) (hc : w.cell? ⟨b, off + n, none⟩ = some (.int .u8 x)) (hx : 0 ≤ x) (hn : n ≤ 140737488355328) :
    Calls Tryz.prog 89 #[.slice (some ⟨b, off, none⟩) (n + 1) cap] w fun e w' => e = .returned (.int .i64 (tkErr n x)) ∧ w' = w := by
  have hlt : (n : Int) < (n : Int) + 1 := by omega
  by_cases a1 : n = 9
  · subst a1
    by_cases a2 : 1 < x
    · go_enter Tryz.func89, Tryz.ntmps89
      go_wp2
      go_ret
      exact ⟨by simp [tkErr, a2], rfl⟩
    · by_cases a3 : x = 0
      · subst a3
        go_enter Tryz.func89, Tryz.ntmps89
        go_wp2
        go_ret
        exact ⟨by simp [tkErr], rfl⟩
      · have a4 : (x == 0) = false := by simp [a3]
        go_enter Tryz.func89, Tryz.ntmps89
        go_wp2
        go_ret
        exact ⟨by have : ¬ 1 < x := by omega
                  simp [tkErr, this, a3], rfl⟩
  · have a0 : ((n : Int) == 9) = false := by simp; omega
    by_cases a2 : 0 < n
    · have a5 : (0 : Int) < (n : Int) := by omega
      by_cases a3 : x = 0
      · subst a3
        go_enter Tryz.func89, Tryz.ntmps89
        go_wp2
        go_ret
        exact ⟨by simp [tkErr, a1, a2], rfl⟩
      · have a4 : (x == 0) = false := by simp [a3]
        go_enter Tryz.func89, Tryz.ntmps89
        go_wp2
        go_ret
        exact ⟨by simp [tkErr, a1, a3], rfl⟩
    · have a6 : n = 0 := by omega
      subst a6
      go_enter Tryz.func89, Tryz.ntmps89
      go_wp2
      go_ret
      exact ⟨by simp [tkErr], rfl⟩

set_option maxRecDepth 100000 in
set_option maxHeartbeats 400000 in
theorem value_any (a : Option Addr) (zs : List Int) (cap : Nat) (w : World) (hs : Seg w a zs) (hl : zs.length ≤ 140737488355328) (hv : valL zs ≤ 18446744073709551615) :
    Calls Tryz.prog 90 #[.slice a zs.length cap] w fun e w' => e = .returned (.int .u64 (valL zs)) ∧ w' = w := by
  go_enter Tryz.func90, Tryz.ntmps90
  go_wp2
  go_loop [3, 4] (fun t i => ∃ k : Nat, k ≤ zs.length ∧ i = .int .i64 ((k : Int) - 1) ∧ t = .int .u64 (valL (zs.drop k))) (fun _ i => (intOf i + 1).toNat)
  case atStart => exact ⟨zs.length, Nat.le_refl _, rfl, by simp [valL]⟩
  case round =>
    obtain ⟨k, hk, rfl, rfl⟩ := hrel
    by_cases hlt : 0 < k
    · obtain ⟨k, rfl⟩ : ∃ j, k = j + 1 := ⟨k - 1, by omega⟩
      obtain ⟨b, off, rfl, hcell⟩ := hs.at_ k (by omega)
      have hx := hs.bd k
      have h1 := valL_pos (zs.drop (k + 1))
      have h2 := valL_drop_le zs k
      have HD : Hid (valL (zs.drop k) = zs.getD k 0 % 128 + 128 * valL (zs.drop (k + 1))) := by show valL _ = _; rw [drop_cons (by omega)]; rfl
      rw [HD.out] at h2
      have hi : ((k + 1 : Nat) : Int) - 1 = (k : Int) := by omega
      rw [hi]
      generalize zs.getD k 0 = x at *
      generalize valL (zs.drop (k + 1)) = V at *
      have hkl : (k : Int) < (zs.length : Int) := by omega
      go_wp2
      go_round
      case rel => exact ⟨k, by omega, by go_num, by rw [HD.out]; go_num⟩
      case measure => simp [intOf]
    · obtain rfl : k = 0 := by omega
      go_wp2
      go_ret
      exact ⟨rfl, rfl⟩
theorem value_at (a : Option Addr) (zs : List Int) (n cap : Nat) (w : World) (hs : Seg w a zs) (hn : zs.length = n) (hl : n ≤ 140737488355328) (hv : valL zs ≤ 18446744073709551615) :
    Calls Tryz.prog 90 #[.slice a n cap] w fun e w' => e = .returned (.int .u64 (valL zs)) ∧ w' = w := by
  subst hn
  exact value_any a zs cap w hs hl hv

end Go.Proofs.YtalojcpgkgeofaaGreatDoor

namespace Go.Proofs.YtalojcpgkgeofaaGreatDoor
open Go.RowKit
set_option linter.unusedVariables false

set_option maxRecDepth 100000 in
set_option maxHeartbeats 400000 in
theorem read_any (a : Option Addr) (zs : List Int) (cap : Nat) (w : World) (hs : Seg w a zs) (hl : zs.length ≤ 140737488355328) (hcap : zs.length ≤ cap) :
    Calls Tryz.prog 59 #[.slice a zs.length cap] w fun e w' => e = .returned (.tuple #[.int .u64 (decL 0 0 zs).1, .int .i64 (decL 0 0 zs).2.1, .int .i64 (decL 0 0 zs).2.2]) ∧ w' = w := by
  go_enter Tryz.func59, Tryz.ntmps59
  go_wp2
  go_loop [5] (fun i => ∃ k : Nat, k ≤ zs.length ∧ i = .int .i64 k ∧ k ≤ 9 ∧ decL 0 0 zs = decL (valL (zs.take k)) k (zs.drop k)) (fun i => zs.length - (intOf i).toNat)
  case atStart => exact ⟨0, Nat.zero_le _, rfl, by omega, by simp [valL]⟩
  case round =>
    obtain ⟨k, hk, rfl, hk9, hd⟩ := hrel
    by_cases hlt : k < zs.length
    · obtain ⟨b, off, rfl, hcell⟩ := hs.at_ k hlt
      have hx := hs.bd k
      have hv1 := valL_lt (zs.take k)
      have hv0 := valL_pos (zs.take k)
      have ht : (zs.take k).length = k := by simp; omega
      rw [ht] at hv1
      have hst := hs.take (k + 1)
      have ht1 : (zs.take (k + 1)).length = k + 1 := by simp; omega
      have HV : Hid (valL (zs.take (k + 1)) = tkVal (valL (zs.take k)) k (zs.getD k 0)) := valL_take zs k hlt
      rw [drop_cons hlt] at hd
      generalize zs.getD k 0 = x at *
      have hki : (k : Int) + 1 ≤ (cap : Int) := by omega
      by_cases he : tkErr k x = 0
      · have hne : (tkErr k x != 0) = false := by simp [he]
        have hbd := tkVal_bd (valL (zs.take k)) k x hv0 hv1 (by omega)
        by_cases h7 : x < 128
        · have HD : Hid (decL 0 0 zs = (tkVal (valL (zs.take k)) k x, (k : Int) + 1, 0)) := by rw [hd]; show decL _ k _ = _; simp [decL, he, h7]
          have hfit : valL (zs.take (k + 1)) ≤ 18446744073709551615 := by
            rw [HV.out]
            have := tk_fits k x hk9 (by omega) (tkErr_nine he)
            unfold tkVal
            omega
          clear hd hbd hv1 hv0
          go_wp2_with (first
            | (go_at_call 89; refine (wrong_any b off k cap x _ hcell (by omega) (by omega)).mono ?_; rintro e w' ⟨rfl, hw'⟩; subst w')
            | (go_at_call 90; refine (value_at _ (zs.take (k + 1)) _ cap _ hst ht1 (by omega) hfit).mono ?_; rintro e w' ⟨rfl, hw'⟩; subst w'))
          go_ret3
          rw [HD.out, HV.out]
          exact ⟨rfl, rfl⟩
        · have HD : Hid (decL 0 0 zs = decL (valL (zs.take (k + 1))) (k + 1) (zs.drop (k + 1))) := by rw [hd, HV.out]; show decL _ k _ = _; simp [decL, he, h7]
          have hk8 := tk_more_le hk9 he (by omega)
          clear hd hbd hv1 hv0
          go_wp2_with (first
            | (go_at_call 89; refine (wrong_any b off k cap x _ hcell (by omega) (by omega)).mono ?_; rintro e w' ⟨rfl, hw'⟩; subst w'))
          go_round
          case rel => exact ⟨k + 1, by omega, by go_num, by omega, HD.out⟩
          case measure => simp [intOf]; omega
      · have HD : Hid (decL 0 0 zs = (0, 0, tkErr k x)) := by rw [hd]; show decL _ k _ = _; simp [decL, he]
        have hne : (tkErr k x != 0) = true := by simp [he]
        clear hd
        go_wp2_with (first
            | (go_at_call 89; refine (wrong_any b off k cap x _ hcell (by omega) (by omega)).mono ?_; rintro e w' ⟨rfl, hw'⟩; subst w'))
        go_ret3
        rw [HD.out]
        exact ⟨rfl, rfl⟩
    · have HD : Hid (decL 0 0 zs = (0, 0, 11)) := by rw [hd, List.drop_of_length_le (by omega)]; rfl
      clear hd
      have hge : (zs.length : Int) ≤ (k : Int) := by omega
      go_wp2
      go_ret3
      rw [HD.out]
      exact ⟨rfl, rfl⟩
end Go.Proofs.YtalojcpgkgeofaaGreatDoor
