import Derived.Test.YtmfpdchfofffeaaGreatDoorPm
namespace Go.Proofs.YtmfpdchfofffeaaGreatDoor
open Go.RowKit Go.Shelf
set_option linter.unusedVariables false
/-- The word that stands at a place. -/
def wd18 (z : List Int) (at_ : Nat) : Int := unfL ((z.drop at_).take 4)
theorem wd18_bd {z : List Int} {at_ : Nat} (hb : ∀ t ∈ z, 0 ≤ t ∧ t ≤ 255) : 0 ≤ wd18 z at_ ∧ wd18 z at_ ≤ 4294967295 := by
  have h := unfL_pos ((z.drop at_).take 4) (fun t ht => hb t (List.mem_of_mem_drop (List.mem_of_mem_take ht)))
  have hl : ((z.drop at_).take 4).length ≤ 4 := by rw [List.length_take]; omega
  have h2 : (256 : Int) ^ ((z.drop at_).take 4).length ≤ 256 ^ 4 := by
    generalize ((z.drop at_).take 4).length = n at hl
    rcases (by omega : n = 0 ∨ n = 1 ∨ n = 2 ∨ n = 3 ∨ n = 4) with rfl | rfl | rfl | rfl | rfl <;> decide
  have h3 : (256 : Int) ^ 4 = 4294967296 := by decide
  unfold wd18
  omega
set_option maxRecDepth 100000 in
theorem pwd18_no (br : Nat) (za : Option Addr) (zn zc at_ : Nat) (w : World) (h : Rq18 w br za zn zc at_) (hl : zn ≤ 140737488355328) (hat : at_ ≤ zn) (hn : zn < at_ + 4) :
    Calls Tryz.prog 104 #[.pointer (some ⟨br, 0, none⟩)] w fun e w' => e = .panicked (pn18 182) ∧ Below w.heap.size w w' := by
  have T : Hid (Calls Tryz.prog 102 #[.pointer (some ⟨br, 0, none⟩), .int .i64 4] w fun e w' => e = .panicked (pn18 182) ∧ Below w.heap.size w w') := ptk18_no br 4 za zn zc at_ w h (by omega) hat hn
  clear h hl hat hn
  go_enter Tryz.func104, Tryz.ntmps104
  go_wp2_with fail
  refine T.out.mono ?_
  rintro e1 w1 ⟨rfl, b1⟩
  exact ⟨rfl, rfl, b1⟩
set_option maxRecDepth 100000 in
theorem pwd18 (br : Nat) (za : Option Addr) (zc : Nat) (z : List Int) (at_ : Nat) (w : World) (h : Rq18 w br za z.length zc at_) (hz : Seg w za z) (hzb : ∀ x off, za = some ⟨x, off, none⟩ → 0 < z.length → x ≠ br) (hl : z.length ≤ 140737488355328) (hc : z.length ≤ zc) (hn : at_ + 4 ≤ z.length) :
    Calls Tryz.prog 104 #[.pointer (some ⟨br, 0, none⟩)] w fun e w' => e = .returned (.int .u32 (wd18 z at_)) ∧ Rq18 w' br za z.length zc (at_ + 4) ∧ Kp (fun k => k = br) w w' := by
  have T : Hid (Calls Tryz.prog 102 #[.pointer (some ⟨br, 0, none⟩), .int .i64 4] w fun e w' => e = .returned (.slice (rs16 za zc at_) 4 (zc - at_)) ∧ Rq18 w' br za z.length zc (at_ + 4) ∧ Kp (fun k => k = br) w w') := ptk18 br 4 za z.length zc at_ w h (by omega) hc hn
  have hwb := wd18_bd (z := z) (at_ := at_) hz.mem
  have HU : Hid (∀ V, Kp (fun k => k = br) w V → Calls Tryz.prog 146 #[.slice (rs16 za zc at_) 4 (zc - at_), .int .i64 4] V fun e w' => e = .returned (.tuple #[.int .u64 (wd18 z at_), .int .i64 0]) ∧ w' = V) := fun V hV => by
    have sg : Seg V za z := hz.kp hV (fun x off e hp => hzb x off e hp)
    have s2 := ((seg_rs16 (c := zc) (d := at_) sg (by omega) hc).1).take 4
    have hln : ((z.drop at_).take 4).length = 4 := by rw [List.length_take, List.length_drop]; omega
    have U := unfix_any (rs16 za zc at_) ((z.drop at_).take 4) (zc - at_) 4 V s2 (by omega) (by omega)
    have hE : unfE ((z.drop at_).take 4) 4 = 0 := by unfold unfE; rw [if_pos (by omega), if_neg (by rw [hln]; decide)]
    have hV2 : unfV ((z.drop at_).take 4) 4 = wd18 z at_ := by
      unfold unfV
      rw [if_pos hE, show (4 : Int).toNat = 4 from rfl, List.take_of_length_le (Nat.le_of_eq hln)]
      rfl
    rw [hE, hV2, hln] at U
    exact U
  generalize wd18 z at_ = v at *
  have hw : IntKind.u32.wrap v = v := IntWalk.u32_in _ (by omega)
  clear h hz hzb hl hc hn
  generalize rs16 za zc at_ = ax at *
  generalize zc - at_ = ac at *
  go_enter Tryz.func104, Tryz.ntmps104
  go_wp2_with fail
  refine T.out.mono ?_
  rintro e1 w1 ⟨rfl, q1, k1⟩
  have U := HU.out w1 k1
  go_wp2_with fail
  refine U.mono ?_
  rintro e2 w2 ⟨rfl, hw2⟩
  subst w2
  go_wp2_with fail
  go_ret
  exact ⟨rfl, q1, k1⟩
end Go.Proofs.YtmfpdchfofffeaaGreatDoor

namespace Go.Proofs.YtmfpdchfofffeaaGreatDoor
open Go.RowKit Go.Shelf
set_option linter.unusedVariables false
set_option maxRecDepth 100000 in
set_option maxHeartbeats 2000000 in
theorem psm18_no (br : Nat) (za : Option Addr) (zn zc at_ : Nat) (w : World) (h : Rq18 w br za zn zc at_) (hl : zn ≤ 140737488355328) (hc : zn ≤ zc) (hat : at_ ≤ zn) (hn : zn < at_ + 4) :
    Calls Tryz.prog 105 #[.pointer (some ⟨br, 0, none⟩)] w fun e w' => e = .panicked (pn18 182) ∧ Below w.heap.size w w' := by
  have HS : Hid (w.drew.cell? ⟨br, 0, none⟩ = some (.slice za zn zc) ∧ w.drew.cell? ⟨br, 1, none⟩ = some (.int .i64 (at_ : Int))) := ⟨cell18 (W := w.drew) h rfl, cell18 (W := w.drew) h rfl⟩
  have W := pwd18_no br za zn zc at_ w.drew h hl hat hn
  have hai : (at_ : Int) ≤ (zc : Int) := by omega
  clear h hl hat hn hc
  go_enter Tryz.func105, Tryz.ntmps105
  go_wp2_with fail
  refine plain_region16 (fun V => V.cell? ⟨br, 0, none⟩ = some (.slice za zn zc) ∧ V.cell? ⟨br, 1, none⟩ = some (.int .i64 (at_ : Int))) 10 (by kernel_rfl) HS.out (fun hHeld => ?_)
  refine wpAnyK_take (i := 0) (v := .pointer (some ⟨br, 0, none⟩)) rfl (by kernel_rfl) (by kernel_rfl) (by kernel_rfl) (by kernel_rfl) (fun _ _ _ h => h) (Or.inl ⟨by rfl, fun w hSw => by go_simp⟩) hHeld ?_
  simp only [List.getElem_toArray, List.getElem_cons_zero, Act.put, List.setIfInBounds_toArray, List.set_cons_zero, List.set_cons_succ]
  refine wpAnyK_take (i := 1) (v := .pointer (some ⟨br, 0, none⟩)) rfl (by kernel_rfl) (by kernel_rfl) (by kernel_rfl) (by kernel_rfl) (fun _ _ _ h => h) (Or.inl ⟨by rfl, fun w hSw => by go_simp⟩) hHeld ?_
  simp only [List.getElem_toArray, List.getElem_cons_zero, List.getElem_cons_succ, Act.put, List.setIfInBounds_toArray, List.set_cons_zero, List.set_cons_succ]
  refine wpAnyK_take (i := 2) (v := .pointer (some ⟨br, 0, none⟩)) rfl (by kernel_rfl) (by kernel_rfl) (by kernel_rfl) (by kernel_rfl) (fun _ _ _ h => h) (Or.inl ⟨by rfl, fun w hSw => by go_simp⟩) hHeld ?_
  simp only [List.getElem_toArray, List.getElem_cons_zero, List.getElem_cons_succ, Act.put, List.setIfInBounds_toArray, List.set_cons_zero, List.set_cons_succ]
  refine wpAnyK_take (i := 3) (v := .slice za zn zc) rfl (by kernel_rfl) (by kernel_rfl) (by kernel_rfl) (by kernel_rfl) (fun _ _ _ h => h) (Or.inl ⟨by rfl, fun w hSw => by go_simp⟩) hHeld ?_
  simp only [List.getElem_toArray, List.getElem_cons_zero, List.getElem_cons_succ, Act.put, List.setIfInBounds_toArray, List.set_cons_zero, List.set_cons_succ]
  refine wpAnyK_take (i := 4) (v := .pointer (some ⟨br, 0, none⟩)) rfl (by kernel_rfl) (by kernel_rfl) (by kernel_rfl) (by kernel_rfl) (fun _ _ _ h => h) (Or.inl ⟨by rfl, fun w hSw => by go_simp⟩) hHeld ?_
  simp only [List.getElem_toArray, List.getElem_cons_zero, List.getElem_cons_succ, Act.put, List.setIfInBounds_toArray, List.set_cons_zero, List.set_cons_succ]
  refine wpAnyK_take (i := 5) (v := .pointer (some ⟨br, 0, none⟩)) rfl (by kernel_rfl) (by kernel_rfl) (by kernel_rfl) (by kernel_rfl) (fun _ _ _ h => h) (Or.inl ⟨by rfl, fun w hSw => by go_simp⟩) hHeld ?_
  simp only [List.getElem_toArray, List.getElem_cons_zero, List.getElem_cons_succ, Act.put, List.setIfInBounds_toArray, List.set_cons_zero, List.set_cons_succ]
  refine wpAnyK_take (i := 6) (v := .pointer (some ⟨br, 1, none⟩)) rfl (by kernel_rfl) (by kernel_rfl) (by kernel_rfl) (by kernel_rfl) (fun _ _ _ h => h) (Or.inl ⟨by rfl, fun w hSw => by go_simp⟩) hHeld ?_
  simp only [List.getElem_toArray, List.getElem_cons_zero, List.getElem_cons_succ, Act.put, List.setIfInBounds_toArray, List.set_cons_zero, List.set_cons_succ]
  refine wpAnyK_take (i := 7) (v := .int .i64 (at_ : Int)) rfl (by kernel_rfl) (by kernel_rfl) (by kernel_rfl) (by kernel_rfl) (fun _ _ _ h => h) (Or.inl ⟨by rfl, fun w hSw => by go_simp⟩) hHeld ?_
  simp only [List.getElem_toArray, List.getElem_cons_zero, List.getElem_cons_succ, Act.put, List.setIfInBounds_toArray, List.set_cons_zero, List.set_cons_succ]
  refine wpAnyK_take (i := 8) (v := .slice za at_ zc) rfl (by kernel_rfl) (by kernel_rfl) (by kernel_rfl) (by kernel_rfl) (fun _ _ _ h => h) (Or.inl ⟨by rfl, fun w hSw => by go_simp⟩) hHeld ?_
  simp only [List.getElem_toArray, List.getElem_cons_zero, List.getElem_cons_succ, Act.put, List.setIfInBounds_toArray, List.set_cons_zero, List.set_cons_succ]
  refine wpAnyK_one (i := 9) (by kernel_rfl) rfl (fun K hK => ?_)
  (try simp only [List.getElem_toArray, List.getElem_cons_zero, List.getElem_cons_succ, Act.put, List.setIfInBounds_toArray, List.set_cons_zero, List.set_cons_succ])
  go_simp
  refine hK.out _ _ (fun _ => HS.out) (fun hHeld0 => ?_)
  clear hHeld0 hK K
  (try simp only [List.getElem_toArray, List.getElem_cons_zero, List.getElem_cons_succ, Act.put, List.setIfInBounds_toArray, List.set_cons_zero, List.set_cons_succ])
  refine wpAnyK_done (by kernel_rfl) ?_ _
  go_wp2_with fail
  refine W.mono ?_
  rintro e1 w1 ⟨rfl, b1⟩
  exact ⟨rfl, rfl, (Below.refl _ _).drew.trans (b1.mono (Nat.le_refl _))⟩
/-- Is the sum right? -/
def Su18 (z : List Int) (at_ : Nat) : Prop := wd18 z at_ = wI (sumW (z.take at_))
set_option maxRecDepth 100000 in
set_option maxHeartbeats 4000000 in
theorem psm18 (br : Nat) (za : Option Addr) (zc : Nat) (z : List Int) (at_ : Nat) (w : World) (ht : Tab w) (hbr : br ≠ 0) (h : Rq18 w br za z.length zc at_) (hz : Seg w za z) (hzb : ∀ x off, za = some ⟨x, off, none⟩ → 0 < z.length → x ≠ br) (hl : z.length ≤ 140737488355328) (hc : z.length ≤ zc) (hn : at_ + 4 ≤ z.length) (hs : Su18 z at_) :
    Calls Tryz.prog 105 #[.pointer (some ⟨br, 0, none⟩)] w fun e w' => e = .returned (.tuple #[]) ∧ Rq18 w' br za z.length zc (at_ + 4) ∧ Kp (fun k => k = br) w w' := by
  obtain ⟨zn, hzn⟩ : ∃ zn, zn = z.length := ⟨_, rfl⟩
  have HS : Hid (w.drew.cell? ⟨br, 0, none⟩ = some (.slice za zn zc) ∧ w.drew.cell? ⟨br, 1, none⟩ = some (.int .i64 (at_ : Int))) := by rw [hzn]; exact ⟨cell18 (W := w.drew) h rfl, cell18 (W := w.drew) h rfl⟩
  have W := pwd18 br za zc z at_ w.drew h hz.drew hzb hl hc hn
  have hai : (at_ : Int) ≤ (zc : Int) := by omega
  have HSM : Hid (∀ V, Kp (fun k => k = br) w V → Calls Tryz.prog 28 #[.slice (some ⟨V.heap.size, 0, none⟩) 1 1] (V.alloc (.cells #[.slice za at_ zc] 36)) fun e w' => e = .returned (.int .u32 (wI (sumW (z.take at_)))) ∧ w' = V.alloc (.cells #[.slice za at_ zc] 36)) := fun V hV => by
    have sg : Seg V za z := hz.kp hV (fun x off e hp => hzb x off e hp)
    have tb : Tab V := SegK.kp ht hV (fun x off e hp => by cases e; exact fun x => hbr x.symm)
    exact sum_one V V.heap.size at_ za (z.take at_) zc 1 36 tb (sg.take at_) rfl (by rw [List.length_take]; omega) (by rw [List.length_take]; omega)
  unfold Su18 at hs
  rw [← hzn] at W
  (try rw [← hzn])
  generalize wd18 z at_ = a at *
  generalize wI (sumW (z.take at_)) = b at *
  clear h hz hzb hl hc hn ht hbr hzn
  subst hs
  go_enter Tryz.func105, Tryz.ntmps105
  go_wp2_with fail
  refine plain_region16 (fun V => V.cell? ⟨br, 0, none⟩ = some (.slice za zn zc) ∧ V.cell? ⟨br, 1, none⟩ = some (.int .i64 (at_ : Int))) 10 (by kernel_rfl) HS.out (fun hHeld => ?_)
  refine wpAnyK_take (i := 0) (v := .pointer (some ⟨br, 0, none⟩)) rfl (by kernel_rfl) (by kernel_rfl) (by kernel_rfl) (by kernel_rfl) (fun _ _ _ h => h) (Or.inl ⟨by rfl, fun w hSw => by go_simp⟩) hHeld ?_
  simp only [List.getElem_toArray, List.getElem_cons_zero, Act.put, List.setIfInBounds_toArray, List.set_cons_zero, List.set_cons_succ]
  refine wpAnyK_take (i := 1) (v := .pointer (some ⟨br, 0, none⟩)) rfl (by kernel_rfl) (by kernel_rfl) (by kernel_rfl) (by kernel_rfl) (fun _ _ _ h => h) (Or.inl ⟨by rfl, fun w hSw => by go_simp⟩) hHeld ?_
  simp only [List.getElem_toArray, List.getElem_cons_zero, List.getElem_cons_succ, Act.put, List.setIfInBounds_toArray, List.set_cons_zero, List.set_cons_succ]
  refine wpAnyK_take (i := 2) (v := .pointer (some ⟨br, 0, none⟩)) rfl (by kernel_rfl) (by kernel_rfl) (by kernel_rfl) (by kernel_rfl) (fun _ _ _ h => h) (Or.inl ⟨by rfl, fun w hSw => by go_simp⟩) hHeld ?_
  simp only [List.getElem_toArray, List.getElem_cons_zero, List.getElem_cons_succ, Act.put, List.setIfInBounds_toArray, List.set_cons_zero, List.set_cons_succ]
  refine wpAnyK_take (i := 3) (v := .slice za zn zc) rfl (by kernel_rfl) (by kernel_rfl) (by kernel_rfl) (by kernel_rfl) (fun _ _ _ h => h) (Or.inl ⟨by rfl, fun w hSw => by go_simp⟩) hHeld ?_
  simp only [List.getElem_toArray, List.getElem_cons_zero, List.getElem_cons_succ, Act.put, List.setIfInBounds_toArray, List.set_cons_zero, List.set_cons_succ]
  refine wpAnyK_take (i := 4) (v := .pointer (some ⟨br, 0, none⟩)) rfl (by kernel_rfl) (by kernel_rfl) (by kernel_rfl) (by kernel_rfl) (fun _ _ _ h => h) (Or.inl ⟨by rfl, fun w hSw => by go_simp⟩) hHeld ?_
  simp only [List.getElem_toArray, List.getElem_cons_zero, List.getElem_cons_succ, Act.put, List.setIfInBounds_toArray, List.set_cons_zero, List.set_cons_succ]
  refine wpAnyK_take (i := 5) (v := .pointer (some ⟨br, 0, none⟩)) rfl (by kernel_rfl) (by kernel_rfl) (by kernel_rfl) (by kernel_rfl) (fun _ _ _ h => h) (Or.inl ⟨by rfl, fun w hSw => by go_simp⟩) hHeld ?_
  simp only [List.getElem_toArray, List.getElem_cons_zero, List.getElem_cons_succ, Act.put, List.setIfInBounds_toArray, List.set_cons_zero, List.set_cons_succ]
  refine wpAnyK_take (i := 6) (v := .pointer (some ⟨br, 1, none⟩)) rfl (by kernel_rfl) (by kernel_rfl) (by kernel_rfl) (by kernel_rfl) (fun _ _ _ h => h) (Or.inl ⟨by rfl, fun w hSw => by go_simp⟩) hHeld ?_
  simp only [List.getElem_toArray, List.getElem_cons_zero, List.getElem_cons_succ, Act.put, List.setIfInBounds_toArray, List.set_cons_zero, List.set_cons_succ]
  refine wpAnyK_take (i := 7) (v := .int .i64 (at_ : Int)) rfl (by kernel_rfl) (by kernel_rfl) (by kernel_rfl) (by kernel_rfl) (fun _ _ _ h => h) (Or.inl ⟨by rfl, fun w hSw => by go_simp⟩) hHeld ?_
  simp only [List.getElem_toArray, List.getElem_cons_zero, List.getElem_cons_succ, Act.put, List.setIfInBounds_toArray, List.set_cons_zero, List.set_cons_succ]
  refine wpAnyK_take (i := 8) (v := .slice za at_ zc) rfl (by kernel_rfl) (by kernel_rfl) (by kernel_rfl) (by kernel_rfl) (fun _ _ _ h => h) (Or.inl ⟨by rfl, fun w hSw => by go_simp⟩) hHeld ?_
  simp only [List.getElem_toArray, List.getElem_cons_zero, List.getElem_cons_succ, Act.put, List.setIfInBounds_toArray, List.set_cons_zero, List.set_cons_succ]
  refine wpAnyK_one (i := 9) (by kernel_rfl) rfl (fun K hK => ?_)
  (try simp only [List.getElem_toArray, List.getElem_cons_zero, List.getElem_cons_succ, Act.put, List.setIfInBounds_toArray, List.set_cons_zero, List.set_cons_succ])
  go_simp
  refine hK.out _ _ (fun _ => HS.out) (fun hHeld0 => ?_)
  clear hHeld0 hK K
  (try simp only [List.getElem_toArray, List.getElem_cons_zero, List.getElem_cons_succ, Act.put, List.setIfInBounds_toArray, List.set_cons_zero, List.set_cons_succ])
  refine wpAnyK_done (by kernel_rfl) ?_ _
  go_wp2_with fail
  refine W.mono ?_
  rintro e1 w1 ⟨rfl, q1, k1⟩
  have k1' : Kp (fun k => k = br) w w1 := (Kp.of_below ((Below.refl _ _).drew)).trans k1 (fun _ _ x => x)
  have SM := HSM.out w1 k1'
  have HKA : Hid (Kp (fun k => k = br) w (w1.alloc (.cells #[.slice za at_ zc] 36))) := k1'.trans (Kp.alloc w1 _) (fun _ _ x => x)
  have HQA : Hid (Rq18 (w1.alloc (.cells #[.slice za at_ zc] 36)) br za zn zc (at_ + 4)) := (((Below.refl _ _).alloc (Nat.le_refl _) _).block _ (Array.getElem?_eq_some_iff.1 q1).1).trans q1
  clear q1 k1 k1'
  go_wp2_with fail
  refine SM.mono ?_
  rintro e2 w2 ⟨rfl, hw2⟩
  subst w2
  go_wp2_with fail
  go_end0
  exact ⟨rfl, HQA.out, HKA.out⟩
set_option maxRecDepth 100000 in
set_option maxHeartbeats 4000000 in
theorem psm18_bad (br : Nat) (za : Option Addr) (zc : Nat) (z : List Int) (at_ : Nat) (w : World) (ht : Tab w) (hbr : br ≠ 0) (h : Rq18 w br za z.length zc at_) (hz : Seg w za z) (hzb : ∀ x off, za = some ⟨x, off, none⟩ → 0 < z.length → x ≠ br) (hl : z.length ≤ 140737488355328) (hc : z.length ≤ zc) (hn : at_ + 4 ≤ z.length) (hs : ¬ Su18 z at_) :
    Calls Tryz.prog 105 #[.pointer (some ⟨br, 0, none⟩)] w fun e w' => e = .panicked (pn18 183) ∧ Kp (fun k => k = br) w w' := by
  obtain ⟨zn, hzn⟩ : ∃ zn, zn = z.length := ⟨_, rfl⟩
  have HS : Hid (w.drew.cell? ⟨br, 0, none⟩ = some (.slice za zn zc) ∧ w.drew.cell? ⟨br, 1, none⟩ = some (.int .i64 (at_ : Int))) := by rw [hzn]; exact ⟨cell18 (W := w.drew) h rfl, cell18 (W := w.drew) h rfl⟩
  have W := pwd18 br za zc z at_ w.drew h hz.drew hzb hl hc hn
  have hai : (at_ : Int) ≤ (zc : Int) := by omega
  have HSM : Hid (∀ V, Kp (fun k => k = br) w V → Calls Tryz.prog 28 #[.slice (some ⟨V.heap.size, 0, none⟩) 1 1] (V.alloc (.cells #[.slice za at_ zc] 36)) fun e w' => e = .returned (.int .u32 (wI (sumW (z.take at_)))) ∧ w' = V.alloc (.cells #[.slice za at_ zc] 36)) := fun V hV => by
    have sg : Seg V za z := hz.kp hV (fun x off e hp => hzb x off e hp)
    have tb : Tab V := SegK.kp ht hV (fun x off e hp => by cases e; exact fun x => hbr x.symm)
    exact sum_one V V.heap.size at_ za (z.take at_) zc 1 36 tb (sg.take at_) rfl (by rw [List.length_take]; omega) (by rw [List.length_take]; omega)
  unfold Su18 at hs
  rw [← hzn] at W
  (try rw [← hzn])
  generalize wd18 z at_ = a at *
  generalize wI (sumW (z.take at_)) = b at *
  clear h hz hzb hl hc hn ht hbr hzn
  have hs2 : (a != b) = true := by simp [hs]
  go_enter Tryz.func105, Tryz.ntmps105
  go_wp2_with fail
  refine plain_region16 (fun V => V.cell? ⟨br, 0, none⟩ = some (.slice za zn zc) ∧ V.cell? ⟨br, 1, none⟩ = some (.int .i64 (at_ : Int))) 10 (by kernel_rfl) HS.out (fun hHeld => ?_)
  refine wpAnyK_take (i := 0) (v := .pointer (some ⟨br, 0, none⟩)) rfl (by kernel_rfl) (by kernel_rfl) (by kernel_rfl) (by kernel_rfl) (fun _ _ _ h => h) (Or.inl ⟨by rfl, fun w hSw => by go_simp⟩) hHeld ?_
  simp only [List.getElem_toArray, List.getElem_cons_zero, Act.put, List.setIfInBounds_toArray, List.set_cons_zero, List.set_cons_succ]
  refine wpAnyK_take (i := 1) (v := .pointer (some ⟨br, 0, none⟩)) rfl (by kernel_rfl) (by kernel_rfl) (by kernel_rfl) (by kernel_rfl) (fun _ _ _ h => h) (Or.inl ⟨by rfl, fun w hSw => by go_simp⟩) hHeld ?_
  simp only [List.getElem_toArray, List.getElem_cons_zero, List.getElem_cons_succ, Act.put, List.setIfInBounds_toArray, List.set_cons_zero, List.set_cons_succ]
  refine wpAnyK_take (i := 2) (v := .pointer (some ⟨br, 0, none⟩)) rfl (by kernel_rfl) (by kernel_rfl) (by kernel_rfl) (by kernel_rfl) (fun _ _ _ h => h) (Or.inl ⟨by rfl, fun w hSw => by go_simp⟩) hHeld ?_
  simp only [List.getElem_toArray, List.getElem_cons_zero, List.getElem_cons_succ, Act.put, List.setIfInBounds_toArray, List.set_cons_zero, List.set_cons_succ]
  refine wpAnyK_take (i := 3) (v := .slice za zn zc) rfl (by kernel_rfl) (by kernel_rfl) (by kernel_rfl) (by kernel_rfl) (fun _ _ _ h => h) (Or.inl ⟨by rfl, fun w hSw => by go_simp⟩) hHeld ?_
  simp only [List.getElem_toArray, List.getElem_cons_zero, List.getElem_cons_succ, Act.put, List.setIfInBounds_toArray, List.set_cons_zero, List.set_cons_succ]
  refine wpAnyK_take (i := 4) (v := .pointer (some ⟨br, 0, none⟩)) rfl (by kernel_rfl) (by kernel_rfl) (by kernel_rfl) (by kernel_rfl) (fun _ _ _ h => h) (Or.inl ⟨by rfl, fun w hSw => by go_simp⟩) hHeld ?_
  simp only [List.getElem_toArray, List.getElem_cons_zero, List.getElem_cons_succ, Act.put, List.setIfInBounds_toArray, List.set_cons_zero, List.set_cons_succ]
  refine wpAnyK_take (i := 5) (v := .pointer (some ⟨br, 0, none⟩)) rfl (by kernel_rfl) (by kernel_rfl) (by kernel_rfl) (by kernel_rfl) (fun _ _ _ h => h) (Or.inl ⟨by rfl, fun w hSw => by go_simp⟩) hHeld ?_
  simp only [List.getElem_toArray, List.getElem_cons_zero, List.getElem_cons_succ, Act.put, List.setIfInBounds_toArray, List.set_cons_zero, List.set_cons_succ]
  refine wpAnyK_take (i := 6) (v := .pointer (some ⟨br, 1, none⟩)) rfl (by kernel_rfl) (by kernel_rfl) (by kernel_rfl) (by kernel_rfl) (fun _ _ _ h => h) (Or.inl ⟨by rfl, fun w hSw => by go_simp⟩) hHeld ?_
  simp only [List.getElem_toArray, List.getElem_cons_zero, List.getElem_cons_succ, Act.put, List.setIfInBounds_toArray, List.set_cons_zero, List.set_cons_succ]
  refine wpAnyK_take (i := 7) (v := .int .i64 (at_ : Int)) rfl (by kernel_rfl) (by kernel_rfl) (by kernel_rfl) (by kernel_rfl) (fun _ _ _ h => h) (Or.inl ⟨by rfl, fun w hSw => by go_simp⟩) hHeld ?_
  simp only [List.getElem_toArray, List.getElem_cons_zero, List.getElem_cons_succ, Act.put, List.setIfInBounds_toArray, List.set_cons_zero, List.set_cons_succ]
  refine wpAnyK_take (i := 8) (v := .slice za at_ zc) rfl (by kernel_rfl) (by kernel_rfl) (by kernel_rfl) (by kernel_rfl) (fun _ _ _ h => h) (Or.inl ⟨by rfl, fun w hSw => by go_simp⟩) hHeld ?_
  simp only [List.getElem_toArray, List.getElem_cons_zero, List.getElem_cons_succ, Act.put, List.setIfInBounds_toArray, List.set_cons_zero, List.set_cons_succ]
  refine wpAnyK_one (i := 9) (by kernel_rfl) rfl (fun K hK => ?_)
  (try simp only [List.getElem_toArray, List.getElem_cons_zero, List.getElem_cons_succ, Act.put, List.setIfInBounds_toArray, List.set_cons_zero, List.set_cons_succ])
  go_simp
  refine hK.out _ _ (fun _ => HS.out) (fun hHeld0 => ?_)
  clear hHeld0 hK K
  (try simp only [List.getElem_toArray, List.getElem_cons_zero, List.getElem_cons_succ, Act.put, List.setIfInBounds_toArray, List.set_cons_zero, List.set_cons_succ])
  refine wpAnyK_done (by kernel_rfl) ?_ _
  go_wp2_with fail
  refine W.mono ?_
  rintro e1 w1 ⟨rfl, q1, k1⟩
  have k1' : Kp (fun k => k = br) w w1 := (Kp.of_below ((Below.refl _ _).drew)).trans k1 (fun _ _ x => x)
  have SM := HSM.out w1 k1'
  have HKA : Hid (Kp (fun k => k = br) w (w1.alloc (.cells #[.slice za at_ zc] 36))) := k1'.trans (Kp.alloc w1 _) (fun _ _ x => x)
  have HQA : Hid (Rq18 (w1.alloc (.cells #[.slice za at_ zc] 36)) br za zn zc (at_ + 4)) := (((Below.refl _ _).alloc (Nat.le_refl _) _).block _ (Array.getElem?_eq_some_iff.1 q1).1).trans q1
  clear q1 k1 k1'
  go_wp2_with fail
  refine SM.mono ?_
  rintro e2 w2 ⟨rfl, hw2⟩
  subst w2
  go_wp2_with fail
  exact ⟨rfl, rfl, HKA.out⟩
end Go.Proofs.YtmfpdchfofffeaaGreatDoor

namespace Go.Proofs.YtmfpdchfofffeaaGreatDoor
open Go.RowKit Go.Shelf
set_option linter.unusedVariables false
/-- Where the i-th number stands; what it is. -/
def pl18 (z : List Int) (at_ : Nat) : Nat → Nat
  | 0 => at_
  | i + 1 => pl18 z at_ i + (decL 0 0 (z.drop (pl18 z at_ i))).2.1.toNat
def vl18 (z : List Int) (at_ : Nat) (i : Nat) : Int := (decL 0 0 (z.drop (pl18 z at_ i))).1
def lo18 : Nat → Int
  | 2 => 64
  | 3 => 1
  | _ => 0
def hi18 : Nat → Int
  | 2 => 65536
  | 3 => 32768
  | _ => 16777216
def Nj18 (z : List Int) (at_ : Nat) (i : Nat) : Prop := ∀ j, j < i → No18 z (pl18 z at_ j) (lo18 j) (hi18 j)
def hp18 (z : List Int) (at_ : Nat) (i : Nat) : Hd18 := ⟨if 0 < i then vl18 z at_ 0 else 0, if 1 < i then vl18 z at_ 1 else 0, 0, 0, if 2 < i then vl18 z at_ 2 else 0, if 3 < i then vl18 z at_ 3 else 0⟩
theorem decL_k18 {b : List Int} (hz : ∀ t ∈ b, 0 ≤ t ∧ t ≤ 255) (h : (decL 0 0 b).2.2 = 0) : (decL 0 0 b).2.1 = ((decL 0 0 b).2.1.toNat : Int) ∧ (decL 0 0 b).2.1.toNat ≤ b.length := by
  have key : ∀ (zs : List Int) (v : Int) (c : Nat), (decL v c zs).2.2 = 0 → ∃ k : Nat, (decL v c zs).2.1 = (c : Int) + k ∧ k ≤ zs.length := by
    intro zs
    induction zs with
    | nil => intro v c h; simp [decL] at h
    | cons x r ih =>
      intro v c h
      unfold decL at h ⊢
      by_cases h1 : tkErr c x ≠ 0
      · rw [if_pos h1] at h; exact absurd h h1
      · rw [if_neg h1] at h ⊢
        by_cases h2 : x < 128
        · rw [if_pos h2]; exact ⟨1, rfl, by simp⟩
        · rw [if_neg h2] at h ⊢
          obtain ⟨k, e1, e2⟩ := ih (tkVal v c x) (c + 1) h
          exact ⟨k + 1, by rw [e1]; omega, by simp; omega⟩
  obtain ⟨k, e1, e2⟩ := key b 0 0 h
  rw [e1]
  omega
theorem kp_drop18 {w w' : World} {br bo : Nat} (h : Kp (fun k => k = br ∨ k = bo) w w') (hb : w.heap.size ≤ bo) : Kp (fun k => k = br) w w' :=
  ⟨h.os, h.tape, h.output, h.size, fun k hk hn => h.block k hk (fun x => by rcases x with x | x; exact hn x; omega)⟩
def RdQ18 (w : World) (br : Nat) (za : Option Addr) (zc : Nat) (z : List Int) (at_ : Nat) (e : Ending) (w' : World) : Prop :=
  (Nj18 z at_ 4 ∧ e = .returned (.agg (hp18 z at_ 4).cs) ∧ Rq18 w' br za z.length zc (pl18 z at_ 4) ∧ pl18 z at_ 4 ≤ z.length ∧ Kp (fun k => k = br) w w') ∨ (¬ Nj18 z at_ 4 ∧ e = .panicked (pn18 182) ∧ Kp (fun k => k = br) w w')
/-- Between two numbers. -/
structure Rl18 (w : World) (br bo : Nat) (za : Option Addr) (zc : Nat) (z : List Int) (at_ i : Nat) (V : World) : Prop where
  nj : Nj18 z at_ i
  pl : pl18 z at_ i ≤ z.length
  ob : V.heap[bo]? = some (.cells (hp18 z at_ i).cs 51 (0, 0))
  rq : Rq18 V br za z.length zc (pl18 z at_ i)
  kp : Kp (fun k => k = br ∨ k = bo) w V
set_option maxRecDepth 100000 in
set_option maxHeartbeats 16000000 in
theorem prd18 (B br : Nat) (za : Option Addr) (zc : Nat) (z : List Int) (at_ : Nat) (w : World) (hF : Fl18 B w) (hFb : br < B) (h : Rq18 w br za z.length zc at_) (hz : Seg w za z) (hzb : ∀ x off, za = some ⟨x, off, none⟩ → 0 < z.length → x ≠ br) (hl : z.length ≤ 140737488355328) (hc : z.length ≤ zc) (hat : at_ ≤ z.length) :
    Calls Tryz.prog 103 #[.pointer (some ⟨br, 0, none⟩), .slice (some ⟨B + 8, 0, none⟩) 4 4] w (RdQ18 w br za zc z at_) := by
  have z0 : (hp18 z at_ 0).cs = #[.int .i64 0, .int .i64 0, .int .u32 0, .int .u32 0, .int .i64 0, .int .i64 0] := rfl
  obtain ⟨wA, b4, X⟩ := bx18 w ⟨0, 0, 0, 0, 0, 0⟩
  obtain ⟨wB, bo, Y⟩ := bx18 wA ⟨0, 0, 0, 0, 0, 0⟩
  have eA : w.alloc (.cells #[.int .i64 0, .int .i64 0, .int .u32 0, .int .u32 0, .int .i64 0, .int .i64 0] 51) = wA := X.wa
  have eB : wA.alloc (.cells #[.int .i64 0, .int .i64 0, .int .u32 0, .int .u32 0, .int .i64 0, .int .i64 0] 51) = wB := Y.wa
  have hb4 : w.heap.size = b4 := X.b
  have hbo : b4 + 1 = bo := by have := X.sz; have := Y.b; omega
  have hbl : Below w.heap.size w wB := X.bl.trans (Y.bl.mono X.bl.size)
  have HK0 : Hid (∀ V, Kp (fun k => k = br ∨ k = bo) wB V → Kp (fun k => k = br) w V) := fun V hV => kp_drop18 ((Kp.of_below hbl).trans hV (fun _ _ x => x)) (by omega)
  have hbrw : br < w.heap.size := (Array.getElem?_eq_some_iff.1 h).1
  have hFBw : B + 8 < w.heap.size := (Array.getElem?_eq_some_iff.1 hF.fl).1
  have HR0 : Hid (Rl18 wB br bo za zc z at_ 0 wB) := ⟨fun j hj => by omega, hat, Y.q, (hbl.block _ hbrw).trans h, ⟨rfl, rfl, rfl, Nat.le_refl _, fun _ _ _ => rfl⟩⟩
  have HFK : Hid (∀ V, Kp (fun k => k = br ∨ k = bo) wB V → Fl18 B V) := fun V hV => by
    have f := hF.old hbl
    exact ⟨hV.heap f.fl (fun x => by rcases x with x | x <;> omega), fun k hk => hV.heap (f.bx k hk) (fun x => by rcases x with x | x <;> omega)⟩
  have HSG : Hid (∀ V, Kp (fun k => k = br ∨ k = bo) wB V → Seg V za z) := fun V hV => (hz.old hbl).kp hV (fun x off e hp y => by
    rcases y with y | y
    · exact hzb x off e hp y
    · have := hz.lt x off e hp; omega)
  have hq4 : wB.heap[b4]? = some (.cells #[.int .i64 0, .int .i64 0, .int .u32 0, .int .u32 0, .int .i64 0, .int .i64 0] 51 (0, 0)) := (Y.bl.block _ (Array.getElem?_eq_some_iff.1 X.q).1).trans X.q
  have H4 : Hid (∀ V, Kp (fun k => k = br ∨ k = bo) wB V → V.heap[b4]? = some (.cells #[.int .i64 0, .int .i64 0, .int .u32 0, .int .u32 0, .int .i64 0, .int .i64 0] 51 (0, 0))) := fun V hV => hV.heap hq4 (fun x => by rcases x with x | x <;> omega)
  have HNB : Hid (br ≠ bo ∧ b4 ≠ bo ∧ b4 ≠ br) := ⟨by omega, by omega, by omega⟩
  have HL : Hid (z.length ≤ 140737488355328 ∧ z.length ≤ zc) := ⟨hl, hc⟩
  have HWA : Hid (w.alloc (.cells #[.int .i64 0, .int .i64 0, .int .u32 0, .int .u32 0, .int .i64 0, .int .i64 0] 51) = wA) := eA
  have HWB : Hid (wA.alloc (.cells #[.int .i64 0, .int .i64 0, .int .u32 0, .int .u32 0, .int .i64 0, .int .i64 0] 51) = wB) := eB
  have HB4 : Hid (w.heap.size = b4 ∧ b4 + 1 = bo) := ⟨hb4, hbo⟩
  clear X Y eA eB hb4 hbo hbl hbrw hFBw hF hFb h hz hzb hl hc hat hq4 z0
  go_enter Tryz.func103, Tryz.ntmps103
  go_wp2_with fail
  rw [HWA.out, HWB.out, HB4.out.1, HB4.out.2]
  go_loopw [12] (fun t12 V => ∃ i : Nat, i ≤ 4 ∧ t12 = .int .i64 (i : Int) ∧ Rl18 wB br bo za zc z at_ i V) (fun t12 _ => 4 - (intOf t12).toNat)
  case atStart => exact ⟨0, by omega, rfl, HR0.out⟩
  case round =>
    obtain ⟨i, hi4, rfl, hR⟩ := hrel
    have HR : Hid (Rl18 wB br bo za zc z at_ i wr) := hR
    have hFl := HFK.out wr hR.kp
    clear hR HR0
    rcases (by omega : i = 0 ∨ i = 1 ∨ i = 2 ∨ i = 3 ∨ i = 4) with rfl | rfl | rfl | rfl | rfl
    · have f0 : wr.cell? ⟨B + 8, 0, none⟩ = some (.func (.func 126) #[] #[]) := cell18 hFl.fl rfl
      have f1 : wr.cell? ⟨B + 8, 1, none⟩ = some (.func (.func 167) #[] #[.pointer (some ⟨B, 0, none⟩), .pointer (some ⟨B + 1, 0, none⟩)]) := cell18 hFl.fl rfl
      obtain ⟨wC, hwC⟩ : ∃ wC, wC = wr.alloc (.cells #[.func (.func 126) #[] #[], .func (.func 167) #[] #[.pointer (some ⟨B, 0, none⟩), .pointer (some ⟨B + 1, 0, none⟩)]] 202) := ⟨_, rfl⟩
      have cB := cb16 wr #[.func (.func 126) #[] #[], .func (.func 167) #[] #[.pointer (some ⟨B, 0, none⟩), .pointer (some ⟨B + 1, 0, none⟩)]] 202
      rw [← hwC] at cB
      obtain ⟨bs, hbs⟩ : ∃ bs, bs = wr.heap.size := ⟨_, rfl⟩
      have HKC : Hid (∀ V, Below wC.heap.size wC V → Kp (fun k => k = br ∨ k = bo) wB V) := fun V hV => (HR.out.kp.trans (Kp.of_below cB.bl) (fun _ _ x => x)).trans (Kp.of_below hV) (fun _ _ x => x)
      have HCB : Hid (∀ V, Below wC.heap.size wC V → V.cell? ⟨bs, 0, none⟩ = some (.func (.func 126) #[] #[]) ∧ V.cell? ⟨bs, 1, none⟩ = some (.func (.func 167) #[] #[.pointer (some ⟨B, 0, none⟩), .pointer (some ⟨B + 1, 0, none⟩)])) := fun V hV => by
        have q0 := cB.cl
        rw [← hbs] at q0
        have q := (hV.block bs (by have := cB.sz; omega)).trans q0
        exact ⟨cell18 q rfl, cell18 q rfl⟩
      have HOB : Hid (∀ V, Below wC.heap.size wC V → V.heap[bo]? = some (.cells (hp18 z at_ 0).cs 51 (0, 0)) ∧ Rq18 V br za z.length zc (pl18 z at_ 0)) := fun V hV => by
        have b2 := cB.bl.trans (hV.mono cB.bl.size)
        exact ⟨(b2.block _ (Array.getElem?_eq_some_iff.1 HR.out.ob).1).trans HR.out.ob, (b2.block _ (Array.getElem?_eq_some_iff.1 HR.out.rq).1).trans HR.out.rq⟩
      have hFB := HFK.out wC (HKC.out wC (Below.refl _ _))
      have CB := pbt18 (B) (B + 1) (.pointer (some ⟨bo, 0, none⟩)) 0 16777216 wC (hFB.bx 0 (by omega)) (hFB.bx 1 (by omega))
      have HWC : Hid (wr.alloc (.cells #[.func (.func 126) #[] #[], .func (.func 167) #[] #[.pointer (some ⟨B, 0, none⟩), .pointer (some ⟨B + 1, 0, none⟩)]] 202) = wC) := hwC.symm
      have HBS : Hid (wr.heap.size = bs) := hbs.symm
      clear hwC cB hbs hFl hFB
      go_wp2_with fail
      rw [HWC.out, HBS.out]
      refine CB.mono ?_
      rintro e1 w1 ⟨rfl, b1⟩
      have HB1 : Hid (Below wC.heap.size wC w1) := b1
      obtain ⟨g0, g1⟩ := HCB.out w1 b1
      obtain ⟨qo, qr⟩ := HOB.out w1 b1
      have CA := phf18_1 bo w1 ⟨_, cell18 (k := 0) qo rfl⟩
      have HQO : Hid (w1.heap[bo]? = some (.cells (hp18 z at_ 0).cs 51 (0, 0))) := qo
      by_cases hno : No18 z (pl18 z at_ 0) 0 16777216
      · have hk := decL_k18 (b := z.drop (pl18 z at_ 0)) (fun t ht => (HSG.out w1 (HKC.out w1 HB1.out)).mem t (List.mem_of_mem_drop ht)) hno.1
        have hkl : pl18 z at_ 1 ≤ z.length := by
          have h2 : (decL 0 0 (z.drop (pl18 z at_ 0))).2.1.toNat ≤ z.length - pl18 z at_ 0 := Nat.le_trans hk.2 (Nat.le_of_eq List.length_drop)
          have h4 : pl18 z at_ 1 = pl18 z at_ 0 + (decL 0 0 (z.drop (pl18 z at_ 0))).2.1.toNat := rfl
          have h5 := HR.out.pl
          rw [h4]
          generalize (decL 0 0 (z.drop (pl18 z at_ 0))).2.1.toNat = kk at *
          generalize pl18 z at_ 0 = pp at *
          omega
        have NB := pnb18 br za zc z (pl18 z at_ 0) 0 16777216 _ w1 qr (HSG.out w1 (HKC.out w1 HB1.out)) HL.out.1 HL.out.2 HR.out.pl (by omega) (by omega) hno hk.1 hkl
        have NB : Hid (Calls Tryz.prog 145 #[.pointer (some ⟨br, 0, none⟩), .int .i64 0, .int .i64 16777216] w1 fun e w' => e = .returned (.int .i64 (vl18 z at_ 0)) ∧ Rq18 w' br za z.length zc (pl18 z at_ 1) ∧ Kp (fun x => x = br) w1 w') := NB
        have HNJ : Hid (Nj18 z at_ 1) := fun j hj => by
          by_cases hji : j < 0
          · exact HR.out.nj j hji
          · have : j = 0 := by omega
            subst this
            exact hno
        have HPL : Hid (pl18 z at_ 1 ≤ z.length) := hkl
        clear b1 CB f0 f1 qo qr hno hk hkl
        go_wp2_with fail
        refine CA.mono ?_
        rintro e2 w2 ⟨rfl, hw2⟩
        subst w2
        go_wp2_with fail
        refine NB.out.mono ?_
        rintro e3 w3 ⟨rfl, q3, k3⟩
        have qo3 := k3.heap HQO.out (fun x => HNB.out.1 x.symm)
        have c3 : ∃ u, w3.cell? ⟨bo, 0, none⟩ = some u := ⟨_, cell18 qo3 rfl⟩
        obtain ⟨u3, c3⟩ := c3
        have f3 : w3.frozen? ⟨bo, 0, none⟩ = false := by simp [World.frozen?, qo3]
        have kS : Kp (fun k => k = bo) w3 (w3.setCell ⟨bo, 0, none⟩ (.int .i64 (vl18 z at_ 0))) := Kp.set (S := fun k => k = bo) rfl _
        have HN : Hid (Rl18 wB br bo za zc z at_ 1 (w3.setCell ⟨bo, 0, none⟩ (.int .i64 (vl18 z at_ 0)))) := by
          refine ⟨HNJ.out, HPL.out, ?_, kS.heap q3 (fun x => HNB.out.1 x), ((HKC.out w1 HB1.out).trans ⟨k3.os, k3.tape, k3.output, k3.size, fun k hk hn => k3.block k hk (fun x => hn (.inl x))⟩ (fun _ _ x => x)).trans ⟨kS.os, kS.tape, kS.output, kS.size, fun k hk hn => kS.block k hk (fun x => hn (.inr x))⟩ (fun _ _ x => x)⟩
          have hh : (w3.setCell ⟨bo, 0, none⟩ (.int .i64 (vl18 z at_ 0))).heap[bo]? = some (.cells ((hp18 z at_ 0).cs.setIfInBounds 0 (.int .i64 (vl18 z at_ 0))) 51 (0, 0)) := by
            simp [World.setCell, Array.getElem?_modify, qo3]
          exact hh
        clear q3 k3 qo3 kS NB CA
        generalize vl18 z at_ 0 = vv at *
        go_wp2_with fail
        go_roundw
        case rel => exact ⟨1, by omega, rfl, HN.out⟩
        case measure => simp [intOf]
      · have NB := pnb18_no br za zc z (pl18 z at_ 0) 0 16777216 w1 qr (HSG.out w1 (HKC.out w1 HB1.out)) HL.out.1 HL.out.2 HR.out.pl (by omega) (by omega) hno
        have HNO : Hid (¬ Nj18 z at_ 4) := fun x => hno (x 0 (by omega))
        clear b1 CB f0 f1 qo qr hno
        go_wp2_with fail
        refine CA.mono ?_
        rintro e2 w2 ⟨rfl, hw2⟩
        subst w2
        go_wp2_with fail
        refine NB.mono ?_
        rintro e3 w3 ⟨rfl, b3⟩
        exact ⟨rfl, .inr ⟨HNO.out, rfl, HK0.out w3 (HKC.out w3 (HB1.out.trans (b3.mono HB1.out.size)))⟩⟩
    · have f0 : wr.cell? ⟨B + 8, 2, none⟩ = some (.func (.func 128) #[] #[]) := cell18 hFl.fl rfl
      have f1 : wr.cell? ⟨B + 8, 3, none⟩ = some (.func (.func 167) #[] #[.pointer (some ⟨B + 2, 0, none⟩), .pointer (some ⟨B + 3, 0, none⟩)]) := cell18 hFl.fl rfl
      obtain ⟨wC, hwC⟩ : ∃ wC, wC = wr.alloc (.cells #[.func (.func 128) #[] #[], .func (.func 167) #[] #[.pointer (some ⟨B + 2, 0, none⟩), .pointer (some ⟨B + 3, 0, none⟩)]] 202) := ⟨_, rfl⟩
      have cB := cb16 wr #[.func (.func 128) #[] #[], .func (.func 167) #[] #[.pointer (some ⟨B + 2, 0, none⟩), .pointer (some ⟨B + 3, 0, none⟩)]] 202
      rw [← hwC] at cB
      obtain ⟨bs, hbs⟩ : ∃ bs, bs = wr.heap.size := ⟨_, rfl⟩
      have HKC : Hid (∀ V, Below wC.heap.size wC V → Kp (fun k => k = br ∨ k = bo) wB V) := fun V hV => (HR.out.kp.trans (Kp.of_below cB.bl) (fun _ _ x => x)).trans (Kp.of_below hV) (fun _ _ x => x)
      have HCB : Hid (∀ V, Below wC.heap.size wC V → V.cell? ⟨bs, 0, none⟩ = some (.func (.func 128) #[] #[]) ∧ V.cell? ⟨bs, 1, none⟩ = some (.func (.func 167) #[] #[.pointer (some ⟨B + 2, 0, none⟩), .pointer (some ⟨B + 3, 0, none⟩)])) := fun V hV => by
        have q0 := cB.cl
        rw [← hbs] at q0
        have q := (hV.block bs (by have := cB.sz; omega)).trans q0
        exact ⟨cell18 q rfl, cell18 q rfl⟩
      have HOB : Hid (∀ V, Below wC.heap.size wC V → V.heap[bo]? = some (.cells (hp18 z at_ 1).cs 51 (0, 0)) ∧ Rq18 V br za z.length zc (pl18 z at_ 1)) := fun V hV => by
        have b2 := cB.bl.trans (hV.mono cB.bl.size)
        exact ⟨(b2.block _ (Array.getElem?_eq_some_iff.1 HR.out.ob).1).trans HR.out.ob, (b2.block _ (Array.getElem?_eq_some_iff.1 HR.out.rq).1).trans HR.out.rq⟩
      have hFB := HFK.out wC (HKC.out wC (Below.refl _ _))
      have CB := pbt18 (B + 2) (B + 3) (.pointer (some ⟨bo, 0, none⟩)) 0 16777216 wC (hFB.bx 2 (by omega)) (hFB.bx 3 (by omega))
      have HWC : Hid (wr.alloc (.cells #[.func (.func 128) #[] #[], .func (.func 167) #[] #[.pointer (some ⟨B + 2, 0, none⟩), .pointer (some ⟨B + 3, 0, none⟩)]] 202) = wC) := hwC.symm
      have HBS : Hid (wr.heap.size = bs) := hbs.symm
      clear hwC cB hbs hFl hFB
      go_wp2_with fail
      rw [HWC.out, HBS.out]
      refine CB.mono ?_
      rintro e1 w1 ⟨rfl, b1⟩
      have HB1 : Hid (Below wC.heap.size wC w1) := b1
      obtain ⟨g0, g1⟩ := HCB.out w1 b1
      obtain ⟨qo, qr⟩ := HOB.out w1 b1
      have CA := phf18_2 bo w1 ⟨_, cell18 (k := 0) qo rfl⟩
      have HQO : Hid (w1.heap[bo]? = some (.cells (hp18 z at_ 1).cs 51 (0, 0))) := qo
      by_cases hno : No18 z (pl18 z at_ 1) 0 16777216
      · have hk := decL_k18 (b := z.drop (pl18 z at_ 1)) (fun t ht => (HSG.out w1 (HKC.out w1 HB1.out)).mem t (List.mem_of_mem_drop ht)) hno.1
        have hkl : pl18 z at_ 2 ≤ z.length := by
          have h2 : (decL 0 0 (z.drop (pl18 z at_ 1))).2.1.toNat ≤ z.length - pl18 z at_ 1 := Nat.le_trans hk.2 (Nat.le_of_eq List.length_drop)
          have h4 : pl18 z at_ 2 = pl18 z at_ 1 + (decL 0 0 (z.drop (pl18 z at_ 1))).2.1.toNat := rfl
          have h5 := HR.out.pl
          rw [h4]
          generalize (decL 0 0 (z.drop (pl18 z at_ 1))).2.1.toNat = kk at *
          generalize pl18 z at_ 1 = pp at *
          omega
        have NB := pnb18 br za zc z (pl18 z at_ 1) 0 16777216 _ w1 qr (HSG.out w1 (HKC.out w1 HB1.out)) HL.out.1 HL.out.2 HR.out.pl (by omega) (by omega) hno hk.1 hkl
        have NB : Hid (Calls Tryz.prog 145 #[.pointer (some ⟨br, 0, none⟩), .int .i64 0, .int .i64 16777216] w1 fun e w' => e = .returned (.int .i64 (vl18 z at_ 1)) ∧ Rq18 w' br za z.length zc (pl18 z at_ 2) ∧ Kp (fun x => x = br) w1 w') := NB
        have HNJ : Hid (Nj18 z at_ 2) := fun j hj => by
          by_cases hji : j < 1
          · exact HR.out.nj j hji
          · have : j = 1 := by omega
            subst this
            exact hno
        have HPL : Hid (pl18 z at_ 2 ≤ z.length) := hkl
        clear b1 CB f0 f1 qo qr hno hk hkl
        go_wp2_with fail
        refine CA.mono ?_
        rintro e2 w2 ⟨rfl, hw2⟩
        subst w2
        go_wp2_with fail
        refine NB.out.mono ?_
        rintro e3 w3 ⟨rfl, q3, k3⟩
        have qo3 := k3.heap HQO.out (fun x => HNB.out.1 x.symm)
        have c3 : ∃ u, w3.cell? ⟨bo, 1, none⟩ = some u := ⟨_, cell18 qo3 rfl⟩
        obtain ⟨u3, c3⟩ := c3
        have f3 : w3.frozen? ⟨bo, 1, none⟩ = false := by simp [World.frozen?, qo3]
        have kS : Kp (fun k => k = bo) w3 (w3.setCell ⟨bo, 1, none⟩ (.int .i64 (vl18 z at_ 1))) := Kp.set (S := fun k => k = bo) rfl _
        have HN : Hid (Rl18 wB br bo za zc z at_ 2 (w3.setCell ⟨bo, 1, none⟩ (.int .i64 (vl18 z at_ 1)))) := by
          refine ⟨HNJ.out, HPL.out, ?_, kS.heap q3 (fun x => HNB.out.1 x), ((HKC.out w1 HB1.out).trans ⟨k3.os, k3.tape, k3.output, k3.size, fun k hk hn => k3.block k hk (fun x => hn (.inl x))⟩ (fun _ _ x => x)).trans ⟨kS.os, kS.tape, kS.output, kS.size, fun k hk hn => kS.block k hk (fun x => hn (.inr x))⟩ (fun _ _ x => x)⟩
          have hh : (w3.setCell ⟨bo, 1, none⟩ (.int .i64 (vl18 z at_ 1))).heap[bo]? = some (.cells ((hp18 z at_ 1).cs.setIfInBounds 1 (.int .i64 (vl18 z at_ 1))) 51 (0, 0)) := by
            simp [World.setCell, Array.getElem?_modify, qo3]
          exact hh
        clear q3 k3 qo3 kS NB CA
        generalize vl18 z at_ 1 = vv at *
        go_wp2_with fail
        go_roundw
        case rel => exact ⟨2, by omega, rfl, HN.out⟩
        case measure => simp [intOf]
      · have NB := pnb18_no br za zc z (pl18 z at_ 1) 0 16777216 w1 qr (HSG.out w1 (HKC.out w1 HB1.out)) HL.out.1 HL.out.2 HR.out.pl (by omega) (by omega) hno
        have HNO : Hid (¬ Nj18 z at_ 4) := fun x => hno (x 1 (by omega))
        clear b1 CB f0 f1 qo qr hno
        go_wp2_with fail
        refine CA.mono ?_
        rintro e2 w2 ⟨rfl, hw2⟩
        subst w2
        go_wp2_with fail
        refine NB.mono ?_
        rintro e3 w3 ⟨rfl, b3⟩
        exact ⟨rfl, .inr ⟨HNO.out, rfl, HK0.out w3 (HKC.out w3 (HB1.out.trans (b3.mono HB1.out.size)))⟩⟩
    · have f0 : wr.cell? ⟨B + 8, 4, none⟩ = some (.func (.func 129) #[] #[]) := cell18 hFl.fl rfl
      have f1 : wr.cell? ⟨B + 8, 5, none⟩ = some (.func (.func 167) #[] #[.pointer (some ⟨B + 4, 0, none⟩), .pointer (some ⟨B + 5, 0, none⟩)]) := cell18 hFl.fl rfl
      obtain ⟨wC, hwC⟩ : ∃ wC, wC = wr.alloc (.cells #[.func (.func 129) #[] #[], .func (.func 167) #[] #[.pointer (some ⟨B + 4, 0, none⟩), .pointer (some ⟨B + 5, 0, none⟩)]] 202) := ⟨_, rfl⟩
      have cB := cb16 wr #[.func (.func 129) #[] #[], .func (.func 167) #[] #[.pointer (some ⟨B + 4, 0, none⟩), .pointer (some ⟨B + 5, 0, none⟩)]] 202
      rw [← hwC] at cB
      obtain ⟨bs, hbs⟩ : ∃ bs, bs = wr.heap.size := ⟨_, rfl⟩
      have HKC : Hid (∀ V, Below wC.heap.size wC V → Kp (fun k => k = br ∨ k = bo) wB V) := fun V hV => (HR.out.kp.trans (Kp.of_below cB.bl) (fun _ _ x => x)).trans (Kp.of_below hV) (fun _ _ x => x)
      have HCB : Hid (∀ V, Below wC.heap.size wC V → V.cell? ⟨bs, 0, none⟩ = some (.func (.func 129) #[] #[]) ∧ V.cell? ⟨bs, 1, none⟩ = some (.func (.func 167) #[] #[.pointer (some ⟨B + 4, 0, none⟩), .pointer (some ⟨B + 5, 0, none⟩)])) := fun V hV => by
        have q0 := cB.cl
        rw [← hbs] at q0
        have q := (hV.block bs (by have := cB.sz; omega)).trans q0
        exact ⟨cell18 q rfl, cell18 q rfl⟩
      have HOB : Hid (∀ V, Below wC.heap.size wC V → V.heap[bo]? = some (.cells (hp18 z at_ 2).cs 51 (0, 0)) ∧ Rq18 V br za z.length zc (pl18 z at_ 2)) := fun V hV => by
        have b2 := cB.bl.trans (hV.mono cB.bl.size)
        exact ⟨(b2.block _ (Array.getElem?_eq_some_iff.1 HR.out.ob).1).trans HR.out.ob, (b2.block _ (Array.getElem?_eq_some_iff.1 HR.out.rq).1).trans HR.out.rq⟩
      have hFB := HFK.out wC (HKC.out wC (Below.refl _ _))
      have CB := pbt18 (B + 4) (B + 5) (.pointer (some ⟨bo, 0, none⟩)) 64 65536 wC (hFB.bx 4 (by omega)) (hFB.bx 5 (by omega))
      have HWC : Hid (wr.alloc (.cells #[.func (.func 129) #[] #[], .func (.func 167) #[] #[.pointer (some ⟨B + 4, 0, none⟩), .pointer (some ⟨B + 5, 0, none⟩)]] 202) = wC) := hwC.symm
      have HBS : Hid (wr.heap.size = bs) := hbs.symm
      clear hwC cB hbs hFl hFB
      go_wp2_with fail
      rw [HWC.out, HBS.out]
      refine CB.mono ?_
      rintro e1 w1 ⟨rfl, b1⟩
      have HB1 : Hid (Below wC.heap.size wC w1) := b1
      obtain ⟨g0, g1⟩ := HCB.out w1 b1
      obtain ⟨qo, qr⟩ := HOB.out w1 b1
      have CA := phf18_3 bo w1 ⟨_, cell18 (k := 0) qo rfl⟩
      have HQO : Hid (w1.heap[bo]? = some (.cells (hp18 z at_ 2).cs 51 (0, 0))) := qo
      by_cases hno : No18 z (pl18 z at_ 2) 64 65536
      · have hk := decL_k18 (b := z.drop (pl18 z at_ 2)) (fun t ht => (HSG.out w1 (HKC.out w1 HB1.out)).mem t (List.mem_of_mem_drop ht)) hno.1
        have hkl : pl18 z at_ 3 ≤ z.length := by
          have h2 : (decL 0 0 (z.drop (pl18 z at_ 2))).2.1.toNat ≤ z.length - pl18 z at_ 2 := Nat.le_trans hk.2 (Nat.le_of_eq List.length_drop)
          have h4 : pl18 z at_ 3 = pl18 z at_ 2 + (decL 0 0 (z.drop (pl18 z at_ 2))).2.1.toNat := rfl
          have h5 := HR.out.pl
          rw [h4]
          generalize (decL 0 0 (z.drop (pl18 z at_ 2))).2.1.toNat = kk at *
          generalize pl18 z at_ 2 = pp at *
          omega
        have NB := pnb18 br za zc z (pl18 z at_ 2) 64 65536 _ w1 qr (HSG.out w1 (HKC.out w1 HB1.out)) HL.out.1 HL.out.2 HR.out.pl (by omega) (by omega) hno hk.1 hkl
        have NB : Hid (Calls Tryz.prog 145 #[.pointer (some ⟨br, 0, none⟩), .int .i64 64, .int .i64 65536] w1 fun e w' => e = .returned (.int .i64 (vl18 z at_ 2)) ∧ Rq18 w' br za z.length zc (pl18 z at_ 3) ∧ Kp (fun x => x = br) w1 w') := NB
        have HNJ : Hid (Nj18 z at_ 3) := fun j hj => by
          by_cases hji : j < 2
          · exact HR.out.nj j hji
          · have : j = 2 := by omega
            subst this
            exact hno
        have HPL : Hid (pl18 z at_ 3 ≤ z.length) := hkl
        clear b1 CB f0 f1 qo qr hno hk hkl
        go_wp2_with fail
        refine CA.mono ?_
        rintro e2 w2 ⟨rfl, hw2⟩
        subst w2
        go_wp2_with fail
        refine NB.out.mono ?_
        rintro e3 w3 ⟨rfl, q3, k3⟩
        have qo3 := k3.heap HQO.out (fun x => HNB.out.1 x.symm)
        have c3 : ∃ u, w3.cell? ⟨bo, 4, none⟩ = some u := ⟨_, cell18 qo3 rfl⟩
        obtain ⟨u3, c3⟩ := c3
        have f3 : w3.frozen? ⟨bo, 4, none⟩ = false := by simp [World.frozen?, qo3]
        have kS : Kp (fun k => k = bo) w3 (w3.setCell ⟨bo, 4, none⟩ (.int .i64 (vl18 z at_ 2))) := Kp.set (S := fun k => k = bo) rfl _
        have HN : Hid (Rl18 wB br bo za zc z at_ 3 (w3.setCell ⟨bo, 4, none⟩ (.int .i64 (vl18 z at_ 2)))) := by
          refine ⟨HNJ.out, HPL.out, ?_, kS.heap q3 (fun x => HNB.out.1 x), ((HKC.out w1 HB1.out).trans ⟨k3.os, k3.tape, k3.output, k3.size, fun k hk hn => k3.block k hk (fun x => hn (.inl x))⟩ (fun _ _ x => x)).trans ⟨kS.os, kS.tape, kS.output, kS.size, fun k hk hn => kS.block k hk (fun x => hn (.inr x))⟩ (fun _ _ x => x)⟩
          have hh : (w3.setCell ⟨bo, 4, none⟩ (.int .i64 (vl18 z at_ 2))).heap[bo]? = some (.cells ((hp18 z at_ 2).cs.setIfInBounds 4 (.int .i64 (vl18 z at_ 2))) 51 (0, 0)) := by
            simp [World.setCell, Array.getElem?_modify, qo3]
          exact hh
        clear q3 k3 qo3 kS NB CA
        generalize vl18 z at_ 2 = vv at *
        go_wp2_with fail
        go_roundw
        case rel => exact ⟨3, by omega, rfl, HN.out⟩
        case measure => simp [intOf]
      · have NB := pnb18_no br za zc z (pl18 z at_ 2) 64 65536 w1 qr (HSG.out w1 (HKC.out w1 HB1.out)) HL.out.1 HL.out.2 HR.out.pl (by omega) (by omega) hno
        have HNO : Hid (¬ Nj18 z at_ 4) := fun x => hno (x 2 (by omega))
        clear b1 CB f0 f1 qo qr hno
        go_wp2_with fail
        refine CA.mono ?_
        rintro e2 w2 ⟨rfl, hw2⟩
        subst w2
        go_wp2_with fail
        refine NB.mono ?_
        rintro e3 w3 ⟨rfl, b3⟩
        exact ⟨rfl, .inr ⟨HNO.out, rfl, HK0.out w3 (HKC.out w3 (HB1.out.trans (b3.mono HB1.out.size)))⟩⟩
    · have f0 : wr.cell? ⟨B + 8, 6, none⟩ = some (.func (.func 130) #[] #[]) := cell18 hFl.fl rfl
      have f1 : wr.cell? ⟨B + 8, 7, none⟩ = some (.func (.func 167) #[] #[.pointer (some ⟨B + 6, 0, none⟩), .pointer (some ⟨B + 7, 0, none⟩)]) := cell18 hFl.fl rfl
      obtain ⟨wC, hwC⟩ : ∃ wC, wC = wr.alloc (.cells #[.func (.func 130) #[] #[], .func (.func 167) #[] #[.pointer (some ⟨B + 6, 0, none⟩), .pointer (some ⟨B + 7, 0, none⟩)]] 202) := ⟨_, rfl⟩
      have cB := cb16 wr #[.func (.func 130) #[] #[], .func (.func 167) #[] #[.pointer (some ⟨B + 6, 0, none⟩), .pointer (some ⟨B + 7, 0, none⟩)]] 202
      rw [← hwC] at cB
      obtain ⟨bs, hbs⟩ : ∃ bs, bs = wr.heap.size := ⟨_, rfl⟩
      have HKC : Hid (∀ V, Below wC.heap.size wC V → Kp (fun k => k = br ∨ k = bo) wB V) := fun V hV => (HR.out.kp.trans (Kp.of_below cB.bl) (fun _ _ x => x)).trans (Kp.of_below hV) (fun _ _ x => x)
      have HCB : Hid (∀ V, Below wC.heap.size wC V → V.cell? ⟨bs, 0, none⟩ = some (.func (.func 130) #[] #[]) ∧ V.cell? ⟨bs, 1, none⟩ = some (.func (.func 167) #[] #[.pointer (some ⟨B + 6, 0, none⟩), .pointer (some ⟨B + 7, 0, none⟩)])) := fun V hV => by
        have q0 := cB.cl
        rw [← hbs] at q0
        have q := (hV.block bs (by have := cB.sz; omega)).trans q0
        exact ⟨cell18 q rfl, cell18 q rfl⟩
      have HOB : Hid (∀ V, Below wC.heap.size wC V → V.heap[bo]? = some (.cells (hp18 z at_ 3).cs 51 (0, 0)) ∧ Rq18 V br za z.length zc (pl18 z at_ 3)) := fun V hV => by
        have b2 := cB.bl.trans (hV.mono cB.bl.size)
        exact ⟨(b2.block _ (Array.getElem?_eq_some_iff.1 HR.out.ob).1).trans HR.out.ob, (b2.block _ (Array.getElem?_eq_some_iff.1 HR.out.rq).1).trans HR.out.rq⟩
      have hFB := HFK.out wC (HKC.out wC (Below.refl _ _))
      have CB := pbt18 (B + 6) (B + 7) (.pointer (some ⟨bo, 0, none⟩)) 1 32768 wC (hFB.bx 6 (by omega)) (hFB.bx 7 (by omega))
      have HWC : Hid (wr.alloc (.cells #[.func (.func 130) #[] #[], .func (.func 167) #[] #[.pointer (some ⟨B + 6, 0, none⟩), .pointer (some ⟨B + 7, 0, none⟩)]] 202) = wC) := hwC.symm
      have HBS : Hid (wr.heap.size = bs) := hbs.symm
      clear hwC cB hbs hFl hFB
      go_wp2_with fail
      rw [HWC.out, HBS.out]
      refine CB.mono ?_
      rintro e1 w1 ⟨rfl, b1⟩
      have HB1 : Hid (Below wC.heap.size wC w1) := b1
      obtain ⟨g0, g1⟩ := HCB.out w1 b1
      obtain ⟨qo, qr⟩ := HOB.out w1 b1
      have CA := phf18_4 bo w1 ⟨_, cell18 (k := 0) qo rfl⟩
      have HQO : Hid (w1.heap[bo]? = some (.cells (hp18 z at_ 3).cs 51 (0, 0))) := qo
      by_cases hno : No18 z (pl18 z at_ 3) 1 32768
      · have hk := decL_k18 (b := z.drop (pl18 z at_ 3)) (fun t ht => (HSG.out w1 (HKC.out w1 HB1.out)).mem t (List.mem_of_mem_drop ht)) hno.1
        have hkl : pl18 z at_ 4 ≤ z.length := by
          have h2 : (decL 0 0 (z.drop (pl18 z at_ 3))).2.1.toNat ≤ z.length - pl18 z at_ 3 := Nat.le_trans hk.2 (Nat.le_of_eq List.length_drop)
          have h4 : pl18 z at_ 4 = pl18 z at_ 3 + (decL 0 0 (z.drop (pl18 z at_ 3))).2.1.toNat := rfl
          have h5 := HR.out.pl
          rw [h4]
          generalize (decL 0 0 (z.drop (pl18 z at_ 3))).2.1.toNat = kk at *
          generalize pl18 z at_ 3 = pp at *
          omega
        have NB := pnb18 br za zc z (pl18 z at_ 3) 1 32768 _ w1 qr (HSG.out w1 (HKC.out w1 HB1.out)) HL.out.1 HL.out.2 HR.out.pl (by omega) (by omega) hno hk.1 hkl
        have NB : Hid (Calls Tryz.prog 145 #[.pointer (some ⟨br, 0, none⟩), .int .i64 1, .int .i64 32768] w1 fun e w' => e = .returned (.int .i64 (vl18 z at_ 3)) ∧ Rq18 w' br za z.length zc (pl18 z at_ 4) ∧ Kp (fun x => x = br) w1 w') := NB
        have HNJ : Hid (Nj18 z at_ 4) := fun j hj => by
          by_cases hji : j < 3
          · exact HR.out.nj j hji
          · have : j = 3 := by omega
            subst this
            exact hno
        have HPL : Hid (pl18 z at_ 4 ≤ z.length) := hkl
        clear b1 CB f0 f1 qo qr hno hk hkl
        go_wp2_with fail
        refine CA.mono ?_
        rintro e2 w2 ⟨rfl, hw2⟩
        subst w2
        go_wp2_with fail
        refine NB.out.mono ?_
        rintro e3 w3 ⟨rfl, q3, k3⟩
        have qo3 := k3.heap HQO.out (fun x => HNB.out.1 x.symm)
        have c3 : ∃ u, w3.cell? ⟨bo, 5, none⟩ = some u := ⟨_, cell18 qo3 rfl⟩
        obtain ⟨u3, c3⟩ := c3
        have f3 : w3.frozen? ⟨bo, 5, none⟩ = false := by simp [World.frozen?, qo3]
        have kS : Kp (fun k => k = bo) w3 (w3.setCell ⟨bo, 5, none⟩ (.int .i64 (vl18 z at_ 3))) := Kp.set (S := fun k => k = bo) rfl _
        have HN : Hid (Rl18 wB br bo za zc z at_ 4 (w3.setCell ⟨bo, 5, none⟩ (.int .i64 (vl18 z at_ 3)))) := by
          refine ⟨HNJ.out, HPL.out, ?_, kS.heap q3 (fun x => HNB.out.1 x), ((HKC.out w1 HB1.out).trans ⟨k3.os, k3.tape, k3.output, k3.size, fun k hk hn => k3.block k hk (fun x => hn (.inl x))⟩ (fun _ _ x => x)).trans ⟨kS.os, kS.tape, kS.output, kS.size, fun k hk hn => kS.block k hk (fun x => hn (.inr x))⟩ (fun _ _ x => x)⟩
          have hh : (w3.setCell ⟨bo, 5, none⟩ (.int .i64 (vl18 z at_ 3))).heap[bo]? = some (.cells ((hp18 z at_ 3).cs.setIfInBounds 5 (.int .i64 (vl18 z at_ 3))) 51 (0, 0)) := by
            simp [World.setCell, Array.getElem?_modify, qo3]
          exact hh
        clear q3 k3 qo3 kS NB CA
        generalize vl18 z at_ 3 = vv at *
        go_wp2_with fail
        go_roundw
        case rel => exact ⟨4, by omega, rfl, HN.out⟩
        case measure => simp [intOf]
      · have NB := pnb18_no br za zc z (pl18 z at_ 3) 1 32768 w1 qr (HSG.out w1 (HKC.out w1 HB1.out)) HL.out.1 HL.out.2 HR.out.pl (by omega) (by omega) hno
        have HNO : Hid (¬ Nj18 z at_ 4) := fun x => hno (x 3 (by omega))
        clear b1 CB f0 f1 qo qr hno
        go_wp2_with fail
        refine CA.mono ?_
        rintro e2 w2 ⟨rfl, hw2⟩
        subst w2
        go_wp2_with fail
        refine NB.mono ?_
        rintro e3 w3 ⟨rfl, b3⟩
        exact ⟨rfl, .inr ⟨HNO.out, rfl, HK0.out w3 (HKC.out w3 (HB1.out.trans (b3.mono HB1.out.size)))⟩⟩
    · obtain ⟨l0, l1, l2, l3, l4, l5⟩ := cl18 HR.out.ob
      have q4 := H4.out wr HR.out.kp
      have HQ : Hid (∀ V, Kp (fun k => k = b4) wr V → RdQ18 w br za zc z at_ (.returned (.agg (hp18 z at_ 4).cs)) V) := fun V hV => by
        have kw := HK0.out wr HR.out.kp
        refine .inl ⟨HR.out.nj, rfl, hV.heap HR.out.rq (fun x => HNB.out.2.2 x.symm), HR.out.pl, ⟨hV.os.trans kw.os, hV.tape.trans kw.tape, hV.output.trans kw.output, Nat.le_trans kw.size hV.size, fun k hk hn => ?_⟩⟩
        exact (hV.block k (Nat.lt_of_lt_of_le hk kw.size) (fun x => by have := HB4.out.1; omega)).trans (kw.block k hk hn)
      have f4 : ∀ j, wr.frozen? ⟨b4, j, none⟩ = false := fun j => by simp [World.frozen?, q4]
      have f40 := f4 0
      have f41 := f4 1
      have f42 := f4 2
      have f43 := f4 3
      have f44 := f4 4
      have f45 := f4 5
      have d0 : wr.cell? ⟨b4, 0, none⟩ = some (.int .i64 0) := cell18 q4 rfl
      have d1 : wr.cell? ⟨b4, 1, none⟩ = some (.int .i64 0) := cell18 q4 rfl
      have d2 : wr.cell? ⟨b4, 2, none⟩ = some (.int .u32 0) := cell18 q4 rfl
      have d3 : wr.cell? ⟨b4, 3, none⟩ = some (.int .u32 0) := cell18 q4 rfl
      have d4 : wr.cell? ⟨b4, 4, none⟩ = some (.int .i64 0) := cell18 q4 rfl
      have d5 : wr.cell? ⟨b4, 5, none⟩ = some (.int .i64 0) := cell18 q4 rfl
      have HQ4 : Hid (wr.heap[b4]? = some (.cells #[.int .i64 0, .int .i64 0, .int .u32 0, .int .u32 0, .int .i64 0, .int .i64 0] 51 (0, 0))) := q4
      clear q4 f4 hFl
      generalize hp18 z at_ 4 = H at *
      go_wp2_with fail
      obtain ⟨F, hF⟩ : ∃ F, F = (((((wr.setCell ⟨b4, 0, none⟩ (.int .i64 H.o)).setCell ⟨b4, 1, none⟩ (.int .i64 H.n)).setCell ⟨b4, 2, none⟩ (.int .u32 H.so)).setCell ⟨b4, 3, none⟩ (.int .u32 H.sn)).setCell ⟨b4, 4, none⟩ (.int .i64 H.wi)).setCell ⟨b4, 5, none⟩ (.int .i64 H.lo) := ⟨_, rfl⟩
      have kF : Kp (fun k => k = b4) wr F := by
        rw [hF]
        exact (((((Kp.set (S := fun j => j = b4) rfl _).trans (Kp.set (S := fun j => j = b4) rfl _) (fun _ _ x => x)).trans (Kp.set (S := fun j => j = b4) rfl _) (fun _ _ x => x)).trans (Kp.set (S := fun j => j = b4) rfl _) (fun _ _ x => x)).trans (Kp.set (S := fun j => j = b4) rfl _) (fun _ _ x => x)).trans (Kp.set (S := fun j => j = b4) rfl _) (fun _ _ x => x)
      have qF : F.heap[b4]? = some (.cells #[.int .i64 H.o, .int .i64 H.n, .int .u32 H.so, .int .u32 H.sn, .int .i64 H.wi, .int .i64 H.lo] 51 (0, 0)) := by
        rw [hF]
        simp [World.setCell, Array.getElem?_modify, HQ4.out]
      rw [← hF]
      refine bodyPost_ret (v := .agg #[.int .i64 H.o, .int .i64 H.n, .int .u32 H.so, .int .u32 H.sn, .int .i64 H.wi, .int .i64 H.lo]) (results_cell_row (fn := Tryz.f103) (p := 4) (ty := 51) rfl _ _ b4 _ _ _ _ rfl qF Tryz.underlying51 rfl (by kernel_rfl)) rfl ?_
      exact HQ.out F kF
end Go.Proofs.YtmfpdchfofffeaaGreatDoor
