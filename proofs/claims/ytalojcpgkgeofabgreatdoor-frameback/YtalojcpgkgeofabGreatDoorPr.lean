import Derived.Test.YtalojcpgkgeofabGreatDoorProg
import Derived.Test.YtalojcpgkgeofabGreatDoorPh
import Derived.Test.YtalojcpgkgeofabGreatDoorPq
import Derived.Test.YtalojcpgkgeofabGreatDoorPp
namespace Go.Proofs.YtalojcpgkgeofabGreatDoor
open Go.RowKit
set_option linter.unusedVariables false

def fixE (v s : Int) : Int := if 1 ≤ s ∧ s ≤ 8 then (if v / 2 ^ (8 * s.toNat) = 0 then 0 else 10) else 1
def fixB (v s : Int) : List Int := if fixE v s = 0 then fixL s.toNat v else []
theorem fixB_bd (v s : Int) : ∀ z ∈ fixB v s, 0 ≤ z ∧ z ≤ 255 := by
  unfold fixB; split
  · exact fixL_bd _ _
  · simp
theorem fixB_len (v s : Int) : (fixB v s).length ≤ 8 := by
  unfold fixB; split
  · rename_i h; unfold fixE at h; rw [fixL_len]; split at h
    · omega
    · cases h
  · simp

theorem fixed_any (v s : Int) (w : World) (hv0 : 0 ≤ v) (hv1 : v ≤ 18446744073709551615) :
    Calls Tryz.prog 24 #[.int .u64 v, .int .i64 s] w fun e w' => ∃ a cap, e = .returned (.tuple #[.slice a (fixB v s).length cap, .int .i64 (fixE v s)]) ∧ Row 5 w' w.heap.size (.slice a (fixB v s).length cap) (fixB v s) ∧ Below w.heap.size w w' := by
  by_cases hs : 1 ≤ s ∧ s ≤ 8
  · obtain ⟨n, rfl⟩ := Int.eq_ofNat_of_zero_le (show 0 ≤ s by omega)
    by_cases hr : v / 2 ^ (8 * n) = 0
    · have e1 : fixE v (n : Int) = 0 := by simp only [fixE, if_pos hs, Int.toNat_natCast, if_pos hr]
      have e2 : fixB v (n : Int) = fixL n v := by simp only [fixB, if_pos e1, Int.toNat_natCast]
      refine (fixed_ok v n w (by omega) (by omega) hv0 hv1 hr).mono ?_
      rintro e w' ⟨rfl, h1, h2⟩
      rw [e1, e2]
      refine ⟨some ⟨w.heap.size, 0, none⟩, n, ?_, ?_, h2⟩
      · rw [fixL_len]
      · show World.ownsRow _ _ _ _ _ _ _
        rw [fixL_len]; exact h1
    · have e1 : fixE v (n : Int) = 10 := by simp only [fixE, if_pos hs, Int.toNat_natCast, if_neg hr]
      have e2 : fixB v (n : Int) = [] := by simp [fixB, e1]
      refine (fixed_long v n w (by omega) (by omega) hv0 hv1 hr).mono ?_
      rintro e w' ⟨rfl, hw⟩
      subst w'
      rw [e1, e2]
      exact ⟨none, 0, rfl, World.ownsRow_nil _ _ _ _, Below.refl _ _⟩
  · have e1 : fixE v s = 1 := by simp only [fixE, if_neg hs]
    have e2 : fixB v s = [] := by simp [fixB, e1]
    refine (fixed_arg v s w hs).mono ?_
    rintro e w' ⟨rfl, hw⟩
    subst w'
    rw [e1, e2]
    exact ⟨none, 0, rfl, World.ownsRow_nil _ _ _ _, Below.refl _ _⟩

def unfE (zs : List Int) (s : Int) : Int := if 1 ≤ s ∧ s ≤ 8 then (if zs.length < s.toNat then 11 else 0) else 1
def unfV (zs : List Int) (s : Int) : Int := if unfE zs s = 0 then unfL (zs.take s.toNat) else 0

theorem unfix_any (a : Option Addr) (zs : List Int) (cap : Nat) (s : Int) (w : World) (hs : Seg w a zs) (hcap : zs.length ≤ cap) (hl : zs.length ≤ 140737488355328) :
    Calls Tryz.prog 47 #[.slice a zs.length cap, .int .i64 s] w fun e w' => e = .returned (.tuple #[.int .u64 (unfV zs s), .int .i64 (unfE zs s)]) ∧ w' = w := by
  by_cases h : 1 ≤ s ∧ s ≤ 8
  · obtain ⟨n, rfl⟩ := Int.eq_ofNat_of_zero_le (show 0 ≤ s by omega)
    by_cases hz : zs.length < n
    · have e1 : unfE zs (n : Int) = 11 := by simp only [unfE, if_pos h, Int.toNat_natCast, if_pos hz]
      have e2 : unfV zs (n : Int) = 0 := by simp [unfV, e1]
      rw [e1, e2]
      exact unfix_short a _ cap n w (by omega) (by omega) hz
    · have e1 : unfE zs (n : Int) = 0 := by simp only [unfE, if_pos h, Int.toNat_natCast, if_neg hz]
      have e2 : unfV zs (n : Int) = unfL (zs.take n) := by simp only [unfV, if_pos e1, Int.toNat_natCast]
      rw [e1, e2]
      exact unfix_ok a zs cap n w hs hcap hl (by omega) (by omega) (by omega)
  · have e1 : unfE zs s = 1 := by simp only [unfE, if_neg h]
    have e2 : unfV zs s = 0 := by simp [unfV, e1]
    rw [e1, e2]
    exact unfix_arg a _ cap s w h
end Go.Proofs.YtalojcpgkgeofabGreatDoor

namespace Go.Proofs.YtalojcpgkgeofabGreatDoor
open Go.RowKit Go.Shelf
set_option linter.unusedVariables false

/-! The reader: word, sum. -/
/-- The word that stands at a place. -/
def wd18 (z : List Int) (at_ : Nat) : Int := unfL ((z.drop at_).take 4)
theorem wd18_bd {z : List Int} {at_ : Nat} (hb : ∀ t ∈ z, 0 ≤ t ∧ t ≤ 255) : 0 ≤ wd18 z at_ ∧ wd18 z at_ ≤ 4294967295 := by
  have h := unfL_pos ((z.drop at_).take 4) (fun t ht => hb t (List.mem_of_mem_drop (List.mem_of_mem_take ht)))
  have hl : ((z.drop at_).take 4).length ≤ 4 := by rw [List.length_take]; omega
  have h2 : (256 : Int) ^ ((z.drop at_).take 4).length ≤ 256 ^ 4 := by
    generalize ((z.drop at_).take 4).length = n at hl
    rcases (by omega : n = 0 ∨ n = 1 ∨ n = 2 ∨ n = 3 ∨ n = 4) with rfl | rfl | rfl | rfl | rfl <;> decide
  have h3 : (256 : Int) ^ 4 = 4294967296 := by decide
  unfold wd18
  omega
set_option maxRecDepth 100000 in
theorem pwd18_no (br : Nat) (za : Option Addr) (zn zc at_ : Nat) (w : World) (h : Rq18 w br za zn zc at_) (hl : zn ≤ 140737488355328) (hat : at_ ≤ zn) (hn : zn < at_ + 4) :
    Calls Tryz.prog 32 #[.pointer (some ⟨br, 0, none⟩)] w fun e w' => e = .panicked (pn18 182) ∧ Below w.heap.size w w' := by
  have T : Hid (Calls Tryz.prog 30 #[.pointer (some ⟨br, 0, none⟩), .int .i64 4] w fun e w' => e = .panicked (pn18 182) ∧ Below w.heap.size w w') := ptk18_no br 4 za zn zc at_ w h (by omega) hat hn
  clear h hl hat hn
  go_enter Tryz.func32, Tryz.ntmps32
  go_wp2_with fail
  refine T.out.mono ?_
  rintro e1 w1 ⟨rfl, b1⟩
  exact ⟨rfl, rfl, b1⟩
set_option maxRecDepth 100000 in
theorem pwd18 (br : Nat) (za : Option Addr) (zc : Nat) (z : List Int) (at_ : Nat) (w : World) (h : Rq18 w br za z.length zc at_) (hz : Seg w za z) (hzb : ∀ x off, za = some ⟨x, off, none⟩ → 0 < z.length → x ≠ br) (hl : z.length ≤ 140737488355328) (hc : z.length ≤ zc) (hn : at_ + 4 ≤ z.length) :
    Calls Tryz.prog 32 #[.pointer (some ⟨br, 0, none⟩)] w fun e w' => e = .returned (.int .u32 (wd18 z at_)) ∧ Rq18 w' br za z.length zc (at_ + 4) ∧ Kp (fun k => k = br) w w' := by
  have T : Hid (Calls Tryz.prog 30 #[.pointer (some ⟨br, 0, none⟩), .int .i64 4] w fun e w' => e = .returned (.slice (rs16 za zc at_) 4 (zc - at_)) ∧ Rq18 w' br za z.length zc (at_ + 4) ∧ Kp (fun k => k = br) w w') := ptk18 br 4 za z.length zc at_ w h (by omega) hc hn
  have hwb := wd18_bd (z := z) (at_ := at_) hz.mem
  have HU : Hid (∀ V, Kp (fun k => k = br) w V → Calls Tryz.prog 47 #[.slice (rs16 za zc at_) 4 (zc - at_), .int .i64 4] V fun e w' => e = .returned (.tuple #[.int .u64 (wd18 z at_), .int .i64 0]) ∧ w' = V) := fun V hV => by
    have sg : Seg V za z := hz.kp hV (fun x off e hp => hzb x off e hp)
    have s2 := ((seg_rs16 (c := zc) (d := at_) sg (by omega) hc).1).take 4
    have hln : ((z.drop at_).take 4).length = 4 := by rw [List.length_take, List.length_drop]; omega
    have U := unfix_any (rs16 za zc at_) ((z.drop at_).take 4) (zc - at_) 4 V s2 (by omega) (by omega)
    have hE : unfE ((z.drop at_).take 4) 4 = 0 := by unfold unfE; rw [if_pos (by omega), if_neg (by rw [hln]; decide)]
    have hV2 : unfV ((z.drop at_).take 4) 4 = wd18 z at_ := by
      unfold unfV
      rw [if_pos hE, show (4 : Int).toNat = 4 from rfl, List.take_of_length_le (Nat.le_of_eq hln)]
      rfl
    rw [hE, hV2, hln] at U
    exact U
  generalize wd18 z at_ = v at *
  have hw : IntKind.u32.wrap v = v := IntWalk.u32_in _ (by omega)
  clear h hz hzb hl hc hn
  generalize rs16 za zc at_ = ax at *
  generalize zc - at_ = ac at *
  go_enter Tryz.func32, Tryz.ntmps32
  go_wp2_with fail
  refine T.out.mono ?_
  rintro e1 w1 ⟨rfl, q1, k1⟩
  have U := HU.out w1 k1
  go_wp2_with fail
  refine U.mono ?_
  rintro e2 w2 ⟨rfl, hw2⟩
  subst w2
  go_wp2_with fail
  go_ret
  exact ⟨rfl, q1, k1⟩
end Go.Proofs.YtalojcpgkgeofabGreatDoor

namespace Go.Proofs.YtalojcpgkgeofabGreatDoor
open Go.RowKit Go.Shelf
set_option linter.unusedVariables false

/-! The reader: sum. -/
set_option maxRecDepth 100000 in
set_option maxHeartbeats 2000000 in
theorem psm18_no (br : Nat) (za : Option Addr) (zn zc at_ : Nat) (w : World) (h : Rq18 w br za zn zc at_) (hl : zn ≤ 140737488355328) (hc : zn ≤ zc) (hat : at_ ≤ zn) (hn : zn < at_ + 4) :
    Calls Tryz.prog 33 #[.pointer (some ⟨br, 0, none⟩)] w fun e w' => e = .panicked (pn18 182) ∧ Below w.heap.size w w' := by
  have HS : Hid (w.drew.cell? ⟨br, 0, none⟩ = some (.slice za zn zc) ∧ w.drew.cell? ⟨br, 1, none⟩ = some (.int .i64 (at_ : Int))) := ⟨cell18 (W := w.drew) h rfl, cell18 (W := w.drew) h rfl⟩
  have W := pwd18_no br za zn zc at_ w.drew h hl hat hn
  have hai : (at_ : Int) ≤ (zc : Int) := by omega
  clear h hl hat hn hc
  go_enter Tryz.func33, Tryz.ntmps33
  go_wp2_with fail
  refine plain_region16 (fun V => V.cell? ⟨br, 0, none⟩ = some (.slice za zn zc) ∧ V.cell? ⟨br, 1, none⟩ = some (.int .i64 (at_ : Int))) 10 (by kernel_rfl) HS.out (fun hHeld => ?_)
  refine wpAnyK_take (i := 0) (v := .pointer (some ⟨br, 0, none⟩)) rfl (by kernel_rfl) (by kernel_rfl) (by kernel_rfl) (by kernel_rfl) (fun _ _ _ h => h) (Or.inl ⟨by rfl, fun w hSw => by go_simp⟩) hHeld ?_
  simp only [List.getElem_toArray, List.getElem_cons_zero, Act.put, List.setIfInBounds_toArray, List.set_cons_zero, List.set_cons_succ]
  refine wpAnyK_take (i := 1) (v := .pointer (some ⟨br, 0, none⟩)) rfl (by kernel_rfl) (by kernel_rfl) (by kernel_rfl) (by kernel_rfl) (fun _ _ _ h => h) (Or.inl ⟨by rfl, fun w hSw => by go_simp⟩) hHeld ?_
  simp only [List.getElem_toArray, List.getElem_cons_zero, List.getElem_cons_succ, Act.put, List.setIfInBounds_toArray, List.set_cons_zero, List.set_cons_succ]
  refine wpAnyK_take (i := 2) (v := .pointer (some ⟨br, 0, none⟩)) rfl (by kernel_rfl) (by kernel_rfl) (by kernel_rfl) (by kernel_rfl) (fun _ _ _ h => h) (Or.inl ⟨by rfl, fun w hSw => by go_simp⟩) hHeld ?_
  simp only [List.getElem_toArray, List.getElem_cons_zero, List.getElem_cons_succ, Act.put, List.setIfInBounds_toArray, List.set_cons_zero, List.set_cons_succ]
  refine wpAnyK_take (i := 3) (v := .slice za zn zc) rfl (by kernel_rfl) (by kernel_rfl) (by kernel_rfl) (by kernel_rfl) (fun _ _ _ h => h) (Or.inl ⟨by rfl, fun w hSw => by go_simp⟩) hHeld ?_
  simp only [List.getElem_toArray, List.getElem_cons_zero, List.getElem_cons_succ, Act.put, List.setIfInBounds_toArray, List.set_cons_zero, List.set_cons_succ]
  refine wpAnyK_take (i := 4) (v := .pointer (some ⟨br, 0, none⟩)) rfl (by kernel_rfl) (by kernel_rfl) (by kernel_rfl) (by kernel_rfl) (fun _ _ _ h => h) (Or.inl ⟨by rfl, fun w hSw => by go_simp⟩) hHeld ?_
  simp only [List.getElem_toArray, List.getElem_cons_zero, List.getElem_cons_succ, Act.put, List.setIfInBounds_toArray, List.set_cons_zero, List.set_cons_succ]
  refine wpAnyK_take (i := 5) (v := .pointer (some ⟨br, 0, none⟩)) rfl (by kernel_rfl) (by kernel_rfl) (by kernel_rfl) (by kernel_rfl) (fun _ _ _ h => h) (Or.inl ⟨by rfl, fun w hSw => by go_simp⟩) hHeld ?_
  simp only [List.getElem_toArray, List.getElem_cons_zero, List.getElem_cons_succ, Act.put, List.setIfInBounds_toArray, List.set_cons_zero, List.set_cons_succ]
  refine wpAnyK_take (i := 6) (v := .pointer (some ⟨br, 1, none⟩)) rfl (by kernel_rfl) (by kernel_rfl) (by kernel_rfl) (by kernel_rfl) (fun _ _ _ h => h) (Or.inl ⟨by rfl, fun w hSw => by go_simp⟩) hHeld ?_
  simp only [List.getElem_toArray, List.getElem_cons_zero, List.getElem_cons_succ, Act.put, List.setIfInBounds_toArray, List.set_cons_zero, List.set_cons_succ]
  refine wpAnyK_take (i := 7) (v := .int .i64 (at_ : Int)) rfl (by kernel_rfl) (by kernel_rfl) (by kernel_rfl) (by kernel_rfl) (fun _ _ _ h => h) (Or.inl ⟨by rfl, fun w hSw => by go_simp⟩) hHeld ?_
  simp only [List.getElem_toArray, List.getElem_cons_zero, List.getElem_cons_succ, Act.put, List.setIfInBounds_toArray, List.set_cons_zero, List.set_cons_succ]
  refine wpAnyK_take (i := 8) (v := .slice za at_ zc) rfl (by kernel_rfl) (by kernel_rfl) (by kernel_rfl) (by kernel_rfl) (fun _ _ _ h => h) (Or.inl ⟨by rfl, fun w hSw => by go_simp⟩) hHeld ?_
  simp only [List.getElem_toArray, List.getElem_cons_zero, List.getElem_cons_succ, Act.put, List.setIfInBounds_toArray, List.set_cons_zero, List.set_cons_succ]
  refine wpAnyK_one (i := 9) (by kernel_rfl) rfl (fun K hK => ?_)
  (try simp only [List.getElem_toArray, List.getElem_cons_zero, List.getElem_cons_succ, Act.put, List.setIfInBounds_toArray, List.set_cons_zero, List.set_cons_succ])
  go_simp
  refine hK.out _ _ (fun _ => HS.out) (fun hHeld0 => ?_)
  clear hHeld0 hK K
  (try simp only [List.getElem_toArray, List.getElem_cons_zero, List.getElem_cons_succ, Act.put, List.setIfInBounds_toArray, List.set_cons_zero, List.set_cons_succ])
  refine wpAnyK_done (by kernel_rfl) ?_ _
  go_wp2_with fail
  refine W.mono ?_
  rintro e1 w1 ⟨rfl, b1⟩
  exact ⟨rfl, rfl, (Below.refl _ _).drew.trans (b1.mono (Nat.le_refl _))⟩
/-- Is the sum right? -/
def Su18 (z : List Int) (at_ : Nat) : Prop := wd18 z at_ = wI (sumW (z.take at_))
set_option maxRecDepth 100000 in
set_option maxHeartbeats 4000000 in
theorem psm18 (br : Nat) (za : Option Addr) (zc : Nat) (z : List Int) (at_ : Nat) (w : World) (ht : Tab w) (hbr : br ≠ 0) (h : Rq18 w br za z.length zc at_) (hz : Seg w za z) (hzb : ∀ x off, za = some ⟨x, off, none⟩ → 0 < z.length → x ≠ br) (hl : z.length ≤ 140737488355328) (hc : z.length ≤ zc) (hn : at_ + 4 ≤ z.length) (hs : Su18 z at_) :
    Calls Tryz.prog 33 #[.pointer (some ⟨br, 0, none⟩)] w fun e w' => e = .returned (.tuple #[]) ∧ Rq18 w' br za z.length zc (at_ + 4) ∧ Kp (fun k => k = br) w w' := by
  obtain ⟨zn, hzn⟩ : ∃ zn, zn = z.length := ⟨_, rfl⟩
  have HS : Hid (w.drew.cell? ⟨br, 0, none⟩ = some (.slice za zn zc) ∧ w.drew.cell? ⟨br, 1, none⟩ = some (.int .i64 (at_ : Int))) := by rw [hzn]; exact ⟨cell18 (W := w.drew) h rfl, cell18 (W := w.drew) h rfl⟩
  have W := pwd18 br za zc z at_ w.drew h hz.drew hzb hl hc hn
  have hai : (at_ : Int) ≤ (zc : Int) := by omega
  have HSM : Hid (∀ V, Kp (fun k => k = br) w V → Calls Tryz.prog 25 #[.slice (some ⟨V.heap.size, 0, none⟩) 1 1] (V.alloc (.cells #[.slice za at_ zc] 25)) fun e w' => e = .returned (.int .u32 (wI (sumW (z.take at_)))) ∧ w' = V.alloc (.cells #[.slice za at_ zc] 25)) := fun V hV => by
    have sg : Seg V za z := hz.kp hV (fun x off e hp => hzb x off e hp)
    have tb : Tab V := SegK.kp ht hV (fun x off e hp => by cases e; exact fun x => hbr x.symm)
    exact sum_one V V.heap.size at_ za (z.take at_) zc 1 25 tb (sg.take at_) rfl (by rw [List.length_take]; omega) (by rw [List.length_take]; omega)
  unfold Su18 at hs
  rw [← hzn] at W
  (try rw [← hzn])
  generalize wd18 z at_ = a at *
  generalize wI (sumW (z.take at_)) = b at *
  clear h hz hzb hl hc hn ht hbr hzn
  subst hs
  go_enter Tryz.func33, Tryz.ntmps33
  go_wp2_with fail
  refine plain_region16 (fun V => V.cell? ⟨br, 0, none⟩ = some (.slice za zn zc) ∧ V.cell? ⟨br, 1, none⟩ = some (.int .i64 (at_ : Int))) 10 (by kernel_rfl) HS.out (fun hHeld => ?_)
  refine wpAnyK_take (i := 0) (v := .pointer (some ⟨br, 0, none⟩)) rfl (by kernel_rfl) (by kernel_rfl) (by kernel_rfl) (by kernel_rfl) (fun _ _ _ h => h) (Or.inl ⟨by rfl, fun w hSw => by go_simp⟩) hHeld ?_
  simp only [List.getElem_toArray, List.getElem_cons_zero, Act.put, List.setIfInBounds_toArray, List.set_cons_zero, List.set_cons_succ]
  refine wpAnyK_take (i := 1) (v := .pointer (some ⟨br, 0, none⟩)) rfl (by kernel_rfl) (by kernel_rfl) (by kernel_rfl) (by kernel_rfl) (fun _ _ _ h => h) (Or.inl ⟨by rfl, fun w hSw => by go_simp⟩) hHeld ?_
  simp only [List.getElem_toArray, List.getElem_cons_zero, List.getElem_cons_succ, Act.put, List.setIfInBounds_toArray, List.set_cons_zero, List.set_cons_succ]
  refine wpAnyK_take (i := 2) (v := .pointer (some ⟨br, 0, none⟩)) rfl (by kernel_rfl) (by kernel_rfl) (by kernel_rfl) (by kernel_rfl) (fun _ _ _ h => h) (Or.inl ⟨by rfl, fun w hSw => by go_simp⟩) hHeld ?_
  simp only [List.getElem_toArray, List.getElem_cons_zero, List.getElem_cons_succ, Act.put, List.setIfInBounds_toArray, List.set_cons_zero, List.set_cons_succ]
  refine wpAnyK_take (i := 3) (v := .slice za zn zc) rfl (by kernel_rfl) (by kernel_rfl) (by kernel_rfl) (by kernel_rfl) (fun _ _ _ h => h) (Or.inl ⟨by rfl, fun w hSw => by go_simp⟩) hHeld ?_
  simp only [List.getElem_toArray, List.getElem_cons_zero, List.getElem_cons_succ, Act.put, List.setIfInBounds_toArray, List.set_cons_zero, List.set_cons_succ]
  refine wpAnyK_take (i := 4) (v := .pointer (some ⟨br, 0, none⟩)) rfl (by kernel_rfl) (by kernel_rfl) (by kernel_rfl) (by kernel_rfl) (fun _ _ _ h => h) (Or.inl ⟨by rfl, fun w hSw => by go_simp⟩) hHeld ?_
  simp only [List.getElem_toArray, List.getElem_cons_zero, List.getElem_cons_succ, Act.put, List.setIfInBounds_toArray, List.set_cons_zero, List.set_cons_succ]
  refine wpAnyK_take (i := 5) (v := .pointer (some ⟨br, 0, none⟩)) rfl (by kernel_rfl) (by kernel_rfl) (by kernel_rfl) (by kernel_rfl) (fun _ _ _ h => h) (Or.inl ⟨by rfl, fun w hSw => by go_simp⟩) hHeld ?_
  simp only [List.getElem_toArray, List.getElem_cons_zero, List.getElem_cons_succ, Act.put, List.setIfInBounds_toArray, List.set_cons_zero, List.set_cons_succ]
  refine wpAnyK_take (i := 6) (v := .pointer (some ⟨br, 1, none⟩)) rfl (by kernel_rfl) (by kernel_rfl) (by kernel_rfl) (by kernel_rfl) (fun _ _ _ h => h) (Or.inl ⟨by rfl, fun w hSw => by go_simp⟩) hHeld ?_
  simp only [List.getElem_toArray, List.getElem_cons_zero, List.getElem_cons_succ, Act.put, List.setIfInBounds_toArray, List.set_cons_zero, List.set_cons_succ]
  refine wpAnyK_take (i := 7) (v := .int .i64 (at_ : Int)) rfl (by kernel_rfl) (by kernel_rfl) (by kernel_rfl) (by kernel_rfl) (fun _ _ _ h => h) (Or.inl ⟨by rfl, fun w hSw => by go_simp⟩) hHeld ?_
  simp only [List.getElem_toArray, List.getElem_cons_zero, List.getElem_cons_succ, Act.put, List.setIfInBounds_toArray, List.set_cons_zero, List.set_cons_succ]
  refine wpAnyK_take (i := 8) (v := .slice za at_ zc) rfl (by kernel_rfl) (by kernel_rfl) (by kernel_rfl) (by kernel_rfl) (fun _ _ _ h => h) (Or.inl ⟨by rfl, fun w hSw => by go_simp⟩) hHeld ?_
  simp only [List.getElem_toArray, List.getElem_cons_zero, List.getElem_cons_succ, Act.put, List.setIfInBounds_toArray, List.set_cons_zero, List.set_cons_succ]
  refine wpAnyK_one (i := 9) (by kernel_rfl) rfl (fun K hK => ?_)
  (try simp only [List.getElem_toArray, List.getElem_cons_zero, List.getElem_cons_succ, Act.put, List.setIfInBounds_toArray, List.set_cons_zero, List.set_cons_succ])
  go_simp
  refine hK.out _ _ (fun _ => HS.out) (fun hHeld0 => ?_)
  clear hHeld0 hK K
  (try simp only [List.getElem_toArray, List.getElem_cons_zero, List.getElem_cons_succ, Act.put, List.setIfInBounds_toArray, List.set_cons_zero, List.set_cons_succ])
  refine wpAnyK_done (by kernel_rfl) ?_ _
  go_wp2_with fail
  refine W.mono ?_
  rintro e1 w1 ⟨rfl, q1, k1⟩
  have k1' : Kp (fun k => k = br) w w1 := (Kp.of_below ((Below.refl _ _).drew)).trans k1 (fun _ _ x => x)
  have SM := HSM.out w1 k1'
  have HKA : Hid (Kp (fun k => k = br) w (w1.alloc (.cells #[.slice za at_ zc] 25))) := k1'.trans (Kp.alloc w1 _) (fun _ _ x => x)
  have HQA : Hid (Rq18 (w1.alloc (.cells #[.slice za at_ zc] 25)) br za zn zc (at_ + 4)) := (((Below.refl _ _).alloc (Nat.le_refl _) _).block _ (Array.getElem?_eq_some_iff.1 q1).1).trans q1
  clear q1 k1 k1'
  go_wp2_with fail
  refine SM.mono ?_
  rintro e2 w2 ⟨rfl, hw2⟩
  subst w2
  go_wp2_with fail
  go_end0
  exact ⟨rfl, HQA.out, HKA.out⟩
set_option maxRecDepth 100000 in
set_option maxHeartbeats 4000000 in
theorem psm18_bad (br : Nat) (za : Option Addr) (zc : Nat) (z : List Int) (at_ : Nat) (w : World) (ht : Tab w) (hbr : br ≠ 0) (h : Rq18 w br za z.length zc at_) (hz : Seg w za z) (hzb : ∀ x off, za = some ⟨x, off, none⟩ → 0 < z.length → x ≠ br) (hl : z.length ≤ 140737488355328) (hc : z.length ≤ zc) (hn : at_ + 4 ≤ z.length) (hs : ¬ Su18 z at_) :
    Calls Tryz.prog 33 #[.pointer (some ⟨br, 0, none⟩)] w fun e w' => e = .panicked (pn18 183) ∧ Kp (fun k => k = br) w w' := by
  obtain ⟨zn, hzn⟩ : ∃ zn, zn = z.length := ⟨_, rfl⟩
  have HS : Hid (w.drew.cell? ⟨br, 0, none⟩ = some (.slice za zn zc) ∧ w.drew.cell? ⟨br, 1, none⟩ = some (.int .i64 (at_ : Int))) := by rw [hzn]; exact ⟨cell18 (W := w.drew) h rfl, cell18 (W := w.drew) h rfl⟩
  have W := pwd18 br za zc z at_ w.drew h hz.drew hzb hl hc hn
  have hai : (at_ : Int) ≤ (zc : Int) := by omega
  have HSM : Hid (∀ V, Kp (fun k => k = br) w V → Calls Tryz.prog 25 #[.slice (some ⟨V.heap.size, 0, none⟩) 1 1] (V.alloc (.cells #[.slice za at_ zc] 25)) fun e w' => e = .returned (.int .u32 (wI (sumW (z.take at_)))) ∧ w' = V.alloc (.cells #[.slice za at_ zc] 25)) := fun V hV => by
    have sg : Seg V za z := hz.kp hV (fun x off e hp => hzb x off e hp)
    have tb : Tab V := SegK.kp ht hV (fun x off e hp => by cases e; exact fun x => hbr x.symm)
    exact sum_one V V.heap.size at_ za (z.take at_) zc 1 25 tb (sg.take at_) rfl (by rw [List.length_take]; omega) (by rw [List.length_take]; omega)
  unfold Su18 at hs
  rw [← hzn] at W
  (try rw [← hzn])
  generalize wd18 z at_ = a at *
  generalize wI (sumW (z.take at_)) = b at *
  clear h hz hzb hl hc hn ht hbr hzn
  have hs2 : (a != b) = true := by simp [hs]
  go_enter Tryz.func33, Tryz.ntmps33
  go_wp2_with fail
  refine plain_region16 (fun V => V.cell? ⟨br, 0, none⟩ = some (.slice za zn zc) ∧ V.cell? ⟨br, 1, none⟩ = some (.int .i64 (at_ : Int))) 10 (by kernel_rfl) HS.out (fun hHeld => ?_)
  refine wpAnyK_take (i := 0) (v := .pointer (some ⟨br, 0, none⟩)) rfl (by kernel_rfl) (by kernel_rfl) (by kernel_rfl) (by kernel_rfl) (fun _ _ _ h => h) (Or.inl ⟨by rfl, fun w hSw => by go_simp⟩) hHeld ?_
  simp only [List.getElem_toArray, List.getElem_cons_zero, Act.put, List.setIfInBounds_toArray, List.set_cons_zero, List.set_cons_succ]
  refine wpAnyK_take (i := 1) (v := .pointer (some ⟨br, 0, none⟩)) rfl (by kernel_rfl) (by kernel_rfl) (by kernel_rfl) (by kernel_rfl) (fun _ _ _ h => h) (Or.inl ⟨by rfl, fun w hSw => by go_simp⟩) hHeld ?_
  simp only [List.getElem_toArray, List.getElem_cons_zero, List.getElem_cons_succ, Act.put, List.setIfInBounds_toArray, List.set_cons_zero, List.set_cons_succ]
  refine wpAnyK_take (i := 2) (v := .pointer (some ⟨br, 0, none⟩)) rfl (by kernel_rfl) (by kernel_rfl) (by kernel_rfl) (by kernel_rfl) (fun _ _ _ h => h) (Or.inl ⟨by rfl, fun w hSw => by go_simp⟩) hHeld ?_
  simp only [List.getElem_toArray, List.getElem_cons_zero, List.getElem_cons_succ, Act.put, List.setIfInBounds_toArray, List.set_cons_zero, List.set_cons_succ]
  refine wpAnyK_take (i := 3) (v := .slice za zn zc) rfl (by kernel_rfl) (by kernel_rfl) (by kernel_rfl) (by kernel_rfl) (fun _ _ _ h => h) (Or.inl ⟨by rfl, fun w hSw => by go_simp⟩) hHeld ?_
  simp only [List.getElem_toArray, List.getElem_cons_zero, List.getElem_cons_succ, Act.put, List.setIfInBounds_toArray, List.set_cons_zero, List.set_cons_succ]
  refine wpAnyK_take (i := 4) (v := .pointer (some ⟨br, 0, none⟩)) rfl (by kernel_rfl) (by kernel_rfl) (by kernel_rfl) (by kernel_rfl) (fun _ _ _ h => h) (Or.inl ⟨by rfl, fun w hSw => by go_simp⟩) hHeld ?_
  simp only [List.getElem_toArray, List.getElem_cons_zero, List.getElem_cons_succ, Act.put, List.setIfInBounds_toArray, List.set_cons_zero, List.set_cons_succ]
  refine wpAnyK_take (i := 5) (v := .pointer (some ⟨br, 0, none⟩)) rfl (by kernel_rfl) (by kernel_rfl) (by kernel_rfl) (by kernel_rfl) (fun _ _ _ h => h) (Or.inl ⟨by rfl, fun w hSw => by go_simp⟩) hHeld ?_
  simp only [List.getElem_toArray, List.getElem_cons_zero, List.getElem_cons_succ, Act.put, List.setIfInBounds_toArray, List.set_cons_zero, List.set_cons_succ]
  refine wpAnyK_take (i := 6) (v := .pointer (some ⟨br, 1, none⟩)) rfl (by kernel_rfl) (by kernel_rfl) (by kernel_rfl) (by kernel_rfl) (fun _ _ _ h => h) (Or.inl ⟨by rfl, fun w hSw => by go_simp⟩) hHeld ?_
  simp only [List.getElem_toArray, List.getElem_cons_zero, List.getElem_cons_succ, Act.put, List.setIfInBounds_toArray, List.set_cons_zero, List.set_cons_succ]
  refine wpAnyK_take (i := 7) (v := .int .i64 (at_ : Int)) rfl (by kernel_rfl) (by kernel_rfl) (by kernel_rfl) (by kernel_rfl) (fun _ _ _ h => h) (Or.inl ⟨by rfl, fun w hSw => by go_simp⟩) hHeld ?_
  simp only [List.getElem_toArray, List.getElem_cons_zero, List.getElem_cons_succ, Act.put, List.setIfInBounds_toArray, List.set_cons_zero, List.set_cons_succ]
  refine wpAnyK_take (i := 8) (v := .slice za at_ zc) rfl (by kernel_rfl) (by kernel_rfl) (by kernel_rfl) (by kernel_rfl) (fun _ _ _ h => h) (Or.inl ⟨by rfl, fun w hSw => by go_simp⟩) hHeld ?_
  simp only [List.getElem_toArray, List.getElem_cons_zero, List.getElem_cons_succ, Act.put, List.setIfInBounds_toArray, List.set_cons_zero, List.set_cons_succ]
  refine wpAnyK_one (i := 9) (by kernel_rfl) rfl (fun K hK => ?_)
  (try simp only [List.getElem_toArray, List.getElem_cons_zero, List.getElem_cons_succ, Act.put, List.setIfInBounds_toArray, List.set_cons_zero, List.set_cons_succ])
  go_simp
  refine hK.out _ _ (fun _ => HS.out) (fun hHeld0 => ?_)
  clear hHeld0 hK K
  (try simp only [List.getElem_toArray, List.getElem_cons_zero, List.getElem_cons_succ, Act.put, List.setIfInBounds_toArray, List.set_cons_zero, List.set_cons_succ])
  refine wpAnyK_done (by kernel_rfl) ?_ _
  go_wp2_with fail
  refine W.mono ?_
  rintro e1 w1 ⟨rfl, q1, k1⟩
  have k1' : Kp (fun k => k = br) w w1 := (Kp.of_below ((Below.refl _ _).drew)).trans k1 (fun _ _ x => x)
  have SM := HSM.out w1 k1'
  have HKA : Hid (Kp (fun k => k = br) w (w1.alloc (.cells #[.slice za at_ zc] 25))) := k1'.trans (Kp.alloc w1 _) (fun _ _ x => x)
  have HQA : Hid (Rq18 (w1.alloc (.cells #[.slice za at_ zc] 25)) br za zn zc (at_ + 4)) := (((Below.refl _ _).alloc (Nat.le_refl _) _).block _ (Array.getElem?_eq_some_iff.1 q1).1).trans q1
  clear q1 k1 k1'
  go_wp2_with fail
  refine SM.mono ?_
  rintro e2 w2 ⟨rfl, hw2⟩
  subst w2
  go_wp2_with fail
  exact ⟨rfl, rfl, HKA.out⟩
end Go.Proofs.YtalojcpgkgeofabGreatDoor
