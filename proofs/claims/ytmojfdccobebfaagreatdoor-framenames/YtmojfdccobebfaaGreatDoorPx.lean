import Derived.Test.YtmojfdccobebfaaGreatDoorPw
import Derived.Test.YtmojfdccobebfaaGreatDoorPg
import Derived.Laws.ResultCell
namespace Go.Proofs.YtmojfdccobebfaaGreatDoor
open Go.RowKit Go.Shelf
set_option linter.unusedVariables false

/-! awake. -/
set_option maxRecDepth 100000 in
theorem ppress18 (w : World) : Calls Tryz.prog 27 #[] w fun e w' => e = .returned (.agg #[.int .i64 100, .int .i64 10, .bool false, .int .i64 50]) ∧ Below w.heap.size w w' := by
  go_enter Tryz.func27, Tryz.ntmps27
  go_wp2
  have cP := cb16 w #[.int .i64 100, .int .i64 10, .bool false, .int .i64 50] 57
  refine bodyPost_ret (v := .agg #[.int .i64 100, .int .i64 10, .bool false, .int .i64 50]) (results_cell_row (fn := Tryz.f27) (p := 0) (ty := 57) rfl _ _ w.heap.size _ _ _ _ rfl cP.cl Tryz.underlying57 rfl (by kernel_rfl)) rfl ?_
  exact ⟨rfl, cP.bl⟩
set_option maxRecDepth 100000 in
theorem pnum18 (v : Int) (w : World) : Calls Tryz.prog 8 #[.int .i64 v] w fun e w' => e = .returned (.int .i64 v) ∧ w' = w := by
  go_enter Tryz.func8, Tryz.ntmps8
  go_wp2
  go_ret
  exact ⟨rfl, rfl⟩
def nine18 : List Int := [83, 65, 80, 82, 1, 0, 0, 64, 100]
theorem nine18_take : (sum18 (hd18 h018)).take 9 = nine18 := by
  have e : sum18 (hd18 h018) = nine18 ++ (([0, 0, 0, 0, 0, 0, 0, 0] : List Int) ++ fixL 4 (wI (sumW (hd18 h018)))) := rfl
  rw [e]
  exact List.take_left' rfl
theorem len18a : (sum18 (hd18 h018)).length = 21 := by rw [sum18_len]; rfl
theorem len18b : (sum18 (sum18 (hd18 h018))).length = 25 := by rw [sum18_len, len18a]
theorem nine18_seg (w : World) : Seg (w.alloc (.cells #[.int .u8 83, .int .u8 65, .int .u8 80, .int .u8 82, .int .u8 1, .int .u8 0, .int .u8 0, .int .u8 64, .int .u8 100] 5 (9, 10))) (some ⟨w.heap.size, 0, none⟩) nine18 :=
  seg_lit w nine18 5 (9, 10) (by decide)
set_option maxRecDepth 100000 in
set_option maxHeartbeats 4000000 in
theorem pawk18 (w : World) (ht : Tab w) : Calls Tryz.prog 9 #[] w fun e w' => e = .returned (.bool true) ∧ Below w.heap.size w w' := by
  obtain ⟨wA, b4, X⟩ := bx18 w h018
  have HWA : Hid (w.alloc (.cells #[.int .i64 0, .int .i64 0, .int .u32 0, .int .u32 0, .int .i64 64, .int .i64 100] 24) = wA) := X.wa
  have HB : Hid (w.heap.size = b4) := X.b
  have HA : Hid (Below w.heap.size w wA) := X.bl
  have HC : Hid (∀ V, Below wA.heap.size wA V → V.cell? ⟨b4, 0, none⟩ = some (.int .i64 0) ∧ V.cell? ⟨b4, 1, none⟩ = some (.int .i64 0) ∧ V.cell? ⟨b4, 2, none⟩ = some (.int .u32 0) ∧ V.cell? ⟨b4, 3, none⟩ = some (.int .u32 0) ∧ V.cell? ⟨b4, 4, none⟩ = some (.int .i64 64) ∧ V.cell? ⟨b4, 5, none⟩ = some (.int .i64 100)) := fun V hV => by
    have c := X.cl hV
    exact ⟨c.c0, c.c1, c.c2, c.c3, c.c4, c.c5⟩
  have HT : Hid (∀ V, Below wA.heap.size wA V → Tab V) := fun V hV => (ht.old X.bl).old hV
  have HD := phead18 h018 wA (ht.old X.bl) (by unfold h018; decide) (by unfold h018; decide)
  rw [show hh18 h018 = sum18 (hd18 h018) by unfold hh18; rw [if_pos h018_ok], show he18 h018 = 0 by unfold he18; rw [if_pos h018_ok]] at HD
  have HD : Hid (Calls Tryz.prog 13 #[.agg #[.int .i64 0, .int .i64 0, .int .u32 0, .int .u32 0, .int .i64 64, .int .i64 100]] wA (HdQ18 wA (sum18 (hd18 h018)) 0)) := HD
  have HEN : Hid (∀ V, Below wA.heap.size wA V → Calls Tryz.prog 26 #[.agg #[.int .i64 0, .int .i64 0, .int .u32 0, .int .u32 0, .int .i64 64, .int .i64 100], .agg #[.int .i64 100, .int .i64 10, .bool false, .int .i64 50], .slice none 0 0] V (HdQ18 V (sum18 (sum18 (hd18 h018))) 0)) := fun V hV => penc18 V (HT.out V hV)
  have HBD : Hid (∀ z ∈ sum18 (hd18 h018), 0 ≤ z ∧ z ≤ 255) := sum18_bd (hd18_bd h018_ok)
  have HLA : Hid ((sum18 (hd18 h018)).length = 21 ∧ (sum18 (sum18 (hd18 h018))).length = 25 ∧ (sum18 (hd18 h018)).take 9 = nine18) := ⟨len18a, len18b, nine18_take⟩
  generalize hM : sum18 (sum18 (hd18 h018)) = M at *
  generalize sum18 (hd18 h018) = L at *
  clear X ht hM
  go_enter Tryz.func9, Tryz.ntmps9
  go_wp2_with fail
  rw [HWA.out, HB.out]
  refine HD.out.mono ?_
  rintro e1 w1 ⟨p1, c1, rfl, o1, b1⟩
  obtain ⟨-, a1, c1', hv1, sg1, -, hc1, -⟩ := own_seg o1 (M := 255) (by decide) HBD.out
  injection hv1 with h1 h2 h3
  subst h1
  rw [HLA.out.1]
  have HB1 : Hid (Below wA.heap.size wA w1) := b1
  have HS1 : Hid (Seg w1 p1 L) := sg1
  have hc9 : 21 ≤ c1 := by have := HLA.out.1; omega
  clear o1 b1 hc1 sg1 h2 h3 HD
  go_wp2_with fail
  have HD1 : Hid (Below wA.heap.size wA w1.drew) := HB1.out.drew
  refine plain_region16 (fun V => V.cell? ⟨b4, 0, none⟩ = some (.int .i64 0) ∧ V.cell? ⟨b4, 1, none⟩ = some (.int .i64 0) ∧ V.cell? ⟨b4, 2, none⟩ = some (.int .u32 0) ∧ V.cell? ⟨b4, 3, none⟩ = some (.int .u32 0) ∧ V.cell? ⟨b4, 4, none⟩ = some (.int .i64 64) ∧ V.cell? ⟨b4, 5, none⟩ = some (.int .i64 100)) 7 (by kernel_rfl) (HC.out _ HD1.out) (fun hHeld => ?_)
  refine wpAnyK_take (i := 0) (v := .agg #[.int .i64 0, .int .i64 0, .int .u32 0, .int .u32 0, .int .i64 64, .int .i64 100]) rfl (by kernel_rfl) (by kernel_rfl) (by kernel_rfl) (by kernel_rfl) (fun _ _ _ h => h) (Or.inl ⟨by rfl, fun w hSw => by go_simp⟩) hHeld ?_
  simp only [List.getElem_toArray, List.getElem_cons_zero, Act.put, List.setIfInBounds_toArray, List.set_cons_zero, List.set_cons_succ]
  refine wpAnyK_one (i := 1) (by kernel_rfl) rfl (fun K hK => ?_)
  (try simp only [List.getElem_toArray, List.getElem_cons_zero, List.getElem_cons_succ, Act.put, List.setIfInBounds_toArray, List.set_cons_zero, List.set_cons_succ])
  go_simp
  refine (ppress18 w1.drew).mono ?_
  rintro e2 w2 ⟨rfl, b2⟩
  have HB2 : Hid (Below wA.heap.size wA w2) := HD1.out.trans (b2.mono HD1.out.size)
  refine hK.out _ _ (fun _ => HC.out w2 HB2.out) (fun hHeld0 => ?_)
  have hHeld := hHeld0 (by decide)
  clear hHeld0 hK K
  (try simp only [List.getElem_toArray, List.getElem_cons_zero, List.getElem_cons_succ, Act.put, List.setIfInBounds_toArray, List.set_cons_zero, List.set_cons_succ])
  refine wpAnyK_one (i := 2) (by kernel_rfl) rfl (fun K hK => ?_)
  (try simp only [List.getElem_toArray, List.getElem_cons_zero, List.getElem_cons_succ, Act.put, List.setIfInBounds_toArray, List.set_cons_zero, List.set_cons_succ])
  go_simp
  refine (HEN.out w2 HB2.out).mono ?_
  rintro e3 w3 ⟨p3, c3, rfl, o3, b3⟩
  have HB3 : Hid (Below wA.heap.size wA w3) := HB2.out.trans (b3.mono HB2.out.size)
  have HS3 : Hid (Seg w3 p1 L) := (HS1.out.drew.old b2).old b3
  clear o3
  rw [HLA.out.2.1]
  refine hK.out _ _ (fun _ => HC.out w3 HB3.out) (fun hHeld0 => ?_)
  have hHeld := hHeld0 (by decide)
  clear hHeld0 hK K
  (try simp only [List.getElem_toArray, List.getElem_cons_zero, List.getElem_cons_succ, Act.put, List.setIfInBounds_toArray, List.set_cons_zero, List.set_cons_succ])
  refine wpAnyK_one (i := 3) (by kernel_rfl) rfl (fun K hK => ?_)
  (try simp only [List.getElem_toArray, List.getElem_cons_zero, List.getElem_cons_succ, Act.put, List.setIfInBounds_toArray, List.set_cons_zero, List.set_cons_succ])
  go_simp
  refine hK.out _ _ (fun _ => HC.out w3 HB3.out) (fun hHeld0 => ?_)
  have hHeld := hHeld0 (by decide)
  clear hHeld0 hK K
  (try simp only [List.getElem_toArray, List.getElem_cons_zero, List.getElem_cons_succ, Act.put, List.setIfInBounds_toArray, List.set_cons_zero, List.set_cons_succ])
  refine wpAnyK_take (i := 4) (v := .slice p3 25 c3) rfl (by kernel_rfl) (by kernel_rfl) (by kernel_rfl) (by kernel_rfl) (fun _ _ _ h => h) (Or.inl ⟨by rfl, fun w hSw => by go_simp⟩) hHeld ?_
  simp only [List.getElem_toArray, List.getElem_cons_zero, List.getElem_cons_succ, Act.put, List.setIfInBounds_toArray, List.set_cons_zero, List.set_cons_succ]
  refine wpAnyK_take (i := 5) (v := .int .i64 0) rfl (by kernel_rfl) (by kernel_rfl) (by kernel_rfl) (by kernel_rfl) (fun _ _ _ h => h) (Or.inl ⟨by rfl, fun w hSw => by go_simp⟩) hHeld ?_
  simp only [List.getElem_toArray, List.getElem_cons_zero, List.getElem_cons_succ, Act.put, List.setIfInBounds_toArray, List.set_cons_zero, List.set_cons_succ]
  refine wpAnyK_one (i := 6) (by kernel_rfl) rfl (fun K hK => ?_)
  (try simp only [List.getElem_toArray, List.getElem_cons_zero, List.getElem_cons_succ, Act.put, List.setIfInBounds_toArray, List.set_cons_zero, List.set_cons_succ])
  go_simp
  refine hK.out _ _ (fun _ => HC.out w3 HB3.out) (fun hHeld0 => ?_)
  have hHeld := hHeld0 (by decide)
  clear hHeld0 hK K
  (try simp only [List.getElem_toArray, List.getElem_cons_zero, List.getElem_cons_succ, Act.put, List.setIfInBounds_toArray, List.set_cons_zero, List.set_cons_succ])
  refine wpAnyK_one (i := 7) (by kernel_rfl) rfl (fun K hK => ?_)
  (try simp only [List.getElem_toArray, List.getElem_cons_zero, List.getElem_cons_succ, Act.put, List.setIfInBounds_toArray, List.set_cons_zero, List.set_cons_succ])
  go_simp
  refine hK.out _ _ (fun _ => HC.out w3 HB3.out) (fun hHeld0 => ?_)
  clear hHeld0 hK K
  (try simp only [List.getElem_toArray, List.getElem_cons_zero, List.getElem_cons_succ, Act.put, List.setIfInBounds_toArray, List.set_cons_zero, List.set_cons_succ])
  refine wpAnyK_done (by kernel_rfl) ?_ _
  have hcv := Lib.run_convert_bytes_const (P := Tryz.prog) w3 30 5 #[.int .u8 83, .int .u8 65, .int .u8 80, .int .u8 82, .int .u8 1, .int .u8 0, .int .u8 0, .int .u8 64, .int .u8 100] 9 9 Tryz.underlying30 Tryz.underlying5
  have hcp : ((9 : Int) ≤ (c1 : Int)) := by omega
  obtain ⟨wM, hwM⟩ : ∃ wM, wM = w3.alloc (.cells #[.int .u8 83, .int .u8 65, .int .u8 80, .int .u8 82, .int .u8 1, .int .u8 0, .int .u8 0, .int .u8 64, .int .u8 100] 5 (9, 10)) := ⟨_, rfl⟩
  have bM : Below w3.heap.size w3 wM := by rw [hwM]; exact (Below.refl _ _).alloc (Nat.le_refl _) _
  have sM := nine18_seg w3
  rw [← hwM] at sM
  have sL := (HS3.out.old bM).take 9
  rw [HLA.out.2.2] at sL
  have SM := lsame18 p1 (some ⟨w3.heap.size, 0, none⟩) nine18 nine18 c1 9 wM sL sM
  rw [show (nine18 == nine18) = true by decide] at SM
  have SM : Hid (Calls Tryz.prog 21 #[.slice p1 9 c1, .slice (some ⟨w3.heap.size, 0, none⟩) 9 9] wM fun e w' => e = .returned (.bool true) ∧ w' = wM) := SM
  have HWM : Hid (w3.alloc (.cells #[.int .u8 83, .int .u8 65, .int .u8 80, .int .u8 82, .int .u8 1, .int .u8 0, .int .u8 0, .int .u8 64, .int .u8 100] 5 (9, 10)) = wM) := hwM.symm
  have HBM : Hid (Below wA.heap.size wA wM) := HB3.out.trans (bM.mono HB3.out.size)
  clear hwM bM sM sL b2 b3
  go_wp2_with fail
  rw [HWM.out]
  refine SM.out.mono ?_
  rintro e5 w5 ⟨rfl, hw5⟩
  subst w5
  go_wp2_with fail
  go_ret
  exact ⟨rfl, HA.out.trans (HBM.out.mono HA.out.size)⟩
end Go.Proofs.YtmojfdccobebfaaGreatDoor

namespace Go.Proofs.YtmojfdccobebfaaGreatDoor
open Go.RowKit Go.Shelf
set_option linter.unusedVariables false

/-! FrameNames. -/
def h118 : Hd18 := ⟨0, 130, 0, 0, 64, 100⟩
theorem h118_ok : h118.Ok := by unfold Hd18.Ok h118; decide
theorem h118_win : win18 h118 = 3 := by unfold win18; rw [if_pos h118_ok]; rfl
theorem h118_s0 : siz18 h118 0 = 64 := by unfold siz18; rw [h118_win, if_neg (by omega)]; rfl
theorem h118_s2 : siz18 h118 2 = 2 := by unfold siz18; rw [h118_win, if_neg (by omega)]; rfl
theorem h118_s3 : siz18 h118 3 = 0 := by unfold siz18; rw [h118_win, if_pos (by omega)]
set_option maxRecDepth 100000 in
set_option maxHeartbeats 4000000 in
theorem frameNames_walk (w : World) (ht : Tab w) : Calls Tryz.prog 3 #[] w fun e w' => e = .returned (.bool true) ∧ Below w.heap.size w w' := by
  obtain ⟨wA, b4, X⟩ := bx18 w h118
  have HWA : Hid (w.alloc (.cells #[.int .i64 0, .int .i64 130, .int .u32 0, .int .u32 0, .int .i64 64, .int .i64 100] 24) = wA) := X.wa
  have HB : Hid (w.heap.size = b4) := X.b
  have HA : Hid (Below w.heap.size w wA) := X.bl
  have HC : Hid (∀ V, Below wA.heap.size wA V → V.cell? ⟨b4, 0, none⟩ = some (.int .i64 0) ∧ V.cell? ⟨b4, 1, none⟩ = some (.int .i64 130) ∧ V.cell? ⟨b4, 2, none⟩ = some (.int .u32 0) ∧ V.cell? ⟨b4, 3, none⟩ = some (.int .u32 0) ∧ V.cell? ⟨b4, 4, none⟩ = some (.int .i64 64) ∧ V.cell? ⟨b4, 5, none⟩ = some (.int .i64 100)) := fun V hV => by
    have c := X.cl hV
    exact ⟨c.c0, c.c1, c.c2, c.c3, c.c4, c.c5⟩
  have AW := pawk18 wA (ht.old X.bl)
  have HPW : Hid (∀ V, Calls Tryz.prog 10 #[.agg #[.int .i64 0, .int .i64 130, .int .u32 0, .int .u32 0, .int .i64 64, .int .i64 100]] V fun e w' => e = .returned (.int .i64 3) ∧ Below V.heap.size V w') := fun V => by
    have := pwin18 h118 V
    rw [h118_win] at this
    exact this
  have HP0 : Hid (∀ V, Calls Tryz.prog 11 #[.agg #[.int .i64 0, .int .i64 130, .int .u32 0, .int .u32 0, .int .i64 64, .int .i64 100], .int .i64 0] V fun e w' => e = .returned (.int .i64 64) ∧ Below V.heap.size V w') := fun V => by
    have := psiz18 h118 0 V
    rw [h118_s0] at this
    exact this
  have HP2 : Hid (∀ V, Calls Tryz.prog 11 #[.agg #[.int .i64 0, .int .i64 130, .int .u32 0, .int .u32 0, .int .i64 64, .int .i64 100], .int .i64 2] V fun e w' => e = .returned (.int .i64 2) ∧ Below V.heap.size V w') := fun V => by
    have := psiz18 h118 2 V
    rw [h118_s2] at this
    exact this
  have HP3 : Hid (∀ V, Calls Tryz.prog 11 #[.agg #[.int .i64 0, .int .i64 130, .int .u32 0, .int .u32 0, .int .i64 64, .int .i64 100], .int .i64 3] V fun e w' => e = .returned (.int .i64 0) ∧ Below V.heap.size V w') := fun V => by
    have := psiz18 h118 3 V
    rw [h118_s3] at this
    exact this
  clear X ht
  go_enter Tryz.func3, Tryz.ntmps3
  go_wp2_with fail
  rw [HWA.out, HB.out]
  refine (pnum18 180 wA).mono ?_
  rintro e1 w1 ⟨rfl, hw1⟩
  subst w1
  go_wp2_with fail
  refine (pnum18 181 wA).mono ?_
  rintro e1 w1 ⟨rfl, hw1⟩
  subst w1
  go_wp2_with fail
  refine (pnum18 182 wA).mono ?_
  rintro e1 w1 ⟨rfl, hw1⟩
  subst w1
  go_wp2_with fail
  refine (pnum18 183 wA).mono ?_
  rintro e1 w1 ⟨rfl, hw1⟩
  subst w1
  go_wp2_with fail
  refine AW.mono ?_
  rintro e2 w2 ⟨rfl, b2⟩
  have HB2 : Hid (Below wA.heap.size wA w2) := b2
  clear AW b2
  obtain ⟨a0, a1, a2, a3, a4, a5⟩ := HC.out w2 HB2.out
  go_wp2_with fail
  refine (HPW.out w2).mono ?_
  rintro e3 w3 ⟨rfl, b3⟩
  have HB3 : Hid (Below wA.heap.size wA w3) := HB2.out.trans (b3.mono HB2.out.size)
  clear a0 a1 a2 a3 a4 a5 b3
  obtain ⟨a0, a1, a2, a3, a4, a5⟩ := HC.out w3 HB3.out
  go_wp2_with fail
  refine (HP0.out w3).mono ?_
  rintro e4 w4 ⟨rfl, b4'⟩
  have HB4 : Hid (Below wA.heap.size wA w4) := HB3.out.trans (b4'.mono HB3.out.size)
  clear a0 a1 a2 a3 a4 a5 b4'
  obtain ⟨a0, a1, a2, a3, a4, a5⟩ := HC.out w4 HB4.out
  go_wp2_with fail
  refine (HP2.out w4).mono ?_
  rintro e5 w5 ⟨rfl, b5⟩
  have HB5 : Hid (Below wA.heap.size wA w5) := HB4.out.trans (b5.mono HB4.out.size)
  clear a0 a1 a2 a3 a4 a5 b5
  obtain ⟨a0, a1, a2, a3, a4, a5⟩ := HC.out w5 HB5.out
  go_wp2_with fail
  refine (HP3.out w5).mono ?_
  rintro e6 w6 ⟨rfl, b6⟩
  have HB6 : Hid (Below wA.heap.size wA w6) := HB5.out.trans (b6.mono HB5.out.size)
  clear a0 a1 a2 a3 a4 a5 b6
  go_wp2_with fail
  go_ret
  exact ⟨rfl, HA.out.trans (HB6.out.mono HA.out.size)⟩
end Go.Proofs.YtmojfdccobebfaaGreatDoor
