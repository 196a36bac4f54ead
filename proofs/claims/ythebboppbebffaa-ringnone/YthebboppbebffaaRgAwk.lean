
import Derived.Test.YthebboppbebffaaRgI
namespace Go.Proofs.Ythebboppbebffaa
open Go.RowKit
set_option linter.unusedVariables false

theorem seg_litB (w : World) (zs : List Int) (hz : ∀ z ∈ zs, 0 ≤ z ∧ z ≤ 255) : Seg (w.alloc (.cells (zs.map (Value.int .u8)).toArray 5)) (some ⟨w.heap.size, 0, none⟩) zs := by
  refine ⟨fun i hi => ⟨w.heap.size, 0, rfl, ?_⟩, by decide, getD_bd (by decide) hz⟩
  rw [cell_of_row _ _ (0 + i) _ _ (0, 0) (heap_alloc_new w _), Nat.zero_add]
  simp [List.getD, hi]
set_option maxRecDepth 100000 in
set_option maxHeartbeats 2000000 in
theorem awake6_any (w : World) : Calls Try.prog 10 #[] w fun e w' => e = .returned (.bool true) ∧ Below w.heap.size w w' := by
  go_enter Try.func10, Try.ntmps10
  go_wp2_with fail
  refine (pnew_ok 4 (by omega) (by omega) w).mono ?_
  rintro e w1 ⟨b, F, rfl, R1, B1, FN⟩
  have s1 := seg_litB w1 [1, 2] (by decide)
  have b2 : Below w1.heap.size w1 (w1.alloc (.cells ([1, 2].map (Value.int .u8)).toArray 5)) := (Below.refl _ _).alloc (Nat.le_refl _) _
  have R2 := R1.old b2
  have hlt := R1.lt
  have CP := pput_any (some ⟨w1.heap.size, 0, none⟩) [1, 2] 2 2 rfl R2 s1 (by omega) (by intro h; cases h) (fun g off e _ hF => by cases e; have := hlt _ hF; omega) (by simp)
  go_wp2_with fail
  refine CP.mono ?_
  rintro e w3 ⟨rfl, F3, R3, K3, P3⟩
  rw [List.nil_append] at R3
  have x2 : Below w.heap.size w (w1.alloc (.cells ([1, 2].map (Value.int .u8)).toArray 5)) := B1.trans (b2.mono B1.size)
  have x3 : Below w.heap.size w w3 := x2.trans (K3.below FN x2.size)
  have FN3 : ∀ k, F3 k → w.heap.size ≤ k := fun k h => by
    rcases P3 k h with e | e
    · exact FN k e
    · have := x2.size; omega
  clear CP K3 P3 R2 R1 s1 b2 hlt
  go_wp2_with fail
  refine (pcopy_ok 2 5 R3 (by simp) (by unfold copyOk; decide)).mono ?_
  rintro e w4 ⟨oa, oc, F4, rfl, O4, R4, K4, P4, J4⟩
  have ho : cpyO [1, 2] 2 5 = [1, 2, 1, 2, 1] := by decide
  have hA : (cpyA [1, 2] 2 5).length = 7 := by decide
  rw [ho] at O4
  obtain ⟨_, a', c', hv, so, _⟩ := own_seg O4 (M := 255) (by decide) (by decide)
  cases hv
  have x4 : Below w.heap.size w w4 := x3.trans (K4.below FN3 x3.size)
  have s5 := seg_litB w4 [1, 2, 1, 2, 1] (by decide)
  have b5 : Below w4.heap.size w4 (w4.alloc (.cells ([1, 2, 1, 2, 1].map (Value.int .u8)).toArray 5)) := (Below.refl _ _).alloc (Nat.le_refl _) _
  have so5 := so.old b5
  have R5 := R4.old b5
  have x5 := x4.trans (b5.mono x4.size)
  have CS := same6_any oa (some ⟨w4.heap.size, 0, none⟩) [1, 2, 1, 2, 1] [1, 2, 1, 2, 1] oc 5 _ so5 s5
  have CT := ptotal_any R5 (by rw [hA]; omega)
  rw [hA] at CT
  have HX5 : Hid _ := x5
  clear O4 R4 K4 P4 J4 so x3 FN3 R3 x4 ho hA
  go_wp2_with fail
  refine CS.mono ?_
  rintro e w6 ⟨rfl, hw6⟩
  subst w6
  go_wp2_with fail
  refine CT.mono ?_
  rintro e w7 ⟨rfl, B7⟩
  go_wp2
  go_ret
  exact ⟨rfl, HX5.out.trans (B7.mono HX5.out.size)⟩
end Go.Proofs.Ythebboppbebffaa
