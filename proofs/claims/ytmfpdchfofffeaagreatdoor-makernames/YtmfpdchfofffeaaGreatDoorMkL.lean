import Derived.Test.YtmfpdchfofffeaaGreatDoorMkK
namespace Go.Proofs.YtmfpdchfofffeaaGreatDoor
open Go.RowKit Go.Shelf
set_option linter.unusedVariables false
set_option linter.unusedSimpArgs false
set_option maxRecDepth 100000 in
theorem pnum20 (v : Int) (w : World) : Calls Tryz.prog 5 #[.int .i64 v] w fun e w' => e = .returned (.int .i64 v) ∧ w' = w := by
  go_enter Tryz.func5, Tryz.ntmps5
  go_wp2
  go_ret
  exact ⟨rfl, rfl⟩
set_option maxRecDepth 100000 in
set_option maxHeartbeats 4000000 in
theorem makerNames_walk (w : World) (ht : Tab w) : Calls Tryz.prog 3 #[] w fun e w' => e = .returned (.bool true) ∧ Below w.heap.size w w' := by
  obtain ⟨w1, hw1⟩ : ∃ w1, w1 = w.alloc (.cells #[.int .i64 200, .int .i64 201, .int .i64 202, .int .i64 203, .int .i64 204, .int .i64 205] 22) := ⟨_, rfl⟩
  have k1 := cb16 w #[.int .i64 200, .int .i64 201, .int .i64 202, .int .i64 203, .int .i64 204, .int .i64 205] 22
  rw [← hw1] at k1
  obtain ⟨g, hg⟩ : ∃ g, g = w.heap.size := ⟨_, rfl⟩
  have q1 := k1.cl
  rw [← hg] at q1
  have HW : Hid (w.alloc (.cells #[.int .i64 200, .int .i64 201, .int .i64 202, .int .i64 203, .int .i64 204, .int .i64 205] 22) = w1 ∧ w.heap.size = g) := ⟨hw1.symm, hg.symm⟩
  have HC : Hid (∀ i : Nat, i < 6 → w1.cell? ⟨g, i, none⟩ = some (.int .i64 (200 + (i : Int)))) := fun i hi => by
    rcases (by omega : i = 0 ∨ i = 1 ∨ i = 2 ∨ i = 3 ∨ i = 4 ∨ i = 5) with rfl | rfl | rfl | rfl | rfl | rfl <;> exact cell18 q1 rfl
  have HB : Hid (Below w.heap.size w w1 ∧ Tab w1) := ⟨k1.bl, ht.old k1.bl⟩
  clear hw1 k1 hg q1 ht
  go_enter Tryz.func3, Tryz.ntmps3
  go_wp2_with fail
  rw [HW.out.1, HW.out.2]
  go_loopw [2] (fun t2 V => ∃ i : Nat, i ≤ 6 ∧ t2 = .int .i64 (i : Int) ∧ V = w1) (fun t2 _ => 6 - (intOf t2).toNat)
  case atStart => exact ⟨0, by omega, rfl, rfl⟩
  case round =>
    obtain ⟨i, hi, rfl, hV⟩ := hrel
    subst wr
    by_cases h6 : i < 6
    · have hlt : (i : Int) < 6 := by omega
      have c := HC.out i h6
      have hw : IntKind.i64.wrap (200 + (i : Int)) = 200 + (i : Int) := IntWalk.i64_in _ (by omega)
      have hw2 : IntKind.i64.wrap ((i : Int) + 1) = (i : Int) + 1 := IntWalk.i64_in _ (by omega)
      have NU := pnum20 (200 + (i : Int)) w1
      go_wp2_with fail
      refine NU.mono ?_
      rintro e2 w2 ⟨rfl, hw2'⟩
      subst w2
      go_wp2_with fail
      go_roundw
      case rel => exact ⟨i + 1, by omega, by first | rfl | simp, by first | rfl | trivial⟩
      case measure => simp [intOf]; omega
    · have hge : ¬ (i : Int) < 6 := by omega
      go_wp2_with fail
      refine (pawk20 w1 HB.out.2).mono ?_
      rintro e3 w3 ⟨rfl, b3⟩
      have HP : Hid (Below w.heap.size w w3) := HB.out.1.trans (b3.mono HB.out.1.size)
      clear b3
      go_wp2_with fail
      go_ret
      exact ⟨rfl, HP.out⟩
end Go.Proofs.YtmfpdchfofffeaaGreatDoor
