
import Derived.Test.YtbjfccebngfpoabCdQ
namespace Go.Proofs.Ytbjfccebngfpoab
open Go.RowKit
set_option linter.unusedVariables false

def ZE : Array Value := #[.bool false, .slice none 0 0, .slice none 0 0]
def Z306 : Array Value := arr (dl 0 [] Z288)
theorem info113 : (Try.prog.info? 41).map (fun i => (i.zero, i.size)) = some (some (.agg Z306), 306) := by kernel_rfl
set_option maxRecDepth 100000 in
theorem eput_nil (bw : Nat) (s : Int) (w : World) : Calls Try.prog 10 #[.pointer none, .pointer (some ⟨bw, 0, none⟩), .int .i64 s] w fun e w' => e = .returned (.int .i64 2) ∧ w' = w := by
  go_enter Try.func10, Try.ntmps10
  go_wp2_with fail
  go_ret
  exact ⟨rfl, rfl⟩
set_option maxRecDepth 100000 in
theorem eput_zero (b bw : Nat) (s : Int) (w : World) (h : w.cell? ⟨b, 0, none⟩ = some (.bool false)) : Calls Try.prog 10 #[.pointer (some ⟨b, 0, none⟩), .pointer (some ⟨bw, 0, none⟩), .int .i64 s] w fun e w' => e = .returned (.int .i64 2) ∧ w' = w := by
  go_enter Try.func10, Try.ntmps10
  go_wp2_with fail
  go_ret
  exact ⟨rfl, rfl⟩
set_option maxRecDepth 100000 in
theorem ecost_nil (s : Int) (w : World) : Calls Try.prog 11 #[.pointer none, .int .i64 s] w fun e w' => e = .returned (.int .i64 0) ∧ w' = w := by
  go_enter Try.func11, Try.ntmps11
  go_wp2_with fail
  go_ret
  exact ⟨rfl, rfl⟩
set_option maxRecDepth 100000 in
theorem ecost_zero (b : Nat) (s : Int) (w : World) (h : w.cell? ⟨b, 1, none⟩ = some (.slice none 0 0)) : Calls Try.prog 11 #[.pointer (some ⟨b, 0, none⟩), .int .i64 s] w fun e w' => e = .returned (.int .i64 0) ∧ w' = w := by
  by_cases h0 : s < 0
  · go_enter Try.func11, Try.ntmps11
    go_wp2_with fail
    go_ret
    exact ⟨rfl, rfl⟩
  · go_enter Try.func11, Try.ntmps11
    go_wp2_with fail
    go_ret
    exact ⟨rfl, rfl⟩
set_option maxRecDepth 100000 in
theorem dnext_nil (br : Nat) (w : World) : Calls Try.prog 13 #[.pointer none, .pointer (some ⟨br, 0, none⟩)] w fun e w' => e = .returned (.tuple #[.int .i64 0, .bool false, .int .i64 2]) ∧ w' = w := by
  go_enter Try.func13, Try.ntmps13
  go_wp2_with fail
  go_ret3
  exact ⟨rfl, rfl⟩
set_option maxRecDepth 100000 in
theorem dnext_zero (b br : Nat) (w : World) (h : w.cell? ⟨b, 0, none⟩ = some (.int .i64 0)) : Calls Try.prog 13 #[.pointer (some ⟨b, 0, none⟩), .pointer (some ⟨br, 0, none⟩)] w fun e w' => e = .returned (.tuple #[.int .i64 0, .bool false, .int .i64 2]) ∧ w' = w := by
  go_enter Try.func13, Try.ntmps13
  go_wp2_with fail
  go_ret3
  exact ⟨rfl, rfl⟩
set_option maxRecDepth 100000 in
theorem dload_nil (a : Option Addr) (n c : Nat) (w : World) : Calls Try.prog 14 #[.pointer none, .slice a n c] w fun e w' => e = .returned (.int .i64 2) ∧ w' = w := by
  go_enter Try.func14, Try.ntmps14
  go_wp2_with fail
  go_ret
  exact ⟨rfl, rfl⟩
set_option maxRecDepth 100000 in
theorem dload_zero (b : Nat) (a : Option Addr) (n c : Nat) (w : World) (h : w.cell? ⟨b, 0, none⟩ = some (.int .i64 0)) : Calls Try.prog 14 #[.pointer (some ⟨b, 0, none⟩), .slice a n c] w fun e w' => e = .returned (.int .i64 2) ∧ w' = w := by
  go_enter Try.func14, Try.ntmps14
  go_wp2_with fail
  go_ret
  exact ⟨rfl, rfl⟩
set_option maxRecDepth 100000 in
theorem droom_nil (w : World) : Calls Try.prog 15 #[.pointer none] w fun e w' => e = .returned (.int .i64 0) ∧ w' = w := by
  go_enter Try.func15, Try.ntmps15
  go_wp2_with fail
  go_ret
  exact ⟨rfl, rfl⟩
set_option maxRecDepth 100000 in
theorem droom_zero (b : Nat) (w : World) (h : w.cell? ⟨b, 0, none⟩ = some (.int .i64 0)) : Calls Try.prog 15 #[.pointer (some ⟨b, 0, none⟩)] w fun e w' => e = .returned (.int .i64 0) ∧ w' = w := by
  go_enter Try.func15, Try.ntmps15
  go_wp2_with fail
  go_ret
  exact ⟨rfl, rfl⟩

set_option maxRecDepth 100000 in
set_option maxHeartbeats 1000000 in
theorem codeMade_walk (w : World) (a : Option Addr) (zs : List Int) (ca : Nat) (hs : SegZ w a zs) (hc : zs.length ≤ ca) (hn : a = none → ca = 0) (hl : zs.length * 8 ≤ 140737488351232) (s : Int) (hs0 : -9223372036854775808 ≤ s) (hs1 : s ≤ 9223372036854775807) :
    Calls Try.prog 4 #[.slice a zs.length ca, .int .i64 s] w fun e w' => e = .returned (.bool true) ∧ Below w.heap.size w w' := by
  obtain ⟨hz113, hs113⟩ := zero_of_info info113
  generalize zs.length = n at *
  go_enter Try.func4, Try.ntmps4
  go_wp2_with fail
  have hx1 := heap_new w (.cells #[.bool false, .slice none 0 0, .slice none 0 0] 34)
  have b1 : Below w.heap.size w (w.alloc (.cells #[.bool false, .slice none 0 0, .slice none 0 0] 34)) := (Below.refl _ _).alloc (Nat.le_refl _) _
  have z1 : (w.alloc (.cells #[.bool false, .slice none 0 0, .slice none 0 0] 34)).heap.size = w.heap.size + 1 := by simp
  generalize w.alloc (.cells #[.bool false, .slice none 0 0, .slice none 0 0] 34) = w1 at *
  have hx2 := heap_new w1 (.cells Z306 41)
  have b2 : Below w1.heap.size w1 (w1.alloc (.cells Z306 41)) := (Below.refl _ _).alloc (Nat.le_refl _) _
  have z2 : (w1.alloc (.cells Z306 41)).heap.size = w1.heap.size + 1 := by simp
  generalize w1.alloc (.cells Z306 41) = w2 at *
  have hx3 := heap_new w2 (.cells #[.slice none 0 0, .int .u64 0, .int .i64 0] 47)
  have b3 : Below w2.heap.size w2 (w2.alloc (.cells #[.slice none 0 0, .int .u64 0, .int .i64 0] 47)) := (Below.refl _ _).alloc (Nat.le_refl _) _
  have z3 : (w2.alloc (.cells #[.slice none 0 0, .int .u64 0, .int .i64 0] 47)).heap.size = w2.heap.size + 1 := by simp
  generalize w2.alloc (.cells #[.slice none 0 0, .int .u64 0, .int .i64 0] 47) = w3 at *
  have hx4 := heap_new w3 (.cells #[.int .u64 0, .int .i64 0, .int .i64 0] 49)
  have b4 : Below w3.heap.size w3 (w3.alloc (.cells #[.int .u64 0, .int .i64 0, .int .i64 0] 49)) := (Below.refl _ _).alloc (Nat.le_refl _) _
  have z4 : (w3.alloc (.cells #[.int .u64 0, .int .i64 0, .int .i64 0] 49)).heap.size = w3.heap.size + 1 := by simp
  generalize w3.alloc (.cells #[.int .u64 0, .int .i64 0, .int .i64 0] 49) = w4 at *
  have S5 : Seg (w4.alloc (.cells #[.int .u8 1, .int .u8 2] 5)) (some ⟨w4.heap.size, 0, none⟩) [1, 2] := by
    refine ⟨fun i hi => ⟨w4.heap.size, 0, rfl, ?_⟩, by decide, getD_bd (by decide) (by intro z hz; simp at hz; rcases hz with rfl | rfl <;> decide)⟩
    simp only [List.length_cons, List.length_nil] at hi
    rw [Nat.zero_add, World.cell?_alloc_mark]
    match i, hi with
    | 0, _ => rfl
    | 1, _ => rfl
  have b5 : Below w4.heap.size w4 (w4.alloc (.cells #[.int .u8 1, .int .u8 2] 5)) := (Below.refl _ _).alloc (Nat.le_refl _) _
  generalize w4.alloc (.cells #[.int .u8 1, .int .u8 2] 5) = w5 at *
  obtain ⟨bx, ex⟩ : ∃ bx, bx = w.heap.size := ⟨_, rfl⟩
  obtain ⟨bd, ed⟩ : ∃ bd, bd = bx + 1 := ⟨_, rfl⟩
  obtain ⟨bw, ew⟩ : ∃ bw, bw = bd + 1 := ⟨_, rfl⟩
  obtain ⟨br, er⟩ : ∃ br, br = bw + 1 := ⟨_, rfl⟩
  obtain ⟨bb, eb⟩ : ∃ bb, bb = br + 1 := ⟨_, rfl⟩
  have t2 : w1.heap.size = bd := by omega
  have t3 : w2.heap.size = bw := by omega
  have t4 : w3.heap.size = br := by omega
  have t5 : w4.heap.size = bb := by omega
  rw [← ex] at hx1
  rw [t2] at hx2 b2
  rw [t3] at hx3 b3
  rw [t4] at hx4 b4
  rw [t5] at S5 b5
  rw [← ex, ← ed, ← ew, ← er, ← eb]
  have HO : Hid (w.heap.size = bx ∧ bx < bd ∧ bd < bw ∧ bw < br ∧ br < bb) := ⟨by omega, by omega, by omega, by omega, by omega⟩
  have y1 := (b5.block bx (by omega)).trans ((b4.block bx (by omega)).trans ((b3.block bx (by omega)).trans ((b2.block bx (by omega)).trans hx1)))
  have y2 := (b5.block bd (by omega)).trans ((b4.block bd (by omega)).trans ((b3.block bd (by omega)).trans hx2))
  have y3 := (b5.block bw (by omega)).trans ((b4.block bw (by omega)).trans hx3)
  have y4 := (b5.block br (by omega)).trans hx4
  have BB5 : Below w.heap.size w w5 := b1.trans ((b2.mono (by omega)).trans ((b3.mono (by omega)).trans ((b4.mono (by omega)).trans (b5.mono (by omega)))))
  have hbw5 : bb ≤ w5.heap.size := b5.size |> fun h => by omega
  clear hx1 hx2 hx3 hx4 b1 b2 b3 b4 b5 z1 z2 z3 z4 t2 t3 t4 t5 ex ed ew er eb
  refine (feed_any br [] 0 (some ⟨bb, 0, none⟩) [1, 2] 2 w5 (Rd.new y4) S5 (by simp) (fun g off e _ e2 => by cases e; have := HO.out; omega) (by simp)).mono ?_
  rintro e w6 ⟨rfl, r6, k6⟩
  have e1 : feedN [] ([1, 2] : List Int).length = 2 := by decide
  have e2 : ([] ++ bB (([1, 2] : List Int).take 2)).length = 16 := by decide
  rw [e1] at r6
  rw [e1]
  have HR : Hid (Rd w6 br ([] ++ bB (([1, 2] : List Int).take 2)) 0) := r6
  have y1 := (k6.block bx (Array.getElem?_eq_some_iff.1 y1).1 (by have := HO.out; omega)).trans y1
  have y2 := (k6.block bd (Array.getElem?_eq_some_iff.1 y2).1 (by have := HO.out; omega)).trans y2
  have y3 := (k6.block bw (Array.getElem?_eq_some_iff.1 y3).1 (by have := HO.out; omega)).trans y3
  have B6 : Below w.heap.size w w6 := BB5.trans (k6.below (fun i e => by have := HO.out; omega) BB5.size)
  have HW : Hid (WrL w6 bw bw (.slice none 0 0) []) := WrL.new y3 (by have := k6.size; have := HO.out; omega)
  clear r6 e1 e2 S5 y4 BB5 hbw5 k6 y3
  have CE0 : Hid (∀ W, Below w6.heap.size w6 W → W.cell? ⟨bx, 0, none⟩ = some (.bool false)) := fun W hW => (hW.cell (p := ⟨bx, 0, none⟩) (Array.getElem?_eq_some_iff.1 y1).1).trans (by simp [World.cell?, y1])
  have CE1 : Hid (∀ W, Below w6.heap.size w6 W → W.cell? ⟨bx, 1, none⟩ = some (.slice none 0 0)) := fun W hW => (hW.cell (p := ⟨bx, 1, none⟩) (Array.getElem?_eq_some_iff.1 y1).1).trans (by simp [World.cell?, y1])
  have CD0 : Hid (∀ W, Below w6.heap.size w6 W → W.cell? ⟨bd, 0, none⟩ = some (.int .i64 0)) := fun W hW => (hW.cell (p := ⟨bd, 0, none⟩) (Array.getElem?_eq_some_iff.1 y2).1).trans (by simp only [World.cell?, y2]; rfl)
  have CL : Hid (∀ W, Below w6.heap.size w6 W → Calls Try.prog 12 #[.pointer (some ⟨bw, 0, none⟩)] W fun e w' => e = .returned (.int .i64 0) ∧ Below W.heap.size W w') := fun W hW =>
    (len_any bw bw (.slice none 0 0) [] W (HW.out.kp (Kp.of_below (S := fun _ => False) hW) (fun h => h) (fun _ _ h => h)) (by simp))
  have CH : Hid (∀ W, Below w6.heap.size w6 W → Calls Try.prog 16 #[.pointer (some ⟨br, 0, none⟩)] W fun e w' => e = .returned (.int .i64 16) ∧ w' = W) := fun W hW => by
    have h := has_any br ([] ++ bB (([1, 2] : List Int).take 2)) 0 W (HR.out.kp (Kp.of_below (S := fun _ => False) hW) (fun h => h))
    have e2 : (([] : List Bool) ++ bB (([1, 2] : List Int).take 2)).length = 16 := by decide
    rw [e2] at h
    exact h
  have F6 : Hid (∀ W, Below w6.heap.size w6 W → Below w.heap.size w W) := fun W hW => B6.trans (hW.mono B6.size)
  have b7 : Below w6.heap.size w6 (w6.alloc (.cells #[.pointer none, .pointer (some ⟨bx, 0, none⟩)] 31)) := (Below.refl _ _).alloc (Nat.le_refl _) _
  have q0 : (w6.alloc (.cells #[.pointer none, .pointer (some ⟨bx, 0, none⟩)] 31)).cell? ⟨w6.heap.size, 0, none⟩ = some (.pointer none) := by rw [World.cell?_alloc_mark]; rfl
  have q1 : (w6.alloc (.cells #[.pointer none, .pointer (some ⟨bx, 0, none⟩)] 31)).cell? ⟨w6.heap.size, 1, none⟩ = some (.pointer (some ⟨bx, 0, none⟩)) := by rw [World.cell?_alloc_mark]; rfl
  clear y1 y2 HW HR B6
  go_wp2_with fail
  have bl7 : w6.heap.size < (w6.alloc (.cells #[.pointer none, .pointer (some ⟨bx, 0, none⟩)] 31)).heap.size := by simp
  generalize w6.alloc (.cells #[.pointer none, .pointer (some ⟨bx, 0, none⟩)] 31) = w7 at *
  refine wp_loop_rounds 3 ?_
  rw [rounds_succ]
  go_wp2_with fail
  refine (eput_nil bw s w7).mono ?_
  rintro e w8 ⟨rfl, hw8⟩
  subst w8
  go_wp2_with fail
  refine (ecost_nil s w7).mono ?_
  rintro e w8 ⟨rfl, hw8⟩
  subst w8
  go_wp2_with fail
  refine (CL.out _ b7).mono ?_
  rintro e w8 ⟨rfl, b8⟩
  have q1 := (b8.cell (p := ⟨w6.heap.size, 1, none⟩) bl7).trans q1
  have b8 := b7.trans (b8.mono b7.size)
  clear b7 q0 bl7
  go_wp2_with fail
  rw [rounds_succ]
  go_wp2_with fail
  refine (eput_zero bx bw s w8 (CE0.out _ b8)).mono ?_
  rintro e w9 ⟨rfl, hw9⟩
  subst w9
  go_wp2_with fail
  refine (ecost_zero bx s w8 (CE1.out _ b8)).mono ?_
  rintro e w9 ⟨rfl, hw9⟩
  subst w9
  go_wp2_with fail
  refine (CL.out _ b8).mono ?_
  rintro e w9 ⟨rfl, b9⟩
  have b9 := b8.trans (b9.mono b8.size)
  clear b8 q1
  go_wp2_with fail
  rw [rounds_succ]
  have b10 : Below w6.heap.size w6 (w9.alloc (.cells #[.pointer none, .pointer (some ⟨bd, 0, none⟩)] 32)) := b9.trans ((Below.refl _ _).alloc b9.size _)
  have q0 : (w9.alloc (.cells #[.pointer none, .pointer (some ⟨bd, 0, none⟩)] 32)).cell? ⟨w9.heap.size, 0, none⟩ = some (.pointer none) := by rw [World.cell?_alloc_mark]; rfl
  have q1 : (w9.alloc (.cells #[.pointer none, .pointer (some ⟨bd, 0, none⟩)] 32)).cell? ⟨w9.heap.size, 1, none⟩ = some (.pointer (some ⟨bd, 0, none⟩)) := by rw [World.cell?_alloc_mark]; rfl
  go_wp2_with fail
  generalize w9.alloc (.cells #[.pointer none, .pointer (some ⟨bd, 0, none⟩)] 32) = w10 at *
  refine wp_loop_rounds 3 ?_
  rw [rounds_succ]
  go_wp2_with fail
  refine (dnext_nil br w10).mono ?_
  rintro e w11 ⟨rfl, hw⟩
  subst w11
  go_wp2_with fail
  refine (dload_nil _ _ _ w10).mono ?_
  rintro e w11 ⟨rfl, hw⟩
  subst w11
  go_wp2_with fail
  refine (droom_nil w10).mono ?_
  rintro e w11 ⟨rfl, hw⟩
  subst w11
  go_wp2_with fail
  refine (CH.out _ b10).mono ?_
  rintro e w11 ⟨rfl, hw⟩
  subst w11
  go_wp2_with fail
  rw [rounds_succ]
  go_wp2_with fail
  refine (dnext_zero bd br w10 (CD0.out _ b10)).mono ?_
  rintro e w11 ⟨rfl, hw⟩
  subst w11
  go_wp2_with fail
  refine (dload_zero bd _ _ _ w10 (CD0.out _ b10)).mono ?_
  rintro e w11 ⟨rfl, hw⟩
  subst w11
  go_wp2_with fail
  refine (droom_zero bd w10 (CD0.out _ b10)).mono ?_
  rintro e w11 ⟨rfl, hw⟩
  subst w11
  go_wp2_with fail
  refine (CH.out _ b10).mono ?_
  rintro e w11 ⟨rfl, hw⟩
  subst w11
  go_wp2_with fail
  rw [rounds_succ]
  go_wp2_with fail
  refine (lives5_any w10).mono ?_
  rintro e w11 ⟨rfl, b11⟩
  go_wp2
  go_ret
  exact ⟨rfl, F6.out _ (b10.trans (b11.mono b10.size))⟩
end Go.Proofs.Ytbjfccebngfpoab
