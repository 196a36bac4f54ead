
import Derived.Test.YthebboppbebffaaRgAwk
namespace Go.Proofs.Ythebboppbebffaa
open Go.RowKit
set_option linter.unusedVariables false
set_option linter.unusedSimpArgs false

/-! Rings that no call made: the nil one, and the zero value. -/
structure NoR (w : World) (r : Value) : Prop where
  made : Calls Try.prog 31 #[r] w fun e w' => e = .returned (.bool false) ∧ w' = w
  total : Calls Try.prog 15 #[r] w fun e w' => e = .returned (.int .i64 0) ∧ w' = w
  room : Calls Try.prog 22 #[r] w fun e w' => e = .returned (.int .i64 0) ∧ w' = w
set_option maxRecDepth 100000 in
theorem NoR.nil (w : World) : NoR w (.pointer none) := by
  refine ⟨?_, ?_, ?_⟩
  · go_enter Try.func31, Try.ntmps31
    go_wp2_with fail
    go_ret
    exact ⟨rfl, rfl⟩
  · go_enter Try.func15, Try.ntmps15
    go_wp2_with fail
    go_ret
    exact ⟨rfl, rfl⟩
  · go_enter Try.func22, Try.ntmps22
    go_wp2_with fail
    go_ret
    exact ⟨rfl, rfl⟩
set_option maxRecDepth 100000 in
theorem NoR.zero {w : World} {z : Nat} (c0 : w.cell? ⟨z, 0, none⟩ = some (.slice none 0 0)) (c1 : w.cell? ⟨z, 1, none⟩ = some (.int .i64 0)) : NoR w (.pointer (some ⟨z, 0, none⟩)) := by
  refine ⟨?_, ?_, ?_⟩
  · go_enter Try.func31, Try.ntmps31
    go_wp2_with fail
    go_ret
    exact ⟨rfl, rfl⟩
  · go_enter Try.func15, Try.ntmps15
    go_wp2_with fail
    go_ret
    exact ⟨rfl, rfl⟩
  · go_enter Try.func22, Try.ntmps22
    go_wp2_with fail
    go_ret
    exact ⟨rfl, rfl⟩
variable {w : World} {r : Value}
set_option maxRecDepth 100000 in
theorem NoR.held (h : NoR w r) : Calls Try.prog 16 #[r] w fun e w' => e = .returned (.int .i64 0) ∧ w' = w := by
  obtain ⟨_, T, R⟩ := h
  go_enter Try.func16, Try.ntmps16
  go_wp2_with fail
  refine T.mono ?_
  rintro e w1 ⟨rfl, rfl⟩
  go_wp2_with fail
  refine R.mono ?_
  rintro e w1 ⟨rfl, rfl⟩
  go_wp2_with fail
  go_ret
  exact ⟨rfl, rfl⟩
set_option maxRecDepth 100000 in
theorem NoR.at_ (h : NoR w r) (d : Int) : Calls Try.prog 17 #[r, .int .i64 d] w fun e w' => e = .returned (.tuple #[.int .u8 0, .int .i64 2]) ∧ w' = w := by
  obtain ⟨M, _, _⟩ := h
  go_enter Try.func17, Try.ntmps17
  go_wp2_with fail
  refine M.mono ?_
  rintro e w1 ⟨rfl, rfl⟩
  go_wp2_with fail
  go_ret2
  exact ⟨rfl, rfl⟩
set_option maxRecDepth 100000 in
theorem NoR.copy (h : NoR w r) (d n : Int) : Calls Try.prog 18 #[r, .int .i64 d, .int .i64 n] w fun e w' => e = .returned (.tuple #[.slice none 0 0, .int .i64 2]) ∧ w' = w := by
  obtain ⟨M, _, _⟩ := h
  go_enter Try.func18, Try.ntmps18
  go_wp2_with fail
  refine M.mono ?_
  rintro e w1 ⟨rfl, rfl⟩
  go_wp2_with fail
  go_ret2
  exact ⟨rfl, rfl⟩
set_option maxRecDepth 100000 in
theorem NoR.last (h : NoR w r) (n : Int) : Calls Try.prog 19 #[r, .int .i64 n] w fun e w' => e = .returned (.tuple #[.slice none 0 0, .int .i64 2]) ∧ w' = w := by
  obtain ⟨M, _, _⟩ := h
  go_enter Try.func19, Try.ntmps19
  go_wp2_with fail
  refine M.mono ?_
  rintro e w1 ⟨rfl, rfl⟩
  go_wp2_with fail
  go_ret2
  exact ⟨rfl, rfl⟩
set_option maxRecDepth 100000 in
theorem NoR.put (h : NoR w r) (p : Value) : Calls Try.prog 20 #[r, p] w fun e w' => e = .returned (.int .i64 2) ∧ w' = w := by
  obtain ⟨M, _, _⟩ := h
  go_enter Try.func20, Try.ntmps20
  go_wp2_with fail
  refine M.mono ?_
  rintro e w1 ⟨rfl, rfl⟩
  go_wp2_with fail
  go_ret
  exact ⟨rfl, rfl⟩
set_option maxRecDepth 100000 in
theorem NoR.reset (h : NoR w r) : Calls Try.prog 21 #[r] w fun e w' => e = .returned (.tuple #[]) ∧ w' = w := by
  obtain ⟨M, _, _⟩ := h
  go_enter Try.func21, Try.ntmps21
  go_wp2_with fail
  refine M.mono ?_
  rintro e w1 ⟨rfl, rfl⟩
  go_wp2_with fail
  refine bodyPost_ret (results_none rfl _ _ _) rfl ?_
  exact ⟨rfl, rfl⟩
set_option maxRecDepth 100000 in
set_option maxHeartbeats 2000000 in
theorem ringNone_walk (w : World) (k d n : Int) (ba : Option Addr) (bl bc : Nat) : Calls Try.prog 5 #[.agg #[.int .i64 k, .slice ba bl bc, .int .i64 d, .int .i64 n]] w fun e w' => e = .returned (.bool true) ∧ Below w.heap.size w w' := by
  obtain ⟨wA, hwA⟩ : ∃ wA, wA = w.alloc (.cells #[.int .i64 k, .slice ba bl bc, .int .i64 d, .int .i64 n] 36) := ⟨_, rfl⟩
  obtain ⟨ob, hob⟩ : ∃ ob, ob = w.heap.size := ⟨_, rfl⟩
  obtain ⟨wB, hwB⟩ : ∃ wB, wB = wA.alloc (.cells #[.slice none 0 0, .int .i64 0] 40) := ⟨_, rfl⟩
  obtain ⟨zb, hzb⟩ : ∃ zb, zb = wA.heap.size := ⟨_, rfl⟩
  obtain ⟨wC, hwC⟩ : ∃ wC, wC = wB.alloc (.cells #[.pointer none, .pointer (some ⟨zb, 0, none⟩)] 26) := ⟨_, rfl⟩
  obtain ⟨sb, hsb⟩ : ∃ sb, sb = wB.heap.size := ⟨_, rfl⟩
  have bA : Below w.heap.size w wA := by rw [hwA]; exact (Below.refl _ _).alloc (Nat.le_refl _) _
  have bB : Below wA.heap.size wA wB := by rw [hwB]; exact (Below.refl _ _).alloc (Nat.le_refl _) _
  have bC : Below wB.heap.size wB wC := by rw [hwC]; exact (Below.refl _ _).alloc (Nat.le_refl _) _
  have hA : wA.heap[ob]? = some (.cells #[.int .i64 k, .slice ba bl bc, .int .i64 d, .int .i64 n] 36 (0, 0)) := by rw [hwA, hob]; exact heap_new6 _ _ _
  have hB : wB.heap[zb]? = some (.cells #[.slice none 0 0, .int .i64 0] 40 (0, 0)) := by rw [hwB, hzb]; exact heap_new6 _ _ _
  have hC : wC.heap[sb]? = some (.cells #[.pointer none, .pointer (some ⟨zb, 0, none⟩)] 26 (0, 0)) := by rw [hwC, hsb]; exact heap_new6 _ _ _
  have hobl : ob < wA.heap.size := (Array.getElem?_eq_some_iff.1 hA).1
  have hzbl : zb < wB.heap.size := (Array.getElem?_eq_some_iff.1 hB).1
  have hA2 : wC.heap[ob]? = _ := ((bC.block ob (Nat.lt_of_lt_of_le hobl bB.size)).trans (bB.block ob hobl)).trans hA
  have hB2 : wC.heap[zb]? = _ := (bC.block zb hzbl).trans hB
  have N0 : NoR wC (.pointer none) := NoR.nil _
  have N1 : NoR wC (.pointer (some ⟨zb, 0, none⟩)) := NoR.zero (two_cell0 hB2) (two_cell1 hB2)
  have a1 : wC.cell? ⟨ob, 1, none⟩ = some (.slice ba bl bc) := by simp [World.cell?, hA2]
  have a2 : wC.cell? ⟨ob, 2, none⟩ = some (.int .i64 d) := by simp [World.cell?, hA2]
  have a3 : wC.cell? ⟨ob, 3, none⟩ = some (.int .i64 n) := by simp [World.cell?, hA2]
  have s0 : wC.cell? ⟨sb, 0, none⟩ = some (.pointer none) := two_cell0 hC
  have s1 : wC.cell? ⟨sb, 1, none⟩ = some (.pointer (some ⟨zb, 0, none⟩)) := two_cell1 hC
  have bwC : Below w.heap.size w wC := (bA.trans (bB.mono bA.size)).trans (bC.mono (Nat.le_trans bA.size bB.size))
  have AW := awake6_any wC
  have HN0 : Hid (NoR wC (.pointer none)) := N0
  have HN1 : Hid (NoR wC (.pointer (some ⟨zb, 0, none⟩))) := N1
  have HWA : Hid _ := hwA
  have HWB : Hid _ := hwB
  have HWC : Hid _ := hwC
  have HOB : Hid (ob = w.heap.size) := hob
  have HZB : Hid (zb = wA.heap.size) := hzb
  have HSB : Hid (sb = wB.heap.size) := hsb
  have HE1 : Hid (w.heap.size + 1 = zb) := by show _ = _; rw [hzb, hwA]; simp
  have HE2 : Hid (w.heap.size + 1 + 1 = sb) := by show _ = _; rw [hsb, hwB, hwA]; simp
  clear hwA hwB hwC hob hzb hsb N0 N1 hA2 hB2 hA hB hC bA bB bC hobl hzbl
  go_enter Try.func5, Try.ntmps5
  go_wp2_with fail
  rw [HE2.out, HE1.out, ← HWA.out, ← HWB.out, ← HWC.out, ← HOB.out]
  go_loopw [16] (fun ti wr => ∃ i : Nat, i ≤ 2 ∧ ti = .int .i64 (i : Int) ∧ wr = wC) (fun ti _ => 2 - (intOf ti).toNat)
  case atStart => exact ⟨0, by omega, rfl, rfl⟩
  case round =>
    obtain ⟨i, hi, rfl, hwr⟩ := hrel
    subst hwr
    obtain rfl | rfl | rfl : i = 0 ∨ i = 1 ∨ i = 2 := by omega
    · go_wp2_with fail
      refine (HN0.out.at_ d).mono ?_
      rintro e w1 ⟨rfl, rfl⟩
      go_wp2_with fail
      refine (HN0.out.copy d n).mono ?_
      rintro e w1 ⟨rfl, rfl⟩
      go_wp2_with fail
      refine (HN0.out.last n).mono ?_
      rintro e w1 ⟨rfl, rfl⟩
      go_wp2_with fail
      refine (HN0.out.put _).mono ?_
      rintro e w1 ⟨rfl, rfl⟩
      go_wp2_with fail
      refine (HN0.out.reset).mono ?_
      rintro e w1 ⟨rfl, rfl⟩
      go_wp2_with fail
      refine (HN0.out.held).mono ?_
      rintro e w1 ⟨rfl, rfl⟩
      go_wp2_with fail
      refine (HN0.out.total).mono ?_
      rintro e w1 ⟨rfl, rfl⟩
      go_wp2_with fail
      refine (HN0.out.room).mono ?_
      rintro e w1 ⟨rfl, rfl⟩
      go_wp2_with fail
      go_roundw
      case rel => exact ⟨1, by omega, by go_num, trivial⟩
      case measure => simp [intOf]
    · go_wp2_with fail
      refine (HN1.out.at_ d).mono ?_
      rintro e w1 ⟨rfl, rfl⟩
      go_wp2_with fail
      refine (HN1.out.copy d n).mono ?_
      rintro e w1 ⟨rfl, rfl⟩
      go_wp2_with fail
      refine (HN1.out.last n).mono ?_
      rintro e w1 ⟨rfl, rfl⟩
      go_wp2_with fail
      refine (HN1.out.put _).mono ?_
      rintro e w1 ⟨rfl, rfl⟩
      go_wp2_with fail
      refine (HN1.out.reset).mono ?_
      rintro e w1 ⟨rfl, rfl⟩
      go_wp2_with fail
      refine (HN1.out.held).mono ?_
      rintro e w1 ⟨rfl, rfl⟩
      go_wp2_with fail
      refine (HN1.out.total).mono ?_
      rintro e w1 ⟨rfl, rfl⟩
      go_wp2_with fail
      refine (HN1.out.room).mono ?_
      rintro e w1 ⟨rfl, rfl⟩
      go_wp2_with fail
      go_roundw
      case rel => exact ⟨2, by omega, by go_num, trivial⟩
      case measure => simp [intOf]
    · go_wp2_with fail
      refine AW.mono ?_
      rintro e w1 ⟨rfl, b1⟩
      go_wp2_with fail
      go_ret
      exact ⟨rfl, bwC.trans (b1.mono bwC.size)⟩
end Go.Proofs.Ythebboppbebffaa
