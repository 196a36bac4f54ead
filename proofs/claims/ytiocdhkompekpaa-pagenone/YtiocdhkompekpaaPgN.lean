
import Derived.Test.YtiocdhkompekpaaPgG
import Derived.Test.YtiocdhkompekpaaFlU
namespace Go.Proofs.Ytiocdhkompekpaa
open Go.RowKit Go.Shelf
set_option linter.unusedVariables false
set_option linter.unusedSimpArgs false

/-! The landed page: writers that no call made; a flash that no call made. -/
def Un22 (w : World) (v : Value) : Prop := v = .pointer none ∨ ∃ b, v = .pointer (some ⟨b, 0, none⟩) ∧ w.cell? ⟨b, 0, none⟩ = some (.pointer none)
set_option maxRecDepth 100000 in
set_option maxHeartbeats 1000000 in
theorem umd22 (v : Value) (w : World) (h : Un22 w v) : Calls Try.prog 37 #[v] w fun e w' => e = .returned (.bool false) ∧ w' = w := by
  rcases h with rfl | ⟨b, rfl, hc⟩
  all_goals
    go_enter Try.func37, Try.ntmps37
    go_wp2
    go_ret
    exact ⟨rfl, rfl⟩
set_option maxRecDepth 100000 in
set_option maxHeartbeats 1000000 in
theorem ust22 (v : Value) (w : World) (h : Un22 w v) : Calls Try.prog 38 #[v] w fun e w' => e = .returned (.int .i64 2) ∧ w' = w := by
  have HM := umd22 v w h
  go_enter Try.func38, Try.ntmps38
  go_wp2_with fail
  refine HM.mono ?_
  rintro e w1 ⟨rfl, hw⟩
  subst w1
  go_wp2_with fail
  go_ret
  exact ⟨rfl, rfl⟩
set_option maxRecDepth 100000 in
set_option maxHeartbeats 1000000 in
theorem uwn22 (v : Value) (w : World) (h : Un22 w v) : Calls Try.prog 23 #[v] w fun e w' => e = .returned (.int .i64 0) ∧ w' = w := by
  have HM := umd22 v w h
  go_enter Try.func23, Try.ntmps23
  go_wp2_with fail
  refine HM.mono ?_
  rintro e w1 ⟨rfl, hw⟩
  subst w1
  go_wp2_with fail
  go_ret
  exact ⟨rfl, rfl⟩
set_option maxRecDepth 100000 in
set_option maxHeartbeats 1000000 in
theorem upn22 (v : Value) (w : World) (h : Un22 w v) : Calls Try.prog 24 #[v] w fun e w' => e = .returned (.int .i64 0) ∧ w' = w := by
  have HM := umd22 v w h
  go_enter Try.func24, Try.ntmps24
  go_wp2_with fail
  refine HM.mono ?_
  rintro e w1 ⟨rfl, hw⟩
  subst w1
  go_wp2_with fail
  go_ret
  exact ⟨rfl, rfl⟩
set_option maxRecDepth 100000 in
set_option maxHeartbeats 1000000 in
theorem urm22 (v : Value) (w : World) (h : Un22 w v) : Calls Try.prog 12 #[v] w fun e w' => e = .returned (.int .i64 0) ∧ w' = w := by
  have HM := umd22 v w h
  go_enter Try.func12, Try.ntmps12
  go_wp2_with fail
  refine HM.mono ?_
  rintro e w1 ⟨rfl, hw⟩
  subst w1
  go_wp2_with fail
  go_ret
  exact ⟨rfl, rfl⟩
set_option maxRecDepth 100000 in
set_option maxHeartbeats 1000000 in
theorem ued22 (v : Value) (w : World) (h : Un22 w v) : Calls Try.prog 16 #[v] w fun e w' => e = .returned (.int .i64 2) ∧ w' = w := by
  have HM := ust22 v w h
  go_enter Try.func16, Try.ntmps16
  go_wp2_with fail
  refine HM.mono ?_
  rintro e w1 ⟨rfl, hw⟩
  subst w1
  go_wp2_with fail
  go_ret
  exact ⟨rfl, rfl⟩
set_option maxRecDepth 100000 in
set_option maxHeartbeats 1000000 in
theorem uwr22 (v : Value) (a : Option Addr) (n c : Nat) (w : World) (h : Un22 w v) : Calls Try.prog 14 #[v, .slice a n c] w fun e w' => e = .returned (.int .i64 2) ∧ w' = w := by
  have HM := ust22 v w h
  go_enter Try.func14, Try.ntmps14
  go_wp2_with fail
  refine HM.mono ?_
  rintro e w1 ⟨rfl, hw⟩
  subst w1
  go_wp2_with fail
  go_ret
  exact ⟨rfl, rfl⟩
set_option maxRecDepth 100000 in
set_option maxHeartbeats 1000000 in
theorem unw22 (v : Value) (w : World) (h : Un21 w v) : Calls Try.prog 11 #[v] w fun e w' => e = .returned (.tuple #[.pointer none, .int .i64 2]) ∧ Below w.heap.size w w' := by
  have HM := ushp21 v w h
  have hfd := flds22 0 0
  go_enter Try.func11, Try.ntmps11
  go_wp2_with fail
  refine HM.mono ?_
  rintro e w1 ⟨rfl, b1⟩
  go_wp2_with fail
  go_ret2
  exact ⟨rfl, b1⟩
set_option maxRecDepth 100000 in
set_option maxHeartbeats 4000000 in
theorem pageNone_walk (w : World) (a : Option Addr) (z : List Int) (cap : Nat) : Calls Try.prog 5 #[.slice a z.length cap] w fun e w' => e = .returned (.bool true) ∧ Below w.heap.size w w' := by
  have HLV : Hid (∀ W : World, Calls Try.prog 9 #[] W fun e w' => e = .returned (.bool true) ∧ Below W.heap.size W w') := pawk22
  obtain ⟨n, hn⟩ : ∃ n, n = z.length := ⟨_, rfl⟩
  rw [← hn]
  clear hn
  obtain ⟨w1, hw1⟩ : ∃ w1, w1 = (w.alloc (.cells #[.pointer none] 59)).alloc (.cells #[.pointer none, .pointer (some ⟨w.heap.size, 0, none⟩)] 35) := ⟨_, rfl⟩
  have HW : Hid ((w.alloc (.cells #[.pointer none] 59)).alloc (.cells #[.pointer none, .pointer (some ⟨w.heap.size, 0, none⟩)] 35) = w1) := hw1.symm
  have b1 : Below w.heap.size w w1 := by rw [hw1]; exact ((Below.refl _ _).alloc (Nat.le_refl _) _).alloc (by simp) _
  have q0 : w1.heap[w.heap.size]? = some (.cells #[.pointer none] 59 (0, 0)) := by rw [hw1, heap_alloc_old _ _ (by simp)]; exact heap_alloc_new w _
  have q1 : w1.heap[w.heap.size + 1]? = some (.cells #[.pointer none, .pointer (some ⟨w.heap.size, 0, none⟩)] 35 (0, 0)) := by rw [hw1]; exact heap_alloc2_new w _ _
  obtain ⟨g, hg⟩ : ∃ g, g = w.heap.size := ⟨_, rfl⟩
  have HG : Hid (w.heap.size = g) := hg.symm
  have hs1 : w1.heap.size = g + 2 := by rw [hw1, hg]; simp
  rw [← hg] at q0 q1
  have HU : Hid (∀ (i : Nat), i < 2 → ∃ v, w1.cell? ⟨g + 1, i, none⟩ = some v ∧ Un22 w1 v ∧ (v = .pointer none ∨ ∃ b, v = .pointer (some b))) := fun i hi => by
    rcases (show i = 0 ∨ i = 1 by omega) with rfl | rfl
    · exact ⟨_, two_cell0 q1, .inl rfl, .inl rfl⟩
    · exact ⟨_, two_cell1 q1, .inr ⟨g, rfl, by simp [World.cell?, q0]⟩, .inr ⟨_, rfl⟩⟩
  have HB1 : Hid (Below w.heap.size w w1 ∧ w1.heap.size = g + 2) := ⟨b1, hs1⟩
  clear hw1 b1 q0 q1 hg hs1
  go_enter Try.func5, Try.ntmps5
  go_wp2_with fail
  rw [HW.out, HG.out]
  go_loopw [15] (fun ti wr => ∃ i : Nat, i ≤ 2 ∧ ti = .int .i64 (i : Int) ∧ wr = w1) (fun ti _ => 2 - (intOf ti).toNat)
  case atStart => exact ⟨0, by omega, rfl, rfl⟩
  case round =>
    obtain ⟨i, hi2, rfl, hR⟩ := hrel
    subst wr
    by_cases hi : i < 2
    · have hii : (i : Int) < 2 := by omega
      obtain ⟨v, hvc, hvu, hvp⟩ := HU.out i hi
      have HUN : Hid (Un22 w1 v) := hvu
      have hiw : IntKind.i64.wrap ((i : Int) + 1) = ((i + 1 : Nat) : Int) := by rw [IntWalk.i64_in _ (by omega)]; omega
      clear hvu
      go_wp2_with fail
      refine (uwr22 v a n cap _ HUN.out).mono ?_
      rintro e x1 ⟨rfl, hx⟩
      subst x1
      go_wp2_with fail
      refine (ued22 v _ HUN.out).mono ?_
      rintro e x1 ⟨rfl, hx⟩
      subst x1
      go_wp2_with fail
      refine (uwn22 v _ HUN.out).mono ?_
      rintro e x1 ⟨rfl, hx⟩
      subst x1
      go_wp2_with fail
      refine (upn22 v _ HUN.out).mono ?_
      rintro e x1 ⟨rfl, hx⟩
      subst x1
      go_wp2_with fail
      refine (urm22 v _ HUN.out).mono ?_
      rintro e x1 ⟨rfl, hx⟩
      subst x1
      go_wp2_with fail
      go_roundw
      case rel => exact ⟨i + 1, by omega, by go_num, by trivial⟩
      case measure => simp [intOf]; omega
    · obtain rfl : i = 2 := by omega
      have hii : ¬ ((2 : Nat) : Int) < 2 := by omega
      obtain ⟨w2, hw2⟩ : ∃ w2, w2 = w1.alloc (.cells #[.int .i64 0, .int .i64 0, .int .i64 0, .bool false, .int .i64 0, .map none, .int .i64 0, .slice none 0 0, .slice none 0 0] 68) := ⟨_, rfl⟩
      have HW2 : Hid (w1.alloc (.cells #[.int .i64 0, .int .i64 0, .int .i64 0, .bool false, .int .i64 0, .map none, .int .i64 0, .slice none 0 0, .slice none 0 0] 68) = w2) := hw2.symm
      have q2 : w2.heap[w1.heap.size]? = some (.cells #[.int .i64 0, .int .i64 0, .int .i64 0, .bool false, .int .i64 0, .map none, .int .i64 0, .slice none 0 0, .slice none 0 0] 68 (0, 0)) := by rw [hw2]; exact heap_alloc_new _ _
      have b2 : Below w1.heap.size w1 w2 := by rw [hw2]; exact (Below.refl _ _).alloc (Nat.le_refl _) _
      have HUF : Hid (Un21 w2 (.pointer (some ⟨w1.heap.size, 0, none⟩))) := .inr ⟨_, rfl, by simp [World.cell?, q2]⟩
      have HB2 : Hid (Below w1.heap.size w1 w2) := b2
      clear hw2 q2 b2
      go_wp2_with fail
      rw [HW2.out]
      refine (unw22 (.pointer none) _ (.inl rfl)).mono ?_
      rintro e x1 ⟨rfl, t1⟩
      go_wp2_with fail
      refine (unw22 (.pointer (some ⟨w1.heap.size, 0, none⟩)) _ (HUF.out.old t1)).mono ?_
      rintro e x2 ⟨rfl, t2⟩
      go_wp2_with fail
      refine (HLV.out _).mono ?_
      rintro e x3 ⟨rfl, t3⟩
      go_wp2_with fail
      go_ret
      have h1 := HB1.out
      have h2 := HB2.out
      have h3 := HB1.out.1.size
      exact ⟨rfl, (((h1.1.trans (h2.mono h3)).trans (t1.mono (by have := h2.size; omega))).trans (t2.mono (by have := h2.size; have := t1.size; omega))).trans (t3.mono (by have := h2.size; have := t1.size; have := t2.size; omega))⟩
end Go.Proofs.Ytiocdhkompekpaa
