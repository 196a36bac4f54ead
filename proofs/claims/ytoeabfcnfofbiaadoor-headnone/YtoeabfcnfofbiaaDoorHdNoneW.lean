
import Derived.Test.YtoeabfcnfofbiaaDoorHdL2
import Derived.Test.YtoeabfcnfofbiaaDoorBtRd
namespace Go.Proofs.YtoeabfcnfofbiaaDoor
open Go.RowKit
set_option linter.unusedVariables false

/-! Readers that no call made. -/
theorem zr8_0 : Tryd.zeroCells90[0]? = some (.bool false) := by kernel_rfl
theorem zr8_1 : Tryd.zeroCells90[1]? = some (.int .i64 0) := by kernel_rfl
/-- Such a reader: none, or one that was never made. -/
def No8 (w : World) (p : Option Addr) : Prop := p = none ∨ ∃ z, p = some ⟨z, 0, none⟩ ∧ w.cell? ⟨z, 0, none⟩ = some (.bool false) ∧ w.cell? ⟨z, 1, none⟩ = some (.int .i64 0)
set_option maxRecDepth 100000 in
theorem pstep_no8 (p : Option Addr) (r : Option Addr) (w : World) (h : No8 w p) : Calls Tryd.prog 29 #[.pointer p, .pointer r] w fun e w' => e = .returned (.tuple #[.bool false, .int .i64 2]) ∧ w' = w := by
  rcases h with rfl | ⟨z, rfl, c0, c1⟩
  all_goals
    go_enter Tryd.func29, Tryd.ntmps29
    go_wp2_with fail
    go_ret2
    exact ⟨rfl, rfl⟩
set_option maxRecDepth 100000 in
theorem plens_no8 (p : Option Addr) (w : World) (h : No8 w p) : Calls Tryd.prog 32 #[.pointer p] w fun e w' => e = .returned (.tuple #[.slice none 0 0, .slice none 0 0]) ∧ w' = w := by
  rcases h with rfl | ⟨z, rfl, c0, c1⟩
  all_goals
    go_enter Tryd.func32, Tryd.ntmps32
    go_wp2_with fail
    go_ret2
    exact ⟨rfl, rfl⟩
set_option maxRecDepth 100000 in
theorem preset_no8 (p : Option Addr) (w : World) (h : No8 w p) : Calls Tryd.prog 31 #[.pointer p] w fun e w' => e = .returned (.tuple #[]) ∧ w' = w := by
  rcases h with rfl | ⟨z, rfl, c0, c1⟩
  all_goals
    go_enter Tryd.func31, Tryd.ntmps31
    go_wp2_with fail
    go_end0
    exact ⟨rfl, rfl⟩
set_option maxRecDepth 100000 in
theorem proom_no8 (p : Option Addr) (w : World) (h : No8 w p) : Calls Tryd.prog 28 #[.pointer p] w fun e w' => e = .returned (.int .i64 0) ∧ w' = w := by
  rcases h with rfl | ⟨z, rfl, c0, c1⟩
  all_goals
    go_enter Tryd.func28, Tryd.ntmps28
    go_wp2_with fail
    go_ret
    exact ⟨rfl, rfl⟩
theorem box2_heapN {w W : World} {o p : Obj} (h : W = (w.alloc o).alloc p) : W.heap[w.heap.size]? = some o ∧ W.heap[w.heap.size + 1]? = some p ∧ Below w.heap.size w W ∧ W.heap.size = w.heap.size + 2 := by
  subst h
  have h1 : ((w.alloc o).alloc p).heap[w.heap.size]? = some o := (heap_alloc_old _ _ (by simp)).trans (heap_alloc_new w o)
  have h2 := heap_alloc_new (w.alloc o) p
  rw [show (w.alloc o).heap.size = w.heap.size + 1 by simp] at h2
  exact ⟨h1, h2, (below_box8 w o).trans ((below_box8 (w.alloc o) p).mono (by simp)), by simp⟩
theorem No8.kp {w w' : World} {S : Nat → Prop} {p : Option Addr} (h : No8 w p) (hk : Kp S w w') (hn : ∀ z, p = some ⟨z, 0, none⟩ → ¬ S z) : No8 w' p := by
  rcases h with h | ⟨z, rfl, c0, c1⟩
  · exact .inl h
  · exact .inr ⟨z, rfl, hk.cellN c0 (hn z rfl), hk.cellN c1 (hn z rfl)⟩
theorem seg_three8 (w : World) (y : Int) (h0 : 0 ≤ y) (h1 : y ≤ 255) : Seg (w.alloc (.cells #[.int .u8 y, .int .u8 y, .int .u8 y] 5)) (some ⟨w.heap.size, 0, none⟩) [y, y, y] := by
  refine ⟨fun i hi => ⟨w.heap.size, 0, rfl, ?_⟩, by decide, getD_bd (by decide) (by intro z hz; simp at hz; subst hz; exact ⟨h0, h1⟩)⟩
  simp only [List.length_cons, List.length_nil] at hi
  rw [Nat.zero_add, World.cell?_alloc_mark]
  match i, hi with
  | 0, _ => rfl
  | 1, _ => rfl
  | 2, _ => rfl
set_option maxRecDepth 100000 in
set_option maxHeartbeats 4000000 in
theorem headNone_walk (w : World) (TT : TabS w ∧ TabO w) (y : Int) (hy0 : 0 ≤ y) (hy1 : y ≤ 255) : Calls Tryd.prog 8 #[.int .u8 y] w fun e w' => e = .returned (.bool true) ∧ Below w.heap.size w w' := by
  obtain ⟨T, _⟩ := TT
  have HT : Hid (TabS w) := T
  clear T
  go_enter Tryd.func8, Tryd.ntmps8
  go_wp2_with fail
  obtain ⟨W, hW⟩ : ∃ W, W = (w.alloc (.cells Tryd.zeroCells90 90)).alloc (.cells #[.pointer none, .pointer (some ⟨w.heap.size, 0, none⟩)] 71) := ⟨_, rfl⟩
  rw [← hW]
  obtain ⟨w1, w2, BW, hWs⟩ := box2_heapN hW
  clear hW
  have q0 : W.cell? ⟨w.heap.size, 0, none⟩ = some (.bool false) := (cell_of_row W _ 0 _ _ _ w1).trans zr8_0
  have q1 : W.cell? ⟨w.heap.size, 1, none⟩ = some (.int .i64 0) := (cell_of_row W _ 1 _ _ _ w1).trans zr8_1
  have p0 : W.cell? ⟨w.heap.size + 1, 0, none⟩ = some (.pointer none) := (cell_of_row W _ 0 _ _ _ w2).trans rfl
  have p1 : W.cell? ⟨w.heap.size + 1, 1, none⟩ = some (.pointer (some ⟨w.heap.size, 0, none⟩)) := (cell_of_row W _ 1 _ _ _ w2).trans rfl
  clear w1 w2
  go_loopw [15] (fun ti wr => ∃ i : Nat, i ≤ 2 ∧ ti = .int .i64 (i : Int) ∧ Below W.heap.size W wr) (fun ti _ => 2 - (intOf ti).toNat)
  case atStart => exact ⟨0, by omega, rfl, Below.refl _ _⟩
  case round =>
    obtain ⟨i, hi2, rfl, BR⟩ := hrel
    have BwR : Below w.heap.size w wr := BW.trans (BR.mono BW.size)
    have hrs : w.heap.size + 2 ≤ wr.heap.size := by have := BR.size; omega
    by_cases hlt : i < 2
    · have hii : (i : Int) < 2 := by omega
      have hP : ∃ p, wr.cell? ⟨w.heap.size + 1, i, none⟩ = some (.pointer p) ∧ No8 wr p ∧ ∀ z, p = some ⟨z, 0, none⟩ → z < wr.heap.size := by
        have e0 := (BR.cell (p := ⟨w.heap.size + 1, 0, none⟩) (by simp only; omega)).trans p0
        have e1 := (BR.cell (p := ⟨w.heap.size + 1, 1, none⟩) (by simp only; omega)).trans p1
        have f0 := (BR.cell (p := ⟨w.heap.size, 0, none⟩) (by simp only; omega)).trans q0
        have f1 := (BR.cell (p := ⟨w.heap.size, 1, none⟩) (by simp only; omega)).trans q1
        rcases (by omega : i = 0 ∨ i = 1) with rfl | rfl
        · exact ⟨none, e0, .inl rfl, fun z h => by cases h⟩
        · exact ⟨_, e1, .inr ⟨_, rfl, f0, f1⟩, fun z h => by cases h; omega⟩
      obtain ⟨p, cp, hN, hpl⟩ := hP
      clear p0 p1 q0 q1
      go_wp2_with fail
      obtain ⟨V, hV⟩ : ∃ V, V = (wr.alloc (.cells #[.int .u64 0, .int .i64 0, .int .i64 0] 93)).alloc (.cells #[.int .u8 y, .int .u8 y, .int .u8 y] 5) := ⟨_, rfl⟩
      rw [← hV]
      obtain ⟨v1, v2, BV, hVs⟩ := box2_heapN hV
      have hR : Rd V wr.heap.size [] 0 := Rd.new v1
      have hSg : Seg V (some ⟨wr.heap.size + 1, 0, none⟩) [y, y, y] := by
        have := seg_three8 (wr.alloc (.cells #[.int .u64 0, .int .i64 0, .int .i64 0] 93)) y hy0 hy1
        rw [show (wr.alloc (.cells #[.int .u64 0, .int .i64 0, .int .i64 0] 93)).heap.size = wr.heap.size + 1 by simp, ← hV] at this
        exact this
      have CF := feed_any wr.heap.size [] 0 (some ⟨wr.heap.size + 1, 0, none⟩) [y, y, y] 3 V hR hSg (by simp) (fun g off e _ => by cases e; omega) (by simp)
      clear hV v1 v2
      refine CF.mono ?_
      rintro e V1 ⟨rfl, R1, K1⟩
      have B1 : Below wr.heap.size wr V1 := BV.trans (K1.below (fun k e => by omega) (by omega))
      have N1 : No8 V1 p := (hN.kp (S := fun _ => False) ⟨BV.os, BV.tape, BV.output, BV.size, fun k hk _ => BV.block k hk⟩ (fun _ _ h => h)).kp K1 (fun z h e => by have := hpl z h; omega)
      go_wp2_with (first
        | (go_at_call 29; refine (pstep_no8 p _ _ N1).mono ?_; rintro e w' ⟨rfl, hw'⟩; subst w')
        | (go_at_call 32; refine (plens_no8 p _ N1).mono ?_; rintro e w' ⟨rfl, hw'⟩; subst w')
        | (go_at_call 31; refine (preset_no8 p _ N1).mono ?_; rintro e w' ⟨rfl, hw'⟩; subst w')
        | (go_at_call 28; refine (proom_no8 p _ N1).mono ?_; rintro e w' ⟨rfl, hw'⟩; subst w')
        | (go_at_call 34; refine (taken_any _ _ _ _ R1).mono ?_; rintro e w' ⟨rfl, hw'⟩; subst w'))
      go_roundw
      case rel => exact ⟨i + 1, by omega, by go_num, BR.trans (B1.mono BR.size)⟩
      case measure => simp [intOf]; omega
    · have hge : ¬ (i : Int) < 2 := by omega
      go_wp2_with fail
      refine (awake8 wr (SegZ.old HT.out BwR)).mono ?_
      rintro e w' ⟨rfl, B'⟩
      go_wp2_with fail
      go_ret
      exact ⟨rfl, BwR.trans (B'.mono BwR.size)⟩
end Go.Proofs.YtoeabfcnfofbiaaDoor
