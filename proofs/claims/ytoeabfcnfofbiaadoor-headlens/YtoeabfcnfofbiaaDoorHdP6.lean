
import Derived.Test.YtoeabfcnfofbiaaDoorHdP1
import Derived.Deep.RegionHeld3
namespace Go.Proofs.YtoeabfcnfofbiaaDoor
open Go.RowKit
set_option linter.unusedVariables false

/-! The landed head: mayFollow. -/
def MayQ (n : Nat) (sy ct : Int) (w : World) (e : Ending) (w' : World) : Prop := ∃ B, e = .returned (.bool B) ∧ (B = true ↔ ¬ bad8 ⟨sy, ct⟩ n ∧ (n : Int) + ct ≤ 320) ∧ Below w.heap.size w w'
theorem box2_heap {w W : World} {o p : Obj} (h : W = (w.alloc o).alloc p) : W.heap[w.heap.size]? = some o ∧ W.heap[w.heap.size + 1]? = some p ∧ Below w.heap.size w W ∧ W.heap.size = w.heap.size + 2 := by
  subst h
  have h1 : ((w.alloc o).alloc p).heap[w.heap.size]? = some o := (heap_alloc_old _ _ (by simp)).trans (heap_alloc_new w o)
  have h2 := heap_alloc_new (w.alloc o) p
  rw [show (w.alloc o).heap.size = w.heap.size + 1 by simp] at h2
  exact ⟨h1, h2, (below_box8 w o).trans ((below_box8 (w.alloc o) p).mono (by simp)), by simp⟩
set_option maxRecDepth 100000 in
set_option maxHeartbeats 4000000 in
theorem pmay8 (n : Nat) (sy ct : Int) (hn : n ≤ 100000) (w : World) (T : TabS w) :
    Calls Tryd.prog 41 #[.int .i64 (n : Int), .agg #[.int .i64 sy, .int .i64 ct]] w (MayQ n sy ct w) := by
  by_cases h1 : sy < 0
  · go_enter Tryd.func41, Tryd.ntmps41
    go_wp2_with fail
    go_ret
    refine ⟨false, rfl, ?_, below_box8 _ _⟩
    simp [bad8, h1]
  · by_cases h2 : 19 ≤ sy
    · go_enter Tryd.func41, Tryd.ntmps41
      go_wp2_with fail
      go_ret
      refine ⟨false, rfl, ?_, below_box8 _ _⟩
      have : 18 < sy := by omega
      simp [bad8, this]
    · obtain ⟨s, rfl⟩ : ∃ s : Nat, sy = (s : Int) := ⟨sy.toNat, by omega⟩
      obtain ⟨c0, c1, c2⟩ := T.at8 s (by omega)
      have hz := World.block_lt_of_cell? w _ c0
      simp only at hz
      have hg := grt8_lst (s : Int) (by omega)
      have hl := lst8_bd s
      have CM := pmost8 (sln8 s) (lst8 s) (mor8 s) (mor8_in s) (by omega)
      rw [← hg] at CM
      have hgb := grt8_bd s
      have HC : Hid (∀ W : World, Calls Tryd.prog 69 #[.agg #[.int .i64 (sln8 s), .int .i64 (lst8 s), .int .i64 (mor8 s : Int)]] W fun e w' => e = .returned (.int .i64 (grt8 s)) ∧ Below W.heap.size W w') := CM
      have HB : Hid (bad8 ⟨s, ct⟩ n ↔ ct < lst8 s ∨ grt8 s < ct ∨ (s = 16 ∧ n = 0)) := by
        show _ ↔ _
        unfold bad8
        constructor
        · rintro (h | h | h | h | h)
          · simp only at h; omega
          · simp only at h; omega
          · exact .inl h
          · exact .inr (.inl h)
          · exact .inr (.inr ⟨by have := h.1; simp only at this; omega, h.2⟩)
        · rintro (h | h | h)
          · exact .inr (.inr (.inl h))
          · exact .inr (.inr (.inr (.inl h)))
          · exact .inr (.inr (.inr (.inr ⟨by simp only; omega, h.2⟩)))
      have hx0 : (s = 16 ∧ sln8 s = -1) ∨ (¬ s = 16 ∧ (sln8 s == -1) = false) := by
        unfold sln8
        by_cases h : s = 16
        · subst h; exact .inl ⟨rfl, rfl⟩
        · refine .inr ⟨h, ?_⟩
          rw [if_neg (by omega), beq_eq_false_iff_ne]
          split <;> omega
      clear CM hg
      generalize sln8 (s : Int) = x0 at *
      generalize lst8 (s : Int) = x1 at *
      generalize mor8 (s : Int) = x2 at *
      generalize grt8 (s : Int) = G at *
      by_cases g1 : ct < x1
      · have HF : Hid (false = true ↔ ¬ bad8 ⟨s, ct⟩ n ∧ (n : Int) + ct ≤ 320) := by
          show _ ↔ _
          have := HB.out.2 (.inl g1)
          simp [this]
        clear HB hx0
        go_enter Tryd.func41, Tryd.ntmps41
        go_wp2_with fail
        go_region
        go_wp2_with fail
        go_ret
        exact ⟨false, rfl, HF.out, (box2_heap rfl).2.2.1.drew⟩
      · go_enter Tryd.func41, Tryd.ntmps41
        go_wp2_with fail
        obtain ⟨W, hW⟩ : ∃ W, W = (w.alloc (.cells #[.int .i64 (s : Int), .int .i64 ct] 38)).alloc (.cells #[.int .i64 x0, .int .i64 x1, .int .i64 (x2 : Int)] 102) := ⟨_, rfl⟩
        rw [← hW]
        obtain ⟨w1, w2, BW, hWs⟩ := box2_heap hW
        clear hW
        have q0 : W.cell? ⟨w.heap.size, 0, none⟩ = some (.int .i64 (s : Int)) := (cell_of_row W _ 0 _ _ _ w1).trans rfl
        have q1 : W.cell? ⟨w.heap.size, 1, none⟩ = some (.int .i64 ct) := (cell_of_row W _ 1 _ _ _ w1).trans rfl
        have q2 : W.cell? ⟨w.heap.size + 1, 0, none⟩ = some (.int .i64 x0) := (cell_of_row W _ 0 _ _ _ w2).trans rfl
        have q3 : W.cell? ⟨w.heap.size + 1, 1, none⟩ = some (.int .i64 x1) := (cell_of_row W _ 1 _ _ _ w2).trans rfl
        have q4 : W.cell? ⟨w.heap.size + 1, 2, none⟩ = some (.int .i64 (x2 : Int)) := (cell_of_row W _ 2 _ _ _ w2).trans rfl
        have HK : Hid (∀ W' : World, Below W.heap.size W W' → W'.cell? ⟨w.heap.size, 0, none⟩ = some (.int .i64 (s : Int)) ∧ W'.cell? ⟨w.heap.size, 1, none⟩ = some (.int .i64 ct) ∧ W'.cell? ⟨w.heap.size + 1, 0, none⟩ = some (.int .i64 x0) ∧ W'.cell? ⟨w.heap.size + 1, 1, none⟩ = some (.int .i64 x1) ∧ W'.cell? ⟨w.heap.size + 1, 2, none⟩ = some (.int .i64 (x2 : Int))) := fun W' hb => ⟨(hb.cell (p := ⟨w.heap.size, 0, none⟩) (by simp only; omega)).trans q0, (hb.cell (p := ⟨w.heap.size, 1, none⟩) (by simp only; omega)).trans q1, (hb.cell (p := ⟨w.heap.size + 1, 0, none⟩) (by simp only; omega)).trans q2, (hb.cell (p := ⟨w.heap.size + 1, 1, none⟩) (by simp only; omega)).trans q3, (hb.cell (p := ⟨w.heap.size + 1, 2, none⟩) (by simp only; omega)).trans q4⟩
        clear w1 w2 hWs c0 c1 c2
        have hd1 : decide (ct < x1) = false := by simpa using g1
        by_cases g2 : G < ct
        · have hd2 : decide (G < ct) = true := by simpa using g2
          have HF : Hid (false = true ↔ ¬ bad8 ⟨s, ct⟩ n ∧ (n : Int) + ct ≤ 320) := by
            show _ ↔ _
            have := HB.out.2 (.inr (.inl g2))
            simp [this]
          clear HB hx0
          go_region_held3 (fun W' => W'.cell? ⟨w.heap.size, 0, none⟩ = some (.int .i64 (s : Int)) ∧ W'.cell? ⟨w.heap.size, 1, none⟩ = some (.int .i64 ct) ∧ W'.cell? ⟨w.heap.size + 1, 0, none⟩ = some (.int .i64 x0) ∧ W'.cell? ⟨w.heap.size + 1, 1, none⟩ = some (.int .i64 x1) ∧ W'.cell? ⟨w.heap.size + 1, 2, none⟩ = some (.int .i64 (x2 : Int))) (first | (exact ⟨q0, q1, q2, q3, q4⟩) | (exact HK.out _ (by assumption)) | go_keep)
            (first | (go_at_call 69; refine (HC.out _).mono ?_; rintro e w1 ⟨rfl, b1⟩; have b2 : Below W.heap.size W w1 := ⟨b1.os, b1.tape, b1.output, b1.size, b1.block⟩))
          go_wp2_with fail
          go_ret
          exact ⟨false, rfl, HF.out, BW.trans (b2.mono BW.size)⟩
        · have hd2 : decide (G < ct) = false := by simpa using g2
          have hcase : (s = 16 ∧ x0 = -1 ∧ n = 0) ∨ (s = 16 ∧ x0 = -1 ∧ ¬ n = 0) ∨ (¬ s = 16 ∧ (x0 == -1) = false) := by
            rcases hx0 with ⟨h, h'⟩ | ⟨h, h'⟩
            · by_cases e : n = 0
              · exact .inl ⟨h, h', e⟩
              · exact .inr (.inl ⟨h, h', e⟩)
            · exact .inr (.inr ⟨h, h'⟩)
          go_region_held3 (fun W' => W'.cell? ⟨w.heap.size, 0, none⟩ = some (.int .i64 (s : Int)) ∧ W'.cell? ⟨w.heap.size, 1, none⟩ = some (.int .i64 ct) ∧ W'.cell? ⟨w.heap.size + 1, 0, none⟩ = some (.int .i64 x0) ∧ W'.cell? ⟨w.heap.size + 1, 1, none⟩ = some (.int .i64 x1) ∧ W'.cell? ⟨w.heap.size + 1, 2, none⟩ = some (.int .i64 (x2 : Int))) (first | (exact ⟨q0, q1, q2, q3, q4⟩) | (exact HK.out _ (by assumption)) | go_keep)
            (first | (go_at_call 69; refine (HC.out _).mono ?_; rintro e w1 ⟨rfl, b1⟩; have b2 : Below W.heap.size W w1 := ⟨b1.os, b1.tape, b1.output, b1.size, b1.block⟩))
          obtain ⟨p0, p1, p2, p3, p4⟩ := HK.out w1 b2
          have B2 := BW.trans (b2.mono BW.size)
          clear hx0
          rcases hcase with ⟨h16, rfl, rfl⟩ | ⟨h16, rfl, hn0⟩ | ⟨h16, hxb⟩
          · have HF : Hid (false = true ↔ ¬ bad8 ⟨(s : Int), ct⟩ 0 ∧ ((0 : Nat) : Int) + ct ≤ 320) := by
              show _ ↔ _
              have := HB.out.2 (.inr (.inr ⟨h16, rfl⟩))
              simp [this]
            clear HB
            go_wp2_with fail
            go_ret
            exact ⟨false, rfl, HF.out, B2⟩
          · have HF : Hid ((n : Int) + ct ≤ 320 ↔ ¬ bad8 ⟨(s : Int), ct⟩ n ∧ (n : Int) + ct ≤ 320) := by
              show _ ↔ _
              have hb : ¬ bad8 ⟨(s : Int), ct⟩ n := fun h => by
                rcases HB.out.1 h with h | h | h <;> omega
              simp [hb]
            have hni : (0 : Int) < (n : Int) := by omega
            clear HB
            go_wp2_with fail
            go_ret
            exact ⟨_, rfl, by have := HF.out; simpa using this, B2⟩
          · have HF : Hid ((n : Int) + ct ≤ 320 ↔ ¬ bad8 ⟨(s : Int), ct⟩ n ∧ (n : Int) + ct ≤ 320) := by
              show _ ↔ _
              have hb : ¬ bad8 ⟨(s : Int), ct⟩ n := fun h => by
                rcases HB.out.1 h with h | h | h <;> omega
              simp [hb]
            have hxn : ¬ x0 = -1 := by simpa using hxb
            have hxm : (x0 != -1) = true := by simpa using hxn
            clear HB hxb
            go_wp2_with fail
            go_ret
            exact ⟨_, rfl, by have := HF.out; simpa using this, B2⟩
end Go.Proofs.YtoeabfcnfofbiaaDoor
