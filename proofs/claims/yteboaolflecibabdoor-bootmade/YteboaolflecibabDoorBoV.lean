import Derived.Test.YteboaolflecibabDoorBoU
import Derived.Test.YteboaolflecibabDoorBoC
import Derived.Deep.CutRange
namespace Go.Proofs.YteboaolflecibabDoor
open Go.RowKit Go.Shelf
set_option linter.unusedVariables false
set_option linter.unusedSimpArgs false
/-- What holds at the loop's head. -/
def Hm25 (w : World) (r : Rc25) (bp zb : Nat) (t15 : Value) (V : World) : Prop := ∃ i : Nat, i ≤ 2 ∧ t15 = .int .i64 (i : Int) ∧ Below w.heap.size w V ∧ V.heap[w.heap.size]? = some (.cells r.cs 36 (0, 0)) ∧ V.cell? ⟨bp, 0, none⟩ = some (.pointer none) ∧ V.cell? ⟨bp, 1, none⟩ = some (.pointer (some ⟨zb, 0, none⟩)) ∧ V.cell? ⟨zb, 0, none⟩ = some (.int .i64 0)
theorem Hm25.old {w V W : World} {r : Rc25} {bp zb : Nat} {t : Value} (h : Hm25 w r bp zb t V) (hb : Below V.heap.size V W) : Hm25 w r bp zb t W := by
  obtain ⟨i, h1, h2, h3, h4, h5, h6, h7⟩ := h
  exact ⟨i, h1, h2, h3.trans (hb.mono h3.size), (hb.block _ (Array.getElem?_eq_some_iff.1 h4).1).trans h4, (hb.cell (p := ⟨bp, 0, none⟩) (World.block_lt_of_cell? V _ h5)).trans h5, (hb.cell (p := ⟨bp, 1, none⟩) (World.block_lt_of_cell? V _ h6)).trans h6, (hb.cell (p := ⟨zb, 0, none⟩) (World.block_lt_of_cell? V _ h7)).trans h7⟩
set_option maxRecDepth 100000 in
set_option maxHeartbeats 8000000 in
theorem bootMade_walk (w : World) (ht : Tab w) (r : Rc25) (wd : r.wd) : Calls Tryd.prog 4 #[.agg r.cs] w fun e w' => e = .returned (.bool true) ∧ Below w.heap.size w w' := by
  have HT : Hid (∀ V, Below w.heap.size w V → Tab V) := fun V hV => ht.old hV
  have HFC : Hid (∀ W, Calls Tryd.prog 14 #[.agg r.cs] W fun e w' => e = .returned (.agg r.cs) ∧ Below W.heap.size W w') := fun W => pfc25 r W
  have HWR : Hid (∀ v W, Un21 W v → Calls Tryd.prog 13 #[v, .agg r.cs] W fun e w' => e = .returned (.tuple #[.agg zr25.cs, .int .i64 2]) ∧ Below W.heap.size W w') := fun v W h => uwrite25 v r W h
  clear ht wd
  obtain ⟨CS, hCS⟩ : ∃ c, c = r.cs := ⟨_, rfl⟩
  have HCS : Hid (CS = r.cs) := hCS
  have HSZ : Hid ((Tryd.prog.info? 36).map (·.size) = some CS.size) := by show (Tryd.prog.info? 36).map (·.size) = some CS.size; rw [hCS]; exact info_rc25d
  rw [← hCS] at HFC HWR ⊢
  clear hCS
  go_enter Tryd.func4, Tryd.ntmps4
  go_wp2_with fail
  obtain ⟨wS, hwS⟩ : ∃ v, v = ((w.alloc (.cells CS 36)).alloc (.cells #[.int .i64 0, .int .i64 0, .int .i64 0, .bool false, .int .i64 0, .map none, .int .i64 0, .slice none 0 0, .slice none 0 0] 53)).alloc (.cells #[.pointer none, .pointer (some ⟨w.heap.size + 1, 0, none⟩)] 54) := ⟨_, rfl⟩
  have HWS : Hid (((w.alloc (.cells CS 36)).alloc (.cells #[.int .i64 0, .int .i64 0, .int .i64 0, .bool false, .int .i64 0, .map none, .int .i64 0, .slice none 0 0, .slice none 0 0] 53)).alloc (.cells #[.pointer none, .pointer (some ⟨w.heap.size + 1, 0, none⟩)] 54) = wS) := hwS.symm
  have H0 : Hid (Hm25 w r (w.heap.size + 1 + 1) (w.heap.size + 1) (.int .i64 0) wS) := by
    rw [hwS]
    refine ⟨0, by omega, rfl, (((Below.refl _ _).alloc (Nat.le_refl _) _).alloc (by simp) _).alloc (by simp <;> omega) _, ?_, ?_, ?_, ?_⟩
    · rw [heap_alloc_old _ _ (by simp <;> omega), heap_alloc_old _ _ (by simp), ← HCS.out]; exact heap_alloc_new _ _
    · exact cell25 (heap_alloc3_25 _ _ _ _) rfl
    · exact cell25 (heap_alloc3_25 _ _ _ _) rfl
    · exact cell25 (t := 53) (by rw [heap_alloc_old _ _ (by simp)]; exact heap_alloc2_new _ _ _) rfl
  rw [HWS.out]
  obtain ⟨bp, hbp⟩ : ∃ b, b = w.heap.size + 1 + 1 := ⟨_, rfl⟩
  obtain ⟨zb, hzb⟩ : ∃ b, b = w.heap.size + 1 := ⟨_, rfl⟩
  rw [← hbp, ← hzb] at H0
  rw [← hbp]
  clear hwS hbp hzb HWS
  go_wp2_with fail
  go_loopw [15] (fun t15 V => Hm25 w r bp zb t15 V) (fun t15 _ => 2 - (intOf t15).toNat)
  case atStart => exact H0.out
  case round =>
    have HR : Hid (Hm25 w r bp zb u15 wr) := hrel
    obtain ⟨i, hi, rfl, hB, hr, p0, p1, z0⟩ := hrel
    clear H0
    rcases (by omega : i = 0 ∨ i = 1 ∨ i = 2) with rfl | rfl | rfl
    · go_wp2_with fail
      clear p0 p1 z0 hr hB
      refine (uread25 (.pointer none) wr (.inl rfl)).mono ?_
      rintro e1 w1 ⟨rfl, b1⟩
      obtain ⟨w2, hw2⟩ : ∃ v, v = w1.alloc (.cells #[.int .i64 0, .int .i64 0, .int .i64 0, .int .i64 0, .int .u32 0, .int .i64 0, .int .i64 0, .int .i64 0, .int .u32 0, .int .i64 0] 29) := ⟨_, rfl⟩
      obtain ⟨r1, hr1⟩ : ∃ b, b = w1.heap.size := ⟨_, rfl⟩
      have B1 : Hid (Below wr.heap.size wr w2 ∧ w2.heap[r1]? = some (.cells #[.int .i64 0, .int .i64 0, .int .i64 0, .int .i64 0, .int .u32 0, .int .i64 0, .int .i64 0, .int .i64 0, .int .u32 0, .int .i64 0] 29 (0, 0)) ∧ w1.alloc (.cells #[.int .i64 0, .int .i64 0, .int .i64 0, .int .i64 0, .int .u32 0, .int .i64 0, .int .i64 0, .int .i64 0, .int .u32 0, .int .i64 0] 29) = w2 ∧ w1.heap.size = r1) := ⟨by rw [hw2]; exact b1.alloc b1.size _, by rw [hw2, hr1]; exact heap_alloc_new _ _, hw2.symm, hr1.symm⟩
      have H2 : Hid (Hm25 w r bp zb (.int .i64 ((0 : Nat) : Int)) w2) := HR.out.old B1.out.1
      have HB2 : Hid (w2.heap[w.heap.size]? = some (.cells CS 36 (0, 0))) := by obtain ⟨_, _, _, _, h, _⟩ := H2.out; rw [HCS.out]; exact h
      clear hw2 hr1 b1
      go_upto_region 6 with fail
      rw [B1.out.2.2.1, B1.out.2.2.2]
      go_wp2_with (refine wpList_load_row rfl 36 (.tmp 1) rfl w.heap.size rfl _ CS _ _ HB2.out Tryd.underlying36 rfl HSZ.out ?_)
      refine (HFC.out w2).mono ?_
      rintro e2 w3 ⟨rfl, b3⟩
      have H3 : Hid (Hm25 w r bp zb (.int .i64 ((0 : Nat) : Int)) w3) := H2.out.old b3
      have B3 : Hid (Below w2.heap.size w2 w3) := b3
      clear b3
      go_wp2_with fail
      refine (HWR.out (.pointer none) w3 (.inl rfl)).mono ?_
      rintro e3 w4 ⟨rfl, b4⟩
      rw [show zr25.cs = #[.int .i64 0, .int .i64 0, .int .i64 0, .int .i64 0, .int .u32 0, .int .i64 0, .int .i64 0, .int .i64 0, .int .u32 0, .int .i64 0] from rfl]
      obtain ⟨w5, hw5⟩ : ∃ v, v = w4.alloc (.cells #[.int .i64 0, .int .i64 0, .int .i64 0, .int .i64 0, .int .u32 0, .int .i64 0, .int .i64 0, .int .i64 0, .int .u32 0, .int .i64 0] 29) := ⟨_, rfl⟩
      obtain ⟨r2, hr2⟩ : ∃ b, b = w4.heap.size := ⟨_, rfl⟩
      have B5 : Hid (Below w3.heap.size w3 w5 ∧ w5.heap[r2]? = some (.cells #[.int .i64 0, .int .i64 0, .int .i64 0, .int .i64 0, .int .u32 0, .int .i64 0, .int .i64 0, .int .i64 0, .int .u32 0, .int .i64 0] 29 (0, 0)) ∧ w4.alloc (.cells #[.int .i64 0, .int .i64 0, .int .i64 0, .int .i64 0, .int .u32 0, .int .i64 0, .int .i64 0, .int .i64 0, .int .u32 0, .int .i64 0] 29) = w5 ∧ w4.heap.size = r2) := ⟨by rw [hw5]; exact b4.alloc b4.size _, by rw [hw5, hr2]; exact heap_alloc_new _ _, hw5.symm, hr2.symm⟩
      have H5 : Hid (Hm25 w r bp zb (.int .i64 ((0 : Nat) : Int)) w5) := H3.out.old B5.out.1
      clear hw5 hr2 b4
      go_upto_region 7 with fail
      rw [B5.out.2.2.1, B5.out.2.2.2]
      go_wp2_with fail
      refine (uhist25 (.pointer none) w5 (.inl rfl)).mono ?_
      rintro e4 w6 ⟨rfl, b6⟩
      have H6 : Hid (Hm25 w r bp zb (.int .i64 ((0 : Nat) : Int)) w6) := H5.out.old b6
      have q1 : w6.heap[r1]? = some (.cells #[.int .i64 0, .int .i64 0, .int .i64 0, .int .i64 0, .int .u32 0, .int .i64 0, .int .i64 0, .int .i64 0, .int .u32 0, .int .i64 0] 29 (0, 0)) := by
        have bb : Below w2.heap.size w2 w6 := B3.out.trans ((B5.out.1.mono B3.out.size).trans (b6.mono (Nat.le_trans B3.out.size B5.out.1.size)))
        exact (bb.block _ (Array.getElem?_eq_some_iff.1 B1.out.2.1).1).trans B1.out.2.1
      have q2 : w6.heap[r2]? = some (.cells #[.int .i64 0, .int .i64 0, .int .i64 0, .int .i64 0, .int .u32 0, .int .i64 0, .int .i64 0, .int .i64 0, .int .u32 0, .int .i64 0] 29 (0, 0)) := (b6.block _ (Array.getElem?_eq_some_iff.1 B5.out.2.1).1).trans B5.out.2.1
      obtain ⟨c0, c1, c2, c3, c4, c5, c6, c7, c8, c9⟩ := cells25 (q := 0) (t := 0) (g := no25) (n := no25) q1
      obtain ⟨d0, d1, d2, d3, d4, d5, d6, d7, d8, d9⟩ := cells25 (q := 0) (t := 0) (g := no25) (n := no25) q2
      simp only [no25] at c0 c1 c2 c3 c4 c5 c6 c7 c8 c9 d0 d1 d2 d3 d4 d5 d6 d7 d8 d9
      clear q1 q2 b6
      go_wp2_with fail
      go_roundw
      case rel => obtain ⟨j, j1, j2, j3, j4, j5, j6, j7⟩ := H6.out; exact ⟨1, by omega, rfl, j3, j4, j5, j6, j7⟩
      case measure => simp [intOf]
    · go_wp2_with fail
      clear p0 p1 z0 hr hB
      refine (uread25 (.pointer (some ⟨zb, 0, none⟩)) wr (.inr ⟨zb, rfl, (by obtain ⟨_, _, _, _, _, _, _, h⟩ := HR.out; exact h)⟩)).mono ?_
      rintro e1 w1 ⟨rfl, b1⟩
      obtain ⟨w2, hw2⟩ : ∃ v, v = w1.alloc (.cells #[.int .i64 0, .int .i64 0, .int .i64 0, .int .i64 0, .int .u32 0, .int .i64 0, .int .i64 0, .int .i64 0, .int .u32 0, .int .i64 0] 29) := ⟨_, rfl⟩
      obtain ⟨r1, hr1⟩ : ∃ b, b = w1.heap.size := ⟨_, rfl⟩
      have B1 : Hid (Below wr.heap.size wr w2 ∧ w2.heap[r1]? = some (.cells #[.int .i64 0, .int .i64 0, .int .i64 0, .int .i64 0, .int .u32 0, .int .i64 0, .int .i64 0, .int .i64 0, .int .u32 0, .int .i64 0] 29 (0, 0)) ∧ w1.alloc (.cells #[.int .i64 0, .int .i64 0, .int .i64 0, .int .i64 0, .int .u32 0, .int .i64 0, .int .i64 0, .int .i64 0, .int .u32 0, .int .i64 0] 29) = w2 ∧ w1.heap.size = r1) := ⟨by rw [hw2]; exact b1.alloc b1.size _, by rw [hw2, hr1]; exact heap_alloc_new _ _, hw2.symm, hr1.symm⟩
      have H2 : Hid (Hm25 w r bp zb (.int .i64 ((1 : Nat) : Int)) w2) := HR.out.old B1.out.1
      have HB2 : Hid (w2.heap[w.heap.size]? = some (.cells CS 36 (0, 0))) := by obtain ⟨_, _, _, _, h, _⟩ := H2.out; rw [HCS.out]; exact h
      clear hw2 hr1 b1
      go_upto_region 6 with fail
      rw [B1.out.2.2.1, B1.out.2.2.2]
      go_wp2_with (refine wpList_load_row rfl 36 (.tmp 1) rfl w.heap.size rfl _ CS _ _ HB2.out Tryd.underlying36 rfl HSZ.out ?_)
      refine (HFC.out w2).mono ?_
      rintro e2 w3 ⟨rfl, b3⟩
      have H3 : Hid (Hm25 w r bp zb (.int .i64 ((1 : Nat) : Int)) w3) := H2.out.old b3
      have B3 : Hid (Below w2.heap.size w2 w3) := b3
      clear b3
      go_wp2_with fail
      refine (HWR.out (.pointer (some ⟨zb, 0, none⟩)) w3 (.inr ⟨zb, rfl, (by obtain ⟨_, _, _, _, _, _, _, h⟩ := H3.out; exact h)⟩)).mono ?_
      rintro e3 w4 ⟨rfl, b4⟩
      rw [show zr25.cs = #[.int .i64 0, .int .i64 0, .int .i64 0, .int .i64 0, .int .u32 0, .int .i64 0, .int .i64 0, .int .i64 0, .int .u32 0, .int .i64 0] from rfl]
      obtain ⟨w5, hw5⟩ : ∃ v, v = w4.alloc (.cells #[.int .i64 0, .int .i64 0, .int .i64 0, .int .i64 0, .int .u32 0, .int .i64 0, .int .i64 0, .int .i64 0, .int .u32 0, .int .i64 0] 29) := ⟨_, rfl⟩
      obtain ⟨r2, hr2⟩ : ∃ b, b = w4.heap.size := ⟨_, rfl⟩
      have B5 : Hid (Below w3.heap.size w3 w5 ∧ w5.heap[r2]? = some (.cells #[.int .i64 0, .int .i64 0, .int .i64 0, .int .i64 0, .int .u32 0, .int .i64 0, .int .i64 0, .int .i64 0, .int .u32 0, .int .i64 0] 29 (0, 0)) ∧ w4.alloc (.cells #[.int .i64 0, .int .i64 0, .int .i64 0, .int .i64 0, .int .u32 0, .int .i64 0, .int .i64 0, .int .i64 0, .int .u32 0, .int .i64 0] 29) = w5 ∧ w4.heap.size = r2) := ⟨by rw [hw5]; exact b4.alloc b4.size _, by rw [hw5, hr2]; exact heap_alloc_new _ _, hw5.symm, hr2.symm⟩
      have H5 : Hid (Hm25 w r bp zb (.int .i64 ((1 : Nat) : Int)) w5) := H3.out.old B5.out.1
      clear hw5 hr2 b4
      go_upto_region 7 with fail
      rw [B5.out.2.2.1, B5.out.2.2.2]
      go_wp2_with fail
      refine (uhist25 (.pointer (some ⟨zb, 0, none⟩)) w5 (.inr ⟨zb, rfl, (by obtain ⟨_, _, _, _, _, _, _, h⟩ := H5.out; exact h)⟩)).mono ?_
      rintro e4 w6 ⟨rfl, b6⟩
      have H6 : Hid (Hm25 w r bp zb (.int .i64 ((1 : Nat) : Int)) w6) := H5.out.old b6
      have q1 : w6.heap[r1]? = some (.cells #[.int .i64 0, .int .i64 0, .int .i64 0, .int .i64 0, .int .u32 0, .int .i64 0, .int .i64 0, .int .i64 0, .int .u32 0, .int .i64 0] 29 (0, 0)) := by
        have bb : Below w2.heap.size w2 w6 := B3.out.trans ((B5.out.1.mono B3.out.size).trans (b6.mono (Nat.le_trans B3.out.size B5.out.1.size)))
        exact (bb.block _ (Array.getElem?_eq_some_iff.1 B1.out.2.1).1).trans B1.out.2.1
      have q2 : w6.heap[r2]? = some (.cells #[.int .i64 0, .int .i64 0, .int .i64 0, .int .i64 0, .int .u32 0, .int .i64 0, .int .i64 0, .int .i64 0, .int .u32 0, .int .i64 0] 29 (0, 0)) := (b6.block _ (Array.getElem?_eq_some_iff.1 B5.out.2.1).1).trans B5.out.2.1
      obtain ⟨c0, c1, c2, c3, c4, c5, c6, c7, c8, c9⟩ := cells25 (q := 0) (t := 0) (g := no25) (n := no25) q1
      obtain ⟨d0, d1, d2, d3, d4, d5, d6, d7, d8, d9⟩ := cells25 (q := 0) (t := 0) (g := no25) (n := no25) q2
      simp only [no25] at c0 c1 c2 c3 c4 c5 c6 c7 c8 c9 d0 d1 d2 d3 d4 d5 d6 d7 d8 d9
      clear q1 q2 b6
      go_wp2_with fail
      go_roundw
      case rel => obtain ⟨j, j1, j2, j3, j4, j5, j6, j7⟩ := H6.out; exact ⟨2, by omega, rfl, j3, j4, j5, j6, j7⟩
      case measure => simp [intOf]
    · have LV := plives25 wr (HT.out wr hB)
      have HBB : Hid (Below w.heap.size w wr) := hB
      clear p0 p1 z0 hr hB HR
      go_wp2_with fail
      refine LV.mono ?_
      rintro e1 w1 ⟨rfl, b1⟩
      have B1 : Hid (Below w.heap.size w w1) := HBB.out.trans (b1.mono HBB.out.size)
      clear b1 LV
      go_wp2_with fail
      go_ret
      exact ⟨rfl, B1.out⟩
end Go.Proofs.YteboaolflecibabDoor
