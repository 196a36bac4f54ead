import Derived.Test.YtelohdakfiibaabDoorFlU
import Derived.Test.YtelohdakfiibaabDoorOpenFl
import Derived.Laws.StructEq
namespace Go.Proofs.YtelohdakfiibaabDoor
open Go.RowKit Go.Shelf
set_option linter.unusedVariables false
set_option linter.unusedSimpArgs false
set_option maxRecDepth 100000 in
set_option maxHeartbeats 16000000 in
theorem flashMade_walk (w : World) (tab : True) (o : Oq21) : Calls Tryd.prog 3 #[.agg #[.int .i64 o.c, .int .i64 o.a, .int .i64 o.p, .int .i64 o.n, .slice o.ba o.b.length o.bc]] w fun e w' => e = .returned (.bool true) ∧ Below w.heap.size w w' := by
  have HLV : Hid (∀ W : World, Calls Tryd.prog 19 #[] W fun e w' => e = .returned (.bool true) ∧ Below W.heap.size W w') := plives21
  obtain ⟨w1, hw1⟩ : ∃ w1, w1 = ((w.alloc (.cells #[.int .i64 o.c, .int .i64 o.a, .int .i64 o.p, .int .i64 o.n, .slice o.ba o.b.length o.bc] 24)).alloc (.cells #[.int .i64 0, .int .i64 0, .int .i64 0, .bool false, .int .i64 0, .map none, .int .i64 0, .slice none 0 0, .slice none 0 0] 33)).alloc (.cells #[.pointer none, .pointer (some ⟨w.heap.size + 1, 0, none⟩)] 25) := ⟨_, rfl⟩
  have HW : Hid (((w.alloc (.cells #[.int .i64 o.c, .int .i64 o.a, .int .i64 o.p, .int .i64 o.n, .slice o.ba o.b.length o.bc] 24)).alloc (.cells #[.int .i64 0, .int .i64 0, .int .i64 0, .bool false, .int .i64 0, .map none, .int .i64 0, .slice none 0 0, .slice none 0 0] 33)).alloc (.cells #[.pointer none, .pointer (some ⟨w.heap.size + 1, 0, none⟩)] 25) = w1) := hw1.symm
  have b1 : Below w.heap.size w w1 := by rw [hw1]; exact (((Below.refl _ _).alloc (Nat.le_refl _) _).alloc (by simp) _).alloc (by simp; omega) _
  have q0 : w1.heap[w.heap.size]? = some (.cells #[.int .i64 o.c, .int .i64 o.a, .int .i64 o.p, .int .i64 o.n, .slice o.ba o.b.length o.bc] 24 (0, 0)) := by rw [hw1, heap_alloc_old _ _ (by simp; omega), heap_alloc_old _ _ (by simp)]; exact heap_alloc_new w _
  have q1 : w1.heap[w.heap.size + 1]? = some (.cells #[.int .i64 0, .int .i64 0, .int .i64 0, .bool false, .int .i64 0, .map none, .int .i64 0, .slice none 0 0, .slice none 0 0] 33 (0, 0)) := by rw [hw1, heap_alloc_old _ _ (by simp)]; exact heap_alloc2_new w _ _
  have q2 : w1.heap[w.heap.size + 2]? = some (.cells #[.pointer none, .pointer (some ⟨w.heap.size + 1, 0, none⟩)] 25 (0, 0)) := by
    have e : ((w.alloc (.cells #[.int .i64 o.c, .int .i64 o.a, .int .i64 o.p, .int .i64 o.n, .slice o.ba o.b.length o.bc] 24)).alloc (.cells #[.int .i64 0, .int .i64 0, .int .i64 0, .bool false, .int .i64 0, .map none, .int .i64 0, .slice none 0 0, .slice none 0 0] 33)).heap.size = w.heap.size + 2 := by simp
    rw [hw1, ← e]; exact heap_alloc_new _ _
  obtain ⟨g, hg⟩ : ∃ g, g = w.heap.size := ⟨_, rfl⟩
  have HG : Hid (w.heap.size = g) := hg.symm
  have hs1 : w1.heap.size = g + 3 := by rw [hw1, hg]; simp
  rw [← hg] at q0 q1 q2
  have HO : Hid (∀ V : World, Below (g + 3) w1 V → V.cell? ⟨g, 0, none⟩ = some (.int .i64 o.c) ∧ V.cell? ⟨g, 1, none⟩ = some (.int .i64 o.a) ∧ V.cell? ⟨g, 2, none⟩ = some (.int .i64 o.p) ∧ V.cell? ⟨g, 3, none⟩ = some (.int .i64 o.n) ∧ V.cell? ⟨g, 4, none⟩ = some (.slice o.ba o.b.length o.bc)) := fun V hV => by
    have := (hV.block g (by omega)).trans q0
    simp [World.cell?, this]
  have HU : Hid (∀ (i : Nat) (V : World), i < 2 → Below (g + 3) w1 V → ∃ v, V.cell? ⟨g + 2, i, none⟩ = some v ∧ Un21 V v ∧ (v = .pointer none ∨ ∃ b, v = .pointer (some b))) := fun i V hi hV => by
    have e1 := (hV.block (g + 1) (by omega)).trans q1
    have e2 := (hV.block (g + 2) (by omega)).trans q2
    rcases (show i = 0 ∨ i = 1 by omega) with rfl | rfl
    · exact ⟨_, two_cell0 e2, .inl rfl, .inl rfl⟩
    · exact ⟨_, two_cell1 e2, .inr ⟨g + 1, rfl, by simp [World.cell?, e1]⟩, .inr ⟨_, rfl⟩⟩
  have HB1 : Hid (Below w.heap.size w w1 ∧ w1.heap.size = g + 3) := ⟨b1, hs1⟩
  clear hw1 b1 q0 q1 q2 hg hs1
  go_enter Tryd.func3, Tryd.ntmps3
  go_wp2_with fail
  rw [HW.out, HG.out]
  go_loopw [18] (fun ti wr => ∃ i : Nat, i ≤ 2 ∧ ti = .int .i64 (i : Int) ∧ Below (g + 3) w1 wr) (fun ti _ => 2 - (intOf ti).toNat)
  case atStart => exact ⟨0, by omega, rfl, Below.refl _ _⟩
  case round =>
    obtain ⟨i, hi2, rfl, hR⟩ := hrel
    by_cases hi : i < 2
    · have hii : (i : Int) < 2 := by omega
      obtain ⟨v, hvc, hvu, hvp⟩ := HU.out i wr hi hR
      have HUN : Hid (∀ V : World, Below wr.heap.size wr V → Un21 V v) := fun V hV => hvu.old hV
      have hz : g + 3 ≤ wr.heap.size := by have := hR.size; have := HB1.out.2; omega
      obtain ⟨c0, c1, c2, c3, c4⟩ := HO.out wr hR
      have HR : Hid (Below (g + 3) w1 wr) := hR
      have hiw : IntKind.i64.wrap ((i : Int) + 1) = ((i + 1 : Nat) : Int) := by rw [IntWalk.i64_in _ (by omega)]; omega
      clear hR hvu
      have B0 : Below wr.heap.size wr wr := Below.refl _ _
      go_wp2_with fail
      refine (upow21 v _ (HUN.out _ B0)).mono ?_
      rintro e x1 ⟨rfl, t1⟩
      have B1 : Below wr.heap.size wr x1 := B0.trans (t1.mono B0.size)
      clear c0 c1 c2 c3 c4
      obtain ⟨c0, c1, c2, c3, c4⟩ := HO.out x1 (HR.out.trans (B1.mono hz))
      go_wp2_with fail
      refine (uread21 v o.a o.p o.n _ (HUN.out _ B1)).mono ?_
      rintro e x2 ⟨rfl, t2⟩
      have B2 : Below wr.heap.size wr x2 := B1.trans (t2.mono B1.size)
      clear c0 c1 c2 c3 c4
      obtain ⟨c0, c1, c2, c3, c4⟩ := HO.out x2 (HR.out.trans (B2.mono hz))
      go_wp2_with fail
      refine (uersd21 v o.a o.p _ (HUN.out _ B2)).mono ?_
      rintro e x3 ⟨rfl, t3⟩
      have B3 : Below wr.heap.size wr x3 := B2.trans (t3.mono B2.size)
      clear c0 c1 c2 c3 c4
      obtain ⟨c0, c1, c2, c3, c4⟩ := HO.out x3 (HR.out.trans (B3.mono hz))
      go_wp2_with fail
      refine (uers21 v o.a o.p _ (HUN.out _ B3)).mono ?_
      rintro e x4 ⟨rfl, t4⟩
      have B4 : Below wr.heap.size wr x4 := B3.trans (t4.mono B3.size)
      clear c0 c1 c2 c3 c4
      obtain ⟨c0, c1, c2, c3, c4⟩ := HO.out x4 (HR.out.trans (B4.mono hz))
      go_wp2_with fail
      refine (uprg21 v o.a o.p o.ba o.b.length o.bc _ (HUN.out _ B4)).mono ?_
      rintro e x5 ⟨rfl, t5⟩
      have B5 : Below wr.heap.size wr x5 := B4.trans (t5.mono B4.size)
      clear c0 c1 c2 c3 c4
      obtain ⟨c0, c1, c2, c3, c4⟩ := HO.out x5 (HR.out.trans (B5.mono hz))
      go_wp2_with fail
      refine (ucut21 v o.n o.ba o.b.length o.bc _ (HUN.out _ B5)).mono ?_
      rintro e x6 ⟨rfl, t6⟩
      have B6 : Below wr.heap.size wr x6 := B5.trans (t6.mono B5.size)
      clear c0 c1 c2 c3 c4
      obtain ⟨c0, c1, c2, c3, c4⟩ := HO.out x6 (HR.out.trans (B6.mono hz))
      go_wp2_with fail
      refine (utrn21 v _ (HUN.out _ B6)).mono ?_
      rintro e x7 ⟨rfl, t7⟩
      have B7 : Below wr.heap.size wr x7 := B6.trans (t7.mono B6.size)
      clear c0 c1 c2 c3 c4
      obtain ⟨c0, c1, c2, c3, c4⟩ := HO.out x7 (HR.out.trans (B7.mono hz))
      go_wp2_with fail
      refine (ulim21 v o.n _ (HUN.out _ B7)).mono ?_
      rintro e x8 ⟨rfl, t8⟩
      have B8 : Below wr.heap.size wr x8 := B7.trans (t8.mono B7.size)
      clear c0 c1 c2 c3 c4
      obtain ⟨c0, c1, c2, c3, c4⟩ := HO.out x8 (HR.out.trans (B8.mono hz))
      go_wp2_with fail
      refine (uwea21 v o.a o.p _ (HUN.out _ B8)).mono ?_
      rintro e x9 ⟨rfl, t9⟩
      have B9 : Below wr.heap.size wr x9 := B8.trans (t9.mono B8.size)
      clear c0 c1 c2 c3 c4
      obtain ⟨c0, c1, c2, c3, c4⟩ := HO.out x9 (HR.out.trans (B9.mono hz))
      go_wp2_with fail
      refine (usav21 v _ (HUN.out _ B9)).mono ?_
      rintro e x10 ⟨rfl, t10⟩
      have B10 : Below wr.heap.size wr x10 := B9.trans (t10.mono B9.size)
      clear c0 c1 c2 c3 c4
      obtain ⟨c0, c1, c2, c3, c4⟩ := HO.out x10 (HR.out.trans (B10.mono hz))
      go_wp2_with fail
      refine (uon21 v _ (HUN.out _ B10)).mono ?_
      rintro e x11 ⟨rfl, t11⟩
      have B11 : Below wr.heap.size wr x11 := B10.trans (t11.mono B10.size)
      clear c0 c1 c2 c3 c4
      obtain ⟨c0, c1, c2, c3, c4⟩ := HO.out x11 (HR.out.trans (B11.mono hz))
      go_wp2_with fail
      refine (uops21 v _ (HUN.out _ B11)).mono ?_
      rintro e x12 ⟨rfl, t12⟩
      have B12 : Below wr.heap.size wr x12 := B11.trans (t12.mono B11.size)
      clear c0 c1 c2 c3 c4
      obtain ⟨c0, c1, c2, c3, c4⟩ := HO.out x12 (HR.out.trans (B12.mono hz))
      go_wp2_with fail
      refine (ulog21 v _ (HUN.out _ B12)).mono ?_
      rintro e x13 ⟨rfl, t13⟩
      have B13 : Below wr.heap.size wr x13 := B12.trans (t13.mono B12.size)
      clear c0 c1 c2 c3 c4
      obtain ⟨c0, c1, c2, c3, c4⟩ := HO.out x13 (HR.out.trans (B13.mono hz))
      go_wp2_with fail
      refine (uact21 v _ (HUN.out _ B13)).mono ?_
      rintro e x14 ⟨rfl, t14⟩
      have B14 : Below wr.heap.size wr x14 := B13.trans (t14.mono B13.size)
      clear c0 c1 c2 c3 c4
      obtain ⟨c0, c1, c2, c3, c4⟩ := HO.out x14 (HR.out.trans (B14.mono hz))
      go_wp2_with fail
      refine (ushp21 v _ (HUN.out _ B14)).mono ?_
      rintro e x15 ⟨rfl, t15⟩
      have B15 : Below wr.heap.size wr x15 := B14.trans (t15.mono B14.size)
      clear c0 c1 c2 c3 c4
      obtain ⟨c0, c1, c2, c3, c4⟩ := HO.out x15 (HR.out.trans (B15.mono hz))
      go_wp2_with fail
      go_roundw
      case rel => exact ⟨i + 1, by omega, by go_num, HR.out.trans (B15.mono hz)⟩
      case measure => simp [intOf]; omega
    · obtain rfl : i = 2 := by omega
      have hii : ¬ ((2 : Nat) : Int) < 2 := by omega
      have HR : Hid (Below (g + 3) w1 wr) := hR
      clear hR
      go_wp2_with fail
      refine (HLV.out _).mono ?_
      rintro e x1 ⟨rfl, t1⟩
      go_wp2_with fail
      go_ret
      have h1 := HB1.out
      have h2 := HG.out
      have h3 := HR.out.size
      exact ⟨rfl, (h1.1.trans (HR.out.mono (by omega))).trans (t1.mono (by omega))⟩
end Go.Proofs.YtelohdakfiibaabDoor
