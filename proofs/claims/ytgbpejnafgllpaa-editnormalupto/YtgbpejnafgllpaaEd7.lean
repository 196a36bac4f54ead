
import Derived.Test.YtgbpejnafgllpaaEd6
import Derived.Test.YtgbpejnafgllpaaSame
import Derived.Lib.SlBytesConst
namespace Go.Proofs.Ytgbpejnafgllpaa
open Go.RowKit Go.Shelf
set_option linter.unusedVariables false

/-! The law's first, awake. -/
theorem seg_lit16 (w : World) (zs : List Int) (t : TypeId) (fr : Nat × Nat) (h : ∀ z ∈ zs, 0 ≤ z ∧ z ≤ 255) : Seg (w.alloc (.cells (zs.map (Value.int .u8)).toArray t fr)) (some ⟨w.heap.size, 0, none⟩) zs := by
  refine ⟨fun i hi => ⟨w.heap.size, 0, rfl, ?_⟩, by decide, getD_bd (by decide) h⟩
  have e : zs.getD i 0 = zs[i] := by simp [List.getD, hi]
  rw [e, Nat.zero_add, World.cell?_alloc_mark]
  simp [hi]
def FiQ16 (w : World) (e : Ending) (w' : World) : Prop := ∃ g1 g2 g3, e = .returned (ev16 (some ⟨g1, 0, none⟩) 2 2 (some ⟨g2, 0, none⟩) 5 5 (some ⟨g3, 0, none⟩) 2 2) ∧ Ed16 w' (some ⟨g1, 0, none⟩) 2 [(3, 2, 1), (2, 0, 0)] (some ⟨g2, 0, none⟩) 5 [0, 0, 1, 0, 0] (some ⟨g3, 0, none⟩) 2 [120, 121] ∧ Below w.heap.size w w'
set_option maxRecDepth 100000 in
set_option maxHeartbeats 4000000 in
theorem pfirst16 (w : World) : Calls Try.prog 31 #[] w (FiQ16 w) := by
  obtain ⟨w1, hw1⟩ : ∃ w1, w1 = w.alloc (.cells #[.slice none 0 0, .slice none 0 0, .slice none 0 0] 25) := ⟨_, rfl⟩
  obtain ⟨w2, hw2⟩ : ∃ w2, w2 = w1.alloc (.cells #[.int .i64 3, .int .i64 2, .int .i64 1, .int .i64 2, .int .i64 0, .int .i64 0] 53) := ⟨_, rfl⟩
  obtain ⟨w3, hw3⟩ : ∃ w3, w3 = w2.alloc (.cells #[.int .u8 0, .int .u8 0, .int .u8 1, .int .u8 0, .int .u8 0] 5) := ⟨_, rfl⟩
  have z1 : w1.heap.size = w.heap.size + 1 := by rw [hw1]; simp
  have z2 : w2.heap.size = w.heap.size + 1 + 1 := by rw [hw2]; simp; omega
  have z3 : w3.heap.size = w.heap.size + 1 + 1 + 1 := by rw [hw3]; simp; omega
  have hcv := Lib.run_convert_bytes_const (P := Try.prog) w3 23 5 #[.int .u8 120, .int .u8 121] 2 2 Try.underlying23 Try.underlying5
  obtain ⟨w4, hw4⟩ : ∃ w4, w4 = w3.alloc (.cells #[.int .u8 120, .int .u8 121] 5 (2, 3)) := ⟨_, rfl⟩
  have b1 : Below w.heap.size w w1 := by rw [hw1]; exact below_box16 _ _
  have b12 : Below w1.heap.size w1 w2 := by rw [hw2]; exact below_box16 _ _
  have b23 : Below w2.heap.size w2 w3 := by rw [hw3]; exact below_box16 _ _
  have b34 : Below w3.heap.size w3 w4 := by rw [hw4]; exact (Below.refl _ _).alloc (Nat.le_refl _) _
  have b24 : Below w2.heap.size w2 w4 := b23.trans (b34.mono b23.size)
  have b14 : Below w1.heap.size w1 w4 := b12.trans (b24.mono b12.size)
  have q1 : w1.heap[w.heap.size]? = some (.cells #[.slice none 0 0, .slice none 0 0, .slice none 0 0] 25 (0, 0)) := by rw [hw1]; exact heap_alloc_new w _
  have q4 := (b14.block _ (by omega)).trans q1
  have q2 : w4.heap[w.heap.size + 1]? = some (.cells #[.int .i64 3, .int .i64 2, .int .i64 1, .int .i64 2, .int .i64 0, .int .i64 0] 53 (0, 0)) := (b24.block _ (by omega)).trans (by rw [hw2, ← z1]; exact heap_alloc_new w1 _)
  have s2 : Seg w3 (some ⟨w.heap.size + 1 + 1, 0, none⟩) [0, 0, 1, 0, 0] := by rw [hw3, ← z2]; exact seg_lit16 w2 [0, 0, 1, 0, 0] 5 (0, 0) (by decide)
  have s3 : Seg w4 (some ⟨w.heap.size + 1 + 1 + 1, 0, none⟩) [120, 121] := by rw [hw4, ← z3]; exact seg_lit16 w3 [120, 121] 5 (2, 3) (by decide)
  rw [z3] at hcv
  simp only [List.size_toArray, List.length_cons, List.length_nil, Nat.reduceAdd] at hcv
  rw [← hw4] at hcv
  have HB : Hid (∀ V, Kp (fun k => k = w.heap.size) w4 V → Ed16 V (some ⟨w.heap.size + 1, 0, none⟩) 2 [(3, 2, 1), (2, 0, 0)] (some ⟨w.heap.size + 1 + 1, 0, none⟩) 5 [0, 0, 1, 0, 0] (some ⟨w.heap.size + 1 + 1 + 1, 0, none⟩) 2 [120, 121] ∧ Below w.heap.size w V) := fun V hV => by
    have p2 := hV.heap q2 (by omega)
    refine ⟨⟨⟨?_, ?_⟩, (s2.old b34).kp hV (by intro b off e _; have : w.heap.size + 1 + 1 = b := by injection e with e; injection e
                                              show ¬ b = _; omega), s3.kp hV (by intro b off e _; have : w.heap.size + 1 + 1 + 1 = b := by injection e with e; injection e
                                                                                 show ¬ b = _; omega), rfl, rfl, rfl, by omega, by omega, by omega⟩, ?_⟩
    · intro i hi
      refine ⟨_, _, rfl, ?_⟩
      have hi : i < 2 := hi
      rcases Nat.lt_or_ge i 1 with h | h
      · have : i = 0 := by omega
        subst this
        exact ⟨by simp [World.cell?, p2], by simp [World.cell?, p2], by simp [World.cell?, p2]⟩
      · have : i = 1 := by omega
        subst this
        exact ⟨by simp [World.cell?, p2], by simp [World.cell?, p2], by simp [World.cell?, p2]⟩
    · intro t ht
      simp only [List.mem_cons, List.not_mem_nil, or_false] at ht
      rcases ht with rfl | rfl <;> (unfold Fit16; simp)
    · have b04 : Below w.heap.size w w4 := b1.trans (b14.mono b1.size)
      exact b04.trans (hV.below (fun k e => by have e : k = w.heap.size := e; omega) b04.size)
  have c0 := three_cell0 q4
  have c1 := three_cell1 q4
  have c2 := three_cell2 q4
  have f0 := three_free q4 0
  have f1 := three_free q4 1
  have f2 := three_free q4 2
  have HQ4 : Hid (w4.heap[w.heap.size]? = some (.cells #[.slice none 0 0, .slice none 0 0, .slice none 0 0] 25 (0, 0))) := q4
  rw [hw3, hw2, hw1] at hcv
  clear q4 q1 q2 s2 s3 hw4 hw3 hw2 hw1 z1 z2 z3 b1 b12 b23 b34 b24 b14
  go_enter Try.func31, Try.ntmps31
  go_wp2
  refine bodyPost_ret (v := .agg #[.slice (some ⟨w.heap.size + 1, 0, none⟩) 2 2, .slice (some ⟨w.heap.size + 1 + 1, 0, none⟩) 5 5, .slice (some ⟨w.heap.size + 1 + 1 + 1, 0, none⟩) 2 2]) (results_cell_row (fn := Try.f31) (p := 0) (ty := 25) rfl _ _ w.heap.size _ _ _ _ rfl (three_set2 (three_set1 (three_set0 HQ4.out _) _) _) Try.underlying25 rfl (by kernel_rfl)) rfl ?_
  obtain ⟨h1, h2⟩ := HB.out _ (((Kp.set (S := fun k => k = w.heap.size) rfl _).trans (Kp.set (S := fun k => k = w.heap.size) rfl _) (fun _ _ h => h)).trans (Kp.set (S := fun k => k = w.heap.size) rfl _) (fun _ _ h => h))
  exact ⟨_, _, _, rfl, h1, h2⟩
theorem ap_first16 : ap16 [97, 98, 99, 100, 101, 102] [(3, 2, 1), (2, 0, 0)] [0, 0, 1, 0, 0] [120, 121] = [97, 98, 100, 120, 121, 101, 102] := by decide
theorem er_first16 : er16 6 [(3, 2, 1), (2, 0, 0)] 5 2 = 0 := by decide
set_option maxRecDepth 100000 in
set_option maxHeartbeats 4000000 in
theorem pawk16 (w : World) : Calls Try.prog 15 #[] w fun e w' => e = .returned (.bool true) ∧ Below w.heap.size w w' := by
  obtain ⟨w1, hw1⟩ : ∃ w1, w1 = w.alloc (.cells #[.int .u8 97, .int .u8 98, .int .u8 99, .int .u8 100, .int .u8 101, .int .u8 102] 5 (6, 7)) := ⟨_, rfl⟩
  have hcv := Lib.run_convert_bytes_const (P := Try.prog) w 23 5 #[.int .u8 97, .int .u8 98, .int .u8 99, .int .u8 100, .int .u8 101, .int .u8 102] 6 6 Try.underlying23 Try.underlying5
  simp only [List.size_toArray, List.length_cons, List.length_nil, Nat.reduceAdd] at hcv
  rw [← hw1] at hcv
  have b1 : Below w.heap.size w w1 := by rw [hw1]; exact (Below.refl _ _).alloc (Nat.le_refl _) _
  have s1 : Seg w1 (some ⟨w.heap.size, 0, none⟩) [97, 98, 99, 100, 101, 102] := by rw [hw1]; exact seg_lit16 w [97, 98, 99, 100, 101, 102] 5 (6, 7) (by decide)
  have CF := pfirst16 w1
  have HS : Hid (Seg w1 (some ⟨w.heap.size, 0, none⟩) [97, 98, 99, 100, 101, 102]) := s1
  have HCV : Hid (∀ W ra rc, W.ownsRow w1.heap.size 5 1 (.slice ra 7 rc) 7 (([97, 98, 100, 120, 121, 101, 102] : List Int).map (Value.int .u8)) → (convert 23 9 (.slice ra 7 rc)).run Try.prog W = .ok (.string ⟨#[97, 98, 100, 120, 121, 101, 102]⟩) W) := fun W ra rc h => by
    obtain ⟨-, a, cap, hv, hs, -⟩ := own_seg h (M := 255) (by decide) (by decide)
    injection hv with hv1 hv2 hv3
    subst hv1
    exact run_conv_segS (P := Try.prog) rc hs 23 5 9 Try.underlying23 Try.underlying5 Try.underlying9
  clear hw1 s1
  go_enter Try.func15, Try.ntmps15
  go_wp2_with (first
    | (go_at_call 31; refine CF.mono ?_; rintro e2 w2 ⟨g1, g2, g3, rfl, hE, B2⟩; have CA := papp16_ok (sc := 2) (dc := 5) (xc := 2) (za := some ⟨w.heap.size, 0, none⟩) (zl := 6) (zc := 6) (z := [97, 98, 99, 100, 101, 102]) hE (HS.out.old B2) rfl (by omega) (by omega) er_first16; rw [ap_first16] at CA; unfold ev16 at CA; clear CF hcv)
    | (go_at_call 16; refine CA.mono ?_; rintro e3 w3 ⟨ra, rc, rfl, hown, B3⟩; have hc3 := HCV.out w3 ra rc (own_base hown B2.size); clear CA hown))
  go_ret
  have b12 := b1.trans (B2.mono b1.size)
  exact ⟨rfl, b12.trans (B3.mono b12.size)⟩
set_option maxRecDepth 100000 in
theorem pnum16 (x : Int) (w : World) : Calls Try.prog 12 #[.int .i64 x] w fun e w' => e = .returned (.int .i64 x) ∧ w' = w := by
  go_enter Try.func12, Try.ntmps12
  go_wp2
  go_ret
  exact ⟨rfl, rfl⟩
end Go.Proofs.Ytgbpejnafgllpaa
