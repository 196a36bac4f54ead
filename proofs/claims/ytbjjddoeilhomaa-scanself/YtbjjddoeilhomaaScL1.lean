
import Derived.Test.YtbjjddoeilhomaaSc10
import Derived.Lib.SlBytesConst
import Derived.Laws.StructEq
namespace Go.Proofs.Ytbjjddoeilhomaa
open Go.RowKit
set_option linter.unusedVariables false

/-! The law's helpers of layer 15: index, lives. -/
set_option maxRecDepth 100000 in
set_option maxHeartbeats 1000000 in
theorem pidx15 (a : Option Addr) (z : List Int) (n cap : Nat) (w : World) (hs : Seg w a z) (hnil : a = none → cap = 0) (hn : Hid (z.length = n)) (hb : n ≤ 16777216) :
    Calls Try.prog 10 #[.slice a n cap] w fun e w' => ∃ b A, e = .returned (.pointer (some ⟨b, 0, none⟩)) ∧ IX14 w' b n z A ∧ Below w.heap.size w w' := by
  have HN := pnew13 a z n cap w hs hnil hn hb
  clear hs
  go_enter Try.func10, Try.ntmps10
  go_wp2_with (first
    | (go_at_call 23; refine HN.mono ?_; rintro e1 w1 ⟨b, da, dc, aa, ac, gb, gr, A, rfl, hI, B1, -⟩; clear HN))
  go_ret
  exact ⟨b, A, rfl, ⟨da, dc, aa, ac, gb, gr, hI⟩, B1⟩
set_option maxRecDepth 100000 in
set_option maxHeartbeats 1000000 in
theorem pidxn15 (a : Option Addr) (n cap : Nat) (w : World) (hb : 16777216 < n) (hb2 : n ≤ 9223372036854775807) :
    Calls Try.prog 10 #[.slice a n cap] w fun e w' => e = .returned (.pointer none) ∧ w' = w := by
  have HN := pnewn13 a n cap w hb hb2
  go_enter Try.func10, Try.ntmps10
  go_wp2_with (first
    | (go_at_call 23; refine HN.mono ?_; rintro e1 w1 ⟨rfl, hw1⟩; subst hw1; clear HN))
  go_ret
  exact ⟨rfl, rfl⟩
theorem seg_lit15 (w : World) (zs : List Int) (t : TypeId) (fr : Nat × Nat) (h : ∀ z ∈ zs, 0 ≤ z ∧ z ≤ 255) : Seg (w.alloc (.cells (zs.map (Value.int .u8)).toArray t fr)) (some ⟨w.heap.size, 0, none⟩) zs := by
  refine ⟨fun i hi => ⟨w.heap.size, 0, rfl, ?_⟩, by decide, getD_bd (by decide) h⟩
  have e : zs.getD i 0 = zs[i] := by simp [List.getD, hi]
  rw [e, Nat.zero_add, World.cell?_alloc_mark]
  simp [hi]
/-- One step, in memory. -/
structure One15 (w : World) (g : Nat) (x y v : Int) : Prop where
  c0 : w.cell? ⟨g, 0, none⟩ = some (.int .i64 x)
  c1 : w.cell? ⟨g, 1, none⟩ = some (.int .i64 y)
  c2 : w.cell? ⟨g, 2, none⟩ = some (.int .i64 v)
theorem One15.old {w w' : World} {g : Nat} {x y v : Int} (h : One15 w g x y v) (hb : Below w.heap.size w w') : One15 w' g x y v :=
  ⟨(hb.cell (p := ⟨g, 0, none⟩) (World.block_lt_of_cell? w _ h.c0)).trans h.c0, (hb.cell (p := ⟨g, 1, none⟩) (World.block_lt_of_cell? w _ h.c1)).trans h.c1, (hb.cell (p := ⟨g, 2, none⟩) (World.block_lt_of_cell? w _ h.c2)).trans h.c2⟩
theorem one15 {w w' : World} {e : Ending} {x y v : Int} (h : StsQ15 w [(x, y, v)] e w') : ∃ g rc, e = .returned (.tuple #[.slice (some ⟨g, 0, none⟩) 1 rc, .int .i64 0]) ∧ 1 ≤ rc ∧ One15 w' g x y v ∧ w.heap.size ≤ g ∧ Below w.heap.size w w' := by
  obtain ⟨ra, l, rc, he, hown, hl, hB⟩ := h
  have hl1 : l = 1 := by rw [← hl]; rfl
  subst hl1
  rcases hown.2 with ⟨h1, h2⟩ | ⟨g, cap, cur, h1, h2, h3, h4, h5⟩
  · cases h1
  · cases h1
    refine ⟨g, rc, he, h4, ⟨?_, ?_, ?_⟩, h2, hB⟩
    · rw [hown.cellAt 0 (by omega)]; rfl
    · rw [hown.cellAt 1 (by omega)]; rfl
    · rw [hown.cellAt 2 (by omega)]; rfl
theorem zero15 {w w' : World} {e : Ending} (h : StsQ15 w [] e w') : ∃ ra rc, e = .returned (.tuple #[.slice ra 0 rc, .int .i64 0]) ∧ Below w.heap.size w w' := by
  obtain ⟨ra, l, rc, he, hown, hl, hB⟩ := h
  have hl1 : l = 0 := by rw [← hl]; rfl
  subst hl1
  exact ⟨ra, rc, he, hB⟩
set_option maxRecDepth 100000 in
set_option maxHeartbeats 4000000 in
theorem plives15 (w : World) : Calls Try.prog 9 #[] w fun e w' => e = .returned (.bool true) ∧ Below w.heap.size w w' := by
  have HX0 := pidx15 none [] 0 0 w (SegK.nil (by decide) _ _) (fun _ => rfl) rfl (by omega)
  have HC3 : Hid (∀ w1 : World, (convert 23 23 (.slice (some ⟨w1.heap.size, 0, none⟩) 3 3)).run Try.prog (w1.alloc (.cells #[.int .u8 97, .int .u8 98, .int .u8 99] 5)) = .ok (.slice (some ⟨w1.heap.size, 0, none⟩) 3 3) (w1.alloc (.cells #[.int .u8 97, .int .u8 98, .int .u8 99] 5 (3, 4)))) := fun w1 => Lib.run_convert_bytes_const (P := Try.prog) w1 23 5 #[.int .u8 97, .int .u8 98, .int .u8 99] 3 3 Try.underlying23 Try.underlying5
  have HC10 : Hid (∀ w1 : World, (convert 23 23 (.slice (some ⟨w1.heap.size, 0, none⟩) 10 10)).run Try.prog (w1.alloc (.cells #[.int .u8 97, .int .u8 98, .int .u8 99, .int .u8 100, .int .u8 101, .int .u8 102, .int .u8 103, .int .u8 104, .int .u8 105, .int .u8 106] 5)) = .ok (.slice (some ⟨w1.heap.size, 0, none⟩) 10 10) (w1.alloc (.cells #[.int .u8 97, .int .u8 98, .int .u8 99, .int .u8 100, .int .u8 101, .int .u8 102, .int .u8 103, .int .u8 104, .int .u8 105, .int .u8 106] 5 (10, 11)))) := fun w1 => Lib.run_convert_bytes_const (P := Try.prog) w1 23 5 #[.int .u8 97, .int .u8 98, .int .u8 99, .int .u8 100, .int .u8 101, .int .u8 102, .int .u8 103, .int .u8 104, .int .u8 105, .int .u8 106] 10 10 Try.underlying23 Try.underlying5
  have A1 : all15 [] [97, 98, 99] = [(0, 3, 0)] := none15 [97, 98, 99] (by decide)
  have A2 : all15 [97, 98, 99, 100, 101, 102, 103, 104, 105, 106] [97, 98, 99, 100, 101, 102, 103, 104, 105, 106] = [(10, 0, 0)] := self15 [97, 98, 99, 100, 101, 102, 103, 104, 105, 106] (by decide)
  have HS1 : Hid (∀ (W : World) (b : Nat) (A : List Nat) (qa : Option Addr), IX14 W b 0 [] A → Seg W qa [97, 98, 99] → Calls Try.prog 12 #[.pointer (some ⟨b, 0, none⟩), .slice qa 3 3] W (StsQ15 W [(0, 3, 0)])) := fun W b A qa hI hs => by
    rw [← A1]
    exact pstsq15 b 0 [] A qa [97, 98, 99] 3 3 W hI hs rfl (by omega) (by omega) (qr_none15 _ _)
  have HS2 : Hid (∀ (W : World) (b : Nat) (A : List Nat) (qa : Option Addr), IX14 W b 10 [97, 98, 99, 100, 101, 102, 103, 104, 105, 106] A → Seg W qa [97, 98, 99, 100, 101, 102, 103, 104, 105, 106] → Calls Try.prog 12 #[.pointer (some ⟨b, 0, none⟩), .slice qa 10 10] W (StsQ15 W [(10, 0, 0)])) := fun W b A qa hI hs => by
    rw [← A2]
    exact pstsq15 b 10 _ A qa _ 10 10 W hI hs rfl (by omega) (by omega) (qr_self15 _ (by decide) _)
  have HX1 : Hid (∀ (W : World) (qa : Option Addr), Seg W qa [97, 98, 99, 100, 101, 102, 103, 104, 105, 106] → (qa = none → 10 = 0) → Calls Try.prog 10 #[.slice qa 10 10] W fun e w' => ∃ b A, e = .returned (.pointer (some ⟨b, 0, none⟩)) ∧ IX14 w' b 10 [97, 98, 99, 100, 101, 102, 103, 104, 105, 106] A ∧ Below W.heap.size W w') := fun W qa hs hn => pidx15 qa _ 10 10 W hs hn rfl (by omega)
  clear A1 A2
  go_enter Try.func9, Try.ntmps9
  go_wp2_with (first
    | (go_at_call 10; refine HX0.mono ?_; rintro e1 w1 ⟨b, A, rfl, hI, B1⟩; clear HX0; have hc3 := HC3.out w1)
    | (go_at_call 12; fail))
  have D1 : Below w1.heap.size w1 (w1.alloc (.cells #[.int .u8 97, .int .u8 98, .int .u8 99] 5 (3, 4))) := (Below.refl _ _).alloc (Nat.le_refl _) _
  refine (HS1.out _ b A _ (hI.old D1) (seg_lit15 w1 [97, 98, 99] 5 (3, 4) (by decide))).mono ?_
  intro e2 w2 hq2
  obtain ⟨g2, r2, rfl, hr2, O2, -, B2⟩ := one15 hq2
  have F2 : Below w.heap.size w w2 := (B1.trans (D1.mono B1.size)).trans (B2.mono (by have := B1.size; have := D1.size; omega))
  clear hq2 HS1 hI D1 B2 HC3 B1
  have hc10 := HC10.out w2
  go_wp2_with (first
    | (go_at_call 10; fail))
  have D2 : Below w2.heap.size w2 (w2.alloc (.cells #[.int .u8 97, .int .u8 98, .int .u8 99, .int .u8 100, .int .u8 101, .int .u8 102, .int .u8 103, .int .u8 104, .int .u8 105, .int .u8 106] 5 (10, 11))) := (Below.refl _ _).alloc (Nat.le_refl _) _
  refine (HX1.out _ _ (seg_lit15 w2 [97, 98, 99, 100, 101, 102, 103, 104, 105, 106] 5 (10, 11) (by decide)) (by intro h; cases h)).mono ?_
  rintro e3 w3 ⟨b3, A3, rfl, hI3, B3⟩
  have D3 := D2.trans (B3.mono D2.size)
  have F3 : Below w.heap.size w w3 := F2.trans (D3.mono F2.size)
  have O3 := O2.old D3
  clear HX1 D2 B3 F2 O2 hc10 D3
  have hc10 := HC10.out w3
  go_wp2_with (first
    | (go_at_call 12; fail))
  have D4 : Below w3.heap.size w3 (w3.alloc (.cells #[.int .u8 97, .int .u8 98, .int .u8 99, .int .u8 100, .int .u8 101, .int .u8 102, .int .u8 103, .int .u8 104, .int .u8 105, .int .u8 106] 5 (10, 11))) := (Below.refl _ _).alloc (Nat.le_refl _) _
  refine (HS2.out _ b3 A3 _ (hI3.old D4) (seg_lit15 w3 [97, 98, 99, 100, 101, 102, 103, 104, 105, 106] 5 (10, 11) (by decide))).mono ?_
  intro e5 w5 hq5
  obtain ⟨g5, r5, rfl, hr5, O5, -, B5⟩ := one15 hq5
  have D5 := D4.trans (B5.mono D4.size)
  have F5 : Below w.heap.size w w5 := F3.trans (D5.mono F3.size)
  have P5 := O3.old D5
  clear hq5 HS2 hI3 D4 B5 HC10 F3 O3 D5 hc10
  obtain ⟨x0, x1, x2⟩ := O5
  obtain ⟨y0, y1, y2⟩ := P5
  go_wp2_with fail
  go_ret
  exact ⟨by first | rfl | simp, F5⟩
end Go.Proofs.Ytbjjddoeilhomaa
