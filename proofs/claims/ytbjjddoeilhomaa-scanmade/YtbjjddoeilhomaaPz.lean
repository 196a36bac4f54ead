import Derived.Test.YtbjjddoeilhomaaPy
import Derived.Lib.SlBytesConst
import Derived.Laws.StructEq
import Derived.Test.YtbjjddoeilhomaaPs
import Derived.Test.YtbjjddoeilhomaaPi
import Derived.WalkKit
import Derived.ProofKit
import Derived.OpenShut
import Derived.SizedLaws
namespace Go.Proofs.Ytbjjddoeilhomaa
open Go.RowKit
set_option linter.unusedVariables false

/-! The law's helpers of layer 15: index, lives. -/
set_option maxRecDepth 100000 in
set_option maxHeartbeats 1000000 in
theorem pidx15 (a : Option Addr) (z : List Int) (n cap : Nat) (w : World) (hs : Seg w a z) (hnil : a = none → cap = 0) (hn : Hid (z.length = n)) (hb : n ≤ 16777216) :
    Calls Try.prog 10 #[.slice a n cap] w fun e w' => ∃ b A, e = .returned (.pointer (some ⟨b, 0, none⟩)) ∧ IX14 w' b n z A ∧ Below w.heap.size w w' := by
  have HN := pnew13 a z n cap w hs hnil hn hb
  clear hs
  go_enter Try.func10, Try.ntmps10
  go_wp2_with (first
    | (go_at_call 23; refine HN.mono ?_; rintro e1 w1 ⟨b, da, dc, aa, ac, gb, gr, A, rfl, hI, B1, -⟩; clear HN))
  go_ret
  exact ⟨b, A, rfl, ⟨da, dc, aa, ac, gb, gr, hI⟩, B1⟩
set_option maxRecDepth 100000 in
set_option maxHeartbeats 1000000 in
theorem pidxn15 (a : Option Addr) (n cap : Nat) (w : World) (hb : 16777216 < n) (hb2 : n ≤ 9223372036854775807) :
    Calls Try.prog 10 #[.slice a n cap] w fun e w' => e = .returned (.pointer none) ∧ w' = w := by
  have HN := pnewn13 a n cap w hb hb2
  go_enter Try.func10, Try.ntmps10
  go_wp2_with (first
    | (go_at_call 23; refine HN.mono ?_; rintro e1 w1 ⟨rfl, hw1⟩; subst hw1; clear HN))
  go_ret
  exact ⟨rfl, rfl⟩
theorem seg_lit15 (w : World) (zs : List Int) (t : TypeId) (fr : Nat × Nat) (h : ∀ z ∈ zs, 0 ≤ z ∧ z ≤ 255) : Seg (w.alloc (.cells (zs.map (Value.int .u8)).toArray t fr)) (some ⟨w.heap.size, 0, none⟩) zs := by
  refine ⟨fun i hi => ⟨w.heap.size, 0, rfl, ?_⟩, by decide, getD_bd (by decide) h⟩
  have e : zs.getD i 0 = zs[i] := by simp [List.getD, hi]
  rw [e, Nat.zero_add, World.cell?_alloc_mark]
  simp [hi]
/-- One step, in memory. -/
structure One15 (w : World) (g : Nat) (x y v : Int) : Prop where
  c0 : w.cell? ⟨g, 0, none⟩ = some (.int .i64 x)
  c1 : w.cell? ⟨g, 1, none⟩ = some (.int .i64 y)
  c2 : w.cell? ⟨g, 2, none⟩ = some (.int .i64 v)
theorem One15.old {w w' : World} {g : Nat} {x y v : Int} (h : One15 w g x y v) (hb : Below w.heap.size w w') : One15 w' g x y v :=
  ⟨(hb.cell (p := ⟨g, 0, none⟩) (World.block_lt_of_cell? w _ h.c0)).trans h.c0, (hb.cell (p := ⟨g, 1, none⟩) (World.block_lt_of_cell? w _ h.c1)).trans h.c1, (hb.cell (p := ⟨g, 2, none⟩) (World.block_lt_of_cell? w _ h.c2)).trans h.c2⟩
theorem one15 {w w' : World} {e : Ending} {x y v : Int} (h : StsQ15 w [(x, y, v)] e w') : ∃ g rc, e = .returned (.tuple #[.slice (some ⟨g, 0, none⟩) 1 rc, .int .i64 0]) ∧ 1 ≤ rc ∧ One15 w' g x y v ∧ w.heap.size ≤ g ∧ Below w.heap.size w w' := by
  obtain ⟨ra, l, rc, he, hown, hl, hB⟩ := h
  have hl1 : l = 1 := by rw [← hl]; rfl
  subst hl1
  rcases hown.2 with ⟨h1, h2⟩ | ⟨g, cap, cur, h1, h2, h3, h4, h5⟩
  · cases h1
  · cases h1
    refine ⟨g, rc, he, h4, ⟨?_, ?_, ?_⟩, h2, hB⟩
    · rw [hown.cellAt 0 (by omega)]; rfl
    · rw [hown.cellAt 1 (by omega)]; rfl
    · rw [hown.cellAt 2 (by omega)]; rfl
theorem zero15 {w w' : World} {e : Ending} (h : StsQ15 w [] e w') : ∃ ra rc, e = .returned (.tuple #[.slice ra 0 rc, .int .i64 0]) ∧ Below w.heap.size w w' := by
  obtain ⟨ra, l, rc, he, hown, hl, hB⟩ := h
  have hl1 : l = 0 := by rw [← hl]; rfl
  subst hl1
  exact ⟨ra, rc, he, hB⟩
set_option maxRecDepth 100000 in
set_option maxHeartbeats 4000000 in
theorem plives15 (w : World) : Calls Try.prog 9 #[] w fun e w' => e = .returned (.bool true) ∧ Below w.heap.size w w' := by
  have HX0 := pidx15 none [] 0 0 w (SegK.nil (by decide) _ _) (fun _ => rfl) rfl (by omega)
  have HC3 : Hid (∀ w1 : World, (convert 23 23 (.slice (some ⟨w1.heap.size, 0, none⟩) 3 3)).run Try.prog (w1.alloc (.cells #[.int .u8 97, .int .u8 98, .int .u8 99] 5)) = .ok (.slice (some ⟨w1.heap.size, 0, none⟩) 3 3) (w1.alloc (.cells #[.int .u8 97, .int .u8 98, .int .u8 99] 5 (3, 4)))) := fun w1 => Lib.run_convert_bytes_const (P := Try.prog) w1 23 5 #[.int .u8 97, .int .u8 98, .int .u8 99] 3 3 Try.underlying23 Try.underlying5
  have HC10 : Hid (∀ w1 : World, (convert 23 23 (.slice (some ⟨w1.heap.size, 0, none⟩) 10 10)).run Try.prog (w1.alloc (.cells #[.int .u8 97, .int .u8 98, .int .u8 99, .int .u8 100, .int .u8 101, .int .u8 102, .int .u8 103, .int .u8 104, .int .u8 105, .int .u8 106] 5)) = .ok (.slice (some ⟨w1.heap.size, 0, none⟩) 10 10) (w1.alloc (.cells #[.int .u8 97, .int .u8 98, .int .u8 99, .int .u8 100, .int .u8 101, .int .u8 102, .int .u8 103, .int .u8 104, .int .u8 105, .int .u8 106] 5 (10, 11)))) := fun w1 => Lib.run_convert_bytes_const (P := Try.prog) w1 23 5 #[.int .u8 97, .int .u8 98, .int .u8 99, .int .u8 100, .int .u8 101, .int .u8 102, .int .u8 103, .int .u8 104, .int .u8 105, .int .u8 106] 10 10 Try.underlying23 Try.underlying5
  have A1 : all15 [] [97, 98, 99] = [(0, 3, 0)] := none15 [97, 98, 99] (by decide)
  have A2 : all15 [97, 98, 99, 100, 101, 102, 103, 104, 105, 106] [97, 98, 99, 100, 101, 102, 103, 104, 105, 106] = [(10, 0, 0)] := self15 [97, 98, 99, 100, 101, 102, 103, 104, 105, 106] (by decide)
  have HS1 : Hid (∀ (W : World) (b : Nat) (A : List Nat) (qa : Option Addr), IX14 W b 0 [] A → Seg W qa [97, 98, 99] → Calls Try.prog 12 #[.pointer (some ⟨b, 0, none⟩), .slice qa 3 3] W (StsQ15 W [(0, 3, 0)])) := fun W b A qa hI hs => by
    rw [← A1]
    exact pstsq15 b 0 [] A qa [97, 98, 99] 3 3 W hI hs rfl (by omega) (by omega) (qr_none15 _ _)
  have HS2 : Hid (∀ (W : World) (b : Nat) (A : List Nat) (qa : Option Addr), IX14 W b 10 [97, 98, 99, 100, 101, 102, 103, 104, 105, 106] A → Seg W qa [97, 98, 99, 100, 101, 102, 103, 104, 105, 106] → Calls Try.prog 12 #[.pointer (some ⟨b, 0, none⟩), .slice qa 10 10] W (StsQ15 W [(10, 0, 0)])) := fun W b A qa hI hs => by
    rw [← A2]
    exact pstsq15 b 10 _ A qa _ 10 10 W hI hs rfl (by omega) (by omega) (qr_self15 _ (by decide) _)
  have HX1 : Hid (∀ (W : World) (qa : Option Addr), Seg W qa [97, 98, 99, 100, 101, 102, 103, 104, 105, 106] → (qa = none → 10 = 0) → Calls Try.prog 10 #[.slice qa 10 10] W fun e w' => ∃ b A, e = .returned (.pointer (some ⟨b, 0, none⟩)) ∧ IX14 w' b 10 [97, 98, 99, 100, 101, 102, 103, 104, 105, 106] A ∧ Below W.heap.size W w') := fun W qa hs hn => pidx15 qa _ 10 10 W hs hn rfl (by omega)
  clear A1 A2
  go_enter Try.func9, Try.ntmps9
  go_wp2_with (first
    | (go_at_call 10; refine HX0.mono ?_; rintro e1 w1 ⟨b, A, rfl, hI, B1⟩; clear HX0; have hc3 := HC3.out w1)
    | (go_at_call 12; fail))
  have D1 : Below w1.heap.size w1 (w1.alloc (.cells #[.int .u8 97, .int .u8 98, .int .u8 99] 5 (3, 4))) := (Below.refl _ _).alloc (Nat.le_refl _) _
  refine (HS1.out _ b A _ (hI.old D1) (seg_lit15 w1 [97, 98, 99] 5 (3, 4) (by decide))).mono ?_
  intro e2 w2 hq2
  obtain ⟨g2, r2, rfl, hr2, O2, -, B2⟩ := one15 hq2
  have F2 : Below w.heap.size w w2 := (B1.trans (D1.mono B1.size)).trans (B2.mono (by have := B1.size; have := D1.size; omega))
  clear hq2 HS1 hI D1 B2 HC3 B1
  have hc10 := HC10.out w2
  go_wp2_with (first
    | (go_at_call 10; fail))
  have D2 : Below w2.heap.size w2 (w2.alloc (.cells #[.int .u8 97, .int .u8 98, .int .u8 99, .int .u8 100, .int .u8 101, .int .u8 102, .int .u8 103, .int .u8 104, .int .u8 105, .int .u8 106] 5 (10, 11))) := (Below.refl _ _).alloc (Nat.le_refl _) _
  refine (HX1.out _ _ (seg_lit15 w2 [97, 98, 99, 100, 101, 102, 103, 104, 105, 106] 5 (10, 11) (by decide)) (by intro h; cases h)).mono ?_
  rintro e3 w3 ⟨b3, A3, rfl, hI3, B3⟩
  have D3 := D2.trans (B3.mono D2.size)
  have F3 : Below w.heap.size w w3 := F2.trans (D3.mono F2.size)
  have O3 := O2.old D3
  clear HX1 D2 B3 F2 O2 hc10 D3
  have hc10 := HC10.out w3
  go_wp2_with (first
    | (go_at_call 12; fail))
  have D4 : Below w3.heap.size w3 (w3.alloc (.cells #[.int .u8 97, .int .u8 98, .int .u8 99, .int .u8 100, .int .u8 101, .int .u8 102, .int .u8 103, .int .u8 104, .int .u8 105, .int .u8 106] 5 (10, 11))) := (Below.refl _ _).alloc (Nat.le_refl _) _
  refine (HS2.out _ b3 A3 _ (hI3.old D4) (seg_lit15 w3 [97, 98, 99, 100, 101, 102, 103, 104, 105, 106] 5 (10, 11) (by decide))).mono ?_
  intro e5 w5 hq5
  obtain ⟨g5, r5, rfl, hr5, O5, -, B5⟩ := one15 hq5
  have D5 := D4.trans (B5.mono D4.size)
  have F5 : Below w.heap.size w w5 := F3.trans (D5.mono F3.size)
  have P5 := O3.old D5
  clear hq5 HS2 hI3 D4 B5 HC10 F3 O3 D5 hc10
  obtain ⟨x0, x1, x2⟩ := O5
  obtain ⟨y0, y1, y2⟩ := P5
  go_wp2_with fail
  go_ret
  exact ⟨by first | rfl | simp, F5⟩
end Go.Proofs.Ytbjjddoeilhomaa

namespace Go.Proofs.Ytbjjddoeilhomaa
open Go.RowKit
set_option linter.unusedVariables false

/-! Indexes that no call made. -/
structure NoI14 (w : World) (v : Value) : Prop where
  md : ∀ W, Below w.heap.size w W → Calls Try.prog 30 #[v] W fun e w' => e = .returned (.bool false) ∧ w' = W
theorem NoI14.nil (w : World) : NoI14 w (.pointer none) := ⟨fun W _ => pmaden13 W⟩
theorem NoI14.zero {w : World} {b : Nat} (h : w.cell? ⟨b, 2, none⟩ = some .nilFunc) : NoI14 w (.pointer (some ⟨b, 0, none⟩)) :=
  ⟨fun W hW => pmadez13 b W ((hW.cell (p := ⟨b, 2, none⟩) (World.block_lt_of_cell? w _ h)).trans h)⟩
theorem NoI14.old {w w' : World} {v : Value} (h : NoI14 w v) (hb : Below w.heap.size w w') : NoI14 w' v := ⟨fun W hW => h.md W (hb.trans (hW.mono hb.size))⟩
set_option maxRecDepth 100000 in
theorem nref14 (v : Value) (pa : Option Addr) (m pc : Nat) (w : World) (h : NoI14 w v) :
    Calls Try.prog 44 #[v, .slice pa m pc] w fun e w' => e = .returned (.int .i64 2) ∧ w' = w := by
  have HMD := h.md w (Below.refl _ _)
  clear h
  go_enter Try.func44, Try.ntmps44
  go_wp2_with (first
    | (go_at_call 30; refine HMD.mono ?_; rintro e1 w1 ⟨rfl, hw1⟩; subst hw1))
  go_ret
  exact ⟨rfl, rfl⟩
set_option maxRecDepth 100000 in
theorem nat14 (v : Value) (i : Int) (w : World) (h : NoI14 w v) :
    Calls Try.prog 24 #[v, .int .i64 i] w fun e w' => e = .returned (.tuple #[.int .i64 0, .int .i64 2]) ∧ Below w.heap.size w w' := by
  have B1 : Below w.heap.size w (w.alloc (.cells #[.int .i64 i] 3)) := (Below.refl _ _).alloc (Nat.le_refl _) _
  have HR := nref14 v (some ⟨w.heap.size, 0, none⟩) 1 1 _ (h.old B1)
  clear h
  go_enter Try.func24, Try.ntmps24
  go_wp2_with (first
    | (go_at_call 44; refine HR.mono ?_; rintro e1 w2 ⟨rfl, hw1⟩; rw [← hw1] at B1; clear hw1 HR))
  refine bodyPost_ret (results_tmp2 rfl _ _ _) rfl ?_
  exact ⟨rfl, B1⟩
end Go.Proofs.Ytbjjddoeilhomaa

namespace Go.Proofs.Ytbjjddoeilhomaa
open Go.RowKit
set_option linter.unusedVariables false

/-! ScanMade. -/
set_option maxRecDepth 100000 in
set_option maxHeartbeats 1000000 in
theorem nsts15 (v : Value) (qa : Option Addr) (m qc : Nat) (w : World) (h : NoI14 w v) :
    Calls Try.prog 12 #[v, .slice qa m qc] w fun e w' => e = .returned (.tuple #[.slice none 0 0, .int .i64 2]) ∧ Below w.heap.size w w' := by
  have HA := nat14 v 0 w h
  clear h
  go_enter Try.func12, Try.ntmps12
  go_wp2_with (first
    | (go_at_call 24; refine HA.mono ?_; rintro e1 w1 ⟨rfl, B1⟩))
  refine bodyPost_ret (results_tmp2 rfl _ _ _) rfl ?_
  exact ⟨rfl, B1⟩
set_option maxRecDepth 100000 in
set_option maxHeartbeats 2000000 in
theorem scanMade_walk (w : World) (a : Option Addr) (z : List Int) (ca : Nat) (hs : Seg w a z) (hc : z.length ≤ ca) (hnil : a = none → ca = 0) (hl : z.length ≤ 140737488351232) :
    Calls Try.prog 8 #[.slice a z.length ca] w fun e w' => e = .returned (.bool true) ∧ Below w.heap.size w w' := by
  generalize z.length = n at *
  obtain ⟨W, hW⟩ : ∃ W, W = w.alloc (.cells #[.slice none 0 0, .slice none 0 0, .nilFunc] 49) := ⟨_, rfl⟩
  have BW : Below w.heap.size w W := by rw [hW]; exact (Below.refl _ _).alloc (Nat.le_refl _) _
  have cz : W.cell? ⟨w.heap.size, 2, none⟩ = some .nilFunc := by rw [hW]; simp
  have N0 := NoI14.zero cz
  have H1 := nsts15 (.pointer none) a n ca W (NoI14.nil W)
  have H2 : Hid (∀ W', Below W.heap.size W W' → Calls Try.prog 12 #[.pointer (some ⟨w.heap.size, 0, none⟩), .slice a n ca] W' fun e w' => e = .returned (.tuple #[.slice none 0 0, .int .i64 2]) ∧ Below W.heap.size W w') := fun W' hb => (nsts15 _ a n ca W' (N0.old hb)).mono fun e w' ⟨he, hB⟩ => ⟨he, hb.trans (hB.mono hb.size)⟩
  have HW : Hid (W = w.alloc (.cells #[.slice none 0 0, .slice none 0 0, .nilFunc] 49)) := hW
  clear hs hW cz N0
  go_enter Try.func8, Try.ntmps8
  go_wp2_with (first
    | (go_at_call 12; fail))
  rw [← HW.out]
  refine H1.mono ?_
  rintro e1 w1 ⟨rfl, B1⟩
  have C2 := H2.out w1 B1
  clear H1 H2
  go_wp2_with (first
    | (go_at_call 12; refine C2.mono ?_; rintro e2 w2 ⟨rfl, B2⟩; clear C2)
    | (go_at_call 9; refine (plives15 _).mono ?_; rintro e3 w3 ⟨rfl, B3⟩))
  go_ret
  exact ⟨by first | rfl | simp, BW.trans ((B2.trans (B3.mono B2.size)).mono BW.size)⟩
end Go.Proofs.Ytbjjddoeilhomaa

namespace Go.Proofs.Ytbjjddoeilhomaa
open Go.ChangeShapes Go.WideShapes Go.ChangeAt Go.RowKit
set_option linter.unusedVariables false

/-- A slice of whole numbers that came in: what lies there, and how it was read. -/
theorem open_seg {H : Type} {enc : TypeId × Value → H} {P : Program} {W : World} {T e : TypeId} {k : IntKind} {M : Int} {a : Option Addr} {len cap : Nat} {d : DataW H} {p : List MemPlace}
    (hT : P.underlying T = some (.slice e)) (he : P.underlying e = some (.int k)) (hc : P.cellsOf e = 1) (hM : 0 ≤ M) (hwf : ∀ n, (Lit.int k n).wf = true → 0 ≤ n ∧ n ≤ M)
    (h : DataW.Trod enc P W 0 (fun _ => true) true T (.slice a len cap) d p) :
    ∃ zs : List Int, zs.length = len ∧ SegK k M W a zs ∧ len ≤ cap ∧ (a = none → cap = 0) ∧ ((d = .nil ∧ len = 0) ∨ ∃ elems spare, d = .slice elems spare ∧ elems.length = len) := by
  obtain ⟨fuel, hf⟩ := h
  rcases open_ints hT he hc hf with ⟨hcs, hx⟩ | ⟨x, l, c, zs, hcs, _, hl, hm, hz, hx, hcell, hwz⟩
  · simp [Value.cells] at hcs
    obtain ⟨rfl, rfl, rfl⟩ := hcs
    simp only [Prod.mk.injEq] at hx
    exact ⟨[], rfl, SegK.nil hM _ _, Nat.le_refl _, fun _ => rfl, Or.inl ⟨hx.1, rfl⟩⟩
  · simp [Value.cells] at hcs
    obtain ⟨rfl, rfl, rfl⟩ := hcs
    simp only [Prod.mk.injEq] at hx
    simp only [if_true] at hz
    refine ⟨zs.take len, by simp; omega, ⟨fun i hi => ?_, hM, getD_bd hM ?_⟩, hl, (by intro h; cases h), Or.inr ⟨_, _, hx.1, by simp [ChangeShapes.lits]; omega⟩⟩
    · simp at hi
      have hi2 : i < len := by omega
      have h1 := hcell i (by omega)
      obtain ⟨b, off, spot⟩ := x
      have hs : spot = none := by
        have := hcell 0 (by omega)
        simpa [Addr.add] using World.cell?_spot this
      subst hs
      refine ⟨b, off, rfl, ?_⟩
      have hadd : (⟨b, off, none⟩ : Addr).add i = ⟨b, off + i, none⟩ := by unfold Addr.add; split <;> simp_all
      rw [hadd] at h1
      rw [h1]
      simp [List.getD, hi2]
    · intro z hz1
      exact hwf z (hwz z (List.mem_of_mem_take hz1))
end Go.Proofs.Ytbjjddoeilhomaa
