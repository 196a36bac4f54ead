
import Derived.Test.YtcgaembnibnglaaCu10
import Derived.Test.YtcgaembnibnglaaEd7
import Derived.Deep.OwnRows
import Derived.Laws.StructEq
namespace Go.Proofs.Ytcgaembnibnglaa
open Go.RowKit Go.Shelf
set_option linter.unusedVariables false

/-! lives: the document's first example. -/
theorem info_u8z17 : (Try.prog.info? 5).map (fun i => (i.zero, i.size, i.bytes)) = some (some (.int .u8 0), 1, 1) := by kernel_rfl
theorem made_zeros17 (n : Nat) : madeCells #[.int .u8 0] n = ((List.replicate n (0 : Int)).map (Value.int .u8)).toArray := by
  apply Array.toList_inj.1
  rw [toList_madeCells_one]
  simp
theorem run_make_zeros17 (n : Nat) (h : n ≤ 281474976710656) (w : World) :
    (Instr.makeSlice 24 (.int .i64 (n : Int)) (.int .i64 (n : Int))).run Try.prog w = .ok (.slice (some ⟨w.heap.size, 0, none⟩) n n) (w.alloc (.cells ((List.replicate n (0 : Int)).map (Value.int .u8)).toArray 5)) := by
  rw [← made_zeros17]
  exact run_make_row' 24 5 (.int .u8 0) 1 Try.underlying24 info_u8z17 rfl .i64 .i64 n (by omega) (by omega) w
def r70 : List Int := List.replicate 70 0
def e17a : Pt17 := ⟨[(64, 0, 0)], List.replicate 64 0, [], 0, 64⟩
def e17b : Pt17 := ⟨[(6, 0, 0)], List.replicate 6 0, [], 64, 70⟩
theorem cw17_first : cw17 64 (ws17 (pi17 [(70, 0, 0)] r70 [] 0 1)) = [e17a, e17b] := by kernel_rfl
theorem ck17_first : ck16 16777216 ((70 + 0 : Nat) : Int) [(70, 0, 0)] 70 0 = 0 := by decide
theorem two17 (l : List Wp17) {a b : Pt17} (h : l.map (·.2) = [a, b]) : ∃ v1 v2, l = [(v1, a), (v2, b)] := by
  rcases l with _ | ⟨p, _ | ⟨q, _ | ⟨r, l⟩⟩⟩
  · simp at h
  · simp at h
  · simp only [List.map_cons, List.map_nil, List.cons.injEq, and_true] at h
    exact ⟨p.1, q.1, by rw [← h.1, ← h.2]⟩
  · simp at h
set_option maxRecDepth 100000 in
set_option maxHeartbeats 8000000 in
theorem plives17 (w : World) : Calls Try.prog 9 #[] w fun e w' => e = .returned (.bool true) ∧ Below w.heap.size w w' := by
  obtain ⟨w1, hw1⟩ : ∃ w1, w1 = w.alloc (.cells #[.int .i64 70, .int .i64 0, .int .i64 0] 75) := ⟨_, rfl⟩
  have c1 : Cb16 w #[.int .i64 70, .int .i64 0, .int .i64 0] 75 w1 := by rw [hw1]; exact cb16 _ _ _
  obtain ⟨w2, hw2⟩ : ∃ w2, w2 = w1.alloc (.cells (r70.map (Value.int .u8)).toArray 5) := ⟨_, rfl⟩
  have c2 : Cb16 w1 (r70.map (Value.int .u8)).toArray 5 w2 := by rw [hw2]; exact cb16 _ _ _
  have hmk := run_make_zeros17 70 (by omega) w1
  rw [c1.sz] at hmk
  have hmk2 : (Instr.makeSlice 24 (.int .i64 70) (.int .i64 70)).run Try.prog (w.alloc (.cells #[.int .i64 70, .int .i64 0, .int .i64 0] 75)) = .ok (.slice (some ⟨w.heap.size + 1, 0, none⟩) 70 70) w2 := by
    rw [hw2, ← hw1]; exact hmk
  have b02 : Below w.heap.size w w2 := c1.bl.trans (c2.bl.mono c1.bl.size)
  have q1 : w2.heap[w.heap.size]? = some (.cells #[.int .i64 70, .int .i64 0, .int .i64 0] 75 (0, 0)) := (c2.bl.block _ (by have := c1.sz; omega)).trans c1.cl
  have hE : Ed16 w2 (some ⟨w.heap.size, 0, none⟩) 1 [(70, 0, 0)] (some ⟨w.heap.size + 1, 0, none⟩) 70 r70 none 0 [] := by
    refine ⟨⟨fun i hi => ⟨w.heap.size, 0, rfl, ?_⟩, ?_⟩, ?_, SegK.nil (by decide) _ _, rfl, rfl, rfl, by decide, by decide, by decide⟩
    · have : i = 0 := by simp at hi; omega
      subst this
      exact ⟨three_cell0 q1, three_cell1 q1, three_cell2 q1⟩
    · intro t ht
      simp only [List.mem_cons, List.not_mem_nil, or_false] at ht
      subst ht
      unfold Fit16; simp
    · rw [← c1.sz, hw2]; exact seg_lit16 w1 r70 5 (0, 0) (by decide)
  have CC := pcut17 (sc := 1) (dc := 70) (xc := 0) 64 w2 hE (by omega) ck17_first (by omega) (by omega)
  unfold ev16 at CC
  have HB : Hid (Below w.heap.size w w2) := b02
  clear hw1 hw2 c1 c2 hmk q1 hE b02
  go_enter Try.func9, Try.ntmps9
  go_wp2_with fail
  refine CC.mono ?_
  rintro e3 w3 ⟨vO, l, rfl, hl, hW, b3⟩
  rw [cw17_first] at hl
  obtain ⟨v1, v2, rfl⟩ := two17 l hl
  have HB3 : Hid (Below w.heap.size w w3) := HB.out.trans (b3.mono HB.out.size)
  obtain ⟨g, c, hvO⟩ : ∃ g c, vO = .slice (some ⟨g, 0, none⟩) 2 c := by
    rcases hW.own.2 with ⟨_, e⟩ | ⟨g, cap, cur, e, _⟩
    · cases e
    · exact ⟨g, cap, e⟩
  subst hvO
  have hcell := hW.own.cells (g := g) rfl
  have hadd : ∀ i, (⟨g, 0, none⟩ : Addr).add i = ⟨g, i, none⟩ := fun i => by simp [Addr.add]; intro h; omega
  have g0 := hcell 0 _ rfl
  have g4 := hcell 4 _ rfl
  have g5 := hcell 5 _ rfl
  have g6 := hcell 6 _ rfl
  rw [hadd] at g0 g4 g5 g6
  have hw2 := hW.win (v2, e17b) (by simp)
  obtain ⟨h, c2, hvS⟩ : ∃ h c, v2.1 = .slice (some ⟨h, 0, none⟩) 1 c := by
    rcases hw2.oS.2 with ⟨_, e⟩ | ⟨g, cap, cur, e, _⟩
    · cases e
    · exact ⟨g, cap, e⟩
  obtain ⟨dp, dcc, hvD⟩ := own_sl17 hw2.oD
  have hadd2 : ∀ i, (⟨h, 0, none⟩ : Addr).add i = ⟨h, i, none⟩ := fun i => by simp [Addr.add]; intro h; omega
  have hc2 := hw2.oS.cells (g := h) (by rw [hvS]; rfl)
  have s0 := hc2 0 _ rfl
  have s1 := hc2 1 _ rfl
  have s2 := hc2 2 _ rfl
  rw [hadd2] at s0 s1 s2
  rw [hvS] at g5
  rw [hvD] at g6
  change w3.cell? ⟨g, 0, none⟩ = some (.int .i64 0) at g0
  change w3.cell? ⟨g, 4, none⟩ = some (.int .i64 64) at g4
  change w3.cell? ⟨h, 0, none⟩ = some (.int .i64 6) at s0
  change w3.cell? ⟨h, 1, none⟩ = some (.int .i64 0) at s1
  change w3.cell? ⟨h, 2, none⟩ = some (.int .i64 0) at s2
  change w3.cell? ⟨g, 6, none⟩ = some (.slice dp 6 dcc) at g6
  clear CC hW hw2 hcell hc2 hl hvS hvD b3 hadd hadd2
  go_wp2_with fail
  go_ret
  exact ⟨rfl, HB3.out⟩
set_option maxRecDepth 100000 in
set_option maxHeartbeats 4000000 in
theorem cutterNames_walk (w : World) : Calls Try.prog 3 #[] w fun e w' => e = .returned (.bool true) ∧ Below w.heap.size w w' := by
  have CA := plives17 w
  go_enter Try.func3, Try.ntmps3
  go_wp2_with (first
    | (go_at_call 9; refine CA.mono ?_; rintro e1 w1 ⟨rfl, B1⟩; clear CA))
  go_ret
  exact ⟨rfl, B1⟩
end Go.Proofs.Ytcgaembnibnglaa
