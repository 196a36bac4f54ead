
import Derived.Test.YtgbpejnafgllpaaEd10
namespace Go.Proofs.Ytgbpejnafgllpaa
open Go.RowKit Go.Shelf
set_option linter.unusedVariables false

/-! The writer's take. -/
def Wt16.own (s : Wt16) (v : Int) : Wt16 := { s with c := s.c + 1, X := s.X ++ [v] }
def Wt16.add (s : Wt16) (v : Int) : Wt16 := { s with a := s.a + 1, p := s.p + 1, D := s.D ++ [v] }
theorem seven_set1 {w : World} {b : Nat} {x0 x1 x2 x3 x4 x5 x6 : Value} {t : TypeId} (h : w.heap[b]? = some (.cells #[x0, x1, x2, x3, x4, x5, x6] t (0, 0))) (u : Value) : (w.setCell ⟨b, 1, none⟩ u).heap[b]? = some (.cells #[x0, u, x2, x3, x4, x5, x6] t (0, 0)) := by
  simp [World.setCell, Array.getElem?_modify, h]
theorem seven_set2 {w : World} {b : Nat} {x0 x1 x2 x3 x4 x5 x6 : Value} {t : TypeId} (h : w.heap[b]? = some (.cells #[x0, x1, x2, x3, x4, x5, x6] t (0, 0))) (u : Value) : (w.setCell ⟨b, 2, none⟩ u).heap[b]? = some (.cells #[x0, x1, u, x3, x4, x5, x6] t (0, 0)) := by
  simp [World.setCell, Array.getElem?_modify, h]
theorem seven_set3 {w : World} {b : Nat} {x0 x1 x2 x3 x4 x5 x6 : Value} {t : TypeId} (h : w.heap[b]? = some (.cells #[x0, x1, x2, x3, x4, x5, x6] t (0, 0))) (u : Value) : (w.setCell ⟨b, 3, none⟩ u).heap[b]? = some (.cells #[x0, x1, x2, u, x4, x5, x6] t (0, 0)) := by
  simp [World.setCell, Array.getElem?_modify, h]
theorem seven_set4 {w : World} {b : Nat} {x0 x1 x2 x3 x4 x5 x6 : Value} {t : TypeId} (h : w.heap[b]? = some (.cells #[x0, x1, x2, x3, x4, x5, x6] t (0, 0))) (u : Value) : (w.setCell ⟨b, 4, none⟩ u).heap[b]? = some (.cells #[x0, x1, x2, x3, u, x5, x6] t (0, 0)) := by
  simp [World.setCell, Array.getElem?_modify, h]
theorem seven_set6 {w : World} {b : Nat} {x0 x1 x2 x3 x4 x5 x6 : Value} {t : TypeId} (h : w.heap[b]? = some (.cells #[x0, x1, x2, x3, x4, x5, x6] t (0, 0))) (u : Value) : (w.setCell ⟨b, 6, none⟩ u).heap[b]? = some (.cells #[x0, x1, x2, x3, x4, x5, u] t (0, 0)) := by
  simp [World.setCell, Array.getElem?_modify, h]
variable {base bw : Nat} {vS vD vX : Value} {s : Wt16} {sk : Int} {w : World}
/-- A number of the writer's is turned. -/
theorem Wr16.num {s' : Wt16} {i : Nat} {u : Value} (h : Wr16 base bw vS vD vX s 0 w) (hS : s'.S = s.S) (hD : s'.D = s.D) (hX : s'.X = s.X) (hp : (w.setCell ⟨bw, i, none⟩ u).heap[bw]? = some (.cells #[vS, vD, vX, .int .i64 (s'.a : Int), .int .i64 (s'.c : Int), .int .i64 0, .int .i64 s'.p] 78 (0, 0))) : Wr16 base bw vS vD vX s' 0 (w.setCell ⟨bw, i, none⟩ u) := by
  have ks : Kp (fun k => k = bw) w (w.setCell ⟨bw, i, none⟩ u) := Kp.set (S := fun k => k = bw) rfl _
  exact ⟨hp, by rw [hS]; exact own_kp16 h.oS ks (fun x e x2 => h.nS (by rw [e, x2])), by rw [hD]; exact own_kp h.oD ks (fun x e x2 => h.nD (by rw [e, x2])), by rw [hX]; exact own_kp h.oX ks (fun x e x2 => h.nX (by rw [e, x2])), h.nS, h.nD, h.nX, h.sd, h.sx, h.dx, h.bb⟩
/-- A byte more of Extra. -/
theorem Wr16.setX {g rc : Nat} {y : Int} {w' : World} (h : Wr16 base bw vS vD vX s 0 w) (own : w'.ownsRow base 5 1 (.slice (some ⟨g, 0, none⟩) (s.X.length + 1) rc) (s.X.length + 1) (s.X.map (Value.int .u8) ++ [.int .u8 y])) (hk : Kp (fun k => vX.ownBlock = some k) w w') (hat : vX.ownBlock = some g ∨ w.heap.size ≤ g) :
    w'.heap[bw]? = some (.cells #[vS, vD, vX, .int .i64 (s.a : Int), .int .i64 (s.c : Int), .int .i64 0, .int .i64 s.p] 78 (0, 0)) ∧ Wr16 base bw vS vD (.slice (some ⟨g, 0, none⟩) (s.X.length + 1) rc) { s with X := s.X ++ [y] } 0 (w'.setCell ⟨bw, 2, none⟩ (.slice (some ⟨g, 0, none⟩) (s.X.length + 1) rc)) ∧ Kp (Wf16 bw vS vD vX) w (w'.setCell ⟨bw, 2, none⟩ (.slice (some ⟨g, 0, none⟩) (s.X.length + 1) rc)) := by
  have hlt := h.lt
  have ks : Kp (fun k => k = bw) w' (w'.setCell ⟨bw, 2, none⟩ (.slice (some ⟨g, 0, none⟩) (s.X.length + 1) rc)) := Kp.set (S := fun k => k = bw) rfl _
  have q' := hk.heap h.hp (fun e => h.nX e)
  have hgn : g ≠ bw ∧ (∀ x, vS.ownBlock = some x → g ≠ x) ∧ (∀ x, vD.ownBlock = some x → g ≠ x) := by
    rcases hat with e | e
    · exact ⟨fun x => h.nX (by rw [e, x]), fun x hx y => h.sx x hx (by rw [e, y]), fun x hx y => h.dx x hx (by rw [e, y])⟩
    · have l1 := (hlt bw (.inl rfl)).2
      refine ⟨by omega, fun x hx y => ?_, fun x hx y => ?_⟩
      · have := (hlt x (.inr (.inl hx))).2; omega
      · have := (hlt x (.inr (.inr (.inl hx)))).2; omega
  refine ⟨q', ⟨seven_set2 q' _, ?_, ?_, ?_, h.nS, h.nD, ?_, h.sd, ?_, ?_, h.bb⟩, (hk.mono (S' := Wf16 bw vS vD vX) (fun i _ e => .inr (.inr (.inr e)))).trans (ks.mono (S' := Wf16 bw vS vD vX) (fun i _ e => .inl e)) (fun _ _ h => h)⟩
  · exact own_kp16 (own_kp16 h.oS hk (fun x e y => h.sx x e y)) ks (fun x e y => h.nS (by rw [e]; exact congrArg some y))
  · exact own_kp (own_kp h.oD hk (fun x e y => h.dx x e y)) ks (fun x e y => h.nD (by rw [e]; exact congrArg some y))
  · have : (s.X ++ [y]).length = s.X.length + 1 := by simp
    show World.ownsRow _ _ _ _ _ (s.X ++ [y]).length _
    rw [this]
    show World.ownsRow _ _ _ _ _ _ ((s.X ++ [y]).map (Value.int .u8))
    rw [List.map_append]
    exact own_kp own ks (fun x e y => by
      have e : some g = some x := e
      injection e with e
      exact hgn.1 (e.trans y))
  · intro e
    have e : some g = some bw := e
    injection e with e
    exact hgn.1 e
  · intro x e y
    have y : some g = some x := y
    injection y with y
    exact hgn.2.1 x e y
  · intro x e y
    have y : some g = some x := y
    injection y with y
    exact hgn.2.2 x e y
/-- A byte more of Diff. -/
theorem Wr16.setD {g rc : Nat} {y : Int} {w' : World} (h : Wr16 base bw vS vD vX s 0 w) (own : w'.ownsRow base 5 1 (.slice (some ⟨g, 0, none⟩) (s.D.length + 1) rc) (s.D.length + 1) (s.D.map (Value.int .u8) ++ [.int .u8 y])) (hk : Kp (fun k => vD.ownBlock = some k) w w') (hat : vD.ownBlock = some g ∨ w.heap.size ≤ g) :
    w'.heap[bw]? = some (.cells #[vS, vD, vX, .int .i64 (s.a : Int), .int .i64 (s.c : Int), .int .i64 0, .int .i64 s.p] 78 (0, 0)) ∧ Wr16 base bw vS (.slice (some ⟨g, 0, none⟩) (s.D.length + 1) rc) vX { s with D := s.D ++ [y] } 0 (w'.setCell ⟨bw, 1, none⟩ (.slice (some ⟨g, 0, none⟩) (s.D.length + 1) rc)) ∧ Kp (Wf16 bw vS vD vX) w (w'.setCell ⟨bw, 1, none⟩ (.slice (some ⟨g, 0, none⟩) (s.D.length + 1) rc)) := by
  have hlt := h.lt
  have ks : Kp (fun k => k = bw) w' (w'.setCell ⟨bw, 1, none⟩ (.slice (some ⟨g, 0, none⟩) (s.D.length + 1) rc)) := Kp.set (S := fun k => k = bw) rfl _
  have q' := hk.heap h.hp (fun e => h.nD e)
  have hgn : g ≠ bw ∧ (∀ x, vS.ownBlock = some x → g ≠ x) ∧ (∀ x, vX.ownBlock = some x → g ≠ x) := by
    rcases hat with e | e
    · exact ⟨fun x => h.nD (by rw [e, x]), fun x hx y => h.sd x hx (by rw [e, y]), fun x hx y => h.dx g e (by rw [hx, y])⟩
    · have l1 := (hlt bw (.inl rfl)).2
      refine ⟨by omega, fun x hx y => ?_, fun x hx y => ?_⟩
      · have := (hlt x (.inr (.inl hx))).2; omega
      · have := (hlt x (.inr (.inr (.inr hx)))).2; omega
  refine ⟨q', ⟨seven_set1 q' _, ?_, ?_, ?_, h.nS, ?_, h.nX, ?_, h.sx, ?_, h.bb⟩, (hk.mono (S' := Wf16 bw vS vD vX) (fun i _ e => .inr (.inr (.inl e)))).trans (ks.mono (S' := Wf16 bw vS vD vX) (fun i _ e => .inl e)) (fun _ _ h => h)⟩
  · exact own_kp16 (own_kp16 h.oS hk (fun x e y => h.sd x e y)) ks (fun x e y => h.nS (by rw [e]; exact congrArg some y))
  · have : (s.D ++ [y]).length = s.D.length + 1 := by simp
    show World.ownsRow _ _ _ _ _ (s.D ++ [y]).length _
    rw [this]
    show World.ownsRow _ _ _ _ _ _ ((s.D ++ [y]).map (Value.int .u8))
    rw [List.map_append]
    exact own_kp own ks (fun x e y => by
      have e : some g = some x := e
      injection e with e
      exact hgn.1 (e.trans y))
  · exact own_kp (own_kp h.oX hk (fun x e y => h.dx x y e)) ks (fun x e y => h.nX (by rw [e]; exact congrArg some y))
  · intro e
    have e : some g = some bw := e
    injection e with e
    exact hgn.1 e
  · intro x e y
    have y : some g = some x := y
    injection y with y
    exact hgn.2.1 x e y
  · intro x e y
    have e : some g = some x := e
    injection e with e
    exact hgn.2.2 x y e
/-- A byte is taken. -/
def TkQ16 (base bw : Nat) (vS vD vX : Value) (s : Wt16) (w : World) (e : Ending) (w' : World) : Prop :=
  e = .returned (.tuple #[]) ∧ ∃ vS' vD' vX', Wr16 base bw vS' vD' vX' s 0 w' ∧ Kp (Wf16 bw vS vD vX) w w' ∧ (∀ k, Wf16 bw vS' vD' vX' k → Wf16 bw vS vD vX k ∨ w.heap.size ≤ k)
set_option maxRecDepth 100000 in
set_option maxHeartbeats 4000000 in
theorem ptk_own16 (at_ v : Int) (h : Wr16 base bw vS vD vX s 0 w) (hc : s.c ≤ 1099511627776) (hl : s.X.length + 1 ≤ 1099511627776) :
    Calls Try.prog 42 #[.pointer (some ⟨bw, 0, none⟩), .agg #[.int .i64 at_, .int .u8 v, .bool true]] w (TkQ16 base bw vS vD vX (s.own v) w) := by
  have hbl : bw < w.heap.size := (h.lt bw (.inl rfl)).2
  have hadd : IntKind.i64.wrap ((s.c : Int) + 1) = ((s.c + 1 : Nat) : Int) := by rw [IntWalk.i64_in _ (by omega)]; omega
  obtain ⟨c1, hc1⟩ : ∃ c1, c1 = s.c + 1 := ⟨_, rfl⟩
  rw [← hc1] at hadd
  have cA := cb16 w #[.int .i64 at_, .int .u8 v, .bool true] 65
  have hA := h.kp (Kp.of_below (S := fun _ => False) cA.bl) (fun _ _ x => x)
  have g4 := (seven_cells hA.hp).2.2.2.2.1
  have f4 := seven_free (i := 4) hA.hp
  have a2 := three_cell2 cA.cl
  obtain ⟨wB, hwB⟩ : ∃ wB, wB = w.setCell ⟨bw, 4, none⟩ (.int .i64 (c1 : Int)) := ⟨_, rfl⟩
  have hB : Wr16 base bw vS vD vX { s with c := c1 } 0 wB := by rw [hwB]; exact h.num rfl rfl rfl (seven_set4 h.hp _)
  have KB : Kp (Wf16 bw vS vD vX) w wB := by rw [hwB]; exact Kp.set (S := Wf16 bw vS vD vX) (.inl rfl) _
  have zB : wB.heap.size = w.heap.size := by rw [hwB]; simp
  obtain ⟨w1, hw1⟩ : ∃ w1, w1 = wB.alloc (.cells #[.int .i64 at_, .int .u8 v, .bool true] 65) := ⟨_, rfl⟩
  have cB : Cb16 wB #[.int .i64 at_, .int .u8 v, .bool true] 65 w1 := by rw [hw1]; exact cb16 _ _ _
  have h1 := hB.kp (Kp.of_below (S := fun _ => False) cB.bl) (fun _ _ x => x)
  have K1 : Kp (Wf16 bw vS vD vX) w w1 := KB.trans (Kp.of_below (S := Wf16 bw vS vD vX) cB.bl) (fun _ _ h => h)
  obtain ⟨ob, hob⟩ : ∃ ob, ob = w.heap.size := ⟨_, rfl⟩
  have q1 : w1.heap[ob]? = some (.cells #[.int .i64 at_, .int .u8 v, .bool true] 65 (0, 0)) := by rw [hob, ← zB]; exact cB.cl
  have HW1 : Hid ((w.setCell ⟨bw, 4, none⟩ (.int .i64 (c1 : Int))).alloc (.cells #[.int .i64 at_, .int .u8 v, .bool true] 65) = w1) := by show _ = _; rw [hw1, hwB]
  have HOB : Hid (w.heap.size = ob) := hob.symm
  have o1 := three_cell1 q1
  obtain ⟨d0, d1, d2, d3, d4, d5, d6⟩ := seven_cells h1.hp
  have hbl1 := (h1.lt bw (.inl rfl)).2
  have hobl : ob < w1.heap.size := (Array.getElem?_eq_some_iff.1 q1).1
  have hbase : base ≤ w1.heap.size := Nat.le_of_lt (Nat.lt_of_le_of_lt h1.bb hbl1)
  obtain ⟨g, rc, w', hr, ow, k1, at1⟩ := appb16 w1.drew v h1.oX hl hbase
  have k1' : Kp (fun k => vX.ownBlock = some k) w1 w' := ⟨k1.os, k1.tape, k1.output, k1.size, k1.block⟩
  obtain ⟨p1, p2, p3⟩ := h1.setX ow k1' at1
  have e2 := (seven_cells p1).2.2.1
  have ef := seven_free (i := 2) p1
  have HO' : Hid (vX.ownBlock ≠ some ob → w'.cell? ⟨ob, 1, none⟩ = some (.int .u8 v)) := fun hne => three_cell1 (k1'.heap q1 hne)
  have hXo : vX.ownBlock ≠ some ob := fun e => by have := (h.lt ob (.inr (.inr (.inr e)))).2; omega
  have o2 := HO'.out hXo
  have HP : Hid (TkQ16 base bw vS vD vX (s.own v) w (.returned (.tuple #[])) (w'.setCell ⟨bw, 2, none⟩ (.slice (some ⟨g, 0, none⟩) (s.X.length + 1) rc))) := by
    refine ⟨rfl, vS, vD, .slice (some ⟨g, 0, none⟩) (s.X.length + 1) rc, ?_, K1.trans p3 (fun _ _ h => h), ?_⟩
    · have e : s.own v = { ({ s with c := c1 } : Wt16) with X := s.X ++ [v] } := by unfold Wt16.own; rw [hc1]
      rw [e]; exact p2
    · rintro k (x | x | x | x)
      · exact .inl (.inl x)
      · exact .inl (.inr (.inl x))
      · exact .inl (.inr (.inr (.inl x)))
      · have x : some g = some k := x
        injection x with x
        subst x
        rcases at1 with y | y
        · exact .inl (.inr (.inr (.inr y)))
        · exact .inr (Nat.le_trans K1.size y)
  clear hA h1 p1 p2 p3 ow k1 k1' at1 hob hw1 q1 cA cB h K1 KB hB hwB zB hc1 HO' hXo
  obtain ⟨S, D, X, a, c, p⟩ := s
  simp only at *
  go_enter Try.func42, Try.ntmps42
  go_wp2
  rw [HW1.out, HOB.out]
  refine plain_region16 (fun V => V.cell? ⟨bw, 2, none⟩ = some vX ∧ V.cell? ⟨ob, 1, none⟩ = some (.int .u8 v)) 13 (by kernel_rfl) ⟨d2, o1⟩ (fun hHeld => ?_)
  refine wpAnyK_take (i := 0) (v := .pointer (some ⟨bw, 0, none⟩)) rfl (by kernel_rfl) (by kernel_rfl) (by kernel_rfl) (by kernel_rfl) (fun _ _ _ h => h) (Or.inl ⟨by rfl, fun w hSw => by go_simp⟩) hHeld ?_
  simp only [List.getElem_toArray, List.getElem_cons_zero, Act.put, List.setIfInBounds_toArray, List.set_cons_zero, List.set_cons_succ]
  refine wpAnyK_take (i := 1) (v := .pointer (some ⟨bw, 0, none⟩)) rfl (by kernel_rfl) (by kernel_rfl) (by kernel_rfl) (by kernel_rfl) (fun _ _ _ h => h) (Or.inl ⟨by rfl, fun w hSw => by go_simp⟩) hHeld ?_
  simp only [List.getElem_toArray, List.getElem_cons_zero, List.getElem_cons_succ, Act.put, List.setIfInBounds_toArray, List.set_cons_zero, List.set_cons_succ]
  refine wpAnyK_take (i := 2) (v := .pointer (some ⟨bw, 0, none⟩)) rfl (by kernel_rfl) (by kernel_rfl) (by kernel_rfl) (by kernel_rfl) (fun _ _ _ h => h) (Or.inl ⟨by rfl, fun w hSw => by go_simp⟩) hHeld ?_
  simp only [List.getElem_toArray, List.getElem_cons_zero, List.getElem_cons_succ, Act.put, List.setIfInBounds_toArray, List.set_cons_zero, List.set_cons_succ]
  refine wpAnyK_take (i := 3) (v := .pointer (some ⟨bw, 0, none⟩)) rfl (by kernel_rfl) (by kernel_rfl) (by kernel_rfl) (by kernel_rfl) (fun _ _ _ h => h) (Or.inl ⟨by rfl, fun w hSw => by go_simp⟩) hHeld ?_
  simp only [List.getElem_toArray, List.getElem_cons_zero, List.getElem_cons_succ, Act.put, List.setIfInBounds_toArray, List.set_cons_zero, List.set_cons_succ]
  refine wpAnyK_take (i := 4) (v := .pointer (some ⟨bw, 2, none⟩)) rfl (by kernel_rfl) (by kernel_rfl) (by kernel_rfl) (by kernel_rfl) (fun _ _ _ h => h) (Or.inl ⟨by rfl, fun w hSw => by go_simp⟩) hHeld ?_
  simp only [List.getElem_toArray, List.getElem_cons_zero, List.getElem_cons_succ, Act.put, List.setIfInBounds_toArray, List.set_cons_zero, List.set_cons_succ]
  refine wpAnyK_take (i := 5) (v := vX) rfl (by kernel_rfl) (by kernel_rfl) (by kernel_rfl) (by kernel_rfl) (fun _ _ _ h => h) (Or.inl ⟨by rfl, fun w hSw => by go_simp⟩) hHeld ?_
  simp only [List.getElem_toArray, List.getElem_cons_zero, List.getElem_cons_succ, Act.put, List.setIfInBounds_toArray, List.set_cons_zero, List.set_cons_succ]
  refine wpAnyK_take (i := 6) (v := .pointer (some ⟨ob, 1, none⟩)) rfl (by kernel_rfl) (by kernel_rfl) (by kernel_rfl) (by kernel_rfl) (fun _ _ _ h => h) (Or.inl ⟨by rfl, fun w hSw => by go_simp⟩) hHeld ?_
  simp only [List.getElem_toArray, List.getElem_cons_zero, List.getElem_cons_succ, Act.put, List.setIfInBounds_toArray, List.set_cons_zero, List.set_cons_succ]
  refine wpAnyK_take (i := 7) (v := .int .u8 v) rfl (by kernel_rfl) (by kernel_rfl) (by kernel_rfl) (by kernel_rfl) (fun _ _ _ h => h) (Or.inl ⟨by rfl, fun w hSw => by go_simp⟩) hHeld ?_
  simp only [List.getElem_toArray, List.getElem_cons_zero, List.getElem_cons_succ, Act.put, List.setIfInBounds_toArray, List.set_cons_zero, List.set_cons_succ]
  refine wpAnyK_one (i := 8) (by kernel_rfl) rfl (fun K hK => ?_)
  (try simp only [List.getElem_toArray, List.getElem_cons_zero, List.getElem_cons_succ, Act.put, List.setIfInBounds_toArray, List.set_cons_zero, List.set_cons_succ])
  go_simp
  have k2 : ∀ o, (w1.alloc o).drew.cell? ⟨bw, 2, none⟩ = some vX := fun o => (((Below.refl w1.heap.size w1).alloc (Nat.le_refl _) o).cell (p := ⟨bw, 2, none⟩) hbl1).trans d2
  have k3 : ∀ o, (w1.alloc o).drew.cell? ⟨ob, 1, none⟩ = some (.int .u8 v) := fun o => (((Below.refl w1.heap.size w1).alloc (Nat.le_refl _) o).cell (p := ⟨ob, 1, none⟩) hobl).trans o1
  refine hK.out _ _ (fun _ => ⟨k2 _, k3 _⟩) (fun hHeld0 => ?_)
  have hHeld := hHeld0 (by decide)
  clear hHeld0 hK K
  (try simp only [List.getElem_toArray, List.getElem_cons_zero, List.getElem_cons_succ, Act.put, List.setIfInBounds_toArray, List.set_cons_zero, List.set_cons_succ])
  refine wpAnyK_one (i := 9) (by kernel_rfl) rfl (fun K hK => ?_)
  simp only [List.getElem_toArray, List.getElem_cons_zero, List.getElem_cons_succ]
  rw [if_pos (by rfl)]
  refine operwp_app16 _ _ _ rfl rfl rfl hr ?_
  refine hK.out _ _ (fun _ => ⟨e2, o2⟩) (fun hHeld0 => ?_)
  have hHeld := hHeld0 (by decide)
  clear hHeld0 hK K
  simp only [Act.put, List.setIfInBounds_toArray, List.set_cons_zero, List.set_cons_succ]
  refine wpAnyK_one (i := 10) (by kernel_rfl) rfl (fun K hK => ?_)
  (try simp only [List.getElem_toArray, List.getElem_cons_zero, List.getElem_cons_succ, Act.put, List.setIfInBounds_toArray, List.set_cons_zero, List.set_cons_succ])
  go_simp
  refine hK.out _ _ (fun _ => ⟨e2, o2⟩) (fun hHeld0 => ?_)
  have hHeld := hHeld0 (by decide)
  clear hHeld0 hK K
  (try simp only [List.getElem_toArray, List.getElem_cons_zero, List.getElem_cons_succ, Act.put, List.setIfInBounds_toArray, List.set_cons_zero, List.set_cons_succ])
  refine wpAnyK_one (i := 11) (by kernel_rfl) rfl (fun K hK => ?_)
  (try simp only [List.getElem_toArray, List.getElem_cons_zero, List.getElem_cons_succ, Act.put, List.setIfInBounds_toArray, List.set_cons_zero, List.set_cons_succ])
  go_simp
  refine hK.out _ _ (fun _ => ⟨e2, o2⟩) (fun hHeld0 => ?_)
  have hHeld := hHeld0 (by decide)
  clear hHeld0 hK K
  (try simp only [List.getElem_toArray, List.getElem_cons_zero, List.getElem_cons_succ, Act.put, List.setIfInBounds_toArray, List.set_cons_zero, List.set_cons_succ])
  refine wpAnyK_one (i := 12) (by kernel_rfl) rfl (fun K hK => ?_)
  (try simp only [List.getElem_toArray, List.getElem_cons_zero, List.getElem_cons_succ, Act.put, List.setIfInBounds_toArray, List.set_cons_zero, List.set_cons_succ])
  go_simp
  refine hK.out _ _ (fun _ => ⟨e2, o2⟩) (fun hHeld0 => ?_)
  have hHeld := hHeld0 (by decide)
  clear hHeld0 hK K
  (try simp only [List.getElem_toArray, List.getElem_cons_zero, List.getElem_cons_succ, Act.put, List.setIfInBounds_toArray, List.set_cons_zero, List.set_cons_succ])
  refine wpAnyK_one (i := 13) (by kernel_rfl) rfl (fun K hK => ?_)
  simp only [List.getElem_toArray, List.getElem_cons_zero, List.getElem_cons_succ, Act.put]
  go_simp
  refine hK.out _ _ (fun h => absurd rfl h) (fun _ => ?_)
  clear hK K
  refine wpAnyK_done (by kernel_rfl) ?_ _
  go_wp2
  refine bodyPost_ret (results_none rfl _ _ _) rfl ?_
  exact HP.out
end Go.Proofs.Ytgbpejnafgllpaa
