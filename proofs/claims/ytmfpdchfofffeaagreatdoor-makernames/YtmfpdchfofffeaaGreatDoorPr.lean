import Derived.Test.YtmfpdchfofffeaaGreatDoorPq
import Derived.Laws.OwnMore
namespace Go.Proofs.YtmfpdchfofffeaaGreatDoor
open Go.RowKit Go.Shelf
set_option linter.unusedVariables false
structure Pr17 (base bw : Nat) (vS vD vX : Value) (s : Pt17) (w : World) : Prop where
  hp : w.heap[bw]? = some (.cells #[.int .i64 s.pos, vS, vD, vX, .int .i64 s.p] 116 (0, 0))
  oS : w.ownsRow base 108 3 vS s.S.length (flat16 s.S)
  oD : w.ownsRow base 5 1 vD s.D.length (s.D.map (Value.int .u8))
  oX : w.ownsRow base 5 1 vX s.X.length (s.X.map (Value.int .u8))
  nS : vS.ownBlock ≠ some bw
  nD : vD.ownBlock ≠ some bw
  nX : vX.ownBlock ≠ some bw
  sd : ∀ g, vS.ownBlock = some g → vD.ownBlock ≠ some g
  sx : ∀ g, vS.ownBlock = some g → vX.ownBlock ≠ some g
  dx : ∀ g, vD.ownBlock = some g → vX.ownBlock ≠ some g
  bb : base ≤ bw
def Pf17 (bw : Nat) (vS vD vX : Value) : Nat → Prop := fun k => k = bw ∨ vS.ownBlock = some k ∨ vD.ownBlock = some k ∨ vX.ownBlock = some k
theorem Pr17.kp {base bw : Nat} {vS vD vX : Value} {s : Pt17} {w w' : World} {E : Nat → Prop} (h : Pr17 base bw vS vD vX s w) (hk : Kp E w w') (hE : ∀ k, Pf17 bw vS vD vX k → ¬ E k) : Pr17 base bw vS vD vX s w' :=
  ⟨hk.heap h.hp (hE bw (.inl rfl)), own_kp16 h.oS hk (fun x e => hE x (.inr (.inl e))), own_kp h.oD hk (fun x e => hE x (.inr (.inr (.inl e)))), own_kp h.oX hk (fun x e => hE x (.inr (.inr (.inr e)))), h.nS, h.nD, h.nX, h.sd, h.sx, h.dx, h.bb⟩
theorem Pr17.below {base bw : Nat} {vS vD vX : Value} {s : Pt17} {w w' : World} (h : Pr17 base bw vS vD vX s w) (hb : Below w.heap.size w w') : Pr17 base bw vS vD vX s w' := h.kp (Kp.of_below (S := fun _ => False) hb) (fun _ _ x => x)
theorem Pr17.lt {base bw : Nat} {vS vD vX : Value} {s : Pt17} {w : World} (h : Pr17 base bw vS vD vX s w) : ∀ k, Pf17 bw vS vD vX k → base ≤ k ∧ k < w.heap.size := by
  rintro k (rfl | e | e | e)
  · exact ⟨h.bb, (Array.getElem?_eq_some_iff.1 h.hp).1⟩
  · exact h.oS.lt k e
  · exact h.oD.lt k e
  · exact h.oX.lt k e
theorem five_cells {V : World} {b : Nat} {x0 x1 x2 x3 x4 : Value} {t : TypeId} (h : V.heap[b]? = some (.cells #[x0, x1, x2, x3, x4] t (0, 0))) : V.cell? ⟨b, 0, none⟩ = some x0 ∧ V.cell? ⟨b, 1, none⟩ = some x1 ∧ V.cell? ⟨b, 2, none⟩ = some x2 ∧ V.cell? ⟨b, 3, none⟩ = some x3 ∧ V.cell? ⟨b, 4, none⟩ = some x4 := by
  simp [World.cell?, h]
theorem five_free {w : World} {b i : Nat} {x0 x1 x2 x3 x4 : Value} {t : TypeId} (h : w.heap[b]? = some (.cells #[x0, x1, x2, x3, x4] t (0, 0))) : w.frozen? ⟨b, i, none⟩ = false := by simp [World.frozen?, h]
theorem five_set0 {w : World} {b : Nat} {x0 x1 x2 x3 x4 : Value} {t : TypeId} (h : w.heap[b]? = some (.cells #[x0, x1, x2, x3, x4] t (0, 0))) (u : Value) : (w.setCell ⟨b, 0, none⟩ u).heap[b]? = some (.cells #[u, x1, x2, x3, x4] t (0, 0)) := by
  simp [World.setCell, Array.getElem?_modify, h]
theorem five_set1 {w : World} {b : Nat} {x0 x1 x2 x3 x4 : Value} {t : TypeId} (h : w.heap[b]? = some (.cells #[x0, x1, x2, x3, x4] t (0, 0))) (u : Value) : (w.setCell ⟨b, 1, none⟩ u).heap[b]? = some (.cells #[x0, u, x2, x3, x4] t (0, 0)) := by
  simp [World.setCell, Array.getElem?_modify, h]
theorem five_set2 {w : World} {b : Nat} {x0 x1 x2 x3 x4 : Value} {t : TypeId} (h : w.heap[b]? = some (.cells #[x0, x1, x2, x3, x4] t (0, 0))) (u : Value) : (w.setCell ⟨b, 2, none⟩ u).heap[b]? = some (.cells #[x0, x1, u, x3, x4] t (0, 0)) := by
  simp [World.setCell, Array.getElem?_modify, h]
theorem five_set3 {w : World} {b : Nat} {x0 x1 x2 x3 x4 : Value} {t : TypeId} (h : w.heap[b]? = some (.cells #[x0, x1, x2, x3, x4] t (0, 0))) (u : Value) : (w.setCell ⟨b, 3, none⟩ u).heap[b]? = some (.cells #[x0, x1, x2, u, x4] t (0, 0)) := by
  simp [World.setCell, Array.getElem?_modify, h]
theorem five_set4 {w : World} {b : Nat} {x0 x1 x2 x3 x4 : Value} {t : TypeId} (h : w.heap[b]? = some (.cells #[x0, x1, x2, x3, x4] t (0, 0))) (u : Value) : (w.setCell ⟨b, 4, none⟩ u).heap[b]? = some (.cells #[x0, x1, x2, x3, u] t (0, 0)) := by
  simp [World.setCell, Array.getElem?_modify, h]
variable {base bw : Nat} {vS vD vX : Value} {s : Pt17} {w : World}
/-- A number is turned. -/
theorem Pr17.num {s' : Pt17} {i : Nat} {u : Value} (h : Pr17 base bw vS vD vX s w) (hS : s'.S = s.S) (hD : s'.D = s.D) (hX : s'.X = s.X) (hp : (w.setCell ⟨bw, i, none⟩ u).heap[bw]? = some (.cells #[.int .i64 s'.pos, vS, vD, vX, .int .i64 s'.p] 116 (0, 0))) : Pr17 base bw vS vD vX s' (w.setCell ⟨bw, i, none⟩ u) := by
  have ks : Kp (fun k => k = bw) w (w.setCell ⟨bw, i, none⟩ u) := Kp.set (S := fun k => k = bw) rfl _
  exact ⟨hp, by rw [hS]; exact own_kp16 h.oS ks (fun x e x2 => h.nS (by rw [e, x2])), by rw [hD]; exact own_kp h.oD ks (fun x e x2 => h.nD (by rw [e, x2])), by rw [hX]; exact own_kp h.oX ks (fun x e x2 => h.nX (by rw [e, x2])), h.nS, h.nD, h.nX, h.sd, h.sx, h.dx, h.bb⟩
/-- A byte more of Extra. -/
theorem Pr17.setX {g rc : Nat} {y : Int} {w' : World} (h : Pr17 base bw vS vD vX s w) (own : w'.ownsRow base 5 1 (.slice (some ⟨g, 0, none⟩) (s.X.length + 1) rc) (s.X.length + 1) (s.X.map (Value.int .u8) ++ [.int .u8 y])) (hk : Kp (fun k => vX.ownBlock = some k) w w') (hat : vX.ownBlock = some g ∨ w.heap.size ≤ g) :
    w'.heap[bw]? = some (.cells #[.int .i64 s.pos, vS, vD, vX, .int .i64 s.p] 116 (0, 0)) ∧ Pr17 base bw vS vD (.slice (some ⟨g, 0, none⟩) (s.X.length + 1) rc) { s with X := s.X ++ [y] } (w'.setCell ⟨bw, 3, none⟩ (.slice (some ⟨g, 0, none⟩) (s.X.length + 1) rc)) ∧ Kp (Pf17 bw vS vD vX) w (w'.setCell ⟨bw, 3, none⟩ (.slice (some ⟨g, 0, none⟩) (s.X.length + 1) rc)) := by
  have hlt := h.lt
  have ks : Kp (fun k => k = bw) w' (w'.setCell ⟨bw, 3, none⟩ (.slice (some ⟨g, 0, none⟩) (s.X.length + 1) rc)) := Kp.set (S := fun k => k = bw) rfl _
  have q' := hk.heap h.hp (fun e => h.nX e)
  have hgn : g ≠ bw ∧ (∀ x, vS.ownBlock = some x → g ≠ x) ∧ (∀ x, vD.ownBlock = some x → g ≠ x) := by
    rcases hat with e | e
    · exact ⟨fun x => h.nX (by rw [e, x]), fun x hx y => h.sx x hx (by rw [e, y]), fun x hx y => h.dx x hx (by rw [e, y])⟩
    · have l1 := (hlt bw (.inl rfl)).2
      refine ⟨by omega, fun x hx y => ?_, fun x hx y => ?_⟩
      · have := (hlt x (.inr (.inl hx))).2; omega
      · have := (hlt x (.inr (.inr (.inl hx)))).2; omega
  refine ⟨q', ⟨five_set3 q' _, ?_, ?_, ?_, h.nS, h.nD, ?_, h.sd, ?_, ?_, h.bb⟩, (hk.mono (S' := Pf17 bw vS vD vX) (fun i _ e => .inr (.inr (.inr e)))).trans (ks.mono (S' := Pf17 bw vS vD vX) (fun i _ e => .inl e)) (fun _ _ h => h)⟩
  · exact own_kp16 (own_kp16 h.oS hk (fun x e y => h.sx x e y)) ks (fun x e y => h.nS (by rw [e]; exact congrArg some y))
  · exact own_kp (own_kp h.oD hk (fun x e y => h.dx x e y)) ks (fun x e y => h.nD (by rw [e]; exact congrArg some y))
  · have : (s.X ++ [y]).length = s.X.length + 1 := by simp
    show World.ownsRow _ _ _ _ _ (s.X ++ [y]).length _
    rw [this]
    show World.ownsRow _ _ _ _ _ _ ((s.X ++ [y]).map (Value.int .u8))
    rw [List.map_append]
    exact own_kp own ks (fun x e y => by
      have e : some g = some x := e
      injection e with e
      exact hgn.1 (e.trans y))
  · intro e
    have e : some g = some bw := e
    injection e with e
    exact hgn.1 e
  · intro x e y
    have y : some g = some x := y
    injection y with y
    exact hgn.2.1 x e y
  · intro x e y
    have y : some g = some x := y
    injection y with y
    exact hgn.2.2 x e y
/-- A byte more of Diff. -/
theorem Pr17.setD {g rc : Nat} {y : Int} {w' : World} (h : Pr17 base bw vS vD vX s w) (own : w'.ownsRow base 5 1 (.slice (some ⟨g, 0, none⟩) (s.D.length + 1) rc) (s.D.length + 1) (s.D.map (Value.int .u8) ++ [.int .u8 y])) (hk : Kp (fun k => vD.ownBlock = some k) w w') (hat : vD.ownBlock = some g ∨ w.heap.size ≤ g) :
    w'.heap[bw]? = some (.cells #[.int .i64 s.pos, vS, vD, vX, .int .i64 s.p] 116 (0, 0)) ∧ Pr17 base bw vS (.slice (some ⟨g, 0, none⟩) (s.D.length + 1) rc) vX { s with D := s.D ++ [y] } (w'.setCell ⟨bw, 2, none⟩ (.slice (some ⟨g, 0, none⟩) (s.D.length + 1) rc)) ∧ Kp (Pf17 bw vS vD vX) w (w'.setCell ⟨bw, 2, none⟩ (.slice (some ⟨g, 0, none⟩) (s.D.length + 1) rc)) := by
  have hlt := h.lt
  have ks : Kp (fun k => k = bw) w' (w'.setCell ⟨bw, 2, none⟩ (.slice (some ⟨g, 0, none⟩) (s.D.length + 1) rc)) := Kp.set (S := fun k => k = bw) rfl _
  have q' := hk.heap h.hp (fun e => h.nD e)
  have hgn : g ≠ bw ∧ (∀ x, vS.ownBlock = some x → g ≠ x) ∧ (∀ x, vX.ownBlock = some x → g ≠ x) := by
    rcases hat with e | e
    · exact ⟨fun x => h.nD (by rw [e, x]), fun x hx y => h.sd x hx (by rw [e, y]), fun x hx y => h.dx g e (by rw [hx, y])⟩
    · have l1 := (hlt bw (.inl rfl)).2
      refine ⟨by omega, fun x hx y => ?_, fun x hx y => ?_⟩
      · have := (hlt x (.inr (.inl hx))).2; omega
      · have := (hlt x (.inr (.inr (.inr hx)))).2; omega
  refine ⟨q', ⟨five_set2 q' _, ?_, ?_, ?_, h.nS, ?_, h.nX, ?_, h.sx, ?_, h.bb⟩, (hk.mono (S' := Pf17 bw vS vD vX) (fun i _ e => .inr (.inr (.inl e)))).trans (ks.mono (S' := Pf17 bw vS vD vX) (fun i _ e => .inl e)) (fun _ _ h => h)⟩
  · exact own_kp16 (own_kp16 h.oS hk (fun x e y => h.sd x e y)) ks (fun x e y => h.nS (by rw [e]; exact congrArg some y))
  · have : (s.D ++ [y]).length = s.D.length + 1 := by simp
    show World.ownsRow _ _ _ _ _ (s.D ++ [y]).length _
    rw [this]
    show World.ownsRow _ _ _ _ _ _ ((s.D ++ [y]).map (Value.int .u8))
    rw [List.map_append]
    exact own_kp own ks (fun x e y => by
      have e : some g = some x := e
      injection e with e
      exact hgn.1 (e.trans y))
  · exact own_kp (own_kp h.oX hk (fun x e y => h.dx x y e)) ks (fun x e y => h.nX (by rw [e]; exact congrArg some y))
  · intro e
    have e : some g = some bw := e
    injection e with e
    exact hgn.1 e
  · intro x e y
    have y : some g = some x := y
    injection y with y
    exact hgn.2.1 x e y
  · intro x e y
    have e : some g = some x := e
    injection e with e
    exact hgn.2.2 x y e
/-- A step more. -/
theorem Pr17.setS {g rc : Nat} {y : St16} {w' : World} (h : Pr17 base bw vS vD vX s w) (own : w'.ownsRow base 108 3 (.slice (some ⟨g, 0, none⟩) (s.S.length + 1) rc) (s.S.length + 1) (flat16 s.S ++ [.int .i64 y.1, .int .i64 y.2.1, .int .i64 y.2.2])) (hk : Kp (fun k => vS.ownBlock = some k) w w') (hat : vS.ownBlock = some g ∨ w.heap.size ≤ g) :
    w'.heap[bw]? = some (.cells #[.int .i64 s.pos, vS, vD, vX, .int .i64 s.p] 116 (0, 0)) ∧ Pr17 base bw (.slice (some ⟨g, 0, none⟩) (s.S.length + 1) rc) vD vX { s with S := s.S ++ [y] } (w'.setCell ⟨bw, 1, none⟩ (.slice (some ⟨g, 0, none⟩) (s.S.length + 1) rc)) ∧ Kp (Pf17 bw vS vD vX) w (w'.setCell ⟨bw, 1, none⟩ (.slice (some ⟨g, 0, none⟩) (s.S.length + 1) rc)) := by
  have hlt := h.lt
  have ks : Kp (fun k => k = bw) w' (w'.setCell ⟨bw, 1, none⟩ (.slice (some ⟨g, 0, none⟩) (s.S.length + 1) rc)) := Kp.set (S := fun k => k = bw) rfl _
  have q' := hk.heap h.hp (fun e => h.nS e)
  have hgn : g ≠ bw ∧ (∀ x, vD.ownBlock = some x → g ≠ x) ∧ (∀ x, vX.ownBlock = some x → g ≠ x) := by
    rcases hat with e | e
    · exact ⟨fun x => h.nS (by rw [e, x]), fun x hx y => h.sd g e (by rw [hx, y]), fun x hx y => h.sx g e (by rw [hx, y])⟩
    · have l1 := (hlt bw (.inl rfl)).2
      refine ⟨by omega, fun x hx y => ?_, fun x hx y => ?_⟩
      · have := (hlt x (.inr (.inr (.inl hx)))).2; omega
      · have := (hlt x (.inr (.inr (.inr hx)))).2; omega
  refine ⟨q', ⟨five_set1 q' _, ?_, ?_, ?_, ?_, h.nD, h.nX, ?_, ?_, h.dx, h.bb⟩, (hk.mono (S' := Pf17 bw vS vD vX) (fun i _ e => .inr (.inl e))).trans (ks.mono (S' := Pf17 bw vS vD vX) (fun i _ e => .inl e)) (fun _ _ h => h)⟩
  · have : (s.S ++ [y]).length = s.S.length + 1 := by simp
    show World.ownsRow _ _ _ _ _ (s.S ++ [y]).length _
    rw [this]
    show World.ownsRow _ _ _ _ _ _ (flat16 (s.S ++ [y]))
    rw [flat16_app]
    exact own_kp16 own ks (fun x e y => by
      have e : some g = some x := e
      injection e with e
      exact hgn.1 (e.trans y))
  · exact own_kp (own_kp h.oD hk (fun x e y => h.sd x y e)) ks (fun x e y => h.nD (by rw [e]; exact congrArg some y))
  · exact own_kp (own_kp h.oX hk (fun x e y => h.sx x y e)) ks (fun x e y => h.nX (by rw [e]; exact congrArg some y))
  · intro e
    have e : some g = some bw := e
    injection e with e
    exact hgn.1 e
  · intro x e y
    have e : some g = some x := e
    injection e with e
    exact hgn.2.1 x y e
  · intro x e y
    have e : some g = some x := e
    injection e with e
    exact hgn.2.2 x y e
/-- A number of the last step is turned. -/
theorem flat16_len (l : List St16) : (flat16 l).length = l.length * 3 := by
  induction l with
  | nil => rfl
  | cons a l ih =>
    have : flat16 (a :: l) = [.int .i64 a.1, .int .i64 a.2.1, .int .i64 a.2.2] ++ flat16 l := by unfold flat16; rw [List.flatMap_cons]
    rw [this, List.length_append, ih]; simp; omega
theorem ml17_split {S : List St16} (h : S ≠ []) : S = S.dropLast ++ [S.getLastD z16] := by
  have := List.dropLast_concat_getLast h
  rw [show S.getLastD z16 = S.getLast h by rw [List.getLastD_eq_getLast?, List.getLast?_eq_some_getLast h]; rfl]
  exact this.symm
theorem flat17_last {S : List St16} (h : S ≠ []) : flat16 S = flat16 S.dropLast ++ [.int .i64 (S.getLastD z16).1, .int .i64 (S.getLastD z16).2.1, .int .i64 (S.getLastD z16).2.2] := by
  conv => lhs; rw [ml17_split h]
  rw [flat16_app]; rfl
theorem flat17_set0 {S : List St16} (h : S ≠ []) (v : Int) : (flat16 S).set ((S.length - 1) * 3 + 0) (.int .i64 v) = flat16 (ml17 (fun t => (v, t.2.1, t.2.2)) S) := by
  have hl := flat16_len S.dropLast
  rw [List.length_dropLast] at hl
  unfold ml17
  rw [flat17_last h, flat16_app, ← hl, List.set_append_right _ _ (by omega), show (flat16 S.dropLast).length + 0 - (flat16 S.dropLast).length = 0 by omega]
  rfl
theorem flat17_set1 {S : List St16} (h : S ≠ []) (v : Int) : (flat16 S).set ((S.length - 1) * 3 + 1) (.int .i64 v) = flat16 (ml17 (fun t => (t.1, v, t.2.2)) S) := by
  have hl := flat16_len S.dropLast
  rw [List.length_dropLast] at hl
  unfold ml17
  rw [flat17_last h, flat16_app, ← hl, List.set_append_right _ _ (by omega), show (flat16 S.dropLast).length + 1 - (flat16 S.dropLast).length = 1 by omega]
  rfl
theorem flat17_set2 {S : List St16} (h : S ≠ []) (v : Int) : (flat16 S).set ((S.length - 1) * 3 + 2) (.int .i64 v) = flat16 (ml17 (fun t => (t.1, t.2.1, v)) S) := by
  have hl := flat16_len S.dropLast
  rw [List.length_dropLast] at hl
  unfold ml17
  rw [flat17_last h, flat16_app, ← hl, List.set_append_right _ _ (by omega), show (flat16 S.dropLast).length + 2 - (flat16 S.dropLast).length = 2 by omega]
  rfl
theorem flat17_get {S : List St16} (h : S ≠ []) : (flat16 S)[(S.length - 1) * 3]? = some (.int .i64 (S.getLastD z16).1) ∧ (flat16 S)[(S.length - 1) * 3 + 1]? = some (.int .i64 (S.getLastD z16).2.1) ∧ (flat16 S)[(S.length - 1) * 3 + 2]? = some (.int .i64 (S.getLastD z16).2.2) := by
  have hl := flat16_len S.dropLast
  rw [List.length_dropLast] at hl
  rw [flat17_last h, ← hl]
  refine ⟨?_, ?_, ?_⟩
  · rw [List.getElem?_append_right (by omega), Nat.sub_self]; rfl
  · rw [List.getElem?_append_right (by omega), Nat.add_sub_cancel_left]; rfl
  · rw [List.getElem?_append_right (by omega), Nat.add_sub_cancel_left]; rfl
/-- The last step lies there. -/
structure La17 (vS : Value) (S : List St16) (g r c : Nat) (w : World) : Prop where
  vs : vS = .slice (some ⟨g, 0, none⟩) (r + 1) c
  ln : S.length = r + 1
  c0 : w.cell? ⟨g, r * 3, none⟩ = some (.int .i64 (S.getLastD z16).1)
  c1 : w.cell? ⟨g, r * 3 + 1, none⟩ = some (.int .i64 (S.getLastD z16).2.1)
  c2 : w.cell? ⟨g, r * 3 + 2, none⟩ = some (.int .i64 (S.getLastD z16).2.2)
  fr : ∀ j, w.frozen? ⟨g, j, none⟩ = false
theorem Pr17.last (h : Pr17 base bw vS vD vX s w) (hs : s.S ≠ []) : ∃ g r c, La17 vS s.S g r c w := by
  have hp := List.length_pos_iff.2 hs
  obtain ⟨r, hr⟩ : ∃ r, s.S.length = r + 1 := ⟨s.S.length - 1, by omega⟩
  rcases h.oS.2 with ⟨_, e⟩ | ⟨g, cap, cur, rfl, _⟩
  · omega
  · have hc := h.oS.cells (g := g) rfl
    obtain ⟨f0, f1, f2⟩ := flat17_get hs
    have hadd : ∀ i, (⟨g, 0, none⟩ : Addr).add i = ⟨g, i, none⟩ := fun i => by simp [Addr.add]; intro h; omega
    rw [hr, Nat.add_sub_cancel] at f0 f1 f2
    have g0 := hc _ _ f0
    have g1 := hc _ _ f1
    have g2 := hc _ _ f2
    rw [hadd] at g0 g1 g2
    exact ⟨g, r, cap, by rw [hr], hr, g0, g1, g2, h.oS.frozenAt⟩
theorem Pr17.turn {g r c j : Nat} {S' : List St16} {u : Value} (h : Pr17 base bw vS vD vX s w) (hl : La17 vS s.S g r c w) (hj : j < 3) (hS : (flat16 s.S).set (r * 3 + j) u = flat16 S') (hn : S'.length = s.S.length) : Pr17 base bw vS vD vX { s with S := S' } (w.setCell ⟨g, r * 3 + j, none⟩ u) ∧ Kp (Pf17 bw vS vD vX) w (w.setCell ⟨g, r * 3 + j, none⟩ u) := by
  have hg : vS.ownBlock = some g := by rw [hl.vs]; rfl
  have ks : Kp (fun k => k = g) w (w.setCell ⟨g, r * 3 + j, none⟩ u) := Kp.set (S := fun k => k = g) rfl _
  refine ⟨⟨ks.heap h.hp (fun e => h.nS (by rw [hg]; exact congrArg some e.symm)), ?_, own_kp h.oD ks (fun x e y => h.sd g hg (by rw [e]; exact congrArg some y)), own_kp h.oX ks (fun x e y => h.sx g hg (by rw [e]; exact congrArg some y)), h.nS, h.nD, h.nX, h.sd, h.sx, h.dx, h.bb⟩, ks.mono (fun i _ e => .inr (.inl (by rw [hg]; exact congrArg some e.symm)))⟩
  have ho := h.oS
  rw [hl.vs, hl.ln] at ho
  have := ho.stored (r * 3 + j) u
  rw [hS] at this
  show World.ownsRow _ _ _ _ _ S'.length (flat16 S')
  rw [hn, hl.vs, hl.ln]
  exact this.1
/-- Behind a call. -/
def TkQ17 (base bw : Nat) (vS vD vX : Value) (s : Pt17) (w : World) (e : Ending) (w' : World) : Prop :=
  e = .returned (.tuple #[]) ∧ ∃ vS' vD' vX', Pr17 base bw vS' vD' vX' s w' ∧ Kp (Pf17 bw vS vD vX) w w' ∧ (∀ k, Pf17 bw vS' vD' vX' k → Pf17 bw vS vD vX k ∨ w.heap.size ≤ k)
end Go.Proofs.YtmfpdchfofffeaaGreatDoor

namespace Go.Proofs.YtmfpdchfofffeaaGreatDoor
open Go.RowKit Go.Shelf
set_option linter.unusedVariables false
variable {base bw : Nat} {vS vD vX : Value} {s : Pt17} {w : World}
/-- A step of noughts is appended through the part's pointer. -/
structure Ap17 (base bw : Nat) (vS vD vX : Value) (s : Pt17) (V : World) (g rc : Nat) (w' : World) : Prop where
  hr : (Builtin.append_ #[46, 46] 46 #[vS, .slice (some ⟨V.heap.size, 0, none⟩) 1 1]).run Tryz.prog (V.alloc (.cells #[.int .i64 0, .int .i64 0, .int .i64 0] 108)) = .ok (.slice (some ⟨g, 0, none⟩) (s.S.length + 1) rc) w'
  hp : w'.heap[bw]? = some (.cells #[.int .i64 s.pos, vS, vD, vX, .int .i64 s.p] 116 (0, 0))
  pr : Pr17 base bw (.slice (some ⟨g, 0, none⟩) (s.S.length + 1) rc) vD vX { s with S := s.S ++ [z16] } (w'.setCell ⟨bw, 1, none⟩ (.slice (some ⟨g, 0, none⟩) (s.S.length + 1) rc))
  kp : Kp (Pf17 bw vS vD vX) V (w'.setCell ⟨bw, 1, none⟩ (.slice (some ⟨g, 0, none⟩) (s.S.length + 1) rc))
  kw : Kp (fun k => vS.ownBlock = some k) V w'
  ft : ∀ k, Pf17 bw (.slice (some ⟨g, 0, none⟩) (s.S.length + 1) rc) vD vX k → Pf17 bw vS vD vX k ∨ V.heap.size ≤ k
theorem Pr17.app (h : Pr17 base bw vS vD vX s w) (hl : s.S.length + 1 ≤ 1099511627776) : ∃ g rc w', Ap17 base bw vS vD vX s w g rc w' := by
  obtain ⟨g, rc, w', hr, ow, k1, at1⟩ := apps16 w z16 h.oS hl (Nat.le_of_lt (Nat.lt_of_le_of_lt h.bb (h.lt bw (.inl rfl)).2))
  obtain ⟨p1, p2, p3⟩ := h.setS ow k1 at1
  refine ⟨g, rc, w', hr, p1, p2, p3, k1, ?_⟩
  rintro k (x | x | x | x)
  · exact .inl (.inl x)
  · have x : some g = some k := x
    injection x with x
    subst x
    rcases at1 with y | y
    · exact .inl (.inr (.inl y))
    · exact .inr y
  · exact .inl (.inr (.inr (.inl x)))
  · exact .inl (.inr (.inr (.inr x)))
theorem wpList_app17 {P : Program} {ops : Array Oper} {rest : List Oper} {o : Oper} {a : Act} {Q : Exit → Act → World → Prop} {w : World} (hg : o.guard = none) (s x : Operand) (t : TypeId)
    (hop : o.op = Op.call { callee := Callee.builtin Builtin.append, args := #[s, x], argTypes := #[t, t] }) {u v v' : Value} {w' : World} (hs : a.eval s = u) (hx : a.eval x = v) (hr : (Builtin.append_ #[t, t] o.type #[u, v]).run P w = .ok v' w')
    (h : wpList P ops Q rest (a.put o.dst v') w') : wpList P ops Q (o :: rest) a w := by
  refine wpList_plain hg fun K hK' => ?_
  exact operwp_app16 s x t hop hs hx hr (hK' _ _ h)
theorem own_sl17 {w : World} {base n sz : Nat} {e : TypeId} {v : Value} {xs : List Value} (h : w.ownsRow base e sz v n xs) : ∃ p c, v = .slice p n c := by
  rcases h.2 with ⟨h1, h2⟩ | ⟨g, cap, cur, h1, _⟩
  · exact ⟨none, 0, by rw [h1, h2]⟩
  · exact ⟨_, cap, h1⟩
/-- Behind the append: the place is told. -/
theorem Ap17.fin {g rc : Nat} {w' V : World} (A : Ap17 base bw vS vD vX s V g rc w') (hK : Kp (Pf17 bw vS vD vX) w V) (to : Int) (s' : Pt17) (hs : s' = { s with S := s.S ++ [z16], p := to }) : TkQ17 base bw vS vD vX s' w (.returned (.tuple #[])) ((w'.setCell ⟨bw, 1, none⟩ (.slice (some ⟨g, 0, none⟩) (s.S.length + 1) rc)).setCell ⟨bw, 4, none⟩ (.int .i64 to)) := by
  have h1 := A.pr
  have h2 : Pr17 base bw (.slice (some ⟨g, 0, none⟩) (s.S.length + 1) rc) vD vX s' ((w'.setCell ⟨bw, 1, none⟩ (.slice (some ⟨g, 0, none⟩) (s.S.length + 1) rc)).setCell ⟨bw, 4, none⟩ (.int .i64 to)) := h1.num (by rw [hs]) (by rw [hs]) (by rw [hs]) (by rw [hs]; exact five_set4 h1.hp _)
  refine ⟨rfl, _, _, _, h2, (hK.trans A.kp (fun _ _ x => x)).trans (Kp.set (S := Pf17 bw vS vD vX) (.inl rfl) _) (fun _ _ x => x), fun k x => ?_⟩
  rcases A.ft k x with y | y
  · exact .inl y
  · exact .inr (Nat.le_trans hK.size y)
set_option maxRecDepth 100000 in
set_option maxHeartbeats 4000000 in
theorem plead17_nil (to : Int) (h : Pr17 base bw vS vD vX s w) (hs : s.S = []) :
    Calls Tryz.prog 92 #[.pointer (some ⟨bw, 0, none⟩), .int .i64 to] w (TkQ17 base bw vS vD vX (s.lead to) w) := by
  obtain ⟨c0, c1, c2, c3, c4⟩ := five_cells h.hp
  obtain ⟨g, rc, w', A⟩ := h.app (by rw [hs]; decide)
  have HF : Hid (TkQ17 base bw vS vD vX (s.lead to) w (.returned (.tuple #[])) ((w'.setCell ⟨bw, 1, none⟩ (.slice (some ⟨g, 0, none⟩) (s.S.length + 1) rc)).setCell ⟨bw, 4, none⟩ (.int .i64 to))) := A.fin (Kp.refl _ _) to _ (by unfold Pt17.lead; rw [if_pos hs, hs]; rfl)
  have hr := A.hr
  obtain ⟨d0, d1, d2, d3, d4⟩ := five_cells A.hp
  have f1 := five_free (i := 1) A.hp
  have q := five_set1 A.hp (.slice (some ⟨g, 0, none⟩) (s.S.length + 1) rc)
  obtain ⟨e0, e1, e2, e3, e4⟩ := five_cells q
  have f4 := five_free (i := 4) q
  obtain ⟨sp, sc, hvS⟩ := own_sl17 h.oS
  rw [hs] at hvS hr HF e0 e1 e2 e3 e4 f4
  simp only [List.length_nil] at hvS hr HF e0 e1 e2 e3 e4 f4
  subst hvS
  clear A h q
  go_enter Tryz.func92, Tryz.ntmps92
  go_wp2_with (first
    | (at_builtin; refine wpList_app17 rfl (.tmp 51) (.tmp 53) 46 rfl rfl rfl hr ?_))
  go_end0
  exact HF.out
set_option maxRecDepth 100000 in
set_option maxHeartbeats 4000000 in
theorem plead17_stay (to : Int) (h : Pr17 base bw vS vD vX s w) (hs : s.S ≠ []) (hl : s.S.length ≤ 1073741824) (h0 : (s.S.getLastD z16).2.1 = 0) (ht : to = s.p) :
    Calls Tryz.prog 92 #[.pointer (some ⟨bw, 0, none⟩), .int .i64 to] w (TkQ17 base bw vS vD vX (s.lead to) w) := by
  obtain ⟨c0, c1, c2, c3, c4⟩ := five_cells h.hp
  obtain ⟨g, r, c, L⟩ := h.last hs
  have HF : Hid (TkQ17 base bw vS vD vX (s.lead to) w (.returned (.tuple #[])) w) := ⟨rfl, vS, vD, vX, by unfold Pt17.lead; rw [if_neg hs, if_pos ⟨h0, ht⟩]; exact h, Kp.refl _ _, fun k x => .inl x⟩
  have hb : r + 1 ≤ 1073741824 := by rw [← L.ln]; exact hl
  have hvS := L.vs
  have l1 := L.c1
  rw [h0] at l1
  obtain ⟨N, hN⟩ : ∃ N, N = r + 1 := ⟨_, rfl⟩
  rw [← hN] at hvS
  have hw1 : IntKind.i64.wrap ((N : Int) - 1) = (r : Int) := by rw [IntWalk.i64_in _ (by omega)]; omega
  have hp1 : (0 : Int) < (N : Int) := by omega
  have hp2 : (r : Int) < (N : Int) := by omega
  have hp3 : (0 : Int) ≤ (r : Int) := by omega
  have hp4 : r < N := by omega
  subst hvS
  subst ht
  clear h L hN
  go_enter Tryz.func92, Tryz.ntmps92
  go_wp2
  go_end0
  exact HF.out
set_option maxRecDepth 100000 in
set_option maxHeartbeats 4000000 in
theorem plead17_cpy (to : Int) (h : Pr17 base bw vS vD vX s w) (hs : s.S ≠ []) (hl : s.S.length + 1 ≤ 1073741824) (h0 : (s.S.getLastD z16).2.1 ≠ 0) (hto : -1152921504606846976 ≤ to ∧ to ≤ 1152921504606846976) (hpp : -1152921504606846976 ≤ s.p ∧ s.p ≤ 1152921504606846976) :
    Calls Tryz.prog 92 #[.pointer (some ⟨bw, 0, none⟩), .int .i64 to] w (TkQ17 base bw vS vD vX (s.lead to) w) := by
  obtain ⟨c0, c1, c2, c3, c4⟩ := five_cells h.hp
  obtain ⟨g, r, c, L⟩ := h.last hs
  have hg : vS.ownBlock = some g := by rw [L.vs]; rfl
  have hlr : s.S.length - 1 = r := by have := L.ln; omega
  obtain ⟨h1, k1⟩ := h.turn L (j := 2) (S' := ml17 (sek17 (to - s.p)) s.S) (u := .int .i64 (to - s.p)) (by omega) (by rw [← hlr]; exact flat17_set2 hs _) (ml17_len hs)
  obtain ⟨w1, hw1⟩ : ∃ w1, w1 = w.setCell ⟨g, r * 3 + 2, none⟩ (.int .i64 (to - s.p)) := ⟨_, rfl⟩
  rw [← hw1] at h1 k1
  obtain ⟨g2, rc, w', A⟩ := h1.app (by rw [ml17_len hs]; omega)
  have HF : Hid (TkQ17 base bw vS vD vX (s.lead to) w (.returned (.tuple #[])) ((w'.setCell ⟨bw, 1, none⟩ (.slice (some ⟨g2, 0, none⟩) ((ml17 (sek17 (to - s.p)) s.S).length + 1) rc)).setCell ⟨bw, 4, none⟩ (.int .i64 to))) := A.fin k1 to _ (by unfold Pt17.lead; rw [if_neg hs, if_neg (by omega)])
  have hr := A.hr
  obtain ⟨a0, a1, a2, a3, a4⟩ := five_cells h1.hp
  obtain ⟨d0, d1, d2, d3, d4⟩ := five_cells A.hp
  have f1 := five_free (i := 1) A.hp
  have q := five_set1 A.hp (.slice (some ⟨g2, 0, none⟩) ((ml17 (sek17 (to - s.p)) s.S).length + 1) rc)
  obtain ⟨e0, e1, e2, e3, e4⟩ := five_cells q
  have f4 := five_free (i := 4) q
  have fr := L.fr (r * 3 + 2)
  have hb : r + 1 ≤ 1073741824 := by rw [← L.ln]; omega
  have hvS := L.vs
  have l1 := L.c1
  have l2 := L.c2
  obtain ⟨N, hN⟩ : ∃ N, N = r + 1 := ⟨_, rfl⟩
  rw [← hN] at hvS
  have hw2 : IntKind.i64.wrap ((N : Int) - 1) = (r : Int) := by rw [IntWalk.i64_in _ (by omega)]; omega
  have hw3 : IntKind.i64.wrap (to - s.p) = to - s.p := IntWalk.i64_in _ (by omega)
  have hp1 : (0 : Int) < (N : Int) := by omega
  have hp2 : (r : Int) < (N : Int) := by omega
  have hp3 : (0 : Int) ≤ (r : Int) := by omega
  have hp4 : r < N := by omega
  simp only at *
  generalize (ml17 (sek17 (to - s.p)) s.S).length + 1 = M at *
  subst hvS
  have HW1 : Hid (w.setCell ⟨g, r * 3 + 2, none⟩ (.int .i64 (to - s.p)) = w1) := hw1.symm
  have z1 : w1.heap.size = w.heap.size := by rw [hw1]; simp
  rw [z1] at hr
  rw [hw1] at hr a0 a1 a2 a3 a4
  clear z1
  clear h h1 k1 L hN A q hlr hg hw1 hs
  generalize (s.S.getLastD z16).2.2 = u2 at *
  generalize (s.S.getLastD z16).2.1 = u1 at *
  have hbq : (u1 == 0) = false := by simp; exact h0
  have hbd : decide (u1 = 0) = false := decide_eq_false h0
  go_enter Tryz.func92, Tryz.ntmps92
  go_wp2_with (first
    | (at_builtin; refine wpList_app17 rfl (.tmp 51) (.tmp 53) 46 rfl rfl rfl hr ?_))
  go_end0
  exact HF.out
set_option maxRecDepth 100000 in
set_option maxHeartbeats 4000000 in
theorem plead17_far (to : Int) (h : Pr17 base bw vS vD vX s w) (hs : s.S ≠ []) (hl : s.S.length + 1 ≤ 1073741824) (h0 : (s.S.getLastD z16).2.1 = 0) (ht : to ≠ s.p) (hto : -1152921504606846976 ≤ to ∧ to ≤ 1152921504606846976) (hpp : -1152921504606846976 ≤ s.p ∧ s.p ≤ 1152921504606846976) :
    Calls Tryz.prog 92 #[.pointer (some ⟨bw, 0, none⟩), .int .i64 to] w (TkQ17 base bw vS vD vX (s.lead to) w) := by
  obtain ⟨c0, c1, c2, c3, c4⟩ := five_cells h.hp
  obtain ⟨g, r, c, L⟩ := h.last hs
  have hg : vS.ownBlock = some g := by rw [L.vs]; rfl
  have hlr : s.S.length - 1 = r := by have := L.ln; omega
  obtain ⟨h1, k1⟩ := h.turn L (j := 2) (S' := ml17 (sek17 (to - s.p)) s.S) (u := .int .i64 (to - s.p)) (by omega) (by rw [← hlr]; exact flat17_set2 hs _) (ml17_len hs)
  obtain ⟨w1, hw1⟩ : ∃ w1, w1 = w.setCell ⟨g, r * 3 + 2, none⟩ (.int .i64 (to - s.p)) := ⟨_, rfl⟩
  rw [← hw1] at h1 k1
  obtain ⟨g2, rc, w', A⟩ := h1.app (by rw [ml17_len hs]; omega)
  have HF : Hid (TkQ17 base bw vS vD vX (s.lead to) w (.returned (.tuple #[])) ((w'.setCell ⟨bw, 1, none⟩ (.slice (some ⟨g2, 0, none⟩) ((ml17 (sek17 (to - s.p)) s.S).length + 1) rc)).setCell ⟨bw, 4, none⟩ (.int .i64 to))) := A.fin k1 to _ (by unfold Pt17.lead; rw [if_neg hs, if_neg (by omega)])
  have hr := A.hr
  obtain ⟨a0, a1, a2, a3, a4⟩ := five_cells h1.hp
  obtain ⟨d0, d1, d2, d3, d4⟩ := five_cells A.hp
  have f1 := five_free (i := 1) A.hp
  have q := five_set1 A.hp (.slice (some ⟨g2, 0, none⟩) ((ml17 (sek17 (to - s.p)) s.S).length + 1) rc)
  obtain ⟨e0, e1, e2, e3, e4⟩ := five_cells q
  have f4 := five_free (i := 4) q
  have fr := L.fr (r * 3 + 2)
  have hb : r + 1 ≤ 1073741824 := by rw [← L.ln]; omega
  have hvS := L.vs
  have l1 := L.c1
  have l2 := L.c2
  obtain ⟨N, hN⟩ : ∃ N, N = r + 1 := ⟨_, rfl⟩
  rw [← hN] at hvS
  have hw2 : IntKind.i64.wrap ((N : Int) - 1) = (r : Int) := by rw [IntWalk.i64_in _ (by omega)]; omega
  have hw3 : IntKind.i64.wrap (to - s.p) = to - s.p := IntWalk.i64_in _ (by omega)
  have hp1 : (0 : Int) < (N : Int) := by omega
  have hp2 : (r : Int) < (N : Int) := by omega
  have hp3 : (0 : Int) ≤ (r : Int) := by omega
  have hp4 : r < N := by omega
  simp only at *
  generalize (ml17 (sek17 (to - s.p)) s.S).length + 1 = M at *
  subst hvS
  have HW1 : Hid (w.setCell ⟨g, r * 3 + 2, none⟩ (.int .i64 (to - s.p)) = w1) := hw1.symm
  have z1 : w1.heap.size = w.heap.size := by rw [hw1]; simp
  rw [z1] at hr
  rw [hw1] at hr a0 a1 a2 a3 a4
  clear z1
  rw [h0] at l1
  clear h h1 k1 L hN A q hlr hg hw1 hs
  generalize (s.S.getLastD z16).2.2 = u2 at *
  generalize (s.S.getLastD z16).2.1 = u1 at *
  have hbq : (to == s.p) = false := by simp; exact ht
  have hbd : decide (to = s.p) = false := decide_eq_false ht
  go_enter Tryz.func92, Tryz.ntmps92
  go_wp2_with (first
    | (at_builtin; refine wpList_app17 rfl (.tmp 51) (.tmp 53) 46 rfl rfl rfl hr ?_))
  go_end0
  exact HF.out
theorem plead17 (to : Int) (h : Pr17 base bw vS vD vX s w) (hl : s.S.length + 1 ≤ 1073741824) (hto : -1152921504606846976 ≤ to ∧ to ≤ 1152921504606846976) (hpp : -1152921504606846976 ≤ s.p ∧ s.p ≤ 1152921504606846976) :
    Calls Tryz.prog 92 #[.pointer (some ⟨bw, 0, none⟩), .int .i64 to] w (TkQ17 base bw vS vD vX (s.lead to) w) := by
  by_cases hs : s.S = []
  · exact plead17_nil to h hs
  · by_cases h0 : (s.S.getLastD z16).2.1 = 0
    · by_cases ht : to = s.p
      · exact plead17_stay to h hs (by omega) h0 ht
      · exact plead17_far to h hs hl h0 ht hto hpp
    · exact plead17_cpy to h hs hl h0 hto hpp
end Go.Proofs.YtmfpdchfofffeaaGreatDoor
