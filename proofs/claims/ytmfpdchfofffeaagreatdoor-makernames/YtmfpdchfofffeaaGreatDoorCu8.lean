import Derived.Test.YtmfpdchfofffeaaGreatDoorCu7
namespace Go.Proofs.YtmfpdchfofffeaaGreatDoor
open Go.RowKit Go.Shelf
set_option linter.unusedVariables false
structure Cm17 (w : World) (R : Nat → Prop) (bO bw bn n : Nat) (E : Nat → Prop) (vO vS vD vX : Value) (l : List Wp17) (s : Pt17) (V : World) : Prop where
  pr : Pr17 w.heap.size bw vS vD vX s V
  hO : V.heap[bO]? = some (.cells #[vO] 52 (0, 0))
  hn : V.heap[bn]? = some (.cells #[.int .i64 (n : Int)] 3 (0, 0))
  wl : Wl17 w.heap.size vO l V
  ap : ∀ k, Pf17 bw vS vD vX k → k ≠ bO ∧ k ≠ bn ∧ ¬ Lf17 vO l k
  aO : ∀ k, Lf17 vO l k → k ≠ bO ∧ k ≠ bn
  nf : ∀ k, Pf17 bw vS vD vX k ∨ Lf17 vO l k ∨ k = bO → ¬ E k ∧ ¬ R k
  bl : Below w.heap.size w V
  wO : w.heap.size ≤ bO
  on : bO ≠ bn
variable {w : World} {R : Nat → Prop} {bO bw bn n : Nat} {E E' : Nat → Prop} {vO vS vD vX vS' vD' vX' : Value} {l : List Wp17} {s s' : Pt17} {V V' : World}
theorem Cm17.lt (h : Cm17 w R bO bw bn n E vO vS vD vX l s V) : ∀ k, Pf17 bw vS vD vX k ∨ Lf17 vO l k ∨ k = bO ∨ k = bn → k < V.heap.size := by
  rintro k (x | x | x | x)
  · exact (h.pr.lt k x).2
  · exact (h.wl.lt k x).2
  · rw [x]; exact (Array.getElem?_eq_some_iff.1 h.hO).1
  · rw [x]; exact (Array.getElem?_eq_some_iff.1 h.hn).1
theorem Cm17.kp (h : Cm17 w R bO bw bn n E vO vS vD vX l s V) {K : Nat → Prop} (hk : Kp K V V') (hK : ∀ k, K k → w.heap.size ≤ k ∧ k ≠ bO ∧ k ≠ bn ∧ ¬ Pf17 bw vS vD vX k ∧ ¬ Lf17 vO l k) (hE : ∀ k, E' k → E k ∨ V.heap.size ≤ k) : Cm17 w R bO bw bn n E' vO vS vD vX l s V' :=
  ⟨h.pr.kp hk (fun k x y => (hK k y).2.2.2.1 x), hk.heap h.hO (fun x => (hK _ x).2.1 rfl), hk.heap h.hn (fun x => (hK _ x).2.2.1 rfl), h.wl.kp hk (fun k x y => (hK k y).2.2.2.2 x), h.ap, h.aO, fun k x => by
    obtain ⟨y1, y2⟩ := h.nf k x
    refine ⟨fun z => ?_, y2⟩
    rcases hE k z with q | q
    · exact y1 q
    · have : k < V.heap.size := h.lt k (by rcases x with x | x | x; exact .inl x; exact .inr (.inl x); exact .inr (.inr (.inl x)))
      omega, h.bl.trans (hk.below (fun k x => (hK k x).1) h.bl.size), h.wO, h.on⟩
theorem Cm17.below (h : Cm17 w R bO bw bn n E vO vS vD vX l s V) (hb : Below V.heap.size V V') : Cm17 w R bO bw bn n E vO vS vD vX l s V' :=
  h.kp (K := fun _ => False) (Kp.of_below hb) (fun k x => x.elim) (fun k x => .inl x)
/-- A byte is taken. -/
theorem Cm17.more (h : Cm17 w R bO bw bn n E vO vS vD vX l s V) (h9 : Pr17 w.heap.size bw vS' vD' vX' s' V') (k9 : Kp (Pf17 bw vS vD vX) V V') (f9 : ∀ k, Pf17 bw vS' vD' vX' k → Pf17 bw vS vD vX k ∨ V.heap.size ≤ k) (hRl : ∀ k, R k → k < V.heap.size) (hEl : ∀ k, E k → k < V.heap.size) : Cm17 w R bO bw bn n E vO vS' vD' vX' l s' V' := by
  have hlt := h.lt
  refine ⟨h9, k9.heap h.hO (fun x => (h.ap _ x).1 rfl), k9.heap h.hn (fun x => (h.ap _ x).2.1 rfl), h.wl.kp k9 (fun k x y => (h.ap k y).2.2 x), ?_, h.aO, ?_, h.bl.trans (k9.below (fun k x => (h.pr.lt k x).1) h.bl.size), h.wO, h.on⟩
  · intro k x
    rcases f9 k x with y | y
    · exact h.ap k y
    · refine ⟨fun e => ?_, fun e => ?_, fun e => ?_⟩
      · have := hlt bO (.inr (.inr (.inl rfl))); omega
      · have := hlt bn (.inr (.inr (.inr rfl))); omega
      · have := hlt k (.inr (.inl e)); omega
  · rintro k (x | x)
    · rcases f9 k x with y | y
      · exact h.nf k (.inl y)
      · exact ⟨fun e => by have := hEl k e; omega, fun e => by have := hRl k e; omega⟩
    · exact h.nf k (.inr x)
theorem own_sl17' {w : World} {base n sz : Nat} {e : TypeId} {v : Value} {xs : List Value} (h : w.ownsRow base e sz v n xs) : ∃ p n k, v = .slice p n k := by
  obtain ⟨p, c, e⟩ := own_sl17 h
  exact ⟨p, n, c, e⟩
/-- A window is laid down. -/
structure Cp17 (w : World) (R : Nat → Prop) (bO bw bn n : Nat) (E : Nat → Prop) (vO vS vD vX : Value) (l : List Wp17) (s : Pt17) (V : World) (g rc : Nat) (w' : World) : Prop where
  hr : (Builtin.append_ #[52, 52] 52 #[vO, .slice (some ⟨V.heap.size, 0, none⟩) 1 1]).run Tryz.prog (V.alloc (.cells #[.int .i64 s.pos, vS, vD, vX] 87)) = .ok (.slice (some ⟨g, 0, none⟩) (l.length + 1) rc) w'
  hO : w'.heap[bO]? = some (.cells #[vO] 52 (0, 0))
  hp : (w'.setCell ⟨bO, 0, none⟩ (.slice (some ⟨g, 0, none⟩) (l.length + 1) rc)).heap[bw]? = some (.cells #[.int .i64 s.pos, vS, vD, vX, .int .i64 s.p] 116 (0, 0))
  wl : Wl17 w.heap.size (.slice (some ⟨g, 0, none⟩) (l.length + 1) rc) (l ++ [((vS, vD, vX), s)]) (w'.setCell ⟨bO, 0, none⟩ (.slice (some ⟨g, 0, none⟩) (l.length + 1) rc))
  bl : Below w.heap.size w (w'.setCell ⟨bO, 0, none⟩ (.slice (some ⟨g, 0, none⟩) (l.length + 1) rc))
  cm : ∀ F, Kp (fun k => k = bw) (w'.setCell ⟨bO, 0, none⟩ (.slice (some ⟨g, 0, none⟩) (l.length + 1) rc)) F → F.heap[bw]? = some (.cells #[.int .i64 0, .slice none 0 0, .slice none 0 0, .slice none 0 0, .int .i64 0] 116 (0, 0)) → Cm17 w R bO bw bn n E (.slice (some ⟨g, 0, none⟩) (l.length + 1) rc) (.slice none 0 0) (.slice none 0 0) (.slice none 0 0) (l ++ [((vS, vD, vX), s)]) z17 F ∧ Kr16 (fun k => E k ∨ R k) V F
theorem Cm17.push (h : Cm17 w R bO bw bn n E vO vS vD vX l s V) (hl : l.length + 1 ≤ 1099511627776) (hRl : ∀ k, R k → k < V.heap.size) (hEl : ∀ k, E k → k < V.heap.size) : ∃ g rc w', Cp17 w R bO bw bn n E vO vS vD vX l s V g rc w' := by
  have hlt := h.lt
  have hwO := h.wO
  obtain ⟨g, rc, w', hr, ow, k1, at1⟩ := appw17 V s.pos vS vD vX (own_sl17' h.pr.oS) (own_sl17' h.pr.oD) (own_sl17' h.pr.oX) h.wl.own hl h.bl.size
  have hO' := k1.heap h.hO (fun e => (h.aO bO (.inl e)).1 rfl)
  have kS : Kp (fun k => k = bO) w' (w'.setCell ⟨bO, 0, none⟩ (.slice (some ⟨g, 0, none⟩) (l.length + 1) rc)) := Kp.set (S := fun k => k = bO) rfl _
  obtain ⟨F0, hF0⟩ : ∃ F0, F0 = w'.setCell ⟨bO, 0, none⟩ (.slice (some ⟨g, 0, none⟩) (l.length + 1) rc) := ⟨_, rfl⟩
  have hO0 := one_set16 hO' (.slice (some ⟨g, 0, none⟩) (l.length + 1) rc)
  rw [← hF0] at kS hO0
  have kT : Kp (fun k => vO.ownBlock = some k ∨ k = bO) V F0 := (k1.mono (fun k _ x => .inl x)).trans kS (fun k _ x => .inr x)
  have hpF : F0.heap[bw]? = some (.cells #[.int .i64 s.pos, vS, vD, vX, .int .i64 s.p] 116 (0, 0)) := kT.heap h.pr.hp (fun x => by
    rcases x with x | x
    · exact (h.ap bw (.inl rfl)).2.2 (.inl x)
    · exact (h.ap bw (.inl rfl)).1 x)
  have hgn : ∀ k, (Pf17 bw vS vD vX k ∨ k = bO ∨ k = bn ∨ (∃ p ∈ l, Ft17 p.1 k) ∨ E k ∨ R k) → k ≠ g := by
    intro k x e
    subst e
    rcases at1 with y | y
    · rcases x with x | x | x | ⟨p, hp, x⟩ | x | x
      · exact (h.ap k x).2.2 (.inl y)
      · exact (h.aO k (.inl y)).1 x
      · exact (h.aO k (.inl y)).2 x
      · exact h.wl.apO p hp k x y
      · exact (h.nf k (.inr (.inl (.inl y)))).1 x
      · exact (h.nf k (.inr (.inl (.inl y)))).2 x
    · rcases x with x | x | x | ⟨p, hp, x⟩ | x | x
      · have := hlt k (.inl x); omega
      · have := hlt k (.inr (.inr (.inl x))); omega
      · have := hlt k (.inr (.inr (.inr x))); omega
      · have := hlt k (.inr (.inl (.inr ⟨p, hp, x⟩))); omega
      · have := hEl k x; omega
      · have := hRl k x; omega
  have gb : w.heap.size ≤ g := by
    rcases at1 with y | y
    · exact (h.wl.lt g (.inl y)).1
    · exact Nat.le_trans h.bl.size y
  have wnew : Wn17 w.heap.size (vS, vD, vX) s F0 := h.pr.win.kp kT (fun k x y => by
    have x' : Pf17 bw vS vD vX k := .inr x
    rcases y with y | y
    · exact (h.ap k x').2.2 (.inl y)
    · exact (h.ap k x').1 y)
  have hWl : Wl17 w.heap.size (.slice (some ⟨g, 0, none⟩) (l.length + 1) rc) (l ++ [((vS, vD, vX), s)]) F0 := by
    refine ⟨?_, ?_, ?_, ?_⟩
    · rw [fw17_app, show (l ++ [((vS, vD, vX), s)]).length = l.length + 1 by simp]
      exact own_kp16 ow kS (fun x e y => by
        have e : some g = some x := e
        injection e with e
        exact hgn bO (.inr (.inl rfl)) (by have y : x = bO := y; omega))
    · intro p hp
      rcases List.mem_append.1 hp with hp | hp
      · exact (h.wl.win p hp).kp kT (fun k x y => by
          rcases y with y | y
          · exact h.wl.apO p hp k x y
          · exact (h.aO k (.inr ⟨p, hp, x⟩)).1 y)
      · rw [List.mem_singleton] at hp
        subst hp
        exact wnew
    · intro p hp k x e
      have e : some g = some k := e
      injection e with e
      rcases List.mem_append.1 hp with hp | hp
      · exact hgn k (.inr (.inr (.inr (.inl ⟨p, hp, x⟩)))) e.symm
      · rw [List.mem_singleton] at hp
        subst hp
        exact hgn k (.inl (.inr x)) e.symm
    · rw [List.pairwise_append]
      refine ⟨h.wl.ap, List.pairwise_singleton _ _, ?_⟩
      intro p hp q hq k x y
      rw [List.mem_singleton] at hq
      subst hq
      exact (h.ap k (.inr y)).2.2 (.inr ⟨p, hp, x⟩)
  have blF : Below w.heap.size w F0 := h.bl.trans (kT.below (fun k x => by
    rcases x with x | x
    · exact (h.wl.lt k (.inl x)).1
    · omega) h.bl.size)
  refine ⟨g, rc, w', hr, hO', by rw [← hF0]; exact hpF, by rw [← hF0]; exact hWl, by rw [← hF0]; exact blF, ?_⟩
  rw [← hF0]
  intro F hF hbF
  have hne : bw ≠ bO := (h.ap bw (.inl rfl)).1
  have hnn : bw ≠ bn := (h.ap bw (.inl rfl)).2.1
  have lf : ∀ k, Lf17 (.slice (some ⟨g, 0, none⟩) (l.length + 1) rc) (l ++ [((vS, vD, vX), s)]) k → k = g ∨ (∃ p ∈ l, Ft17 p.1 k) ∨ Ft17 (vS, vD, vX) k := by
    rintro k (x | ⟨p, hp, x⟩)
    · have x : some g = some k := x
      injection x with x
      exact .inl x.symm
    · rcases List.mem_append.1 hp with hp | hp
      · exact .inr (.inl ⟨p, hp, x⟩)
      · rw [List.mem_singleton] at hp
        subst hp
        exact .inr (.inr x)
  have nbw : ∀ k, Lf17 (.slice (some ⟨g, 0, none⟩) (l.length + 1) rc) (l ++ [((vS, vD, vX), s)]) k → k ≠ bw := by
    intro k x e
    subst e
    rcases lf k x with y | ⟨p, hp, y⟩ | y
    · exact hgn k (.inl (.inl rfl)) y
    · exact (h.ap k (.inl rfl)).2.2 (.inr ⟨p, hp, y⟩)
    · rcases y with y | y | y
      · exact h.pr.nS y
      · exact h.pr.nD y
      · exact h.pr.nX y
  have pf0 : ∀ k, Pf17 bw (.slice none 0 0) (.slice none 0 0) (.slice none 0 0) k → k = bw := by
    rintro k (x | x | x | x)
    · exact x
    · simp [Value.ownBlock] at x
    · simp [Value.ownBlock] at x
    · simp [Value.ownBlock] at x
  have own0 : ∀ {sz : Nat} {e : TypeId}, F.ownsRow w.heap.size e sz (.slice none 0 0) 0 [] := ⟨by simp, .inl ⟨rfl, rfl⟩⟩
  refine ⟨⟨⟨hbF, own0, own0, own0, by simp [Value.ownBlock], by simp [Value.ownBlock], by simp [Value.ownBlock], by simp [Value.ownBlock], by simp [Value.ownBlock], by simp [Value.ownBlock], h.pr.bb⟩, hF.heap hO0 (fun e => hne e.symm), hF.heap (kT.heap h.hn (fun x => by
      rcases x with x | x
      · exact (h.aO bn (.inl x)).2 rfl
      · exact h.on x.symm)) (fun e => hnn e.symm), hWl.kp hF (fun k x y => nbw k x y), ?_, ?_, ?_, blF.trans (hF.below (fun k x => by have x : k = bw := x; rw [x]; exact h.pr.bb) blF.size), h.wO, h.on⟩, ?_⟩
  · intro k x
    have := pf0 k x
    subst this
    exact ⟨hne, hnn, fun y => nbw k y rfl⟩
  · intro k x
    rcases lf k x with y | ⟨p, hp, y⟩ | y
    · exact ⟨fun e => hgn bO (.inr (.inl rfl)) (by omega), fun e => hgn bn (.inr (.inr (.inl rfl))) (by omega)⟩
    · exact h.aO k (.inr ⟨p, hp, y⟩)
    · exact ⟨(h.ap k (.inr y)).1, (h.ap k (.inr y)).2.1⟩
  · rintro k (x | x | x)
    · have := pf0 k x
      subst this
      exact h.nf k (.inl (.inl rfl))
    · rcases lf k x with y | ⟨p, hp, y⟩ | y
      · exact ⟨fun e => hgn k (.inr (.inr (.inr (.inr (.inl e))))) y, fun e => hgn k (.inr (.inr (.inr (.inr (.inr e))))) y⟩
      · exact h.nf k (.inr (.inl (.inr ⟨p, hp, y⟩)))
      · exact h.nf k (.inl (.inr y))
    · exact h.nf k (.inr (.inr x))
  · have kTF : Kp (fun k => vO.ownBlock = some k ∨ k = bO ∨ k = bw) V F := (kT.mono (fun k _ x => by rcases x with x | x; exact .inl x; exact .inr (.inl x))).trans hF (fun k _ x => .inr (.inr x))
    refine Kr16.of_kp kTF ?_
    rintro k (x | x) (y | y | y)
    · exact (h.nf k (.inr (.inl (.inl y)))).1 x
    · exact (h.nf k (.inr (.inr y))).1 x
    · exact (h.nf k (.inl (.inl y))).1 x
    · exact (h.nf k (.inr (.inl (.inl y)))).2 x
    · exact (h.nf k (.inr (.inr y))).2 x
    · exact (h.nf k (.inl (.inl y))).2 x
/-- Between two rounds. -/
structure Ci17 (w : World) (R : Nat → Prop) (bO bw bn n : Nat) (L : List Wy17) (i : Nat) (E : Nat → Prop) (vO vS vD vX : Value) (l : List Wp17) (s : Pt17) (V : World) : Prop where
  st : cf17 n (L.take i) = (l.map (·.2), s)
  bd : Bd17 s
  ln : s.len < n
  ll : l.length ≤ i
  m : Cm17 w R bO bw bn n E vO vS vD vX l s V
end Go.Proofs.YtmfpdchfofffeaaGreatDoor
