import Derived.Test.YtmfpdchfofffeaaGreatDoorPr
namespace Go.Proofs.YtmfpdchfofffeaaGreatDoor
open Go.RowKit Go.Shelf
set_option linter.unusedVariables false
structure Cm17 (w : World) (R : Nat → Prop) (bO bw bn n : Nat) (E : Nat → Prop) (vO vS vD vX : Value) (l : List Wp17) (s : Pt17) (V : World) : Prop where
  pr : Pr17 w.heap.size bw vS vD vX s V
  hO : V.heap[bO]? = some (.cells #[vO] 52 (0, 0))
  hn : V.heap[bn]? = some (.cells #[.int .i64 (n : Int)] 3 (0, 0))
  wl : Wl17 w.heap.size vO l V
  ap : ∀ k, Pf17 bw vS vD vX k → k ≠ bO ∧ k ≠ bn ∧ ¬ Lf17 vO l k
  aO : ∀ k, Lf17 vO l k → k ≠ bO ∧ k ≠ bn
  nf : ∀ k, Pf17 bw vS vD vX k ∨ Lf17 vO l k ∨ k = bO → ¬ E k ∧ ¬ R k
  bl : Below w.heap.size w V
  wO : w.heap.size ≤ bO
  on : bO ≠ bn
variable {w : World} {R : Nat → Prop} {bO bw bn n : Nat} {E E' : Nat → Prop} {vO vS vD vX vS' vD' vX' : Value} {l : List Wp17} {s s' : Pt17} {V V' : World}
theorem Cm17.lt (h : Cm17 w R bO bw bn n E vO vS vD vX l s V) : ∀ k, Pf17 bw vS vD vX k ∨ Lf17 vO l k ∨ k = bO ∨ k = bn → k < V.heap.size := by
  rintro k (x | x | x | x)
  · exact (h.pr.lt k x).2
  · exact (h.wl.lt k x).2
  · rw [x]; exact (Array.getElem?_eq_some_iff.1 h.hO).1
  · rw [x]; exact (Array.getElem?_eq_some_iff.1 h.hn).1
theorem Cm17.kp (h : Cm17 w R bO bw bn n E vO vS vD vX l s V) {K : Nat → Prop} (hk : Kp K V V') (hK : ∀ k, K k → w.heap.size ≤ k ∧ k ≠ bO ∧ k ≠ bn ∧ ¬ Pf17 bw vS vD vX k ∧ ¬ Lf17 vO l k) (hE : ∀ k, E' k → E k ∨ V.heap.size ≤ k) : Cm17 w R bO bw bn n E' vO vS vD vX l s V' :=
  ⟨h.pr.kp hk (fun k x y => (hK k y).2.2.2.1 x), hk.heap h.hO (fun x => (hK _ x).2.1 rfl), hk.heap h.hn (fun x => (hK _ x).2.2.1 rfl), h.wl.kp hk (fun k x y => (hK k y).2.2.2.2 x), h.ap, h.aO, fun k x => by
    obtain ⟨y1, y2⟩ := h.nf k x
    refine ⟨fun z => ?_, y2⟩
    rcases hE k z with q | q
    · exact y1 q
    · have : k < V.heap.size := h.lt k (by rcases x with x | x | x; exact .inl x; exact .inr (.inl x); exact .inr (.inr (.inl x)))
      omega, h.bl.trans (hk.below (fun k x => (hK k x).1) h.bl.size), h.wO, h.on⟩
theorem Cm17.below (h : Cm17 w R bO bw bn n E vO vS vD vX l s V) (hb : Below V.heap.size V V') : Cm17 w R bO bw bn n E vO vS vD vX l s V' :=
  h.kp (K := fun _ => False) (Kp.of_below hb) (fun k x => x.elim) (fun k x => .inl x)
/-- A byte is taken. -/
theorem Cm17.more (h : Cm17 w R bO bw bn n E vO vS vD vX l s V) (h9 : Pr17 w.heap.size bw vS' vD' vX' s' V') (k9 : Kp (Pf17 bw vS vD vX) V V') (f9 : ∀ k, Pf17 bw vS' vD' vX' k → Pf17 bw vS vD vX k ∨ V.heap.size ≤ k) (hRl : ∀ k, R k → k < V.heap.size) (hEl : ∀ k, E k → k < V.heap.size) : Cm17 w R bO bw bn n E vO vS' vD' vX' l s' V' := by
  have hlt := h.lt
  refine ⟨h9, k9.heap h.hO (fun x => (h.ap _ x).1 rfl), k9.heap h.hn (fun x => (h.ap _ x).2.1 rfl), h.wl.kp k9 (fun k x y => (h.ap k y).2.2 x), ?_, h.aO, ?_, h.bl.trans (k9.below (fun k x => (h.pr.lt k x).1) h.bl.size), h.wO, h.on⟩
  · intro k x
    rcases f9 k x with y | y
    · exact h.ap k y
    · refine ⟨fun e => ?_, fun e => ?_, fun e => ?_⟩
      · have := hlt bO (.inr (.inr (.inl rfl))); omega
      · have := hlt bn (.inr (.inr (.inr rfl))); omega
      · have := hlt k (.inr (.inl e)); omega
  · rintro k (x | x)
    · rcases f9 k x with y | y
      · exact h.nf k (.inl y)
      · exact ⟨fun e => by have := hEl k e; omega, fun e => by have := hRl k e; omega⟩
    · exact h.nf k (.inr x)
theorem own_sl17' {w : World} {base n sz : Nat} {e : TypeId} {v : Value} {xs : List Value} (h : w.ownsRow base e sz v n xs) : ∃ p n k, v = .slice p n k := by
  obtain ⟨p, c, e⟩ := own_sl17 h
  exact ⟨p, n, c, e⟩
/-- A window is laid down. -/
structure Cp17 (w : World) (R : Nat → Prop) (bO bw bn n : Nat) (E : Nat → Prop) (vO vS vD vX : Value) (l : List Wp17) (s : Pt17) (V : World) (g rc : Nat) (w' : World) : Prop where
  hr : (Builtin.append_ #[52, 52] 52 #[vO, .slice (some ⟨V.heap.size, 0, none⟩) 1 1]).run Tryz.prog (V.alloc (.cells #[.int .i64 s.pos, vS, vD, vX] 87)) = .ok (.slice (some ⟨g, 0, none⟩) (l.length + 1) rc) w'
  hO : w'.heap[bO]? = some (.cells #[vO] 52 (0, 0))
  hp : (w'.setCell ⟨bO, 0, none⟩ (.slice (some ⟨g, 0, none⟩) (l.length + 1) rc)).heap[bw]? = some (.cells #[.int .i64 s.pos, vS, vD, vX, .int .i64 s.p] 116 (0, 0))
  wl : Wl17 w.heap.size (.slice (some ⟨g, 0, none⟩) (l.length + 1) rc) (l ++ [((vS, vD, vX), s)]) (w'.setCell ⟨bO, 0, none⟩ (.slice (some ⟨g, 0, none⟩) (l.length + 1) rc))
  bl : Below w.heap.size w (w'.setCell ⟨bO, 0, none⟩ (.slice (some ⟨g, 0, none⟩) (l.length + 1) rc))
  cm : ∀ F, Kp (fun k => k = bw) (w'.setCell ⟨bO, 0, none⟩ (.slice (some ⟨g, 0, none⟩) (l.length + 1) rc)) F → F.heap[bw]? = some (.cells #[.int .i64 0, .slice none 0 0, .slice none 0 0, .slice none 0 0, .int .i64 0] 116 (0, 0)) → Cm17 w R bO bw bn n E (.slice (some ⟨g, 0, none⟩) (l.length + 1) rc) (.slice none 0 0) (.slice none 0 0) (.slice none 0 0) (l ++ [((vS, vD, vX), s)]) z17 F ∧ Kr16 (fun k => E k ∨ R k) V F
theorem Cm17.push (h : Cm17 w R bO bw bn n E vO vS vD vX l s V) (hl : l.length + 1 ≤ 1099511627776) (hRl : ∀ k, R k → k < V.heap.size) (hEl : ∀ k, E k → k < V.heap.size) : ∃ g rc w', Cp17 w R bO bw bn n E vO vS vD vX l s V g rc w' := by
  have hlt := h.lt
  have hwO := h.wO
  obtain ⟨g, rc, w', hr, ow, k1, at1⟩ := appw17 V s.pos vS vD vX (own_sl17' h.pr.oS) (own_sl17' h.pr.oD) (own_sl17' h.pr.oX) h.wl.own hl h.bl.size
  have hO' := k1.heap h.hO (fun e => (h.aO bO (.inl e)).1 rfl)
  have kS : Kp (fun k => k = bO) w' (w'.setCell ⟨bO, 0, none⟩ (.slice (some ⟨g, 0, none⟩) (l.length + 1) rc)) := Kp.set (S := fun k => k = bO) rfl _
  obtain ⟨F0, hF0⟩ : ∃ F0, F0 = w'.setCell ⟨bO, 0, none⟩ (.slice (some ⟨g, 0, none⟩) (l.length + 1) rc) := ⟨_, rfl⟩
  have hO0 := one_set16 hO' (.slice (some ⟨g, 0, none⟩) (l.length + 1) rc)
  rw [← hF0] at kS hO0
  have kT : Kp (fun k => vO.ownBlock = some k ∨ k = bO) V F0 := (k1.mono (fun k _ x => .inl x)).trans kS (fun k _ x => .inr x)
  have hpF : F0.heap[bw]? = some (.cells #[.int .i64 s.pos, vS, vD, vX, .int .i64 s.p] 116 (0, 0)) := kT.heap h.pr.hp (fun x => by
    rcases x with x | x
    · exact (h.ap bw (.inl rfl)).2.2 (.inl x)
    · exact (h.ap bw (.inl rfl)).1 x)
  have hgn : ∀ k, (Pf17 bw vS vD vX k ∨ k = bO ∨ k = bn ∨ (∃ p ∈ l, Ft17 p.1 k) ∨ E k ∨ R k) → k ≠ g := by
    intro k x e
    subst e
    rcases at1 with y | y
    · rcases x with x | x | x | ⟨p, hp, x⟩ | x | x
      · exact (h.ap k x).2.2 (.inl y)
      · exact (h.aO k (.inl y)).1 x
      · exact (h.aO k (.inl y)).2 x
      · exact h.wl.apO p hp k x y
      · exact (h.nf k (.inr (.inl (.inl y)))).1 x
      · exact (h.nf k (.inr (.inl (.inl y)))).2 x
    · rcases x with x | x | x | ⟨p, hp, x⟩ | x | x
      · have := hlt k (.inl x); omega
      · have := hlt k (.inr (.inr (.inl x))); omega
      · have := hlt k (.inr (.inr (.inr x))); omega
      · have := hlt k (.inr (.inl (.inr ⟨p, hp, x⟩))); omega
      · have := hEl k x; omega
      · have := hRl k x; omega
  have gb : w.heap.size ≤ g := by
    rcases at1 with y | y
    · exact (h.wl.lt g (.inl y)).1
    · exact Nat.le_trans h.bl.size y
  have wnew : Wn17 w.heap.size (vS, vD, vX) s F0 := h.pr.win.kp kT (fun k x y => by
    have x' : Pf17 bw vS vD vX k := .inr x
    rcases y with y | y
    · exact (h.ap k x').2.2 (.inl y)
    · exact (h.ap k x').1 y)
  have hWl : Wl17 w.heap.size (.slice (some ⟨g, 0, none⟩) (l.length + 1) rc) (l ++ [((vS, vD, vX), s)]) F0 := by
    refine ⟨?_, ?_, ?_, ?_⟩
    · rw [fw17_app, show (l ++ [((vS, vD, vX), s)]).length = l.length + 1 by simp]
      exact own_kp16 ow kS (fun x e y => by
        have e : some g = some x := e
        injection e with e
        exact hgn bO (.inr (.inl rfl)) (by have y : x = bO := y; omega))
    · intro p hp
      rcases List.mem_append.1 hp with hp | hp
      · exact (h.wl.win p hp).kp kT (fun k x y => by
          rcases y with y | y
          · exact h.wl.apO p hp k x y
          · exact (h.aO k (.inr ⟨p, hp, x⟩)).1 y)
      · rw [List.mem_singleton] at hp
        subst hp
        exact wnew
    · intro p hp k x e
      have e : some g = some k := e
      injection e with e
      rcases List.mem_append.1 hp with hp | hp
      · exact hgn k (.inr (.inr (.inr (.inl ⟨p, hp, x⟩)))) e.symm
      · rw [List.mem_singleton] at hp
        subst hp
        exact hgn k (.inl (.inr x)) e.symm
    · rw [List.pairwise_append]
      refine ⟨h.wl.ap, List.pairwise_singleton _ _, ?_⟩
      intro p hp q hq k x y
      rw [List.mem_singleton] at hq
      subst hq
      exact (h.ap k (.inr y)).2.2 (.inr ⟨p, hp, x⟩)
  have blF : Below w.heap.size w F0 := h.bl.trans (kT.below (fun k x => by
    rcases x with x | x
    · exact (h.wl.lt k (.inl x)).1
    · omega) h.bl.size)
  refine ⟨g, rc, w', hr, hO', by rw [← hF0]; exact hpF, by rw [← hF0]; exact hWl, by rw [← hF0]; exact blF, ?_⟩
  rw [← hF0]
  intro F hF hbF
  have hne : bw ≠ bO := (h.ap bw (.inl rfl)).1
  have hnn : bw ≠ bn := (h.ap bw (.inl rfl)).2.1
  have lf : ∀ k, Lf17 (.slice (some ⟨g, 0, none⟩) (l.length + 1) rc) (l ++ [((vS, vD, vX), s)]) k → k = g ∨ (∃ p ∈ l, Ft17 p.1 k) ∨ Ft17 (vS, vD, vX) k := by
    rintro k (x | ⟨p, hp, x⟩)
    · have x : some g = some k := x
      injection x with x
      exact .inl x.symm
    · rcases List.mem_append.1 hp with hp | hp
      · exact .inr (.inl ⟨p, hp, x⟩)
      · rw [List.mem_singleton] at hp
        subst hp
        exact .inr (.inr x)
  have nbw : ∀ k, Lf17 (.slice (some ⟨g, 0, none⟩) (l.length + 1) rc) (l ++ [((vS, vD, vX), s)]) k → k ≠ bw := by
    intro k x e
    subst e
    rcases lf k x with y | ⟨p, hp, y⟩ | y
    · exact hgn k (.inl (.inl rfl)) y
    · exact (h.ap k (.inl rfl)).2.2 (.inr ⟨p, hp, y⟩)
    · rcases y with y | y | y
      · exact h.pr.nS y
      · exact h.pr.nD y
      · exact h.pr.nX y
  have pf0 : ∀ k, Pf17 bw (.slice none 0 0) (.slice none 0 0) (.slice none 0 0) k → k = bw := by
    rintro k (x | x | x | x)
    · exact x
    · simp [Value.ownBlock] at x
    · simp [Value.ownBlock] at x
    · simp [Value.ownBlock] at x
  have own0 : ∀ {sz : Nat} {e : TypeId}, F.ownsRow w.heap.size e sz (.slice none 0 0) 0 [] := ⟨by simp, .inl ⟨rfl, rfl⟩⟩
  refine ⟨⟨⟨hbF, own0, own0, own0, by simp [Value.ownBlock], by simp [Value.ownBlock], by simp [Value.ownBlock], by simp [Value.ownBlock], by simp [Value.ownBlock], by simp [Value.ownBlock], h.pr.bb⟩, hF.heap hO0 (fun e => hne e.symm), hF.heap (kT.heap h.hn (fun x => by
      rcases x with x | x
      · exact (h.aO bn (.inl x)).2 rfl
      · exact h.on x.symm)) (fun e => hnn e.symm), hWl.kp hF (fun k x y => nbw k x y), ?_, ?_, ?_, blF.trans (hF.below (fun k x => by have x : k = bw := x; rw [x]; exact h.pr.bb) blF.size), h.wO, h.on⟩, ?_⟩
  · intro k x
    have := pf0 k x
    subst this
    exact ⟨hne, hnn, fun y => nbw k y rfl⟩
  · intro k x
    rcases lf k x with y | ⟨p, hp, y⟩ | y
    · exact ⟨fun e => hgn bO (.inr (.inl rfl)) (by omega), fun e => hgn bn (.inr (.inr (.inl rfl))) (by omega)⟩
    · exact h.aO k (.inr ⟨p, hp, y⟩)
    · exact ⟨(h.ap k (.inr y)).1, (h.ap k (.inr y)).2.1⟩
  · rintro k (x | x | x)
    · have := pf0 k x
      subst this
      exact h.nf k (.inl (.inl rfl))
    · rcases lf k x with y | ⟨p, hp, y⟩ | y
      · exact ⟨fun e => hgn k (.inr (.inr (.inr (.inr (.inl e))))) y, fun e => hgn k (.inr (.inr (.inr (.inr (.inr e))))) y⟩
      · exact h.nf k (.inr (.inl (.inr ⟨p, hp, y⟩)))
      · exact h.nf k (.inl (.inr y))
    · exact h.nf k (.inr (.inr x))
  · have kTF : Kp (fun k => vO.ownBlock = some k ∨ k = bO ∨ k = bw) V F := (kT.mono (fun k _ x => by rcases x with x | x; exact .inl x; exact .inr (.inl x))).trans hF (fun k _ x => .inr (.inr x))
    refine Kr16.of_kp kTF ?_
    rintro k (x | x) (y | y | y)
    · exact (h.nf k (.inr (.inl (.inl y)))).1 x
    · exact (h.nf k (.inr (.inr y))).1 x
    · exact (h.nf k (.inl (.inl y))).1 x
    · exact (h.nf k (.inr (.inl (.inl y)))).2 x
    · exact (h.nf k (.inr (.inr y))).2 x
    · exact (h.nf k (.inl (.inl y))).2 x
/-- Between two rounds. -/
structure Ci17 (w : World) (R : Nat → Prop) (bO bw bn n : Nat) (L : List Wy17) (i : Nat) (E : Nat → Prop) (vO vS vD vX : Value) (l : List Wp17) (s : Pt17) (V : World) : Prop where
  st : cf17 n (L.take i) = (l.map (·.2), s)
  bd : Bd17 s
  ln : s.len < n
  ll : l.length ≤ i
  m : Cm17 w R bO bw bn n E vO vS vD vX l s V
end Go.Proofs.YtmfpdchfofffeaaGreatDoor

namespace Go.Proofs.YtmfpdchfofffeaaGreatDoor
open Go.RowKit Go.Shelf
set_option linter.unusedVariables false
attribute [local go_sem] Oper.semAt_some
/-- Up to edit.Check's answer. -/
structure Ch17 (w : World) (sa : Option Addr) (n sc : Nat) (da : Option Addr) (m dc : Nat) (xa : Option Addr) (k xc : Nat) (win : Int) (w2 : World) : Prop where
  bl : Below w.heap.size w w2
  qe : w2.heap[w.heap.size]? = some (.cells #[.slice sa n sc, .slice da m dc, .slice xa k xc] 48 (0, 0))
  qw : w2.heap[w.heap.size + 1]? = some (.cells #[.int .i64 win] 3 (0, 0))
theorem Ch17.next {w : World} {sa : Option Addr} {n sc : Nat} {da : Option Addr} {m dc : Nat} {xa : Option Addr} {k xc : Nat} {win : Int} {w2 w3 : World} (h : Ch17 w sa n sc da m dc xa k xc win w2) (hb : Below w2.heap.size w2 w3) : Ch17 w sa n sc da m dc xa k xc win w3 :=
  ⟨h.bl.trans (hb.mono h.bl.size), (hb.block _ (Array.getElem?_eq_some_iff.1 h.qe).1).trans h.qe, (hb.block _ (Array.getElem?_eq_some_iff.1 h.qw).1).trans h.qw⟩
end Go.Proofs.YtmfpdchfofffeaaGreatDoor

namespace Go.Proofs.YtmfpdchfofffeaaGreatDoor
open Go.RowKit Go.Shelf
set_option linter.unusedVariables false
attribute [local go_sem] Oper.semAt_some
def CtQ17 (w : World) (N : Nat) (L : List Wy17) (e : Ending) (w' : World) : Prop :=
  ∃ vO l, e = .returned (.tuple #[vO, .int .i64 0]) ∧ l.map (·.2) = cw17 N L ∧ Wl17 w.heap.size vO l w' ∧ Below w.heap.size w w'
theorem pv17_of {V : World} {R : Nat → Prop} {S : List St16} {da : Option Addr} {dc : Nat} {xa : Option Addr} {xc : Nat} {p0 : Int} {n m k : Nat} {D X : List Int} (hd : Seg V da D) (hx : Seg V xa X) (hm : D.length = m) (hk : X.length = k) (hok : Ok16 S n) (hn : n ≤ 1073741824) (hlm : m ≤ 1073741824) (hlk : k ≤ 1073741824) (hsa : sa16 S n = m) (hsc : sc16 S n = k) (hdc : m ≤ dc) (hxc : k ≤ xc) (hp0 : 0 ≤ p0 ∧ p0 ≤ 16777216)
    (hRd : ∀ b off, da = some ⟨b, off, none⟩ → 0 < D.length → R b) (hRx : ∀ b off, xa = some ⟨b, off, none⟩ → 0 < X.length → R b) : ∀ (i : Nat) v p, (pL17 S da dc xa xc p0 n)[i]? = some v → (pi17 S D X p0 n)[i]? = some p → Pv17 V R v p := by
  intro i v p hv hp
  have hi : i < 2 * n := by
    have := (List.getElem?_eq_some_iff.1 hv).1
    rwa [pL17_len] at this
  obtain ⟨j, hj⟩ : ∃ j, i = 2 * j ∨ i = 2 * j + 1 := ⟨i / 2, by omega⟩
  have hjn : j < n := by omega
  have m1 := sm17_mono (ad16 S) (i := j + 1) n (by omega)
  have m2 := sm17_mono (cp16 S) (i := j + 1) n (by omega)
  simp only [sm17] at m1 m2
  rw [sm17_a, sm17_a, hsa] at m1
  rw [sm17_c, sm17_c, hsc] at m2
  obtain ⟨t1, t2, t3⟩ := ra17_seg (f := ad16 S) hd (by rw [hm]; exact hdc) j (by rw [sm17_a, hm]; omega)
  obtain ⟨u1, u2, u3⟩ := ra17_seg (f := cp16 S) hx (by rw [hk]; exact hxc) j (by rw [sm17_c, hk]; omega)
  rw [sm17_a] at t1 t2 t3
  rw [sm17_c] at u1 u2 u3
  have hpl := sa16_le j (hok.mono (Nat.le_of_lt hjn))
  rcases hj with rfl | rfl
  · rw [pL17_a hjn] at hv
    rw [pi17_get hi, pc17_a] at hp
    obtain rfl := Option.some.inj hv
    obtain rfl := Option.some.inj hp
    have hl : ((D.drop (sa16 S j)).take (ad16 S j)).length = ad16 S j := by rw [List.length_take, List.length_drop, hm]; omega
    refine ⟨⟨_, _, by rw [hl], t1.take _, fun b off e hl2 => ?_⟩, by simp only; omega, by rw [hl]; omega⟩
    rw [hl] at hl2
    obtain ⟨o, ho⟩ := t3 b off e (by rw [List.length_drop, hm]; omega)
    exact hRd b o ho (by omega)
  · rw [pL17_c hjn] at hv
    rw [pi17_get hi, pc17_c] at hp
    obtain rfl := Option.some.inj hv
    obtain rfl := Option.some.inj hp
    have hl : ((X.drop (sc16 S j)).take (cp16 S j)).length = cp16 S j := by rw [List.length_take, List.length_drop, hk]; omega
    refine ⟨⟨_, _, by rw [hl], u1.take _, fun b off e hl2 => ?_⟩, by simp only; omega, by rw [hl]; omega⟩
    rw [hl] at hl2
    obtain ⟨o, ho⟩ := u3 b off e (by rw [List.length_drop, hk]; omega)
    exact hRx b o ho (by omega)
/-- The ways' places lie within bounds. -/
theorem ws17_bd {S : List St16} {D X : List Int} {p0 : Int} {n : Nat} (hok : Ok16 S n) (hn : n ≤ 1073741824) (hD : D.length ≤ 1073741824) (hX : X.length ≤ 1073741824) (hp0 : 0 ≤ p0 ∧ p0 ≤ 16777216) : ∀ o ∈ ws17 (pi17 S D X p0 n), -576460752303423488 ≤ o.1 ∧ o.1 ≤ 576460752303423488 := by
  intro o ho
  unfold ws17 at ho
  rw [List.mem_flatMap] at ho
  obtain ⟨p, hp, ho⟩ := ho
  obtain ⟨i, hi, rfl⟩ := List.getElem_of_mem hp
  rw [pi17_len] at hi
  have hp2 : (pi17 S D X p0 n)[i]? = some (pc17 S D X p0 i) := pi17_get hi
  rw [List.getElem?_eq_getElem (by rw [pi17_len]; exact hi)] at hp2
  rw [Option.some.inj hp2] at ho
  unfold wy17 at ho
  rw [List.mem_map] at ho
  obtain ⟨j, hj, rfl⟩ := ho
  rw [List.mem_range] at hj
  simp only
  obtain ⟨q, hq⟩ : ∃ q, i = 2 * q ∨ i = 2 * q + 1 := ⟨i / 2, by omega⟩
  have hqn : q < n := by omega
  have hpl := sa16_le q (hok.mono (Nat.le_of_lt hqn))
  rcases hq with rfl | rfl
  · rw [pc17_a] at hj ⊢
    simp only at hj ⊢
    rw [List.length_take, List.length_drop] at hj
    omega
  · rw [pc17_c] at hj ⊢
    simp only at hj ⊢
    rw [List.length_take, List.length_drop] at hj
    omega
theorem ws17_len {S : List St16} {D X : List Int} {p0 : Int} {n m k : Nat} (hsa : sa16 S n = m) (hsc : sc16 S n = k) (hm : D.length = m) (hk : X.length = k) : (ws17 (pi17 S D X p0 n)).length = m + k := by
  have key : ∀ j, j ≤ n → of17 (pi17 S D X p0 n) (2 * j) = sa16 S j + sc16 S j := by
    intro j
    induction j with
    | zero => intro _; exact of17_zero _
    | succ j ih =>
      intro hj
      have ih := ih (by omega)
      have m1 := sa16_mono (S := S) (i := j + 1) n hj
      simp only [sa16, sc16] at m1
      have g1 : (pi17 S D X p0 n)[2 * j]? = some (pc17 S D X p0 (2 * j)) := pi17_get (by omega)
      have g2 : (pi17 S D X p0 n)[2 * j + 1]? = some (pc17 S D X p0 (2 * j + 1)) := pi17_get (by omega)
      have e1 := of17_succ g1
      have e2 := of17_succ g2
      rw [pc17_a] at e1
      rw [pc17_c] at e2
      simp only [List.length_take, List.length_drop] at e1 e2
      rw [show 2 * (j + 1) = 2 * j + 1 + 1 by omega, e2, e1, ih]
      simp only [sa16, sc16]
      omega
  have := key n (Nat.le_refl _)
  rw [← of17_all, pi17_len, this, hsa, hsc]
set_option maxRecDepth 100000 in
set_option maxHeartbeats 8000000 in
theorem pcut17 (N : Nat) {sa : Option Addr} {n sc : Nat} {da : Option Addr} {m dc : Nat} {xa : Option Addr} {k xc : Nat} {S : List St16} {D X : List Int} (w : World) (h : Ed16 w sa n S da m D xa k X) (hw : 64 ≤ N ∧ N ≤ 65536) (he : ck16 16777216 ((m + k : Nat) : Int) S m k = 0) (hdc : m ≤ dc) (hxc : k ≤ xc) :
    Calls Tryz.prog 36 #[ev16 sa n sc da m dc xa k xc, .int .i64 (N : Int)] w (CtQ17 w N (ws17 (pi17 S D X 0 n))) := by
  have hit : it16 S m k = 0 := by
    unfold ck16 at he
    split at he
    · cases he
    · split at he
      · rename_i h1; exact absurd he h1
      · rename_i h1; simpa using h1
  obtain ⟨hok, hsa, hsc, hmk⟩ := it16_zero hit
  rw [h.hn] at hok hsa hsc
  have hb := two_boxes16 w #[.slice sa n sc, .slice da m dc, .slice xa k xc] 48 #[.int .i64 (N : Int)] 3
  obtain ⟨w2, hw2⟩ : ∃ w2, w2 = (w.alloc (.cells #[.slice sa n sc, .slice da m dc, .slice xa k xc] 48)).alloc (.cells #[.int .i64 (N : Int)] 3) := ⟨_, rfl⟩
  have hc : Ch17 w sa n sc da m dc xa k xc (N : Int) w2 := by rw [hw2]; exact ⟨hb.1, hb.2.2.1, hb.2.2.2⟩
  have C1 := pisw17 (N : Int) ((w.alloc (.cells #[.slice sa n sc, .slice da m dc, .slice xa k xc] 48)).alloc (.cells #[.int .i64 (N : Int)] 3))
  rw [decide_eq_true (by omega)] at C1
  have c1 := one_cell16 hb.2.2.2
  have hlm := h.lm
  have hlk := h.lk
  have HC : Hid (Ch17 w sa n sc da m dc xa k xc (N : Int) w2) := hc
  have HCL : Hid (∀ W, Calls Tryz.prog 58 #[ev16 sa n sc da m dc xa k xc] W fun e w' => e = .returned (.int .i64 ((m + k : Nat) : Int)) ∧ Below W.heap.size W w') := fun W => plen17 sa n sc da m dc xa k xc (by omega) (by omega) W
  have HCC : Hid (∀ W, Below w.heap.size w W → Calls Tryz.prog 57 #[ev16 sa n sc da m dc xa k xc, .int .i64 16777216, .int .i64 ((m + k : Nat) : Int)] W fun e w' => e = .returned (.int .i64 0) ∧ Below W.heap.size W w') := fun W hW => by have := pchk16 (sc := sc) (dc := dc) (xc := xc) 16777216 ((m + k : Nat) : Int) (h.old hW); rw [he] at this; exact this
  have HW2 : Hid ((w.alloc (.cells #[.slice sa n sc, .slice da m dc, .slice xa k xc] 48)).alloc (.cells #[.int .i64 (N : Int)] 3) = w2) := hw2.symm
  obtain ⟨bE, hbE⟩ : ∃ bE, bE = w.heap.size := ⟨_, rfl⟩
  obtain ⟨bn, hbn⟩ : ∃ bn, bn = w.heap.size + 1 := ⟨_, rfl⟩
  have HBE : Hid (w.heap.size = bE) := hbE.symm
  have HBN : Hid (w.heap.size + 1 = bn) := hbn.symm
  have HCE : Hid (∀ W, Below w2.heap.size w2 W → W.cell? ⟨bE, 0, none⟩ = some (.slice sa n sc) ∧ W.cell? ⟨bE, 1, none⟩ = some (.slice da m dc) ∧ W.cell? ⟨bE, 2, none⟩ = some (.slice xa k xc)) := fun W hW => by
    have := (hc.next hW).qe
    rw [← hbE] at this
    exact ⟨three_cell0 this, three_cell1 this, three_cell2 this⟩
  have HED : Hid (Ed16 w sa n S da m D xa k X) := h
  have HOK : Hid (Ok16 S n ∧ sa16 S n = m ∧ sc16 S n = k) := ⟨hok, hsa, hsc⟩
  generalize ((m + k : Nat) : Int) = sz at *
  clear hb hc h hw2 hbE hbn he hit hok hsa hsc
  unfold ev16 at *
  refine callsIn_wide.1 (callsIn_of_fn16 (n := 9) Tryz.func36 rfl ?_)
  simp only [Tryz.ntmps36, List.size_toArray, List.length_cons, List.length_nil, Nat.reduceAdd, Nat.reduceSub, Array.replicate_succ, Array.replicate_zero, List.push_toArray, List.append_toArray, List.nil_append, List.cons_append]
  refine fn16_seq (fn16_ofP ?_)
  go_wp2
  refine fn16_seq (fn16_ofP ?_)
  go_wp2_with (first | (go_at_call 56; refine C1.mono ?_; rintro e1 w1 ⟨rfl, rfl⟩; clear C1))
  rw [HW2.out, HBN.out, HBE.out]
  clear c1
  have g0 := HCE.out w2.drew ((Below.refl _ _).drew)
  refine fn16_seq (fn16_seq (fn16_ofP (Code.wp_mono (Q := fun e a' W => e = .normal ∧ Ch17 w sa n sc da m dc xa k xc (N : Int) W ∧ a' = { tmps := #[.agg #[.slice sa n sc, .slice da m dc, .slice xa k xc], .int .i64 (N : Int), .pointer (some ⟨bE, 0, none⟩), .pointer (some ⟨bn, 0, none⟩), .slice none 0 0, .int .i64 0, .int .i64 0, undef, undef, undef, .int .i64 (N : Int), .bool true, .bool false, .agg #[.slice sa n sc, .slice da m dc, .slice xa k xc], .agg #[.slice sa n sc, .slice da m dc, .slice xa k xc], .int .i64 sz, .int .i64 0, undef, undef, undef, undef, undef, undef, undef, undef, undef, undef, undef, undef, undef, undef, undef, undef, undef, undef, undef, undef, undef, undef, undef, undef, undef, undef, undef, undef, undef, undef, undef, undef], defers := [] }) ?_ ?_)))
  rotate_left
  refine plain_region16 (fun V => V.cell? ⟨bE, 0, none⟩ = some (.slice sa n sc) ∧ V.cell? ⟨bE, 1, none⟩ = some (.slice da m dc) ∧ V.cell? ⟨bE, 2, none⟩ = some (.slice xa k xc)) 4 (by kernel_rfl) g0 (fun hHeld => ?_)
  refine wpAnyK_take (i := 0) (v := .agg #[.slice sa n sc, .slice da m dc, .slice xa k xc]) rfl (by kernel_rfl) (by kernel_rfl) (by kernel_rfl) (by kernel_rfl) (fun _ _ _ h => nomatch h.1) (Or.inl ⟨by rfl, fun w hSw => by go_simp⟩) hHeld ?_
  simp only [List.getElem_toArray, List.getElem_cons_zero, Act.put, List.setIfInBounds_toArray, List.set_cons_zero, List.set_cons_succ]
  refine wpAnyK_take (i := 1) (v := .agg #[.slice sa n sc, .slice da m dc, .slice xa k xc]) rfl (by kernel_rfl) (by kernel_rfl) (by kernel_rfl) (by kernel_rfl) (fun _ _ _ h => nomatch h.1) (Or.inl ⟨by rfl, fun w hSw => by go_simp⟩) hHeld ?_
  simp only [List.getElem_toArray, List.getElem_cons_zero, List.getElem_cons_succ, Act.put, List.setIfInBounds_toArray, List.set_cons_zero, List.set_cons_succ]
  refine wpAnyK_one (i := 2) (by kernel_rfl) rfl (fun K hK => ?_)
  (try simp only [List.getElem_toArray, List.getElem_cons_zero, List.getElem_cons_succ, Act.put, List.setIfInBounds_toArray, List.set_cons_zero, List.set_cons_succ])
  go_simp
  refine (HCL.out _).mono ?_
  rintro e3 w3 ⟨rfl, b3⟩
  have b3' : Below w2.heap.size w2 w3 := ((Below.refl w2.heap.size w2).drew).trans (b3.mono (Nat.le_refl _))
  refine hK.out _ _ (fun _ => HCE.out w3 b3') (fun hHeld0 => ?_)
  have hHeld := hHeld0 (by decide)
  clear hHeld0 hK K
  (try simp only [List.getElem_toArray, List.getElem_cons_zero, List.getElem_cons_succ, Act.put, List.setIfInBounds_toArray, List.set_cons_zero, List.set_cons_succ])
  refine wpAnyK_one (i := 3) (by kernel_rfl) rfl (fun K hK => ?_)
  (try simp only [List.getElem_toArray, List.getElem_cons_zero, List.getElem_cons_succ, Act.put, List.setIfInBounds_toArray, List.set_cons_zero, List.set_cons_succ])
  go_simp
  refine (HCC.out w3 (HC.out.next b3').bl).mono ?_
  rintro e4 w4 ⟨rfl, b4⟩
  have b4' : Below w2.heap.size w2 w4 := b3'.trans (b4.mono b3'.size)
  refine hK.out _ _ (fun _ => HCE.out w4 b4') (fun hHeld0 => ?_)
  have hHeld := hHeld0 (by decide)
  clear hHeld0 hK K
  (try simp only [List.getElem_toArray, List.getElem_cons_zero, List.getElem_cons_succ, Act.put, List.setIfInBounds_toArray, List.set_cons_zero, List.set_cons_succ])
  refine wpAnyK_one (i := 4) (by kernel_rfl) rfl (fun K hK => ?_)
  (try simp only [List.getElem_toArray, List.getElem_cons_zero, List.getElem_cons_succ, Act.put, List.setIfInBounds_toArray, List.set_cons_zero, List.set_cons_succ])
  go_simp
  refine hK.out _ _ (fun h => absurd rfl h) (fun _ => ?_)
  clear hK K
  refine wpAnyK_done (by kernel_rfl) ?_ _
  exact ⟨rfl, HC.out.next b4', rfl⟩
  rintro e a' w4 ⟨rfl, hc4, rfl⟩
  show fn16 _ _ _ _ _ _
  refine fn16_ofP ?_
  go_wp2
  have HC4 : Hid (Ch17 w sa n sc da m dc xa k xc (N : Int) w4) := hc4
  have HBS : Hid (bE < w4.heap.size ∧ bn < w4.heap.size) := by
    have h1 := (Array.getElem?_eq_some_iff.1 HC4.out.qe).1
    have h2 := (Array.getElem?_eq_some_iff.1 HC4.out.qw).1
    have h3 := HBE.out
    have h4 := HBN.out
    exact ⟨by omega, by omega⟩
  clear HC HCL HCC HCE g0 HW2 hc4
  show fn16 _ _ _ _ _ _
  refine fn16_seq (fn16_ofP ?_)
  go_wp2
  refine fn16_seq (fn16_ofP ?_)
  go_wp2
  have hb6 := two_boxes16 w4 #[.slice none 0 0] 52 #[.int .i64 0, .slice none 0 0, .slice none 0 0, .slice none 0 0, .int .i64 0] 116
  obtain ⟨W6, hW6⟩ : ∃ W6, W6 = (w4.alloc (.cells #[.slice none 0 0] 52)).alloc (.cells #[.int .i64 0, .slice none 0 0, .slice none 0 0, .slice none 0 0, .int .i64 0] 116) := ⟨_, rfl⟩
  simp only [← hW6] at hb6
  rw [← hW6]
  obtain ⟨bl6, z6, qO6, qw6⟩ := hb6
  have hc6 := HC4.out.next bl6
  obtain ⟨y0, y1, y2⟩ : W6.cell? ⟨bE, 0, none⟩ = some (.slice sa n sc) ∧ W6.cell? ⟨bE, 1, none⟩ = some (.slice da m dc) ∧ W6.cell? ⟨bE, 2, none⟩ = some (.slice xa k xc) := by
    have := hc6.qe
    rw [HBE.out] at this
    exact ⟨three_cell0 this, three_cell1 this, three_cell2 this⟩
  have CP := ppcs17 0 sa n sc da m dc xa k xc W6
  have CW := fun W => pwys17 (.func (.func 91) #[] #[.pointer (some ⟨W6.heap.size, 0, none⟩), .pointer (some ⟨W6.heap.size + 1, 0, none⟩)]) W ⟨_, _, rfl⟩
  unfold ev16 at CP
  have HZ6 : Hid (W6.heap.size = w4.heap.size + 2) := z6
  clear hW6 z6
  refine fn16_seq (fn16_seq (fn16_ofP ?_))
  go_wp2_with (first
    | (go_at_call 60; refine CP.mono ?_; rintro e7 W7 ⟨rfl, c7⟩; have HC7 : Hid (Below W6.heap.size W6 W7 ∧ W7.heap.size = W6.heap.size + 2 ∧ W7.heap[W6.heap.size]? = some (.cells #[.int .i64 0] 3 (0, 0)) ∧ W7.heap[W6.heap.size + 1]? = some (.cells #[.slice sa n sc, .slice da m dc, .slice xa k xc] 48 (0, 0))) := c7; clear CP c7))
  refine (CW _).mono ?_
  rintro e8 W0 ⟨rfl, c8⟩
  have HC8 : Hid (Cb16 W7 #[.func (.func 91) #[] #[.pointer (some ⟨W6.heap.size, 0, none⟩), .pointer (some ⟨W6.heap.size + 1, 0, none⟩)]] 121 W0) := c8
  clear CW c8
  go_wp2
  have z6 := HZ6.out
  obtain ⟨b7, z7, q7a, q7b⟩ := HC7.out
  have c8 := HC8.out
  obtain ⟨bO, hbO⟩ : ∃ bO, bO = w4.heap.size := ⟨_, rfl⟩
  obtain ⟨bw, hbw⟩ : ∃ bw, bw = w4.heap.size + 1 := ⟨_, rfl⟩
  have hbs := HBS.out
  have b60 : Below W6.heap.size W6 W0 := b7.trans (c8.bl.mono b7.size)
  have z8 := c8.sz
  have hOK := HOK.out
  have blw : Below w.heap.size w W0 := hc6.bl.trans (b60.mono hc6.bl.size)
  have hED0 := HED.out.old blw
  have hws : w.heap.size ≤ w4.heap.size := HC4.out.bl.size
  obtain ⟨R, hR⟩ : ∃ R : Nat → Prop, R = fun k => k < W0.heap.size ∧ k ≠ bO ∧ k ≠ bw := ⟨_, rfl⟩
  have hRl : ∀ k, R k → k < W0.heap.size := fun k x => by rw [hR] at x; exact x.1
  have hRw : ∀ k, k < w.heap.size → R k := fun k x => by rw [hR]; exact ⟨by have := blw.size; omega, by omega, by omega⟩
  have hsg := HED.out
  have SQ1 : Seq16 5 Tryz.prog 91 #[.pointer (some ⟨W6.heap.size, 0, none⟩), .pointer (some ⟨W6.heap.size + 1, 0, none⟩)] (pL17 S da dc xa xc 0 n) R W0 :=
    ps17 5 (by omega) W6.heap.size (W6.heap.size + 1) R W0 ((c8.bl.block _ (by omega)).trans q7a) ((c8.bl.block _ (by omega)).trans q7b) hED0 hOK.1 hOK.2.1 hOK.2.2 hdc hxc (by omega) (by rw [hR]; exact ⟨by omega, by omega, by omega⟩) (by rw [hR]; exact ⟨by omega, by omega, by omega⟩) (fun b off e hl => hRw b (hsg.ss.lt b off e hl))
  have segd : ∀ b off, da = some ⟨b, off, none⟩ → 0 < D.length → R b := fun b off e hl => hRw b (by
    obtain ⟨b', off', ha, hcl⟩ := hsg.sd.at_ 0 hl
    rw [e] at ha
    cases ha
    exact World.block_lt_of_cell? w _ hcl)
  have segx : ∀ b off, xa = some ⟨b, off, none⟩ → 0 < X.length → R b := fun b off e hl => hRw b (by
    obtain ⟨b', off', ha, hcl⟩ := hsg.sx.at_ 0 hl
    rw [e] at ha
    cases ha
    exact World.block_lt_of_cell? w _ hcl)
  have SQ2 : Seq16 9 Tryz.prog 90 #[.pointer (some ⟨W7.heap.size, 0, none⟩)] (wL17 (ws17 (pi17 S D X 0 n))) R W0 :=
    ww17 9 (by omega) W7.heap.size R W0 (fun _ _ => rfl) c8.cl SQ1 (by rw [pL17_len, pi17_len]) (pv17_of hED0.sd hED0.sx hED0.hm hED0.hk hOK.1 hED0.ln hED0.lm hED0.lk hOK.2.1 hOK.2.2 hdc hxc (by omega) segd segx) (by rw [hR]; exact ⟨by omega, by omega, by omega⟩) hRl
  have hBd := ws17_bd (S := S) (D := D) (X := X) (p0 := 0) (n := n) hOK.1 hED0.ln (by rw [hED0.hm]; exact hED0.lm) (by rw [hED0.hk]; exact hED0.lk) (by omega)
  have hLl : (ws17 (pi17 S D X 0 n)).length ≤ 2147483648 := by
    have := ws17_len hOK.2.1 hOK.2.2 hED0.hm hED0.hk (p0 := 0)
    omega
  have hI0 : Ci17 w R bO bw bn N (ws17 (pi17 S D X 0 n)) 0 (fun _ => False) (.slice none 0 0) (.slice none 0 0) (.slice none 0 0) (.slice none 0 0) [] z17 W0 := by
    have pf0 : ∀ k, Pf17 bw (.slice none 0 0) (.slice none 0 0) (.slice none 0 0) k → k = bw := by
      rintro k (x | x | x | x)
      · exact x
      · simp [Value.ownBlock] at x
      · simp [Value.ownBlock] at x
      · simp [Value.ownBlock] at x
    have lf0 : ∀ k, ¬ Lf17 (.slice none 0 0) [] k := by
      rintro k (x | ⟨p, hp, _⟩)
      · simp [Value.ownBlock] at x
      · cases hp
    have own0 : ∀ {sz : Nat} {e : TypeId}, W0.ownsRow w.heap.size e sz (.slice none 0 0) 0 [] := ⟨by simp, .inl ⟨rfl, rfl⟩⟩
    have hbn := HBN.out
    refine ⟨rfl, bd17_zero, by show 0 < N; omega, Nat.le_refl _, ⟨?_, ?_, ?_, ⟨own0, fun p hp => (by cases hp), fun p hp => (by cases hp), List.Pairwise.nil⟩, ?_, fun k x => absurd x (lf0 k), ?_, blw, by omega, by omega⟩⟩
    · exact ⟨by rw [hbw]; exact (b60.block _ (by omega)).trans qw6, own0, own0, own0, by simp [Value.ownBlock], by simp [Value.ownBlock], by simp [Value.ownBlock], by simp [Value.ownBlock], by simp [Value.ownBlock], by simp [Value.ownBlock], by omega⟩
    · rw [hbO]; exact (b60.block _ (by omega)).trans qO6
    · have := (hc6.next b60).qw
      rw [hbn] at this
      exact this
    · intro k x
      have := pf0 k x
      subst this
      exact ⟨by omega, by omega, lf0 k⟩
    · rintro k (x | x | x)
      · have := pf0 k x
        subst this
        exact ⟨fun x => x, fun x => by rw [hR] at x; exact x.2.2 rfl⟩
      · exact absurd x (lf0 k)
      · exact ⟨fun x => x, fun y => by rw [hR] at y; exact y.2.1 x⟩
  rw [← hbw, ← hbO]
  have HBB : Hid (w.heap.size ≤ bO ∧ bO < W0.heap.size ∧ bw < W0.heap.size ∧ bn < W0.heap.size ∧ w.heap.size ≤ W0.heap.size) := ⟨by omega, by omega, by omega, by omega, blw.size⟩
  have hRO : ∀ k, R k → k ≠ bO ∧ k ≠ bw := fun k x => by rw [hR] at x; exact x.2
  generalize hL : ws17 (pi17 S D X 0 n) = L at *
  clear hL hbO hbw hR SQ1 q7a q7b b7 z7 c8 b60 z8 hOK blw hED0 hws hRw hsg segd segx qO6 qw6 bl6 z6 hc6 HC7 HC8 HC4 HBS HED HOK HZ6 hbs y0 y1 y2
  refine fn16_block ?_
  refine range16 (n := 9) (w := W0) Tryz.func36 (gf := 90) (lb := #[.pointer (some ⟨W7.heap.size, 0, none⟩)]) rfl (fun _ _ => rfl) hRl SQ2 ?_
    (fun i E V => ∃ vO vS vD vX l s, Ci17 w R bO bw bn N L i E vO vS vD vX l s V) ?_ (fun _ _ _ => False) (fun _ _ _ _ _ h _ _ _ _ _ => h) ⟨_, _, _, _, _, _, hI0⟩ ?_ ?_ (fun _ _ _ _ _ _ h _ => h.elim)
  · intro v hv
    simp only [wL17, List.mem_map] at hv
    obtain ⟨i, _, rfl⟩ := hv
    rfl
  · rintro i E E' A B ⟨vO, vS, vD, vX, l, s, hA⟩ hlo hk _ h2 _
    have hb := HBB.out
    exact ⟨vO, vS, vD, vX, l, s, hA.st, hA.bd, hA.ln, hA.ll, hA.m.kp hk (fun k x => by
      have := (hlo k x).1
      exact ⟨by omega, by omega, by omega, fun y => (hA.m.nf k (.inl y)).1 x, fun y => (hA.m.nf k (.inr (.inl y))).1 x⟩) h2⟩
  · rintro l' i v E V hv ⟨vO, vS, vD, vX, l, s, hA⟩ hlo hEl hlr hkr
    have hil : i < L.length := by
      have := (List.getElem?_eq_some_iff.1 hv).1
      rwa [wL17_len] at this
    have hgi : L[i]? = some L[i] := List.getElem?_eq_getElem hil
    rw [wL17_get hgi] at hv
    obtain rfl := Option.some.inj hv
    have hao := hBd _ (List.getElem_mem hil)
    have HTK : Hid (L.take (i + 1) = L.take i ++ [L[i]]) := List.take_succ_eq_append_getElem hil
    generalize L[i] = o at *
    obtain ⟨wA, hwA⟩ : ∃ wA, wA = V.alloc (.cells #[.int .i64 o.1, .int .u8 o.2.1, .bool o.2.2] 124) := ⟨_, rfl⟩
    have HWA : Hid (V.alloc (.cells #[.int .i64 o.1, .int .u8 o.2.1, .bool o.2.2] 124) = wA) := hwA.symm
    have cA : Cb16 V #[.int .i64 o.1, .int .u8 o.2.1, .bool o.2.2] 124 wA := by rw [hwA]; exact cb16 _ _ _
    obtain ⟨os, hos⟩ : ∃ os, os = V.heap.size := ⟨_, rfl⟩
    have HOS : Hid (V.heap.size = os) := hos.symm
    have hAA : Ci17 w R bO bw bn N L i E vO vS vD vX l s wA := ⟨hA.st, hA.bd, hA.ln, hA.ll, hA.m.below cA.bl⟩
    have qA : wA.heap[os]? = some (.cells #[.int .i64 o.1, .int .u8 o.2.1, .bool o.2.2] 124 (0, 0)) := by rw [hos]; exact cA.cl
    have HVA : Hid (Kr16 (fun k => E k ∨ R k) V wA) := ⟨cA.bl.size, fun k hk _ => cA.bl.block k hk⟩
    have hl'o : l' < os := by have := hlo l' hEl; omega
    have HEL : Hid (E l') := hEl
    have HNE : Hid (∀ k, E k → W0.heap.size ≤ k ∧ k < os) := fun k x => ⟨(hlo k x).1, by have := (hlo k x).2; omega⟩
    have HAA : Hid (Ci17 w R bO bw bn N L i E vO vS vD vX l s wA) := hAA
    clear hwA cA hos hlo hA hlr hkr hEl hgi hv hI0 SQ2 hAA hBd
    unfold wv17
    gi_wp2
    rw [HWA.out, HOS.out]
    refine As16.mk HVA.out ⟨_, _, _, _, _, _, HAA.out⟩ (fun V2 hk2 _ _ => ?_)
    have hA2 : Ci17 w R bO bw bn N L i E vO vS vD vX l s V2 := ⟨HAA.out.st, HAA.out.bd, HAA.out.ln, HAA.out.ll, HAA.out.m.kp (E' := E) hk2 (fun k x => by
      have x : k = l' := x
      subst x
      have h1 := HNE.out _ HEL.out
      have h2 := HBB.out
      exact ⟨by omega, by omega, by omega, fun y => (HAA.out.m.nf _ (.inl y)).1 HEL.out, fun y => (HAA.out.m.nf _ (.inr (.inl y))).1 HEL.out⟩) (fun k x => .inl x)⟩
    have qq := hk2.heap qA (by show ¬ os = l'; omega)
    have a0 := three_cell0 qq
    have a1 := three_cell1 qq
    have a2 := three_cell2 qq
    have hz2 : os < V2.heap.size := (Array.getElem?_eq_some_iff.1 qq).1
    have hlnA := hA2.ln
    have CT := ptake17 o hA2.m.pr hA2.bd (by omega) hao
    unfold wv17 at CT
    have HA2 : Hid (Ci17 w R bO bw bn N L i E vO vS vD vX l s V2) := hA2
    have HS : Hid (Bd17 (s.take o)) := take17_bd s o hA2.bd hao
    have HLN : Hid (s.len < N) := hA2.ln
    have HLL : Hid (l.length ≤ i) := hA2.ll
    clear hA2 qq qA HVA HWA hk2 HAA hlnA
    gi_wp2
    refine ⟨trivial, (CallsIn.inRound l' (callsIn_wide.2 CT)).mono ?_⟩
    rintro e9 w9 ⟨rfl, vS', vD', vX', h9, k9, f9⟩
    clear CT a0 a1 a2
    have hm9 := HA2.out.m.more h9 k9 f9 (fun k x => by have := hRl k x; have := HNE.out _ HEL.out; omega) (fun k x => by have := HNE.out k x; omega)
    have HK9 : Hid (Kr16 (fun k => E k ∨ R k) V2 w9) := Kr16.of_kp k9 (fun k x y => by
      rcases x with x | x
      · exact (HA2.out.m.nf k (.inl y)).1 x
      · exact (HA2.out.m.nf k (.inl y)).2 x)
    have hz9 : V2.heap.size ≤ w9.heap.size := k9.size
    obtain ⟨pS, cS, eS⟩ := own_sl17 h9.oS
    obtain ⟨pD, cD, eD⟩ := own_sl17 h9.oD
    obtain ⟨pX, cX, eX⟩ := own_sl17 h9.oX
    have hlen' := take17_len s o
    have HST : Hid (cf17 N (L.take (i + 1)) = cs17 N (l.map (·.2), s) o) := by show _ = _; rw [HTK.out, cf17_snoc, HA2.out.st]
    unfold cs17 at HST
    simp only at HST
    generalize s.take o = s2 at *
    obtain ⟨nD, hnD⟩ : ∃ nD, nD = s2.D.length := ⟨_, rfl⟩
    obtain ⟨nX, hnX⟩ : ∃ nX, nX = s2.X.length := ⟨_, rfl⟩
    obtain ⟨nS, hnS⟩ : ∃ nS, nS = s2.S.length := ⟨_, rfl⟩
    rw [← hnS] at eS
    rw [← hnD] at eD
    rw [← hnX] at eX
    subst eS; subst eD; subst eX
    have hle : s2.len = nD + nX := by rw [hnD, hnX]; rfl
    have hNb : nD + nX ≤ 65536 := by have := HLN.out; omega
    have HCL : Hid (∀ W, Calls Tryz.prog 58 #[.agg #[.slice pS nS cS, .slice pD nD cD, .slice pX nX cX]] W fun e w' => e = .returned (.int .i64 ((nD + nX : Nat) : Int)) ∧ Below W.heap.size W w') := fun W => plen17 pS nS cS pD nD cD pX nX cX (by omega) (by omega) W
    have HM9 : Hid (Cm17 w R bO bw bn N E vO (.slice pS nS cS) (.slice pD nD cD) (.slice pX nX cX) l s2 w9) := hm9
    have HCE : Hid (∀ W, Below w9.heap.size w9 W → W.cell? ⟨bw, 1, none⟩ = some (.slice pS nS cS) ∧ W.cell? ⟨bw, 2, none⟩ = some (.slice pD nD cD) ∧ W.cell? ⟨bw, 3, none⟩ = some (.slice pX nX cX) ∧ W.cell? ⟨bn, 0, none⟩ = some (.int .i64 (N : Int))) := fun W hW => by
      have := hm9.below hW
      obtain ⟨x0, x1, x2, x3, x4⟩ := five_cells this.pr.hp
      exact ⟨x1, x2, x3, one_cell16 this.hn⟩
    have hNE : ∀ k, E k → k < w9.heap.size := fun k x => by have := HNE.out k x; omega
    have hRN : ∀ k, R k → k < w9.heap.size := fun k x => by have := hRl k x; have := HNE.out _ HEL.out; omega
    have HLE : Hid (s2.len = nD + nX) := hle
    have HLT : Hid (s2.len = s.len + 1) := hlen'
    clear hm9 h9 k9 f9 hnD hnX hnS HTK hlen' hle
    obtain ⟨zz, hzz⟩ : ∃ zz, zz = nD + nX := ⟨_, rfl⟩
    rw [← hzz] at HCL HLE hNb
    clear hzz
    have g0 := HCE.out w9.drew ((Below.refl _ _).drew)
    gi_wp2
    refine round_region16 (fun V => V.cell? ⟨bw, 1, none⟩ = some (.slice pS nS cS) ∧ V.cell? ⟨bw, 2, none⟩ = some (.slice pD nD cD) ∧ V.cell? ⟨bw, 3, none⟩ = some (.slice pX nX cX) ∧ V.cell? ⟨bn, 0, none⟩ = some (.int .i64 (N : Int))) 6 (by kernel_rfl) (by kernel_rfl) g0 (fun hHeld => ?_)
    refine wpAnyK_take (i := 0) (v := .pointer (some ⟨bw, 0, none⟩)) rfl (by kernel_rfl) (by kernel_rfl) (by kernel_rfl) (by kernel_rfl) (fun _ _ _ h => nomatch h.1) (Or.inl ⟨by rfl, fun w hSw => by go_simp⟩) hHeld ?_
    simp only [List.getElem_toArray, List.getElem_cons_zero, Act.put, List.setIfInBounds_toArray, List.set_cons_zero, List.set_cons_succ]
    refine wpAnyK_take (i := 1) (v := .pointer (some ⟨bw, 1, none⟩)) rfl (by kernel_rfl) (by kernel_rfl) (by kernel_rfl) (by kernel_rfl) (fun _ _ _ h => nomatch h.1) (Or.inl ⟨by rfl, fun w hSw => by go_simp⟩) hHeld ?_
    simp only [List.getElem_toArray, List.getElem_cons_zero, List.getElem_cons_succ, Act.put, List.setIfInBounds_toArray, List.set_cons_zero, List.set_cons_succ]
    refine wpAnyK_take (i := 2) (v := .agg #[.slice pS nS cS, .slice pD nD cD, .slice pX nX cX]) rfl (by kernel_rfl) (by kernel_rfl) (by kernel_rfl) (by kernel_rfl) (fun _ _ _ h => nomatch h.1) (Or.inl ⟨by rfl, fun w hSw => by go_simp⟩) hHeld ?_
    simp only [List.getElem_toArray, List.getElem_cons_zero, List.getElem_cons_succ, Act.put, List.setIfInBounds_toArray, List.set_cons_zero, List.set_cons_succ]
    refine wpAnyK_take (i := 4) (v := .int .i64 (N : Int)) rfl (by kernel_rfl) (by kernel_rfl) (by kernel_rfl) (by kernel_rfl) (fun _ _ _ h => nomatch h.1) (Or.inl ⟨by rfl, fun w hSw => by go_simp⟩) hHeld ?_
    simp only [List.getElem_toArray, List.getElem_cons_zero, List.getElem_cons_succ, Act.put, List.setIfInBounds_toArray, List.set_cons_zero, List.set_cons_succ]
    refine wpAnyK_one (i := 3) (by kernel_rfl) rfl (fun K hK => ?_)
    (try simp only [List.getElem_toArray, List.getElem_cons_zero, List.getElem_cons_succ, Act.put, List.setIfInBounds_toArray, List.set_cons_zero, List.set_cons_succ])
    go_simp
    refine (HCL.out _).mono ?_
    rintro e3 w3 ⟨rfl, b3⟩
    have b3' : Below w9.heap.size w9 w3 := ((Below.refl w9.heap.size w9).drew).trans (b3.mono (Nat.le_refl _))
    refine hK.out _ _ (fun _ => HCE.out w3 b3') (fun hHeld0 => ?_)
    have hHeld := hHeld0 (by decide)
    clear hHeld0 hK K
    (try simp only [List.getElem_toArray, List.getElem_cons_zero, List.getElem_cons_succ, Act.put, List.setIfInBounds_toArray, List.set_cons_zero, List.set_cons_succ])
    refine wpAnyK_one (i := 5) (by kernel_rfl) rfl (fun K hK => ?_)
    (try simp only [List.getElem_toArray, List.getElem_cons_zero, List.getElem_cons_succ, Act.put, List.setIfInBounds_toArray, List.set_cons_zero, List.set_cons_succ])
    go_simp
    refine hK.out _ _ (fun _ => HCE.out w3 b3') (fun hHeld0 => ?_)
    have hHeld := hHeld0 (by decide)
    clear hHeld0 hK K
    (try simp only [List.getElem_toArray, List.getElem_cons_zero, List.getElem_cons_succ, Act.put, List.setIfInBounds_toArray, List.set_cons_zero, List.set_cons_succ])
    refine wpAnyK_done (by kernel_rfl) ?_ _
    refine ⟨rfl, ?_⟩
    have hm3 := HM9.out.below b3'
    have K3 : Kr16 (fun k => E k ∨ R k) V2 w3 := HK9.out.trans ⟨b3'.size, fun k hk _ => b3'.block k hk⟩
    have hz3 := b3'.size
    have HST' := HST.out
    have hl1 := HLL.out
    rw [HLE.out] at HST'
    by_cases hq : zz = N
    · rw [if_pos hq] at HST'
      obtain ⟨g, rc, w', P⟩ := hm3.push (by omega) (fun k x => by have := hRN k x; omega) (fun k x => by have := hNE k x; omega)
      have hr := P.hr
      obtain ⟨x0, x1, x2, x3, x4⟩ := five_cells hm3.pr.hp
      have o0 := one_cell16 hm3.hO
      have o1 := one_cell16 P.hO
      have of := one_free16 (i := 0) P.hO
      obtain ⟨r0, r1, r2, r3, r4⟩ := five_cells P.hp
      have rf0 := five_free (i := 0) P.hp
      have rf1 := five_free (i := 1) P.hp
      have rf2 := five_free (i := 2) P.hp
      have rf3 := five_free (i := 3) P.hp
      have rf4 := five_free (i := 4) P.hp
      obtain ⟨F0, hF0⟩ : ∃ F0, F0 = w'.setCell ⟨bO, 0, none⟩ (.slice (some ⟨g, 0, none⟩) (l.length + 1) rc) := ⟨_, rfl⟩
      have HF0 : Hid (w'.setCell ⟨bO, 0, none⟩ (.slice (some ⟨g, 0, none⟩) (l.length + 1) rc) = F0) := hF0.symm
      have HCM : Hid (∀ F, Kp (fun k => k = bw) F0 F → F.heap[bw]? = some (.cells #[.int .i64 0, .slice none 0 0, .slice none 0 0, .slice none 0 0, .int .i64 0] 116 (0, 0)) → Cm17 w R bO bw bn N E (.slice (some ⟨g, 0, none⟩) (l.length + 1) rc) (.slice none 0 0) (.slice none 0 0) (.slice none 0 0) (l ++ [((.slice pS nS cS, .slice pD nD cD, .slice pX nX cX), s2)]) z17 F ∧ Kr16 (fun k => E k ∨ R k) w3 F) := by rw [hF0]; exact P.cm
      have HPP : Hid (F0.heap[bw]? = some (.cells #[.int .i64 s2.pos, .slice pS nS cS, .slice pD nD cD, .slice pX nX cX, .int .i64 s2.p] 116 (0, 0))) := by rw [hF0]; exact P.hp
      have HK3 : Hid (Kr16 (fun k => E k ∨ R k) V2 w3) := K3
      obtain ⟨po, co, eO⟩ := own_sl17 hm3.wl.own
      subst eO
      have HST2 : Hid (cf17 N (L.take (i + 1)) = (l.map (·.2) ++ [s2], z17)) := HST'
      have hqe : ((zz : Int) == (N : Int)) = true := by rw [hq]; simp
      generalize s2.pos = u0 at *
      generalize s2.p = u4 at *
      have HNL : Hid (0 < N) := by show 0 < N; omega
      clear P hm3 K3 hF0 HST' HST hq HLE HLN hl1 HM9 HCE HCL g0 HA2 HS HNE HEL HBB hao hLl hw
      gi_wp2_with (refine wpListIn_app16 (by rfl) _ _ _ (by rfl) (by rfl) (by rfl) hr ?_)
      rw [HF0.out]
      have k0 := Kp.set (S := fun k => k = bw) (w := F0) (b := bw) (i := 0) rfl (.int .i64 0)
      have k1 := k0.trans (Kp.set (S := fun k => k = bw) (b := bw) (i := 1) rfl (.slice none 0 0)) (fun _ _ x => x)
      have k2 := k1.trans (Kp.set (S := fun k => k = bw) (b := bw) (i := 2) rfl (.slice none 0 0)) (fun _ _ x => x)
      have k3 := k2.trans (Kp.set (S := fun k => k = bw) (b := bw) (i := 3) rfl (.slice none 0 0)) (fun _ _ x => x)
      have k4 := k3.trans (Kp.set (S := fun k => k = bw) (b := bw) (i := 4) rfl (.int .i64 0)) (fun _ _ x => x)
      have qF := five_set4 (five_set3 (five_set2 (five_set1 (five_set0 HPP.out (.int .i64 0)) (.slice none 0 0)) (.slice none 0 0)) (.slice none 0 0)) (.int .i64 0)
      obtain ⟨m1, m2⟩ := HCM.out _ k4 qF
      have hl1 := HLL.out
      exact ⟨⟨_, _, _, _, _, _, by rw [HST2.out]; simp, bd17_zero, HNL.out, by simp; omega, m1⟩, HK3.out.trans m2⟩
    · rw [if_neg hq] at HST'
      have hqe : ((zz : Int) == (N : Int)) = false := by simp; omega
      have hqd : ¬ (zz : Int) = (N : Int) := by omega
      have HF : Hid ((∃ vO vS vD vX l s, Ci17 w R bO bw bn N L (i + 1) E vO vS vD vX l s w3) ∧ Kr16 (fun k => E k ∨ R k) V2 w3) := ⟨⟨_, _, _, _, _, _, HST', HS.out, by rw [HLE.out]; have := HLN.out; have := HLE.out; have := HLT.out; omega, by omega, hm3⟩, K3⟩
      clear hm3 K3 HST' hq HM9 HCE HCL g0
      gi_wp2
      exact HF.out
  · rintro Dd E V hED hlo ⟨vO, vS, vD, vX, l, s, hA⟩ hD
    rw [wL17_len] at hA
    have hst := hA.st
    rw [List.take_length] at hst
    obtain ⟨pS, cS, eS⟩ := own_sl17 hA.m.pr.oS
    obtain ⟨pD, cD, eD⟩ := own_sl17 hA.m.pr.oD
    obtain ⟨pX, cX, eX⟩ := own_sl17 hA.m.pr.oX
    obtain ⟨po, co, eO⟩ := own_sl17 hA.m.wl.own
    have hln := hA.ln
    have hll := hA.ll
    obtain ⟨nD, hnD⟩ : ∃ nD, nD = s.D.length := ⟨_, rfl⟩
    obtain ⟨nX, hnX⟩ : ∃ nX, nX = s.X.length := ⟨_, rfl⟩
    obtain ⟨nS, hnS⟩ : ∃ nS, nS = s.S.length := ⟨_, rfl⟩
    rw [← hnS] at eS
    rw [← hnD] at eD
    rw [← hnX] at eX
    subst eS; subst eD; subst eX; subst eO
    have hle : s.len = nD + nX := by rw [hnD, hnX]; rfl
    have CL : Calls Tryz.prog 58 #[.agg #[.slice pS nS cS, .slice pD nD cD, .slice pX nX cX]] V fun e w' => e = .returned (.int .i64 ((nD + nX : Nat) : Int)) ∧ Below V.heap.size V w' := plen17 pS nS cS pD nD cD pX nX cX (by omega) (by omega) V
    obtain ⟨zz, hzz⟩ : ∃ zz, zz = nD + nX := ⟨_, rfl⟩
    rw [← hzz] at CL hle
    obtain ⟨x0, x1, x2, x3, x4⟩ := five_cells hA.m.pr.hp
    have HM : Hid (Cm17 w R bO bw bn N E (.slice po l.length co) (.slice pS nS cS) (.slice pD nD cD) (.slice pX nX cX) l s V) := hA.m
    have HD : Hid (V.heap[Dd]? = some (.deferred (some []))) := hD
    have HED : Hid (E Dd) := hED
    have HDw : Hid (W0.heap.size ≤ Dd ∧ Dd < V.heap.size) := hlo Dd hED
    have HEV : Hid (∀ k, E k → k < V.heap.size) := fun k x => (hlo k x).2
    have HZV : Hid (W0.heap.size ≤ V.heap.size) := by have := hlo Dd hED; show _ ≤ _; omega
    have HCW : Hid (cw17 N L = if 0 < zz then l.map (·.2) ++ [s] else l.map (·.2)) := by show _ = _; unfold cw17; rw [hst]; simp only; rw [hle]
    have HLL : Hid (l.length ≤ L.length) := hll
    clear hA hst hln hll hnD hnX hnS hle hzz hI0 SQ2 hBd hlo hD hED
    refine fn16_ofP ?_
    by_cases hz : 0 < zz
    · have hzi : (0 : Int) < (zz : Int) := by omega
      have HZ : Hid (0 < zz) := hz
      go_wp2_with (first
        | (go_at_call 58; refine CL.mono ?_; rintro e3 w3 ⟨rfl, b3⟩; clear CL; have hm3 := HM.out.below b3; have hz3 := b3.size; obtain ⟨g, rc, w', P⟩ := hm3.push (by have := HLL.out; omega) (fun k x => by have := hRl k x; have := HZV.out; omega) (fun k x => by have := HEV.out k x; omega); have hr := P.hr; obtain ⟨t0, t1, t2, t3, t4⟩ := five_cells hm3.pr.hp; have o0 := one_cell16 hm3.hO; have o1 := one_cell16 P.hO; have of := one_free16 (i := 0) P.hO; have o2 := one_cell16 (one_set16 P.hO (.slice (some ⟨g, 0, none⟩) (l.length + 1) rc)); have HP : Hid (Cp17 w R bO bw bn N E (.slice po l.length co) (.slice pS nS cS) (.slice pD nD cD) (.slice pX nX cX) l s w3 g rc w') := P; have HB3 : Hid (Below V.heap.size V w3) := b3; clear P hm3 hz3 b3 x0 x1 x2 x3 x4)
        | (at_builtin; refine wpList_app17 rfl (.tmp 43) (.tmp 46) 52 rfl rfl rfl hr ?_))
      have P := HP.out
      obtain ⟨F0, hF0⟩ : ∃ F0, F0 = w'.setCell ⟨bO, 0, none⟩ (.slice (some ⟨g, 0, none⟩) (l.length + 1) rc) := ⟨_, rfl⟩
      rw [← hF0]
      have k0 := Kp.set (S := fun k => k = bw) (w := F0) (b := bw) (i := 0) rfl (.int .i64 0)
      have k1 := k0.trans (Kp.set (S := fun k => k = bw) (b := bw) (i := 1) rfl (.slice none 0 0)) (fun _ _ x => x)
      have k2 := k1.trans (Kp.set (S := fun k => k = bw) (b := bw) (i := 2) rfl (.slice none 0 0)) (fun _ _ x => x)
      have k3 := k2.trans (Kp.set (S := fun k => k = bw) (b := bw) (i := 3) rfl (.slice none 0 0)) (fun _ _ x => x)
      have k4 := k3.trans (Kp.set (S := fun k => k = bw) (b := bw) (i := 4) rfl (.int .i64 0)) (fun _ _ x => x)
      have hPp := P.hp
      have hPc := P.cm
      have hPw := P.wl
      have hPb := P.bl
      rw [← hF0] at hPp hPc hPw hPb
      have qF := five_set4 (five_set3 (five_set2 (five_set1 (five_set0 hPp (.int .i64 0)) (.slice none 0 0)) (.slice none 0 0)) (.slice none 0 0)) (.int .i64 0)
      obtain ⟨m1, m2⟩ := hPc _ k4 qF
      have hdw := HDw.out
      have hbb := HBB.out
      have hd3 : w3.heap[Dd]? = some (.deferred (some [])) := (HB3.out.block Dd hdw.2).trans HD.out
      have hdF : F0.heap[Dd]? = some (.deferred (some [])) := by
        have e1 := m2.heap hd3 (.inl HED.out)
        have hlF : Dd < F0.heap.size := by have := (Array.getElem?_eq_some_iff.1 e1).1; simp at this; exact this
        exact (k4.block Dd hlF (by show ¬ Dd = bw; omega)).symm.trans e1
      refine ⟨by simp, .inl ⟨_, _, rfl, run_takeDeferred hdF, ?_⟩⟩
      refine ⟨_, results_tmp2 rfl _ _ _, ?_⟩
      refine ⟨.slice (some ⟨g, 0, none⟩) (l.length + 1) rc, l ++ [((Value.slice pS nS cS, Value.slice pD nD cD, Value.slice pX nX cX), s)], rfl, ?_, hPw.kp (Kp.put16 (S := fun k => k = Dd) rfl _) (fun k x y => (m1.nf k (.inr (.inl x))).1 (by rw [show k = Dd from y]; exact HED.out)), hPb.trans ((Kp.put16 (S := fun k => k = Dd) rfl _).below (fun k x => by have x : k = Dd := x; omega) hPb.size)⟩
      rw [HCW.out, if_pos HZ.out]
      simp
    · have hzi : ¬ (0 : Int) < (zz : Int) := by omega
      have HZ : Hid (¬ 0 < zz) := hz
      go_wp2_with (first
        | (go_at_call 58; refine CL.mono ?_; rintro e3 w3 ⟨rfl, b3⟩; clear CL; have hm3 := HM.out.below b3; have o0 := one_cell16 hm3.hO; have HM3 : Hid (Cm17 w R bO bw bn N E (.slice po l.length co) (.slice pS nS cS) (.slice pD nD cD) (.slice pX nX cX) l s w3) := hm3; have HB3 : Hid (Below V.heap.size V w3) := b3; clear hm3 b3 x0 x1 x2 x3 x4))
      have hdw := HDw.out
      have hbb := HBB.out
      have hd3 : w3.heap[Dd]? = some (.deferred (some [])) := (HB3.out.block Dd hdw.2).trans HD.out
      have hm3 := HM3.out
      refine ⟨by simp, .inl ⟨_, _, rfl, run_takeDeferred hd3, ?_⟩⟩
      refine ⟨_, results_tmp2 rfl _ _ _, ?_⟩
      refine ⟨.slice po l.length co, l, rfl, ?_, hm3.wl.kp (Kp.put16 (S := fun k => k = Dd) rfl _) (fun k x y => (hm3.nf k (.inr (.inl x))).1 (by rw [show k = Dd from y]; exact HED.out)), hm3.bl.trans ((Kp.put16 (S := fun k => k = Dd) rfl _).below (fun k x => by have x : k = Dd := x; omega) hm3.bl.size)⟩
      rw [HCW.out, if_neg HZ.out]
end Go.Proofs.YtmfpdchfofffeaaGreatDoor
