
import Derived.Test.YtkjccbihdinlkaaBtRw3
import Derived.Test.YtkjccbihdinlkaaLend
namespace Go.Proofs.Ytkjccbihdinlkaa
open Go.RowKit
set_option linter.unusedVariables false

variable {w w0 w' wP wR : World} {b bx B : Nat} {v v' u u' : Value} {L L' M : List Bool}
theorem WrL.apartR (h1 : WrL w b B v L) (h2 : RwL w bx B u M) (hk : Kp (WS bx u) w w') (hb : b ≠ bx) (hb1 : b < B) (hb2 : bx < B) (hap : Ap v.ownBlock u.ownBlock) : WrL w' b B v L := by
  refine h1.kp hk ?_ ?_
  · rintro (e | e)
    · exact hb e
    · have := (h2.own_lt _ e).1; omega
  · intro k e
    have hk1 := h1.own_lt k e
    rintro (e2 | e2)
    · omega
    · exact hap k e e2
theorem RwL.apartW (h1 : RwL w bx B u M) (h2 : WrL w b B v L) (hk : Kp (WS b v) w w') (hb : b ≠ bx) (hb1 : b < B) (hb2 : bx < B) (hap : Ap v.ownBlock u.ownBlock) : RwL w' bx B u M := by
  refine h1.kp hk ?_ ?_
  · rintro (e | e)
    · exact hb e.symm
    · have := (h2.own_lt _ e).1; omega
  · intro k e
    have hk1 := h1.own_lt k e
    rintro (e2 | e2)
    · omega
    · exact hap k e2 e
theorem Ap.freshR (hap : Ap u.ownBlock v.ownBlock) (h1 : RwL w bx B u M) (hf : Fresh w v v') : Ap u.ownBlock v'.ownBlock := by
  intro k e1 e2
  have := (h1.own_lt k e1).2.1
  rcases hf k e2 with e | e
  · exact hap k e1 e
  · omega
def PS (b bx : Nat) (v u : Value) : Nat → Prop := fun k => WS b v k ∨ WS bx u k
/-- A Writer and the document's Writer beside each other, with the same bits. -/
structure Pair (w : World) (b bx B : Nat) (v u : Value) (L : List Bool) : Prop where
  g : WrL w b B v L
  x : RwL w bx B u L
  ap : Ap v.ownBlock u.ownBlock
/-- Both have gone on. -/
def Done (w w' : World) (b bx B : Nat) (v u : Value) (L : List Bool) : Prop := ∃ v' u', Pair w' b bx B v' u' L ∧ Kp (PS b bx v u) w w' ∧ Fresh w v v' ∧ Fresh w u u'
theorem Fresh.wide (h : Fresh w' v v') (hs : w.heap.size ≤ w'.heap.size) : Fresh w v v' := fun k e => (h k e).imp id (fun e => by omega)
theorem pair_wr (h : Pair w0 b bx B v u L) (hb : b ≠ bx) (hb1 : b < B) (hb2 : bx < B) (gP : WrL wP b B v' L') (kP : Kp (WS b v) w0 wP) (fP : Fresh w0 v v') (gR : RwL wR bx B u' L') (kR : Kp (WS bx u) wP wR) (fR : Fresh wP u u') : Done w0 wR b bx B v u L' := by
  have xP := h.x.apartW h.g kP hb hb1 hb2 h.ap
  have ap1 : Ap u.ownBlock v'.ownBlock := h.ap.symm.freshR h.x fP
  refine ⟨v', u', ⟨gP.apartR xP kR hb hb1 hb2 ap1.symm, gR, ap1.symm.fresh gP fR⟩, ?_, fP, fR.wide kP.size⟩
  exact (kP.mono (S' := PS b bx v u) (fun _ _ e => .inl e)).trans kR (fun _ _ e => .inr e)
theorem pair_rw (h : Pair w0 b bx B v u L) (hb : b ≠ bx) (hb1 : b < B) (hb2 : bx < B) (gR : RwL wR bx B u' L') (kR : Kp (WS bx u) w0 wR) (fR : Fresh w0 u u') (gP : WrL wP b B v' L') (kP : Kp (WS b v) wR wP) (fP : Fresh wR v v') : Done w0 wP b bx B v u L' := by
  have gX := h.g.apartR h.x kR hb hb1 hb2 h.ap
  have ap1 : Ap v.ownBlock u'.ownBlock := h.ap.fresh h.g fR
  refine ⟨v', u', ⟨gP, gR.apartW gX kP hb hb1 hb2 ap1, (ap1.symm.freshR gR fP).symm⟩, ?_, fP.wide kR.size, fR⟩
  exact (kR.mono (S' := PS b bx v u) (fun _ _ e => .inr e)).trans kP (fun _ _ e => .inl e)
theorem Pair.kp {S : Nat → Prop} (h : Pair w b bx B v u L) (hk : Kp S w w') (h1 : ¬ S b) (h2 : ¬ S bx) (h3 : ∀ k, B ≤ k → k < w.heap.size → v.ownBlock = some k ∨ u.ownBlock = some k → ¬ S k) : Pair w' b bx B v u L :=
  ⟨h.g.kp hk h1 (fun k e => h3 k (h.g.own_lt k e).1 (h.g.own_lt k e).2.1 (.inl e)), h.x.kp hk h2 (fun k e => h3 k (h.x.own_lt k e).1 (h.x.own_lt k e).2.1 (.inr e)), h.ap⟩
theorem Pair.old (h : Pair w b bx B v u L) (hb : Below w.heap.size w w') : Pair w' b bx B v u L := h.kp (S := fun _ => False) (Kp.of_below hb) (by simp) (by simp) (by simp)
theorem Pair.done (h : Pair w' b bx B v u L) (hb : Below w.heap.size w w') : Done w w' b bx B v u L := ⟨v, u, h, Kp.of_below hb, Fresh.refl _ _, Fresh.refl _ _⟩
theorem Done.after (hb : Below w.heap.size w w0) (h : Done w0 w' b bx B v u L) (hb1 : b < w.heap.size) : Done w w' b bx B v u L := by
  obtain ⟨v', u', h1, h2, h3, h4⟩ := h
  exact ⟨v', u', h1, (Kp.of_below hb).trans h2 (fun _ _ e => e), h3.wide hb.size, h4.wide hb.size⟩
theorem Done.then_old (h : Done w w0 b bx B v u L) (hb : Below w0.heap.size w0 w') : Done w w' b bx B v u L := by
  obtain ⟨v', u', h1, h2, h3, h4⟩ := h
  exact ⟨v', u', h1.old hb, h2.trans (S' := fun _ => False) (Kp.of_below hb) (fun _ _ e => e.elim), h3, h4⟩

/-- What a call leaves of the bits. -/
def stepL (L : List Bool) (c : Int) (x : Nat) (n : Int) (p : List Int) : List Bool := if c = 0 then putL L x n else if c = 1 then turnL L x n else if c = 2 then alignL L else if c = 3 then alignL L ++ bB p else L

/-- A block of four cells. -/
theorem four_cell {w : World} {b : Nat} {x y z t : Value} {T : TypeId} (h : w.heap[b]? = some (.cells #[x, y, z, t] T (0, 0))) : w.cell? ⟨b, 0, none⟩ = some x ∧ w.cell? ⟨b, 1, none⟩ = some y ∧ w.cell? ⟨b, 2, none⟩ = some z ∧ w.cell? ⟨b, 3, none⟩ = some t := by simp [World.cell?, h]

end Go.Proofs.Ytkjccbihdinlkaa
