
import Derived.Test.YtkjccbihdinlkaaBtRr2
import Derived.Test.YtkjccbihdinlkaaWrPair
import Derived.Test.YtkjccbihdinlkaaOwnUse
import Derived.Deep.RegionHeld3
namespace Go.Proofs.Ytkjccbihdinlkaa
open Go.RowKit
set_option linter.unusedVariables false

/-- A Reader and the document's Reader beside each other. -/
structure RPair (w : World) (b bx B : Nat) (u : Value) (H : List Bool) (t : Nat) : Prop where
  r : Rd w b H t
  x : RrL w bx B u H t
  al : (t + H.length) % 8 = 0
def RS (b bx : Nat) (u : Value) : Nat → Prop := fun k => k = b ∨ WS bx u k
def DoneR (w w' : World) (b bx B : Nat) (u : Value) (H : List Bool) (t : Nat) : Prop := ∃ u', RPair w' b bx B u' H t ∧ Kp (RS b bx u) w w' ∧ Fresh w u u'
variable {w w0 w' wP wR : World} {b bx B : Nat} {u u' : Value} {H H' : List Bool} {t t' : Nat}
theorem RPair.kp {S : Nat → Prop} (h : RPair w b bx B u H t) (hk : Kp S w w') (h1 : ¬ S b) (h2 : ¬ S bx) (h3 : ∀ k, u.ownBlock = some k → ¬ S k) : RPair w' b bx B u H t :=
  ⟨h.r.kp hk h1, h.x.kp hk h2 h3, h.al⟩
theorem RPair.old (h : RPair w b bx B u H t) (hb : Below w.heap.size w w') : RPair w' b bx B u H t := h.kp (S := fun _ => False) (Kp.of_below hb) (by simp) (by simp) (by simp)
theorem RPair.done (h : RPair w' b bx B u H t) (hb : Below w.heap.size w w') : DoneR w w' b bx B u H t := ⟨u, h, Kp.of_below hb, Fresh.refl _ _⟩
theorem DoneR.after (hb : Below w.heap.size w w0) (h : DoneR w0 w' b bx B u H t) : DoneR w w' b bx B u H t := by
  obtain ⟨u', h1, h2, h3⟩ := h
  exact ⟨u', h1, (Kp.of_below hb).trans h2 (fun _ _ e => e), h3.wide hb.size⟩
theorem DoneR.then_kp {S : Nat → Prop} (h : DoneR w w0 b bx B u H t) (hk : Kp S w0 w') (hS : ∀ k, S k → w.heap.size ≤ k ∧ k ≠ b ∧ k ≠ bx ∧ ∀ {u'' : Value}, RrL w0 bx B u'' H t → Fresh w u u'' → u''.ownBlock ≠ some k) : DoneR w w' b bx B u H t := by
  obtain ⟨u', h1, h2, h3⟩ := h
  refine ⟨u', h1.kp hk (fun e => (hS _ e).2.1 rfl) (fun e => (hS _ e).2.2.1 rfl) (fun k e e2 => (hS k e2).2.2.2 h1.x h3 e), h2.trans hk (fun i hi e => by have := (hS i e).1; omega), h3⟩
theorem DoneR.then_old (h : DoneR w w0 b bx B u H t) (hb : Below w0.heap.size w0 w') : DoneR w w' b bx B u H t := by
  obtain ⟨u', h1, h2, h3⟩ := h
  exact ⟨u', h1.old hb, h2.trans (S' := fun _ => False) (Kp.of_below hb) (fun _ _ e => e.elim), h3⟩
theorem rr_kept (hx : RrL w bx B u H t) (hk : Kp (fun k => k = b) w w') (hb : b ≠ bx) (hb1 : b < B) : RrL w' bx B u H t :=
  hx.kp hk (fun e => hb e.symm) (fun k e e2 => by have := (hx.own_lt k e).1; omega)
theorem rd_kept {M : List Bool} {s : Nat} (hr : Rd w b H t) (hx : RrL w bx B u M s) (hk : Kp (WS bx u) w w') (hb : b ≠ bx) (hb1 : b < B) : Rd w' b H t := by
  refine hr.kp hk ?_
  rintro (e | e)
  · exact hb e
  · have := (hx.own_lt b e).1; omega
/-- First the one, then the other. -/
theorem rpair_pr (h : RPair w0 b bx B u H t) (hb : b ≠ bx) (hb1 : b < B) (gP : Rd wP b H' t') (kP : Kp (fun k => k = b) w0 wP) (gR : RrL wR bx B u' H' t') (kR : Kp (WS bx u) wP wR) (fR : Fresh wP u u') (al : (t' + H'.length) % 8 = 0) : DoneR w0 wR b bx B u H' t' := by
  have xP := rr_kept h.x kP hb hb1
  refine ⟨u', ⟨rd_kept gP xP kR hb hb1, gR, al⟩, ?_, fR.wide kP.size⟩
  exact (kP.mono (S' := RS b bx u) (fun _ _ e => .inl e)).trans kR (fun _ _ e => .inr e)
theorem rpair_rp (h : RPair w0 b bx B u H t) (hb : b ≠ bx) (hb1 : b < B) (gR : RrL wR bx B u' H' t') (kR : Kp (WS bx u) w0 wR) (fR : Fresh w0 u u') (gP : Rd wP b H' t') (kP : Kp (fun k => k = b) wR wP) (al : (t' + H'.length) % 8 = 0) : DoneR w0 wP b bx B u H' t' := by
  refine ⟨u', ⟨gP, rr_kept gR kP hb hb1, al⟩, ?_, fR⟩
  exact (kR.mono (S' := RS b bx u) (fun _ _ e => .inr e)).trans kP (fun _ _ e => .inl e)
theorem kp_one {w w' : World} {b : Nat} (h : w.grownBy w' (some b)) : Kp (fun k => k = b) w w' := Kp.grown h (by intro i e; cases e; rfl)

theorem take_sum (H : List Bool) (t : Nat) (n : Int) : takeT H t n + (takeL H n).length = t + H.length := by
  unfold takeT takeL
  cases hn : there H n
  · rfl
  · obtain ⟨k, rfl, h1, h2⟩ := there_yes hn
    simp only [if_true, Int.toNat_natCast, List.length_drop]
    omega
theorem takeL_le (H : List Bool) (n : Int) : (takeL H n).length ≤ H.length := by
  unfold takeL
  split <;> simp

end Go.Proofs.Ytkjccbihdinlkaa
