import Derived.Test.YtkjccbihdinlkaaPt
import Derived.Test.YtkjccbihdinlkaaPo
import Derived.Deep.RegionHeld3
import Derived.Test.YtkjccbihdinlkaaPs
namespace Go.Proofs.Ytkjccbihdinlkaa
open Go.RowKit
set_option linter.unusedVariables false

/-- A Reader and the document's Reader beside each other. -/
structure RPair (w : World) (b bx B : Nat) (u : Value) (H : List Bool) (t : Nat) : Prop where
  r : Rd w b H t
  x : RrL w bx B u H t
  al : (t + H.length) % 8 = 0
def RS (b bx : Nat) (u : Value) : Nat → Prop := fun k => k = b ∨ WS bx u k
def DoneR (w w' : World) (b bx B : Nat) (u : Value) (H : List Bool) (t : Nat) : Prop := ∃ u', RPair w' b bx B u' H t ∧ Kp (RS b bx u) w w' ∧ Fresh w u u'
variable {w w0 w' wP wR : World} {b bx B : Nat} {u u' : Value} {H H' : List Bool} {t t' : Nat}
theorem RPair.kp {S : Nat → Prop} (h : RPair w b bx B u H t) (hk : Kp S w w') (h1 : ¬ S b) (h2 : ¬ S bx) (h3 : ∀ k, u.ownBlock = some k → ¬ S k) : RPair w' b bx B u H t :=
  ⟨h.r.kp hk h1, h.x.kp hk h2 h3, h.al⟩
theorem RPair.old (h : RPair w b bx B u H t) (hb : Below w.heap.size w w') : RPair w' b bx B u H t := h.kp (S := fun _ => False) (Kp.of_below hb) (by simp) (by simp) (by simp)
theorem RPair.done (h : RPair w' b bx B u H t) (hb : Below w.heap.size w w') : DoneR w w' b bx B u H t := ⟨u, h, Kp.of_below hb, Fresh.refl _ _⟩
theorem DoneR.after (hb : Below w.heap.size w w0) (h : DoneR w0 w' b bx B u H t) : DoneR w w' b bx B u H t := by
  obtain ⟨u', h1, h2, h3⟩ := h
  exact ⟨u', h1, (Kp.of_below hb).trans h2 (fun _ _ e => e), h3.wide hb.size⟩
theorem DoneR.then_kp {S : Nat → Prop} (h : DoneR w w0 b bx B u H t) (hk : Kp S w0 w') (hS : ∀ k, S k → w.heap.size ≤ k ∧ k ≠ b ∧ k ≠ bx ∧ ∀ {u'' : Value}, RrL w0 bx B u'' H t → Fresh w u u'' → u''.ownBlock ≠ some k) : DoneR w w' b bx B u H t := by
  obtain ⟨u', h1, h2, h3⟩ := h
  refine ⟨u', h1.kp hk (fun e => (hS _ e).2.1 rfl) (fun e => (hS _ e).2.2.1 rfl) (fun k e e2 => (hS k e2).2.2.2 h1.x h3 e), h2.trans hk (fun i hi e => by have := (hS i e).1; omega), h3⟩
theorem DoneR.then_old (h : DoneR w w0 b bx B u H t) (hb : Below w0.heap.size w0 w') : DoneR w w' b bx B u H t := by
  obtain ⟨u', h1, h2, h3⟩ := h
  exact ⟨u', h1.old hb, h2.trans (S' := fun _ => False) (Kp.of_below hb) (fun _ _ e => e.elim), h3⟩
theorem rr_kept (hx : RrL w bx B u H t) (hk : Kp (fun k => k = b) w w') (hb : b ≠ bx) (hb1 : b < B) : RrL w' bx B u H t :=
  hx.kp hk (fun e => hb e.symm) (fun k e e2 => by have := (hx.own_lt k e).1; omega)
theorem rd_kept {M : List Bool} {s : Nat} (hr : Rd w b H t) (hx : RrL w bx B u M s) (hk : Kp (WS bx u) w w') (hb : b ≠ bx) (hb1 : b < B) : Rd w' b H t := by
  refine hr.kp hk ?_
  rintro (e | e)
  · exact hb e
  · have := (hx.own_lt b e).1; omega
/-- First the one, then the other. -/
theorem rpair_pr (h : RPair w0 b bx B u H t) (hb : b ≠ bx) (hb1 : b < B) (gP : Rd wP b H' t') (kP : Kp (fun k => k = b) w0 wP) (gR : RrL wR bx B u' H' t') (kR : Kp (WS bx u) wP wR) (fR : Fresh wP u u') (al : (t' + H'.length) % 8 = 0) : DoneR w0 wR b bx B u H' t' := by
  have xP := rr_kept h.x kP hb hb1
  refine ⟨u', ⟨rd_kept gP xP kR hb hb1, gR, al⟩, ?_, fR.wide kP.size⟩
  exact (kP.mono (S' := RS b bx u) (fun _ _ e => .inl e)).trans kR (fun _ _ e => .inr e)
theorem rpair_rp (h : RPair w0 b bx B u H t) (hb : b ≠ bx) (hb1 : b < B) (gR : RrL wR bx B u' H' t') (kR : Kp (WS bx u) w0 wR) (fR : Fresh w0 u u') (gP : Rd wP b H' t') (kP : Kp (fun k => k = b) wR wP) (al : (t' + H'.length) % 8 = 0) : DoneR w0 wP b bx B u H' t' := by
  refine ⟨u', ⟨gP, rr_kept gR kP hb hb1, al⟩, ?_, fR⟩
  exact (kR.mono (S' := RS b bx u) (fun _ _ e => .inr e)).trans kP (fun _ _ e => .inl e)
theorem kp_one {w w' : World} {b : Nat} (h : w.grownBy w' (some b)) : Kp (fun k => k = b) w w' := Kp.grown h (by intro i e; cases e; rfl)

theorem take_sum (H : List Bool) (t : Nat) (n : Int) : takeT H t n + (takeL H n).length = t + H.length := by
  unfold takeT takeL
  cases hn : there H n
  · rfl
  · obtain ⟨k, rfl, h1, h2⟩ := there_yes hn
    simp only [if_true, Int.toNat_natCast, List.length_drop]
    omega
theorem takeL_le (H : List Bool) (n : Int) : (takeL H n).length ≤ H.length := by
  unfold takeL
  split <;> simp

end Go.Proofs.Ytkjccbihdinlkaa

namespace Go.Proofs.Ytkjccbihdinlkaa
open Go.RowKit
set_option linter.unusedVariables false

/-- A call of a script. -/
structure OpD where
  C : Int
  ba : Option Addr
  p : List Int
  bc : Nat
  N : Int
  la : Option Addr
  ls : List Int
  lc : Nat
  oth : Bool
/-- A script that came in. -/
structure SegD (w : World) (a : Option Addr) (n : Nat) (O : Nat → OpD) : Prop where
  at_ : ∀ i, i < n → ∃ b off, a = some ⟨b, off, none⟩ ∧ w.cell? ⟨b, off + i * 5, none⟩ = some (.int .i64 (O i).C) ∧ w.cell? ⟨b, off + i * 5 + 1, none⟩ = some (.slice (O i).ba (O i).p.length (O i).bc) ∧ w.cell? ⟨b, off + i * 5 + 2, none⟩ = some (.int .i64 (O i).N) ∧ w.cell? ⟨b, off + i * 5 + 3, none⟩ = some (.slice (O i).la (O i).ls.length (O i).lc) ∧ w.cell? ⟨b, off + i * 5 + 4, none⟩ = some (.bool (O i).oth)
  seg : ∀ i, i < n → Seg w (O i).ba (O i).p
  cap : ∀ i, i < n → (O i).p.length ≤ (O i).bc
  segL : ∀ i, i < n → SegZ w (O i).la (O i).ls
  nilL : ∀ i, i < n → (O i).la = none → (O i).lc = 0
  bd : ∀ i, i < n → -9223372036854775808 ≤ (O i).C ∧ (O i).C ≤ 9223372036854775807 ∧ -9223372036854775808 ≤ (O i).N ∧ (O i).N ≤ 9223372036854775807
theorem SegD.old {w w' : World} {a : Option Addr} {n : Nat} {O : Nat → OpD} (h : SegD w a n O) (hb : Below w.heap.size w w') : SegD w' a n O := by
  refine ⟨fun i hi => ?_, fun i hi => (h.seg i hi).old hb, h.cap, fun i hi => (h.segL i hi).old hb, h.nilL, h.bd⟩
  obtain ⟨b, off, ha, h0, h1, h2, h3, h4⟩ := h.at_ i hi
  have hlt := World.block_lt_of_cell? w _ h0
  exact ⟨b, off, ha, (hb.cell (p := ⟨b, off + i * 5, none⟩) hlt).trans h0, (hb.cell (p := ⟨b, off + i * 5 + 1, none⟩) hlt).trans h1, (hb.cell (p := ⟨b, off + i * 5 + 2, none⟩) hlt).trans h2, (hb.cell (p := ⟨b, off + i * 5 + 3, none⟩) hlt).trans h3, (hb.cell (p := ⟨b, off + i * 5 + 4, none⟩) hlt).trans h4⟩

/-- What stands at the head of a round: the decoder, both readers, the lengths that were loaded. -/
structure DI (wr : World) (bd br bx B S : Nat) (zs : List Int) (lv u : Value) (H : List Bool) (t : Nat) : Prop where
  de : De wr bd S zs
  r : Rd wr br H t
  x : RrL wr bx B u H t
  own : wr.ownsRow B 3 1 lv zs.length (zs.map (Value.int .i64))
  ap : Ap u.ownBlock lv.ownBlock
  ord : bd < br ∧ br < bx ∧ bx < B
variable {wr w' : World} {bd br bx B S : Nat} {zs : List Int} {lv u u' : Value} {H H' : List Bool} {t t' : Nat}
theorem DI.kp {Q : Nat → Prop} (h : DI wr bd br bx B S zs lv u H t) (hk : Kp Q wr w') (h1 : ∀ k, k < wr.heap.size → (k < B ∨ u.ownBlock = some k ∨ lv.ownBlock = some k) → (bd ≤ k) → ¬ Q k) : DI w' bd br bx B S zs lv u H t := by
  have hb := h.ord
  have hu := h.x.own_lt
  have hl : ∀ k, lv.ownBlock = some k → B ≤ k ∧ k < wr.heap.size := fun k e => h.own.lt k e
  have l1 := h.de.lt
  have l2 := h.r.b_lt
  have l3 := h.x.b_lt
  exact ⟨h.de.keep (hk.block bd l1 (h1 bd l1 (.inl (by omega)) (by omega))), h.r.kp hk (h1 br l2 (.inl (by omega)) (by omega)), h.x.kp hk (h1 bx l3 (.inl (by omega)) (by omega)) (fun k e => h1 k (hu k e).2.1 (.inr (.inl e)) (by have := (hu k e).1; omega)), own_kp h.own hk (fun k e => h1 k (hl k e).2 (.inr (.inr e)) (by have := (hl k e).1; omega)), h.ap, h.ord⟩
theorem DI.old (h : DI wr bd br bx B S zs lv u H t) (hb : Below wr.heap.size wr w') : DI w' bd br bx B S zs lv u H t := h.kp (Q := fun _ => False) (Kp.of_below hb) (fun _ _ _ _ e => e)
/-- Behind a call of the one reader and of the other one. -/
theorem DI.two {wP wR : World} (h : DI wr bd br bx B S zs lv u H t) (gP : Rd wP br H' t') (kP : Kp (fun k => k = br) wr wP) (gR : RrL wR bx B u' H' t') (kR : Kp (WS bx u) wP wR) (fR : Fresh wP u u') : DI wR bd br bx B S zs lv u' H' t' := by
  have hb := h.ord
  have hu := h.x.own_lt
  have hl : ∀ k, lv.ownBlock = some k → B ≤ k ∧ k < wr.heap.size := fun k e => h.own.lt k e
  have l1 := h.de.lt
  have hz := kP.size
  have hlt := h.x.b_lt
  have nP : ∀ k, k < B → k ≠ bx → ¬ WS bx u k := fun k hk hne => by
    rintro (e | e)
    · exact hne e
    · have := (hu k e).1; omega
  refine ⟨(h.de.keep (kP.block bd l1 (by omega))).keep (kR.block bd (by omega) (nP bd (by omega) (by omega))), gP.kp kR (nP br (by omega) (by omega)), gR, own_kp (own_kp h.own kP (fun k e => by have := (hl k e).1; omega)) kR (fun k e => ?_), fun k e1 e2 => ?_, h.ord⟩
  · rintro (e2 | e2)
    · have := (hl k e).1; omega
    · exact h.ap k e2 e
  · rcases fR k e1 with e | e
    · exact h.ap k e e2
    · have := (hl k e2).2; omega
theorem DI.two_below {wP wR : World} {N : Nat} (h : DI wr bd br bx B S zs lv u H t) (kP : Kp (fun k => k = br) wr wP) (kR : Kp (WS bx u) wP wR) (hN : N ≤ bd) : Below N wr wR := by
  have hb := h.ord
  have hu := h.x.own_lt
  have l1 := h.de.lt
  have := kP.size
  refine (kP.below (fun i e => by omega) (by omega)).trans (kR.below (fun i e => ?_) (by omega))
  rcases e with e | e
  · omega
  · have := (hu i e).1; omega
/-- Behind a load that changes the decoder alone. -/
theorem DI.load (h : DI wr bd br bx B S zs lv u H t) (hD : De w' bd S zs) (hk : Kp (fun x => x = bd) wr w') : DI w' bd br bx B S zs lv u H t := by
  have hb := h.ord
  exact ⟨hD, h.r.kp hk (by omega), h.x.kp hk (by omega) (fun k e => by have := (h.x.own_lt k e).1; omega), own_kp h.own hk (fun k e => by have := (h.own.lt k e).1; omega), h.ap, h.ord⟩
set_option maxRecDepth 100000 in
theorem next5_nil (b most : Nat) (zs : List Int) (w : World) (hD : De w b most zs) : Calls Try.prog 34 #[.pointer (some ⟨b, 0, none⟩), .pointer none] w fun e w' => e = .returned (.tuple #[.int .i64 0, .bool false, .int .i64 2]) ∧ w' = w := by
  obtain ⟨S, hS, hY, hb⟩ := hD.row
  have c0 := arr_cell hb (i := 0) (by simp [dl])
  have e0 : (dl most zs S).getD 0 0 = (most : Int) := rfl
  rw [e0] at c0
  have hm0 : ¬ (most : Int) = 0 := by have := hD.mo; omega
  clear e0
  go_enter Try.func34, Try.ntmps34
  go_wp2_with fail
  go_ret3
  exact ⟨rfl, rfl⟩
end Go.Proofs.Ytkjccbihdinlkaa
