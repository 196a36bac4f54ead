
import Derived.Test.YtkjccbihdinlkaaCdY
import Derived.Test.YtkjccbihdinlkaaRdPair
namespace Go.Proofs.Ytkjccbihdinlkaa
open Go.RowKit
set_option linter.unusedVariables false

/-- A call of a script. -/
structure OpD where
  C : Int
  ba : Option Addr
  p : List Int
  bc : Nat
  N : Int
  la : Option Addr
  ls : List Int
  lc : Nat
  oth : Bool
/-- A script that came in. -/
structure SegD (w : World) (a : Option Addr) (n : Nat) (O : Nat → OpD) : Prop where
  at_ : ∀ i, i < n → ∃ b off, a = some ⟨b, off, none⟩ ∧ w.cell? ⟨b, off + i * 5, none⟩ = some (.int .i64 (O i).C) ∧ w.cell? ⟨b, off + i * 5 + 1, none⟩ = some (.slice (O i).ba (O i).p.length (O i).bc) ∧ w.cell? ⟨b, off + i * 5 + 2, none⟩ = some (.int .i64 (O i).N) ∧ w.cell? ⟨b, off + i * 5 + 3, none⟩ = some (.slice (O i).la (O i).ls.length (O i).lc) ∧ w.cell? ⟨b, off + i * 5 + 4, none⟩ = some (.bool (O i).oth)
  seg : ∀ i, i < n → Seg w (O i).ba (O i).p
  cap : ∀ i, i < n → (O i).p.length ≤ (O i).bc
  segL : ∀ i, i < n → SegZ w (O i).la (O i).ls
  nilL : ∀ i, i < n → (O i).la = none → (O i).lc = 0
  bd : ∀ i, i < n → -9223372036854775808 ≤ (O i).C ∧ (O i).C ≤ 9223372036854775807 ∧ -9223372036854775808 ≤ (O i).N ∧ (O i).N ≤ 9223372036854775807
theorem SegD.old {w w' : World} {a : Option Addr} {n : Nat} {O : Nat → OpD} (h : SegD w a n O) (hb : Below w.heap.size w w') : SegD w' a n O := by
  refine ⟨fun i hi => ?_, fun i hi => (h.seg i hi).old hb, h.cap, fun i hi => (h.segL i hi).old hb, h.nilL, h.bd⟩
  obtain ⟨b, off, ha, h0, h1, h2, h3, h4⟩ := h.at_ i hi
  have hlt := World.block_lt_of_cell? w _ h0
  exact ⟨b, off, ha, (hb.cell (p := ⟨b, off + i * 5, none⟩) hlt).trans h0, (hb.cell (p := ⟨b, off + i * 5 + 1, none⟩) hlt).trans h1, (hb.cell (p := ⟨b, off + i * 5 + 2, none⟩) hlt).trans h2, (hb.cell (p := ⟨b, off + i * 5 + 3, none⟩) hlt).trans h3, (hb.cell (p := ⟨b, off + i * 5 + 4, none⟩) hlt).trans h4⟩

/-- What stands at the head of a round: the decoder, both readers, the lengths that were loaded. -/
structure DI (wr : World) (bd br bx B S : Nat) (zs : List Int) (lv u : Value) (H : List Bool) (t : Nat) : Prop where
  de : De wr bd S zs
  r : Rd wr br H t
  x : RrL wr bx B u H t
  own : wr.ownsRow B 3 1 lv zs.length (zs.map (Value.int .i64))
  ap : Ap u.ownBlock lv.ownBlock
  ord : bd < br ∧ br < bx ∧ bx < B
variable {wr w' : World} {bd br bx B S : Nat} {zs : List Int} {lv u u' : Value} {H H' : List Bool} {t t' : Nat}
theorem DI.kp {Q : Nat → Prop} (h : DI wr bd br bx B S zs lv u H t) (hk : Kp Q wr w') (h1 : ∀ k, k < wr.heap.size → (k < B ∨ u.ownBlock = some k ∨ lv.ownBlock = some k) → (bd ≤ k) → ¬ Q k) : DI w' bd br bx B S zs lv u H t := by
  have hb := h.ord
  have hu := h.x.own_lt
  have hl : ∀ k, lv.ownBlock = some k → B ≤ k ∧ k < wr.heap.size := fun k e => h.own.lt k e
  have l1 := h.de.lt
  have l2 := h.r.b_lt
  have l3 := h.x.b_lt
  exact ⟨h.de.keep (hk.block bd l1 (h1 bd l1 (.inl (by omega)) (by omega))), h.r.kp hk (h1 br l2 (.inl (by omega)) (by omega)), h.x.kp hk (h1 bx l3 (.inl (by omega)) (by omega)) (fun k e => h1 k (hu k e).2.1 (.inr (.inl e)) (by have := (hu k e).1; omega)), own_kp h.own hk (fun k e => h1 k (hl k e).2 (.inr (.inr e)) (by have := (hl k e).1; omega)), h.ap, h.ord⟩
theorem DI.old (h : DI wr bd br bx B S zs lv u H t) (hb : Below wr.heap.size wr w') : DI w' bd br bx B S zs lv u H t := h.kp (Q := fun _ => False) (Kp.of_below hb) (fun _ _ _ _ e => e)
/-- Behind a call of the one reader and of the other one. -/
theorem DI.two {wP wR : World} (h : DI wr bd br bx B S zs lv u H t) (gP : Rd wP br H' t') (kP : Kp (fun k => k = br) wr wP) (gR : RrL wR bx B u' H' t') (kR : Kp (WS bx u) wP wR) (fR : Fresh wP u u') : DI wR bd br bx B S zs lv u' H' t' := by
  have hb := h.ord
  have hu := h.x.own_lt
  have hl : ∀ k, lv.ownBlock = some k → B ≤ k ∧ k < wr.heap.size := fun k e => h.own.lt k e
  have l1 := h.de.lt
  have hz := kP.size
  have hlt := h.x.b_lt
  have nP : ∀ k, k < B → k ≠ bx → ¬ WS bx u k := fun k hk hne => by
    rintro (e | e)
    · exact hne e
    · have := (hu k e).1; omega
  refine ⟨(h.de.keep (kP.block bd l1 (by omega))).keep (kR.block bd (by omega) (nP bd (by omega) (by omega))), gP.kp kR (nP br (by omega) (by omega)), gR, own_kp (own_kp h.own kP (fun k e => by have := (hl k e).1; omega)) kR (fun k e => ?_), fun k e1 e2 => ?_, h.ord⟩
  · rintro (e2 | e2)
    · have := (hl k e).1; omega
    · exact h.ap k e2 e
  · rcases fR k e1 with e | e
    · exact h.ap k e e2
    · have := (hl k e2).2; omega
theorem DI.two_below {wP wR : World} {N : Nat} (h : DI wr bd br bx B S zs lv u H t) (kP : Kp (fun k => k = br) wr wP) (kR : Kp (WS bx u) wP wR) (hN : N ≤ bd) : Below N wr wR := by
  have hb := h.ord
  have hu := h.x.own_lt
  have l1 := h.de.lt
  have := kP.size
  refine (kP.below (fun i e => by omega) (by omega)).trans (kR.below (fun i e => ?_) (by omega))
  rcases e with e | e
  · omega
  · have := (hu i e).1; omega
/-- Behind a load that changes the decoder alone. -/
theorem DI.load (h : DI wr bd br bx B S zs lv u H t) (hD : De w' bd S zs) (hk : Kp (fun x => x = bd) wr w') : DI w' bd br bx B S zs lv u H t := by
  have hb := h.ord
  exact ⟨hD, h.r.kp hk (by omega), h.x.kp hk (by omega) (fun k e => by have := (h.x.own_lt k e).1; omega), own_kp h.own hk (fun k e => by have := (h.own.lt k e).1; omega), h.ap, h.ord⟩
set_option maxRecDepth 100000 in
theorem next5_nil (b most : Nat) (zs : List Int) (w : World) (hD : De w b most zs) : Calls Try.prog 34 #[.pointer (some ⟨b, 0, none⟩), .pointer none] w fun e w' => e = .returned (.tuple #[.int .i64 0, .bool false, .int .i64 2]) ∧ w' = w := by
  obtain ⟨S, hS, hY, hb⟩ := hD.row
  have c0 := arr_cell hb (i := 0) (by simp [dl])
  have e0 : (dl most zs S).getD 0 0 = (most : Int) := rfl
  rw [e0] at c0
  have hm0 : ¬ (most : Int) = 0 := by have := hD.mo; omega
  clear e0
  go_enter Try.func34, Try.ntmps34
  go_wp2_with fail
  go_ret3
  exact ⟨rfl, rfl⟩
end Go.Proofs.Ytkjccbihdinlkaa
