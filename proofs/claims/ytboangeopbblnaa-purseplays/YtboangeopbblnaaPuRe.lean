
import Derived.Test.YtboangeopbblnaaPuRd
namespace Go.Proofs.Ytboangeopbblnaa
open Go.RowKit Go.Maps Go.WideMaps Go.MuLone Go.Shelf
set_option linter.unusedVariables false
set_option linter.unusedSimpArgs false
set_option maxRecDepth 100000

/-! A purse and the document's beside it. -/
structure Dk23 (w0 w : World) (p l m x g0 g : Nat) (S T : Pu23) : Prop where
  a : Pm23 w p l m S
  b : Rr23 w x g T
  d : x ≠ l ∧ x ≠ m ∧ x ≠ p ∧ g ≠ l ∧ g ≠ m ∧ g ≠ p
  h : g = g0 ∨ w0.heap.size ≤ g
  k : Kp (fun k => k = l ∨ k = m ∨ k = x ∨ k = g0) w0 w
theorem Pm23.lt3 {w : World} {p l m : Nat} {S : Pu23} (h : Pm23 w p l m S) : p < w.heap.size ∧ l < w.heap.size ∧ m < w.heap.size := ⟨(Array.getElem?_eq_some_iff.1 h.hp).1, h.lg.lt.1, h.lg.lt.2⟩
section
variable {w0 w w' : World} {p l m x g0 g : Nat} {S T S' T' : Pu23}
theorem Dk23.turn_a (h : Dk23 w0 w p l m x g0 g S T) (h' : Pm23 w' p l m S') (hk : Kp (fun k => k = l ∨ k = m) w w') : Dk23 w0 w' p l m x g0 g S' T :=
  ⟨h', h.b.kp hk (by have := h.d; omega) (by have := h.d; omega), h.d, h.h, h.k.trans hk (fun i _ e => by rcases e with e | e <;> simp [e])⟩
theorem Dk23.turn_b {g' : Nat} (h : Dk23 w0 w p l m x g0 g S T) (h' : Rr23 w' x g' T') (hg : g' = g ∨ w.heap.size ≤ g') (hk : Kp (fun k => k = x ∨ k = g) w w') : Dk23 w0 w' p l m x g0 g' S T' := by
  have hl := h.a.lt3
  have hs := h.k.size
  have hh := h.h
  have hd := h.d
  refine ⟨h.a.kp hk (by omega) (by omega) (by omega), h', by omega, by omega, h.k.trans hk (fun i hi e => ?_)⟩
  rcases e with e | e
  · exact .inr (.inr (.inl e))
  · rcases hh with hh | hh
    · exact .inr (.inr (.inr (by rw [e, hh])))
    · omega
theorem Dk23.below (h : Dk23 w0 w p l m x g0 g S T) (hb : Below w.heap.size w w') : Dk23 w0 w' p l m x g0 g S T :=
  ⟨h.a.below hb, h.b.below hb, h.d, h.h, h.k.trans (Kp.of_below (S := fun _ => False) hb) (fun _ _ f => f.elim)⟩
theorem Dk23.pk (h : Dk23 w0 w p l m x g0 g S T) : w.cell? ⟨x, 1, none⟩ = some (.int .i64 T.pk) := by
  obtain ⟨ra, rc, a, _⟩ := h.b.ex
  exact (two_c23 a).2
theorem kHld23 (h : Dk23 w0 w p l m x g0 g S T) {s : ByteArray} (hs : s.size ≤ 9223372036854775807) (n : Int) :
    Calls Try.prog 15 #[.pointer (some ⟨p, 0, none⟩), .string s, .int .i64 n] w fun e w' => e = .returned (.int .i64 (hE23 S s n)) ∧ Dk23 w0 w' p l m x g0 g (hS23 S s n) T :=
  (pHld23 h.a hs n).mono fun e w' ⟨he, h1, h2⟩ => ⟨he, h.turn_a h1 h2⟩
theorem kOpn23 (h : Dk23 w0 w p l m x g0 g S T) {s : ByteArray} (hs : s.size ≤ 9223372036854775807) (n : Int) :
    Calls Try.prog 14 #[.pointer (some ⟨p, 0, none⟩), .string s, .int .i64 n] w fun e w' => e = .returned (.int .i64 (oE23 S s n)) ∧ Dk23 w0 w' p l m x g0 g (oS23 S s n) T :=
  (pOpn23 h.a hs n).mono fun e w' ⟨he, h1, h2⟩ => ⟨he, h.turn_a h1 h2⟩
theorem kHed23 (h : Dk23 w0 w p l m x g0 g S T) :
    Calls Try.prog 12 #[.pointer (some ⟨p, 0, none⟩)] w fun e w' => e = .returned (.int .i64 (hs23 S.L)) ∧ Dk23 w0 w' p l m x g0 g S T :=
  (pHed23 h.a).mono fun e w' ⟨he, h1, h2⟩ => ⟨he, h.turn_a h1 h2⟩
theorem kPek23 (h : Dk23 w0 w p l m x g0 g S T) :
    Calls Try.prog 16 #[.pointer (some ⟨p, 0, none⟩)] w fun e w' => e = .returned (.int .i64 S.pk) ∧ Dk23 w0 w' p l m x g0 g S T :=
  (pPek23 h.a).mono fun e w' ⟨he, h1, h2⟩ => ⟨he, h.turn_a h1 h2⟩
theorem kMst23 (h : Dk23 w0 w p l m x g0 g S T) :
    Calls Try.prog 17 #[.pointer (some ⟨p, 0, none⟩)] w fun e w' => e = .returned (.int .i64 (ms23 S.L)) ∧ Dk23 w0 w' p l m x g0 g S T :=
  (pMst23 h.a).mono fun e w' ⟨he, h1, h2⟩ => ⟨he, h.turn_a h1 h2⟩
theorem jHld23 (h : Dk23 w0 w p l m x g0 g S T) (s : ByteArray) (n : Int) :
    Calls Try.prog 25 #[.pointer (some ⟨x, 0, none⟩), .string s, .int .i64 n] w fun e w' => e = .returned (.int .i64 (hE23 T s n)) ∧ ∃ g', Dk23 w0 w' p l m x g0 g' S (hS23 T s n) :=
  (rhld23 h.b s n).mono fun e w' ⟨he, h1, h2⟩ => ⟨he, g, h.turn_b h1 (.inl rfl) h2⟩
theorem jOpn23 (h : Dk23 w0 w p l m x g0 g S T) {s : ByteArray} (hs : s.size ≤ 9223372036854775807) (n : Int) :
    Calls Try.prog 26 #[.pointer (some ⟨x, 0, none⟩), .string s, .int .i64 n] w fun e w' => e = .returned (.int .i64 (oE23 T s n)) ∧ ∃ g', Dk23 w0 w' p l m x g0 g' S (oS23 T s n) :=
  (ropn23 h.b hs n).mono fun e w' ⟨he, g', h1, h2, h3⟩ => ⟨he, g', h.turn_b h1 h2 h3⟩
theorem jHed23 (h : Dk23 w0 w p l m x g0 g S T) :
    Calls Try.prog 13 #[.pointer (some ⟨x, 0, none⟩)] w fun e w' => e = .returned (.int .i64 (hs23 T.L)) ∧ Dk23 w0 w' p l m x g0 g S T :=
  (rhed23 h.b).mono fun e w' ⟨he, h1⟩ => ⟨he, h.below h1⟩
theorem jMst23 (h : Dk23 w0 w p l m x g0 g S T) :
    Calls Try.prog 27 #[.pointer (some ⟨x, 0, none⟩)] w fun e w' => e = .returned (.int .i64 (ms23 T.L)) ∧ Dk23 w0 w' p l m x g0 g S T :=
  (rmst23 h.b).mono fun e w' ⟨he, h1⟩ => ⟨he, h.below h1⟩
end
/-- A call of a script. -/
def stp23 (S : Pu23) (o : Oq23) : Pu23 := if o.h = true then hS23 S o.s o.n else oS23 S o.s o.n
theorem Dk23.base {w0 w1 w : World} {p l m x g0 g : Nat} {S T : Pu23} (h : Dk23 w1 w p l m x g0 g S T) (hb : Below w0.heap.size w0 w1) : Dk23 w0 w p l m x g0 g S T :=
  ⟨h.a, h.b, h.d, h.h.imp id (fun e => Nat.le_trans hb.size e), (Kp.of_below (S := fun k => k = l ∨ k = m ∨ k = x ∨ k = g0) hb).trans h.k (fun _ _ e => e)⟩
/-- Blocks made since w0 that are none of its own may be written over. -/
theorem Dk23.rows {w0 w w' : World} {p l m x g0 g : Nat} {S T : Pu23} (h : Dk23 w0 w p l m x g0 g S T) {F : Nat → Prop} (hk : Kp F w w') (h0 : ∀ k, F k → w0.heap.size ≤ k) (h1 : ∀ k, F k → k ≠ p ∧ k ≠ l ∧ k ≠ m ∧ k ≠ x ∧ k ≠ g) : Dk23 w0 w' p l m x g0 g S T :=
  ⟨h.a.kp hk (fun e => (h1 _ e).1 rfl) (fun e => (h1 _ e).2.1 rfl) (fun e => (h1 _ e).2.2.1 rfl), h.b.kp hk (fun e => (h1 _ e).2.2.2.1 rfl) (fun e => (h1 _ e).2.2.2.2 rfl), h.d, h.h, h.k.trans hk (fun i hi e => by have := h0 i e; omega)⟩
theorem kNam23 {w0 w : World} {p l m x g0 g : Nat} {S T : Pu23} (h : Dk23 w0 w p l m x g0 g S T) :
    Calls Try.prog 18 #[.pointer (some ⟨p, 0, none⟩)] w fun e w' => ∃ ra n rc, e = .returned (.slice ra n rc) ∧ n = S.L.length ∧ w'.ownsRow w.heap.size 9 1 (.slice ra n rc) n ((S.L.map Ho23.nm).map Value.string) ∧ Dk23 w0 w' p l m x g0 g S T ∧ Kp (fun k => k = l ∨ k = m) w w' :=
  (pNam23 h.a).mono fun e w' ⟨ra, n, rc, he, hn, ho, h1, h2⟩ => ⟨ra, n, rc, he, hn, ho, h.turn_a h1 h2, h2⟩
end Go.Proofs.Ytboangeopbblnaa
