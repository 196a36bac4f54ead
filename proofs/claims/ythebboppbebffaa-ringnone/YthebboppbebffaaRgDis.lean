
import Derived.Test.YthebboppbebffaaRgCall
namespace Go.Proofs.Ythebboppbebffaa
open Go.RowKit
set_option linter.unusedVariables false

/-! Footprints: the blocks that an object owns. -/
def RF (b : Nat) (v : Value) (k : Nat) : Prop := k = b ∨ v.ownBlock = some k
def Dj (P Q : Nat → Prop) : Prop := ∀ k, P k → Q k → False
theorem Dj.symm {P Q : Nat → Prop} (h : Dj P Q) : Dj Q P := fun k a b => h k b a
/-- What an object owns behind a call: what it owned, or new blocks. -/
def FrP (w : World) (F F' : Nat → Prop) : Prop := ∀ k, F' k → F k ∨ w.heap.size ≤ k
theorem Dj.fresh {w : World} {F F' Q : Nat → Prop} (h : Dj F Q) (hf : FrP w F F') (hq : ∀ k, Q k → k < w.heap.size) : Dj F' Q := fun k a b => by
  rcases hf k a with e | e
  · exact h k e b
  · have := hq k b; omega
/-- The document's ring by its footprint. -/
def WR (w : World) (b : Nat) (F : Nat → Prop) (S : Nat) (L : List Int) : Prop := ∃ B v, F = RF b v ∧ RgR w b B S v L
variable {w w' : World} {b S : Nat} {F : Nat → Prop} {L : List Int}
theorem WR.lt (h : WR w b F S L) : ∀ k, F k → k < w.heap.size := by
  obtain ⟨B, v, rfl, h⟩ := h
  rintro k (e | e)
  · subst e; exact h.b_lt
  · exact (h.own_lt k e).2.1
theorem WR.kp {Q : Nat → Prop} (h : WR w b F S L) (hk : Kp Q w w') (hn : Dj F Q) : WR w' b F S L := by
  obtain ⟨B, v, rfl, h⟩ := h
  exact ⟨B, v, rfl, h.kp hk (fun e => hn b (.inl rfl) e) (fun k e e2 => hn k (.inr e) e2)⟩
theorem WR.old (h : WR w b F S L) (hb : Below w.heap.size w w') : WR w' b F S L := h.kp (Q := fun _ => False) (Kp.of_below hb) (fun _ _ e => e)
theorem WR.bd (h : WR w b F S L) : ∀ z ∈ L, 0 ≤ z ∧ z ≤ 255 := by
  obtain ⟨B, v, rfl, h⟩ := h
  exact h.bd
theorem WR.has (h : WR w b F S L) : F b := by
  obtain ⟨B, v, rfl, h⟩ := h
  exact .inl rfl
theorem WR.cells (h : WR w b F S L) : ∃ a cap, w.cell? ⟨b, 0, none⟩ = some (.int .i64 (S : Int)) ∧ w.cell? ⟨b, 1, none⟩ = some (.slice a L.length cap) := by
  obtain ⟨B, v, rfl, a, c, rfl, h⟩ := h
  exact ⟨a, c, two_cell0 h.hp, two_cell1 h.hp⟩
theorem WR.new {w : World} {b S : Nat} (h : w.heap[b]? = some (.cells #[.int .i64 (S : Int), .slice none 0 0] 59 (0, 0))) : WR w b (RF b (.slice none 0 0)) S [] := ⟨0, _, rfl, RgR.new h (Nat.zero_le _)⟩
theorem Kp.blw {Q : Nat → Prop} {w w' : World} {N : Nat} (h : Kp Q w w') (hq : ∀ k, Q k → N ≤ k) (hN : N ≤ w.heap.size) : Below N w w' := h.below hq hN
theorem wheld_any (h : WR w b F S L) (hl : L.length ≤ 4611686018427387904) (hS : S ≤ 32768) :
    Calls Try.prog 25 #[.pointer (some ⟨b, 0, none⟩)] w fun e w' => e = .returned (.int .i64 (heldN S L : Int)) ∧ Below w.heap.size w w' := by
  obtain ⟨B, v, rfl, h⟩ := h
  exact rheld6_any b B S v L w h hl hS
theorem wat_any (d : Int) (h : WR w b F S L) (hl : L.length ≤ 4611686018427387904) (hS : S ≤ 32768) :
    Calls Try.prog 27 #[.pointer (some ⟨b, 0, none⟩), .int .i64 d] w fun e w' => e = .returned (.tuple #[.int .u8 (atV S L d), .int .i64 (atE S L d)]) ∧ Below w.heap.size w w' := by
  obtain ⟨B, v, rfl, h⟩ := h
  exact rat6_any b B S v L d w h hl hS
theorem wput_any (pa : Option Addr) (p : List Int) (np pc : Nat) (hnp : Hid (p.length = np)) (h : WR w b F S L) (hs : Seg w pa p) (hnil : pa = none → pc = 0) (hl : L.length + np ≤ 140737488355328) :
    Calls Try.prog 26 #[.pointer (some ⟨b, 0, none⟩), .slice pa np pc] w fun e w' => e = .returned (.tuple #[]) ∧ ∃ F', WR w' b F' S (L ++ p) ∧ Kp F w w' ∧ FrP w F F' := by
  obtain ⟨B, v, rfl, h⟩ := h
  refine (rput6_any b B S v L pa p np pc hnp w h hs hnil hl).mono ?_
  rintro e w' ⟨rfl, v', h1, h2, h3⟩
  refine ⟨rfl, RF b v', ⟨B, v', rfl, h1⟩, h2.mono (fun k _ e => .inl e), ?_⟩
  rintro k (e | e)
  · exact .inl (.inl e)
  · exact .inr (h3 k e)
theorem wcopy_no (d n : Int) (h : WR w b F S L) (hl : L.length ≤ 4611686018427387904) (hS : S ≤ 32768) (hno : ¬ copyOk S L d n) :
    Calls Try.prog 28 #[.pointer (some ⟨b, 0, none⟩), .int .i64 d, .int .i64 n] w fun e w' => e = .returned (.tuple #[.slice none 0 0, .int .i64 (if n < 0 ∨ 258 < n then 1 else 61)]) ∧ Below w.heap.size w w' := by
  obtain ⟨B, v, rfl, h⟩ := h
  exact rcopy6_no b B S v L d n w h hl hS hno
theorem wcopy_ok (D N : Nat) (h : WR w b F S L) (hl : L.length ≤ 70368744177664) (hS : S ≤ 32768) (hok : copyOk S L D N) :
    Calls Try.prog 28 #[.pointer (some ⟨b, 0, none⟩), .int .i64 (D : Int), .int .i64 (N : Int)] w fun e w' => ∃ oa oc F', e = .returned (.tuple #[.slice oa N oc, .int .i64 0]) ∧ w'.ownsRow w.heap.size 5 1 (.slice oa N oc) N ((cpyO L D N).map (Value.int .u8)) ∧ WR w' b F' S (cpyA L D N) ∧ Kp F w w' ∧ FrP w F F' ∧ Dj (OB (.slice oa N oc)) F' := by
  obtain ⟨B, v, rfl, h⟩ := h
  have hlt := h.b_lt
  refine (rcopy6_ok b B S v L D N w h hl hS hok).mono ?_
  rintro e w' ⟨oa, oc, v', rfl, h1, h2, h3, h4, h5⟩
  refine ⟨oa, oc, RF b v', rfl, h1, ⟨B, v', rfl, h2⟩, h3.mono (fun k _ e => .inl e), ?_, ?_⟩
  · rintro k (e | e)
    · exact .inl (.inl e)
    · rcases h5 k e with e | e
      · exact .inl (.inr e)
      · exact .inr e
  · rintro k e1 (e | e)
    · have := (h1.lt k e1).1; omega
    · exact h4 k e1 e
theorem wlast_no (n : Int) (h : WR w b F S L) (hl : L.length ≤ 4611686018427387904) (hS : S ≤ 32768) (hno : n < 0 ∨ (heldN S L : Int) < n) :
    Calls Try.prog 30 #[.pointer (some ⟨b, 0, none⟩), .int .i64 n] w fun e w' => e = .returned (.tuple #[.slice none 0 0, .int .i64 1]) ∧ Below w.heap.size w w' := by
  obtain ⟨B, v, rfl, h⟩ := h
  exact rlast6_no b B S v L n w h hl hS hno
theorem wlast_ok (N : Nat) (h : WR w b F S L) (hl : L.length ≤ 70368744177664) (hS : S ≤ 32768) (hok : N ≤ heldN S L) :
    Calls Try.prog 30 #[.pointer (some ⟨b, 0, none⟩), .int .i64 (N : Int)] w fun e w' => ∃ oa oc, e = .returned (.tuple #[.slice oa N oc, .int .i64 0]) ∧ w'.ownsRow w.heap.size 5 1 (.slice oa N oc) N ((L.drop (L.length - N)).map (Value.int .u8)) ∧ Below w.heap.size w w' := by
  obtain ⟨B, v, rfl, h⟩ := h
  exact rlast6_ok b B S v L N w h hl hS hok
end Go.Proofs.Ythebboppbebffaa
