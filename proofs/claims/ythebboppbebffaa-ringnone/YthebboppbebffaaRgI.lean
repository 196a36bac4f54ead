
import Derived.Test.YthebboppbebffaaRgP7
namespace Go.Proofs.Ythebboppbebffaa
open Go.RowKit
set_option linter.unusedVariables false

/-! What the walks of layer 6's statements use of the program's ring. -/
variable {w w' : World} {b S : Nat} {F : Nat → Prop} {L : List Int}
theorem pheld_any (h : RP w b F S L) (hl : L.length ≤ 140737488355328) : Calls Try.prog 16 #[.pointer (some ⟨b, 0, none⟩)] w fun e w' => e = .returned (.int .i64 (heldN S L : Int)) ∧ Below w.heap.size w w' := by
  obtain ⟨g, K, rfl, h⟩ := h
  refine (pheld h).mono ?_
  rintro e w' ⟨rfl, rfl⟩
  exact ⟨rfl, Below.refl _ _⟩
theorem ptotal_any (h : RP w b F S L) (hl : L.length ≤ 140737488355328) : Calls Try.prog 15 #[.pointer (some ⟨b, 0, none⟩)] w fun e w' => e = .returned (.int .i64 (L.length : Int)) ∧ Below w.heap.size w w' := by
  obtain ⟨g, K, rfl, h⟩ := h
  refine (ptotal h).mono ?_
  rintro e w' ⟨rfl, rfl⟩
  exact ⟨rfl, Below.refl _ _⟩
theorem proom_any (h : RP w b F S L) (hl : L.length ≤ 140737488355328) : Calls Try.prog 22 #[.pointer (some ⟨b, 0, none⟩)] w fun e w' => e = .returned (.int .i64 (S : Int)) ∧ Below w.heap.size w w' := by
  obtain ⟨g, K, rfl, h⟩ := h
  refine (proom h).mono ?_
  rintro e w' ⟨rfl, rfl⟩
  exact ⟨rfl, Below.refl _ _⟩
theorem pat_any (d : Int) (h : RP w b F S L) (hl : L.length ≤ 140737488355328) : Calls Try.prog 17 #[.pointer (some ⟨b, 0, none⟩), .int .i64 d] w fun e w' => e = .returned (.tuple #[.int .u8 (atV S L d), .int .i64 (atE S L d)]) ∧ Below w.heap.size w w' := by
  obtain ⟨g, K, rfl, h⟩ := h
  exact pat_k d h hl
theorem pput_any (pa : Option Addr) (p : List Int) (np pc : Nat) (hnp : Hid (p.length = np)) (h : RP w b F S L) (hs : Seg w pa p) (hcap : np ≤ pc) (hnil : pa = none → pc = 0) (hfar : ∀ g off, pa = some ⟨g, off, none⟩ → 0 < p.length → ¬ F g) (hl : L.length + np ≤ 140737488355328) : Calls Try.prog 20 #[.pointer (some ⟨b, 0, none⟩), .slice pa np pc] w fun e w' => e = .returned (.int .i64 0) ∧ ∃ F', RP w' b F' S (L ++ p) ∧ Kp F w w' ∧ FrP w F F' := by
  obtain ⟨g, K, rfl, h⟩ := h
  refine (pput_k pa p np pc hnp h hs hcap hnil (fun x off e hp => ⟨fun e2 => hfar x off e hp (.inl e2), fun e2 => hfar x off e hp (.inr e2)⟩) hl).mono ?_
  rintro e w' ⟨rfl, K', h1, h2⟩
  exact ⟨rfl, FP b g, ⟨g, K', rfl, h1⟩, h2, fun k e => .inl e⟩
theorem pcopy_no (d n : Int) (h : RP w b F S L) (hl : L.length ≤ 140737488354000) (hno : ¬ copyOk S L d n) : Calls Try.prog 18 #[.pointer (some ⟨b, 0, none⟩), .int .i64 d, .int .i64 n] w fun e w' => e = .returned (.tuple #[.slice none 0 0, .int .i64 (if n < 0 ∨ 258 < n then 1 else 61)]) ∧ Below w.heap.size w w' := by
  obtain ⟨g, K, rfl, h⟩ := h
  refine (pcopy_no_k d n h hno).mono ?_
  rintro e w' ⟨rfl, rfl⟩
  exact ⟨rfl, Below.refl _ _⟩
theorem pcopy_ok (D N : Nat) (h : RP w b F S L) (hl : L.length ≤ 140737488354000) (hok : copyOk S L D N) : Calls Try.prog 18 #[.pointer (some ⟨b, 0, none⟩), .int .i64 (D : Int), .int .i64 (N : Int)] w fun e w' => ∃ oa oc F', e = .returned (.tuple #[.slice oa N oc, .int .i64 0]) ∧ w'.ownsRow w.heap.size 5 1 (.slice oa N oc) N ((cpyO L D N).map (Value.int .u8)) ∧ RP w' b F' S (cpyA L D N) ∧ Kp F w w' ∧ FrP w F F' ∧ Dj (OB (.slice oa N oc)) F' := by
  obtain ⟨g, K, rfl, h⟩ := h
  have h1 := h.b_lt
  have h2 := h.g_lt
  refine (pcopy_ok_k D N h hl hok).mono ?_
  rintro e w' ⟨rfl, h3, ⟨K', h4⟩, h5⟩
  refine ⟨_, _, FP b g, rfl, h3, ⟨g, K', rfl, h4⟩, h5, fun k e => .inl e, ?_⟩
  intro k e1 e2
  have := (h3.lt k e1).1
  rcases e2 with rfl | rfl <;> omega
theorem plast_no (n : Int) (h : RP w b F S L) (hl : L.length ≤ 140737488355328) (hno : n < 0 ∨ (heldN S L : Int) < n) : Calls Try.prog 19 #[.pointer (some ⟨b, 0, none⟩), .int .i64 n] w fun e w' => e = .returned (.tuple #[.slice none 0 0, .int .i64 1]) ∧ Below w.heap.size w w' := by
  obtain ⟨g, K, rfl, h⟩ := h
  refine (plast_no_k n h hno).mono ?_
  rintro e w' ⟨rfl, rfl⟩
  exact ⟨rfl, Below.refl _ _⟩
theorem plast_ok (N : Nat) (h : RP w b F S L) (hl : L.length ≤ 140737488354000) (hok : N ≤ heldN S L) : Calls Try.prog 19 #[.pointer (some ⟨b, 0, none⟩), .int .i64 (N : Int)] w fun e w' => ∃ oa oc, e = .returned (.tuple #[.slice oa N oc, .int .i64 0]) ∧ w'.ownsRow w.heap.size 5 1 (.slice oa N oc) N ((L.drop (L.length - N)).map (Value.int .u8)) ∧ Below w.heap.size w w' := by
  obtain ⟨g, K, rfl, h⟩ := h
  refine (plast_ok_k N h (by omega) hok).mono ?_
  rintro e w' ⟨rfl, h1, h2⟩
  exact ⟨_, _, rfl, h1, h2⟩
theorem preset_any (h : RP w b F S L) : Calls Try.prog 21 #[.pointer (some ⟨b, 0, none⟩)] w fun e w' => e = .returned (.tuple #[]) ∧ ∃ F', RP w' b F' S [] ∧ Kp F w w' ∧ FrP w F F' := by
  obtain ⟨g, K, rfl, h⟩ := h
  refine (preset_k h).mono ?_
  rintro e w' ⟨rfl, h1, h2⟩
  exact ⟨rfl, FP b g, ⟨g, _, rfl, h1⟩, h2, fun k e => .inl e⟩
end Go.Proofs.Ythebboppbebffaa
