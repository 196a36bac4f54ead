
import Derived.Test.YtfogknlinmchjaaSuM2
namespace Go.Proofs.Ytfogknlinmchjaa
set_option linter.unusedVariables false

/-! Repeat (layer 13), as mathematics. -/
theorem lc13_self : ∀ X : List Int, lc13 X X = X.length
  | [] => rfl
  | x :: X => by unfold lc13; rw [if_pos rfl, lc13_self X]; rfl
theorem lm13_ge {z : List Int} {A : List Nat} {r m : Nat} : ∀ d, (∀ e, e ≤ d → m ≤ lv13 z A (r + 1 + e)) → m ≤ lm13 z A r d
  | 0, h => h 0 (Nat.le_refl _)
  | d + 1, h => by
    unfold lm13
    have h1 := lm13_ge d (fun e he => h e (by omega))
    have h2 := h (d + 1) (Nat.le_refl _)
    omega
theorem lm13_lt {z : List Int} {A : List Nat} {r m : Nat} : ∀ d e, e ≤ d → lv13 z A (r + 1 + e) < m → lm13 z A r d < m
  | 0, e, he, h => by
    have : e = 0 := by omega
    subst this
    exact h
  | d + 1, e, he, h => by
    unfold lm13
    by_cases c : e = d + 1
    · subst c; omega
    · have := lm13_lt d e (by omega) h
      omega
/-- The greatest so far, and where it is first. -/
structure Mk13 (z : List Int) (A : List Nat) (k m r : Nat) : Prop where
  le : ∀ q, q < k → lv13 z A q ≤ m
  at_ : 0 < m → r < k ∧ lv13 z A r = m ∧ ∀ q, q < r → lv13 z A q < m
  no : m = 0 → r = 0
theorem Mk13.zero (z : List Int) (A : List Nat) : Mk13 z A 0 0 0 := ⟨fun q h => by omega, fun h => by omega, fun _ => rfl⟩
theorem Mk13.more {z : List Int} {A : List Nat} {k m r : Nat} (h : Mk13 z A k m r) (hk : m < lv13 z A k) : Mk13 z A (k + 1) (lv13 z A k) k :=
  ⟨fun q hq => by
    by_cases c : q = k
    · subst c; exact Nat.le_refl _
    · have := h.le q (by omega); omega, fun _ => ⟨by omega, rfl, fun q hq => by have := h.le q hq; omega⟩, fun c => by omega⟩
theorem Mk13.same {z : List Int} {A : List Nat} {k m r : Nat} (h : Mk13 z A k m r) (hk : ¬ m < lv13 z A k) : Mk13 z A (k + 1) m r :=
  ⟨fun q hq => by
    by_cases c : q = k
    · subst c; omega
    · exact h.le q (by omega), fun c => ⟨by have := (h.at_ c).1; omega, (h.at_ c).2⟩, h.no⟩
theorem Mk13.unique {z : List Int} {A : List Nat} {k m r m' r' : Nat} (h : Mk13 z A k m r) (h' : Mk13 z A k m' r') : m = m' ∧ r = r' := by
  have e : m = m' := by
    rcases Nat.lt_trichotomy m m' with c | c | c
    · obtain ⟨a, b, _⟩ := h'.at_ (by omega)
      have := h.le r' a
      omega
    · exact c
    · obtain ⟨a, b, _⟩ := h.at_ (by omega)
      have := h'.le r a
      omega
  subst e
  refine ⟨rfl, ?_⟩
  by_cases c : m = 0
  · rw [h.no c, h'.no c]
  · obtain ⟨a1, a2, a3⟩ := h.at_ (by omega)
    obtain ⟨b1, b2, b3⟩ := h'.at_ (by omega)
    rcases Nat.lt_trichotomy r r' with d | d | d
    · have := b3 r d; omega
    · exact d
    · have := a3 r' d; omega
/-- The least place with so many bytes of that suffix. -/
structure Lp13 (z : List Int) (a m i : Nat) : Prop where
  lt : i < z.length
  ge : m ≤ lc13 (z.drop i) (z.drop a)
  least : ∀ j, j < i → lc13 (z.drop j) (z.drop a) < m
theorem Lp13.unique {z : List Int} {a m i i' : Nat} (h : Lp13 z a m i) (h' : Lp13 z a m i') : i = i' := by
  rcases Nat.lt_trichotomy i i' with c | c | c
  · have := h'.least i c; have := h.ge; omega
  · exact c
  · have := h.least i' c; have := h'.ge; omega
structure Sp13 (z : List Int) (A : List Nat) (m r lo hi : Nat) : Prop where
  lo1 : lo ≤ r
  hi1 : r < hi
  hi2 : hi ≤ z.length
  dn : ∀ q, lo < q → q ≤ r → m ≤ lv13 z A q
  up : ∀ q, r < q → q < hi → m ≤ lv13 z A q
  stop : lv13 z A lo < m
  top : hi = z.length ∨ lv13 z A hi < m
theorem Sp13.iff {z : List Int} {A : List Nat} {m r lo hi : Nat} (hA : Ar12 z.length (S12 z) A) (h : Sp13 z A m r lo hi) (hm : lv13 z A r = m) {q : Nat} (hq : q < z.length) : m ≤ lc13 (z.drop (A.getD q 0)) (z.drop (A.getD r 0)) ↔ (lo ≤ q ∧ q < hi) := by
  have hr : r < z.length := Nat.lt_of_lt_of_le h.hi1 h.hi2
  rcases Nat.lt_trichotomy q r with c | c | c
  · have e := lm13_is hA q (r - q - 1) (by omega)
    rw [show q + 1 + (r - q - 1) = r by omega] at e
    rw [e]
    by_cases d : lo ≤ q
    · refine ⟨fun _ => ⟨d, by have := h.hi1; omega⟩, fun _ => lm13_ge _ fun e he => h.dn _ (by omega) (by omega)⟩
    · refine ⟨fun k => ?_, fun k => absurd k.1 d⟩
      have := lm13_lt (z := z) (A := A) (r := q) (m := m) (r - q - 1) (lo - q - 1) (by have := h.lo1; omega) (by rw [show q + 1 + (lo - q - 1) = lo by omega]; exact h.stop)
      omega
  · subst c
    rw [lc13_self, List.length_drop]
    have h1 := (lv13_le hA hr).1
    exact ⟨fun _ => ⟨h.lo1, h.hi1⟩, fun _ => by omega⟩
  · have e := lm13_is hA r (q - r - 1) (by omega)
    rw [show r + 1 + (q - r - 1) = q by omega] at e
    rw [lc13_comm, e]
    by_cases d : q < hi
    · refine ⟨fun _ => ⟨by have := h.lo1; omega, d⟩, fun _ => lm13_ge _ fun e he => h.up _ (by omega) (by omega)⟩
    · refine ⟨fun k => ?_, fun k => absurd k.2 d⟩
      rcases h.top with t | t
      · omega
      · have := lm13_lt (z := z) (A := A) (r := r) (m := m) (q - r - 1) (hi - r - 1) (by have := h.hi1; omega) (by rw [show r + 1 + (hi - r - 1) = hi by have := h.hi1; omega]; exact t)
        omega
theorem Sp13.place {z : List Int} {A : List Nat} {m r lo hi i : Nat} (hA : Ar12 z.length (S12 z) A) (h : Sp13 z A m r lo hi) (hm : lv13 z A r = m) (h1 : ∃ q, lo ≤ q ∧ q < hi ∧ A.getD q 0 = i) (h2 : ∀ q, lo ≤ q → q < hi → i ≤ A.getD q 0) : Lp13 z (A.getD r 0) m i := by
  obtain ⟨q, q1, q2, rfl⟩ := h1
  have hq : q < z.length := Nat.lt_of_lt_of_le q2 h.hi2
  refine ⟨hA.get hq, (h.iff hA hm hq).2 ⟨q1, q2⟩, fun j hj => ?_⟩
  have hjl : j < z.length := Nat.lt_trans hj (hA.get hq)
  obtain ⟨g1, g2⟩ := hA.rk hjl
  rcases Nat.lt_or_ge (lc13 (z.drop j) (z.drop (A.getD r 0))) m with c | c
  · exact c
  · rw [← g2] at c
    have := (h.iff hA hm g1).1 c
    have := h2 _ this.1 this.2
    omega
end Go.Proofs.Ytfogknlinmchjaa
