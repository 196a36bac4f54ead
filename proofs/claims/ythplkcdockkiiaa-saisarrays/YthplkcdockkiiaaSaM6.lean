
import Derived.Test.YthplkcdockkiiaaSaM5
namespace Go.Proofs.Ythplkcdockkiiaa
set_option linter.unusedVariables false

/-! Merging two sorted lists of suffixes (the document's sorted, layer 12), as mathematics. -/
structure So12 (n : Nat) (S : Nat → Int) (lo hi : Nat) (L : List Nat) : Prop where
  len : L.length = hi - lo
  mem : ∀ j, j ∈ L ↔ lo ≤ j ∧ j < hi
  so : L.Pairwise (Ls12 n S)
structure Mg12 (n : Nat) (S : Nat → Int) (lo hi : Nat) (A B O : List Nat) : Prop where
  pa : A.Pairwise (Ls12 n S)
  pb : B.Pairwise (Ls12 n S)
  po : O.Pairwise (Ls12 n S)
  oa : ∀ x ∈ O, ∀ y ∈ A, Ls12 n S x y
  ob : ∀ x ∈ O, ∀ y ∈ B, Ls12 n S x y
  dj : ∀ x ∈ A, ∀ y ∈ B, x ≠ y
  mem : ∀ j, (j ∈ O ∨ j ∈ A ∨ j ∈ B) ↔ lo ≤ j ∧ j < hi
  len : O.length + A.length + B.length = hi - lo
theorem Mg12.start {n : Nat} {S : Nat → Int} {lo mid hi : Nat} {A B : List Nat} (h1 : lo ≤ mid) (h2 : mid ≤ hi) (ha : So12 n S lo mid A) (hb : So12 n S mid hi B) : Mg12 n S lo hi A B [] := by
  refine ⟨ha.so, hb.so, List.Pairwise.nil, fun x hx => by simp at hx, fun x hx => by simp at hx, fun x hx y hy e => ?_, fun j => ?_, by rw [ha.len, hb.len]; simp; omega⟩
  · have h3 := (ha.mem x).1 hx
    have h4 := (hb.mem y).1 hy
    omega
  · rw [ha.mem, hb.mem]
    simp
    omega
theorem Mg12.left {n : Nat} {S : Nat → Int} {lo hi x : Nat} {A B O : List Nat} (h : Mg12 n S lo hi (x :: A) B O) (hB : ∀ y r, B = y :: r → Ls12 n S x y) : Mg12 n S lo hi A B (O ++ [x]) := by
  have hp := List.pairwise_cons.1 h.pa
  have hxb : ∀ y ∈ B, Ls12 n S x y := by
    intro y hy
    cases hBe : B with
    | nil => rw [hBe] at hy; simp at hy
    | cons b r =>
      have hb := hB b r hBe
      rw [hBe, List.mem_cons] at hy
      rcases hy with rfl | hy
      · exact hb
      · have h5 := h.pb
        rw [hBe] at h5
        exact hb.trans ((List.pairwise_cons.1 h5).1 y hy)
  refine ⟨hp.2, h.pb, ?_, ?_, ?_, fun a ha b hb => h.dj a (by simp [ha]) b hb, fun j => ?_, by have := h.len; simp at this ⊢; omega⟩
  · rw [List.pairwise_append]
    exact ⟨h.po, List.pairwise_singleton _ _, fun a ha b hb => by simp at hb; subst hb; exact h.oa a ha b (by simp)⟩
  · intro a ha b hb
    rw [List.mem_append] at ha
    rcases ha with ha | ha
    · exact h.oa a ha b (by simp [hb])
    · simp at ha; subst ha; exact hp.1 b hb
  · intro a ha b hb
    rw [List.mem_append] at ha
    rcases ha with ha | ha
    · exact h.ob a ha b hb
    · simp at ha; subst ha; exact hxb b hb
  · rw [← h.mem j]
    simp only [List.mem_append, List.mem_cons, List.not_mem_nil, or_false]
    constructor
    · rintro ((a | a) | a | a)
      · exact Or.inl a
      · exact Or.inr (Or.inl (Or.inl a))
      · exact Or.inr (Or.inl (Or.inr a))
      · exact Or.inr (Or.inr a)
    · rintro (a | (a | a) | a)
      · exact Or.inl (Or.inl a)
      · exact Or.inl (Or.inr a)
      · exact Or.inr (Or.inl a)
      · exact Or.inr (Or.inr a)
theorem Mg12.swap {n : Nat} {S : Nat → Int} {lo hi : Nat} {A B O : List Nat} (h : Mg12 n S lo hi A B O) : Mg12 n S lo hi B A O :=
  ⟨h.pb, h.pa, h.po, h.ob, h.oa, fun x hx y hy e => h.dj y hy x hx e.symm, fun j => by rw [← h.mem j]; constructor <;> (rintro (a | a | a) <;> simp [a]), by have := h.len; omega⟩
/-- The other one: it is not greater, so it is less. -/
theorem Mg12.right {n : Nat} {S : Nat → Int} {lo hi y : Nat} {A B O : List Nat} (h : Mg12 n S lo hi A (y :: B) O) (hhi : hi ≤ n) (hA : ∀ x r, A = x :: r → ¬ Ls12 n S x y) : Mg12 n S lo hi A B (O ++ [y]) := by
  refine (Mg12.left h.swap fun x r hx => ?_).swap
  have h1 := (h.mem x).1 (Or.inr (Or.inl (by rw [hx]; simp)))
  have h2 := (h.mem y).1 (Or.inr (Or.inr (by simp)))
  have hne : x ≠ y := h.dj x (by rw [hx]; simp) y (by simp)
  rcases Ls12.total (n := n) (S := S) n x y (by omega) (by omega) (by omega) hne with k | k
  · exact absurd k (hA x r hx)
  · exact k
theorem Mg12.done {n : Nat} {S : Nat → Int} {lo hi : Nat} {O : List Nat} (h : Mg12 n S lo hi [] [] O) : So12 n S lo hi O :=
  ⟨by have := h.len; simpa using this, fun j => by rw [← h.mem j]; simp, h.po⟩
theorem So12.ar {n : Nat} {S : Nat → Int} {L : List Nat} (h : So12 n S 0 n L) : Ar12 n S L :=
  ⟨by have := h.len; simpa using this, fun j hj => ((h.mem j).1 hj).2, fun j hj => (h.mem j).2 ⟨Nat.zero_le _, hj⟩, h.so⟩
end Go.Proofs.Ythplkcdockkiiaa
