import Derived.Test.YtmfpdchfofffeaaGreatDoorSaM5
namespace Go.Proofs.YtmfpdchfofffeaaGreatDoor
set_option linter.unusedVariables false
theorem Ar12.get {n : Nat} {S : Nat → Int} {A : List Nat} (h : Ar12 n S A) {r : Nat} (hr : r < n) : A.getD r 0 < n := by
  have hl : r < A.length := by rw [h.len]; exact hr
  have := h.lt A[r] (List.getElem_mem hl)
  simpa [List.getD, hl] using this
theorem Ar12.pair {n : Nat} {S : Nat → Int} {A : List Nat} (h : Ar12 n S A) {r q : Nat} (hr : r < q) (hq : q < n) : Ls12 n S (A.getD r 0) (A.getD q 0) := by
  have hl : q < A.length := by rw [h.len]; exact hq
  have := List.pairwise_iff_getElem.1 h.so r q (by omega) hl hr
  have h2 : r < A.length := by omega
  simpa [List.getD, hl, h2] using this
theorem Ar12.inj {n : Nat} {S : Nat → Int} {A : List Nat} (h : Ar12 n S A) {r q : Nat} (hr : r < n) (hq : q < n) (e : A.getD r 0 = A.getD q 0) : r = q := by
  rcases Nat.lt_trichotomy r q with k | k | k
  · have := h.pair k hq; rw [e] at this; exact this.irrefl.elim
  · exact k
  · have := h.pair k hr; rw [e] at this; exact this.irrefl.elim
def rk13 (A : List Nat) (j : Nat) : Nat := A.idxOf j
theorem Ar12.rk {n : Nat} {S : Nat → Int} {A : List Nat} (h : Ar12 n S A) {j : Nat} (hj : j < n) : rk13 A j < n ∧ A.getD (rk13 A j) 0 = j := by
  have hm := h.all j hj
  have hl : rk13 A j < A.length := List.idxOf_lt_length_of_mem hm
  refine ⟨by rw [← h.len]; exact hl, ?_⟩
  have e := List.getElem_idxOf hl
  simp only [List.getD, List.getElem?_eq_getElem hl, Option.getD_some]
  exact e
theorem Ar12.rk_at {n : Nat} {S : Nat → Int} {A : List Nat} (h : Ar12 n S A) {r : Nat} (hr : r < n) : rk13 A (A.getD r 0) = r := by
  obtain ⟨h1, h2⟩ := h.rk (h.get hr)
  exact h.inj h1 hr h2
theorem Ar12.rk_none {n : Nat} {S : Nat → Int} {A : List Nat} (h : Ar12 n S A) : rk13 A n = n := by
  have : n ∉ A := fun hm => by have := h.lt n hm; omega
  unfold rk13
  rw [List.idxOf_eq_length this, h.len]
/-- The ranks of the places, of which so many are told. -/
def rp13 (n : Nat) (A : List Nat) (k : Nat) : List Int := (List.range (n + 1)).map fun j => if rk13 A j < k then ((rk13 A j : Nat) : Int) else 0
def rr13 (n : Nat) (A : List Nat) : List Int := (rp13 n A n).set n (-1)
theorem rp13_len (n : Nat) (A : List Nat) (k : Nat) : (rp13 n A k).length = n + 1 := by simp [rp13]
theorem rp13_zero (n : Nat) (A : List Nat) : rp13 n A 0 = List.replicate (n + 1) 0 := by
  refine List.ext_getElem (by simp [rp13]) fun i h1 h2 => ?_
  simp [rp13]
theorem rp13_set {n : Nat} {S : Nat → Int} {A : List Nat} (h : Ar12 n S A) {k : Nat} (hk : k < n) : (rp13 n A k).set (A.getD k 0) (k : Int) = rp13 n A (k + 1) := by
  refine List.ext_getElem (by simp [rp13]) fun i h1 h2 => ?_
  simp [rp13] at h2
  rw [List.getElem_set]
  by_cases e : A.getD k 0 = i
  · rw [if_pos e]
    have := h.rk_at hk
    rw [e] at this
    simp [rp13, this]
  · rw [if_neg e]
    simp only [rp13, List.getElem_map, List.getElem_range]
    have : rk13 A i ≠ k := by
      intro c
      rcases Nat.lt_or_ge i n with hi | hi
      · exact e (by rw [← c]; exact (h.rk hi).2)
      · have : i = n := by omega
        subst this
        rw [h.rk_none] at c
        omega
    by_cases c : rk13 A i < k
    · rw [if_pos c, if_pos (by omega)]
    · rw [if_neg c, if_neg (by omega)]
end Go.Proofs.YtmfpdchfofffeaaGreatDoor
