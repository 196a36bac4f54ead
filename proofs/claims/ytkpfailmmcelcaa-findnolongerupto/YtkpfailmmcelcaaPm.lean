import Derived.Test.YtkpfailmmcelcaaPj
import Derived.Test.YtkpfailmmcelcaaPl
import Derived.Lib.SliceRun
namespace Go.Proofs.Ytkpfailmmcelcaa
set_option linter.unusedVariables false

/-! What two texts have in common; ranks; what neighbours have in common (layer 13), as mathematics. -/
def lc13 : List Int → List Int → Nat
  | x :: a, y :: b => if x = y then lc13 a b + 1 else 0
  | _, _ => 0
theorem lc13_nil (b : List Int) : lc13 [] b = 0 := by cases b <;> rfl
theorem lc13_nil' (a : List Int) : lc13 a [] = 0 := by cases a <;> rfl
theorem lc13_comm : ∀ (a b : List Int), lc13 a b = lc13 b a
  | [], b => by rw [lc13_nil, lc13_nil']
  | a, [] => by rw [lc13_nil, lc13_nil']
  | x :: a, y :: b => by
    unfold lc13
    by_cases e : x = y
    · subst e; rw [if_pos rfl, if_pos rfl, lc13_comm a b]
    · rw [if_neg e, if_neg (fun h => e h.symm)]
theorem lc13_le : ∀ (a b : List Int), lc13 a b ≤ a.length
  | [], b => by rw [lc13_nil]; exact Nat.zero_le _
  | a, [] => by rw [lc13_nil']; exact Nat.zero_le _
  | x :: a, y :: b => by
    unfold lc13
    have := lc13_le a b
    split <;> simp <;> omega
theorem lc13_le' (a b : List Int) : lc13 a b ≤ b.length := by rw [lc13_comm]; exact lc13_le b a
theorem lc13_take : ∀ (a b : List Int), a.take (lc13 a b) = b.take (lc13 a b)
  | [], b => by rw [lc13_nil]; simp
  | a, [] => by rw [lc13_nil']; simp
  | x :: a, y :: b => by
    unfold lc13
    by_cases e : x = y
    · subst e; rw [if_pos rfl, List.take_succ_cons, List.take_succ_cons, lc13_take a b]
    · rw [if_neg e]; rfl
theorem lc13_is : ∀ (a b : List Int) (m : Nat), a.take m = b.take m → m ≤ a.length → m ≤ b.length → (m < a.length → m < b.length → a.getD m 0 ≠ b.getD m 0) → lc13 a b = m
  | [], b, m, _, h, _, _ => by rw [lc13_nil]; simp at h; exact h.symm
  | a, [], m, _, _, h, _ => by rw [lc13_nil']; simp at h; exact h.symm
  | x :: a, y :: b, 0, _, _, _, h => by
    have := h (by simp) (by simp)
    simp [List.getD] at this
    unfold lc13
    rw [if_neg this]
  | x :: a, y :: b, m + 1, h1, h2, h3, h4 => by
    rw [List.take_succ_cons, List.take_succ_cons, List.cons.injEq] at h1
    unfold lc13
    rw [if_pos h1.1, lc13_is a b m h1.2 (by simpa using h2) (by simpa using h3) (fun p q => by have := h4 (by simp; omega) (by simp; omega); simpa [List.getD] using this)]
theorem lc13_get : ∀ (a b : List Int) (m : Nat), m < lc13 a b → a.getD m 0 = b.getD m 0
  | [], b, m, h => by rw [lc13_nil] at h; omega
  | a, [], m, h => by rw [lc13_nil'] at h; omega
  | x :: a, y :: b, m, h => by
    unfold lc13 at h
    by_cases e : x = y
    · rw [if_pos e] at h
      cases m with
      | zero => simpa [List.getD] using e
      | succ m => have := lc13_get a b m (by omega); simpa [List.getD] using this
    · rw [if_neg e] at h; omega
theorem lc13_end : ∀ (a b : List Int), lc13 a b < a.length → lc13 a b < b.length → a.getD (lc13 a b) 0 ≠ b.getD (lc13 a b) 0
  | [], b, h, _ => by simp at h
  | a, [], _, h => by simp at h
  | x :: a, y :: b, h, k => by
    unfold lc13 at h k ⊢
    by_cases e : x = y
    · rw [if_pos e] at h k ⊢
      have := lc13_end a b (by simpa using h) (by simpa using k)
      simpa [List.getD] using this
    · rw [if_neg e]; simpa [List.getD] using e
theorem lc13_ge {a b : List Int} {m : Nat} (h : a.take m = b.take m) (ha : m ≤ a.length) (hb : m ≤ b.length) : m ≤ lc13 a b := by
  rcases Nat.lt_or_ge (lc13 a b) m with k | k
  · exfalso
    refine lc13_end a b (by omega) (by omega) ?_
    have e := congrArg (fun l : List Int => l.getD (lc13 a b) 0) h
    simpa [List.getD, k] using e
  · exact k
/-- Of three in their order. -/
theorem lc13_min {a b : List Int} (h : LL12 a b) : ∀ {c : List Int}, LL12 b c → lc13 a c = min (lc13 a b) (lc13 b c) := by
  induction h with
  | nil => intro c k; rw [lc13_nil, lc13_nil]; omega
  | lt h1 =>
    rename_i x y a b
    intro c k
    cases k with
    | lt h2 => unfold lc13; rw [if_neg (by omega), if_neg (by omega), if_neg (by omega)]; rfl
    | eq h2 => unfold lc13; rw [if_neg (by omega), if_neg (by omega)]; omega
  | eq h1 ih =>
    intro c k
    cases k with
    | lt h2 => unfold lc13; rw [if_neg (by omega), if_pos rfl, if_neg (by omega)]; omega
    | eq h2 => unfold lc13; rw [if_pos rfl, if_pos rfl, if_pos rfl, ih h2]; omega
/-- The order of suffixes as that of lists. -/
theorem drop_cons13 {z : List Int} {i : Nat} (h : i < z.length) : z.drop i = z.getD i 0 :: z.drop (i + 1) := by
  rw [List.drop_eq_getElem_cons h]
  simp [List.getD, h]
theorem ls_ll13 {z : List Int} {i j : Nat} (h : Ls12 z.length (S12 z) i j) : LL12 (z.drop i) (z.drop j) := by
  induction h with
  | fin h1 h2 => rw [List.drop_eq_nil_of_le (by omega), drop_cons13 h2]; exact .nil
  | lt h1 h2 h3 => rw [drop_cons13 h1, drop_cons13 h2]; exact .lt h3
  | eq h1 h2 h3 _ ih => rw [drop_cons13 h1, drop_cons13 h2]; unfold S12 at h3; rw [h3]; exact .eq ih
theorem ll_ls13 {z : List Int} : ∀ (d i j : Nat), z.length ≤ i + d → LL12 (z.drop i) (z.drop j) → Ls12 z.length (S12 z) i j
  | d, i, j, hd, h => by
    by_cases hj : j < z.length
    · by_cases hi : i < z.length
      · rw [drop_cons13 hi, drop_cons13 hj] at h
        rcases h.inv with h1 | ⟨h1, h2⟩
        · exact .lt hi hj h1
        · cases d with
          | zero => omega
          | succ d => exact .eq hi hj h1 (ll_ls13 d (i + 1) (j + 1) (by omega) h2)
      · exact .fin hi hj
    · rw [List.drop_eq_nil_of_le (by omega : z.length ≤ j)] at h
      exact h.no.elim
theorem ll_total13 : ∀ (a b : List Int), a = b ∨ LL12 a b ∨ LL12 b a
  | [], [] => Or.inl rfl
  | [], _ :: _ => Or.inr (Or.inl .nil)
  | _ :: _, [] => Or.inr (Or.inr .nil)
  | x :: a, y :: b => by
    rcases Int.lt_trichotomy x y with e | e | e
    · exact Or.inr (Or.inl (.lt e))
    · subst e
      rcases ll_total13 a b with k | k | k
      · exact Or.inl (by rw [k])
      · exact Or.inr (Or.inl (.eq k))
      · exact Or.inr (Or.inr (.eq k))
    · exact Or.inr (Or.inr (.lt e))
/-! Ranks. -/
theorem Ar12.get {n : Nat} {S : Nat → Int} {A : List Nat} (h : Ar12 n S A) {r : Nat} (hr : r < n) : A.getD r 0 < n := by
  have hl : r < A.length := by rw [h.len]; exact hr
  have := h.lt A[r] (List.getElem_mem hl)
  simpa [List.getD, hl] using this
theorem Ar12.pair {n : Nat} {S : Nat → Int} {A : List Nat} (h : Ar12 n S A) {r q : Nat} (hr : r < q) (hq : q < n) : Ls12 n S (A.getD r 0) (A.getD q 0) := by
  have hl : q < A.length := by rw [h.len]; exact hq
  have := List.pairwise_iff_getElem.1 h.so r q (by omega) hl hr
  have h2 : r < A.length := by omega
  simpa [List.getD, hl, h2] using this
theorem Ar12.inj {n : Nat} {S : Nat → Int} {A : List Nat} (h : Ar12 n S A) {r q : Nat} (hr : r < n) (hq : q < n) (e : A.getD r 0 = A.getD q 0) : r = q := by
  rcases Nat.lt_trichotomy r q with k | k | k
  · have := h.pair k hq; rw [e] at this; exact this.irrefl.elim
  · exact k
  · have := h.pair k hr; rw [e] at this; exact this.irrefl.elim
def rk13 (A : List Nat) (j : Nat) : Nat := A.idxOf j
theorem Ar12.rk {n : Nat} {S : Nat → Int} {A : List Nat} (h : Ar12 n S A) {j : Nat} (hj : j < n) : rk13 A j < n ∧ A.getD (rk13 A j) 0 = j := by
  have hm := h.all j hj
  have hl : rk13 A j < A.length := List.idxOf_lt_length_of_mem hm
  refine ⟨by rw [← h.len]; exact hl, ?_⟩
  have e := List.getElem_idxOf hl
  simp only [List.getD, List.getElem?_eq_getElem hl, Option.getD_some]
  exact e
theorem Ar12.rk_at {n : Nat} {S : Nat → Int} {A : List Nat} (h : Ar12 n S A) {r : Nat} (hr : r < n) : rk13 A (A.getD r 0) = r := by
  obtain ⟨h1, h2⟩ := h.rk (h.get hr)
  exact h.inj h1 hr h2
theorem Ar12.rk_none {n : Nat} {S : Nat → Int} {A : List Nat} (h : Ar12 n S A) : rk13 A n = n := by
  have : n ∉ A := fun hm => by have := h.lt n hm; omega
  unfold rk13
  rw [List.idxOf_eq_length this, h.len]
/-- The ranks of the places, of which so many are told. -/
def rp13 (n : Nat) (A : List Nat) (k : Nat) : List Int := (List.range (n + 1)).map fun j => if rk13 A j < k then ((rk13 A j : Nat) : Int) else 0
def rr13 (n : Nat) (A : List Nat) : List Int := (rp13 n A n).set n (-1)
theorem rp13_len (n : Nat) (A : List Nat) (k : Nat) : (rp13 n A k).length = n + 1 := by simp [rp13]
theorem rr13_len (n : Nat) (A : List Nat) : (rr13 n A).length = n + 1 := by simp [rr13, rp13]
theorem rp13_get {n : Nat} {A : List Nat} {k j : Nat} (h : j < n + 1) : (rp13 n A k).getD j 0 = if rk13 A j < k then ((rk13 A j : Nat) : Int) else 0 := by simp [rp13, List.getD, h]
theorem rp13_zero (n : Nat) (A : List Nat) : rp13 n A 0 = List.replicate (n + 1) 0 := by
  refine List.ext_getElem (by simp [rp13]) fun i h1 h2 => ?_
  simp [rp13]
theorem rp13_set {n : Nat} {S : Nat → Int} {A : List Nat} (h : Ar12 n S A) {k : Nat} (hk : k < n) : (rp13 n A k).set (A.getD k 0) (k : Int) = rp13 n A (k + 1) := by
  refine List.ext_getElem (by simp [rp13]) fun i h1 h2 => ?_
  simp [rp13] at h2
  rw [List.getElem_set]
  by_cases e : A.getD k 0 = i
  · rw [if_pos e]
    have := h.rk_at hk
    rw [e] at this
    simp [rp13, this]
  · rw [if_neg e]
    simp only [rp13, List.getElem_map, List.getElem_range]
    have : rk13 A i ≠ k := by
      intro c
      rcases Nat.lt_or_ge i n with hi | hi
      · exact e (by rw [← c]; exact (h.rk hi).2)
      · have : i = n := by omega
        subst this
        rw [h.rk_none] at c
        omega
    by_cases c : rk13 A i < k
    · rw [if_pos c, if_pos (by omega)]
    · rw [if_neg c, if_neg (by omega)]
theorem rr13_get {n : Nat} {S : Nat → Int} {A : List Nat} (h : Ar12 n S A) {j : Nat} (hj : j < n) : (rr13 n A).getD j 0 = ((rk13 A j : Nat) : Int) := by
  have h1 : j < n + 1 := by omega
  have h2 : ¬ n = j := by omega
  have h3 := (h.rk hj).1
  unfold rr13
  simp [List.getD, h2]
  simp [rp13, h1, h3]
theorem rr13_end (n : Nat) (A : List Nat) : (rr13 n A).getD n 0 = -1 := by
  unfold rr13
  simp [List.getD, rp13]
/-! What neighbours have in common. -/
def lv13 (z : List Int) (A : List Nat) (r : Nat) : Nat := if r = 0 then 0 else lc13 (z.drop (A.getD r 0)) (z.drop (A.getD (r - 1) 0))
def lp13 (z : List Int) (A : List Nat) : List Int := (List.range z.length).map fun r => ((lv13 z A r : Nat) : Int)
def lk13 (z : List Int) (A : List Nat) (k : Nat) : List Int := (List.range z.length).map fun r => if A.getD r 0 < k then ((lv13 z A r : Nat) : Int) else 0
theorem lp13_len (z : List Int) (A : List Nat) : (lp13 z A).length = z.length := by simp [lp13]
theorem lk13_len (z : List Int) (A : List Nat) (k : Nat) : (lk13 z A k).length = z.length := by simp [lk13]
theorem lp13_get {z : List Int} {A : List Nat} {r : Nat} (h : r < z.length) : (lp13 z A).getD r 0 = ((lv13 z A r : Nat) : Int) := by simp [lp13, List.getD, h]
theorem lk13_zero (z : List Int) (A : List Nat) : lk13 z A 0 = List.replicate z.length 0 := by
  refine List.ext_getElem (by simp [lk13]) fun i h1 h2 => ?_
  simp [lk13]
theorem lk13_all {z : List Int} {A : List Nat} {S : Nat → Int} (h : Ar12 z.length S A) : lk13 z A z.length = lp13 z A := by
  refine List.ext_getElem (by simp [lk13, lp13]) fun i h1 h2 => ?_
  simp [lk13] at h1
  have := h.get h1
  simp only [lk13, lp13, List.getElem_map, List.getElem_range]
  rw [if_pos this]
theorem lk13_set {z : List Int} {A : List Nat} {S : Nat → Int} (h : Ar12 z.length S A) {j : Nat} (hj : j < z.length) : (lk13 z A j).set (rk13 A j) ((lv13 z A (rk13 A j) : Nat) : Int) = lk13 z A (j + 1) := by
  obtain ⟨h1, h2⟩ := h.rk hj
  refine List.ext_getElem (by simp [lk13]) fun i h3 h4 => ?_
  simp [lk13] at h4
  rw [List.getElem_set]
  by_cases e : rk13 A j = i
  · rw [if_pos e]
    subst e
    simp only [lk13, List.getElem_map, List.getElem_range]
    rw [if_pos (by omega)]
  · rw [if_neg e]
    simp only [lk13, List.getElem_map, List.getElem_range]
    have : A.getD i 0 ≠ j := by
      intro c
      exact e (h.inj h1 h4 (by rw [h2, c]))
    by_cases c : A.getD i 0 < j
    · rw [if_pos c, if_pos (by omega)]
    · rw [if_neg c, if_neg (by omega)]
theorem lk13_skip {z : List Int} {A : List Nat} {S : Nat → Int} (h : Ar12 z.length S A) {j : Nat} (hj : j < z.length) (h0 : rk13 A j = 0) : lk13 z A (j + 1) = lk13 z A j := by
  obtain ⟨h1, h2⟩ := h.rk hj
  refine List.ext_getElem (by simp [lk13]) fun i h3 h4 => ?_
  simp [lk13] at h4
  simp only [lk13, List.getElem_map, List.getElem_range]
  by_cases e : i = 0
  · subst e
    have : lv13 z A 0 = 0 := rfl
    rw [this]
    split <;> split <;> rfl
  · have : A.getD i 0 ≠ j := by
      intro c
      have := h.inj h1 h4 (by rw [h2, c])
      omega
    by_cases c : A.getD i 0 < j
    · rw [if_pos c, if_pos (by omega)]
    · rw [if_neg c, if_neg (by omega)]
theorem lv13_le {z : List Int} {A : List Nat} {S : Nat → Int} (h : Ar12 z.length S A) {r : Nat} (hr : r < z.length) : A.getD r 0 + lv13 z A r ≤ z.length ∧ (0 < r → A.getD (r - 1) 0 + lv13 z A r ≤ z.length) := by
  have h1 := h.get hr
  unfold lv13
  by_cases e : r = 0
  · rw [if_pos e]; exact ⟨by omega, fun k => by omega⟩
  · rw [if_neg e]
    have h2 := h.get (r := r - 1) (by omega)
    have h3 := lc13_le (z.drop (A.getD r 0)) (z.drop (A.getD (r - 1) 0))
    have h4 := lc13_le' (z.drop (A.getD r 0)) (z.drop (A.getD (r - 1) 0))
    rw [List.length_drop] at h3 h4
    exact ⟨by omega, fun _ => by omega⟩
/-- Kasai's step: what is known of the next place. -/
theorem kasai13 {z : List Int} {A : List Nat} (h : Ar12 z.length (S12 z) A) {j : Nat} (hj : j + 1 < z.length) (h0 : ¬ rk13 A (j + 1) = 0) :
    lv13 z A (rk13 A j) - 1 ≤ lv13 z A (rk13 A (j + 1)) := by
  obtain ⟨h1, h2⟩ := h.rk (j := j) (by omega)
  obtain ⟨h3, h4⟩ := h.rk hj
  by_cases e : rk13 A j = 0
  · unfold lv13; rw [if_pos e]; omega
  · unfold lv13
    rw [if_neg e, if_neg h0, h2, h4]
    have h5 := h.pair (r := rk13 A j - 1) (q := rk13 A j) (by omega) h1
    have h6 := h.get (r := rk13 A j - 1) (by omega)
    have h7 := h.pair (r := rk13 A (j + 1) - 1) (q := rk13 A (j + 1)) (by omega) h3
    rw [h2] at h5
    rw [h4] at h7
    generalize hp : A.getD (rk13 A j - 1) 0 = p at *
    generalize hq : A.getD (rk13 A (j + 1) - 1) 0 = q at *
    have hc : lc13 (z.drop j) (z.drop p) = if z.getD j 0 = z.getD p 0 then lc13 (z.drop (j + 1)) (z.drop (p + 1)) + 1 else 0 := by
      rw [drop_cons13 (by omega : j < z.length), drop_cons13 h6]; rfl
    rw [hc]
    by_cases e2 : z.getD j 0 = z.getD p 0
    · rw [if_pos e2, Nat.add_sub_cancel]
      have h8 : Ls12 z.length (S12 z) (p + 1) (j + 1) := h5.tail h6 e2.symm
      rcases Nat.lt_or_ge (p + 1) z.length with k | k
      · obtain ⟨g1, g2⟩ := h.rk k
        have g3 : rk13 A (p + 1) < rk13 A (j + 1) := by
          rcases Nat.lt_trichotomy (rk13 A (p + 1)) (rk13 A (j + 1)) with c | c | c
          · exact c
          · have : p + 1 = j + 1 := by rw [← g2, ← h4, c]
            rw [this] at h8; exact h8.irrefl.elim
          · have := h.pair c g1; rw [g2, h4] at this; exact (h8.asymm this).elim
        rcases Nat.lt_or_ge (rk13 A (p + 1)) (rk13 A (j + 1) - 1) with c | c
        · have g4 := h.pair (r := rk13 A (p + 1)) (q := rk13 A (j + 1) - 1) c (by omega)
          rw [g2, hq] at g4
          have := lc13_min (ls_ll13 g4) (ls_ll13 h7)
          rw [lc13_comm (z.drop (j + 1)) (z.drop (p + 1)), lc13_comm (z.drop (j + 1)) (z.drop q), this]
          omega
        · have : rk13 A (p + 1) = rk13 A (j + 1) - 1 := by omega
          have : q = p + 1 := by rw [← hq, ← this, g2]
          rw [this]; exact Nat.le_refl _
      · rw [List.drop_eq_nil_of_le k, lc13_nil']; exact Nat.zero_le _
    · rw [if_neg e2]; omega
/-- What two suffixes have in common is the least of what neighbours between them have. -/
def lm13 (z : List Int) (A : List Nat) (r : Nat) : Nat → Nat
  | 0 => lv13 z A (r + 1)
  | d + 1 => min (lm13 z A r d) (lv13 z A (r + 1 + (d + 1)))
theorem lm13_is {z : List Int} {A : List Nat} (h : Ar12 z.length (S12 z) A) (r : Nat) : ∀ d, r + 1 + d < z.length → lc13 (z.drop (A.getD r 0)) (z.drop (A.getD (r + 1 + d) 0)) = lm13 z A r d
  | 0, hd => by
    unfold lm13 lv13
    rw [if_neg (by omega), lc13_comm, Nat.add_zero, Nat.add_sub_cancel]
  | d + 1, hd => by
    have h1 := h.pair (r := r) (q := r + 1 + d) (by omega) (by omega)
    have h2 := h.pair (r := r + 1 + d) (q := r + 1 + (d + 1)) (by omega) hd
    have e := lc13_min (ls_ll13 h1) (ls_ll13 h2)
    unfold lm13
    rw [e, lm13_is h r d (by omega)]
    congr 1
    unfold lv13
    rw [if_neg (by omega), lc13_comm]
    congr 3
end Go.Proofs.Ytkpfailmmcelcaa

namespace Go.Proofs.Ytkpfailmmcelcaa
open Go.RowKit
set_option linter.unusedVariables false

/-! The landed suffix: Clone, numbers, sorted. -/
theorem info_y13 : (Try.prog.info? 5).map (fun i => (i.zero, i.size, i.bytes)) = some (some (.int .u8 0), 1, 1) := by kernel_rfl
theorem own_le13 {w : World} {base n : Nat} {e : TypeId} {a : Option Addr} {cap : Nat} {xs : List Value} (h : w.ownsRow base e 1 (.slice a n cap) n xs) : n ≤ cap := by
  rcases h.2 with ⟨h1, h2⟩ | ⟨g, cp, cur, hv, hg, hh, hc, _⟩
  · omega
  · simp only [Value.slice.injEq] at hv
    omega
set_option maxRecDepth 100000 in
set_option maxHeartbeats 1000000 in
theorem pclb13 (a : Option Addr) (zs : List Int) (n cap : Nat) (w : World) (hs : Seg w a zs) (hn : Hid (zs.length = n)) (hnil : a = none → cap = 0) (hl : n ≤ 140737488351232) :
    Calls Try.prog 34 #[.slice a n cap] w fun e w' => ∃ ra rc, e = .returned (.slice ra n rc) ∧ (ra = none → rc = 0 ∧ a = none) ∧ w'.ownsRow w.heap.size 5 1 (.slice ra n rc) n (zs.map (Value.int .u8)) ∧ Below w.heap.size w w' := by
  obtain ⟨i0, hi, hz0, hz1, hz2⟩ := info_parts info_y13
  cases a with
  | none =>
    have h0 : zs = [] := by
      cases zs with
      | nil => rfl
      | cons z r => obtain ⟨b, off, hx, _⟩ := hs.at_ 0 (by simp); cases hx
    subst h0
    obtain rfl : n = 0 := hn.out.symm
    obtain rfl := hnil rfl
    clear hnil hn hs
    have HE := Go.Lib.run_eql_slice_nil (P := Try.prog) w 22 5 none 0 0 0 0 Try.underlying22
    go_enter Try.func34, Try.ntmps34
    go_wp2_with fail
    go_ret
    exact ⟨none, 0, rfl, fun _ => ⟨rfl, by first | trivial | rfl⟩, World.ownsRow_nil _ _ _ _, Below.refl _ _⟩
  | some ad =>
    have hm0 : (w.alloc (.cells #[] 5)).ownsRow w.heap.size 5 1 (.slice (some ⟨w.heap.size, 0, none⟩) 0 0) 0 [] := World.ownsRow_made w #[] 0 (Nat.le_refl _) (by decide) rfl
    have hb0 : Below w.heap.size w (w.alloc (.cells #[] 5)) := (Below.refl _ _).alloc (Nat.le_refl _) _
    have hs1 := hs.alloc (.cells #[] 5)
    have e0 := hn.out
    subst e0
    clear hn hnil hs
    have HE := fun c => Go.Lib.run_eql_slice_nil (P := Try.prog) w 22 5 (some ad) zs.length c 0 0 Try.underlying22
    go_enter Try.func34, Try.ntmps34
    go_wp2_with (first
      | (at_builtin; refine wpList_appS rfl (.tmp 5) (.tmp 6) 22 rfl w.heap.size 5 i0 (.int .u8 0) 1 Try.underlying22 hi hz0 hz1 hz2 rfl hm0 hs1 (by intro h; cases h) rfl rfl (by omega) (by omega) (by have := hb0.size; omega) ?_; intro a1 c1 w1 hown1 hg1 hf1 hn1; have hb1 := hb0.trans (below_own hm0 hg1 (by have := hb0.size; omega)); clear hf1 hg1; rw [Nat.zero_add, List.nil_append] at hown1))
    go_ret
    refine ⟨a1, c1, by simp, fun h => ?_, hown1, hb1⟩
    subst h
    rcases hown1.2 with ⟨h1, h2⟩ | ⟨g, cp, cur, hv, _⟩
    · rw [Nat.zero_add] at hn1
      have := hn1.1 h1
      simp at this
    · simp at hv
theorem seg_bd13 {w : World} {a : Option Addr} {z : List Int} (hs : Seg w a z) : ∀ y ∈ z, 0 ≤ y ∧ y ≤ 255 := hs.mem
theorem bd13 {z : List Int} (h : ∀ y ∈ z, 0 ≤ y ∧ y ≤ 255) : ∀ y ∈ z, -9223372036854775808 ≤ y ∧ y ≤ 9223372036854775807 := fun y hy => by have := h y hy; omega
theorem own_seg13 {w : World} {base n : Nat} {a : Option Addr} {cap : Nat} {zs : List Int} (h : w.ownsRow base 5 1 (.slice a n cap) n (zs.map (Value.int .u8))) (hb : ∀ y ∈ zs, 0 ≤ y ∧ y ≤ 255) : Seg w a zs := by
  have hl : zs.length = n := by simpa using h.1
  have bd : ∀ i, 0 ≤ zs.getD i 0 ∧ zs.getD i 0 ≤ 255 := fun i => by
    by_cases hi : i < zs.length
    · have := hb zs[i] (List.getElem_mem hi)
      simpa [List.getD, hi] using this
    · have : zs[i]? = none := List.getElem?_eq_none (by omega)
      simp [List.getD, this]
  rcases h.2 with ⟨h1, hn⟩ | ⟨g, cap', cur, hv, hg, hh, hc, _, _, ht⟩
  · have : zs = [] := List.eq_nil_of_length_eq_zero (by omega)
    subst this
    exact SegK.nil (by decide) _ _
  · simp only [Value.slice.injEq] at hv
    obtain ⟨rfl, _, rfl⟩ := hv
    refine ⟨fun i hi => ⟨g, 0, rfl, ?_⟩, by decide, bd⟩
    have := h.cells (g := g) rfl i (.int .u8 (zs.getD i 0)) (by simp [List.getD, hi])
    have hadd : (⟨g, 0, none⟩ : Addr).add i = ⟨g, 0 + i, none⟩ := by unfold Addr.add; split <;> simp_all
    rw [hadd] at this
    exact this
def wds13 (z : List Int) (k : Nat) : List Int := (z.take k) ++ List.replicate (z.length - k) 0
theorem wds13_len (z : List Int) (k : Nat) (h : k ≤ z.length) : (wds13 z k).length = z.length := by simp [wds13]; omega
theorem wds13_zero (z : List Int) : wds13 z 0 = List.replicate z.length 0 := by simp [wds13]
theorem wds13_all (z : List Int) : wds13 z z.length = z := by simp [wds13]
theorem wds13_set (z : List Int) (k : Nat) (h : k < z.length) : (wds13 z k).set k (z.getD k 0) = wds13 z (k + 1) := by
  unfold wds13
  have e : z.length - k = (z.length - (k + 1)) + 1 := by omega
  rw [e, List.replicate_succ, List.set_append_right _ _ (by simp; omega), take_snocZ h]
  have : k - (z.take k).length = 0 := by simp; omega
  rw [this, List.set_cons_zero, List.append_assoc]
  rfl
set_option maxRecDepth 100000 in
set_option maxHeartbeats 2000000 in
theorem pnum13 (a : Option Addr) (z : List Int) (n cap : Nat) (w : World) (hs : Seg w a z) (hn : Hid (z.length = n)) (hb : n ≤ 16777216000) :
    Calls Try.prog 33 #[.slice a n cap] w fun e w' => e = .returned (.slice (some ⟨w.heap.size, 0, none⟩) n n) ∧ Rz12 w' w.heap.size z ∧ Below w.heap.size w w' := by
  have HM := run_make_i12 n (by omega) w
  have hal : Below w.heap.size w (w.alloc (.cells (vi12 (List.replicate n 0)) 3)) := (Below.refl _ _).alloc (Nat.le_refl _) _
  have hr0 := Rz12.new w (List.replicate n 0)
  have HZ : Hid (List.replicate n (0 : Int) = wds13 z 0) := by show _ = _; rw [wds13_zero, hn.out]
  have HWA : Hid (wds13 z n = z) := by show _ = _; rw [← hn.out]; exact wds13_all z
  rw [HZ.out] at hal hr0 HM
  have HSD : Hid (∀ w', Below w.heap.size w w' → Seg w' a z) := fun w' b => hs.old b
  have HVB : Hid (∀ i, 0 ≤ z.getD i 0 ∧ z.getD i 0 ≤ 255) := hs.bd
  clear hs
  generalize hg : w.heap.size = g at *
  generalize hw1 : w.alloc (.cells (vi12 (wds13 z 0)) 3) = w1 at *
  have HG : Hid (w.heap.size = g) := hg
  clear hg hw1
  go_enter Try.func33, Try.ntmps33
  go_wp2_with fail
  go_loopw [11] (fun ti wr => ∃ i : Nat, i ≤ n ∧ ti = .int .i64 i ∧ Rz12 wr g (wds13 z i) ∧ Below g w wr) (fun ti _ => n - (intOf ti).toNat)
  case atStart => exact ⟨0, Nat.zero_le _, rfl, hr0, hal⟩
  case round =>
    obtain ⟨i, hi, rfl, hR, hb2⟩ := hrel
    by_cases h1 : i < n
    · have h1i : (i : Int) < (n : Int) := by omega
      obtain ⟨bb, off, rfl, c1⟩ := (HSD.out wr hb2).at_ i (by rw [hn.out]; exact h1)
      have hv := HVB.out i
      have k1 := hR.cell (i := i) (by rw [wds13_len z i (by rw [hn.out]; omega), hn.out]; exact h1)
      have k2 := hR.free i
      have HS1 : Hid (Rz12 (wr.setCell ⟨g, i, none⟩ (.int .i64 (z.getD i 0))) g (wds13 z (i + 1))) := by
        have := hR.set i (z.getD i 0)
        rw [wds13_set z i (by rw [hn.out]; exact h1)] at this
        exact this
      have HS4 : Hid (Below g w (wr.setCell ⟨g, i, none⟩ (.int .i64 (z.getD i 0)))) := hb2.trans ((Kp.set (S := fun j => j = g) rfl _).below (fun j h => by omega) (by have := hR.lt; omega))
      clear hR
      generalize (wds13 z i).getD i 0 = y at *
      generalize z.getD i 0 = v at *
      go_wp2_with fail
      go_roundw
      case rel => exact ⟨i + 1, by omega, by go_num, HS1.out, HS4.out⟩
      case measure => simp [intOf]; omega
    · have h1i : ¬ (i : Int) < (n : Int) := by omega
      obtain rfl : i = n := by omega
      rw [HWA.out] at hR
      go_wp2_with fail
      go_ret
      exact ⟨rfl, hR, hb2⟩
theorem ref13 {z : List Int} {n : Nat} (hn : z.length = n) (h24 : n ≤ 16777216) (hv : ∀ y ∈ z, 0 ≤ y ∧ y ≤ 255) : ref12 256 z = 0 := by
  unfold ref12
  rw [if_neg (by omega), hn, if_neg (by omega)]
  have h2 : vals12 256 z = true := by
    unfold vals12
    rw [List.all_eq_true]
    intro y hy
    have := hv y hy
    simp only [Bool.and_eq_true, decide_eq_true_eq]
    omega
  unfold rv12
  rw [h2]
  rfl
def SoQ13 (w : World) (z : List Int) (n : Nat) (e : Ending) (w' : World) : Prop := ∃ g A, e = .returned (.tuple #[.slice (some ⟨g, 0, none⟩) n n, .int .i64 0]) ∧ Rz12 w' g (nz12 A) ∧ w.heap.size ≤ g ∧ Ar12 n (S12 z) A ∧ Below w.heap.size w w'
set_option maxRecDepth 100000 in
set_option maxHeartbeats 2000000 in
theorem psort13 (a : Option Addr) (z : List Int) (n cap : Nat) (w : World) (hs : Seg w a z) (hn : Hid (z.length = n)) (hb : n ≤ 16777216) :
    Calls Try.prog 21 #[.slice a n cap] w (SoQ13 w z n) := by
  have HN := pnum13 a z n cap w hs hn (by omega)
  have hv := seg_bd13 hs
  have HA : Hid (∀ w1 g, Rz12 w1 g z → Calls Try.prog 32 #[.int .i64 256, .slice (some ⟨g, 0, none⟩) n n] w1 (ArrQ12 w1 z n)) := fun w1 g R => parr12 256 (some ⟨g, 0, none⟩) z n n w1 (R.seg (bd13 hv)) hn (by omega) (ref13 hn.out hb hv)
  have h24 : ¬ (16777216 : Int) < (n : Int) := by omega
  clear hv hs
  go_enter Try.func21, Try.ntmps21
  go_wp2_with (first
    | (go_at_call 33; refine HN.mono ?_; rintro e1 w1 ⟨rfl, R1, B1⟩)
    | (go_at_call 32; refine (HA.out w1 _ R1).mono ?_; rintro e2 w2 ⟨g, A, rfl, RA, hg, hA, B2⟩))
  refine bodyPost_ret (results_tmp2 rfl _ _ _) rfl ?_
  exact ⟨g, A, rfl, RA, Nat.le_trans B1.size hg, hA, B1.trans (B2.mono B1.size)⟩
set_option maxRecDepth 100000 in
set_option maxHeartbeats 2000000 in
theorem psortn13 (a : Option Addr) (n cap : Nat) (w : World) (hb : 16777216 < n) (hb2 : n ≤ 9223372036854775807) :
    Calls Try.prog 21 #[.slice a n cap] w fun e w' => e = .returned (.tuple #[.slice none 0 0, .int .i64 130]) ∧ w' = w := by
  have h24 : (16777216 : Int) < (n : Int) := by omega
  go_enter Try.func21, Try.ntmps21
  go_wp2_with fail
  refine bodyPost_ret (results_tmp2 rfl _ _ _) rfl ?_
  exact ⟨rfl, rfl⟩
end Go.Proofs.Ytkpfailmmcelcaa
