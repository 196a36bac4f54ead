
import Derived.Test.YtkpfailmmcelcaaSuM5
namespace Go.Proofs.Ytkpfailmmcelcaa
set_option linter.unusedVariables false

/-! Kth, pure: the unlike texts in their order. -/
/-- How many texts a rank's suffix has that no rank ahead has; the sum of all ahead. -/
def fr13 (z : List Int) (A : List Nat) (r : Nat) : Nat := z.length - A.getD r 0 - lv13 z A r
def ks13 (z : List Int) (A : List Nat) : Nat → Nat
  | 0 => 0
  | r + 1 => ks13 z A r + fr13 z A r
/-- The k-th text stands at this rank. -/
structure Kr13 (z : List Int) (A : List Nat) (k r : Nat) : Prop where
  lt : r < z.length
  lo : ks13 z A r ≤ k
  hi : k < ks13 z A r + fr13 z A r
def kt13 (z : List Int) (A : List Nat) (k r : Nat) : List Int := (z.drop (A.getD r 0)).take (lv13 z A r + (k - ks13 z A r) + 1)
theorem kt13_len {z : List Int} {A : List Nat} {S : Nat → Int} {k r : Nat} (hA : Ar12 z.length S A) (h : Kr13 z A k r) : (kt13 z A k r).length = lv13 z A r + (k - ks13 z A r) + 1 := by
  unfold kt13
  rw [List.length_take, List.length_drop]
  have h1 := h.hi
  have h2 := h.lo
  unfold fr13 at h1
  omega
theorem ll_take13 {X Y : List Int} (h : LL12 X Y) : LL12 X (Y.take (lc13 Y X + 1)) := by
  induction h with
  | nil => rw [lc13_nil']; exact .nil
  | lt c =>
    unfold lc13
    rw [if_neg (by omega)]
    exact .lt c
  | eq _ ih =>
    unfold lc13
    rw [if_pos rfl, List.take_succ_cons]
    exact .eq ih
theorem ll_len13 {X Y : List Int} (h : LL12 X Y) : lc13 Y X < Y.length := by
  induction h with
  | nil => rw [lc13_nil']; simp
  | lt c =>
    unfold lc13
    rw [if_neg (by omega)]
    simp
  | eq _ ih =>
    unfold lc13
    rw [if_pos rfl, List.length_cons]
    omega
theorem take_ll13 : ∀ (l : List Int) (m : Nat), m < l.length → LL12 (l.take m) (l.take (m + 1))
  | [], _, h => by simp at h
  | x :: l, 0, _ => .nil
  | x :: l, m + 1, h => by
    rw [List.take_succ_cons, List.take_succ_cons]
    exact .eq (take_ll13 l m (by simpa using h))
theorem lv13_lt {z : List Int} {A : List Nat} (hA : Ar12 z.length (S12 z) A) {r : Nat} (hr : r < z.length) : lv13 z A r < z.length - A.getD r 0 := by
  have h1 := hA.get hr
  unfold lv13
  split
  · omega
  · have h2 := ll_len13 (ls_ll13 (hA.pair (r := r - 1) (q := r) (by omega) hr))
    rw [List.length_drop] at h2
    exact h2
theorem fr13_pos {z : List Int} {A : List Nat} (hA : Ar12 z.length (S12 z) A) {r : Nat} (hr : r < z.length) : 1 ≤ fr13 z A r := by
  have := lv13_lt hA hr
  unfold fr13
  omega
theorem ks13_mono (z : List Int) (A : List Nat) {r q : Nat} (h : r ≤ q) : ks13 z A r ≤ ks13 z A q := by
  induction q with
  | zero => have : r = 0 := by omega
            subst this; exact Nat.le_refl _
  | succ q ih =>
    by_cases c : r = q + 1
    · subst c; exact Nat.le_refl _
    · have := ih (by omega)
      show _ ≤ ks13 z A q + fr13 z A q
      omega
theorem Kr13.unique {z : List Int} {A : List Nat} {k r q : Nat} (h : Kr13 z A k r) (h' : Kr13 z A k q) : r = q := by
  rcases Nat.lt_trichotomy r q with c | c | c
  · have h1 := ks13_mono z A (r := r + 1) (q := q) c
    have h2 : ks13 z A (r + 1) = ks13 z A r + fr13 z A r := rfl
    have := h.hi
    have := h'.lo
    omega
  · exact c
  · have h1 := ks13_mono z A (r := q + 1) (q := r) c
    have h2 : ks13 z A (q + 1) = ks13 z A q + fr13 z A q := rfl
    have := h'.hi
    have := h.lo
    omega
/-- The texts rise. -/
theorem kt13_rise {z : List Int} {A : List Nat} (hA : Ar12 z.length (S12 z) A) {k r q : Nat} (h : Kr13 z A k r) (h' : Kr13 z A (k + 1) q) : LL12 (kt13 z A k r) (kt13 z A (k + 1) q) := by
  have hlo := h.lo
  have hhi := h.hi
  by_cases c : k + 1 < ks13 z A r + fr13 z A r
  · obtain rfl := h'.unique (⟨h.lt, by omega, c⟩ : Kr13 z A (k + 1) r)
    unfold kt13
    rw [show lv13 z A q + (k + 1 - ks13 z A q) + 1 = lv13 z A q + (k - ks13 z A q) + 1 + 1 by omega]
    refine take_ll13 _ _ ?_
    rw [List.length_drop]
    unfold fr13 at c
    omega
  · have hk : k + 1 = ks13 z A (r + 1) := by show _ = ks13 z A r + fr13 z A r; omega
    have hq : r < q := by
      rcases Nat.lt_or_ge r q with d | d
      · exact d
      · have h1 := ks13_mono z A (r := q + 1) (q := r + 1) (by omega)
        have h2 : ks13 z A (q + 1) = ks13 z A q + fr13 z A q := rfl
        have := h'.hi
        omega
    have hq2 : q = r + 1 := by
      rcases Nat.lt_or_ge (r + 1) q with d | d
      · have h1 := ks13_mono z A (r := r + 1 + 1) (q := q) d
        have h2 : ks13 z A (r + 1 + 1) = ks13 z A (r + 1) + fr13 z A (r + 1) := rfl
        have h3 := fr13_pos hA (r := r + 1) (by have := h'.lt; omega)
        have := h'.lo
        omega
      · omega
    subst hq2
    have e1 : kt13 z A k r = z.drop (A.getD r 0) := by
      unfold kt13
      rw [List.take_of_length_le]
      rw [List.length_drop]
      unfold fr13 at hhi c
      omega
    have e2 : kt13 z A (k + 1) (r + 1) = (z.drop (A.getD (r + 1) 0)).take (lc13 (z.drop (A.getD (r + 1) 0)) (z.drop (A.getD r 0)) + 1) := by
      unfold kt13
      have : lv13 z A (r + 1) = lc13 (z.drop (A.getD (r + 1) 0)) (z.drop (A.getD r 0)) := by unfold lv13; rw [if_neg (by omega)]; rfl
      rw [this, hk]
      rw [show ks13 z A (r + 1) - ks13 z A (r + 1) = 0 by omega, Nat.add_zero]
    rw [e1, e2]
    exact ll_take13 (ls_ll13 (hA.pair (r := r) (q := r + 1) (by omega) h'.lt))
/-! Sums. -/
def sm13 (g : Nat → Nat) : Nat → Nat
  | 0 => 0
  | n + 1 => sm13 g n + g n
theorem sm13_congr {f g : Nat → Nat} : ∀ {n : Nat}, (∀ i, i < n → f i = g i) → sm13 f n = sm13 g n
  | 0, _ => rfl
  | n + 1, h => by
    show sm13 f n + f n = sm13 g n + g n
    rw [sm13_congr (fun i hi => h i (by omega)), h n (by omega)]
theorem sm13_zero : ∀ n, sm13 (fun _ => 0) n = 0
  | 0 => rfl
  | n + 1 => sm13_zero n
theorem sm13_upd {f g : Nat → Nat} {j : Nat} : ∀ {n : Nat}, j < n → (∀ i, i < n → i ≠ j → f i = g i) → sm13 f n + g j = sm13 g n + f j
  | n + 1, hj, h => by
    show sm13 f n + f n + g j = sm13 g n + g n + f j
    by_cases c : j = n
    · subst c
      have := sm13_congr (f := f) (g := g) (n := j) (fun i hi => h i (by omega) (by omega))
      omega
    · have := sm13_upd (f := f) (g := g) (j := j) (n := n) (by omega) (fun i hi hne => h i (by omega) hne)
      have := h n (by omega) (fun e => c e.symm)
      omega
open Classical in
theorem sm13_moved {f : Nat → Nat} {n : Nat} (hf : ∀ k, k < n → f k < n) (hi : ∀ i j, i < n → j < n → f i = f j → i = j) (g : Nat → Nat) : ∀ m, m ≤ n → sm13 (fun i => g (f i)) m = sm13 (fun y => if ∃ k, k < m ∧ f k = y then g y else 0) n
  | 0, _ => by
    exact (sm13_zero n).symm.trans (sm13_congr fun y _ => (if_neg (by rintro ⟨k, hk, _⟩; omega)).symm)
  | m + 1, hm => by
    have ih := sm13_moved hf hi g m (by omega)
    show sm13 (fun i => g (f i)) m + g (f m) = _
    rw [ih]
    have h1 := sm13_upd (f := fun y => if ∃ k, k < m + 1 ∧ f k = y then g y else 0) (g := fun y => if ∃ k, k < m ∧ f k = y then g y else 0) (j := f m) (n := n) (hf m (by omega)) (fun y _ hne => by
      have : (∃ k, k < m + 1 ∧ f k = y) ↔ (∃ k, k < m ∧ f k = y) := by
        constructor
        · rintro ⟨k, hk, he⟩
          by_cases c : k = m
          · subst c; exact absurd he.symm hne
          · exact ⟨k, by omega, he⟩
        · rintro ⟨k, hk, he⟩
          exact ⟨k, by omega, he⟩
      show (if ∃ k, k < m + 1 ∧ f k = y then g y else 0) = (if ∃ k, k < m ∧ f k = y then g y else 0)
      simp only [this])
    have e1 : (if ∃ k, k < m + 1 ∧ f k = f m then g (f m) else 0) = g (f m) := if_pos ⟨m, by omega, rfl⟩
    have e2 : (if ∃ k, k < m ∧ f k = f m then g (f m) else 0) = 0 := if_neg (by rintro ⟨k, hk, he⟩; have := hi k m (by omega) (by omega) he; omega)
    have h1' : sm13 (fun y => if ∃ k, k < m + 1 ∧ f k = y then g y else 0) n + (if ∃ k, k < m ∧ f k = f m then g (f m) else 0) = sm13 (fun y => if ∃ k, k < m ∧ f k = y then g y else 0) n + (if ∃ k, k < m + 1 ∧ f k = f m then g (f m) else 0) := h1
    rw [e1, e2] at h1'
    omega
theorem sm13_move {f : Nat → Nat} {n : Nat} (hf : ∀ k, k < n → f k < n) (hi : ∀ i j, i < n → j < n → f i = f j → i = j) (g : Nat → Nat) : sm13 (fun i => g (f i)) n = sm13 g n := by
  rw [sm13_moved hf hi g n (Nat.le_refl _)]
  exact sm13_congr fun y hy => if_pos (onto13 hf hi hy)
theorem sm13_id : ∀ n, 2 * sm13 (fun i => i) n + n = n * n
  | 0 => rfl
  | n + 1 => by
    have := sm13_id n
    show 2 * (sm13 (fun i => i) n + n) + (n + 1) = (n + 1) * (n + 1)
    have e : (n + 1) * (n + 1) = n * n + n + n + 1 := by rw [Nat.mul_add, Nat.mul_one, Nat.add_mul, Nat.one_mul]; omega
    rw [e]
    omega
theorem ks13_sum {z : List Int} {A : List Nat} (hA : Ar12 z.length (S12 z) A) : ∀ r, r ≤ z.length → ks13 z A r + sm13 (lv13 z A) r + sm13 (fun q => A.getD q 0) r = r * z.length
  | 0, _ => by simp [ks13, sm13]
  | r + 1, hr => by
    have ih := ks13_sum hA r (by omega)
    have h1 := lv13_lt hA (r := r) (by omega)
    have h2 := hA.get (r := r) (by omega)
    show ks13 z A r + fr13 z A r + (sm13 (lv13 z A) r + lv13 z A r) + (sm13 (fun q => A.getD q 0) r + A.getD r 0) = (r + 1) * z.length
    rw [Nat.add_mul, Nat.one_mul, ← ih]
    unfold fr13
    omega
/-- How many unlike texts there are. -/
theorem ks13_all {z : List Int} {A : List Nat} (hA : Ar12 z.length (S12 z) A) : 2 * (ks13 z A z.length + sm13 (lv13 z A) z.length) = z.length * (z.length + 1) := by
  have h1 := ks13_sum hA z.length (Nat.le_refl _)
  have h2 := sm13_move (f := fun q => A.getD q 0) (n := z.length) (fun k hk => hA.get hk) (fun i j hi hj e => by
    have a1 := hA.rk_at hi
    have a2 := hA.rk_at hj
    have e' : A.getD i 0 = A.getD j 0 := e
    rw [e', a2] at a1
    exact a1.symm) (fun i => i)
  have h3 := sm13_id z.length
  have h2' : sm13 (fun q => A.getD q 0) z.length = sm13 (fun i => i) z.length := h2
  have e : z.length * (z.length + 1) = z.length * z.length + z.length := by rw [Nat.mul_add, Nat.mul_one]
  rw [e]
  omega
end Go.Proofs.Ytkpfailmmcelcaa
