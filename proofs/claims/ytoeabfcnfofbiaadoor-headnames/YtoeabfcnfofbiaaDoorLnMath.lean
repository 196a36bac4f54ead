
import Derived.WalkKit
namespace Go.Proofs.YtoeabfcnfofbiaaDoor
set_option linter.unusedVariables false

/-! Package-merge, by weights alone: no lengths within the limit cost less. -/
theorem sum_le_of_sorted : ∀ (m : Nat) (S T R : List Nat), S.Pairwise (· ≤ ·) → (T ++ R).Perm S → T.length = m → (S.take m).sum ≤ T.sum
  | 0, S, T, R, _, _, h => by simp
  | m + 1, S, T, R, hs, hp, h => by
    cases S with
    | nil => simp
    | cons x S' =>
      have hx : ∀ y ∈ S', x ≤ y := (List.pairwise_cons.1 hs).1
      have hs' := (List.pairwise_cons.1 hs).2
      have hmem : x ∈ T ++ R := hp.symm.subset (by simp)
      rw [List.take_succ_cons, List.sum_cons]
      by_cases hxT : x ∈ T
      · have hT := List.perm_cons_erase hxT
        have hl : (T.erase x).length = m := by rw [List.length_erase_of_mem hxT]; omega
        have hp' : ((T.erase x) ++ R).Perm S' := by
          have h1 : (x :: ((T.erase x) ++ R)).Perm (x :: S') := (List.Perm.append_right R hT).symm.trans hp
          exact List.Perm.cons_inv h1
        have ih := sum_le_of_sorted m S' (T.erase x) R hs' hp' hl
        have := hT.sum_nat
        rw [List.sum_cons] at this
        omega
      · have hxR : x ∈ R := by
          rcases List.mem_append.1 hmem with h | h
          · exact absurd h hxT
          · exact h
        cases T with
        | nil => simp at h
        | cons t T' =>
          have hR := List.perm_cons_erase hxR
          have htS : t ∈ x :: S' := hp.subset (by simp)
          have htx : x ≤ t := by
            rcases List.mem_cons.1 htS with e | e
            · omega
            · exact hx t e
          have h1 : (x :: (T' ++ (t :: R.erase x))).Perm (x :: S') := by
            refine List.Perm.trans ?_ hp
            have e1 : (x :: (T' ++ (t :: R.erase x))).Perm (t :: (T' ++ (x :: R.erase x))) := by
              have a1 : (T' ++ (t :: R.erase x)).Perm (t :: (T' ++ R.erase x)) := List.perm_middle
              have a2 : (T' ++ (x :: R.erase x)).Perm (x :: (T' ++ R.erase x)) := List.perm_middle
              exact ((a1.cons x).trans (List.Perm.swap t x _)).trans (a2.symm.cons t)
            refine e1.trans ?_
            rw [List.cons_append]
            exact List.Perm.cons t (List.Perm.append_left T' hR.symm)
          have ih := sum_le_of_sorted m S' T' (t :: R.erase x) hs' (List.Perm.cons_inv h1) (by simpa using h)
          rw [List.sum_cons]
          omega

/-- Packed two by two. -/
def pkw : List Nat → List Nat
  | a :: b :: r => (a + b) :: pkw r
  | _ => []
theorem pkw_len : ∀ l : List Nat, (pkw l).length = l.length / 2
  | [] => rfl
  | [_] => by simp [pkw]
  | a :: b :: r => by
    have := pkw_len r
    simp only [pkw, List.length_cons, this]
    omega
theorem pkw_take : ∀ (l : List Nat) (m : Nat), ((pkw l).take (m / 2)).sum ≤ (l.take m).sum
  | [], m => by simp [pkw]
  | [a], m => by simp [pkw]
  | a :: b :: r, m => by
    match m with
    | 0 => simp
    | 1 => simp
    | m + 2 =>
      have ih := pkw_take r m
      rw [show (m + 2) / 2 = m / 2 + 1 by omega]
      simp only [pkw, List.take_succ_cons, List.sum_cons]
      omega
theorem pkw_sorted : ∀ l : List Nat, l.Pairwise (· ≤ ·) → (pkw l).Pairwise (· ≤ ·) ∧ ∀ x ∈ pkw l, ∀ a ∈ l.head?, a ≤ x
  | [], _ => by simp [pkw]
  | [a], _ => by simp [pkw]
  | a :: b :: r, h => by
    have h1 := List.pairwise_cons.1 h
    have h2 := List.pairwise_cons.1 h1.2
    have ih := pkw_sorted r h2.2
    have key : ∀ x ∈ pkw r, a + b ≤ x := by
      intro x hx
      cases r with
      | nil => simp [pkw] at hx
      | cons c r' =>
        cases r' with
        | nil => simp [pkw] at hx
        | cons d r'' =>
          simp only [pkw, List.mem_cons] at hx
          have hc := h1.1 c (by simp)
          have hd := h2.1 d (by simp)
          rcases hx with rfl | hx
          · omega
          · have h3 := List.pairwise_cons.1 h2.2
            have hp := (pkw_sorted (c :: d :: r'') h2.2).1
            simp only [pkw, List.pairwise_cons] at hp
            have := hp.1 x hx
            omega
    refine ⟨?_, ?_⟩
    · simp only [pkw, List.pairwise_cons]
      exact ⟨key, ih.1⟩
    · intro x hx y hy
      simp only [List.head?_cons, Option.mem_def, Option.some.injEq] at hy
      subst hy
      simp only [pkw, List.mem_cons] at hx
      rcases hx with rfl | hx
      · omega
      · have := key x hx
        omega

/-- The rows, by their weights. -/
def rww (F : List Nat) : Nat → List Nat
  | 0 => F
  | k + 1 => List.merge F (pkw (rww F k)) (fun a b => decide (a ≤ b))
theorem rww_sorted (F : List Nat) (h : F.Pairwise (· ≤ ·)) (k : Nat) : (rww F k).Pairwise (· ≤ ·) := by
  induction k with
  | zero => exact h
  | succ k ih =>
    have := List.pairwise_merge (le := fun a b : Nat => decide (a ≤ b)) (by intro a b c; simp; omega) (by intro a b; simp; omega) F (pkw (rww F k)) (by simpa using h) (by simpa using (pkw_sorted _ ih).1)
    simpa [rww] using this
theorem rww_len (F : List Nat) (k : Nat) : (rww F (k + 1)).length = F.length + (rww F k).length / 2 := by
  simp only [rww]
  rw [(List.merge_perm_append _).length_eq, List.length_append, pkw_len]

/-- Weights with lengths: those that are as deep as d. -/
def deep (X : List (Nat × Nat)) (d : Nat) : List Nat := (X.filter fun x => decide (d ≤ x.2)).map (·.1)
/-- How many items are needed, from the deepest of the L levels up. -/
def need (X : List (Nat × Nat)) (L : Nat) : Nat → Nat
  | 0 => (deep X L).length
  | k + 1 => (deep X (L - (k + 1))).length + need X L k / 2
def paid (X : List (Nat × Nat)) (L : Nat) : Nat → Nat
  | 0 => (deep X L).sum
  | k + 1 => (deep X (L - (k + 1))).sum + paid X L k

theorem deep_perm (X : List (Nat × Nat)) (d : Nat) : (deep X d ++ ((X.filter fun x => !decide (d ≤ x.2)).map (·.1))).Perm (X.map (·.1)) := by
  unfold deep
  rw [← List.map_append]
  exact (List.filter_append_perm _ X).map _
theorem deep_le (X : List (Nat × Nat)) (d : Nat) : (deep X d).length ≤ X.length := by
  unfold deep
  rw [List.length_map]
  exact List.length_filter_le _ _

theorem need_le (X : List (Nat × Nat)) (F : List Nat) (hF : F.Perm (X.map (·.1))) (L k : Nat) : need X L k ≤ (rww F k).length := by
  have hn : F.length = X.length := by rw [hF.length_eq, List.length_map]
  induction k with
  | zero =>
    have := deep_le X L
    simp only [need, rww]
    omega
  | succ k ih =>
    have := deep_le X (L - (k + 1))
    rw [rww_len]
    simp only [need]
    omega

/-- No choice is cheaper than the first items of the row. -/
theorem row_least (X : List (Nat × Nat)) (F : List Nat) (hF : F.Perm (X.map (·.1))) (hs : F.Pairwise (· ≤ ·)) (L k : Nat) : ((rww F k).take (need X L k)).sum ≤ paid X L k := by
  induction k with
  | zero => exact sum_le_of_sorted _ F (deep X L) _ hs ((deep_perm X L).trans hF.symm) rfl
  | succ k ih =>
    have hle := need_le X F hF L k
    have hq : ((pkw (rww F k)).take (need X L k / 2)).length = need X L k / 2 := by rw [List.length_take, pkw_len]; omega
    have h1 := sum_le_of_sorted (need X L (k + 1)) (rww F (k + 1)) (deep X (L - (k + 1)) ++ (pkw (rww F k)).take (need X L k / 2))
      (((X.filter fun x => !decide (L - (k + 1) ≤ x.2)).map (·.1)) ++ (pkw (rww F k)).drop (need X L k / 2)) (rww_sorted F hs (k + 1)) ?_ ?_
    · have h2 := pkw_take (rww F k) (need X L k)
      rw [List.sum_append] at h1
      simp only [paid]
      omega
    · have hm : (rww F (k + 1)).Perm (F ++ pkw (rww F k)) := by simp only [rww]; exact List.merge_perm_append _
      refine List.Perm.trans ?_ hm.symm
      have hd := (deep_perm X (L - (k + 1))).trans hF.symm
      generalize deep X (L - (k + 1)) = A at *
      generalize ((X.filter fun x => !decide (L - (k + 1) ≤ x.2)).map (·.1)) = A' at *
      have e1 : (A ++ (pkw (rww F k)).take (need X L k / 2) ++ (A' ++ (pkw (rww F k)).drop (need X L k / 2))).Perm ((A ++ A') ++ ((pkw (rww F k)).take (need X L k / 2) ++ (pkw (rww F k)).drop (need X L k / 2))) := by
        simp only [List.append_assoc]
        refine List.Perm.append_left A ?_
        rw [← List.append_assoc, ← List.append_assoc]
        exact List.Perm.append_right _ List.perm_append_comm
      rw [List.take_append_drop] at e1
      exact e1.trans (List.Perm.append_right _ hd)
    · rw [List.length_append, hq]; rfl

/-! How many are needed: by Kraft's sum. -/
def exact' (X : List (Nat × Nat)) (d : Nat) : Nat := X.countP fun x => decide (x.2 = d)
def kraft (X : List (Nat × Nat)) (L d : Nat) : Nat := ((X.filter fun x => decide (d ≤ x.2)).map fun x => 2 ^ (L - x.2)).sum
theorem deep_step (X : List (Nat × Nat)) (d : Nat) : (deep X d).length = exact' X d + (deep X (d + 1)).length := by
  unfold deep exact'
  simp only [List.length_map]
  induction X with
  | nil => rfl
  | cons x r ih =>
    simp only [List.filter_cons, List.countP_cons]
    by_cases h1 : d ≤ x.2
    · by_cases h2 : d + 1 ≤ x.2
      · have h3 : ¬ x.2 = d := by omega
        simp [h1, h2, h3]; omega
      · have h3 : x.2 = d := by omega
        have h4 : ¬ d + 1 ≤ d := by omega
        simp [h3, h4]; omega
    · have h2 : ¬ d + 1 ≤ x.2 := by omega
      have h3 : ¬ x.2 = d := by omega
      simp [h1, h2, h3]; omega
theorem kraft_step (X : List (Nat × Nat)) (L d : Nat) : kraft X L d = exact' X d * 2 ^ (L - d) + kraft X L (d + 1) := by
  unfold kraft exact'
  induction X with
  | nil => simp
  | cons x r ih =>
    simp only [List.filter_cons, List.countP_cons]
    by_cases h1 : d ≤ x.2
    · by_cases h2 : d + 1 ≤ x.2
      · have h3 : ¬ x.2 = d := by omega
        simp [h1, h2, h3]; omega
      · have h3 : x.2 = d := by omega
        have h4 : ¬ d + 1 ≤ d := by omega
        simp [h3, h4, Nat.add_mul]; omega
    · have h2 : ¬ d + 1 ≤ x.2 := by omega
      have h3 : ¬ x.2 = d := by omega
      simp [h1, h2, h3]; omega
/-- Nodes of a code, from the deepest level up, rounded up. -/
def nodes (X : List (Nat × Nat)) (L : Nat) : Nat → Nat
  | 0 => exact' X L
  | k + 1 => exact' X (L - (k + 1)) + (nodes X L k + 1) / 2
theorem deep_none (X : List (Nat × Nat)) (L : Nat) (h : ∀ x ∈ X, x.2 ≤ L) : (deep X (L + 1)).length = 0 := by
  unfold deep
  rw [List.length_map, List.length_eq_zero_iff, List.filter_eq_nil_iff]
  intro x hx
  have := h x hx
  simp; omega
theorem kraft_none (X : List (Nat × Nat)) (L : Nat) (h : ∀ x ∈ X, x.2 ≤ L) : kraft X L (L + 1) = 0 := by
  unfold kraft
  have : (X.filter fun x => decide (L + 1 ≤ x.2)) = [] := by
    rw [List.filter_eq_nil_iff]
    intro x hx
    have := h x hx
    simp; omega
  rw [this]
  rfl
theorem need_nodes (X : List (Nat × Nat)) (L : Nat) (h : ∀ x ∈ X, x.2 ≤ L) (k : Nat) (hk : k ≤ L) : need X L k + nodes X L k = 2 * (deep X (L - k)).length := by
  induction k with
  | zero =>
    have h1 := deep_step X L
    have h2 := deep_none X L h
    simp only [need, nodes, Nat.sub_zero]
    omega
  | succ k ih =>
    have ih := ih (by omega)
    have h1 := deep_step X (L - (k + 1))
    rw [show L - (k + 1) + 1 = L - k by omega] at h1
    simp only [need, nodes]
    omega
theorem nodes_kraft (X : List (Nat × Nat)) (L : Nat) (h : ∀ x ∈ X, x.2 ≤ L) (k : Nat) (hk : k ≤ L) : nodes X L k * 2 ^ k < kraft X L (L - k) + 2 ^ k := by
  induction k with
  | zero =>
    have h1 := kraft_step X L L
    have h2 := kraft_none X L h
    rw [Nat.sub_self] at h1
    simp only [nodes, Nat.sub_zero, Nat.pow_zero] at h1 ⊢
    omega
  | succ k ih =>
    have ih := ih (by omega)
    have h1 := kraft_step X L (L - (k + 1))
    rw [show L - (k + 1) + 1 = L - k by omega, show L - (L - (k + 1)) = k + 1 by omega] at h1
    simp only [nodes]
    rw [h1, Nat.add_mul]
    have h2 : (nodes X L k + 1) / 2 * 2 ^ (k + 1) ≤ (nodes X L k + 1) * 2 ^ k := by
      rw [Nat.pow_succ, Nat.mul_comm (2 ^ k) 2, ← Nat.mul_assoc]
      exact Nat.mul_le_mul_right _ (Nat.div_mul_le_self _ _)
    rw [Nat.add_mul, Nat.one_mul] at h2
    have h3 : 2 ^ (k + 1) = 2 ^ k + 2 ^ k := by rw [Nat.pow_succ]; omega
    omega
/-- Lengths from 1 to L that take at most the whole space need 2n - 2 items. -/
theorem need_all (X : List (Nat × Nat)) (L : Nat) (hL : 1 ≤ L) (h : ∀ x ∈ X, 1 ≤ x.2 ∧ x.2 ≤ L) (hk : kraft X L 1 ≤ 2 ^ L) : 2 * X.length - 2 ≤ need X L (L - 1) := by
  have h1 := need_nodes X L (fun x hx => (h x hx).2) (L - 1) (by omega)
  have h2 := nodes_kraft X L (fun x hx => (h x hx).2) (L - 1) (by omega)
  rw [show L - (L - 1) = 1 by omega] at h1 h2
  have h3 : (deep X 1).length = X.length := by
    unfold deep
    rw [List.length_map]
    congr 1
    rw [List.filter_eq_self]
    intro x hx
    have := (h x hx).1
    simp; omega
  have h4 : nodes X L (L - 1) ≤ 2 := by
    rcases Nat.lt_or_ge 2 (nodes X L (L - 1)) with h5 | h5
    · exfalso
      have h6 : 3 * 2 ^ (L - 1) ≤ nodes X L (L - 1) * 2 ^ (L - 1) := Nat.mul_le_mul_right _ h5
      have h7 : 2 ^ L = 2 ^ (L - 1) + 2 ^ (L - 1) := by
        have : 2 ^ L = 2 ^ (L - 1 + 1) := by rw [Nat.sub_add_cancel hL]
        rw [this, Nat.pow_succ]; omega
      omega
    · exact h5
  omega

/-- The cost, level by level. -/
theorem deep_sum (X : List (Nat × Nat)) (d : Nat) : (deep X d).sum + (X.map fun x => x.1 * (x.2 + 1 - (d + 1))).sum = (X.map fun x => x.1 * (x.2 + 1 - d)).sum := by
  unfold deep
  induction X with
  | nil => rfl
  | cons x r ih =>
    simp only [List.filter_cons, List.map_cons, List.sum_cons]
    by_cases h1 : d ≤ x.2
    · have e : x.1 * (x.2 + 1 - d) = x.1 + x.1 * (x.2 + 1 - (d + 1)) := by
        rw [show x.2 + 1 - d = 1 + (x.2 + 1 - (d + 1)) by omega, Nat.mul_add, Nat.mul_one]
      simp only [h1, decide_true, if_true, List.map_cons, List.sum_cons]
      omega
    · have e1 : x.2 + 1 - d = 0 := by omega
      have e2 : x.2 + 1 - (d + 1) = 0 := by omega
      simp only [h1, decide_false, Bool.false_eq_true, if_false, e1, e2, Nat.mul_zero]
      omega
theorem paid_eq (X : List (Nat × Nat)) (L : Nat) (h : ∀ x ∈ X, x.2 ≤ L) (k : Nat) (hk : k ≤ L) : paid X L k = (X.map fun x => x.1 * (x.2 + 1 - (L - k))).sum := by
  induction k with
  | zero =>
    have h1 := deep_sum X L
    have h2 : (X.map fun x => x.1 * (x.2 + 1 - (L + 1))).sum = 0 := by
      have : X.map (fun x => x.1 * (x.2 + 1 - (L + 1))) = X.map (fun _ => 0) := by
        apply List.map_congr_left
        intro x hx
        have := h x hx
        rw [show x.2 + 1 - (L + 1) = 0 by omega, Nat.mul_zero]
      rw [this]
      clear this h1 h
      induction X with
      | nil => rfl
      | cons x r ih => simpa using ih
    simp only [paid, Nat.sub_zero]
    omega
  | succ k ih =>
    have ih := ih (by omega)
    have h1 := deep_sum X (L - (k + 1))
    rw [show L - (k + 1) + 1 = L - k by omega] at h1
    simp only [paid]
    omega
def costX (X : List (Nat × Nat)) : Nat := (X.map fun x => x.1 * x.2).sum
theorem paid_cost (X : List (Nat × Nat)) (L : Nat) (hL : 1 ≤ L) (h : ∀ x ∈ X, x.2 ≤ L) : paid X L (L - 1) = costX X := by
  rw [paid_eq X L h (L - 1) (by omega)]
  unfold costX
  rw [show L - (L - 1) = 1 by omega]
  rfl
theorem take_mono (l : List Nat) (m n : Nat) (h : m ≤ n) : (l.take m).sum ≤ (l.take n).sum := by
  obtain ⟨k, rfl⟩ := Nat.exists_eq_add_of_le h
  rw [List.take_add, List.sum_append]
  omega
/-- THE BOUND: lengths from 1 to L within the space cost at least what the first 2n - 2 items of the last row weigh. -/
theorem pm_least (X : List (Nat × Nat)) (F : List Nat) (hF : F.Perm (X.map (·.1))) (hs : F.Pairwise (· ≤ ·)) (L : Nat) (hL : 1 ≤ L) (h : ∀ x ∈ X, 1 ≤ x.2 ∧ x.2 ≤ L) (hk : kraft X L 1 ≤ 2 ^ L) :
    ((rww F (L - 1)).take (2 * X.length - 2)).sum ≤ costX X := by
  have h1 := row_least X F hF hs L (L - 1)
  rw [paid_cost X L hL (fun x hx => (h x hx).2)] at h1
  exact Nat.le_trans (take_mono _ _ _ (need_all X L hL h hk)) h1
end Go.Proofs.YtoeabfcnfofbiaaDoor
