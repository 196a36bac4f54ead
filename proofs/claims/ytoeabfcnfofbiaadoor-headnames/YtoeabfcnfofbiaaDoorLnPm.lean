
import Derived.Test.YtoeabfcnfofbiaaDoorLnRow
namespace Go.Proofs.YtoeabfcnfofbiaaDoor
set_option linter.unusedVariables false

/-! The lengths of leaves: pairs of a weight and a symbol. -/
def itF (LF : List (Nat × Nat)) : List It := LF.map fun x => (x.1, [x.2])
def taken (LF : List (Nat × Nat)) (L : Nat) : List Nat := ((row (itF LF) (L - 1)).take (2 * LF.length - 2)).flatMap (·.2)
def lenOf (LF : List (Nat × Nat)) (L s : Nat) : Nat := (taken LF L).count s

theorem itF_take (LF : List (Nat × Nat)) (b : Nat) : ((itF LF).take b).flatMap (·.2) = (LF.take b).map (·.2) := by
  unfold itF
  rw [← List.map_take]
  generalize LF.take b = l
  induction l with
  | nil => rfl
  | cons x r ih => simp only [List.map_cons, List.flatMap_cons, ih, List.singleton_append]
theorem itF_fst (LF : List (Nat × Nat)) : (itF LF).map (·.1) = LF.map (·.1) := by
  unfold itF
  rw [List.map_map]
  rfl
theorem count_take : ∀ (S : List Nat) (i b s : Nat), S.Nodup → S[i]? = some s → (S.take b).count s = if i < b then 1 else 0
  | [], i, b, s, _, h => by simp at h
  | x :: r, i, 0, s, _, h => by simp
  | x :: r, 0, b + 1, s, hd, h => by
    simp at h
    subst h
    have hx := (List.nodup_cons.1 hd).1
    have : (r.take b).count x = 0 := List.count_eq_zero.2 (fun hm => hx (List.mem_of_mem_take hm))
    simp [this]
  | x :: r, i + 1, b + 1, s, hd, h => by
    have hd1 := List.nodup_cons.1 hd
    have ih := count_take r i b s hd1.2 (by simpa using h)
    have hne : x ≠ s := by
      rintro rfl
      exact hd1.1 (List.mem_of_getElem? (by simpa using h))
    rw [List.take_succ_cons, List.count_cons, ih]
    simp [hne]
theorem count_levels (LF : List (Nat × Nat)) (hd : (LF.map (·.2)).Nodup) (i : Nat) (x : Nat × Nat) (hx : LF[i]? = some x) : ∀ A : List Nat, (A.flatMap fun a => ((itF LF).take a).flatMap (·.2)).count x.2 = lenA A i
  | [] => rfl
  | a :: A => by
    have ih := count_levels LF hd i x hx A
    rw [List.flatMap_cons, List.count_append, ih, itF_take]
    have h1 := count_take (LF.map (·.2)) i a x.2 hd (by simp [hx])
    rw [← List.map_take] at h1
    rw [h1]
    unfold lenA
    rw [List.countP_cons]
    by_cases h : i < a <;> simp [h] <;> omega

/-- THE LENGTHS OF PACKAGE-MERGE: levels within one another; the whole space. -/
theorem pm_lens (LF : List (Nat × Nat)) (hs : LF.Pairwise (fun a b => a.1 ≤ b.1)) (hp : ∀ x ∈ LF, 0 < x.1) (hd : (LF.map (·.2)).Nodup) (L : Nat) (hL : 1 ≤ L) (hn : 2 ≤ LF.length) (hn2 : LF.length ≤ 2 ^ L) :
    ∃ A : List Nat, A.length = L ∧ A.Pairwise (· ≥ ·) ∧ (∀ i x, LF[i]? = some x → lenOf LF L x.2 = lenA A i) ∧ (∀ i, i < LF.length → 1 ≤ lenA A i) ∧ kraftA A LF.length = 2 ^ L ∧ (∀ a ∈ A, a ≤ LF.length) ∧
      ((rww (LF.map (·.1)) (L - 1)).take (2 * LF.length - 2)).sum = (A.map fun a => ((LF.take a).map (·.1)).sum).sum := by
  have hlen : (itF LF).length = LF.length := by simp [itF]
  have hsF : (itF LF).Pairwise (fun a b => a.1 ≤ b.1) := by
    unfold itF
    rw [List.pairwise_map]
    exact hs
  have hpF : ∀ x ∈ itF LF, 0 < x.1 := by
    intro x hx
    unfold itF at hx
    obtain ⟨y, hy, rfl⟩ := List.mem_map.1 hx
    exact hp y hy
  have hhas := row_has (itF LF) L hL (by rw [hlen]; exact hn2)
  rw [hlen] at hhas
  obtain ⟨a, A, e1, e2, e3, e4, e5, _, e7⟩ := row_levels (itF LF) hsF hpF (L - 1) (2 * LF.length - 2) hhas
  rw [hlen] at e4
  have htop := chain_top A _ a LF.length e2 e3 hn (Nat.le_refl _)
  have ha : a = LF.length := by omega
  have hk := chain_kraft A _ a e2 e3
  have hAll : ∀ b ∈ a :: A, b ≤ LF.length := by
    intro b hb
    rcases List.mem_cons.1 hb with rfl | hb
    · omega
    · have := (List.pairwise_cons.1 e3).1 b hb; omega
  refine ⟨a :: A, by simp [e1]; omega, e3, ?_, ?_, ?_, hAll, ?_⟩
  · intro i x hx
    unfold lenOf taken
    rw [e5.count_eq]
    exact count_levels LF hd i x hx (a :: A)
  · intro i hi
    unfold lenA
    rw [List.countP_cons]
    have : i < a := by omega
    simp [this]
  · rw [e1, ha] at hk
    rw [← ha] at hk ⊢
    have h7 : 2 ^ L = 2 ^ (L - 1) * 2 := by
      have : 2 ^ L = 2 ^ (L - 1 + 1) := by rw [Nat.sub_add_cancel hL]
      rw [this, Nat.pow_succ]
    rw [h7]
    generalize 2 ^ (L - 1) = X at *
    obtain ⟨c, hc⟩ : ∃ c, a = c + 2 := ⟨a - 2, by omega⟩
    have hm : 2 * LF.length - 2 = 2 * c + 2 := by omega
    rw [ha] at hk
    rw [show 2 * LF.length - 2 = 2 * c + 2 from hm, show LF.length = c + 2 by omega] at hk
    rw [show a = LF.length from ha, show LF.length = c + 2 by omega]
    rw [show A = A from rfl] at hk
    have e8 : (2 * c + 2) * X = 2 * (c * X) + 2 * X := by rw [Nat.add_mul, Nat.mul_assoc]
    have e9 : 2 * (c + 2) * X = 2 * (c * X) + 4 * X := by rw [Nat.mul_assoc, Nat.add_mul]; omega
    omega
  · rw [← itF_fst, ← row_fst, ← List.map_take, e7]
    congr 1
    apply List.map_congr_left
    intro b _
    rw [List.map_take, itF_fst, ← List.map_take]

/-! Its cost, and that none is cheaper. -/
theorem map_idx {α β : Type} (l : List α) (g : α → β) (h : Nat → β) (e : ∀ i x, l[i]? = some x → g x = h i) : l.map g = (List.range l.length).map h := by
  apply List.ext_getElem?
  intro i
  by_cases hi : i < l.length
  · have h1 : l[i]? = some l[i] := by simp [hi]
    simp only [List.getElem?_map, h1, Option.map_some, List.getElem?_range hi]
    rw [e i _ h1]
  · rw [List.getElem?_eq_none (by simpa using hi), List.getElem?_eq_none (by simpa using hi)]
def XP (LF : List (Nat × Nat)) (L : Nat) : List (Nat × Nat) := LF.map fun x => (x.1, lenOf LF L x.2)
theorem take_sum_if (w : Nat → Nat) (n a : Nat) (ha : a ≤ n) : ((List.range n).map fun i => if i < a then w i else 0).sum = ((List.range a).map w).sum := by
  have h1 := sum_const (fun i => if i < a then w i else 0) 0 a n ha (fun i h1 h2 => by simp; omega)
  rw [h1, Nat.mul_zero, Nat.add_zero]
  congr 1
  apply List.map_congr_left
  intro i hi
  simp [List.mem_range.1 hi]
theorem levels_cost (w : Nat → Nat) (n : Nat) : ∀ A : List Nat, (∀ a ∈ A, a ≤ n) → (A.map fun a => ((List.range a).map w).sum).sum = ((List.range n).map fun i => w i * lenA A i).sum
  | [], h => by
    clear h
    simp only [List.map_nil, List.sum_nil, lenA, List.countP_nil, Nat.mul_zero]
    generalize List.range n = l
    induction l with
    | nil => rfl
    | cons x r ih => rw [List.map_cons, List.sum_cons, ← ih, Nat.add_zero]
  | a :: A, h => by
    have ih := levels_cost w n A (fun b hb => h b (by simp [hb]))
    rw [List.map_cons, List.sum_cons, ih, ← take_sum_if w n a (h a (by simp))]
    have hl : ∀ i, lenA (a :: A) i = lenA A i + if i < a then 1 else 0 := by
      intro i
      unfold lenA
      rw [List.countP_cons]
      by_cases hi : i < a <;> simp [hi]
    generalize List.range n = l
    induction l with
    | nil => rfl
    | cons i r ihr =>
      simp only [List.map_cons, List.sum_cons]
      rw [hl i, Nat.mul_add]
      by_cases hi : i < a
      · simp only [hi, if_true, Nat.mul_one]; omega
      · simp only [hi, if_false, Nat.mul_zero]; omega
theorem kraft_all (X : List (Nat × Nat)) (L : Nat) (h : ∀ x ∈ X, 1 ≤ x.2) : kraft X L 1 = (X.map fun x => 2 ^ (L - x.2)).sum := by
  unfold kraft
  rw [List.filter_eq_self.2 (fun x hx => by simpa using h x hx)]

/-- What package-merge answers, in one row: lengths from 1 to L, the whole space, the cost of the first items. -/
theorem pm_all (LF : List (Nat × Nat)) (hs : LF.Pairwise (fun a b => a.1 ≤ b.1)) (hp : ∀ x ∈ LF, 0 < x.1) (hd : (LF.map (·.2)).Nodup) (L : Nat) (hL : 1 ≤ L) (hn : 2 ≤ LF.length) (hn2 : LF.length ≤ 2 ^ L) :
    (∀ x ∈ XP LF L, 1 ≤ x.2 ∧ x.2 ≤ L) ∧ kraft (XP LF L) L 1 = 2 ^ L ∧ costX (XP LF L) = ((rww (LF.map (·.1)) (L - 1)).take (2 * LF.length - 2)).sum ∧
      (∀ (i j : Nat) (x y : Nat × Nat), i ≤ j → LF[i]? = some x → LF[j]? = some y → lenOf LF L y.2 ≤ lenOf LF L x.2) := by
  obtain ⟨A, e1, e2, e3, e4, e5, e6, e7⟩ := pm_lens LF hs hp hd L hL hn hn2
  have hX : XP LF L = (List.range LF.length).map fun i => ((LF.getD i (0, 0)).1, lenA A i) := by
    unfold XP
    apply map_idx
    intro i x hx
    rw [e3 i x hx]
    simp [List.getD, hx]
  have hbd : ∀ x ∈ XP LF L, 1 ≤ x.2 ∧ x.2 ≤ L := by
    intro x hx
    rw [hX] at hx
    obtain ⟨i, hi, rfl⟩ := List.mem_map.1 hx
    have := lenA_le A i
    exact ⟨e4 i (List.mem_range.1 hi), by simp only; omega⟩
  refine ⟨hbd, ?_, ?_, ?_⟩
  · rw [kraft_all _ _ (fun x hx => (hbd x hx).1), hX, List.map_map, ← e5]
    unfold kraftA
    rw [e1]
    rfl
  · rw [e7]
    unfold costX
    rw [hX, List.map_map]
    have h1 := levels_cost (fun i => (LF.getD i (0, 0)).1) LF.length A e6
    have h2 : (A.map fun a => ((LF.take a).map (·.1)).sum) = A.map fun a => ((List.range a).map fun i => (LF.getD i (0, 0)).1).sum := by
      apply List.map_congr_left
      intro a ha
      have hal := e6 a ha
      congr 1
      rw [map_idx (LF.take a) (·.1) (fun i => (LF.getD i (0, 0)).1) (fun i x hx => by
        rw [List.getElem?_take] at hx
        split at hx
        · simp [List.getD, hx]
        · simp at hx)]
      rw [List.length_take, Nat.min_eq_left hal]
    rw [h2, h1]
    rfl
  · intro i j x y hij hx hy
    rw [e3 i x hx, e3 j y hy]
    exact lenA_anti A i j hij

/-- G8: no lengths from 1 to L that take at most the whole space cost less. -/
theorem pm_best (LF : List (Nat × Nat)) (hs : LF.Pairwise (fun a b => a.1 ≤ b.1)) (hp : ∀ x ∈ LF, 0 < x.1) (hd : (LF.map (·.2)).Nodup) (L : Nat) (hL : 1 ≤ L) (hn : 2 ≤ LF.length) (hn2 : LF.length ≤ 2 ^ L)
    (X : List (Nat × Nat)) (hX : (X.map (·.1)).Perm (LF.map (·.1))) (h : ∀ x ∈ X, 1 ≤ x.2 ∧ x.2 ≤ L) (hk : kraft X L 1 ≤ 2 ^ L) : costX (XP LF L) ≤ costX X := by
  rw [(pm_all LF hs hp hd L hL hn hn2).2.2.1]
  have hl : X.length = LF.length := by have := hX.length_eq; simpa using this
  rw [← hl]
  exact pm_least X (LF.map (·.1)) hX.symm (by rw [List.pairwise_map]; exact hs) L hL h hk
end Go.Proofs.YtoeabfcnfofbiaaDoor
