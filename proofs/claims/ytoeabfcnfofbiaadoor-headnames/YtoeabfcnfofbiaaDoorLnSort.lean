
import Derived.Test.YtoeabfcnfofbiaaDoorLnItem
namespace Go.Proofs.YtoeabfcnfofbiaaDoor
set_option linter.unusedVariables false

/-! The stable sort, as moves of a row. -/
def lst (X : Nat → Im) (a b : Nat) : List Im := (List.range' a (b - a)).map X
/-- Y has within a .. b what X has there, and is X elsewhere. -/
def Pm (X Y : Nat → Im) (a b : Nat) : Prop := (lst Y a b).Perm (lst X a b) ∧ ∀ k, k < a ∨ b ≤ k → Y k = X k
theorem Pm.refl (X : Nat → Im) (a b : Nat) : Pm X X a b := ⟨List.Perm.refl _, fun _ _ => rfl⟩
theorem Pm.trans {X Y Z : Nat → Im} {a b : Nat} (h : Pm X Y a b) (k : Pm Y Z a b) : Pm X Z a b := ⟨k.1.trans h.1, fun i hi => (k.2 i hi).trans (h.2 i hi)⟩
theorem lst_split (X : Nat → Im) (a m b : Nat) (h1 : a ≤ m) (h2 : m ≤ b) : lst X a b = lst X a m ++ lst X m b := by
  unfold lst
  rw [← List.map_append]
  congr 1
  have e : b - a = (m - a) + (b - m) := by omega
  have e2 : a + (m - a) = m := by omega
  rw [e, ← List.range'_append_1, e2]
theorem lst_congr {X Y : Nat → Im} {a b : Nat} (h : ∀ k, a ≤ k → k < b → Y k = X k) : lst Y a b = lst X a b := by
  unfold lst
  apply List.map_congr_left
  intro k hk
  rw [List.mem_range'_1] at hk
  exact h k hk.1 (by omega)
theorem Pm.wide {X Y : Nat → Im} {a b a' b' : Nat} (h : Pm X Y a b) (h1 : a' ≤ a) (h2 : a ≤ b) (h3 : b ≤ b') : Pm X Y a' b' := by
  refine ⟨?_, fun k hk => h.2 k (by omega)⟩
  rw [lst_split Y a' a b' h1 (by omega), lst_split Y a b b' h2 h3, lst_split X a' a b' h1 (by omega), lst_split X a b b' h2 h3]
  rw [lst_congr (X := X) (Y := Y) (a := a') (b := a) (fun k _ hk => h.2 k (by omega)), lst_congr (X := X) (Y := Y) (a := b) (b := b') (fun k hk _ => h.2 k (by omega))]
  exact (h.1.append_right _).append_left _
theorem mem_lst {X : Nat → Im} {a b : Nat} {x : Im} : x ∈ lst X a b ↔ ∃ k, a ≤ k ∧ k < b ∧ X k = x := by
  unfold lst
  rw [List.mem_map]
  constructor
  · rintro ⟨k, hk, rfl⟩
    rw [List.mem_range'_1] at hk
    exact ⟨k, hk.1, by omega, rfl⟩
  · rintro ⟨k, h1, h2, rfl⟩
    exact ⟨k, by rw [List.mem_range'_1]; omega, rfl⟩
theorem Pm.mem {X Y : Nat → Im} {a b k : Nat} (h : Pm X Y a b) (h1 : a ≤ k) (h2 : k < b) : ∃ j, a ≤ j ∧ j < b ∧ Y k = X j := by
  obtain ⟨j, h3, h4, h5⟩ := mem_lst.1 (h.1.mem_iff.1 (mem_lst.2 ⟨k, h1, h2, rfl⟩))
  exact ⟨j, h3, h4, h5.symm⟩
theorem setp {α : Type} (d : α) : ∀ (l : List α) (i : Nat) (x : α), i < l.length → (l.getD i d :: l.set i x).Perm (x :: l)
  | [], _, _, h => by simp at h
  | z :: r, 0, x, _ => by simpa using List.Perm.swap x z r
  | z :: r, i + 1, x, h => by
    have := setp d r i x (by simpa using h)
    simp only [List.getD_cons_succ, List.set_cons_succ]
    exact (List.Perm.swap z (r.getD i d) (r.set i x)).trans ((this.cons z).trans (List.Perm.swap x z r))
theorem lst_get (X : Nat → Im) (a b k : Nat) (h : k < b - a) (d : Im) : (lst X a b).getD k d = X (a + k) := by
  unfold lst
  simp [List.getD, h]
theorem lst_get? (X : Nat → Im) (a b k : Nat) : (lst X a b)[k]? = if k < b - a then some (X (a + k)) else none := by
  unfold lst
  rw [List.getElem?_map]
  by_cases h : k < b - a
  · simp [h]
  · simp [h]
theorem lst_upd (X : Nat → Im) (a b i : Nat) (x : Im) (h1 : a ≤ i) (h2 : i < b) : lst (upd X i x) a b = (lst X a b).set (i - a) x := by
  apply List.ext_getElem?
  intro k
  have hl : (lst X a b).length = b - a := by simp [lst]
  rw [List.getElem?_set, lst_get?, lst_get?, hl]
  unfold upd
  by_cases e : i - a = k
  · rw [if_pos e, if_pos (show k < b - a by omega), if_pos (show a + k = i by omega), if_pos (by omega)]
  · rw [if_neg e]
    by_cases h : k < b - a
    · rw [if_pos h, if_pos h, if_neg (show ¬ a + k = i by omega)]
    · rw [if_neg h, if_neg h]
theorem Pm.swap (X : Nat → Im) {a b i j : Nat} (hi : a ≤ i) (hi2 : i < b) (hj : a ≤ j) (hj2 : j < b) : Pm X (swI X i j) a b := by
  refine ⟨?_, fun k hk => by rw [swI_at, if_neg (by omega), if_neg (by omega)]⟩
  unfold swI
  rw [lst_upd _ a b j _ hj hj2, lst_upd _ a b i _ hi hi2]
  have hl : (lst X a b).length = b - a := by simp [lst]
  have h1 := setp (X 0) (lst X a b) (i - a) (X j) (by omega)
  have h2 := setp (X 0) ((lst X a b).set (i - a) (X j)) (j - a) (X i) (by simp; omega)
  rw [lst_get X a b (i - a) (by omega)] at h1
  have e1 : a + (i - a) = i := by omega
  rw [e1] at h1
  have h3 : ((lst X a b).set (i - a) (X j)).getD (j - a) (X 0) = X j := by
    by_cases e : i - a = j - a
    · rw [← e]; simp [List.getD, hl, show i - a < b - a by omega]
    · have := lst_get X a b (j - a) (by omega) (X 0)
      have e2 : a + (j - a) = j := by omega
      rw [e2] at this
      rw [← this]
      simp [List.getD, e]
  rw [h3] at h2
  exact List.Perm.cons_inv (h2.trans h1)

def kl (x y : Im) : Prop := x.wt < y.wt ∨ (x.wt = y.wt ∧ x.sy < y.sy)
theorem kl_trans {x y z : Im} (h : kl x y) (k : kl y z) : kl x z := by unfold kl at *; omega
/-- In order, from a to b. -/
def so (X : Nat → Im) (a b : Nat) : Prop := ∀ i j, a ≤ i → i < j → j < b → kl (X i) (X j)
/-- What stands left of m has the lesser symbols. -/
def sep (X : Nat → Im) (a m b : Nat) : Prop := ∀ i j, a ≤ i → i < m → m ≤ j → j < b → (X i).sy < (X j).sy
theorem kl_of_wt {x y : Im} (h : x.sy < y.sy) (hw : ¬ y.wt < x.wt) : kl x y := by unfold kl; omega
/-- The item at m put in at j. -/
def insA (X : Nat → Im) (m j : Nat) : Nat → Im := fun k => if k < j then X k else if k = j then X m else if k ≤ m then X (k - 1) else X k
theorem insA_self (X : Nat → Im) (m : Nat) : insA X m m = X := by
  funext k
  unfold insA
  by_cases h1 : k < m
  · rw [if_pos h1]
  · rw [if_neg h1]
    by_cases h2 : k = m
    · rw [if_pos h2, h2]
    · rw [if_neg h2, if_neg (by omega)]
theorem insA_step (X : Nat → Im) (m j : Nat) (hj : 0 < j) (hm : j ≤ m) : swI (insA X m j) j (j - 1) = insA X m (j - 1) := by
  funext k
  rw [swI_at]
  unfold insA
  (repeat' split) <;> first | rfl | (exfalso; omega) | (congr 1; omega)
theorem insA_so {X : Nat → Im} {a m j : Nat} (h : so X a m) (h1 : a ≤ j) (h2 : j ≤ m) (hl : ∀ k, a ≤ k → k < j → kl (X k) (X m)) (hr : ∀ k, j ≤ k → k < m → kl (X m) (X k)) : so (insA X m j) a (m + 1) := by
  intro p q hp hpq hq
  unfold insA
  by_cases c1 : p < j
  · rw [if_pos c1]
    by_cases c2 : q < j
    · rw [if_pos c2]; exact h p q hp hpq (by omega)
    · rw [if_neg c2]
      by_cases c3 : q = j
      · rw [if_pos c3]; exact hl p hp c1
      · rw [if_neg c3, if_pos (by omega)]; exact h p (q - 1) hp (by omega) (by omega)
  · rw [if_neg c1, if_neg (show ¬ q < j by omega), if_neg (show ¬ q = j by omega), if_pos (show q ≤ m by omega)]
    by_cases c2 : p = j
    · rw [if_pos c2]; exact hr (q - 1) (by omega) (by omega)
    · rw [if_neg c2, if_pos (by omega)]; exact h (p - 1) (q - 1) (by omega) (by omega) (by omega)
/-- The item at a put in at j, further on. -/
def insU (X : Nat → Im) (a j : Nat) : Nat → Im := fun k => if k < a then X k else if k < j then X (k + 1) else if k = j then X a else X k
theorem insU_self (X : Nat → Im) (a : Nat) : insU X a a = X := by
  funext k
  unfold insU
  by_cases h1 : k < a
  · rw [if_pos h1]
  · rw [if_neg h1, if_neg h1]
    by_cases h2 : k = a
    · rw [if_pos h2, h2]
    · rw [if_neg h2]
theorem insU_step (X : Nat → Im) (a j : Nat) (hj : a ≤ j) : swI (insU X a j) j (j + 1) = insU X a (j + 1) := by
  funext k
  rw [swI_at]
  unfold insU
  by_cases h1 : k = j + 1
  · rw [if_pos h1, if_neg (by omega), if_neg (by omega), if_pos rfl, if_neg (by omega), if_neg (by omega), if_pos h1]
  · rw [if_neg h1]
    by_cases h2 : k = j
    · rw [if_pos h2, if_neg (by omega), if_neg (by omega), if_neg (by omega), if_neg (by omega), if_pos (by omega), h2]
    · rw [if_neg h2]
      by_cases h3 : k < a
      · rw [if_pos h3, if_pos h3]
      · rw [if_neg h3, if_neg h3]
        by_cases h4 : k < j
        · rw [if_pos h4, if_pos (by omega)]
        · rw [if_neg h4, if_neg h2, if_neg (by omega), if_neg h1]
theorem insU_so {X : Nat → Im} {a b j : Nat} (h : so X (a + 1) b) (h1 : a ≤ j) (h2 : j < b) (hl : ∀ k, a < k → k ≤ j → kl (X k) (X a)) (hr : ∀ k, j < k → k < b → kl (X a) (X k)) : so (insU X a j) a b := by
  intro p q hp hpq hq
  unfold insU
  rw [if_neg (show ¬ p < a by omega), if_neg (show ¬ q < a by omega)]
  by_cases c1 : p < j
  · rw [if_pos c1]
    by_cases c2 : q < j
    · rw [if_pos c2]; exact h (p + 1) (q + 1) (by omega) (by omega) (by omega)
    · rw [if_neg c2]
      by_cases c3 : q = j
      · rw [if_pos c3]; exact hl (p + 1) (by omega) (by omega)
      · rw [if_neg c3]; exact h (p + 1) q (by omega) (by omega) hq
  · rw [if_neg c1, if_neg (show ¬ q < j by omega), if_neg (show ¬ q = j by omega)]
    by_cases c2 : p = j
    · rw [if_pos c2]; exact hr q (by omega) hq
    · rw [if_neg c2]; exact h p q (by omega) hpq hq
/-! Runs that change places. -/
def swr (X : Nat → Im) (a b n : Nat) : Nat → Im := fun k => if a ≤ k ∧ k < a + n then X (b + (k - a)) else if b ≤ k ∧ k < b + n then X (a + (k - b)) else X k
theorem swr_zero (X : Nat → Im) (a b : Nat) : swr X a b 0 = X := by
  funext k
  unfold swr
  rw [if_neg (by omega), if_neg (by omega)]
theorem swr_step (X : Nat → Im) (a b n : Nat) (h : a + n < b) : swI (swr X a b n) (a + n) (b + n) = swr X a b (n + 1) := by
  funext k
  rw [swI_at]
  unfold swr
  by_cases h1 : k = b + n
  · rw [if_pos h1, if_neg (by omega), if_neg (by omega), if_neg (by omega), if_pos (by omega)]
    congr 1; omega
  · rw [if_neg h1]
    by_cases h2 : k = a + n
    · rw [if_pos h2, if_neg (by omega), if_neg (by omega), if_pos (by omega)]
      congr 1; omega
    · rw [if_neg h2]
      by_cases h3 : a ≤ k ∧ k < a + n
      · rw [if_pos h3, if_pos (by omega)]
      · rw [if_neg h3, if_neg (show ¬ (a ≤ k ∧ k < a + (n + 1)) by omega)]
        by_cases h4 : b ≤ k ∧ k < b + n
        · rw [if_pos h4, if_pos (by omega)]
        · rw [if_neg h4, if_neg (by omega)]
def rot (X : Nat → Im) (a m b : Nat) : Nat → Im := fun k => if a ≤ k ∧ k < a + (b - m) then X (k + (m - a)) else if a + (b - m) ≤ k ∧ k < b then X (k - (b - m)) else X k
theorem rot_more (X : Nat → Im) (m i j : Nat) (him : i ≤ m) (hj : 0 < j) (hij : j < i) : rot (swr X (m - i) m j) (m - (i - j)) m (m + j) = rot X (m - i) m (m + j) := by
  funext k
  unfold rot swr
  by_cases h1 : k < m - i
  · rw [if_neg (by omega), if_neg (by omega), if_neg (by omega), if_neg (by omega), if_neg (by omega), if_neg (by omega)]
  · by_cases h2 : k < m - i + j
    · rw [if_neg (show ¬ (m - (i - j) ≤ k ∧ k < m - (i - j) + (m + j - m)) by omega), if_neg (show ¬ (m - (i - j) + (m + j - m) ≤ k ∧ k < m + j) by omega), if_pos (by omega), if_pos (by omega)]
      congr 1; omega
    · by_cases h3 : k < m - (i - j) + j
      · rw [if_pos (by omega)]
        by_cases h4 : k + (m - (m - (i - j))) < m
        · rw [if_neg (by omega), if_neg (by omega), if_neg (by omega), if_pos (by omega)]
          congr 1; omega
        · rw [if_neg (by omega), if_pos (by omega), if_neg (by omega), if_pos (by omega)]
          congr 1; omega
      · by_cases h5 : k < m + j
        · rw [if_neg (by omega), if_pos (by omega)]
          rw [if_neg (show ¬ (m - i ≤ k ∧ k < m - i + (m + j - m)) by omega), if_pos (show m - i + (m + j - m) ≤ k ∧ k < m + j by omega)]
          by_cases h6 : k - (m + j - m) < m - i + j
          · omega
          · rw [if_neg (by omega), if_neg (by omega)]
        · rw [if_neg (by omega), if_neg (by omega), if_neg (by omega), if_neg (by omega), if_neg (by omega), if_neg (by omega)]
theorem rot_less (X : Nat → Im) (m i j : Nat) (him : i ≤ m) (hi : 0 < i) (hij : i < j) : rot (swr X (m - i) (m + j - i) i) (m - i) m (m + (j - i)) = rot X (m - i) m (m + j) := by
  funext k
  unfold rot swr
  by_cases h1 : k < m - i
  · rw [if_neg (by omega), if_neg (by omega), if_neg (by omega), if_neg (by omega), if_neg (by omega), if_neg (by omega)]
  · by_cases h2 : k < m - i + (j - i)
    · rw [if_pos (show m - i ≤ k ∧ k < m - i + (m + (j - i) - m) by omega)]
      rw [if_neg (by omega), if_neg (by omega), if_pos (by omega)]
    · by_cases h3 : k < m + (j - i)
      · rw [if_neg (show ¬ (m - i ≤ k ∧ k < m - i + (m + (j - i) - m)) by omega), if_pos (by omega)]
        rw [if_pos (by omega), if_pos (by omega)]
        congr 1; omega
      · by_cases h4 : k < m + j
        · rw [if_neg (by omega), if_neg (show ¬ (m - i + (m + (j - i) - m) ≤ k ∧ k < m + (j - i)) by omega), if_neg (by omega), if_pos (by omega)]
          rw [if_neg (by omega), if_pos (by omega)]
          congr 1; omega
        · rw [if_neg (by omega), if_neg (by omega), if_neg (by omega), if_neg (by omega), if_neg (by omega), if_neg (by omega)]
theorem rot_same (X : Nat → Im) (m i : Nat) (him : i ≤ m) : swr X (m - i) m i = rot X (m - i) m (m + i) := by
  funext k
  unfold rot swr
  by_cases h1 : m - i ≤ k ∧ k < m - i + i
  · rw [if_pos h1, if_pos (by omega)]; congr 1; omega
  · rw [if_neg h1, if_neg (show ¬ (m - i ≤ k ∧ k < m - i + (m + i - m)) by omega)]
    by_cases h2 : m ≤ k ∧ k < m + i
    · rw [if_pos h2, if_pos (by omega)]; congr 1; omega
    · rw [if_neg h2, if_neg (by omega)]
end Go.Proofs.YtoeabfcnfofbiaaDoor
