
import Derived.Test.YthebboppbebffaaRgP2
namespace Go.Proofs.Ythebboppbebffaa
open Go.RowKit
set_option linter.unusedVariables false

/-! Bytes that are put in: the last of them, at most the size, go round once at most. -/
theorem getD_app6 (A B : List Int) (i : Nat) : (A ++ B).getD i 0 = if i < A.length then A.getD i 0 else B.getD (i - A.length) 0 := by
  by_cases h : i < A.length
  · rw [if_pos h]; simp [List.getD, List.getElem?_append, h]
  · rw [if_neg h]; simp [List.getD, List.getElem?_append, h]
theorem getD_drop6 (A : List Int) (j i : Nat) : (A.drop j).getD i 0 = A.getD (j + i) 0 := by simp [List.getD, List.getElem?_drop]
theorem getD_take6 (A : List Int) (j i : Nat) (h : i < j) : (A.take j).getD i 0 = A.getD i 0 := by simp [List.getD, h]
theorem mod_far6 {S a i : Nat} (h1 : i < a) (h2 : a < i + S) : a % S ≠ i % S := by
  intro e
  have h3 := Nat.sub_mod_eq_zero_of_mod_eq e
  rw [Nat.mod_eq_of_lt (by omega)] at h3
  omega
theorem Rnd.put {S : Nat} {L K p q : List Int} {r m : Nat} (h : Rnd S L K) (hS : 1 ≤ S) (hp : ∀ z ∈ p, 0 ≤ z ∧ z ≤ 255) (hq : q = p.drop (p.length - S)) (hr : r = (L.length + p.length - q.length) % S) (hm : m = min q.length (S - r)) :
    Rnd S (L ++ p) (splice (splice K r (q.take m)) 0 (q.drop m)) := by
  have hl := h.len
  have hrS : r < S := by rw [hr]; exact Nat.mod_lt _ hS
  have hql : q.length = min p.length S := by rw [hq, List.length_drop]; omega
  have ht : (q.take m).length = m := by rw [List.length_take]; omega
  have hd : (q.drop m).length = q.length - m := by rw [List.length_drop]
  have f1 : r + (q.take m).length ≤ K.length := by omega
  have l1 : (splice K r (q.take m)).length = S := by rw [length_splice _ _ _ f1, hl]
  have f2 : 0 + (q.drop m).length ≤ (splice K r (q.take m)).length := by omega
  have hqm : ∀ z ∈ q, 0 ≤ z ∧ z ≤ 255 := fun z hz => hp z (by rw [hq] at hz; exact List.mem_of_mem_drop hz)
  refine ⟨by rw [length_splice _ _ _ f2, l1], ?_, ?_⟩
  · intro z hz
    rcases splice_mem hz with hz | hz
    · rcases splice_mem hz with hz | hz
      · exact h.bd z hz
      · exact hqm z (List.mem_of_mem_take hz)
    · exact hqm z (List.mem_of_mem_drop hz)
  · intro i h1 h2
    rw [List.length_append] at h1 h2
    rw [splice_getD _ _ _ f2, splice_getD _ _ _ f1, ht, hd]
    have hbase : L.length + p.length - q.length ≤ i ∨ i < L.length + p.length - q.length := by omega
    obtain ⟨base, hb⟩ : ∃ base, base = L.length + p.length - q.length := ⟨_, rfl⟩
    rw [← hb] at hr hbase
    rcases hbase with hi | hi
    · obtain ⟨j, rfl⟩ : ∃ j, i = base + j := ⟨i - base, by omega⟩
      have hj : j < q.length := by omega
      have hmod : (base + j) % S = (r + j) % S := by rw [hr, Nat.mod_add_mod]
      have hv : (L ++ p).getD (base + j) 0 = q.getD j 0 := by
        rw [getD_app6, if_neg (by omega), hq, getD_drop6]
        congr 1
        omega
      rw [hv, hmod]
      by_cases hjr : r + j < S
      · rw [Nat.mod_eq_of_lt hjr, if_neg (by omega), if_pos (by omega), getD_take6 _ _ _ (by omega)]
        congr 1
        omega
      · have e : (r + j) % S = r + j - S := by rw [Nat.mod_eq_sub_mod (by omega), Nat.mod_eq_of_lt (by omega)]
        rw [e, if_pos (by omega), getD_drop6]
        congr 1
        omega
    · have hv : (L ++ p).getD i 0 = L.getD i 0 := by rw [getD_app6, if_pos (by omega)]
      have hK := h.at_ i (by omega) (by omega)
      have hi' : i % S < S := Nat.mod_lt _ hS
      have hno : ∀ j, j < q.length → (r + j) % S ≠ i % S := by
        intro j hj
        have e : (r + j) % S = (base + j) % S := by rw [hr, Nat.mod_add_mod]
        rw [e]
        exact mod_far6 (by omega) (by omega)
      have n1 : ¬ (0 ≤ i % S ∧ i % S < 0 + (q.length - m)) := by
        rintro ⟨_, e⟩
        refine hno (i % S + m) (by omega) ?_
        rw [show r + (i % S + m) = i % S + S by omega, Nat.add_mod_right, Nat.mod_eq_of_lt hi']
      have n2 : ¬ (r ≤ i % S ∧ i % S < r + m) := by
        rintro ⟨e1, e2⟩
        refine hno (i % S - r) (by omega) ?_
        rw [show r + (i % S - r) = i % S by omega, Nat.mod_eq_of_lt hi']
      rw [if_neg n1, if_neg n2, hK, hv]
end Go.Proofs.Ythebboppbebffaa
