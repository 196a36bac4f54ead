
import Derived.Test.YtkpfailmmcelcaaFd1
namespace Go.Proofs.Ytkpfailmmcelcaa
open Go.RowKit
set_option linter.unusedVariables false

/-! The document's Stands, less, Range, common, Longest (layer 14). -/
theorem drop_get14 (z : List Int) (i m : Nat) : (z.drop i).getD m 0 = z.getD (i + m) 0 := by simp [List.getD]
theorem cv_at14 {z p : List Int} {n m at_ i : Nat} (hn : z.length = n) (hm : p.length = m) (hat : at_ ≤ n) (hi : i ≤ lc13 (z.drop at_) p) (him : i < m) :
    (¬ at_ + i < n → cv13 (z.drop at_) p < 0) ∧ (at_ + i < n → z.getD (at_ + i) 0 = p.getD i 0 → i + 1 ≤ lc13 (z.drop at_) p) ∧ (at_ + i < n → ¬ z.getD (at_ + i) 0 = p.getD i 0 → (cv13 (z.drop at_) p < 0 ↔ z.getD (at_ + i) 0 < p.getD i 0) ∧ ¬ cv13 (z.drop at_) p = 0) := by
  have hdl : (z.drop at_).length = n - at_ := by rw [List.length_drop, hn]
  refine ⟨fun h => ?_, fun h e => ?_, fun h e => ?_⟩
  · have h1 := lc13_le (z.drop at_) p
    have h2 : lc13 (z.drop at_) p = (z.drop at_).length := by omega
    exact cv13_neg_iff.2 ((ll_iff13 _ _ (by omega)).2 (Or.inl h2))
  · exact lc13_more hi (by omega) (by omega) (by rw [drop_get14]; exact e)
  · have h1 : lc13 (z.drop at_) p = i := lc13_stop hi (by rw [drop_get14]; exact e)
    have h2 : ¬ lc13 (z.drop at_) p = p.length := by omega
    refine ⟨?_, fun k => h2 (cv13_zero_iff.1 k)⟩
    rw [cv13_neg_iff, ll_iff13 _ _ h2, h1, drop_get14]
    constructor
    · rintro (c | c)
      · omega
      · exact c
    · exact fun c => Or.inr c
/-- The ranks, of which so many places are counted. -/
noncomputable def loK14 (z p : List Int) (k : Nat) : Nat := cn12 (fun j => cv13 (z.drop j) p < 0) k
noncomputable def hiK14 (z p : List Int) (k : Nat) : Nat := cn12 (fun j => cv13 (z.drop j) p ≤ 0) k
theorem loK14_yes {z p : List Int} {k : Nat} (h : cv13 (z.drop k) p < 0) : loK14 z p (k + 1) = loK14 z p k + 1 := by
  unfold loK14
  show cn12 _ k + _ = _
  rw [if_pos h]
theorem loK14_no {z p : List Int} {k : Nat} (h : ¬ cv13 (z.drop k) p < 0) : loK14 z p (k + 1) = loK14 z p k := by
  unfold loK14
  show cn12 _ k + _ = _
  rw [if_neg h]
  rfl
theorem hiK14_yes {z p : List Int} {k : Nat} (h : cv13 (z.drop k) p ≤ 0) : hiK14 z p (k + 1) = hiK14 z p k + 1 := by
  unfold hiK14
  show cn12 _ k + _ = _
  rw [if_pos h]
theorem hiK14_no {z p : List Int} {k : Nat} (h : ¬ cv13 (z.drop k) p ≤ 0) : hiK14 z p (k + 1) = hiK14 z p k := by
  unfold hiK14
  show cn12 _ k + _ = _
  rw [if_neg h]
  rfl
theorem below_drewN14 (w : World) (d : Nat) : Below w.heap.size w (w.drewN d) := ⟨rfl, rfl, rfl, Nat.le_refl _, fun _ _ => rfl⟩
theorem drewN14 (w : World) (a b : Nat) : (w.drewN a).drewN b = w.drewN (a + b) := by simp [World.drewN, Nat.add_assoc]
end Go.Proofs.Ytkpfailmmcelcaa
