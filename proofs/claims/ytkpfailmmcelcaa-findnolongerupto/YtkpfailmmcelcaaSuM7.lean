
import Derived.Test.YtkpfailmmcelcaaSuM2
namespace Go.Proofs.Ytkpfailmmcelcaa
set_option linter.unusedVariables false

/-! How a suffix stands to a text, as mathematics (split off SuI1). -/
theorem ll_iff13 : ∀ (X p : List Int), ¬ lc13 X p = p.length → (LL12 X p ↔ (lc13 X p = X.length ∨ X.getD (lc13 X p) 0 < p.getD (lc13 X p) 0))
  | [], [], h => by simp [lc13] at h
  | _ :: _, [], h => by simp [lc13] at h
  | [], y :: p, h => ⟨fun _ => Or.inl (by simp [lc13]), fun _ => .nil⟩
  | x :: X, y :: p, h => by
    unfold lc13 at h ⊢
    by_cases e : x = y
    · subst e
      rw [if_pos rfl] at h ⊢
      have ih := ll_iff13 X p (by simpa using h)
      constructor
      · intro k
        rcases k.inv with k | ⟨_, k⟩
        · omega
        · rcases ih.1 k with c | c
          · exact Or.inl (by simp [c])
          · exact Or.inr (by simpa [List.getD] using c)
      · intro k
        refine .eq (ih.2 ?_)
        rcases k with c | c
        · exact Or.inl (by simpa using c)
        · exact Or.inr (by simpa [List.getD] using c)
    · rw [if_neg e]
      constructor
      · intro k
        rcases k.inv with k | ⟨k, _⟩
        · exact Or.inr (by simpa [List.getD] using k)
        · exact absurd k e
      · intro k
        rcases k with c | c
        · simp at c
        · exact .lt (by simpa [List.getD] using c)
open Classical in
noncomputable def cv13 (X p : List Int) : Int := if lc13 X p = p.length then 0 else if LL12 X p then -1 else 1
theorem cv13_zero {X p : List Int} (h : lc13 X p = p.length) : cv13 X p = 0 := by unfold cv13; rw [if_pos h]
theorem cv13_less {X p : List Int} (h : ¬ lc13 X p = p.length) (k : LL12 X p) : cv13 X p = -1 := by unfold cv13; rw [if_neg h, if_pos k]
theorem cv13_more {X p : List Int} (h : ¬ lc13 X p = p.length) (k : ¬ LL12 X p) : cv13 X p = 1 := by unfold cv13; rw [if_neg h, if_neg k]
end Go.Proofs.Ytkpfailmmcelcaa
