
import Derived.Test.YtbgnlbgoeogbaaaSaPc
namespace Go.Proofs.Ytbgnlbgoeogbaaa
open Go.RowKit
set_option linter.unusedVariables false

/-! SaisPieces. -/
def sw12 (o : List Nat) (x y : Nat) : List Nat := (o.set x (o.getD y 0)).set y (o.getD x 0)
theorem sw12_len (o : List Nat) (x y : Nat) : (sw12 o x y).length = o.length := by simp [sw12]
theorem sw12_get {o : List Nat} {x y : Nat} (hx : x < o.length) (hy : y < o.length) (k : Nat) : (sw12 o x y).getD k 0 = if k = y then o.getD x 0 else if k = x then o.getD y 0 else o.getD k 0 := by
  unfold sw12
  rw [getD_set12 _ _ _ _ (by rw [List.length_set]; exact hy), getD_set12 _ _ _ _ hx]
theorem sw12_or {n : Nat} {sm : Nat → Bool} {o : List Nat} (h : Or12 n sm o) {x y : Nat} (hx : x < o.length) (hy : y < o.length) : Or12 n sm (sw12 o x y) := by
  have hl := sw12_len o x y
  have hg : ∀ (l : List Nat) (k : Nat) (hk : k < l.length), l.getD k 0 = l[k] := fun l k hk => by simp [List.getD, hk]
  have hnd : ∀ i j, i < o.length → j < o.length → i ≠ j → o.getD i 0 ≠ o.getD j 0 := by
    intro i j hi hj hne e
    rw [hg o i hi, hg o j hj] at e
    rcases Nat.lt_or_gt_of_ne hne with k | k
    · exact List.pairwise_iff_getElem.1 h.nd i j hi hj k e
    · exact List.pairwise_iff_getElem.1 h.nd j i hj hi k e.symm
  refine ⟨?_, fun j => ?_⟩
  · rw [List.Nodup, List.pairwise_iff_getElem]
    intro i j hi hj hij
    rw [hl] at hi hj
    rw [← hg _ i (by rw [hl]; exact hi), ← hg _ j (by rw [hl]; exact hj), sw12_get hx hy, sw12_get hx hy]
    by_cases a1 : i = y <;> by_cases a2 : j = y <;> by_cases a3 : i = x <;> by_cases a4 : j = x <;> simp only [a1, a2, a3, a4, if_true, if_false] <;> first | omega | (apply hnd <;> omega) | skip
    all_goals first | (split <;> (apply hnd <;> omega)) | (apply hnd <;> omega)
  · rw [← h.mem j]
    constructor
    · intro hm
      obtain ⟨k, hk, e⟩ := List.mem_iff_getElem.1 hm
      rw [hl] at hk
      rw [← hg _ k (by rw [hl]; exact hk), sw12_get hx hy] at e
      split at e
      · rw [← e, hg o x hx]; exact List.getElem_mem hx
      · split at e
        · rw [← e, hg o y hy]; exact List.getElem_mem hy
        · rw [← e, hg o k hk]; exact List.getElem_mem hk
    · intro hm
      obtain ⟨k, hk, e⟩ := List.mem_iff_getElem.1 hm
      rw [← hg o k hk] at e
      have hput : ∀ q, q < o.length → (sw12 o x y).getD q 0 = j → j ∈ sw12 o x y := fun q hq e2 => by
        have hq' : q < (sw12 o x y).length := by rw [hl]; exact hq
        rw [hg _ q hq'] at e2
        rw [← e2]
        exact List.getElem_mem hq'
      by_cases a1 : k = x
      · refine hput y hy ?_
        rw [sw12_get hx hy, if_pos rfl, ← a1]; exact e
      · by_cases a2 : k = y
        · by_cases a3 : x = y
          · omega
          · refine hput x hx ?_
            rw [sw12_get hx hy, if_neg a3, if_pos rfl, ← a2]; exact e
        · refine hput k hk ?_
          rw [sw12_get hx hy, if_neg a2, if_neg a1]; exact e
theorem sw12_nz (o : List Nat) (x y : Nat) (hx : x < o.length) (hy : y < o.length) : ((nz12 o).set x (((o.getD y 0 : Nat) : Int))).set y (((o.getD x 0 : Nat) : Int)) = nz12 (sw12 o x y) := by
  unfold sw12 nz12
  rw [List.map_set, List.map_set]
theorem le_no12 {a b : List Int} (h : LE12 a b) : ¬ LL12 b a := by
  intro k
  rcases h with rfl | h
  · exact k.irrefl
  · exact h.asymm k
end Go.Proofs.Ytbgnlbgoeogbaaa
