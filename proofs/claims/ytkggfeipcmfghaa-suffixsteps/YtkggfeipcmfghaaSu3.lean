
import Derived.Test.YtkggfeipcmfghaaSu3a
namespace Go.Proofs.Ytkggfeipcmfghaa
open Go.RowKit
set_option linter.unusedVariables false

/-! The landed suffix: made, refusal, Len, Data, Array, At, Rank. -/
set_option maxRecDepth 100000 in
theorem pmaden13 (w : World) :
    Calls Try.prog 44 #[.pointer none] w fun e w' => e = .returned (.bool false) ∧ w' = w := by
  go_enter Try.func44, Try.ntmps44
  go_wp2_with fail
  go_ret
  exact ⟨rfl, rfl⟩
set_option maxRecDepth 100000 in
theorem pmadez13 (b : Nat) (w : World) (c2 : w.cell? ⟨b, 2, none⟩ = some .nilFunc) :
    Calls Try.prog 44 #[.pointer (some ⟨b, 0, none⟩)] w fun e w' => e = .returned (.bool false) ∧ w' = w := by
  have HE := run_neq_nilfunc13 (P := Try.prog) w Try.underlying80
  go_enter Try.func44, Try.ntmps44
  go_wp2_with fail
  go_ret
  exact ⟨rfl, rfl⟩
def in13 (n : Nat) (P : List Int) : Bool := P.all fun i => decide (0 ≤ i) && decide (i < (n : Int))
theorem in13_take (n : Nat) (P : List Int) (k : Nat) (h : k < P.length) : in13 n (P.take (k + 1)) = (in13 n (P.take k) && (decide (0 ≤ P.getD k 0) && decide (P.getD k 0 < (n : Int)))) := by
  unfold in13
  rw [take_snocZ h, List.all_append]
  simp
theorem in13_no (n : Nat) (P : List Int) (k : Nat) (h : k < P.length) (hv : ¬ (0 ≤ P.getD k 0 ∧ P.getD k 0 < (n : Int))) : in13 n P = false := by
  unfold in13
  rw [List.all_eq_false]
  refine ⟨P[k], List.getElem_mem h, ?_⟩
  have e : P.getD k 0 = P[k] := by simp [List.getD, h]
  rw [e] at hv
  simp only [Bool.and_eq_true, decide_eq_true_eq]
  exact hv
def er13 (n : Nat) (P : List Int) : Int := if in13 n P = true then 0 else 132
theorem segZ_lit13 (w : World) (v : Int) (hv : -9223372036854775808 ≤ v ∧ v ≤ 9223372036854775807) : SegZ (w.alloc (.cells #[.int .i64 v] 3)) (some ⟨w.heap.size, 0, none⟩) [v] :=
  (Rz12.new w [v]).seg (by intro z hz; simp at hz; subst hz; exact hv)
theorem segZ_two13 (w : World) (v u : Int) (hv : -9223372036854775808 ≤ v ∧ v ≤ 9223372036854775807) (hu : -9223372036854775808 ≤ u ∧ u ≤ 9223372036854775807) : SegZ (w.alloc (.cells #[.int .i64 v, .int .i64 u] 3)) (some ⟨w.heap.size, 0, none⟩) [v, u] :=
  (Rz12.new w [v, u]).seg (by intro z hz; simp at hz; rcases hz with rfl | rfl <;> assumption)
theorem er13_one (n : Nat) (v : Int) : er13 n [v] = if 0 ≤ v ∧ v < (n : Int) then 0 else 132 := by
  unfold er13 in13
  by_cases h1 : 0 ≤ v <;> by_cases h2 : v < (n : Int) <;> simp [h1, h2]
theorem er13_two (n : Nat) (v u : Int) : er13 n [v, u] = if (0 ≤ v ∧ v < (n : Int)) ∧ (0 ≤ u ∧ u < (n : Int)) then 0 else 132 := by
  unfold er13 in13
  by_cases h1 : 0 ≤ v <;> by_cases h2 : v < (n : Int) <;> by_cases h3 : 0 ≤ u <;> by_cases h4 : u < (n : Int) <;> simp [h1, h2, h3, h4]
end Go.Proofs.Ytkggfeipcmfghaa
