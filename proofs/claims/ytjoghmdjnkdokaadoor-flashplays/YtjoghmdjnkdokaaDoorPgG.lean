
import Derived.Test.YtjoghmdjnkdokaaDoorPgF
namespace Go.Proofs.YtjoghmdjnkdokaaDoor
open Go.RowKit Go.Shelf
set_option linter.unusedVariables false
set_option linter.unusedSimpArgs false

/-! The law's awake. -/
theorem Pn22.below {w w' : World} {v s g b N : Nat} {F : Nat → Prop} {S : Fs21} {P : Pw22} (h : Pn22 w w' v s g b F S P) (hF : ∀ k, F k → N ≤ k) (hs : N ≤ s) (hg : N ≤ g) (hN : N ≤ w.heap.size) : ∃ F', Pe22 w' v s g b F' S P ∧ (∀ k, F' k → N ≤ k) ∧ Below N w w' := by
  obtain ⟨F', h1, h2, h3⟩ := h
  refine ⟨F', h1, fun k e => ?_, h3.below (fun i e => ?_) hN⟩
  · rcases h2 k e with q | q
    · exact hF k q
    · omega
  · rcases e with e | e | e
    · exact hF i e
    · omega
    · omega
def sa22 : Fs21 := nw21 64 2 0 [] []
def pa22 : Pw22 := ⟨1, [], 0, 0, 0⟩
theorem awk22 : wrE22 sa22 pa22 (List.replicate 65 0) = 0 ∧ (wrP22 sa22 pa22 (List.replicate 65 0)).wn = 65 ∧ (wrP22 sa22 pa22 (List.replicate 65 0)).pn = 1 ∧ (wrS22 sa22 pa22 (List.replicate 65 0)).lg.length = 2 := by
  refine ⟨by decide +kernel, by decide +kernel, by decide +kernel, by decide +kernel⟩
theorem ok22_tk : ∀ (L : List Int) (S : Fs21) (P : Pw22), Ok21 S → Ok21 (tk22 S P L).1
  | [], S, P, h => h
  | c :: L, S, P, h => by
    rw [tk22]
    split
    · split
      · exact ok22_ly h _
      · exact ok22_tk L _ _ (ok22_ly h _)
    · exact ok22_tk L _ _ h
theorem ok22_wr {S : Fs21} (h : Ok21 S) (P : Pw22) (L : List Int) : Ok21 (wrS22 S P L) := by
  unfold wrS22
  split
  · exact h
  · split
    · exact h
    · exact ok22_tk L S P h
end Go.Proofs.YtjoghmdjnkdokaaDoor
