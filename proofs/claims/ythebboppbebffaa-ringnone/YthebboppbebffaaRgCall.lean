
import Derived.Test.YthebboppbebffaaRgRef4
import Derived.Test.YthebboppbebffaaRgLaw
namespace Go.Proofs.Ythebboppbebffaa
open Go.RowKit
set_option linter.unusedVariables false

/-- A call of a script. -/
structure CallD where
  K : Int
  ba : Option Addr
  p : List Int
  bc : Nat
  D : Int
  N : Int
/-- Calls that came in. -/
structure SegC (w : World) (a : Option Addr) (n : Nat) (O : Nat → CallD) : Prop where
  at_ : ∀ i, i < n → ∃ b off, a = some ⟨b, off, none⟩ ∧ w.cell? ⟨b, off + i * 4, none⟩ = some (.int .i64 (O i).K) ∧ w.cell? ⟨b, off + i * 4 + 1, none⟩ = some (.slice (O i).ba (O i).p.length (O i).bc) ∧ w.cell? ⟨b, off + i * 4 + 2, none⟩ = some (.int .i64 (O i).D) ∧ w.cell? ⟨b, off + i * 4 + 3, none⟩ = some (.int .i64 (O i).N)
  seg : ∀ i, i < n → Seg w (O i).ba (O i).p
  nil : ∀ i, i < n → (O i).ba = none → (O i).bc = 0
  cap : ∀ i, i < n → (O i).p.length ≤ (O i).bc
  bd : ∀ i, i < n → -9223372036854775808 ≤ (O i).K ∧ (O i).K ≤ 9223372036854775807 ∧ -9223372036854775808 ≤ (O i).D ∧ (O i).D ≤ 9223372036854775807 ∧ -9223372036854775808 ≤ (O i).N ∧ (O i).N ≤ 9223372036854775807
theorem SegC.old {w w' : World} {a : Option Addr} {n : Nat} {O : Nat → CallD} (h : SegC w a n O) (hb : Below w.heap.size w w') : SegC w' a n O := by
  refine ⟨fun i hi => ?_, fun i hi => (h.seg i hi).old hb, h.nil, h.cap, h.bd⟩
  obtain ⟨b, off, ha, h0, h1, h2, h3⟩ := h.at_ i hi
  have hlt := World.block_lt_of_cell? w _ h0
  exact ⟨b, off, ha, (hb.cell (p := ⟨b, off + i * 4, none⟩) hlt).trans h0, (hb.cell (p := ⟨b, off + i * 4 + 1, none⟩) hlt).trans h1, (hb.cell (p := ⟨b, off + i * 4 + 2, none⟩) hlt).trans h2, (hb.cell (p := ⟨b, off + i * 4 + 3, none⟩) hlt).trans h3⟩
/-- How many bytes the first n calls bring. -/
def totC (O : Nat → CallD) : Nat → Nat
  | 0 => 0
  | n + 1 => totC O n + (O n).p.length
theorem totC_le (O : Nat → CallD) {i n : Nat} (h : i < n) : totC O i + (O i).p.length ≤ totC O n := by
  induction n with
  | zero => omega
  | succ n ih =>
    simp only [totC]
    by_cases e : i = n
    · subst e; omega
    · have := ih (by omega); omega
end Go.Proofs.Ythebboppbebffaa
