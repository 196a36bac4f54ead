import Derived.RangeFuncNested
import Derived.RangeFuncBound
import Derived.RangeFuncCalls
import Derived.RangeFuncLeaves
import Derived.Shelf.Abstract
import Derived.WalkKit
import Derived.OwnWalkIn
import Derived.TacticsInMore
import Derived.LoopNIn
import Derived.LoopIn
import Derived.Test.YtmjlpfmacblcpaaDoorProg
import Derived.Test.YtmjlpfmacblcpaaDoorBtMem
import Derived.StillTailTactics
import Derived.OrdersIn
import Derived.Test.YtmjlpfmacblcpaaDoorSeg
namespace Go.Proofs.YtmjlpfmacblcpaaDoor
open Go.RowKit
set_option linter.unusedVariables false
open Go.RowKit Go.Shelf
open Go.RowKit Go.Shelf
open Go.RowKit Go.Shelf
attribute [local go_sem] Oper.semAt_some
/-- Below n₀ nothing has turned, but for blocks of E. -/
structure KeepE (n₀ : Nat) (E : Nat → Prop) (W W' : World) : Prop where
  size : W.heap.size ≤ W'.heap.size
  block : ∀ k, k < n₀ → ¬ E k → W'.heap[k]? = W.heap[k]?
theorem KeepE.refl (n₀ : Nat) (E : Nat → Prop) (W : World) : KeepE n₀ E W W := ⟨Nat.le_refl _, fun _ _ _ => rfl⟩
theorem KeepE.trans {n₀ : Nat} {E : Nat → Prop} {A B C : World} (h : KeepE n₀ E A B) (k : KeepE n₀ E B C) : KeepE n₀ E A C := ⟨Nat.le_trans h.size k.size, fun i hi hn => (k.block i hi hn).trans (h.block i hi hn)⟩
theorem KeepE.of_below {n₀ : Nat} {E : Nat → Prop} {A B : World} (h : Below n₀ A B) : KeepE n₀ E A B := ⟨h.size, fun k hk _ => h.block k hk⟩
theorem KeepE.cell {n₀ : Nat} {E : Nat → Prop} {A B : World} (h : KeepE n₀ E A B) {p : Addr} (hp : p.block < n₀) (hn : ¬ E p.block) : B.cell? p = A.cell? p := World.cell?_of_block (w := A) (h.block p.block hp hn)
theorem KeepE.set {n₀ : Nat} {E : Nat → Prop} {W : World} {b i : Nat} (hb : n₀ ≤ b ∨ E b) (v : Value) : KeepE n₀ E W (W.setCell ⟨b, i, none⟩ v) := by
  refine ⟨by simp, fun k hk hn => heap_setCell_other _ _ _ _ ?_⟩
  intro e
  have e' : k = b := e
  subst e'
  rcases hb with h | h
  · omega
  · exact hn h
end Go.Proofs.YtmjlpfmacblcpaaDoor
