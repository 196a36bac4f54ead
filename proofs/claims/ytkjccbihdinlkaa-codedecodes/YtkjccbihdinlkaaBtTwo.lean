
import Derived.Test.YtkjccbihdinlkaaBtLives
import Derived.Test.YtkjccbihdinlkaaSame
import Derived.Test.YtkjccbihdinlkaaOwnUse
namespace Go.Proofs.Ytkjccbihdinlkaa
open Go.RowKit
set_option linter.unusedVariables false

theorem WrL.apart {w w' : World} {b1 b2 B : Nat} {v1 v2 : Value} {L1 L2 : List Bool} (h1 : WrL w b1 B v1 L1) (h2 : WrL w b2 B v2 L2) (hk : Kp (WS b2 v2) w w') (hb : b1 ≠ b2) (hb1 : b1 < B) (hb2 : b2 < B) (hap : Ap v1.ownBlock v2.ownBlock) : WrL w' b1 B v1 L1 := by
  refine h1.kp hk ?_ ?_
  · rintro (e | e)
    · exact hb e
    · have := (h2.own_lt _ e).1; omega
  · intro k e
    have hk1 := h1.own_lt k e
    rintro (e2 | e2)
    · omega
    · exact hap k e e2
theorem Ap.fresh {w : World} {b1 B : Nat} {v1 v2 v2' : Value} {L1 : List Bool} (hap : Ap v1.ownBlock v2.ownBlock) (h1 : WrL w b1 B v1 L1) (hf : Fresh w v2 v2') : Ap v1.ownBlock v2'.ownBlock := by
  intro k e1 e2
  have := (h1.own_lt k e1).2.1
  rcases hf k e2 with e | e
  · exact hap k e1 e
  · omega
theorem WrL.far {w : World} {b B N : Nat} {v : Value} {L : List Bool} (h : WrL w b B v L) (h1 : N ≤ b) (h2 : N ≤ B) {g : Nat} (hg : g < N) : ¬ WS b v g := by
  rintro (e | e)
  · omega
  · have := (h.own_lt g e).1; omega
theorem ap_nil : Ap (Value.slice none 0 0).ownBlock (Value.slice none 0 0).ownBlock := Ap.none _
theorem heap_new2 (w : World) (o o' : Obj) : ((w.alloc o).alloc o').heap[w.heap.size + 1]? = some o' := by
  have := heap_new (w.alloc o) o'
  rw [show (w.alloc o).heap.size = w.heap.size + 1 by simp] at this
  exact this
theorem beq_self_list (xs : List Int) : (xs == xs) = true := by simp
end Go.Proofs.Ytkjccbihdinlkaa
