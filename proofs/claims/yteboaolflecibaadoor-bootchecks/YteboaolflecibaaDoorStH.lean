
import Derived.Test.YteboaolflecibaaDoorStB
import Derived.OrdersHeld
namespace Go.Proofs.YteboaolflecibaaDoor
open Go.RowKit Go.Shelf
set_option linter.unusedVariables false

/-! A region that draws its order, in a loop's round, under a condition of the world that every operation keeps. -/
def nrm14 (Q : Exit → Act → World → Prop) : Exit → Act → World → Prop := fun e a w => e = .normal ∧ Q .normal a w
theorem nrm14_lets (Q : Exit → Act → World → Prop) : ¬ LetsOut (nrm14 Q) := by
  rintro ⟨a, w, h, _⟩
  cases h
theorem opIn_of_op14 {P : Program} {ops : Array Oper} {l n i : Nat} {w : World} {a : Act} {K K' : Act → World → Prop} {Q : Exit → Act → World → Prop} (hd : nodef14 ops = true) (h : ∀ a w, K a w → K' a w) (hh : wpOp P ops (nrm14 Q) i K a w) : wpOpIn (Fence.wide.inRound l) n P ops (nrm14 Q) i K' a w := by
  unfold wpOp at hh
  unfold wpOpIn
  split
  · rename_i ho; simp only [ho] at hh; exact h _ _ hh
  · rename_i o ho
    simp only [ho] at hh
    split
    · rename_i hw
      simp only [hw, if_true] at hh
      rcases hh with hh | ⟨_, hh⟩
      · refine ⟨fun _ _ => trivial, ?_⟩
        rw [Oper.semAt_eq _ _ _ (nodef14_spec hd ho)]
        unfold Oper.wp at hh
        generalize (execOp a.eval o).run P w = r at *
        cases r with
        | ok x w' =>
          cases x <;> simp only [Oper.upon] at hh
          case value v => exact h _ _ hh
          case skip => exact h _ _ hh
          case defer d => exact h _ _ hh
          case enter f args =>
            refine ⟨fun h => (by cases h), ?_⟩
            refine (CallsIn.inRound l (callsIn_wide.2 hh)).mono ?_
            intro e w2 he
            cases e with
            | returned v => exact h _ _ he
            | panicked c => exact he
            | outgrown => exact he
          case row row args =>
            refine ⟨fun h => (by cases h), fun c cs _ => ?_⟩
            obtain ⟨v, w2, r, s⟩ := hh c cs
            exact ⟨v, w2, h _ _ r, stepsIn_wide.2 s⟩
        | halt x w' => cases x <;> simp only [Oper.upon] at hh <;> exact hh
      · exact absurd hh (nrm14_lets Q)
    · rename_i hw
      simp only [hw] at hh
      exact ⟨fun _ _ => trivial, h _ _ hh⟩
theorem anyIn_of_any14 {P : Program} {ops : Array Oper} {md : Region.Mode} {l n : Nat} {Q : Exit → Act → World → Prop} (hd : nodef14 ops = true) :
    ∀ (f : Nat) (listed : Array Bool) (a : Act) (w : World), wpAny P md ops (nrm14 Q) f listed a w → wpAnyIn (Fence.wide.inRound l) n P md ops (nrm14 Q) f listed a w
  | 0, _, _, _, h => h
  | f + 1, _, _, _, h => ⟨h.1, fun i hi => opIn_of_op14 hd (fun a' w' h' => anyIn_of_any14 hd f _ a' w' h') (h.2 i hi)⟩
theorem held_round14 {P : Program} {n id rd : Nat} {Q : Exit → Act → World → Prop} {a : Act} {w : World} {ops : Array Oper} {S : World → Prop} (hm : P.follows .mixedOrders = true) (hd : nodef14 ops = true) (hS : S w.drew)
    (h : S w.drew → wpAnyH P .any ops (nrm14 Q) S ops.size (Array.replicate ops.size false) a w.drew) : (Code.region id ops true).wpIn (Fence.wide.inRound rd) n P Q a w :=
  wpIn_mono (wpIn_region_any hm (anyIn_of_any14 hd _ _ _ _ (wpAny_of_held _ _ _ _ (h hS)))) fun e a' w' he => by
    obtain ⟨rfl, h2⟩ := he
    exact h2
end Go.Proofs.YteboaolflecibaaDoor
