import Derived.Test.YtmfpdchfofffeaaGreatDoorLzR5
import Derived.Laws.MakeOwn
namespace Go.Proofs.YtmfpdchfofffeaaGreatDoor
open Go.RowKit
set_option linter.unusedVariables false
set_option maxRecDepth 100000 in
set_option maxHeartbeats 1000000 in
theorem popt7 (win chain : Int) (lazy : Bool) (w : World) : Calls Tryz.prog 24 #[look7 win chain lazy] w fun e w' => e = .returned (.int .i64 (opt7 win chain)) ∧ Below w.heap.size w w' := by
  unfold look7
  by_cases h1 : win < 1
  · have HE : opt7 win chain = 72 := by unfold opt7; rw [if_pos (.inl h1)]
    rw [HE]
    go_enter Tryz.func24, Tryz.ntmps24
    go_wp2_with fail
    go_ret
    exact ⟨rfl, below_box _ _⟩
  · by_cases h2 : 32768 < win
    · have HE : opt7 win chain = 72 := by unfold opt7; rw [if_pos (.inr (.inl h2))]
      rw [HE]
      go_enter Tryz.func24, Tryz.ntmps24
      go_wp2_with fail
      go_ret
      exact ⟨rfl, below_box _ _⟩
    · by_cases h3 : chain < 0
      · have HE : opt7 win chain = 72 := by unfold opt7; rw [if_pos (.inr (.inr (.inl h3)))]
        rw [HE]
        go_enter Tryz.func24, Tryz.ntmps24
        go_wp2_with fail
        go_ret
        exact ⟨rfl, below_box _ _⟩
      · by_cases h4 : 4096 < chain
        · have HE : opt7 win chain = 72 := by unfold opt7; rw [if_pos (.inr (.inr (.inr h4)))]
          rw [HE]
          go_enter Tryz.func24, Tryz.ntmps24
          go_wp2_with fail
          go_ret
          exact ⟨rfl, below_box _ _⟩
        · have HE : opt7 win chain = 0 := by unfold opt7; rw [if_neg (by omega)]
          rw [HE]
          go_enter Tryz.func24, Tryz.ntmps24
          go_wp2_with fail
          go_ret
          exact ⟨rfl, below_box _ _⟩
end Go.Proofs.YtmfpdchfofffeaaGreatDoor
