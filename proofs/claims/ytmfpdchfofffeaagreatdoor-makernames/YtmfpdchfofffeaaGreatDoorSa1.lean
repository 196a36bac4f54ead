import Derived.Test.YtmfpdchfofffeaaGreatDoorSa0
import Derived.Test.YtmfpdchfofffeaaGreatDoorSaM4
namespace Go.Proofs.YtmfpdchfofffeaaGreatDoor
open Go.RowKit
set_option linter.unusedVariables false
set_option maxRecDepth 100000 in
set_option maxHeartbeats 400000 in
theorem pist12 (a : Option Addr) (L : List Bool) (n cap i : Nat) (w : World) (hs : SegB w a L) (hn : Hid (L.length = n)) (hi : i < n) (hb : n ≤ 9223372036854775807) :
    Calls Tryz.prog 226 #[.slice a n cap, .int .i64 (i : Int)] w fun e w' => e = .returned (.bool (tb12 (gb12 L) i)) ∧ Below w.heap.size w w' := by
  have HT : Hid (tb12 (gb12 L) i = (decide (0 < i) && L.getD i false && !L.getD (i - 1) false)) := rfl
  by_cases h0 : i = 0
  · subst h0
    rw [HT.out]
    go_enter Tryz.func226, Tryz.ntmps226
    go_wp2
    go_ret
    exact ⟨by simp, Below.refl _ _⟩
  · obtain ⟨b, off, rfl, c1⟩ := hs.at_ i (by rw [hn.out]; exact hi)
    have c2 : w.cell? ⟨b, off + (i - 1), none⟩ = some (.bool (L.getD (i - 1) false)) := by
      obtain ⟨b', off', ha, c⟩ := hs.at_ (i - 1) (by rw [hn.out]; omega)
      cases ha
      exact c
    obtain ⟨p, rfl⟩ : ∃ p, i = p + 1 := ⟨i - 1, by omega⟩
    simp only [Nat.add_sub_cancel] at c2 HT
    have i1 : (p : Int) + 1 < (n : Int) := by omega
    have i2 : (p : Int) < (n : Int) := by omega
    have i0 : (0 : Int) < (p : Int) + 1 := by omega
    generalize L.getD (p + 1) false = x at *
    generalize L.getD p false = y at *
    rw [HT.out]
    cases x
    · go_enter Tryz.func226, Tryz.ntmps226
      go_wp2
      go_ret
      exact ⟨by simp, Below.refl _ _⟩
    · go_enter Tryz.func226, Tryz.ntmps226
      go_wp2
      go_ret
      exact ⟨by cases y <;> simp, Below.refl _ _⟩
end Go.Proofs.YtmfpdchfofffeaaGreatDoor
