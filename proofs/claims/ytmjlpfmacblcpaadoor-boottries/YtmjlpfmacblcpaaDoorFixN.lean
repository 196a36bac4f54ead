import Derived.Test.YtmjlpfmacblcpaaDoorProg
import Derived.Test.YtmjlpfmacblcpaaDoorFix
import Derived.Test.YtmjlpfmacblcpaaDoorUnfix
import Derived.Test.YtmjlpfmacblcpaaDoorOwnSt
namespace Go.Proofs.YtmjlpfmacblcpaaDoor
open Go.RowKit
set_option linter.unusedVariables false
def unfE (zs : List Int) (s : Int) : Int := if 1 ≤ s ∧ s ≤ 8 then (if zs.length < s.toNat then 11 else 0) else 1
def unfV (zs : List Int) (s : Int) : Int := if unfE zs s = 0 then unfL (zs.take s.toNat) else 0

theorem unfix_any (a : Option Addr) (zs : List Int) (cap : Nat) (s : Int) (w : World) (hs : Seg w a zs) (hcap : zs.length ≤ cap) (hl : zs.length ≤ 140737488355328) :
    Calls Tryd.prog 77 #[.slice a zs.length cap, .int .i64 s] w fun e w' => e = .returned (.tuple #[.int .u64 (unfV zs s), .int .i64 (unfE zs s)]) ∧ w' = w := by
  by_cases h : 1 ≤ s ∧ s ≤ 8
  · obtain ⟨n, rfl⟩ := Int.eq_ofNat_of_zero_le (show 0 ≤ s by omega)
    by_cases hz : zs.length < n
    · have e1 : unfE zs (n : Int) = 11 := by simp only [unfE, if_pos h, Int.toNat_natCast, if_pos hz]
      have e2 : unfV zs (n : Int) = 0 := by simp [unfV, e1]
      rw [e1, e2]
      exact unfix_short a _ cap n w (by omega) (by omega) hz
    · have e1 : unfE zs (n : Int) = 0 := by simp only [unfE, if_pos h, Int.toNat_natCast, if_neg hz]
      have e2 : unfV zs (n : Int) = unfL (zs.take n) := by simp only [unfV, if_pos e1, Int.toNat_natCast]
      rw [e1, e2]
      exact unfix_ok a zs cap n w hs hcap hl (by omega) (by omega) (by omega)
  · have e1 : unfE zs s = 1 := by simp only [unfE, if_neg h]
    have e2 : unfV zs s = 0 := by simp [unfV, e1]
    rw [e1, e2]
    exact unfix_arg a _ cap s w h
end Go.Proofs.YtmjlpfmacblcpaaDoor
