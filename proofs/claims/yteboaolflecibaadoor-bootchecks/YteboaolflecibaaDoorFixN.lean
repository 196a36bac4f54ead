
import Derived.Test.YteboaolflecibaaDoorProg
import Derived.Test.YteboaolflecibaaDoorFix
import Derived.Test.YteboaolflecibaaDoorUnfix
import Derived.Test.YteboaolflecibaaDoorOwnSt
namespace Go.Proofs.YteboaolflecibaaDoor
open Go.RowKit
set_option linter.unusedVariables false

def fixE (v s : Int) : Int := if 1 ≤ s ∧ s ≤ 8 then (if v / 2 ^ (8 * s.toNat) = 0 then 0 else 10) else 1
def fixB (v s : Int) : List Int := if fixE v s = 0 then fixL s.toNat v else []
theorem fixB_bd (v s : Int) : ∀ z ∈ fixB v s, 0 ≤ z ∧ z ≤ 255 := by
  unfold fixB; split
  · exact fixL_bd _ _
  · simp
theorem fixB_len (v s : Int) : (fixB v s).length ≤ 8 := by
  unfold fixB; split
  · rename_i h; unfold fixE at h; rw [fixL_len]; split at h
    · omega
    · cases h
  · simp

theorem fixed_any (v s : Int) (w : World) (hv0 : 0 ≤ v) (hv1 : v ≤ 18446744073709551615) :
    Calls Tryd.prog 76 #[.int .u64 v, .int .i64 s] w fun e w' => ∃ a cap, e = .returned (.tuple #[.slice a (fixB v s).length cap, .int .i64 (fixE v s)]) ∧ Row 5 w' w.heap.size (.slice a (fixB v s).length cap) (fixB v s) ∧ Below w.heap.size w w' := by
  by_cases hs : 1 ≤ s ∧ s ≤ 8
  · obtain ⟨n, rfl⟩ := Int.eq_ofNat_of_zero_le (show 0 ≤ s by omega)
    by_cases hr : v / 2 ^ (8 * n) = 0
    · have e1 : fixE v (n : Int) = 0 := by simp only [fixE, if_pos hs, Int.toNat_natCast, if_pos hr]
      have e2 : fixB v (n : Int) = fixL n v := by simp only [fixB, if_pos e1, Int.toNat_natCast]
      refine (fixed_ok v n w (by omega) (by omega) hv0 hv1 hr).mono ?_
      rintro e w' ⟨rfl, h1, h2⟩
      rw [e1, e2]
      refine ⟨some ⟨w.heap.size, 0, none⟩, n, ?_, ?_, h2⟩
      · rw [fixL_len]
      · show World.ownsRow _ _ _ _ _ _ _
        rw [fixL_len]; exact h1
    · have e1 : fixE v (n : Int) = 10 := by simp only [fixE, if_pos hs, Int.toNat_natCast, if_neg hr]
      have e2 : fixB v (n : Int) = [] := by simp [fixB, e1]
      refine (fixed_long v n w (by omega) (by omega) hv0 hv1 hr).mono ?_
      rintro e w' ⟨rfl, hw⟩
      subst w'
      rw [e1, e2]
      exact ⟨none, 0, rfl, World.ownsRow_nil _ _ _ _, Below.refl _ _⟩
  · have e1 : fixE v s = 1 := by simp only [fixE, if_neg hs]
    have e2 : fixB v s = [] := by simp [fixB, e1]
    refine (fixed_arg v s w hs).mono ?_
    rintro e w' ⟨rfl, hw⟩
    subst w'
    rw [e1, e2]
    exact ⟨none, 0, rfl, World.ownsRow_nil _ _ _ _, Below.refl _ _⟩

def unfE (zs : List Int) (s : Int) : Int := if 1 ≤ s ∧ s ≤ 8 then (if zs.length < s.toNat then 11 else 0) else 1
def unfV (zs : List Int) (s : Int) : Int := if unfE zs s = 0 then unfL (zs.take s.toNat) else 0

theorem unfix_any (a : Option Addr) (zs : List Int) (cap : Nat) (s : Int) (w : World) (hs : Seg w a zs) (hcap : zs.length ≤ cap) (hl : zs.length ≤ 140737488355328) :
    Calls Tryd.prog 50 #[.slice a zs.length cap, .int .i64 s] w fun e w' => e = .returned (.tuple #[.int .u64 (unfV zs s), .int .i64 (unfE zs s)]) ∧ w' = w := by
  by_cases h : 1 ≤ s ∧ s ≤ 8
  · obtain ⟨n, rfl⟩ := Int.eq_ofNat_of_zero_le (show 0 ≤ s by omega)
    by_cases hz : zs.length < n
    · have e1 : unfE zs (n : Int) = 11 := by simp only [unfE, if_pos h, Int.toNat_natCast, if_pos hz]
      have e2 : unfV zs (n : Int) = 0 := by simp [unfV, e1]
      rw [e1, e2]
      exact unfix_short a _ cap n w (by omega) (by omega) hz
    · have e1 : unfE zs (n : Int) = 0 := by simp only [unfE, if_pos h, Int.toNat_natCast, if_neg hz]
      have e2 : unfV zs (n : Int) = unfL (zs.take n) := by simp only [unfV, if_pos e1, Int.toNat_natCast]
      rw [e1, e2]
      exact unfix_ok a zs cap n w hs hcap hl (by omega) (by omega) (by omega)
  · have e1 : unfE zs s = 1 := by simp only [unfE, if_neg h]
    have e2 : unfV zs s = 0 := by simp [unfV, e1]
    rw [e1, e2]
    exact unfix_arg a _ cap s w h
end Go.Proofs.YteboaolflecibaaDoor
