
import Derived.Test.YtoeabfcnfofbiaaDoorLnIns
namespace Go.Proofs.YtoeabfcnfofbiaaDoor
open Go.RowKit
set_option linter.unusedVariables false

set_option maxRecDepth 100000 in
set_option maxHeartbeats 2000000 in
theorem rotate_any (g cap n a m b : Nat) (X : Nat → Im) (w : World) (h : Sr w g n X) (ham : a < m) (hmb : m < b) (hb : b ≤ n) (hl : n ≤ 100000) (f : Value) :
    Calls Tryd.prog 123 #[.slice (some ⟨g, 0, none⟩) n cap, .int .i64 a, .int .i64 m, .int .i64 b, f] w fun e w' => e = .returned (.tuple #[]) ∧ Sr w' g n (rot X a m b) ∧ w.grownBy w' (some g) ∧ Pm X (rot X a m b) a b := by
  obtain ⟨i0, hi0⟩ : ∃ i0, i0 = m - a := ⟨_, rfl⟩
  obtain ⟨j0, hj0⟩ : ∃ j0, j0 = b - m := ⟨_, rfl⟩
  have r1 : (m : Int) - (a : Int) = (i0 : Int) := by omega
  have r2 : (b : Int) - (m : Int) = (j0 : Int) := by omega
  have HI : Hid (i0 = m - a ∧ j0 = b - m) := ⟨hi0, hj0⟩
  clear hi0 hj0
  go_enter Tryd.func123, Tryd.ntmps123
  go_wp2
  go_loopw [10, 11] (fun ti tj wr => ∃ (i j : Nat) (Y : Nat → Im), 0 < i ∧ 0 < j ∧ i ≤ m ∧ m + j ≤ n ∧ ti = .int .i64 (i : Int) ∧ tj = .int .i64 (j : Int) ∧ Sr wr g n Y ∧ w.grownBy wr (some g) ∧ Hid (rot Y (m - i) m (m + j) = rot X a m b ∧ Pm X Y a b ∧ a ≤ m - i ∧ m + j ≤ b)) (fun ti tj _ => (intOf ti).toNat + (intOf tj).toNat)
  case atStart =>
    obtain ⟨e1, e2⟩ := HI.out
    exact ⟨i0, j0, X, by omega, by omega, by omega, by omega, rfl, rfl, h, World.grownBy.refl _ _, (⟨by rw [show m - i0 = a by omega, show m + j0 = b by omega], Pm.refl _ _ _, by omega, by omega⟩ : _ ∧ _)⟩
  case round =>
    obtain ⟨i, j, Y, hi, hj, him, hjn, rfl, rfl, hS, hG, HY⟩ := hrel
    clear r1 r2
    by_cases c1 : i = j
    · subst c1
      obtain ⟨p, hp⟩ : ∃ p, p = m - i := ⟨_, rfl⟩
      have rp : (m : Int) - (i : Int) = (p : Int) := by omega
      have CS := swapRange_any g cap n p m i Y wr hS (by omega) hjn hl f
      have HE : Hid (swr Y p m i = rot X a m b) := by show _ = _; rw [hp, rot_same Y m i him]; exact HY.out.1
      have HP : Hid (Pm X (rot X a m b) a b → True) := fun _ => trivial
      have HPP : Hid (a ≤ p ∧ p ≤ m) := ⟨by have := HY.out; omega, by omega⟩
      clear hp
      go_wp2_with fail
      refine CS.mono ?_
      rintro e w2 ⟨rfl, s2, g2, p2⟩
      rw [HE.out] at s2 p2
      go_wp2
      go_end0
      exact ⟨rfl, s2, grownBy_trans hG g2, HY.out.2.1.trans (p2.wide HPP.out.1 (by have := HPP.out.2; omega) HY.out.2.2.2)⟩
    · have c1i : ((i : Int) != (j : Int)) = true := by simp; omega
      by_cases c2 : j < i
      · have c2i : (j : Int) < (i : Int) := by omega
        obtain ⟨p, hp⟩ : ∃ p, p = m - i := ⟨_, rfl⟩
        have rp : (m : Int) - (i : Int) = (p : Int) := by omega
        obtain ⟨d, hd⟩ : ∃ d, d = i - j := ⟨_, rfl⟩
        have rd : (i : Int) - (j : Int) = (d : Int) := by omega
        have CS := swapRange_any g cap n p m j Y wr hS (by omega) hjn hl f
        have HE : Hid (rot (swr Y p m j) (m - d) m (m + j) = rot X a m b) := by show _ = _; rw [hp, hd, rot_more Y m i j him hj c2]; exact HY.out.1
        have HPP : Hid (a ≤ p ∧ p ≤ m ∧ a ≤ m - d) := ⟨by have := HY.out; omega, by omega, by have := HY.out; omega⟩
        have hd0 : 0 < d ∧ d ≤ m ∧ d < i := by omega
        clear hp hd
        go_wp2_with fail
        refine CS.mono ?_
        rintro e w2 ⟨rfl, s2, g2, p2⟩
        have HP2 : Hid _ := HY.out.2.1.trans (p2.wide HPP.out.1 (by have := HPP.out.2; omega) HY.out.2.2.2)
        clear p2
        go_wp2
        go_roundw
        case rel => exact ⟨d, j, swr Y p m j, by omega, by omega, by omega, by omega, rfl, rfl, s2, grownBy_trans hG g2, (⟨HE.out, HP2.out, HPP.out.2.2, HY.out.2.2.2⟩ : _ ∧ _)⟩
        case measure => simp [intOf]; omega
      · have c2i : ¬ (j : Int) < (i : Int) := by omega
        obtain ⟨p, hp⟩ : ∃ p, p = m - i := ⟨_, rfl⟩
        have rp : (m : Int) - (i : Int) = (p : Int) := by omega
        obtain ⟨d, hd⟩ : ∃ d, d = j - i := ⟨_, rfl⟩
        have rd : (j : Int) - (i : Int) = (d : Int) := by omega
        obtain ⟨q, hq⟩ : ∃ q, q = m + j - i := ⟨_, rfl⟩
        have rq : (m : Int) + (j : Int) - (i : Int) = (q : Int) := by omega
        have CS := swapRange_any g cap n p q i Y wr hS (by omega) (by omega) hl f
        have HE : Hid (rot (swr Y p q i) (m - i) m (m + d) = rot X a m b) := by show _ = _; rw [hp, hd, hq, rot_less Y m i j him hi (by omega)]; exact HY.out.1
        have HPP : Hid (a ≤ p ∧ p ≤ m ∧ a ≤ m - i ∧ p ≤ q ∧ q + i ≤ b ∧ m + d ≤ b) := by have := HY.out; exact ⟨by omega, by omega, by omega, by omega, by omega, by omega⟩
        have hd0 : 0 < d ∧ m + d ≤ n ∧ d < j := by omega
        clear hp hd hq
        go_wp2_with fail
        refine CS.mono ?_
        rintro e w2 ⟨rfl, s2, g2, p2⟩
        have HP2 : Hid _ := HY.out.2.1.trans (p2.wide HPP.out.1 (by have := HPP.out; omega) HPP.out.2.2.2.2.1)
        clear p2
        go_wp2
        go_roundw
        case rel => exact ⟨i, d, swr Y p q i, by omega, by omega, by omega, by omega, rfl, rfl, s2, grownBy_trans hG g2, (⟨HE.out, HP2.out, HPP.out.2.2.1, HPP.out.2.2.2.2.2⟩ : _ ∧ _)⟩
        case measure => simp [intOf]; omega
end Go.Proofs.YtoeabfcnfofbiaaDoor
