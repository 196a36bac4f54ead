
import Derived.Test.YtoeabfcnfofbiaaDoorLnSym
import Derived.Deep.RegionHeld3
namespace Go.Proofs.YtoeabfcnfofbiaaDoor
open Go.RowKit
set_option linter.unusedVariables false

def cmpZ (x y : Int) : Int := if x < y then -1 else if y < x then 1 else 0
def cmpV (x y : Im) : Int := cmpZ x.wt y.wt
theorem cmpV_neg (x y : Im) : cmpV x y < 0 ↔ x.wt < y.wt := by unfold cmpV cmpZ; (repeat' split) <;> omega
theorem cmpV_bd (x y : Im) : -1 ≤ cmpV x y ∧ cmpV x y ≤ 1 := by unfold cmpV cmpZ; (repeat' split) <;> omega
abbrev cmpF : Value := .func (.func 106) #[] #[]

set_option maxRecDepth 100000 in
theorem nan_any (x : Int) (w : World) : Calls Tryd.prog 117 #[.int .i64 x] w fun e w' => e = .returned (.bool false) ∧ w' = w := by
  go_enter Tryd.func117, Tryd.ntmps117
  go_wp2
  go_ret
  exact ⟨rfl, rfl⟩
set_option maxRecDepth 100000 in
theorem compare_any (x y : Int) (w : World) : Calls Tryd.prog 107 #[.int .i64 x, .int .i64 y] w fun e w' => e = .returned (.int .i64 (cmpZ x y)) ∧ w' = w := by
  unfold cmpZ
  go_enter Tryd.func107, Tryd.ntmps107
  by_cases h1 : x < y
  · rw [if_pos h1]
    go_wp2_with (go_at_call 117; refine (nan_any _ _).mono ?_; rintro e w' ⟨rfl, hw'⟩; subst w')
    go_ret
    exact ⟨rfl, rfl⟩
  · rw [if_neg h1]
    by_cases h2 : y < x
    · rw [if_pos h2]
      go_wp2_with (go_at_call 117; refine (nan_any _ _).mono ?_; rintro e w' ⟨rfl, hw'⟩; subst w')
      go_ret
      exact ⟨rfl, rfl⟩
    · rw [if_neg h2]
      go_wp2_with (go_at_call 117; refine (nan_any _ _).mono ?_; rintro e w' ⟨rfl, hw'⟩; subst w')
      go_ret
      exact ⟨rfl, rfl⟩
set_option maxRecDepth 100000 in
theorem cmp_any (x y : Im) (w : World) : Calls Tryd.prog 106 #[x.val, y.val] w fun e w' => e = .returned (.int .i64 (cmpV x y)) ∧ Below w.heap.size w w' := by
  obtain ⟨a0, a1, a2, a3⟩ := x
  obtain ⟨b0, b1, b2, b3⟩ := y
  unfold Im.val
  go_enter Tryd.func106, Tryd.ntmps106
  go_wp2_with fail
  refine (compare_any _ _ _).mono ?_
  rintro e w' ⟨rfl, hw'⟩
  subst w'
  go_wp2
  go_ret
  exact ⟨rfl, ((Below.refl _ _).alloc (Nat.le_refl _) _).alloc (by simp) _⟩
/-- The row that is sorted: its items, and that it may be written. -/
structure Sr (w : World) (g n : Nat) (X : Nat → Im) : Prop where
  row : RowAt w g 0 n X
  free : ∀ k, w.frozen? ⟨g, k, none⟩ = false
theorem Sr.it {w : World} {g n : Nat} {X : Nat → Im} (h : Sr w g n X) {k : Nat} (hk : k < n) : ItAt w g (k * 4) (X k) := by
  have := h.row.at_ k hk
  rwa [Nat.zero_add] at this
theorem Sr.old {w w' : World} {g n : Nat} {X : Nat → Im} (h : Sr w g n X) (hg : g < w.heap.size) (hb : Below w.heap.size w w') : Sr w' g n X :=
  ⟨h.row.of_block (hb.block g hg), fun k => by
    have e := hb.block g hg
    have := h.free k
    unfold World.frozen? at this ⊢
    rw [e]; exact this⟩
theorem Sr.drew {w : World} {g n : Nat} {X : Nat → Im} (h : Sr w g n X) : Sr w.drew g n X := ⟨h.row.of_block rfl, h.free⟩
theorem Sr.swap {w : World} {g n i j : Nat} {X : Nat → Im} (h : Sr w g n X) (hi : i < n) (hj : j < n) : Sr (setIt (setIt w g (i * 4) (X j)) g (j * 4) (X i)) g n (swI X i j) := by
  have := h.row.swap hi hj
  rw [Nat.zero_add, Nat.zero_add] at this
  exact ⟨this, free_setIt (free_setIt h.free _ _) _ _⟩
theorem swap_grown (w : World) (g i j : Nat) (x y : Im) : w.grownBy (setIt (setIt w g i x) g j y) (some g) := grownBy_trans (setIt_grown _ _ _ _) (setIt_grown _ _ _ _)
theorem grown_old {w w' : World} (h : Below w.heap.size w w') (row : Option Nat) : w.grownBy w' row := ⟨h.os, h.tape, h.output, h.size, fun i hi _ => h.block i hi⟩

set_option maxRecDepth 100000 in
set_option maxHeartbeats 2000000 in
theorem swapRange_any (g cap n a b c : Nat) (X : Nat → Im) (w : World) (h : Sr w g n X) (hab : a + c ≤ b) (hb : b + c ≤ n) (hl : n ≤ 100000) (f : Value) :
    Calls Tryd.prog 124 #[.slice (some ⟨g, 0, none⟩) n cap, .int .i64 a, .int .i64 b, .int .i64 c, f] w fun e w' => e = .returned (.tuple #[]) ∧ Sr w' g n (swr X a b c) ∧ w.grownBy w' (some g) ∧ Pm X (swr X a b c) a (b + c) := by
  go_enter Tryd.func124, Tryd.ntmps124
  go_wp2
  go_loopw [10] (fun ti wr => ∃ i : Nat, i ≤ c ∧ ti = .int .i64 (i : Int) ∧ Sr wr g n (swr X a b i) ∧ w.grownBy wr (some g) ∧ Hid (Pm X (swr X a b i) a (b + c))) (fun ti _ => c - (intOf ti).toNat)
  case atStart => exact ⟨0, Nat.zero_le _, rfl, by rw [swr_zero]; exact h, World.grownBy.refl _ _, (by rw [swr_zero]; exact Pm.refl _ _ _ : Pm _ _ _ _)⟩
  case round =>
    obtain ⟨i, hi, rfl, hS, hG, HP⟩ := hrel
    by_cases hic : i < c
    · have hici : (i : Int) < (c : Int) := by omega
      obtain ⟨p, hp⟩ : ∃ p, p = a + i := ⟨_, rfl⟩
      obtain ⟨q, hq⟩ : ∃ q, q = b + i := ⟨_, rfl⟩
      have HP2 : Hid (Pm X (swr X a b (i + 1)) a (b + c)) := by
        have h1 := HP.out.trans (Pm.swap (swr X a b i) (a := a) (b := b + c) (i := a + i) (j := b + i) (by omega) (by omega) (by omega) (by omega))
        rw [swr_step X a b i (by omega)] at h1
        exact h1
      have HS2 := hS.swap (i := p) (j := q) (by omega) (by omega)
      have HS3 : Hid (swI (swr X a b i) p q = swr X a b (i + 1)) := by show _ = _; rw [hp, hq]; exact swr_step X a b i (by omega)
      rw [HS3.out] at HS2
      have hpn : p < n := by omega
      have hqn : q < n := by omega
      have hpq : p ≠ q := by omega
      have rp : (a : Int) + (i : Int) = (p : Int) := by omega
      have rq : (b : Int) + (i : Int) = (q : Int) := by omega
      obtain ⟨x0, x1, x2, x3⟩ := hS.it hpn
      obtain ⟨y0, y1, y2, y3⟩ := hS.it hqn
      have HSS : Hid _ := HS2
      have HG := swap_grown wr g (p * 4) (q * 4) (swr X a b i q) (swr X a b i p)
      have HGG : Hid _ := HG
      clear HS2 HG hp hq
      have f0 := hS.free (p * 4); have f1 := hS.free (p * 4 + 1); have f2 := hS.free (p * 4 + 2); have f3 := hS.free (p * 4 + 3)
      have e0 := hS.free (q * 4); have e1 := hS.free (q * 4 + 1); have e2 := hS.free (q * 4 + 2); have e3 := hS.free (q * 4 + 3)
      clear hS
      generalize swr X a b i p = x at *
      generalize swr X a b i q = y at *
      have z0 : (p : Int) < (n : Int) := by omega
      have z1 : (q : Int) < (n : Int) := by omega
      go_wp2_with fail
      go_region
      go_wp2
      go_roundw
      case rel => exact ⟨i + 1, by omega, by go_num, (HSS.out).drew, grownBy_drew (grownBy_trans hG HGG.out), HP2.out⟩
      case measure => simp [intOf]; omega
    · obtain rfl : i = c := by omega
      go_wp2
      go_end0
      exact ⟨rfl, hS, hG, HP.out⟩

theorem mul4_lt {k n : Nat} (h : k < n) : k * 4 + 3 < n * 4 := by omega

end Go.Proofs.YtoeabfcnfofbiaaDoor
