
import Derived.Test.YteboaolflecibaaDoorFlA
import Derived.Deep.RegionHeld3
import Derived.Lib.SmallJoins
import Derived.Deep.CutRange
import Derived.Deep.QuietTactic
namespace Go.Proofs.YteboaolflecibaaDoor
open Go.RowKit Go.Maps Go.WideMaps
set_option linter.unusedVariables false
set_option linter.unusedSimpArgs false

/-! The landed flash: what a device is; made, stops, pagesOf, missing, refuses, mayBe. -/
theorem below_drewN21 {B : Nat} {a b : World} (h : Below B a b) (n : Nat) : Below B a (b.drewN n) := ⟨h.os, h.tape, h.output, h.size, h.block⟩
structure Sh21 where
  b : List Int
  er : Bool
  wr : Int
structure Fs21 where
  pg : Nat
  ps : Nat
  ac : Int
  on : Bool
  lm : Int
  pa : Int → Int → Option Sh21
  lf : Int
  tn : List Int
  lg : List (Int × Int × Int)
def pn21 (ps : Nat) (x : Int) : Int := if x < 0 ∨ 2 < x then 0 else if x = 2 then 2 else (ps : Int)
def ms21 (ps : Nat) (x y : Int) : Int := if y < 0 ∨ pn21 ps x ≤ y then 211 else 0
def st21 (on : Bool) : Int := if on then 0 else 213
def rf21 (on : Bool) (ps : Nat) (x y : Int) : Int := if on then ms21 ps x y else 213
def mb21 (p q : Int) : Bool := decide (64 ≤ p) && decide (p ≤ 4096) && decide (1 ≤ q) && decide (q ≤ 4096)
theorem pn21_bd (ps : Nat) (x : Int) (h : ps ≤ 4096) : 0 ≤ pn21 ps x ∧ pn21 ps x ≤ 4096 := by
  unfold pn21
  split
  · omega
  · split <;> omega

set_option maxRecDepth 100000 in
set_option maxHeartbeats 1000000 in
theorem pmay21 (p q : Int) (w : World) : Calls Tryd.prog 55 #[.agg #[.int .i64 p, .int .i64 q]] w fun e w' => e = .returned (.bool (mb21 p q)) ∧ Below w.heap.size w w' := by
  have hb : Below w.heap.size w (w.alloc (.cells #[.int .i64 p, .int .i64 q] 67)) := (Below.refl _ _).alloc (Nat.le_refl _) _
  by_cases h1 : 64 ≤ p
  · by_cases h2 : p ≤ 4096
    · by_cases h3 : 1 ≤ q
      · by_cases h4 : q ≤ 4096
        · have e : mb21 p q = true := by simp [mb21, h1, h2, h3, h4]
          rw [e]
          go_enter Tryd.func55, Tryd.ntmps55
          go_wp2
          go_ret
          exact ⟨by simp [h1, h2, h3, h4], hb⟩
        · have e : mb21 p q = false := by simp [mb21, h4]
          rw [e]
          go_enter Tryd.func55, Tryd.ntmps55
          go_wp2
          go_ret
          exact ⟨by simp [h1, h2, h3, h4], hb⟩
      · have e : mb21 p q = false := by simp [mb21, h3]
        rw [e]
        go_enter Tryd.func55, Tryd.ntmps55
        go_wp2
        go_ret
        exact ⟨by simp [h1, h2, h3], hb⟩
    · have e : mb21 p q = false := by simp [mb21, h2]
      rw [e]
      go_enter Tryd.func55, Tryd.ntmps55
      go_wp2
      go_ret
      exact ⟨by simp [h1, h2], hb⟩
  · have e : mb21 p q = false := by simp [mb21, h1]
    rw [e]
    go_enter Tryd.func55, Tryd.ntmps55
    go_wp2
    go_ret
    exact ⟨by simp [h1], hb⟩

set_option maxRecDepth 100000 in
set_option maxHeartbeats 1000000 in
theorem pmade21 (b pg : Nat) (w : World) (c0 : w.cell? ⟨b, 0, none⟩ = some (.int .i64 (pg : Int))) (hp : 64 ≤ pg) : Calls Tryd.prog 73 #[.pointer (some ⟨b, 0, none⟩)] w fun e w' => e = .returned (.bool true) ∧ w' = w := by
  have h1 : (0 : Int) < (pg : Int) := by omega
  have h2 : 0 < pg := by omega
  go_enter Tryd.func73, Tryd.ntmps73
  go_wp2
  go_ret
  exact ⟨by simp [h1, h2], rfl⟩
set_option maxRecDepth 100000 in
set_option maxHeartbeats 1000000 in
theorem pstop21 (b pg : Nat) (on : Bool) (w : World) (c0 : w.cell? ⟨b, 0, none⟩ = some (.int .i64 (pg : Int))) (hp : 64 ≤ pg) (c3 : w.cell? ⟨b, 3, none⟩ = some (.bool on)) : Calls Tryd.prog 68 #[.pointer (some ⟨b, 0, none⟩)] w fun e w' => e = .returned (.int .i64 (st21 on)) ∧ w' = w := by
  have HM := pmade21 b pg w c0 hp
  cases on
  all_goals
    go_enter Tryd.func68, Tryd.ntmps68
    go_wp2_with fail
    refine HM.mono ?_
    rintro e w1 ⟨rfl, hw⟩
    subst hw
    go_wp2_with fail
    go_ret
    exact ⟨rfl, rfl⟩
set_option maxRecDepth 100000 in
set_option maxHeartbeats 1000000 in
theorem ppof21 (b ps : Nat) (x : Int) (w : World) (c1 : w.cell? ⟨b, 1, none⟩ = some (.int .i64 (ps : Int))) : Calls Tryd.prog 69 #[.pointer (some ⟨b, 0, none⟩), .int .i64 x] w fun e w' => e = .returned (.int .i64 (pn21 ps x)) ∧ w' = w := by
  by_cases h1 : x < 0
  · have e : pn21 ps x = 0 := by simp [pn21, h1]
    rw [e]
    go_enter Tryd.func69, Tryd.ntmps69
    go_wp2
    go_ret
    exact ⟨rfl, rfl⟩
  · by_cases h2 : 2 < x
    · have e : pn21 ps x = 0 := by simp [pn21, h2]
      rw [e]
      go_enter Tryd.func69, Tryd.ntmps69
      go_wp2
      go_ret
      exact ⟨rfl, rfl⟩
    · by_cases h3 : x = 2
      · subst h3
        have e : pn21 ps 2 = 2 := by simp [pn21]
        rw [e]
        clear h1 h2
        go_enter Tryd.func69, Tryd.ntmps69
        go_wp2
        go_ret
        exact ⟨rfl, rfl⟩
      · have e : pn21 ps x = ps := by simp [pn21, h1, h2, h3]
        rw [e]
        have h4 : (x == 2) = false := by simp [h3]
        go_enter Tryd.func69, Tryd.ntmps69
        go_wp2
        go_ret
        exact ⟨rfl, rfl⟩
set_option maxRecDepth 100000 in
set_option maxHeartbeats 2000000 in
theorem pmiss21 (b ps : Nat) (x y : Int) (w : World) (c1 : w.cell? ⟨b, 1, none⟩ = some (.int .i64 (ps : Int))) : Calls Tryd.prog 97 #[.pointer (some ⟨b, 0, none⟩), .agg #[.int .i64 x, .int .i64 y]] w fun e w' => e = .returned (.int .i64 (ms21 ps x y)) ∧ Below w.heap.size w w' := by
  have hb : Below w.heap.size w (w.alloc (.cells #[.int .i64 x, .int .i64 y] 116)).drew := ((Below.refl _ _).alloc (Nat.le_refl _) _).drew
  have hlt : b < w.heap.size := World.block_lt_of_cell? w _ c1
  have HP : Hid (∀ W : World, W.cell? ⟨b, 1, none⟩ = some (.int .i64 (ps : Int)) → Calls Tryd.prog 69 #[.pointer (some ⟨b, 0, none⟩), .int .i64 x] W fun e w' => e = .returned (.int .i64 (pn21 ps x)) ∧ w' = W) := fun W h => ppof21 b ps x W h
  have d1 : ((w.alloc (.cells #[.int .i64 x, .int .i64 y] 116)).drew).cell? ⟨b, 1, none⟩ = some (.int .i64 (ps : Int)) := (hb.cell (p := ⟨b, 1, none⟩) hlt).trans c1
  by_cases h1 : y < 0
  · have e : ms21 ps x y = 211 := by simp [ms21, h1]
    rw [e]
    clear HP
    have h1' : decide (y < 0) = true := by simp [h1]
    go_enter Tryd.func97, Tryd.ntmps97
    go_wp2_with fail
    go_quiet (fail)
    go_wp2
    go_ret
    exact ⟨rfl, below_drewN21 ((Below.refl _ _).alloc (Nat.le_refl _) _) _⟩
  · have HN : Hid (ms21 ps x y = if pn21 ps x ≤ y then 211 else 0) := by simp [Hid, ms21, h1]
    rw [HN.out]
    generalize pn21 ps x = N at *
    have h1' : decide (y < 0) = false := by simp [h1]
    by_cases h2 : N ≤ y
    · have h2' : decide (N ≤ y) = true := by simp [h2]
      rw [if_pos h2]
      go_enter Tryd.func97, Tryd.ntmps97
      go_wp2_with fail
      go_quiet ((first | (go_at_call 69; exact Calls.quiet_of_same (HP.out _ (by exact d1)))))
      go_wp2
      go_ret
      exact ⟨rfl, below_drewN21 ((Below.refl _ _).alloc (Nat.le_refl _) _) _⟩
    · have h2' : decide (N ≤ y) = false := by simp [h2]
      rw [if_neg h2]
      go_enter Tryd.func97, Tryd.ntmps97
      go_wp2_with fail
      go_quiet ((first | (go_at_call 69; exact Calls.quiet_of_same (HP.out _ (by exact d1)))))
      go_wp2
      go_ret
      exact ⟨rfl, below_drewN21 ((Below.refl _ _).alloc (Nat.le_refl _) _) _⟩
set_option maxRecDepth 100000 in
set_option maxHeartbeats 2000000 in
theorem pref21 (b pg ps : Nat) (on : Bool) (x y : Int) (w : World) (c0 : w.cell? ⟨b, 0, none⟩ = some (.int .i64 (pg : Int))) (hp : 64 ≤ pg) (c1 : w.cell? ⟨b, 1, none⟩ = some (.int .i64 (ps : Int))) (c3 : w.cell? ⟨b, 3, none⟩ = some (.bool on)) :
    Calls Tryd.prog 84 #[.pointer (some ⟨b, 0, none⟩), .agg #[.int .i64 x, .int .i64 y]] w fun e w' => e = .returned (.int .i64 (rf21 on ps x y)) ∧ Below w.heap.size w w' := by
  have hlt : b < w.heap.size := World.block_lt_of_cell? w _ c1
  have hb : Below w.heap.size w (w.alloc (.cells #[.int .i64 x, .int .i64 y] 116)) := (Below.refl _ _).alloc (Nat.le_refl _) _
  have HS : Hid (∀ W : World, Below w.heap.size w W → Calls Tryd.prog 68 #[.pointer (some ⟨b, 0, none⟩)] W fun e w' => e = .returned (.int .i64 (st21 on)) ∧ w' = W) := fun W h => pstop21 b pg on W ((h.cell (p := ⟨b, 0, none⟩) hlt).trans c0) hp ((h.cell (p := ⟨b, 3, none⟩) hlt).trans c3)
  have HM : Hid (∀ W : World, Below w.heap.size w W → Calls Tryd.prog 97 #[.pointer (some ⟨b, 0, none⟩), .agg #[.int .i64 x, .int .i64 y]] W fun e w' => e = .returned (.int .i64 (ms21 ps x y)) ∧ Below W.heap.size W w') := fun W h => pmiss21 b ps x y W ((h.cell (p := ⟨b, 1, none⟩) hlt).trans c1)
  clear c0 c1 c3
  cases on
  · have e : rf21 false ps x y = 213 := rfl
    rw [e]
    clear e HM
    go_enter Tryd.func84, Tryd.ntmps84
    go_wp2_with fail
    refine (HS.out _ hb).mono ?_
    rintro e w1 ⟨rfl, hw⟩
    subst hw
    go_wp2_with fail
    go_ret
    exact ⟨rfl, hb⟩
  · have e : rf21 true ps x y = ms21 ps x y := rfl
    rw [e]
    clear e
    generalize ms21 ps x y = M at *
    go_enter Tryd.func84, Tryd.ntmps84
    go_wp2_with fail
    refine (HS.out _ hb).mono ?_
    rintro e w1 ⟨rfl, hw⟩
    subst hw
    go_wp2_with fail
    refine (HM.out _ hb).mono ?_
    rintro e w2 ⟨rfl, b2⟩
    go_wp2_with fail
    go_ret
    exact ⟨rfl, hb.trans (b2.mono (by simp))⟩
end Go.Proofs.YteboaolflecibaaDoor
