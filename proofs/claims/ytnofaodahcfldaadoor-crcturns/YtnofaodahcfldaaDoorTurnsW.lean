import Derived.Test.YtnofaodahcfldaaDoorCrcTurn
import Derived.Test.YtnofaodahcfldaaDoorCrcRun
import Derived.Test.YtnofaodahcfldaaDoorCrcNamesW
namespace Go.Proofs.YtnofaodahcfldaaDoor
open Go.RowKit
set_option linter.unusedVariables false
set_option linter.unusedSimpArgs false

theorem rturned_arg (c size k m : Int) (w : World) (h : size < 0) : Calls Tryd.prog 20 #[.int .u32 c, .int .i64 size, .int .i64 k, .int .u8 m] w fun e w' => e = .returned (.tuple #[.int .u32 0, .int .i64 1]) ∧ w' = w := by
  go_enter Tryd.func20, Tryd.ntmps20
  go_wp2
  go_ret2
  exact ⟨rfl, rfl⟩
theorem rturned_place (c size k m : Int) (w : World) (h : 0 ≤ size) (hk : k < 0 ∨ size ≤ k) : Calls Tryd.prog 20 #[.int .u32 c, .int .i64 size, .int .i64 k, .int .u8 m] w fun e w' => e = .returned (.tuple #[.int .u32 0, .int .i64 20]) ∧ w' = w := by
  have h0 : decide (size < 0) = false := by simp; omega
  by_cases hn : k < 0
  · clear hk
    go_enter Tryd.func20, Tryd.ntmps20
    go_wp2
    go_ret2
    exact ⟨rfl, rfl⟩
  · have hn' : decide (k < 0) = false := by simp; omega
    have hs : size ≤ k := by omega
    clear hk
    go_enter Tryd.func20, Tryd.ntmps20
    go_wp2
    go_ret2
    exact ⟨rfl, rfl⟩
set_option maxHeartbeats 400000 in
theorem rturned_any (c : W32) (size k : Nat) (m : Int) (w : World) (hk : k < size) (hs : size ≤ 9223372036854775807) (h0 : 0 ≤ m) (h1 : m ≤ 255) :
    Calls Tryd.prog 20 #[.int .u32 (wI c), .int .i64 size, .int .i64 k, .int .u8 m] w fun e w' => e = .returned (.tuple #[.int .u32 (wI (turnW c (size - 1 - k) m)), .int .i64 0]) ∧ Below w.heap.size w w' := by
  have a0 : decide ((size : Int) < 0) = false := by simp
  have a1 : decide ((k : Int) < 0) = false := by simp
  have a2 : decide ((size : Int) ≤ (k : Int)) = false := by simp; omega
  have hx : bits .xor .u32 (wI c) (wI (onN (8 * (size - 1 - k)) (takeW 0#32 m))) = wI (turnW c (size - 1 - k) m) := wI_xor _ _
  have hsg := seg_lit w [m] 5 (0, 0) (by intro z hz; simp at hz; subst hz; exact ⟨h0, h1⟩)
  have hr := run_any 0#32 _ [m] 1 _ hsg (by simp)
  have hp := fun w => power_any (size - 1 - k) w (by omega)
  have e1 : ((size - 1 - k : Nat) : Int) = (size : Int) - 1 - (k : Int) := by omega
  rw [e1] at hp
  rw [wI_zero, show runW 0#32 [m] = takeW 0#32 m from rfl] at hr
  clear e1 hsg
  go_enter Tryd.func20, Tryd.ntmps20
  go_wp2_with (first
    | (go_at_call 21; refine hr.mono ?_; rintro e w' ⟨rfl, hw'⟩; subst w')
    | (go_at_call 25; refine (hp _).mono ?_; rintro e w' ⟨rfl, hw'⟩; subst w')
    | (go_at_call 24; refine (rtimes_any _ _ _).mono ?_; rintro e w' ⟨rfl, hw'⟩; subst w'; rw [act_pow']))
  go_ret2
  exact ⟨rfl, (Below.refl _ _).alloc (Nat.le_refl _) _⟩

set_option maxHeartbeats 1000000 in
theorem crcTurns_walk (w : World) (ht : Tab w) (c : Int) (h0 : 0 ≤ c) (h1 : c ≤ 4294967295) (size : Int) (h2 : -9223372036854775808 ≤ size) (h3 : size ≤ 9223372036854775807)
    (k : Int) (h4 : -9223372036854775808 ≤ k) (h5 : k ≤ 9223372036854775807) (m : Int) (h6 : 0 ≤ m) (h7 : m ≤ 255) :
    Calls Tryd.prog 7 #[.agg #[.int .u32 c, .int .i64 size, .int .i64 k, .int .u8 m]] w fun e w' => e = .returned (.bool true) ∧ Below w.heap.size w w' := by
  by_cases hA : size < 0
  · go_enter Tryd.func7, Tryd.ntmps7
    go_wp2_with (first
      | (go_at_call 19; refine (turned_arg _ _ _ _ _ hA).mono ?_; rintro e w' ⟨rfl, hw'⟩; subst w')
      | (go_at_call 20; refine (rturned_arg _ _ _ _ _ hA).mono ?_; rintro e w' ⟨rfl, hw'⟩; subst w')
      | (go_at_call 8; refine (num_any _ _).mono ?_; rintro e w' ⟨rfl, hw'⟩; subst w'))
    go_ret
    exact ⟨rfl, (Below.refl _ _).alloc (Nat.le_refl _) _⟩
  · have hA' : 0 ≤ size := by omega
    by_cases hB : k < 0 ∨ size ≤ k
    · go_enter Tryd.func7, Tryd.ntmps7
      go_wp2_with (first
        | (go_at_call 19; refine (turned_place _ _ _ _ _ hA' hB).mono ?_; rintro e w' ⟨rfl, hw'⟩; subst w')
        | (go_at_call 20; refine (rturned_place _ _ _ _ _ hA' hB).mono ?_; rintro e w' ⟨rfl, hw'⟩; subst w')
        | (go_at_call 8; refine (num_any _ _).mono ?_; rintro e w' ⟨rfl, hw'⟩; subst w'))
      go_ret
      exact ⟨rfl, (Below.refl _ _).alloc (Nat.le_refl _) _⟩
    · obtain ⟨x, rfl⟩ := wI_of h0 (by omega)
      obtain ⟨S, rfl⟩ := Int.eq_ofNat_of_zero_le hA'
      obtain ⟨K, rfl⟩ := Int.eq_ofNat_of_zero_le (show 0 ≤ k by omega)
      have hk : K < S := by omega
      clear hA hB
      have hb0 : Below w.heap.size w (w.alloc (.cells #[.int .u32 (wI x), .int .i64 S, .int .i64 K, .int .u8 m] 42)) := (Below.refl _ _).alloc (Nat.le_refl _) _
      go_enter Tryd.func7, Tryd.ntmps7
      go_wp2_with fail
      refine (turned_any x S K m _ (ht.alloc _) hk (by omega) h6 h7).mono ?_
      rintro e w' ⟨rfl, hw'⟩
      subst w'
      go_wp2_with fail
      refine (rturned_any x S K m _ hk (by omega) h6 h7).mono ?_
      rintro e w1 ⟨rfl, hb⟩
      have hbb : Below w.heap.size w w1 := hb0.trans (hb.mono (by simp))
      clear hb hb0
      go_wp2_with (go_at_call 8; refine (num_any _ _).mono ?_; rintro e w' ⟨rfl, hw'⟩; subst w')
      go_ret
      exact ⟨by simp, hbb⟩
end Go.Proofs.YtnofaodahcfldaaDoor
