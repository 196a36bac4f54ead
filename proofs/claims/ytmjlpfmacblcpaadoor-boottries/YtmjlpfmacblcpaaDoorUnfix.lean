import Derived.Test.YtmjlpfmacblcpaaDoorProg
import Derived.Test.YtmjlpfmacblcpaaDoorFix
import Derived.Test.YtmjlpfmacblcpaaDoorMem
import Derived.Laws.BitsAllLaws
import Derived.WalkKit
import Derived.WalkSpells
import Derived.WalkLawsBesides
import Derived.Test.YtmjlpfmacblcpaaDoorSeg
namespace Go.Proofs.YtmjlpfmacblcpaaDoor
open Go.RowKit
set_option linter.unusedVariables false
/-- The number that bytes are, the least first. -/
def unfL : List Int → Int
  | [] => 0
  | z :: r => z + 256 * unfL r
theorem p256 (k : Nat) : (256 : Int) ^ k = 2 ^ (8 * k) := by rw [Int.pow_mul]; rfl
theorem unfL_pos : ∀ zs : List Int, (∀ z ∈ zs, 0 ≤ z ∧ z ≤ 255) → 0 ≤ unfL zs ∧ unfL zs < 256 ^ zs.length
  | [], _ => by simp [unfL]
  | z :: r, h => by
    have ih := unfL_pos r (fun y hy => h y (by simp [hy]))
    have hz := h z (by simp)
    simp only [unfL, List.length_cons, Int.pow_succ]
    omega
theorem unfL_snoc : ∀ (l : List Int) (x : Int), unfL (l ++ [x]) = unfL l + x * 2 ^ (8 * l.length)
  | [], x => by simp [unfL]
  | z :: r, x => by
    have e : x * 2 ^ (8 * (r.length + 1)) = 256 * (x * 2 ^ (8 * r.length)) := by
      rw [show 8 * (r.length + 1) = 8 * r.length + 8 by omega, Int.pow_add, ← Int.mul_assoc, Int.mul_comm]; rfl
    simp only [List.cons_append, unfL, unfL_snoc r x, List.length_cons, e]
    omega

theorem un_or (v x : Int) (k : Nat) (hv0 : 0 ≤ v) (hv1 : v < 2 ^ (8 * k)) (hk : k ≤ 7) (h0 : 0 ≤ x) (h1 : x ≤ 255) :
    bits .or .u64 v (IntKind.u64.wrap (x * 2 ^ (8 * k))) = v + x * 2 ^ (8 * k) := by
  have hp : (0 : Int) < 2 ^ (8 * k) := Int.pow_pos (by decide)
  have hm : (2 : Int) ^ (8 * k) ≤ 72057594037927936 := by
    have := Nat.pow_le_pow_right (n := 2) (by decide) (show 8 * k ≤ 56 by omega)
    have e : ∀ j : Nat, (2 : Int) ^ j = ((2 ^ j : Nat) : Int) := fun j => by simp
    rw [e]; omega
  have hx0 : 0 ≤ x * 2 ^ (8 * k) := Int.mul_nonneg h0 (Int.le_of_lt hp)
  have hx1 : x * 2 ^ (8 * k) ≤ 255 * 2 ^ (8 * k) := Int.mul_le_mul_of_nonneg_right h1 (Int.le_of_lt hp)
  have e2 : IntKind.u64.wrap (x * 2 ^ (8 * k)) = x * 2 ^ (8 * k) := by
    rw [IntKind.wrap_u64]; exact Int.emod_eq_of_lt hx0 (by omega)
  rw [e2]
  have hd : (x * 2 ^ (8 * k)) % 2 ^ (8 * k) = 0 := Int.mul_emod_left _ _
  generalize x * 2 ^ (8 * k) = y at *
  have hc2 : ((2 : Int) ^ (8 * k)) = ((2 ^ (8 * k) : Nat) : Int) := by simp
  rw [hc2] at hd hv1 hx1 hm
  obtain ⟨V, rfl⟩ := Int.eq_ofNat_of_zero_le hv0
  obtain ⟨Y, rfl⟩ := Int.eq_ofNat_of_zero_le hx0
  rw [u64_or_nat V Y (by omega) (by omega), Nat.or_comm, nat_join (8 * k) Y V (by omega) (by omega)]
  omega

set_option maxRecDepth 100000 in
set_option maxHeartbeats 400000 in
theorem unfix_arg (a : Option Addr) (n cap : Nat) (s : Int) (w : World) (hs : ¬ (1 ≤ s ∧ s ≤ 8)) :
    Calls Tryd.prog 77 #[.slice a n cap, .int .i64 s] w fun e w' => e = .returned (.tuple #[.int .u64 0, .int .i64 1]) ∧ w' = w := by
  have hd : decide (1 ≤ s ∧ s ≤ 8) = false := by simp; omega
  go_enter Tryd.func77, Tryd.ntmps77
  go_wp2_with (go_at_call 109; refine (isFixed_any _ _).mono ?_; rintro e w' ⟨rfl, hw'⟩; subst w')
  go_ret2
  exact ⟨rfl, rfl⟩

set_option maxRecDepth 100000 in
set_option maxHeartbeats 400000 in
theorem unfix_short (a : Option Addr) (n cap s : Nat) (w : World) (h1 : 1 ≤ s) (h8 : s ≤ 8) (hn : n < s) :
    Calls Tryd.prog 77 #[.slice a n cap, .int .i64 s] w fun e w' => e = .returned (.tuple #[.int .u64 0, .int .i64 11]) ∧ w' = w := by
  have hd : decide (1 ≤ (s : Int) ∧ (s : Int) ≤ 8) = true := by simp; omega
  have hn' : (n : Int) < (s : Int) := by omega
  go_enter Tryd.func77, Tryd.ntmps77
  go_wp2_with (go_at_call 109; refine (isFixed_any _ _).mono ?_; rintro e w' ⟨rfl, hw'⟩; subst w')
  go_ret2
  exact ⟨rfl, rfl⟩

set_option maxRecDepth 100000 in
set_option maxHeartbeats 1000000 in
theorem unfix_ok (a : Option Addr) (zs : List Int) (cap s : Nat) (w : World) (hs : Seg w a zs) (hcap : zs.length ≤ cap) (hl : zs.length ≤ 140737488355328) (h1 : 1 ≤ s) (h8 : s ≤ 8) (hn : s ≤ zs.length) :
    Calls Tryd.prog 77 #[.slice a zs.length cap, .int .i64 s] w fun e w' => e = .returned (.tuple #[.int .u64 (unfL (zs.take s)), .int .i64 0]) ∧ w' = w := by
  have hd : decide (1 ≤ (s : Int) ∧ (s : Int) ≤ 8) = true := by simp; omega
  have hn' : (s : Int) ≤ (zs.length : Int) := by omega
  have hcs : (s : Int) ≤ (cap : Int) := by omega
  obtain ⟨b, off, rfl, _⟩ := hs.at_ 0 (by omega)
  go_enter Tryd.func77, Tryd.ntmps77
  go_wp2_with (go_at_call 109; refine (isFixed_any _ _).mono ?_; rintro e w' ⟨rfl, hw'⟩; subst w')
  go_loop [6, 20] (fun t i => ∃ k : Nat, k ≤ s ∧ i = .int .i64 k ∧ t = .int .u64 (unfL (zs.take k))) (fun _ i => s - (intOf i).toNat)
  case atStart => exact ⟨0, Nat.zero_le _, rfl, rfl⟩
  case round =>
    obtain ⟨k, hk, rfl, rfl⟩ := hrel
    by_cases hlt : k < s
    · have hlti : (k : Int) < (s : Int) := by omega
      obtain ⟨b', off', hb', hcell⟩ := hs.at_ k (by omega)
      cases hb'
      have hx := hs.bd k
      have hu := unfL_pos (zs.take k) (fun z hz => hs.mem z (List.mem_of_mem_take hz))
      rw [show (zs.take k).length = k by simp; omega, p256] at hu
      have HT : Hid (unfL (zs.take (k + 1)) = unfL (zs.take k) + zs.getD k 0 * 2 ^ (8 * k)) := by
        show unfL _ = _
        rw [List.take_succ_eq_append_getElem (by omega), unfL_snoc, show (zs.take k).length = k by simp; omega]
        simp [List.getD, show k < zs.length by omega]
      have HO : Hid (bits .or .u64 (unfL (zs.take k)) (IntKind.u64.wrap (zs.getD k 0 * 2 ^ (8 * k))) = unfL (zs.take k) + zs.getD k 0 * 2 ^ (8 * k)) := un_or _ _ k hu.1 hu.2 (by omega) hx.1 hx.2
      generalize zs.getD k 0 = x at *
      generalize unfL (zs.take k) = u at *
      clear hu
      go_wp2
      go_round
      case rel => exact ⟨k + 1, by omega, by go_num, by rw [HT.out, ← HO.out]⟩
      case measure => simp [intOf]; omega
    · obtain rfl : k = s := by omega
      clear hlt
      go_wp2
      go_ret2
      exact ⟨rfl, rfl⟩

end Go.Proofs.YtmjlpfmacblcpaaDoor
