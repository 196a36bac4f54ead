import Derived.Test.YtmpbaabmpcejdaaProg
import Derived.Test.YtmpbaabmpcejdaaUnfix
import Derived.WalkKit
import Derived.WalkSpells
import Derived.WalkLawsBesides
namespace Go.Proofs.Ytmpbaabmpcejdaa
open Go.RowKit
set_option linter.unusedVariables false

set_option maxHeartbeats 400000 in
theorem runfix_arg (a : Option Addr) (n cap : Nat) (s : Int) (w : World) (hs : ¬ (1 ≤ s ∧ s ≤ 8)) :
    Calls Try.prog 16 #[.slice a n cap, .int .i64 s] w fun e w' => e = .returned (.tuple #[.int .u64 0, .int .i64 1]) ∧ w' = w := by
  by_cases h1 : s < 1
  · go_enter Try.func16, Try.ntmps16
    go_wp2
    go_ret2
    exact ⟨rfl, rfl⟩
  · have h8 : 8 < s := by omega
    have h1' : decide (s < 1) = false := by simp; omega
    go_enter Try.func16, Try.ntmps16
    go_wp2
    go_ret2
    exact ⟨rfl, rfl⟩

set_option maxHeartbeats 400000 in
theorem runfix_short (a : Option Addr) (n cap s : Nat) (w : World) (h1 : 1 ≤ s) (h8 : s ≤ 8) (hn : n < s) :
    Calls Try.prog 16 #[.slice a n cap, .int .i64 s] w fun e w' => e = .returned (.tuple #[.int .u64 0, .int .i64 11]) ∧ w' = w := by
  have a1 : decide ((s : Int) < 1) = false := by simp; omega
  have hn' : (n : Int) < (s : Int) := by omega
  go_enter Try.func16, Try.ntmps16
  go_wp2
  go_ret2
  exact ⟨rfl, rfl⟩

theorem unfL_drop_le : ∀ (zs : List Int) (k : Nat), (∀ z ∈ zs, 0 ≤ z ∧ z ≤ 255) → unfL (zs.drop k) ≤ unfL zs
  | zs, 0, _ => by simp
  | [], k + 1, _ => by simp
  | z :: r, k + 1, h => by
    have h1 := unfL_drop_le r k (fun y hy => h y (by simp [hy]))
    have h2 := unfL_pos r (fun y hy => h y (by simp [hy]))
    have hz := h z (by simp)
    simp only [List.drop_succ_cons, unfL]
    omega

set_option maxHeartbeats 1000000 in
theorem runfix_ok (a : Option Addr) (zs : List Int) (cap s : Nat) (w : World) (hs : Seg w a zs) (hl : zs.length ≤ 140737488355328) (h1 : 1 ≤ s) (h8 : s ≤ 8) (hn : s ≤ zs.length) :
    Calls Try.prog 16 #[.slice a zs.length cap, .int .i64 s] w fun e w' => e = .returned (.tuple #[.int .u64 (unfL (zs.take s)), .int .i64 0]) ∧ w' = w := by
  have a1 : decide ((s : Int) < 1) = false := by simp; omega
  have hn' : (s : Int) ≤ (zs.length : Int) := by omega
  have hmem : ∀ z ∈ zs.take s, 0 ≤ z ∧ z ≤ 255 := fun z hz => hs.mem z (List.mem_of_mem_take hz)
  have htl : (zs.take s).length = s := by simp; omega
  have hU : unfL (zs.take s) ≤ 18446744073709551615 := by
    have hu := (unfL_pos (zs.take s) hmem).2
    rw [htl, p256] at hu
    have := Nat.pow_le_pow_right (n := 2) (by decide) (show 8 * s ≤ 64 by omega)
    have e : ∀ j : Nat, (2 : Int) ^ j = ((2 ^ j : Nat) : Int) := fun j => by simp
    rw [e] at hu
    omega
  obtain ⟨b, off, rfl, _⟩ := hs.at_ 0 (by omega)
  go_enter Try.func16, Try.ntmps16
  go_wp2
  go_loop [6, 7] (fun t i => ∃ k : Nat, k ≤ s ∧ i = .int .i64 ((k : Int) - 1) ∧ t = .int .u64 (unfL ((zs.take s).drop k))) (fun _ i => (intOf i + 1).toNat)
  case atStart => exact ⟨s, Nat.le_refl _, rfl, by rw [List.drop_of_length_le (by omega)]; rfl⟩
  case round =>
    obtain ⟨k, hk, rfl, rfl⟩ := hrel
    by_cases hlt : 0 < k
    · obtain ⟨k, rfl⟩ : ∃ j, k = j + 1 := ⟨k - 1, by omega⟩
      obtain ⟨b', off', hb', hcell⟩ := hs.at_ k (by omega)
      cases hb'
      have hx := hs.bd k
      have h2 := unfL_drop_le (zs.take s) k hmem
      have h3 := (unfL_pos ((zs.take s).drop (k + 1)) (fun z hz => hmem z (List.mem_of_mem_drop hz))).1
      have HD : Hid (unfL ((zs.take s).drop k) = zs.getD k 0 + 256 * unfL ((zs.take s).drop (k + 1))) := by
        show unfL _ = _
        rw [drop_cons (by omega)]
        have : (zs.take s).getD k 0 = zs.getD k 0 := by simp [List.getD, show k < s by omega]
        rw [this]; rfl
      rw [HD.out] at h2
      have hi : ((k + 1 : Nat) : Int) - 1 = (k : Int) := by omega
      rw [hi]
      generalize zs.getD k 0 = x at *
      generalize unfL ((zs.take s).drop (k + 1)) = V at *
      have hkl : (k : Int) < (zs.length : Int) := by omega
      clear hmem htl
      go_wp2
      go_round
      case rel => exact ⟨k, by omega, by go_num, by rw [HD.out]; go_num⟩
      case measure => simp [intOf]
    · obtain rfl : k = 0 := by omega
      clear hmem htl
      go_wp2
      go_ret2
      exact ⟨rfl, rfl⟩
end Go.Proofs.Ytmpbaabmpcejdaa
