import Derived.Test.YtmpbaabmpcejdaaProg
import Derived.Test.YtmpbaabmpcejdaaDec
import Derived.Test.YtmpbaabmpcejdaaReadMath
namespace Go.Proofs.Ytmpbaabmpcejdaa
open Go.RowKit
set_option linter.unusedVariables false

theorem wrong_any (b off n cap : Nat) (x : Int) (w : World) (hc : w.cell? ⟨b, off + n, none⟩ = some (.int .u8 x)) (hx : 0 ≤ x) (hn : n ≤ 140737488355328) :
    Calls Try.prog 32 #[.slice (some ⟨b, off, none⟩) (n + 1) cap] w fun e w' => e = .returned (.int .i64 (tkErr n x)) ∧ w' = w := by
  have hlt : (n : Int) < (n : Int) + 1 := by omega
  by_cases a1 : n = 9
  · subst a1
    by_cases a2 : 1 < x
    · go_enter Try.func32, Try.ntmps32
      go_wp2
      go_ret
      exact ⟨by simp [tkErr, a2], rfl⟩
    · by_cases a3 : x = 0
      · subst a3
        go_enter Try.func32, Try.ntmps32
        go_wp2
        go_ret
        exact ⟨by simp [tkErr], rfl⟩
      · have a4 : (x == 0) = false := by simp [a3]
        go_enter Try.func32, Try.ntmps32
        go_wp2
        go_ret
        exact ⟨by have : ¬ 1 < x := by omega
                  simp [tkErr, this, a3], rfl⟩
  · have a0 : ((n : Int) == 9) = false := by simp; omega
    by_cases a2 : 0 < n
    · have a5 : (0 : Int) < (n : Int) := by omega
      by_cases a3 : x = 0
      · subst a3
        go_enter Try.func32, Try.ntmps32
        go_wp2
        go_ret
        exact ⟨by simp [tkErr, a1, a2], rfl⟩
      · have a4 : (x == 0) = false := by simp [a3]
        go_enter Try.func32, Try.ntmps32
        go_wp2
        go_ret
        exact ⟨by simp [tkErr, a1, a3], rfl⟩
    · have a6 : n = 0 := by omega
      subst a6
      go_enter Try.func32, Try.ntmps32
      go_wp2
      go_ret
      exact ⟨by simp [tkErr], rfl⟩

set_option maxHeartbeats 400000 in
theorem value_any (a : Option Addr) (zs : List Int) (cap : Nat) (w : World) (hs : Seg w a zs) (hl : zs.length ≤ 140737488355328) (hv : valL zs ≤ 18446744073709551615) :
    Calls Try.prog 33 #[.slice a zs.length cap] w fun e w' => e = .returned (.int .u64 (valL zs)) ∧ w' = w := by
  go_enter Try.func33, Try.ntmps33
  go_wp2
  go_loop [3, 4] (fun t i => ∃ k : Nat, k ≤ zs.length ∧ i = .int .i64 ((k : Int) - 1) ∧ t = .int .u64 (valL (zs.drop k))) (fun _ i => (intOf i + 1).toNat)
  case atStart => exact ⟨zs.length, Nat.le_refl _, rfl, by simp [valL]⟩
  case round =>
    obtain ⟨k, hk, rfl, rfl⟩ := hrel
    by_cases hlt : 0 < k
    · obtain ⟨k, rfl⟩ : ∃ j, k = j + 1 := ⟨k - 1, by omega⟩
      obtain ⟨b, off, rfl, hcell⟩ := hs.at_ k (by omega)
      have hx := hs.bd k
      have h1 := valL_pos (zs.drop (k + 1))
      have h2 := valL_drop_le zs k
      have HD : Hid (valL (zs.drop k) = zs.getD k 0 % 128 + 128 * valL (zs.drop (k + 1))) := by show valL _ = _; rw [drop_cons (by omega)]; rfl
      rw [HD.out] at h2
      have hi : ((k + 1 : Nat) : Int) - 1 = (k : Int) := by omega
      rw [hi]
      generalize zs.getD k 0 = x at *
      generalize valL (zs.drop (k + 1)) = V at *
      have hkl : (k : Int) < (zs.length : Int) := by omega
      go_wp2
      go_round
      case rel => exact ⟨k, by omega, by go_num, by rw [HD.out]; go_num⟩
      case measure => simp [intOf]
    · obtain rfl : k = 0 := by omega
      go_wp2
      go_ret
      exact ⟨rfl, rfl⟩
theorem value_at (a : Option Addr) (zs : List Int) (n cap : Nat) (w : World) (hs : Seg w a zs) (hn : zs.length = n) (hl : n ≤ 140737488355328) (hv : valL zs ≤ 18446744073709551615) :
    Calls Try.prog 33 #[.slice a n cap] w fun e w' => e = .returned (.int .u64 (valL zs)) ∧ w' = w := by
  subst hn
  exact value_any a zs cap w hs hl hv

end Go.Proofs.Ytmpbaabmpcejdaa
