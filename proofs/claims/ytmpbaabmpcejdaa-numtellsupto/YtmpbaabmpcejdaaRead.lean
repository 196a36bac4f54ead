import Derived.Test.YtmpbaabmpcejdaaProg
import Derived.Test.YtmpbaabmpcejdaaVal
namespace Go.Proofs.Ytmpbaabmpcejdaa
open Go.RowKit
set_option linter.unusedVariables false

set_option maxHeartbeats 400000 in
theorem read_any (a : Option Addr) (zs : List Int) (cap : Nat) (w : World) (hs : Seg w a zs) (hl : zs.length ≤ 140737488355328) (hcap : zs.length ≤ cap) :
    Calls Try.prog 22 #[.slice a zs.length cap] w fun e w' => e = .returned (.tuple #[.int .u64 (decL 0 0 zs).1, .int .i64 (decL 0 0 zs).2.1, .int .i64 (decL 0 0 zs).2.2]) ∧ w' = w := by
  go_enter Try.func22, Try.ntmps22
  go_wp2
  go_loop [5] (fun i => ∃ k : Nat, k ≤ zs.length ∧ i = .int .i64 k ∧ k ≤ 9 ∧ decL 0 0 zs = decL (valL (zs.take k)) k (zs.drop k)) (fun i => zs.length - (intOf i).toNat)
  case atStart => exact ⟨0, Nat.zero_le _, rfl, by omega, by simp [valL]⟩
  case round =>
    obtain ⟨k, hk, rfl, hk9, hd⟩ := hrel
    by_cases hlt : k < zs.length
    · obtain ⟨b, off, rfl, hcell⟩ := hs.at_ k hlt
      have hx := hs.bd k
      have hv1 := valL_lt (zs.take k)
      have hv0 := valL_pos (zs.take k)
      have ht : (zs.take k).length = k := by simp; omega
      rw [ht] at hv1
      have hst := hs.take (k + 1)
      have ht1 : (zs.take (k + 1)).length = k + 1 := by simp; omega
      have HV : Hid (valL (zs.take (k + 1)) = tkVal (valL (zs.take k)) k (zs.getD k 0)) := valL_take zs k hlt
      rw [drop_cons hlt] at hd
      generalize zs.getD k 0 = x at *
      have hki : (k : Int) + 1 ≤ (cap : Int) := by omega
      by_cases he : tkErr k x = 0
      · have hne : (tkErr k x != 0) = false := by simp [he]
        have hbd := tkVal_bd (valL (zs.take k)) k x hv0 hv1 (by omega)
        by_cases h7 : x < 128
        · have HD : Hid (decL 0 0 zs = (tkVal (valL (zs.take k)) k x, (k : Int) + 1, 0)) := by rw [hd]; show decL _ k _ = _; simp [decL, he, h7]
          have hfit : valL (zs.take (k + 1)) ≤ 18446744073709551615 := by
            rw [HV.out]
            have := tk_fits k x hk9 (by omega) (tkErr_nine he)
            unfold tkVal
            omega
          clear hd hbd hv1 hv0
          go_wp2_with (first
            | (go_at_call 32; refine (wrong_any b off k cap x _ hcell (by omega) (by omega)).mono ?_; rintro e w' ⟨rfl, hw'⟩; subst w')
            | (go_at_call 33; refine (value_at _ (zs.take (k + 1)) _ cap _ hst ht1 (by omega) hfit).mono ?_; rintro e w' ⟨rfl, hw'⟩; subst w'))
          go_ret3
          rw [HD.out, HV.out]
          exact ⟨rfl, rfl⟩
        · have HD : Hid (decL 0 0 zs = decL (valL (zs.take (k + 1))) (k + 1) (zs.drop (k + 1))) := by rw [hd, HV.out]; show decL _ k _ = _; simp [decL, he, h7]
          have hk8 := tk_more_le hk9 he (by omega)
          clear hd hbd hv1 hv0
          go_wp2_with (first
            | (go_at_call 32; refine (wrong_any b off k cap x _ hcell (by omega) (by omega)).mono ?_; rintro e w' ⟨rfl, hw'⟩; subst w'))
          go_round
          case rel => exact ⟨k + 1, by omega, by go_num, by omega, HD.out⟩
          case measure => simp [intOf]; omega
      · have HD : Hid (decL 0 0 zs = (0, 0, tkErr k x)) := by rw [hd]; show decL _ k _ = _; simp [decL, he]
        have hne : (tkErr k x != 0) = true := by simp [he]
        clear hd
        go_wp2_with (first
            | (go_at_call 32; refine (wrong_any b off k cap x _ hcell (by omega) (by omega)).mono ?_; rintro e w' ⟨rfl, hw'⟩; subst w'))
        go_ret3
        rw [HD.out]
        exact ⟨rfl, rfl⟩
    · have HD : Hid (decL 0 0 zs = (0, 0, 11)) := by rw [hd, List.drop_of_length_le (by omega)]; rfl
      clear hd
      have hge : (zs.length : Int) ≤ (k : Int) := by omega
      go_wp2
      go_ret3
      rw [HD.out]
      exact ⟨rfl, rfl⟩
end Go.Proofs.Ytmpbaabmpcejdaa
