import Derived.Test.YtnofaodahcfldaaDoorCrcMove
namespace Go.Proofs.YtnofaodahcfldaaDoor
open Go.RowKit
set_option linter.unusedVariables false
set_option linter.unusedSimpArgs false

theorem wI_low (a : W32) : bits .and .u32 (wI a) 1 = wI (a &&& 1#32) := wI_and a 1#32
theorem wI_eq (a b : W32) : (wI a == wI b) = (a == b) := by
  rw [Bool.eq_iff_iff, beq_iff_eq, beq_iff_eq]
  exact ⟨wI_inj, fun h => by rw [h]⟩
theorem wI_low1 (a : W32) : (bits .and .u32 (wI a) 1 == 1) = a.getLsbD 0 := by
  rw [wI_low, show (1 : Int) = wI 1#32 from rfl, wI_eq]
  have h := and_two a 0 (by decide)
  rw [show BitVec.twoPow 32 0 = 1#32 from rfl] at h
  rw [← h]
  have e : (a &&& 1#32) = BitVec.ofNat 32 (a.toNat % 2) := by
    apply BitVec.eq_of_toNat_eq
    have : a.toNat &&& 1 = a.toNat % 2 := Nat.and_two_pow_sub_one_eq_mod _ 1
    simp [this]
    omega
  rw [e]
  rcases Nat.mod_two_eq_zero_or_one a.toNat with h | h <;> rw [h] <;> decide

/-- The register behind one more bit. -/
theorem step_any (a c : W32) (w : World) (hc : c = 0#32 ∨ c = 1#32) : Calls Tryd.prog 26 #[.int .u32 (wI a), .int .u32 (wI c)] w fun e w' => e = .returned (.int .u32 (wI (on (a ^^^ c)))) ∧ w' = w := by
  have b := wI_bd a
  have hx := wI_xor a c
  have hl := wI_low1 (a ^^^ c)
  have h2 : wI a / (2 : Int) = wI ((a ^^^ c) >>> 1) := by
    rw [wI_half, BitVec.ushiftRight_xor_distrib]
    congr 1
    rcases hc with rfl | rfl
    · simp
    · simp
  cases h : (a ^^^ c).getLsbD 0
  · have HL : Hid (wI a / 2 = wI (on (a ^^^ c))) := by
      show _ = _
      rw [h2]; unfold on; rw [h]; simp
    rw [h] at hl
    rw [← hx] at hl
    clear h h2 hx
    go_enter Tryd.func26, Tryd.ntmps26
    go_wp2
    go_ret
    exact ⟨ret_u32 HL.out, rfl⟩
  · have HL : Hid (bits .xor .u32 (wI a / 2) 3988292384 = wI (on (a ^^^ c))) := by
      show _ = _
      rw [h2, show (3988292384 : Int) = wI genW from rfl, wI_xor]; unfold on; rw [h, if_pos rfl]
    rw [h] at hl
    rw [← hx] at hl
    clear h h2 hx
    go_enter Tryd.func26, Tryd.ntmps26
    go_wp2
    go_ret
    exact ⟨ret_u32 HL.out, rfl⟩
theorem step0_any (a : W32) (w : World) : Calls Tryd.prog 26 #[.int .u32 (wI a), .int .u32 0] w fun e w' => e = .returned (.int .u32 (wI (on a))) ∧ w' = w := by
  have := step_any a 0#32 w (Or.inl rfl)
  rw [BitVec.xor_zero, wI_zero] at this
  exact this

theorem wI_shrbit (a : W32) (i : Nat) : (bits .and .u32 (wI a / 2 ^ i) 1 == 1) = a.getLsbD i := by
  rw [wI_shr, wI_low1]
  simp

set_option maxHeartbeats 1000000 in
theorem rtimes_any (a b : W32) (w : World) : Calls Tryd.prog 24 #[.int .u32 (wI a), .int .u32 (wI b)] w fun e w' => e = .returned (.int .u32 (wI (act b a))) ∧ w' = w := by
  go_enter Tryd.func24, Tryd.ntmps24
  go_wp2
  go_loopw [0, 5, 6] (fun ta tp ti wr => ∃ i : Nat, i ≤ 32 ∧ ta = .int .u32 (wI (onN i a)) ∧ tp = .int .u32 (wI (actN b i a)) ∧ ti = .int .i64 i ∧ wr = w) (fun _ _ ti _ => 32 - (intOf ti).toNat)
  case atStart => exact ⟨0, by decide, rfl, rfl, rfl, rfl⟩
  case round =>
    obtain ⟨i, hi, rfl, rfl, rfl, rfl⟩ := hrel
    by_cases hlt : i < 32
    · have hlt' : (i : Int) < 32 := by omega
      have hb : (bits .and .u32 (wI b / 2 ^ (31 - i)) 1 == 1) = b.getLsbD (31 - i) := wI_shrbit b _
      have HX : Hid (bits .xor .u32 (wI (actN b i a)) (wI (onN i a)) = wI (actN b i a ^^^ onN i a)) := wI_xor _ _
      have HA : Hid (actN b (i + 1) a = actN b i a ^^^ (if b.getLsbD (31 - i) then onN i a else 0#32)) := rfl
      have bb := wI_bd b
      have et : ((31 : Int) - (i : Int)).toNat = 31 - i := by omega
      cases hg : b.getLsbD (31 - i)
      · rw [hg] at hb
        have HG : Hid (b.getLsbD (31 - i) = false) := hg
        clear hg
        go_wp2_with (go_at_call 26; refine (step0_any _ _).mono ?_; rintro e w' ⟨rfl, hw'⟩; subst w')
        go_roundw
        case rel => exact ⟨i + 1, by omega, rfl, by rw [HA.out, HG.out]; simp, by go_num, trivial⟩
        case measure => simp [intOf]; omega
      · rw [hg] at hb
        have HG : Hid (b.getLsbD (31 - i) = true) := hg
        clear hg
        go_wp2_with (go_at_call 26; refine (step0_any _ _).mono ?_; rintro e w' ⟨rfl, hw'⟩; subst w')
        go_roundw
        case rel => exact ⟨i + 1, by omega, rfl, by rw [HA.out, HG.out, HX.out]; simp, by go_num, trivial⟩
        case measure => simp [intOf]; omega
    · obtain rfl : i = 32 := by omega
      clear hlt
      go_wp2
      go_ret
      exact ⟨rfl, rfl⟩

theorem one_one : (2147483648 : Int) = wI (onN 0 oneW) := by decide

set_option maxHeartbeats 1000000 in
theorem power_any (n : Nat) (w : World) (hn : n ≤ 9223372036854775807) : Calls Tryd.prog 25 #[.int .i64 n] w fun e w' => e = .returned (.int .u32 (wI (onN (8 * n) oneW))) ∧ w' = w := by
  go_enter Tryd.func25, Tryd.ntmps25
  go_wp2
  go_loopw [0, 3, 4] (fun tn tw ts wr => ∃ f e m : Nat, tw = .int .u32 (wI (onN f oneW)) ∧ tn = .int .i64 m ∧ ts = .int .u32 (wI (onN e oneW)) ∧ m ≤ 9223372036854775807 ∧ e * m + f = 8 * n ∧ wr = w) (fun tn _ _ _ => (intOf tn).toNat)
  case atStart => exact ⟨0, 8, n, by rw [← one_one], rfl, by rw [← byte_on], hn, rfl, rfl⟩
  case round =>
    obtain ⟨f, e, m, rfl, rfl, rfl, hmn, he, rfl⟩ := hrel
    by_cases hm : 0 < m
    · have hm' : (0 : Int) < m := by omega
      have HS : Hid (act (onN e oneW) (onN e oneW) = onN (2 * e) oneW) := sq e
      have HP : Hid (act (onN e oneW) (onN f oneW) = onN (e + f) oneW) := by
        show _ = _
        rw [act_pow', ← onN_add]
      by_cases ho : m % 2 = 1
      · have hc : (m : Int) % 2 = 1 := by omega
        have HE : Hid (2 * e * (m / 2) + (e + f) = 8 * n) := by
          show _ = _
          rw [← he]
          obtain ⟨q, hq⟩ : ∃ q, m = 2 * q + 1 := ⟨m / 2, by omega⟩
          subst hq
          rw [show (2 * q + 1) / 2 = q by omega, Nat.mul_add, Nat.mul_comm 2 e, Nat.mul_assoc]
          omega
        clear he ho
        go_wp2_with (go_at_call 24; refine (rtimes_any _ _ _).mono ?_; rintro e w' ⟨rfl, hw'⟩; subst w')
        go_roundw
        case rel => exact ⟨e + f, 2 * e, m / 2, by rw [HP.out], by simp, by rw [HS.out], by omega, HE.out, trivial⟩
        case measure => simp [intOf]; omega
      · have hc : (m : Int) % 2 = 0 := by omega
        have HE : Hid (2 * e * (m / 2) + f = 8 * n) := by
          show _ = _
          rw [← he]
          obtain ⟨q, hq⟩ : ∃ q, m = 2 * q := ⟨m / 2, by omega⟩
          subst hq
          rw [show (2 * q) / 2 = q by omega, Nat.mul_comm 2 e, Nat.mul_assoc]
        clear he ho
        go_wp2_with (go_at_call 24; refine (rtimes_any _ _ _).mono ?_; rintro e w' ⟨rfl, hw'⟩; subst w')
        go_roundw
        case rel => exact ⟨f, 2 * e, m / 2, rfl, by simp, by rw [HS.out], by omega, HE.out, trivial⟩
        case measure => simp [intOf]; omega
    · obtain rfl : m = 0 := by omega
      obtain rfl : f = 8 * n := by simpa using he
      clear hm he
      go_wp2
      go_ret
      exact ⟨rfl, rfl⟩
end Go.Proofs.YtnofaodahcfldaaDoor
