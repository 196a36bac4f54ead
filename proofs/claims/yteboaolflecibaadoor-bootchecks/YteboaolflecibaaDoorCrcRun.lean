import Derived.Test.YteboaolflecibaaDoorCrcRef
import Derived.Test.YteboaolflecibaaDoorCrcMore
namespace Go.Proofs.YteboaolflecibaaDoor
open Go.RowKit
set_option linter.unusedVariables false
set_option linter.unusedSimpArgs false
/-- The low bits of a byte. -/
def lowW (x : Int) (k : Nat) : W32 := BitVec.ofNat 32 (x.toNat % 2 ^ k)
def bitW (x : Int) (k : Nat) : W32 := BitVec.ofNat 32 (x.toNat / 2 ^ k % 2)
theorem low_next0 : ∀ (x : Fin 256) (k : Fin 8), BitVec.ofNat 32 (x.val % 2 ^ (k.val + 1)) = BitVec.ofNat 32 (x.val % 2 ^ k.val) ^^^ (BitVec.ofNat 32 (x.val / 2 ^ k.val % 2) <<< k.val) := by decide +kernel
theorem low_next (x : Int) (h0 : 0 ≤ x) (h1 : x ≤ 255) (k : Nat) (hk : k < 8) : lowW x (k + 1) = lowW x k ^^^ (bitW x k <<< k) :=
  low_next0 ⟨x.toNat, by omega⟩ ⟨k, hk⟩
theorem low_step (r : W32) (x : Int) (h0 : 0 ≤ x) (h1 : x ≤ 255) (k : Nat) (hk : k < 8) : on (onN k (r ^^^ lowW x k) ^^^ bitW x k) = onN (k + 1) (r ^^^ lowW x (k + 1)) := by
  have e : bitW x k = onN k (bitW x k <<< k) := by
    refine (onN_shl k _ ?_ (by omega)).symm
    have h2 : (bitW x k).toNat < 2 := by
      unfold bitW
      have := Nat.mod_lt (x.toNat / 2 ^ k) (show 0 < 2 by decide)
      simp
      omega
    have h3 : 2 ^ 1 ≤ 2 ^ (32 - k) := Nat.pow_le_pow_right (by decide) (by omega)
    exact Nat.lt_of_lt_of_le h2 h3
  conv => lhs; rw [e]
  rw [← onN_xor, BitVec.xor_assoc, ← low_next x h0 h1 k hk]
  rfl
theorem bit_or (x : Int) (k : Nat) : bitW x k = 0#32 ∨ bitW x k = 1#32 := by
  unfold bitW
  rcases Nat.mod_two_eq_zero_or_one (x.toNat / 2 ^ k) with h | h <;> rw [h]
  · exact Or.inl rfl
  · exact Or.inr rfl
theorem bit_is (x : Int) (h0 : 0 ≤ x) (h1 : x ≤ 255) (k : Nat) : bits .and .u32 (x / 2 ^ k % 4294967296) 1 = wI (bitW x k) := by
  obtain ⟨n, rfl⟩ := Int.eq_ofNat_of_zero_le h0
  have hd : n / 2 ^ k ≤ n := Nat.div_le_self _ _
  have e1 : ((n : Int) / 2 ^ k) = wI (BitVec.ofNat 32 (n / 2 ^ k)) := by
    unfold wI
    rw [BitVec.toNat_ofNat, Nat.mod_eq_of_lt (by omega)]
    simp
  have e0 : (n : Int) / 2 ^ k % 4294967296 = (n : Int) / 2 ^ k := by
    have := wI_bd (BitVec.ofNat 32 (n / 2 ^ k))
    rw [← e1] at this
    exact Int.emod_eq_of_lt this.1 this.2
  rw [e0, e1, wI_low]
  congr 1
  apply BitVec.eq_of_toNat_eq
  unfold bitW
  rw [BitVec.toNat_and, BitVec.toNat_ofNat, BitVec.toNat_ofNat, Nat.mod_eq_of_lt (a := n / 2 ^ k) (by omega)]
  have : n / 2 ^ k &&& 1 = n / 2 ^ k % 2 := Nat.and_two_pow_sub_one_eq_mod _ 1
  simp [this]
  omega

set_option maxRecDepth 100000 in
set_option maxHeartbeats 1000000 in
theorem run_any (r : W32) (a : Option Addr) (zs : List Int) (cap : Nat) (w : World) (hs : Seg w a zs) (hl : zs.length ≤ 9223372036854775807) :
    Calls Tryd.prog 79 #[.int .u32 (wI r), .slice a zs.length cap] w fun e w' => e = .returned (.int .u32 (wI (runW r zs))) ∧ w' = w := by
  go_enter Tryd.func79, Tryd.ntmps79
  go_wp2
  go_loopw [0, 5] (fun tr ti wr => ∃ k : Nat, k ≤ zs.length ∧ tr = .int .u32 (wI (runW r (zs.take k))) ∧ ti = .int .i64 k ∧ wr = w) (fun _ ti _ => zs.length - (intOf ti).toNat)
  case atStart => exact ⟨0, Nat.zero_le _, by simp [runW], rfl, rfl⟩
  case round =>
    obtain ⟨k, hk, rfl, rfl, rfl⟩ := hrel
    by_cases hlt : k < zs.length
    · have hlti : (k : Int) < (zs.length : Int) := by omega
      obtain ⟨b, off, rfl, hc⟩ := hs.at_ k hlt
      have hbd := hs.bd k
      have HT : Hid (runW r (zs.take (k + 1)) = takeW (runW r (zs.take k)) (zs.getD k 0)) := by
        show _ = _
        rw [take_snoc hlt, runW_snoc]
      generalize zs.getD k 0 = z at *
      generalize runW r (zs.take k) = q at *
      go_wp2
      go_loopw [0, 6] (fun tr ti w2 => ∃ j : Nat, j ≤ 8 ∧ tr = .int .u32 (wI (onN j (q ^^^ lowW z j))) ∧ ti = .int .i64 j ∧ w2 = wr) (fun _ ti _ => 8 - (intOf ti).toNat)
      case atStart => exact ⟨0, by decide, by simp [lowW, onN, Nat.mod_one], rfl, rfl⟩
      case round =>
        obtain ⟨j, hj, rfl, rfl, rfl⟩ := hrel
        by_cases hj8 : j < 8
        · have hj8' : (j : Int) < 8 := by omega
          have hb := bit_is z hbd.1 hbd.2 j
          have HS : Hid (on (onN j (q ^^^ lowW z j) ^^^ bitW z j) = onN (j + 1) (q ^^^ lowW z (j + 1))) := low_step q z hbd.1 hbd.2 j hj8
          have ho := bit_or z j
          go_wp2_with (go_at_call 94; refine (step_any _ _ _ ho).mono ?_; rintro e w' ⟨rfl, hw'⟩; subst w')
          go_roundw
          case rel => exact ⟨j + 1, by omega, by rw [HS.out], by go_num, trivial⟩
          case measure => simp [intOf]; omega
        · obtain rfl : j = 8 := by omega
          clear hj8
          have H8 : Hid (onN 8 (q ^^^ lowW z 8) = takeW q z) := by
            show _ = _
            unfold takeW lowW bW
            rw [Nat.mod_eq_of_lt (by omega)]
          go_wp2
          go_roundw
          case rel => exact ⟨k + 1, by omega, by rw [HT.out, H8.out], by go_num, trivial⟩
          case measure => simp [intOf]; omega
    · obtain rfl : k = zs.length := by omega
      have e1 : zs.take zs.length = zs := List.take_of_length_le (Nat.le_refl _)
      rw [e1]
      clear hlt e1
      go_wp2
      go_ret
      exact ⟨rfl, rfl⟩
end Go.Proofs.YteboaolflecibaaDoor
