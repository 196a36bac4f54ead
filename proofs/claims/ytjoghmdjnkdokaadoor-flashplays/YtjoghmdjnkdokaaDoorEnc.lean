
import Derived.Test.YtjoghmdjnkdokaaDoorProg
import Derived.Test.YtjoghmdjnkdokaaDoorLen
import Derived.Test.YtjoghmdjnkdokaaDoorEncMath
import Derived.Test.YtjoghmdjnkdokaaDoorSeg
import Derived.Test.YtjoghmdjnkdokaaDoorPush
import Derived.WalkKit
import Derived.WalkSpells
import Derived.WalkLawsBesides
namespace Go.Proofs.YtjoghmdjnkdokaaDoor
open Go.RowKit
set_option linter.unusedVariables false

set_option maxRecDepth 100000 in
set_option maxHeartbeats 400000 in
theorem size_any (a : Option Addr) (zs : List Int) (cap : Nat) (w : World) (hs : Seg64 w a zs) (hl : zs.length ≤ 17592186044416) :
    Calls Tryd.prog 73 #[.slice a zs.length cap] w fun e w' => e = .returned (.int .i64 (encA zs).length) ∧ w' = w := by
  go_enter Tryd.func73, Tryd.ntmps73
  go_wp2
  go_loop [3, 8] (fun n i => ∃ k : Nat, k ≤ zs.length ∧ i = .int .i64 k ∧ n = .int .i64 (encA (zs.take k)).length) (fun _ i => zs.length - (intOf i).toNat)
  case atStart => exact ⟨0, Nat.zero_le _, rfl, rfl⟩
  case round =>
    obtain ⟨k, hk, rfl, rfl⟩ := hrel
    have hle := encA_take_len zs k
    by_cases hlt : k < zs.length
    · obtain ⟨b, off, rfl, hcell⟩ := hs.at_ k hlt
      have hx := hs.bd k
      have HT : Hid (encA (zs.take (k + 1)) = encA (zs.take k) ++ encI (zs.getD k 0)) := encA_take zs k hlt
      have HS : Hid (((Lib.bitLen (bits .or .u64 (zs.getD k 0) 1).toNat : Int) + 7 - 1) / 7 = ((encI (zs.getD k 0)).length : Int)) := size_len _ hx.1 hx.2
      have ho : 0 ≤ bits .or .u64 (zs.getD k 0) 1 ∧ bits .or .u64 (zs.getD k 0) 1 ≤ 18446744073709551615 := by rw [or1 _ hx.1 hx.2]; omega
      have hlen := encI_len (zs.getD k 0)
      have hbl : Lib.bitLen (bits .or .u64 (zs.getD k 0) 1).toNat ≤ 64 := Lib.bitLen_le _ 64 (by decide) (by omega)
      generalize zs.getD k 0 = x at *
      go_wp2_with (go_at_call 83; refine (len64_any _ _ (by omega) (by omega)).mono ?_; rintro e w' ⟨rfl, rfl⟩)
      go_round
      case rel => exact ⟨k + 1, by omega, by go_num, by rw [HT.out, List.length_append, HS.out]; go_num⟩
      case measure => simp [intOf]; omega
    · obtain rfl : k = zs.length := by omega
      clear hle hlt
      go_wp2
      go_ret
      exact ⟨rfl, rfl⟩

theorem info_u8 : (Tryd.prog.info? 5).map (fun i => (i.zero, i.size, i.bytes)) = some (some (.int .u8 0), 1, 1) := by kernel_rfl

set_option maxRecDepth 100000 in
set_option maxHeartbeats 1000000 in
theorem encode_any (a : Option Addr) (zs : List Int) (cap : Nat) (w : World) (hs : Seg64 w a zs) (hl : zs.length ≤ 8796093022208) :
    Calls Tryd.prog 52 #[.slice a zs.length cap] w fun e w' => ∃ v, e = .returned v ∧ w'.ownsRow w.heap.size 5 1 v (encA zs).length ((encA zs).map (Value.int .u8)) ∧ Below w.heap.size w w' := by
  obtain ⟨i0, hi, hz0, hz1, hz2⟩ := info_parts info_u8
  have hsz := encA_len zs
  go_enter Tryd.func52, Tryd.ntmps52
  go_wp2_with (first
    | (go_at_call 73; refine (size_any a zs cap _ hs (by omega)).mono ?_; rintro e w' ⟨rfl, hw'⟩; subst w')
    | (at_make; refine wpList_make_own _ rfl _ _ 22 rfl w.heap.size 5 i0 (.int .u8 0) 1 Tryd.underlying22 hi hz0 hz1 .i64 .i64 _ (encA zs).length rfl rfl rfl (by rw [hz2]; omega) (by unfold maxLen; omega) (Nat.le_refl _) ?_; intro w1 hown1 hgrow1))
  have hsz1 := hgrow1.size
  go_loopw [3, 11] (fun o i wr => ∃ k : Nat, k ≤ zs.length ∧ i = .int .i64 k ∧ wr.ownsRow w.heap.size 5 1 o (encA (zs.take k)).length ((encA (zs.take k)).map (Value.int .u8)) ∧ Below w.heap.size w wr) (fun _ i _ => zs.length - (intOf i).toNat)
  case atStart => exact ⟨0, Nat.zero_le _, rfl, hown1, (Below.refl _ _).grown hgrow1 (Nat.le_refl _) (by intro k e; cases e)⟩
  case round =>
    obtain ⟨k, hk, rfl, hown, hb⟩ := hrel
    have hle := encA_take_len zs k
    by_cases hlt : k < zs.length
    · have hsr := hs.old hb
      obtain ⟨b, off, rfl, hcell⟩ := hsr.at_ k hlt
      have hx := hs.bd k
      have HT : Hid (encA (zs.take (k + 1)) = encA (zs.take k) ++ encI (zs.getD k 0)) := encA_take zs k hlt
      have hlen := encI_len (zs.getD k 0)
      generalize zs.getD k 0 = x at *
      go_wp2
      obtain ⟨wo, rfl⟩ : ∃ wo : World, wo = wr := ⟨_, rfl⟩
      generalize encA (zs.take k) = E at *
      go_loopw [3, 5] (fun o t wr => ∃ (pre : List Int) (f : Nat) (u : Int), t = .int .u64 u ∧ wr.ownsRow w.heap.size 5 1 o (E ++ pre).length ((E ++ pre).map (Value.int .u8)) ∧ encI x = pre ++ encL f u ∧ pre.length + f = 9 ∧ 0 ≤ u ∧ u < 2 * 128 ^ f ∧ Below w.heap.size w wr) (fun _ t _ => (intOf t).toNat)
      case atStart => exact ⟨[], 9, x, rfl, by simpa using hown, rfl, rfl, hx.1, by rw [pow9]; omega, hb⟩
      case round =>
        obtain ⟨pre, f, u, rfl, hown2, he, hf, hu0, hu1, hb2⟩ := hrel
        have HE : Hid (encI x = pre ++ encL f u) := he
        have hu2 : u ≤ 18446744073709551615 := by
          have h9 : (128 : Int) ^ f ≤ 128 ^ 9 := pow128_mono (by omega)
          have := pow9
          omega
        have hszr := hb2.size
        by_cases h7 : 127 < u
        · obtain ⟨f, rfl⟩ : ∃ g, f = g + 1 := ⟨f - 1, by
            cases f with
            | zero => simp at hu1; omega
            | succ f => rfl⟩
          have e1 := enc_byte u hu0 hu2
          have e2 := or128 (u % 128) (by omega) (by omega)
          have HN : Hid (encI x = (pre ++ [u % 128 + 128]) ++ encL f (u / 128)) := by
            show encI x = _
            rw [he]; simp only [encL, if_pos h7, List.append_assoc, List.singleton_append]
          have hu3 : u / 128 < 2 * 128 ^ f := by rw [Int.pow_succ] at hu1; omega
          clear he
          go_wp2_with (at_builtin; refine wpList_push rfl _ _ 22 rfl w.heap.size 5 i0 (.int .u8 0) 1 Tryd.underlying22 hi hz0 hz1 hz2 rfl wr (.int .u8 (u % 128 + 128)) rfl hown2 rfl rfl (by simp; omega) (by simp; omega) hszr ?_; intro v' w2 hown3 hg3 hb3)
          go_roundw
          case rel => exact ⟨pre ++ [u % 128 + 128], f, u / 128, rfl, by simpa [← Nat.add_assoc] using hown3, HN.out, by simp; omega, by omega, hu3, hb2.trans hb3⟩
          case measure => simp [intOf]; omega
        · have HN : Hid (encI x = pre ++ [u]) := by
            show encI x = _
            rw [he]
            cases f <;> simp [encL, h7]
          clear he
          go_wp2_with (at_builtin; refine wpList_push rfl _ _ 22 rfl w.heap.size 5 i0 (.int .u8 0) 1 Tryd.underlying22 hi hz0 hz1 hz2 rfl wr (.int .u8 u) rfl hown2 rfl rfl (by simp; omega) (by simp; omega) hszr ?_; intro v' w2 hown3 hg3 hb3)
          go_roundw
          case rel => exact ⟨k + 1, by omega, by go_num, by rw [HT.out, HN.out]; simpa [← Nat.add_assoc] using hown3, hb2.trans hb3⟩
          case measure => simp [intOf]; omega
    · obtain rfl : k = zs.length := by omega
      have HT : Hid (zs.take zs.length = zs) := List.take_length
      rw [HT.out] at hown
      clear hle hlt
      go_wp2
      go_ret
      exact ⟨_, rfl, hown, hb⟩
end Go.Proofs.YtjoghmdjnkdokaaDoor
