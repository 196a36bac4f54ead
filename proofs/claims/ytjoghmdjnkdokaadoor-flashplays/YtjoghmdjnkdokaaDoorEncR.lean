
import Derived.Test.YtjoghmdjnkdokaaDoorProg
import Derived.Test.YtjoghmdjnkdokaaDoorEncMath
import Derived.Test.YtjoghmdjnkdokaaDoorSeg
import Derived.Test.YtjoghmdjnkdokaaDoorPush
import Derived.Test.YtjoghmdjnkdokaaDoorOwnSeg
import Derived.WalkKit
import Derived.WalkSpells
import Derived.WalkLawsBesides
namespace Go.Proofs.YtjoghmdjnkdokaaDoor
open Go.RowKit
set_option linter.unusedVariables false

theorem info_u8r : (Tryd.prog.info? 5).map (fun i => (i.zero, i.size, i.bytes)) = some (some (.int .u8 0), 1, 1) := by kernel_rfl

set_option maxRecDepth 100000 in
set_option maxHeartbeats 1000000 in
theorem rbytes_any (x : Int) (w : World) (hx0 : 0 ≤ x) (hx1 : x ≤ 18446744073709551615) :
    Calls Tryd.prog 62 #[.int .u64 x] w fun e w' => ∃ v, e = .returned v ∧ w'.ownsRow w.heap.size 5 1 v (encI x).length ((encI x).map (Value.int .u8)) ∧ Below w.heap.size w w' := by
  obtain ⟨i0, hi, hz0, hz1, hz2⟩ := info_parts info_u8r
  go_enter Tryd.func62, Tryd.ntmps62
  go_wp2
  go_loopw [0, 3] (fun t o wr => ∃ (pre : List Int) (f : Nat) (u : Int), t = .int .u64 u ∧ wr.ownsRow w.heap.size 5 1 o pre.length (pre.map (Value.int .u8)) ∧ encI x = pre ++ encL f u ∧ pre.length + f = 9 ∧ 0 ≤ u ∧ u < 2 * 128 ^ f ∧ Below w.heap.size w wr) (fun t _ _ => (intOf t).toNat)
  case atStart => exact ⟨[], 9, x, rfl, World.ownsRow_nil _ _ _ _, rfl, rfl, hx0, by rw [pow9]; omega, Below.refl _ _⟩
  case round =>
    obtain ⟨pre, f, u, rfl, hown2, he, hf, hu0, hu1, hb2⟩ := hrel
    have hu2 : u ≤ 18446744073709551615 := by
      have h9 : (128 : Int) ^ f ≤ 128 ^ 9 := pow128_mono (by omega)
      have := pow9
      omega
    have hszr := hb2.size
    by_cases h7 : 127 < u
    · obtain ⟨f, rfl⟩ : ∃ g, f = g + 1 := ⟨f - 1, by
        cases f with
        | zero => simp at hu1; omega
        | succ f => rfl⟩
      have h8 : 128 ≤ u := by omega
      have HN : Hid (encI x = (pre ++ [u % 128 + 128]) ++ encL f (u / 128)) := by
        show encI x = _
        rw [he]; simp only [encL, if_pos h7, List.append_assoc, List.singleton_append]
      have hu3 : u / 128 < 2 * 128 ^ f := by rw [Int.pow_succ] at hu1; omega
      clear he h7
      go_wp2_with (at_builtin; refine wpList_push rfl _ _ 22 rfl w.heap.size 5 i0 (.int .u8 0) 1 Tryd.underlying22 hi hz0 hz1 hz2 rfl wr (.int .u8 (u % 128 + 128)) rfl hown2 rfl rfl (by omega) (by omega) hszr ?_; intro v' w2 hown3 hg3 hb3)
      go_roundw
      case rel => exact ⟨pre ++ [u % 128 + 128], f, u / 128, rfl, by simpa using hown3, HN.out, by simp; omega, by omega, hu3, hb2.trans hb3⟩
      case measure => simp [intOf]; omega
    · have h8 : u < 128 := by omega
      have HN : Hid (encI x = pre ++ [u]) := by
        show encI x = _
        rw [he]
        cases f <;> simp [encL, h7]
      clear he h7
      go_wp2_with (at_builtin; refine wpList_push rfl _ _ 22 rfl w.heap.size 5 i0 (.int .u8 0) 1 Tryd.underlying22 hi hz0 hz1 hz2 rfl wr (.int .u8 u) rfl hown2 rfl rfl (by omega) (by omega) hszr ?_; intro v' w2 hown3 hg3 hb3)
      go_ret
      exact ⟨_, rfl, by rw [HN.out]; simpa using hown3, hb2.trans hb3⟩

set_option maxRecDepth 100000 in
set_option maxHeartbeats 1000000 in
theorem rencode_any (a : Option Addr) (zs : List Int) (cap : Nat) (w : World) (hs : Seg64 w a zs) (hl : zs.length ≤ 8796093022208) :
    Calls Tryd.prog 61 #[.slice a zs.length cap] w fun e w' => ∃ v, e = .returned v ∧ w'.ownsRow w.heap.size 5 1 v (encA zs).length ((encA zs).map (Value.int .u8)) ∧ Below w.heap.size w w' := by
  obtain ⟨i0, hi, hz0, hz1, hz2⟩ := info_parts info_u8r
  go_enter Tryd.func61, Tryd.ntmps61
  go_wp2
  go_loopw [3, 8] (fun o i wr => ∃ k : Nat, k ≤ zs.length ∧ i = .int .i64 k ∧ wr.ownsRow w.heap.size 5 1 o (encA (zs.take k)).length ((encA (zs.take k)).map (Value.int .u8)) ∧ Below w.heap.size w wr) (fun _ i _ => zs.length - (intOf i).toNat)
  case atStart => exact ⟨0, Nat.zero_le _, rfl, World.ownsRow_nil _ _ _ _, Below.refl _ _⟩
  case round =>
    obtain ⟨k, hk, rfl, hown, hb⟩ := hrel
    have hle := encA_take_len zs k
    by_cases hlt : k < zs.length
    · have hsr := hs.old hb
      obtain ⟨b, off, rfl, hcell⟩ := hsr.at_ k hlt
      have hx := hs.bd k
      have HT : Hid (encA (zs.take (k + 1)) = encA (zs.take k) ++ encI (zs.getD k 0)) := encA_take zs k hlt
      have hlen := encI_len (zs.getD k 0)
      have hszr := hb.size
      have hbd := encI_bd (zs.getD k 0) hx.1 hx.2
      generalize zs.getD k 0 = x at *
      generalize encA (zs.take k) = E at *
      go_wp2_with fail
      refine (rbytes_any x _ hx.1 hx.2).mono ?_
      rintro e w1 ⟨v1, rfl, hown1, hb1⟩
      obtain ⟨_, a1, c1, rfl, hseg1, hblk, hc1, _⟩ := own_seg hown1 (M := 255) (by decide) hbd
      have hn1 : a1 = none → c1 = 0 := by
        intro e
        subst e
        rcases hown1.2 with ⟨h0, _⟩ | ⟨g, cp, cur, h0, _⟩
        · simp at h0; exact h0.2
        · simp at h0
      have hownA := own_below hown hb1
      have hz1' := hb1.size
      clear hown1 hblk hsr hcell
      go_wp2_with (at_builtin; refine wpList_append_seg rfl _ _ 22 rfl w.heap.size 5 i0 (.int .u8 0) 1 Tryd.underlying22 hi hz0 hz1 hz2 rfl hownA hseg1 hn1 rfl rfl (by omega) (by omega) (by omega) ?_; intro v2 w2 hown2 hg2 hb2)
      go_roundw
      case rel => exact ⟨k + 1, by omega, by go_num, by rw [HT.out]; simpa using hown2, hb.trans ((hb1.mono hszr).trans hb2)⟩
      case measure => simp [intOf]; omega
    · obtain rfl : k = zs.length := by omega
      have HT : Hid (zs.take zs.length = zs) := List.take_length
      rw [HT.out] at hown
      clear hle hlt
      go_wp2
      go_ret
      exact ⟨_, rfl, hown, hb⟩
end Go.Proofs.YtjoghmdjnkdokaaDoor
