import Derived.Test.YteboaolflecibaaDoorProg
import Derived.Test.YteboaolflecibaaDoorFix
import Derived.WalkKit
import Derived.WalkSpells
import Derived.WalkLawsBesides
namespace Go.Proofs.YteboaolflecibaaDoor
open Go.RowKit
set_option linter.unusedVariables false
theorem div_next (v : Int) (k : Nat) : v / 2 ^ (8 * k) / 256 = v / 2 ^ (8 * (k + 1)) := by
  rw [Int.ediv_ediv_of_nonneg (Int.le_of_lt (Int.pow_pos (by decide))), show 8 * (k + 1) = 8 * k + 8 by omega, Int.pow_add]
  rfl
theorem div_bd (v : Int) (k : Nat) (h0 : 0 ≤ v) (h1 : v ≤ 18446744073709551615) : 0 ≤ v / 2 ^ (8 * k) ∧ v / 2 ^ (8 * k) ≤ 18446744073709551615 := by
  have hp : (0 : Int) < 2 ^ (8 * k) := Int.pow_pos (by decide)
  refine ⟨Int.ediv_nonneg h0 (Int.le_of_lt hp), ?_⟩
  have := Int.ediv_le_self (2 ^ (8 * k)) h0
  omega

set_option maxRecDepth 100000 in
set_option maxHeartbeats 1000000 in
theorem rfixed_any (v : Int) (s : Nat) (w : World) (h1 : 1 ≤ s) (h8 : s ≤ 8) (hv0 : 0 ≤ v) (hv1 : v ≤ 18446744073709551615) :
    Calls Tryd.prog 78 #[.int .u64 v, .int .i64 s] w fun e w' => Below w.heap.size w w' ∧
      ((v / 2 ^ (8 * s) ≠ 0 ∧ e = .returned (.tuple #[.slice none 0 0, .int .i64 10])) ∨
       (v / 2 ^ (8 * s) = 0 ∧ ∃ b, e = .returned (.tuple #[b, .int .i64 0]) ∧ w'.ownsRow w.heap.size 5 1 b s ((fixL s v).map (Value.int .u8)))) := by
  have a1 : decide ((s : Int) < 1) = false := by simp; omega
  obtain ⟨i0, hi, hz0, hz1, hz2⟩ := info_parts info_u8f
  go_enter Tryd.func78, Tryd.ntmps78
  go_wp2
  go_loopw [0, 6, 7] (fun t b i wr => ∃ k : Nat, k ≤ s ∧ i = .int .i64 k ∧ t = .int .u64 (v / 2 ^ (8 * k)) ∧ wr.ownsRow w.heap.size 5 1 b k ((fixL k v).map (Value.int .u8)) ∧ Below w.heap.size w wr) (fun _ _ i _ => s - (intOf i).toNat)
  case atStart => exact ⟨0, Nat.zero_le _, rfl, by simp, World.ownsRow_nil _ _ _ _, Below.refl _ _⟩
  case round =>
    obtain ⟨k, hk, rfl, rfl, hown, hb⟩ := hrel
    have hbd := div_bd v k hv0 hv1
    have HN : Hid (v / 2 ^ (8 * k) / 256 = v / 2 ^ (8 * (k + 1))) := div_next v k
    have HF : Hid (fixL (k + 1) v = fixL k v ++ [v / 2 ^ (8 * k) % 256]) := fixL_snoc k v
    have hszr := hb.size
    by_cases hlt : k < s
    · have hlti : (k : Int) < (s : Int) := by omega
      generalize hq : v / 2 ^ (8 * k) = q at *
      clear hq
      go_wp2_with (at_builtin; refine wpList_push rfl _ _ 28 rfl w.heap.size 5 i0 (.int .u8 0) 1 Tryd.underlying28 hi hz0 hz1 hz2 rfl wr (.int .u8 (q % 256)) rfl hown rfl rfl (by omega) (by omega) hszr ?_; intro v' w2 hown3 hg3 hb3)
      go_roundw
      case rel => exact ⟨k + 1, by omega, by go_num, by rw [HN.out], by rw [HF.out, List.map_append]; exact hown3, hb.trans hb3⟩
      case measure => simp [intOf]; omega
    · obtain rfl : k = s := by omega
      clear hlt HN HF
      by_cases hr : v / 2 ^ (8 * k) = 0
      · rw [hr]
        go_wp2
        go_ret2
        exact ⟨hb, Or.inr ⟨hr, _, rfl, hown⟩⟩
      · have hpos : 0 < v / 2 ^ (8 * k) := by omega
        generalize hq : v / 2 ^ (8 * k) = q at *
        have HQ : Hid (v / 2 ^ (8 * k) = q) := hq
        clear hq
        go_wp2
        go_ret2
        exact ⟨hb, Or.inl ⟨by rw [HQ.out]; exact hr, rfl⟩⟩

end Go.Proofs.YteboaolflecibaaDoor
