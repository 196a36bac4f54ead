import Derived.Test.YtmjlpfmacblcpaaDoorProg
import Derived.Test.YtmjlpfmacblcpaaDoorPush
import Derived.Test.YtmjlpfmacblcpaaDoorOwnSeg
import Derived.WalkKit
import Derived.WalkSpells
import Derived.WalkLawsBesides
namespace Go.Proofs.YtmjlpfmacblcpaaDoor
open Go.RowKit
set_option linter.unusedVariables false
/-- So many bytes of a number, the least first. -/
def fixL : Nat → Int → List Int
  | 0, _ => []
  | n + 1, v => v % 256 :: fixL n (v / 256)
theorem fixL_len : ∀ (n : Nat) (v : Int), (fixL n v).length = n
  | 0, _ => rfl
  | n + 1, v => by simp [fixL, fixL_len n]
theorem fixL_bd : ∀ (n : Nat) (v : Int), ∀ z ∈ fixL n v, 0 ≤ z ∧ z ≤ 255
  | 0, _ => by simp [fixL]
  | n + 1, v => by
    intro z hz
    simp [fixL] at hz
    rcases hz with rfl | hz
    · omega
    · exact fixL_bd n _ z hz
theorem info_u8f : (Tryd.prog.info? 5).map (fun i => (i.zero, i.size, i.bytes)) = some (some (.int .u8 0), 1, 1) := by kernel_rfl

set_option maxRecDepth 100000 in
theorem isFixed_any (s : Int) (w : World) : Calls Tryd.prog 109 #[.int .i64 s] w fun e w' => e = .returned (.bool (decide (1 ≤ s ∧ s ≤ 8))) ∧ w' = w := by
  by_cases h1 : 1 ≤ s
  · by_cases h8 : s ≤ 8
    · go_enter Tryd.func109, Tryd.ntmps109
      go_wp2
      go_ret
      exact ⟨by simp [h1, h8], rfl⟩
    · have h8' : 8 < s := by omega
      go_enter Tryd.func109, Tryd.ntmps109
      go_wp2
      go_ret
      exact ⟨by simp; omega, rfl⟩
  · have h1' : s < 1 := by omega
    go_enter Tryd.func109, Tryd.ntmps109
    go_wp2
    go_ret
    exact ⟨by simp; omega, rfl⟩

theorem fixL_snoc : ∀ (k : Nat) (v : Int), fixL (k + 1) v = fixL k v ++ [v / 2 ^ (8 * k) % 256]
  | 0, v => by simp [fixL]
  | k + 1, v => by
    have ih := fixL_snoc k (v / 256)
    have e : v / 256 / 2 ^ (8 * k) = v / 2 ^ (8 * (k + 1)) := by
      rw [Int.ediv_ediv_of_nonneg (by decide), show 8 * (k + 1) = 8 + 8 * k by omega, Int.pow_add]
      rfl
    rw [show fixL (k + 1 + 1) v = v % 256 :: fixL (k + 1) (v / 256) from rfl, ih, e]
    rfl
theorem zeros_set (s k : Nat) (v x : Int) (hk : k < s) (hx : x = v / 2 ^ (8 * k) % 256) :
    (((fixL k v ++ List.replicate (s - k) 0).map (Value.int .u8)).set k (.int .u8 x)) = (fixL (k + 1) v ++ List.replicate (s - (k + 1)) 0).map (Value.int .u8) := by
  rw [← List.map_set]
  congr 1
  obtain ⟨m, hm⟩ : ∃ m, s - k = m + 1 := ⟨s - k - 1, by omega⟩
  have hm2 : s - (k + 1) = m := by omega
  rw [hm, hm2, List.replicate_succ, List.set_append, if_neg (by rw [fixL_len]; omega), fixL_len, Nat.sub_self, List.set_cons_zero, fixL_snoc, hx]
  simp

set_option maxRecDepth 100000 in
set_option maxHeartbeats 400000 in
theorem fixed_ok (v : Int) (s : Nat) (w : World) (h1 : 1 ≤ s) (h8 : s ≤ 8) (hv0 : 0 ≤ v) (hv1 : v ≤ 18446744073709551615) (hr : v / 2 ^ (8 * s) = 0) :
    Calls Tryd.prog 83 #[.int .u64 v, .int .i64 s] w fun e w' => e = .returned (.tuple #[.slice (some ⟨w.heap.size, 0, none⟩) s s, .int .i64 0]) ∧
      w'.ownsRow w.heap.size 5 1 (.slice (some ⟨w.heap.size, 0, none⟩) s s) s ((fixL s v).map (Value.int .u8)) ∧ Below w.heap.size w w' := by
  have hd : decide (1 ≤ (s : Int) ∧ (s : Int) ≤ 8) = true := by simp; omega
  have hn : (v / 2 ^ (8 * s) != 0) = false := by rw [hr]; rfl
  clear hr
  obtain ⟨i0, hi, hz0, hz1, hz2⟩ := info_parts info_u8f
  go_enter Tryd.func83, Tryd.ntmps83
  go_wp2_with (first
    | (go_at_call 109; refine (isFixed_any _ _).mono ?_; rintro e w' ⟨rfl, hw'⟩; subst w')
    | (at_make; refine wpList_make_full _ rfl _ _ 22 rfl w.heap.size 5 i0 (.int .u8 0) 1 Tryd.underlying22 hi hz0 hz1 .i64 .i64 _ _ s rfl rfl rfl rfl (by rw [hz2]; omega) (by unfold maxLen; omega) (Nat.le_refl _) ?_; intro w1 hown1 hgrow1))
  have hsz1 := hgrow1.size
  rw [Nat.mul_one, show (Value.int IntKind.u8 0).cells = #[.int .u8 0] from rfl, toList_madeCells_one] at hown1
  go_loopw [20] (fun i wr => ∃ k : Nat, k ≤ s ∧ i = .int .i64 k ∧ wr.ownsRow w.heap.size 5 1 (.slice (some ⟨w.heap.size, 0, none⟩) s s) s ((fixL k v ++ List.replicate (s - k) 0).map (Value.int .u8)) ∧ Below w.heap.size w wr) (fun i _ => s - (intOf i).toNat)
  case atStart => exact ⟨0, Nat.zero_le _, rfl, by simpa [fixL] using hown1, (Below.refl _ _).grown hgrow1 (Nat.le_refl _) (by intro k e; cases e)⟩
  case round =>
    obtain ⟨k, hk, rfl, hown, hb⟩ := hrel
    by_cases hlt : k < s
    · have hlti : (k : Int) < (s : Int) := by omega
      have hc := hown.cellAt k (by omega)
      have hf := hown.frozenAt k
      have hst := hown.stored k (.int .u8 (v / 2 ^ (8 * k) % 256))
      rw [zeros_set s k v _ hlt rfl] at hst
      have hcell : ∃ u, wr.cell? ⟨w.heap.size, k, none⟩ = some u := by
        rw [hc]
        exact ⟨_, List.getElem?_eq_getElem (by simp [fixL_len]; omega)⟩
      obtain ⟨u, hu⟩ := hcell
      clear hc hown1 hgrow1
      go_wp2
      go_roundw
      case rel => exact ⟨k + 1, by omega, by go_num, hst.1, hb.trans ((Below.refl _ _).grown hst.2 hb.size (by intro j e; cases e; exact Nat.le_refl _))⟩
      case measure => simp [intOf]; omega
    · obtain rfl : k = s := by omega
      clear hlt
      go_wp2
      go_ret2
      exact ⟨rfl, by simpa using hown, hb⟩
end Go.Proofs.YtmjlpfmacblcpaaDoor
