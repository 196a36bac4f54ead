import Derived.Test.YtnofaodahcfldabDoorCrcMore
import Derived.Test.YtnofaodahcfldabDoorCrcLe
import Derived.Laws.Rows
import Derived.Handy
namespace Go.Proofs.YtnofaodahcfldabDoor
open Go.RowKit
set_option linter.unusedVariables false
set_option linter.unusedSimpArgs false

theorem wI_shl1 (a : W32) : wI a * (2 : Int) % (4294967296 : Int) = wI (a <<< 1) := by
  unfold wI
  rw [BitVec.toNat_shiftLeft, Nat.shiftLeft_eq]
  omega
theorem back_pos (a : W32) (h : a.getLsbD 31 = true) : bits .or .u32 (bits .xor .u32 (wI a) 3988292384 * 2 % 4294967296) 1 = wI (back a) := by
  rw [show (3988292384 : Int) = wI genW from rfl, wI_xor, wI_shl1, show (1 : Int) = wI 1#32 from rfl, wI_or]
  unfold back
  rw [h, if_pos rfl]
theorem back_neg (a : W32) (h : a.getLsbD 31 = false) : wI a * 2 % 4294967296 = wI (back a) := by
  rw [wI_shl1]
  unfold back
  rw [h]
  rfl
theorem wI_top (a : W32) : (bits .and .u32 (wI a) 2147483648 != 0) = a.getLsbD 31 := wI_bit a 31 (by decide)
set_option maxHeartbeats 400000 in
theorem back_any (a : W32) (w : World) : Calls Tryd.prog 18 #[.int .u32 (wI a)] w fun e w' => e = .returned (.int .u32 (wI (back a))) ∧ w' = w := by
  have b := wI_bd a
  have hc := wI_top a
  cases h : a.getLsbD 31
  · have HL : Hid (wI a * 2 % 4294967296 = wI (back a)) := back_neg a h
    rw [h] at hc
    clear h
    go_enter Tryd.func18, Tryd.ntmps18
    go_wp2
    go_ret
    exact ⟨ret_u32 HL.out, rfl⟩
  · have HL : Hid (bits .or .u32 (bits .xor .u32 (wI a) 3988292384 * 2 % 4294967296) 1 = wI (back a)) := back_pos a h
    rw [h] at hc
    clear h
    go_enter Tryd.func18, Tryd.ntmps18
    go_wp2
    go_ret
    exact ⟨ret_u32 HL.out, rfl⟩
def tailW (c want : W32) : W32 := backN 32 (~~~ want) ^^^ ~~~ c
def tailV (c want : W32) : Value := .agg ((leL (tailW c want)).map (Value.int .u8)).toArray

set_option maxHeartbeats 1000000 in
theorem tail_any (c d : W32) (w : World) : Calls Tryd.prog 9 #[.int .u32 (wI c), .int .u32 (wI d)] w fun e w' => e = .returned (tailV c d) ∧ Below w.heap.size w w' := by
  have hsg := u32_unsigned
  have hn := wI_not d
  go_enter Tryd.func9, Tryd.ntmps9
  go_wp2
  clear hn
  go_loopw [5, 8] (fun tr ti wr => ∃ k : Nat, k ≤ 32 ∧ tr = .int .u32 (wI (backN k (~~~ d))) ∧ ti = .int .i64 k ∧ wr = w.alloc (.cells #[.int .u8 0, .int .u8 0, .int .u8 0, .int .u8 0] 23)) (fun _ ti _ => 32 - (intOf ti).toNat)
  case atStart => exact ⟨0, Nat.zero_le _, rfl, rfl, rfl⟩
  case round =>
    obtain ⟨k, hk, rfl, rfl, rfl⟩ := hrel
    by_cases hlt : k < 32
    · have hlti : (k : Int) < 32 := by omega
      go_wp2_with (go_at_call 18; refine (back_any _ _).mono ?_; rintro e w' ⟨rfl, hw'⟩; subst w')
      go_roundw
      case rel => exact ⟨k + 1, by omega, rfl, by go_num, trivial⟩
      case measure => simp [intOf]; omega
    · obtain rfl : k = 32 := by omega
      clear hlt
      have hn := wI_not c
      have hx : bits .xor .u32 (wI (backN 32 (~~~ d))) (wI (~~~ c)) = wI (tailW c d) := wI_xor _ _
      have bd := wI_bd (tailW c d)
      go_wp2
      go_returns
      exact ⟨rfl, (Below.refl _ _).alloc (Nat.le_refl _) _⟩

set_option maxHeartbeats 1000000 in
theorem rtail_any (c d : W32) (w : World) : Calls Tryd.prog 10 #[.int .u32 (wI c), .int .u32 (wI d)] w fun e w' => e = .returned (tailV c d) ∧ Below w.heap.size w w' := by
  have hsg := u32_unsigned
  have hn := wI_not d
  go_enter Tryd.func10, Tryd.ntmps10
  go_wp2
  clear hn
  go_loopw [5, 6] (fun tr ti wr => ∃ k : Nat, k ≤ 32 ∧ tr = .int .u32 (wI (backN k (~~~ d))) ∧ ti = .int .i64 k ∧ wr = w.alloc (.cells #[.int .u8 0, .int .u8 0, .int .u8 0, .int .u8 0] 23)) (fun _ ti _ => 32 - (intOf ti).toNat)
  case atStart => exact ⟨0, Nat.zero_le _, rfl, rfl, rfl⟩
  case round =>
    obtain ⟨k, hk, rfl, rfl, rfl⟩ := hrel
    by_cases hlt : k < 32
    · have hlti : (k : Int) < 32 := by omega
      have hc := wI_top (backN k (~~~ d))
      have bd := wI_bd (backN k (~~~ d))
      cases h : (backN k (~~~ d)).getLsbD 31
      · have HL : Hid (wI (backN k (~~~ d)) * 2 % 4294967296 = wI (backN (k + 1) (~~~ d))) := back_neg _ h
        rw [h] at hc
        clear h
        go_wp2
        go_roundw
        case rel => exact ⟨k + 1, by omega, by rw [HL.out], by go_num, trivial⟩
        case measure => simp [intOf]; omega
      · have HL : Hid (bits .or .u32 (bits .xor .u32 (wI (backN k (~~~ d))) 3988292384 * 2 % 4294967296) 1 = wI (backN (k + 1) (~~~ d))) := back_pos _ h
        rw [h] at hc
        clear h
        go_wp2
        go_roundw
        case rel => exact ⟨k + 1, by omega, by rw [HL.out], by go_num, trivial⟩
        case measure => simp [intOf]; omega
    · obtain rfl : k = 32 := by omega
      clear hlt
      have hn := wI_not c
      have hx : bits .xor .u32 (wI (backN 32 (~~~ d))) (wI (~~~ c)) = wI (tailW c d) := wI_xor _ _
      have bd := wI_bd (tailW c d)
      go_wp2
      go_returns
      exact ⟨rfl, (Below.refl _ _).alloc (Nat.le_refl _) _⟩

theorem tail_more (c d : W32) : ~~~ (runW (~~~ c) (leL (tailW c d))) = d := by
  rw [leW]
  unfold tailW
  have e : ~~~ c ^^^ (backN 32 (~~~ d) ^^^ ~~~ c) = backN 32 (~~~ d) := by
    rw [BitVec.xor_comm, BitVec.xor_assoc, BitVec.xor_self, BitVec.xor_zero]
  rw [e, onN_backN, not_not]
end Go.Proofs.YtnofaodahcfldabDoor
