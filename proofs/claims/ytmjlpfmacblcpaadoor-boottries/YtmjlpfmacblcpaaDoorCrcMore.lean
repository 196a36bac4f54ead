import Derived.Test.YtmjlpfmacblcpaaDoorCrcTake
namespace Go.Proofs.YtmjlpfmacblcpaaDoor
open Go.RowKit
set_option linter.unusedVariables false
set_option linter.unusedSimpArgs false
theorem u32_unsigned : IntKind.u32.signed = false := rfl
theorem wI_not (a : W32) : bits .xor .u32 IntKind.u32.max (wI a) = wI (~~~ a) := by
  rw [show IntKind.u32.max = wI (~~~ 0#32) from by decide, wI_xor]
  congr 1

theorem take_snoc {zs : List Int} {k : Nat} (hk : k < zs.length) : zs.take (k + 1) = zs.take k ++ [zs.getD k 0] := by
  rw [List.take_add_one]
  simp [List.getD, hk]

set_option maxRecDepth 100000 in
set_option maxHeartbeats 400000 in
theorem more_any (c : W32) (a : Option Addr) (zs : List Int) (cap : Nat) (w : World) (h : Tab w) (hs : Seg w a zs) (hl : zs.length ≤ 9223372036854775807) :
    Calls Tryd.prog 110 #[.int .u32 (wI c), .slice a zs.length cap] w fun e w' => e = .returned (.int .u32 (wI (~~~ (runW (~~~ c) zs)))) ∧ w' = w := by
  have hsg := u32_unsigned
  have hn := wI_not c
  go_enter Tryd.func110, Tryd.ntmps110
  go_wp2
  clear hn
  go_loopw [5, 12] (fun tr ti wr => ∃ k : Nat, k ≤ zs.length ∧ tr = .int .u32 (wI (runW (~~~ c) (zs.take k))) ∧ ti = .int .i64 k ∧ wr = w) (fun _ ti _ => zs.length - (intOf ti).toNat)
  case atStart => exact ⟨0, Nat.zero_le _, by simp [runW], rfl, rfl⟩
  case round =>
    obtain ⟨k, hk, rfl, rfl, rfl⟩ := hrel
    by_cases hlt : k < zs.length
    · have hlti : (k : Int) < (zs.length : Int) := by omega
      obtain ⟨b, off, rfl, hc⟩ := hs.at_ k hlt
      have hbd := hs.bd k
      have HT : Hid (runW (~~~ c) (zs.take (k + 1)) = takeW (runW (~~~ c) (zs.take k)) (zs.getD k 0)) := by
        show _ = _
        rw [take_snoc hlt, runW_snoc]
      generalize zs.getD k 0 = z at *
      go_wp2_with (go_at_call 124; refine (take_any _ _ _ h (by omega) (by omega)).mono ?_; rintro e w' ⟨rfl, hw'⟩; subst w')
      go_roundw
      case rel => exact ⟨k + 1, by omega, by rw [HT.out], by go_num, trivial⟩
      case measure => simp [intOf]; omega
    · obtain rfl : k = zs.length := by omega
      have e1 : zs.take zs.length = zs := List.take_of_length_le (Nat.le_refl _)
      rw [e1]
      clear hlt e1
      have hn := wI_not (runW (~~~ c) zs)
      go_wp2
      go_ret
      exact ⟨rfl, rfl⟩
end Go.Proofs.YtmjlpfmacblcpaaDoor
