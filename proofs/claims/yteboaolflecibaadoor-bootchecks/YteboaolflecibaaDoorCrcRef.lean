import Derived.Test.YteboaolflecibaaDoorCrcWord
import Derived.Laws.BitsLemmas
namespace Go.Proofs.YteboaolflecibaaDoor
open Go.RowKit
set_option linter.unusedVariables false
set_option linter.unusedSimpArgs false
theorem wI_low (a : W32) : bits .and .u32 (wI a) 1 = wI (a &&& 1#32) := wI_and a 1#32
theorem wI_eq (a b : W32) : (wI a == wI b) = (a == b) := by
  rw [Bool.eq_iff_iff, beq_iff_eq, beq_iff_eq]
  exact ⟨wI_inj, fun h => by rw [h]⟩
theorem wI_low1 (a : W32) : (bits .and .u32 (wI a) 1 == 1) = a.getLsbD 0 := by
  rw [wI_low, show (1 : Int) = wI 1#32 from rfl, wI_eq]
  have h := and_two a 0 (by decide)
  rw [show BitVec.twoPow 32 0 = 1#32 from rfl] at h
  rw [← h]
  have e : (a &&& 1#32) = BitVec.ofNat 32 (a.toNat % 2) := by
    apply BitVec.eq_of_toNat_eq
    have : a.toNat &&& 1 = a.toNat % 2 := Nat.and_two_pow_sub_one_eq_mod _ 1
    simp [this]
    omega
  rw [e]
  rcases Nat.mod_two_eq_zero_or_one a.toNat with h | h <;> rw [h] <;> decide

set_option maxRecDepth 100000 in
/-- The register behind one more bit. -/
theorem step_any (a c : W32) (w : World) (hc : c = 0#32 ∨ c = 1#32) : Calls Tryd.prog 94 #[.int .u32 (wI a), .int .u32 (wI c)] w fun e w' => e = .returned (.int .u32 (wI (on (a ^^^ c)))) ∧ w' = w := by
  have b := wI_bd a
  have hx := wI_xor a c
  have hl := wI_low1 (a ^^^ c)
  have h2 : wI a / (2 : Int) = wI ((a ^^^ c) >>> 1) := by
    rw [wI_half, BitVec.ushiftRight_xor_distrib]
    congr 1
    rcases hc with rfl | rfl
    · simp
    · simp
  cases h : (a ^^^ c).getLsbD 0
  · have HL : Hid (wI a / 2 = wI (on (a ^^^ c))) := by
      show _ = _
      rw [h2]; unfold on; rw [h]; simp
    rw [h] at hl
    rw [← hx] at hl
    clear h h2 hx
    go_enter Tryd.func94, Tryd.ntmps94
    go_wp2
    go_ret
    exact ⟨ret_u32 HL.out, rfl⟩
  · have HL : Hid (bits .xor .u32 (wI a / 2) 3988292384 = wI (on (a ^^^ c))) := by
      show _ = _
      rw [h2, show (3988292384 : Int) = wI genW from rfl, wI_xor]; unfold on; rw [h, if_pos rfl]
    rw [h] at hl
    rw [← hx] at hl
    clear h h2 hx
    go_enter Tryd.func94, Tryd.ntmps94
    go_wp2
    go_ret
    exact ⟨ret_u32 HL.out, rfl⟩
end Go.Proofs.YteboaolflecibaaDoor
