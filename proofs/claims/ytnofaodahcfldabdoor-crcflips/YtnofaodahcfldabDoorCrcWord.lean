import Derived.Test.YtnofaodahcfldabDoorProg
import Derived.Test.YtnofaodahcfldabDoorCrcMath
import Derived.Test.YtnofaodahcfldabDoorCrcAct
import Derived.WalkKit
import Derived.WalkSpells
import Derived.WalkLawsBesides
namespace Go.Proofs.YtnofaodahcfldabDoor
open Go.RowKit
set_option linter.unusedVariables false
set_option linter.unusedSimpArgs false

/-- A word as the model's number. -/
def wI (a : W32) : Int := (a.toNat : Int)
theorem wI_bd (a : W32) : 0 ≤ wI a ∧ wI a < 4294967296 := by
  have := a.isLt
  unfold wI
  omega
theorem wI_of {x : Int} (h0 : 0 ≤ x) (h1 : x < 4294967296) : ∃ a : W32, x = wI a := by
  refine ⟨BitVec.ofNat 32 x.toNat, ?_⟩
  unfold wI
  simp
  omega
theorem wI_inj {a b : W32} (h : wI a = wI b) : a = b := by
  apply BitVec.eq_of_toNat_eq
  unfold wI at h
  omega
theorem wI_xor (a b : W32) : bits .xor .u32 (wI a) (wI b) = wI (a ^^^ b) := by
  unfold wI
  rw [u32_xor_nat _ _ a.isLt b.isLt, BitVec.toNat_xor]
theorem wI_and (a b : W32) : bits .and .u32 (wI a) (wI b) = wI (a &&& b) := by
  unfold wI
  rw [u32_and_nat _ _ a.isLt b.isLt, BitVec.toNat_and]
theorem wI_or (a b : W32) : bits .or .u32 (wI a) (wI b) = wI (a ||| b) := by
  unfold wI
  rw [u32_or_nat _ _ a.isLt b.isLt, BitVec.toNat_or]
theorem wI_shr (a : W32) (k : Nat) : wI a / 2 ^ k = wI (a >>> k) := by
  unfold wI
  rw [BitVec.toNat_ushiftRight, Nat.shiftRight_eq_div_pow]
  simp
theorem wI_zero : wI 0#32 = 0 := rfl
theorem wI_lsb (a : W32) : a.getLsbD 0 = decide (wI a % 2 = 1) := by
  unfold wI
  rw [BitVec.getLsbD, Nat.testBit_zero]
  simp only [decide_eq_decide]
  omega
theorem ret_u32 {a b : Int} (h : a = b) : Ending.returned (.int .u32 a) = .returned (.int .u32 b) := by rw [h]

theorem wI_ne (a : W32) : (wI a != 0) = (a != 0#32) := by
  rw [Bool.eq_iff_iff, bne_iff_ne, bne_iff_ne]
  constructor
  · intro h e; apply h; rw [e]; rfl
  · intro h e; exact h (wI_inj (e.trans wI_zero.symm))
theorem and_two (a : W32) (k : Nat) (hk : k < 32) : (a &&& BitVec.twoPow 32 k != 0#32) = a.getLsbD k := by
  rw [BitVec.and_twoPow]
  cases h : a.getLsbD k
  · simp
  · simp only [if_true]
    rw [bne_iff_ne]
    intro e
    have := congrArg (·.getLsbD k) e
    simp [BitVec.getLsbD_twoPow, hk] at this
theorem wI_bit (a : W32) (k : Nat) (hk : k < 32) : (bits .and .u32 (wI a) (wI (BitVec.twoPow 32 k)) != 0) = a.getLsbD k := by
  rw [wI_and, wI_ne, and_two a k hk]
theorem wI_half (a : W32) : wI a / (2 : Int) = wI (a >>> 1) := by
  have := wI_shr a 1
  simpa using this
theorem on_pos (a : W32) (h : a.getLsbD 0 = true) : bits .xor .u32 (wI a / 2) 3988292384 = wI (on a) := by
  rw [wI_half, show (3988292384 : Int) = wI genW from rfl, wI_xor]
  unfold on
  rw [h, if_pos rfl]
theorem on_neg (a : W32) (h : a.getLsbD 0 = false) : wI a / 2 = wI (on a) := by
  rw [wI_half]
  unfold on
  rw [h]
  simp

set_option maxHeartbeats 400000 in
theorem on_any (a : W32) (w : World) : Calls Tryd.prog 22 #[.int .u32 (wI a)] w fun e w' => e = .returned (.int .u32 (wI (on a))) ∧ w' = w := by
  have b := wI_bd a
  have hc : (bits .and .u32 (wI a) 1 != 0) = a.getLsbD 0 := wI_bit a 0 (by decide)
  cases h : a.getLsbD 0
  · have HL : Hid (wI a / 2 = wI (on a)) := on_neg a h
    rw [h] at hc
    clear h
    go_enter Tryd.func22, Tryd.ntmps22
    go_wp2
    go_ret
    exact ⟨ret_u32 HL.out, rfl⟩
  · have HL : Hid (bits .xor .u32 (wI a / 2) 3988292384 = wI (on a)) := on_pos a h
    rw [h] at hc
    clear h
    go_enter Tryd.func22, Tryd.ntmps22
    go_wp2
    go_ret
    exact ⟨ret_u32 HL.out, rfl⟩

theorem one_shr : ∀ i : Fin 33, oneW >>> i.val = if i.val < 32 then BitVec.twoPow 32 (31 - i.val) else 0#32 := by decide +kernel
theorem actN_next (a b : W32) (i : Nat) : actN a (i + 1) b = actN a i b ^^^ (if a.getLsbD (31 - i) then onN i b else 0#32) := rfl

set_option maxHeartbeats 1000000 in
theorem times_any (a b : W32) (w : World) : Calls Tryd.prog 21 #[.int .u32 (wI a), .int .u32 (wI b)] w fun e w' => e = .returned (.int .u32 (wI (act a b))) ∧ w' = w := by
  go_enter Tryd.func21, Tryd.ntmps21
  go_wp2
  go_loopw [1, 5, 6] (fun tb tp ti wr => ∃ i : Nat, i ≤ 32 ∧ tb = .int .u32 (wI (onN i b)) ∧ tp = .int .u32 (wI (actN a i b)) ∧ ti = .int .u32 (wI (oneW >>> i)) ∧ wr = w) (fun _ _ ti _ => (intOf ti).toNat)
  case atStart => exact ⟨0, by decide, rfl, rfl, rfl, rfl⟩
  case round =>
    obtain ⟨i, hi, rfl, rfl, rfl, rfl⟩ := hrel
    by_cases hlt : i < 32
    · have e1 : oneW >>> i = BitVec.twoPow 32 (31 - i) := by
        have := one_shr ⟨i, by omega⟩
        simp only at this
        rw [this, if_pos hlt]
      have hb : (bits .and .u32 (wI a) (wI (BitVec.twoPow 32 (31 - i))) != 0) = a.getLsbD (31 - i) := wI_bit a _ (by omega)
      have hx : bits .xor .u32 (wI (actN a i b)) (wI (onN i b)) = wI (actN a i b ^^^ onN i b) := wI_xor _ _
      have hs : wI (BitVec.twoPow 32 (31 - i)) / 2 = wI (oneW >>> (i + 1)) := by
        rw [wI_half, ← e1, ← BitVec.shiftRight_add]
      have hn : (wI (BitVec.twoPow 32 (31 - i)) != 0) = true := by
        rw [wI_ne, bne_iff_ne]
        intro e
        have := congrArg (·.getLsbD (31 - i)) e
        simp [BitVec.getLsbD_twoPow] at this
        omega
      have HA : Hid (actN a (i + 1) b = actN a i b ^^^ (if a.getLsbD (31 - i) then onN i b else 0#32)) := rfl
      have HS : Hid (wI (BitVec.twoPow 32 (31 - i)) / 2 = wI (oneW >>> (i + 1))) := hs
      have HX : Hid (bits .xor .u32 (wI (actN a i b)) (wI (onN i b)) = wI (actN a i b ^^^ onN i b)) := hx
      rw [e1]
      clear hs hx
      have bp := wI_bd (BitVec.twoPow 32 (31 - i))
      have bp0 : wI (BitVec.twoPow 32 (31 - i)) ≠ 0 := by simpa using hn
      cases hg : a.getLsbD (31 - i)
      · rw [hg] at hb
        have HG : Hid (a.getLsbD (31 - i) = false) := hg
        clear hg e1
        generalize hbit : wI (BitVec.twoPow 32 (31 - i)) = bit at *
        clear hbit
        go_wp2_with (go_at_call 22; refine (on_any _ _).mono ?_; rintro e w' ⟨rfl, hw'⟩; subst w')
        go_roundw
        case rel => exact ⟨i + 1, by omega, rfl, by rw [HA.out, HG.out]; simp, by rw [HS.out], trivial⟩
        case measure => simp [intOf]; omega
      · rw [hg] at hb
        have HG : Hid (a.getLsbD (31 - i) = true) := hg
        clear hg e1
        generalize hbit : wI (BitVec.twoPow 32 (31 - i)) = bit at *
        clear hbit
        go_wp2_with (go_at_call 22; refine (on_any _ _).mono ?_; rintro e w' ⟨rfl, hw'⟩; subst w')
        go_roundw
        case rel => exact ⟨i + 1, by omega, rfl, by rw [HA.out, HG.out, HX.out]; simp, by rw [HS.out], trivial⟩
        case measure => simp [intOf]; omega
    · obtain rfl : i = 32 := by omega
      have e1 : wI (oneW >>> 32) = 0 := by decide
      rw [e1]
      clear hlt e1
      go_wp2
      go_ret
      exact ⟨rfl, rfl⟩
end Go.Proofs.YtnofaodahcfldabDoor
