
import Derived.Test.YtoeabfcnfofbiabDoorHdR1
import Derived.Test.YtoeabfcnfofbiabDoorLnSame
import Derived.Test.YtoeabfcnfofbiabDoorLnLend
namespace Go.Proofs.YtoeabfcnfofbiabDoor
open Go.RowKit
set_option linter.unusedVariables false

/-! Layer 8's helpers: Same, lend, alike. -/
theorem below_drewN8 {B : Nat} {w w' : World} (h : Below B w w') (n : Nat) : Below B w (w'.drewN n) := ⟨h.os, h.tape, h.output, h.size, h.block⟩
set_option maxRecDepth 100000 in
set_option maxHeartbeats 400000 in
theorem same8 (a b : Option Addr) (xs ys : List Int) (ca cb : Nat) (w : World) (hx : SegZ w a xs) (hy : SegZ w b ys) (hl : xs.length ≤ 9223372036854775807) (hl2 : ys.length ≤ 9223372036854775807) :
    Calls Tryd.prog 9 #[.slice a xs.length ca, .slice b ys.length cb] w fun e w' => e = .returned (.bool (xs == ys)) ∧ Below w.heap.size w w' := by
  go_enter Tryd.func9, Tryd.ntmps9
  go_wp2
  go_loopw [5] (fun ti wr => ∃ k : Nat, k ≤ xs.length ∧ k ≤ ys.length ∧ ti = .int .i64 k ∧ Hid (xs.take k = ys.take k) ∧ Below w.heap.size w wr) (fun ti _ => xs.length - (intOf ti).toNat)
  case atStart => exact ⟨0, Nat.zero_le _, Nat.zero_le _, rfl, (by simp : _ = _), Below.refl _ _⟩
  case round =>
    obtain ⟨k, hk, hk2, rfl, HE, hb⟩ := hrel
    have hx := hx.old hb
    have hy := hy.old hb
    by_cases h1 : k < xs.length
    · have h1i : (k : Int) < (xs.length : Int) := by omega
      by_cases h2 : k < ys.length
      · have h2i : (k : Int) < (ys.length : Int) := by omega
        obtain ⟨b1, o1, rfl, c1⟩ := hx.at_ k h1
        obtain ⟨b2, o2, rfl, c2⟩ := hy.at_ k h2
        have b1 := hx.bd k
        have b2 := hy.bd k
        have HT : Hid (xs.take (k + 1) = xs.take k ++ [xs.getD k 0] ∧ ys.take (k + 1) = ys.take k ++ [ys.getD k 0]) := ⟨take_snocZ h1, take_snocZ h2⟩
        have HN : Hid (xs.getD k 0 ≠ ys.getD k 0 → xs ≠ ys) := by
          intro hne e; rw [e] at hne; exact hne rfl
        generalize xs.getD k 0 = z1 at *
        generalize ys.getD k 0 = z2 at *
        by_cases hz : z1 = z2
        · subst hz
          go_wp2
          go_region
          go_wp2
          go_roundw
          case rel => exact ⟨k + 1, by omega, by omega, by go_num, (by rw [HT.out.1, HT.out.2, HE.out] : _ = _), hb.drew⟩
          case measure => simp [intOf]; omega
        · go_wp2
          go_region
          go_wp2
          go_ret
          exact ⟨by have := HN.out hz; simp [this], hb.drew⟩
      · have h2i : ¬ (k : Int) < (ys.length : Int) := by omega
        obtain rfl : k = ys.length := by omega
        have hlen : ¬ xs.length = ys.length := by omega
        have hne : xs ≠ ys := by intro e; rw [e] at hlen; exact hlen rfl
        go_wp2
        go_ret
        refine ⟨?_, hb⟩
        have : (xs == ys) = false := by simp [hne]
        rw [this]
        have : ¬ (xs.length : Int) = (ys.length : Int) := by omega
        simp [this]
    · have h1i : ¬ (k : Int) < (xs.length : Int) := by omega
      obtain rfl : k = xs.length := by omega
      go_wp2
      go_ret
      refine ⟨?_, hb⟩
      by_cases hlen : xs.length = ys.length
      · have : xs = ys := take_all_eq hlen (.inl rfl) HE.out
        subst this
        simp
      · have hne : xs ≠ ys := by intro e; rw [e] at hlen; exact hlen rfl
        have : (xs == ys) = false := by simp [hne]
        rw [this]
        have : ¬ (xs.length : Int) = (ys.length : Int) := by omega
        simp [this]
theorem snocR {R : List Rn8} {x : Nat} (h : x < R.length) : R.take (x + 1) = R.take x ++ [R.getD x ⟨0, 0⟩] := by
  rw [List.take_succ_eq_append_getElem h]; simp [List.getD, h]
def AlQ (xs ys : List Rn8) (w : World) (e : Ending) (w' : World) : Prop := ∃ r, e = .returned (.bool r) ∧ (r = true ↔ xs = ys) ∧ Below w.heap.size w w'
end Go.Proofs.YtoeabfcnfofbiabDoor
