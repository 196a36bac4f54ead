import Derived.Test.YtmleicaalaggkabLnFact
import Derived.Test.YtmleicaalaggkabLnAwake
namespace Go.Proofs.Ytmleicaalaggkab
open Go.RowKit
set_option linter.unusedVariables false

/-! The statements' own helpers: may, used, fits, space, cost. -/
theorem may_any (a : Option Addr) (zs : List Int) (n cap : Nat) (hn : Hid (zs.length = n)) (w : World) (hs : SegZ w a zs) (hl : n ≤ 9223372036854775807) :
    Calls Try.prog 17 #[.slice a n cap] w fun e w' => e = .returned (.bool (decide (errOf zs = 0))) ∧ Below w.heap.size w w' := by
  by_cases hm : 288 < n
  · have hmi : (288 : Int) < (n : Int) := by omega
    have HE : Hid (decide (errOf zs = 0) = false) := by rw [errOf_many (by have := hn.out; omega)]; rfl
    go_enter Try.func17, Try.ntmps17
    go_wp2
    go_ret
    exact ⟨by rw [HE.out] <;> rfl, Below.refl _ _⟩
  · have hmi : ¬ (288 : Int) < (n : Int) := by omega
    go_enter Try.func17, Try.ntmps17
    go_wp2
    go_loopw [3] (fun ti wr => ∃ k : Nat, k ≤ n ∧ ti = .int .i64 k ∧ Hid ((zs.take k).all okF = true) ∧ Below w.heap.size w wr) (fun ti _ => n - (intOf ti).toNat)
    case atStart => exact ⟨0, Nat.zero_le _, rfl, (by simp : _ = _), Below.refl _ _⟩
    case round =>
      obtain ⟨k, hk, rfl, HA, hb⟩ := hrel
      have hs := hs.old hb
      by_cases h1 : k < n
      · have h1i : (k : Int) < (n : Int) := by omega
        have h1z : k < zs.length := by have := hn.out; omega
        obtain ⟨b1, o1, rfl, c1⟩ := hs.at_ k h1z
        have b1 := hs.bd k
        have HB : Hid (¬ (0 ≤ zs.getD k 0 ∧ zs.getD k 0 ≤ 1099511627776) → decide (errOf zs = 0) = false) := fun h => by rw [errOf_bad (by have := hn.out; omega) h1z h]; rfl
        have HC : Hid ((0 ≤ zs.getD k 0 ∧ zs.getD k 0 ≤ 1099511627776) → (zs.take (k + 1)).all okF = true) := all_snoc h1z HA.out
        generalize zs.getD k 0 = z at *
        by_cases h0 : z < 0
        · go_wp2
          go_ret
          exact ⟨by rw [HB.out (by omega)] <;> rfl, hb⟩
        · by_cases h4 : 1099511627776 < z
          · go_wp2
            go_ret
            exact ⟨by rw [HB.out (by omega)] <;> rfl, hb⟩
          · go_wp2
            go_roundw
            case rel => exact ⟨k + 1, by omega, by go_num, HC.out (by omega), hb⟩
            case measure => simp [intOf]; omega
      · obtain rfl : k = n := by omega
        have HE : Hid (decide (errOf zs = 0) = true) := by rw [errOf_ok (by have := hn.out; omega) (by rw [hn.out]; exact HA.out)]; rfl
        clear h1
        go_wp2
        go_ret
        exact ⟨by rw [HE.out] <;> rfl, hb⟩
/-- How many counts are above 0. -/
def usedC (zs : List Int) : Nat → Nat
  | 0 => 0
  | k + 1 => usedC zs k + (if 0 < zs.getD k 0 then 1 else 0)
theorem usedC_le (zs : List Int) : ∀ k, usedC zs k ≤ k
  | 0 => Nat.le_refl _
  | k + 1 => by have := usedC_le zs k; unfold usedC; split <;> omega
theorem usedC_us {zs : List Int} (h : ∀ i, 0 ≤ zs.getD i 0) : ∀ k, usedC zs k = (usI zs k).length
  | 0 => rfl
  | k + 1 => by
    have h1 := usedC_us h k
    have h2 := h k
    rw [usI_snoc, List.length_append]
    unfold usedC
    rw [h1]
    by_cases e : zs.getD k 0 = 0
    · rw [if_pos e, if_neg (by omega)]; rfl
    · rw [if_neg e, if_pos (by omega)]; rfl
theorem used_any (a : Option Addr) (zs : List Int) (n cap : Nat) (hn : Hid (zs.length = n)) (w : World) (hs : SegZ w a zs) (hl : n ≤ 9223372036854775806) :
    Calls Try.prog 10 #[.slice a n cap] w fun e w' => e = .returned (.int .i64 (usedC zs n : Nat)) ∧ Below w.heap.size w w' := by
  go_enter Try.func10, Try.ntmps10
  go_wp2
  go_loopw [3, 4] (fun tn ti wr => ∃ k c : Nat, k ≤ n ∧ c ≤ k ∧ ti = .int .i64 k ∧ tn = .int .i64 c ∧ Hid (c = usedC zs k) ∧ Below w.heap.size w wr) (fun _ ti _ => n - (intOf ti).toNat)
  case atStart => exact ⟨0, 0, Nat.zero_le _, Nat.le_refl _, rfl, rfl, (rfl : _ = _), Below.refl _ _⟩
  case round =>
    obtain ⟨k, c, hk, hck, rfl, rfl, HC, hb⟩ := hrel
    have hs := hs.old hb
    by_cases h1 : k < n
    · have h1i : (k : Int) < (n : Int) := by omega
      obtain ⟨b1, o1, rfl, c1⟩ := hs.at_ k (by have := hn.out; omega)
      have HU : Hid (usedC zs (k + 1) = c + (if 0 < zs.getD k 0 then 1 else 0)) := by show _ = _; rw [HC.out]; rfl
      have hbd := hs.bd k
      generalize zs.getD k 0 = z at *
      by_cases hz : 0 < z
      · go_wp2
        go_roundw
        case rel => exact ⟨k + 1, c + 1, by omega, by omega, by go_num, by go_num, (by show _ = _; rw [HU.out, if_pos hz]), hb⟩
        case measure => simp [intOf]; omega
      · go_wp2
        go_roundw
        case rel => exact ⟨k + 1, c, by omega, by omega, by go_num, rfl, (by show _ = _; rw [HU.out, if_neg hz]; rfl), hb⟩
        case measure => simp [intOf]; omega
    · obtain rfl : k = n := by omega
      go_wp2
      go_ret
      exact ⟨by rw [← HC.out] <;> rfl, hb⟩

set_option maxHeartbeats 1000000 in
theorem fits_any (lim : Int) (a : Option Addr) (zs : List Int) (n cap : Nat) (hn : Hid (zs.length = n)) (w : World) (hs : SegZ w a zs) (hl : n ≤ 9223372036854775806) :
    Calls Try.prog 7 #[.int .i64 lim, .slice a n cap] w fun e w' => e = .returned (.bool (decide (errL lim zs = 0))) ∧ Below w.heap.size w w' := by
  have CM := may_any a zs n cap hn w hs (by omega)
  by_cases h1 : 1 ≤ lim
  · by_cases h2 : lim ≤ 15
    · by_cases he : errOf zs = 0
      · obtain ⟨l, rfl⟩ : ∃ l : Nat, lim = (l : Int) := ⟨lim.toNat, by omega⟩
        obtain ⟨P, hP⟩ : ∃ P : Nat, P = 2 ^ l := ⟨_, rfl⟩
        have hPb : P ≤ 32768 := by rw [hP]; exact Nat.le_trans (Nat.pow_le_pow_right (by decide) (show l ≤ 15 by omega)) (by decide)
        have e9 : ((2 : Int) ^ l) = (P : Int) := by rw [hP]; exact (Int.natCast_pow 2 l).symm
        have hPw : RowKit.wrap64 ((2 : Int) ^ l) = (P : Int) := by
          rw [e9, ← IntWalk.i64_left]
          exact IntWalk.i64_in _ (by omega)
        have HNU : Hid (usedC zs n = nUse zs) := by
          have := hn.out
          show _ = _
          rw [nUse_us, ← usedC_us (nn he), this]
        have HR : Hid (decide (errL l zs = 0) = decide (usedC zs n ≤ P)) := by
          show _ = _
          rw [decide_eq_decide]
          unfold errL
          rw [if_neg (by omega), if_pos he, Int.toNat_natCast, ← hP, HNU.out]
          split <;> omega
        rw [he] at CM
        have hu := usedC_le zs n
        have HCU : Hid (∀ W, Below w.heap.size w W → Calls Try.prog 10 #[.slice a n cap] W fun e w' => e = .returned (.int .i64 (usedC zs n : Nat)) ∧ Below w.heap.size w w') := fun W hW => (used_any a zs n cap hn W (hs.old hW) hl).mono fun e w' ⟨h3, h4⟩ => ⟨h3, hW.trans (h4.mono hW.size)⟩
        clear he hP e9
        generalize usedC zs n = u at *
        go_enter Try.func7, Try.ntmps7
        go_wp2_with fail
        refine CM.mono ?_
        rintro e w1 ⟨rfl, B1⟩
        go_wp2_with fail
        refine (HCU.out _ B1).mono ?_
        rintro e w2 ⟨rfl, B2⟩
        go_wp2
        go_ret
        refine ⟨?_, B2⟩
        rw [HR.out]
        by_cases hu2 : u ≤ P
        · have : (u : Int) ≤ (P : Int) := by omega
          simp [hu2]
        · have : ¬ (u : Int) ≤ (P : Int) := by omega
          simp [hu2]
      · have HR : Hid (decide (errL lim zs = 0) = false) := by
          show _ = _
          apply decide_eq_false
          unfold errL
          rw [if_neg (by omega), if_neg he]
          exact he
        have e1 : decide (errOf zs = 0) = false := decide_eq_false he
        rw [e1] at CM
        clear he e1
        go_enter Try.func7, Try.ntmps7
        go_wp2_with fail
        refine CM.mono ?_
        rintro e w1 ⟨rfl, B1⟩
        go_wp2
        go_ret
        exact ⟨by rw [HR.out] <;> rfl, B1⟩
    · have HR : Hid (decide (errL lim zs = 0) = false) := by
        show _ = _
        apply decide_eq_false
        unfold errL
        rw [if_pos (.inr (by omega))]
        decide
      go_enter Try.func7, Try.ntmps7
      go_wp2
      go_ret
      exact ⟨by rw [HR.out] <;> rfl, Below.refl _ _⟩
  · have HR : Hid (decide (errL lim zs = 0) = false) := by
      show _ = _
      apply decide_eq_false
      unfold errL
      rw [if_pos (.inl (by omega))]
      decide
    go_enter Try.func7, Try.ntmps7
    go_wp2
    go_ret
    exact ⟨by rw [HR.out] <;> rfl, Below.refl _ _⟩
end Go.Proofs.Ytmleicaalaggkab
