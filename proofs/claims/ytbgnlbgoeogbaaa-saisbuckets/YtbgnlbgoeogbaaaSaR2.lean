
import Derived.Test.YtbgnlbgoeogbaaaSaR1
namespace Go.Proofs.Ytbgnlbgoeogbaaa
open Go.RowKit
set_option linter.unusedVariables false

/-! The document's wrong. -/
set_option maxRecDepth 100000 in
set_option maxHeartbeats 1000000 in
theorem rwrg12 (k : Int) (a : Option Addr) (s : List Int) (n cap : Nat) (w : World) (hs : SegZ w a s) (hn : Hid (s.length = n)) (hb : n ≤ 9223372036854775807) (hk : -9223372036854775808 ≤ k ∧ k ≤ 9223372036854775807) :
    Calls Try.prog 32 #[.int .i64 k, .slice a n cap] w fun e w' => e = .returned (.int .i64 (ref12 k s)) ∧ Below w.heap.size w w' := by
  have HR : Hid (ref12 k s = if k < 0 ∨ 33554432 < k then 1 else if 16777216 < n then 120 else rv12 k s) := by show _ = _; unfold ref12; rw [hn.out]
  rw [HR.out]
  by_cases k1 : k < 0
  · rw [if_pos (Or.inl k1)]
    go_enter Try.func32, Try.ntmps32
    go_wp2
    go_ret
    exact ⟨rfl, Below.refl _ _⟩
  by_cases k2 : 33554432 < k
  · rw [if_pos (Or.inr k2)]
    go_enter Try.func32, Try.ntmps32
    go_wp2
    go_ret
    exact ⟨rfl, Below.refl _ _⟩
  rw [if_neg (by omega)]
  by_cases k3 : 16777216 < n
  · rw [if_pos k3]
    have k3i : (16777216 : Int) < (n : Int) := by omega
    go_enter Try.func32, Try.ntmps32
    go_wp2
    go_ret
    exact ⟨rfl, Below.refl _ _⟩
  rw [if_neg k3]
  have k3i : ¬ (16777216 : Int) < (n : Int) := by omega
  go_enter Try.func32, Try.ntmps32
  go_wp2
  go_loopw [5] (fun ti wr => ∃ i : Nat, i ≤ n ∧ ti = .int .i64 i ∧ Hid (vals12 k (s.take i) = true) ∧ Below w.heap.size w wr) (fun ti _ => n - (intOf ti).toNat)
  case atStart => exact ⟨0, Nat.zero_le _, rfl, (by simp [vals12] : _ = _), Below.refl _ _⟩
  case round =>
    obtain ⟨i, hi, rfl, HV, hb2⟩ := hrel
    by_cases h1 : i < n
    · have h1i : (i : Int) < (n : Int) := by omega
      have hs2 := hs.old hb2
      obtain ⟨b, off, rfl, c1⟩ := hs2.at_ i (by rw [hn.out]; exact h1)
      have bd := hs2.bd i
      have HS : Hid (vals12 k (s.take (i + 1)) = (vals12 k (s.take i) && (decide (0 ≤ s.getD i 0) && decide (s.getD i 0 < k)))) := vals12_take k s i (by rw [hn.out]; exact h1)
      have HN : Hid (¬ (0 ≤ s.getD i 0 ∧ s.getD i 0 < k) → vals12 k s = false) := vals12_no (by rw [hn.out]; exact h1)
      clear hs2
      generalize s.getD i 0 = v at *
      by_cases v1 : v < 0
      · go_wp2
        go_ret
        exact ⟨by unfold rv12; rw [HN.out (by omega)]; rfl, hb2⟩
      · by_cases v2 : k ≤ v
        · go_wp2
          go_ret
          exact ⟨by unfold rv12; rw [HN.out (by omega)]; rfl, hb2⟩
        · have v3 : 0 ≤ v := by omega
          have v4 : v < k := by omega
          go_wp2
          go_roundw
          case rel => exact ⟨i + 1, by omega, by go_num, (by rw [HS.out, HV.out]; simp; omega : _ = _), hb2⟩
          case measure => simp [intOf]; omega
    · have h1i : ¬ (i : Int) < (n : Int) := by omega
      go_wp2
      go_ret
      refine ⟨?_, hb2⟩
      have e : s.take i = s := List.take_of_length_le (by rw [hn.out]; omega)
      have := HV.out
      rw [e] at this
      unfold rv12
      rw [this]; rfl
end Go.Proofs.Ytbgnlbgoeogbaaa
