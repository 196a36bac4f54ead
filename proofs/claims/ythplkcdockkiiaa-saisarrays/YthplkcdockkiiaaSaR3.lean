
import Derived.Test.YthplkcdockkiiaaSaR2
namespace Go.Proofs.Ythplkcdockkiiaa
open Go.RowKit
set_option linter.unusedVariables false

/-! The document's Less. -/
def LrQ12 (w : World) (P : Prop) (e : Ending) (w' : World) : Prop := ∃ B : Bool, e = .returned (.bool B) ∧ (B = true ↔ P) ∧ ∃ d, w' = w.drewN d
set_option maxRecDepth 100000 in
set_option maxHeartbeats 2000000 in
theorem rless12 (a : Option Addr) (s : List Int) (n cap i j : Nat) (w : World) (hs : SegZ w a s) (hn : Hid (s.length = n)) (hb : n ≤ 16777216000) (hi : i ≤ n) (hj : j ≤ n) :
    Calls Try.prog 43 #[.slice a n cap, .int .i64 (i : Int), .int .i64 (j : Int)] w (LrQ12 w (Ls12 n (S12 s) i j)) := by
  go_enter Try.func43, Try.ntmps43
  go_wp2_with fail
  go_loopw [1, 2] (fun ti tj wr => ∃ p q : Nat, p ≤ n ∧ q ≤ n ∧ ti = .int .i64 p ∧ tj = .int .i64 q ∧ Hid (Ls12 n (S12 s) i j ↔ Ls12 n (S12 s) p q) ∧ ∃ d, wr = w.drewN d) (fun ti _ _ => n - (intOf ti).toNat)
  case atStart => exact ⟨i, j, hi, hj, rfl, rfl, Iff.rfl, 0, rfl⟩
  case round =>
    obtain ⟨p, q, hp, hq, rfl, rfl, HE, dn, hdn⟩ := hrel
    have hs := hs.drewN dn
    rw [← hdn] at hs
    have HDN : Hid (wr = w.drewN dn) := hdn
    clear hdn
    by_cases h1 : p < n
    · have h1i : (p : Int) < (n : Int) := by omega
      have h1j : ¬ (n : Int) ≤ (p : Int) := by omega
      have h1k : ¬ n ≤ p := by omega
      by_cases h2 : q < n
      · have h2i : (q : Int) < (n : Int) := by omega
        have h2j : ¬ (n : Int) ≤ (q : Int) := by omega
        have h2k : ¬ n ≤ q := by omega
        obtain ⟨bb, off, rfl, c1⟩ := hs.at_ p (by rw [hn.out]; exact h1)
        have c2 : wr.cell? ⟨bb, off + q, none⟩ = some (.int .i64 (s.getD q 0)) := by
          obtain ⟨b', off', ha, c⟩ := hs.at_ q (by rw [hn.out]; exact h2)
          cases ha
          exact c
        have bd1 := hs.bd p
        have bd2 := hs.bd q
        have HLT : Hid (s.getD p 0 < s.getD q 0 → Ls12 n (S12 s) p q) := fun h => .lt h1 h2 h
        have HGT : Hid (s.getD q 0 < s.getD p 0 → ¬ Ls12 n (S12 s) p q) := fun h k => k.asymm (.lt h2 h1 h)
        have HEQ : Hid (s.getD p 0 = s.getD q 0 → (Ls12 n (S12 s) p q ↔ Ls12 n (S12 s) (p + 1) (q + 1))) := fun h => ⟨fun k => k.tail h1 h, fun k => .eq h1 h2 h k⟩
        generalize s.getD p 0 = x at *
        generalize s.getD q 0 = y at *
        rcases Int.lt_trichotomy x y with hx | hx | hx
        · have x1 : ¬ x = y := by omega
          have x4 : (x == y) = false := by simp [x1]
          have x5 : decide (x = y) = false := by simp [x1]
          go_wp2_with fail
          go_region
          go_wp2_with fail
          go_region
          go_wp2_with fail
          go_ret
          exact ⟨true, by first | rfl | (simp [hx]; done), ⟨fun _ => HE.out.2 (HLT.out hx), fun _ => rfl⟩, dn + 2, by rw [HDN.out]; rfl⟩
        · subst hx
          go_wp2_with fail
          go_region
          go_wp2_with fail
          go_roundw
          case rel => exact ⟨p + 1, q + 1, by omega, by omega, by go_num, by go_num, (HE.out.trans (HEQ.out (by first | trivial | rfl)) : _ ↔ _), dn + 1, by rw [HDN.out]; rfl⟩
          case measure => simp [intOf]; omega
        · have x1 : ¬ x = y := by omega
          have x2 : ¬ x < y := by omega
          have x4 : (x == y) = false := by simp [x1]
          have x5 : decide (x = y) = false := by simp [x1]
          go_wp2_with fail
          go_region
          go_wp2_with fail
          go_region
          go_wp2_with fail
          go_ret
          have HNO : ¬ Ls12 n (S12 s) p q := HGT.out hx
          exact ⟨false, by first | rfl | (simp [x2]; done), ⟨fun k => (by cases k), fun k => absurd (HE.out.1 k) HNO⟩, dn + 2, by rw [HDN.out]; rfl⟩
      · have h2i : ¬ (q : Int) < (n : Int) := by omega
        have h2j : (n : Int) ≤ (q : Int) := by omega
        have h2k : n ≤ q := by omega
        have HNO : Hid (¬ Ls12 n (S12 s) p q) := fun k => by cases k <;> omega
        go_wp2_with fail
        go_region
        go_wp2_with fail
        go_ret
        exact ⟨false, by first | rfl | (simp [h2]; done), ⟨fun k => (by cases k), fun k => absurd (HE.out.1 k) HNO.out⟩, dn + 1, by rw [HDN.out]; rfl⟩
    · have h1i : ¬ (p : Int) < (n : Int) := by omega
      obtain rfl : p = n := by omega
      by_cases h2 : q < p
      · have h2i : (q : Int) < (p : Int) := by omega
        have HYES : Hid (Ls12 p (S12 s) p q) := .fin h1 h2
        go_wp2_with fail
        go_region
        go_wp2_with fail
        go_ret
        exact ⟨true, by first | rfl | (simp [h2]; done), ⟨fun _ => HE.out.2 HYES.out, fun _ => rfl⟩, dn + 1, by rw [HDN.out]; rfl⟩
      · have h2i : ¬ (q : Int) < (p : Int) := by omega
        have HNO : Hid (¬ Ls12 p (S12 s) p q) := fun k => by cases k <;> omega
        go_wp2_with fail
        go_region
        go_wp2_with fail
        go_ret
        exact ⟨false, by first | rfl | (simp [h2]; done), ⟨fun k => (by cases k), fun k => absurd (HE.out.1 k) HNO.out⟩, dn + 1, by rw [HDN.out]; rfl⟩
end Go.Proofs.Ythplkcdockkiiaa
