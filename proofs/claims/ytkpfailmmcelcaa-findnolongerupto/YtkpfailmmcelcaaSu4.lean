
import Derived.Test.YtkpfailmmcelcaaSu3a
namespace Go.Proofs.Ytkpfailmmcelcaa
open Go.RowKit
set_option linter.unusedVariables false

/-! The landed suffix: same, Common, Lcp. -/
theorem lc13_more {a b : List Int} {k : Nat} (h : k ≤ lc13 a b) (ha : k < a.length) (hb : k < b.length) : a.getD k 0 = b.getD k 0 → k + 1 ≤ lc13 a b := by
  intro e
  rcases Nat.lt_or_ge k (lc13 a b) with c | c
  · exact c
  · have : k = lc13 a b := by omega
    subst this
    exact absurd e (lc13_end a b ha hb)
theorem lc13_stop {a b : List Int} {k : Nat} (h : k ≤ lc13 a b) : ¬ a.getD k 0 = b.getD k 0 → lc13 a b = k := by
  intro e
  rcases Nat.lt_or_ge k (lc13 a b) with c | c
  · exact absurd (lc13_get a b k c) e
  · omega
set_option maxRecDepth 100000 in
set_option maxHeartbeats 2000000 in
theorem psame13 (xa : Option Addr) (X : List Int) (m xc : Nat) (ya : Option Addr) (Y : List Int) (q yc : Nat) (k : Nat) (w : World) (hx : Seg w xa X) (hy : Seg w ya Y) (hm : Hid (X.length = m)) (hq : Hid (Y.length = q)) (hb : m ≤ 9223372036854775807) (hb2 : q ≤ 9223372036854775807) (hk : k ≤ lc13 X Y) :
    Calls Try.prog 56 #[.slice xa m xc, .slice ya q yc, .int .i64 (k : Int)] w fun e w' => e = .returned (.int .i64 ((lc13 X Y : Nat) : Int)) ∧ ∃ d, w' = w.drewN d := by
  have HL : Hid (lc13 X Y ≤ m ∧ lc13 X Y ≤ q) := ⟨by rw [← hm.out]; exact lc13_le X Y, by rw [← hq.out]; exact lc13_le' X Y⟩
  obtain ⟨t, ht⟩ : ∃ t, t = min m q := ⟨_, rfl⟩
  have HT : Hid (t = min m q) := ht
  have e1 : (if (q : Int) < (m : Int) then (q : Int) else (m : Int)) = (t : Int) := by split <;> omega
  have e2 : (if q < m then (q : Int) else (m : Int)) = (t : Int) := by split <;> omega
  have e3 : min (m : Int) (q : Int) = (t : Int) := by omega
  clear ht
  have KEY : Hid (∀ wr, (∃ d, wr = w.drewN d) → Seg wr xa X ∧ Seg wr ya Y) := by
    rintro wr ⟨d, rfl⟩
    exact ⟨hx.drewN d, hy.drewN d⟩
  clear hx hy
  by_cases hmq : q < m
  · have hmqi : (q : Int) < (m : Int) := by omega
    obtain rfl : t = q := by have := HT.out; omega
    clear e1 e2 e3
    go_enter Try.func56, Try.ntmps56
    go_wp2_with fail
    go_loopw [2] (fun ti wr => ∃ i : Nat, Hid (i ≤ lc13 X Y) ∧ ti = .int .i64 i ∧ ∃ d, wr = w.drewN d) (fun ti _ => m - (intOf ti).toNat)
    case atStart => exact ⟨k, hk, rfl, 0, rfl⟩
    case round =>
      obtain ⟨i, HI, rfl, hd⟩ := hrel
      obtain ⟨sx, sy⟩ := KEY.out wr hd
      obtain ⟨d, hd⟩ := hd
      have HD : Hid (wr = w.drewN d) := hd
      clear hd
      have hib : i ≤ t := by have := HL.out; have := HI.out; omega
      by_cases h1 : i < t
      · have h1i : (i : Int) < (t : Int) := by omega
        have h2i : (i : Int) < (m : Int) := by omega
        obtain ⟨b1, o1, rfl, c1⟩ := sx.at_ i (by rw [hm.out]; omega)
        obtain ⟨b2, o2, rfl, c2⟩ := sy.at_ i (by rw [hq.out]; omega)
        have v1 := sx.bd i
        have v2 := sy.bd i
        have HEQ : Hid (X.getD i 0 = Y.getD i 0 → i + 1 ≤ lc13 X Y) := lc13_more HI.out (by rw [hm.out]; omega) (by rw [hq.out]; omega)
        have HNE : Hid (¬ X.getD i 0 = Y.getD i 0 → lc13 X Y = i) := lc13_stop HI.out
        clear sx sy
        generalize X.getD i 0 = x at *
        generalize Y.getD i 0 = y at *
        by_cases hxy : x = y
        · subst hxy
          have HEQ2 : Hid (i + 1 ≤ lc13 X Y) := HEQ.out rfl
          clear HEQ HNE
          go_wp2_with fail
          go_region
          go_wp2_with fail
          go_roundw
          case rel => exact ⟨i + 1, HEQ2, by go_num, d + 1, by rw [HD.out]; rfl⟩
          case measure => simp [intOf]; omega
        · have HNE2 : Hid (lc13 X Y = i) := HNE.out hxy
          clear HEQ HNE
          go_wp2_with fail
          go_region
          go_wp2_with fail
          go_ret
          exact ⟨by rw [HNE2.out]; rfl, d + 1, by rw [HD.out]; rfl⟩
      · have h1i : ¬ (i : Int) < (t : Int) := by omega
        have HE : Hid (lc13 X Y = i) := by show _ = _; have := HL.out; have := HI.out; omega
        go_wp2_with fail
        go_region
        go_wp2_with fail
        go_ret
        exact ⟨by rw [HE.out]; rfl, d + 1, by rw [HD.out]; rfl⟩
  · have hmqi : ¬ (q : Int) < (m : Int) := by omega
    obtain rfl : t = m := by have := HT.out; omega
    clear e1 e2 e3
    go_enter Try.func56, Try.ntmps56
    go_wp2_with fail
    go_loopw [2] (fun ti wr => ∃ i : Nat, Hid (i ≤ lc13 X Y) ∧ ti = .int .i64 i ∧ ∃ d, wr = w.drewN d) (fun ti _ => t - (intOf ti).toNat)
    case atStart => exact ⟨k, hk, rfl, 0, rfl⟩
    case round =>
      obtain ⟨i, HI, rfl, hd⟩ := hrel
      obtain ⟨sx, sy⟩ := KEY.out wr hd
      obtain ⟨d, hd⟩ := hd
      have HD : Hid (wr = w.drewN d) := hd
      clear hd
      have hib : i ≤ t := by have := HL.out; have := HI.out; omega
      by_cases h1 : i < t
      · have h1i : (i : Int) < (t : Int) := by omega
        have h2i : (i : Int) < (q : Int) := by omega
        obtain ⟨b1, o1, rfl, c1⟩ := sx.at_ i (by rw [hm.out]; omega)
        obtain ⟨b2, o2, rfl, c2⟩ := sy.at_ i (by rw [hq.out]; omega)
        have v1 := sx.bd i
        have v2 := sy.bd i
        have HEQ : Hid (X.getD i 0 = Y.getD i 0 → i + 1 ≤ lc13 X Y) := lc13_more HI.out (by rw [hm.out]; omega) (by rw [hq.out]; omega)
        have HNE : Hid (¬ X.getD i 0 = Y.getD i 0 → lc13 X Y = i) := lc13_stop HI.out
        clear sx sy
        generalize X.getD i 0 = x at *
        generalize Y.getD i 0 = y at *
        by_cases hxy : x = y
        · subst hxy
          have HEQ2 : Hid (i + 1 ≤ lc13 X Y) := HEQ.out rfl
          clear HEQ HNE
          go_wp2_with fail
          go_region
          go_wp2_with fail
          go_roundw
          case rel => exact ⟨i + 1, HEQ2, by go_num, d + 1, by rw [HD.out]; rfl⟩
          case measure => simp [intOf]; omega
        · have HNE2 : Hid (lc13 X Y = i) := HNE.out hxy
          clear HEQ HNE
          go_wp2_with fail
          go_region
          go_wp2_with fail
          go_ret
          exact ⟨by rw [HNE2.out]; rfl, d + 1, by rw [HD.out]; rfl⟩
      · have h1i : ¬ (i : Int) < (t : Int) := by omega
        have HE : Hid (lc13 X Y = i) := by show _ = _; have := HL.out; have := HI.out; omega
        go_wp2_with fail
        go_region
        go_wp2_with fail
        go_ret
        exact ⟨by rw [HE.out]; rfl, d + 1, by rw [HD.out]; rfl⟩
end Go.Proofs.Ytkpfailmmcelcaa
