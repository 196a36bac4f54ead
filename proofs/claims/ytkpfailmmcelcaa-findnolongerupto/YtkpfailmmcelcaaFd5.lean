
import Derived.Test.YtkpfailmmcelcaaFd4
import Derived.Test.YtkpfailmmcelcaaFdM2
import Derived.Test.YtkpfailmmcelcaaSu5a
namespace Go.Proofs.Ytkpfailmmcelcaa
open Go.RowKit
set_option linter.unusedVariables false

/-! Distinct: the landed one, the document's; the document's common. -/
set_option maxRecDepth 100000 in
set_option maxHeartbeats 2000000 in
theorem rcomm14 (da : Option Addr) (z : List Int) (n dc : Nat) (pa : Option Addr) (p : List Int) (m pc : Nat) (at_ : Nat) (w : World) (hs : Seg w da z) (hp : Seg w pa p) (hn : Hid (z.length = n)) (hm : Hid (p.length = m)) (hb : n ≤ 140737488351232) (hb2 : m ≤ 140737488351232) (hat : at_ ≤ n) :
    Calls Try.prog 30 #[.slice da n dc, .slice pa m pc, .int .i64 (at_ : Int)] w fun e w' => e = .returned (.int .i64 ((lc13 (z.drop at_) p : Nat) : Int)) ∧ ∃ d, w' = w.drewN d := by
  have KEY : Hid (∀ wr, (∃ d, wr = w.drewN d) → Seg wr da z ∧ Seg wr pa p) := by
    rintro wr ⟨d, rfl⟩
    exact ⟨hs.drewN d, hp.drewN d⟩
  have HL : Hid (lc13 (z.drop at_) p ≤ m ∧ lc13 (z.drop at_) p ≤ n - at_) := ⟨by rw [← hm.out]; exact lc13_le' _ _, by rw [← hn.out, ← List.length_drop]; exact lc13_le _ _⟩
  have HMO : Hid (∀ i, i ≤ lc13 (z.drop at_) p → i < m → at_ + i < n → z.getD (at_ + i) 0 = p.getD i 0 → i + 1 ≤ lc13 (z.drop at_) p) := fun i h1 h2 h3 h4 => (cv_at14 hn.out hm.out hat h1 h2).2.1 h3 h4
  have HSP : Hid (∀ i, i ≤ lc13 (z.drop at_) p → ¬ z.getD (at_ + i) 0 = p.getD i 0 → lc13 (z.drop at_) p = i) := fun i h1 h4 => lc13_stop h1 (by rw [drop_get14]; exact h4)
  clear hs hp
  generalize lc13 (z.drop at_) p = lc at *
  go_enter Try.func30, Try.ntmps30
  go_wp2_with fail
  go_loopw [7] (fun ti wr => ∃ i : Nat, Hid (i ≤ lc) ∧ ti = .int .i64 i ∧ ∃ d, wr = w.drewN d) (fun ti _ => m - (intOf ti).toNat)
  case atStart => exact ⟨0, Nat.zero_le _, rfl, 0, rfl⟩
  case round =>
    obtain ⟨i, HI, rfl, hd⟩ := hrel
    obtain ⟨sx, sy⟩ := KEY.out wr hd
    obtain ⟨d, hd⟩ := hd
    have HD : Hid (wr = w.drewN d) := hd
    clear hd
    have hib : i ≤ m := by have := HL.out; have := HI.out; omega
    by_cases h1 : i < m
    · have h1i : (i : Int) < (m : Int) := by omega
      obtain ⟨s, hsm⟩ : ∃ s, s = at_ + i := ⟨_, rfl⟩
      have hsi : (at_ : Int) + (i : Int) = (s : Int) := by omega
      have hsw : IntKind.i64.wrap ((at_ : Int) + (i : Int)) = (s : Int) := by rw [hsi]; exact IntWalk.i64_in _ (by omega)
      by_cases h2 : s < n
      · have h2j : (s : Int) < (n : Int) := by omega
        obtain ⟨b1, o1, rfl, c1⟩ := sx.at_ s (by rw [hn.out]; omega)
        obtain ⟨b2, o2, rfl, c2⟩ := sy.at_ i (by rw [hm.out]; omega)
        have v1 := sx.bd s
        have v2 := sy.bd i
        have HEQ : Hid (z.getD s 0 = p.getD i 0 → i + 1 ≤ lc) := fun h => HMO.out i HI.out h1 (by omega) (by rw [← hsm]; exact h)
        have HNE : Hid (¬ z.getD s 0 = p.getD i 0 → lc = i) := fun h => HSP.out i HI.out (by rw [← hsm]; exact h)
        clear sx sy hsm
        generalize z.getD s 0 = x at *
        generalize p.getD i 0 = y at *
        have g1 : decide ((i : Int) < (m : Int)) = true := decide_eq_true h1i
        have g2 : decide ((s : Int) < (n : Int)) = true := decide_eq_true h2j
        by_cases hxy : x = y
        · subst hxy
          have HEQ2 : Hid (i + 1 ≤ lc) := HEQ.out rfl
          clear HEQ HNE
          go_wp2_with fail
          go_quiet (fail)
          go_wp2_with fail
          go_roundw
          case rel => exact ⟨i + 1, HEQ2, by go_num, d + nq, by rw [HD.out, drewN14]⟩
          case measure => simp [intOf]; omega
        · have HNE2 : Hid (lc = i) := HNE.out hxy
          have g3 : (x == y) = false := beq_eq_false_iff_ne.2 hxy
          clear HEQ HNE
          go_wp2_with fail
          go_quiet (fail)
          go_wp2_with fail
          go_ret
          exact ⟨by rw [HNE2.out]; rfl, d + nq, by rw [HD.out, drewN14]⟩
      · have h2j : ¬ (s : Int) < (n : Int) := by omega
        have g1 : decide ((i : Int) < (m : Int)) = true := decide_eq_true h1i
        have g2 : decide ((s : Int) < (n : Int)) = false := decide_eq_false h2j
        have HNE2 : Hid (lc = i) := by show _ = _; have := HL.out; have := HI.out; omega
        clear hsm
        go_wp2_with fail
        go_quiet (fail)
        go_wp2_with fail
        go_ret
        exact ⟨by rw [HNE2.out]; rfl, d + nq, by rw [HD.out, drewN14]⟩
    · have h1i : ¬ (i : Int) < (m : Int) := by omega
      have g1 : decide ((i : Int) < (m : Int)) = false := decide_eq_false h1i
      have HNE2 : Hid (lc = i) := by show _ = _; have := HL.out; have := HI.out; omega
      go_wp2_with fail
      go_quiet (fail)
      go_wp2_with fail
      go_ret
      exact ⟨by rw [HNE2.out]; rfl, d + nq, by rw [HD.out, drewN14]⟩
end Go.Proofs.Ytkpfailmmcelcaa
