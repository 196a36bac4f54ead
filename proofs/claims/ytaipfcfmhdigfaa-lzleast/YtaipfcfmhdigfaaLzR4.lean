
import Derived.Test.YtaipfcfmhdigfaaLzR3
namespace Go.Proofs.Ytaipfcfmhdigfaa
open Go.RowKit
set_option linter.unusedVariables false

/-! The document's Options, alike, Best. -/
def opt7 (win chain : Int) : Int := if win < 1 ∨ 32768 < win ∨ chain < 0 ∨ 4096 < chain then 72 else 0
def look7 (win chain : Int) (lazy : Bool) : Value := .agg #[.int .i64 win, .int .i64 chain, .bool lazy]
set_option maxRecDepth 100000 in
set_option maxHeartbeats 1000000 in
theorem ropt7 (win chain : Int) (lazy : Bool) (w : World) : Calls Try.prog 25 #[look7 win chain lazy] w fun e w' => e = .returned (.int .i64 (opt7 win chain)) ∧ Below w.heap.size w w' := by
  unfold look7
  by_cases h1 : win < 1
  · have HE : opt7 win chain = 72 := by unfold opt7; rw [if_pos (.inl h1)]
    rw [HE]
    go_enter Try.func25, Try.ntmps25
    go_wp2_with fail
    go_ret
    exact ⟨rfl, below_box _ _⟩
  · by_cases h2 : 32768 < win
    · have HE : opt7 win chain = 72 := by unfold opt7; rw [if_pos (.inr (.inl h2))]
      rw [HE]
      go_enter Try.func25, Try.ntmps25
      go_wp2_with fail
      go_ret
      exact ⟨rfl, below_box _ _⟩
    · by_cases h3 : chain < 0
      · have HE : opt7 win chain = 72 := by unfold opt7; rw [if_pos (.inr (.inr (.inl h3)))]
        rw [HE]
        go_enter Try.func25, Try.ntmps25
        go_wp2_with fail
        go_ret
        exact ⟨rfl, below_box _ _⟩
      · by_cases h4 : 4096 < chain
        · have HE : opt7 win chain = 72 := by unfold opt7; rw [if_pos (.inr (.inr (.inr h4)))]
          rw [HE]
          go_enter Try.func25, Try.ntmps25
          go_wp2_with fail
          go_ret
          exact ⟨rfl, below_box _ _⟩
        · have HE : opt7 win chain = 0 := by unfold opt7; rw [if_neg (by omega)]
          rw [HE]
          go_enter Try.func25, Try.ntmps25
          go_wp2_with fail
          go_ret
          exact ⟨rfl, below_box _ _⟩
theorem opt7_ok {win chain : Int} (h : opt7 win chain = 0) : 1 ≤ win ∧ win ≤ 32768 ∧ 0 ≤ chain ∧ chain ≤ 4096 := by
  unfold opt7 at h
  split at h
  · omega
  · omega
theorem opt7_no {win chain : Int} (h : opt7 win chain ≠ 0) : opt7 win chain = 72 := by
  unfold opt7 at h ⊢
  split
  · rfl
  · rename_i h2; rw [if_neg h2] at h; exact absurd rfl h
set_option maxRecDepth 100000 in
set_option maxHeartbeats 2000000 in
theorem ralike7 (D : List Int) (a : Option Addr) (n cap q p : Nat) (hn : Hid (D.length = n)) (w : World) (hs : Seg w a D) (hqp : q ≤ p) (hp : p ≤ n) (hl : n ≤ 1152921504606846976) :
    Calls Try.prog 39 #[.slice a n cap, .int .i64 (q : Int), .int .i64 (p : Int)] w fun e w' => e = .returned (.int .i64 (al7 D q p : Int)) ∧ Below w.heap.size w w' := by
  have HS : Hid (Seg w a D) := hs
  clear hs
  go_enter Try.func39, Try.ntmps39
  go_wp2_with fail
  go_loopw [7] (fun ti wr => ∃ i : Nat, i ≤ 258 ∧ p + i ≤ n ∧ ti = .int .i64 (i : Int) ∧ Hid (al7 D q p = alg7 D q p (258 - i) i) ∧ Below w.heap.size w wr) (fun ti _ => 258 - (intOf ti).toNat)
  case atStart => exact ⟨0, by omega, by omega, rfl, (show _ = _ by rfl), Below.refl _ _⟩
  case round =>
    obtain ⟨i, hi, hpi, rfl, HA, BR⟩ := hrel
    have HI : Hid (alg7 D q p 0 i = i) := rfl
    by_cases h258 : i < 258
    · have h258i : (i : Int) < 258 := by omega
      have hw1 : IntKind.i64.wrap ((p : Int) + (i : Int)) = ((p + i : Nat) : Int) := by rw [IntWalk.i64_in _ (by omega)]; omega
      have hw2 : IntKind.i64.wrap ((q : Int) + (i : Int)) = ((q + i : Nat) : Int) := by rw [IntWalk.i64_in _ (by omega)]; omega
      have HU : Hid (alg7 D q p (258 - i) i = if p + i < D.length ∧ D.getD (q + i) 0 = D.getD (p + i) 0 then alg7 D q p (258 - (i + 1)) (i + 1) else i) := by
        show _ = _
        rw [show 258 - i = 258 - (i + 1) + 1 by omega, alg7]
      obtain ⟨x, hx⟩ : ∃ x, x = p + i := ⟨_, rfl⟩
      obtain ⟨y, hy⟩ : ∃ y, y = q + i := ⟨_, rfl⟩
      rw [← hx] at hw1
      rw [← hy] at hw2
      have HX : Hid (x = p + i) := hx
      have HY : Hid (y = q + i) := hy
      rw [← hx, ← hy] at HU
      by_cases hlt : x < n
      · have hlti : (x : Int) < (n : Int) := by omega
        have hylt : (y : Int) < (n : Int) := by omega
        have sg : Seg wr a D := (show Seg w a D from HS.out).below BR (show Seg w a D from HS.out).lt
        obtain ⟨g, off, rfl, cx⟩ := sg.at_ x (by rw [hn.out]; omega)
        obtain ⟨g', off', hgg, cy⟩ := sg.at_ y (by rw [hn.out]; omega)
        cases hgg
        have bx := sg.bd x
        have byy := sg.bd y
        rw [hn.out] at HU
        have hxi : (p : Int) + (i : Int) = (x : Int) := by omega
        have hyi : (q : Int) + (i : Int) = (y : Int) := by omega
        clear hx hy sg
        generalize D.getD x 0 = ux at *
        generalize D.getD y 0 = uy at *
        by_cases he : uy = ux
        · have HU2 : Hid (al7 D q p = alg7 D q p (258 - (i + 1)) (i + 1)) := by
            show _ = _
            rw [HA.out, HU.out, if_pos ⟨hlt, he⟩]
          have hx1 : p + (i + 1) ≤ n := by have := HX.out; omega
          clear HU HA
          go_wp2_with fail
          go_quiet (fail)
          go_wp2
          go_roundw
          case rel => exact ⟨i + 1, by omega, by omega, by go_num, HU2, ⟨BR.os, BR.tape, BR.output, BR.size, BR.block⟩⟩
          case measure => simp [intOf]; omega
        · have HU2 : Hid (al7 D q p = i) := by
            show _ = _
            rw [HA.out, HU.out, if_neg (fun e => he e.2)]
          clear HU HA
          go_wp2_with fail
          go_quiet (fail)
          go_wp2
          go_ret
          exact ⟨by rw [HU2.out]; rfl, ⟨BR.os, BR.tape, BR.output, BR.size, BR.block⟩⟩
      · have hlti : ¬ (x : Int) < (n : Int) := by omega
        have HU2 : Hid (al7 D q p = i) := by
          show _ = _
          rw [HA.out, HU.out, if_neg (fun e => by rw [hn.out] at e; omega)]
        have hxi : (p : Int) + (i : Int) = (x : Int) := by omega
        clear HU HA hx hy
        go_wp2_with fail
        go_quiet (fail)
        go_wp2
        go_ret
        exact ⟨by rw [HU2.out]; rfl, ⟨BR.os, BR.tape, BR.output, BR.size, BR.block⟩⟩
    · obtain rfl : i = 258 := by omega
      have HU2 : Hid (al7 D q p = 258) := by
        show _ = _
        rw [HA.out]; rfl
      clear HA
      go_wp2_with fail
      go_quiet (fail)
      go_wp2
      go_ret
      exact ⟨by rw [HU2.out]; rfl, ⟨BR.os, BR.tape, BR.output, BR.size, BR.block⟩⟩
end Go.Proofs.Ytaipfcfmhdigfaa
