import Derived.Test.YtboangeopbblnaaPx
namespace Go.Proofs.Ytboangeopbblnaa
open Go.RowKit
set_option linter.unusedVariables false
set_option linter.unusedSimpArgs false
set_option maxRecDepth 100000
set_option maxRecDepth 100000 in
set_option maxHeartbeats 4000000 in
theorem purseRises_walk (w : World) (p : Int) (p1 : -9223372036854775808 ≤ p) (p2 : p ≤ 9223372036854775807) (q : Int) (q1 : -9223372036854775808 ≤ q) (q2 : q ≤ 9223372036854775807) (k : Int) (k1 : -9223372036854775808 ≤ k) (k2 : k ≤ 9223372036854775807) :
    Calls Try.prog 7 #[.int .i64 p, .int .i64 q, .int .i64 k] w fun e w' => e = .returned (.bool true) ∧ Below w.heap.size w w' := by
  by_cases h : 64 ≤ p ∧ p < 4096 ∧ 64 ≤ q ∧ q < 65536 ∧ 1 ≤ k ∧ k < 32768
  · have HQ : ∀ (p q k : Int), 64 ≤ p ∧ p ≤ 4096 → 64 ≤ q ∧ q ≤ 65536 → 1 ≤ k ∧ k ≤ 32768 → ∀ W, Calls Try.prog 19 #[.int .i64 p, .int .i64 q, .int .i64 k] W fun e w' => e = .returned (.int .i64 (p + 8 * q + k + 3963)) ∧ Below W.heap.size W w' := by
      intro p q k hp hq hk W
      obtain ⟨K, hK⟩ : ∃ K : Nat, k = (K : Int) := ⟨k.toNat, by omega⟩
      subst hK
      exact pbnd23 p q K hp hq (by omega) W
    obtain ⟨P, hP⟩ : ∃ P, P = p + 1 := ⟨_, rfl⟩
    obtain ⟨Q, hQ⟩ : ∃ Q, Q = q + 1 := ⟨_, rfl⟩
    obtain ⟨M, hM⟩ : ∃ M, M = k + 1 := ⟨_, rfl⟩
    obtain ⟨A, hA⟩ : ∃ A, A = p + 8 * q + k + 3963 := ⟨_, rfl⟩
    obtain ⟨A1, hA1⟩ : ∃ A1, A1 = P + 8 * q + k + 3963 := ⟨_, rfl⟩
    obtain ⟨A2, hA2⟩ : ∃ A2, A2 = p + 8 * Q + k + 3963 := ⟨_, rfl⟩
    obtain ⟨A3, hA3⟩ : ∃ A3, A3 = p + 8 * q + M + 3963 := ⟨_, rfl⟩
    have H0 : Hid (∀ W, Calls Try.prog 19 #[.int .i64 p, .int .i64 q, .int .i64 k] W fun e w' => e = .returned (.int .i64 A) ∧ Below W.heap.size W w') := fun W => by rw [hA]; exact HQ p q k (by omega) (by omega) (by omega) W
    have H1 : Hid (∀ W, Calls Try.prog 19 #[.int .i64 P, .int .i64 q, .int .i64 k] W fun e w' => e = .returned (.int .i64 A1) ∧ Below W.heap.size W w') := fun W => by rw [hA1]; exact HQ P q k (by omega) (by omega) (by omega) W
    have H2 : Hid (∀ W, Calls Try.prog 19 #[.int .i64 p, .int .i64 Q, .int .i64 k] W fun e w' => e = .returned (.int .i64 A2) ∧ Below W.heap.size W w') := fun W => by rw [hA2]; exact HQ p Q k (by omega) (by omega) (by omega) W
    have H3 : Hid (∀ W, Calls Try.prog 19 #[.int .i64 p, .int .i64 q, .int .i64 M] W fun e w' => e = .returned (.int .i64 A3) ∧ Below W.heap.size W w') := fun W => by rw [hA3]; exact HQ p q M (by omega) (by omega) (by omega) W
    have g0 : 0 < A := by omega
    have g1 : A < A1 := by omega
    have g2 : A < A2 := by omega
    have g3 : A < A3 := by omega
    have r1 : IntKind.i64.wrap (p + 1) = P := by rw [hP]; exact IntWalk.i64_in _ (by omega)
    have r2 : IntKind.i64.wrap (q + 1) = Q := by rw [hQ]; exact IntWalk.i64_in _ (by omega)
    have r3 : IntKind.i64.wrap (k + 1) = M := by rw [hM]; exact IntWalk.i64_in _ (by omega)
    have t1 : ¬ p < 64 := by omega
    have t2 : ¬ 4096 ≤ p := by omega
    have t3 : ¬ q < 64 := by omega
    have t4 : ¬ 65536 ≤ q := by omega
    have t5 : ¬ k < 1 := by omega
    have t6 : ¬ 32768 ≤ k := by omega
    clear HQ h p1 p2 q1 q2 k1 k2 hP hQ hM hA hA1 hA2 hA3
    go_enter Try.func7, Try.ntmps7
    go_wp2_with fail
    refine (H0.out _).mono ?_
    rintro e w0 ⟨rfl, hb0⟩
    have B0 : Hid (Below w.heap.size w w0) := hb0
    clear hb0
    go_wp2_with fail
    refine (H1.out _).mono ?_
    rintro e w1 ⟨rfl, hb1⟩
    have B1 : Hid (Below w.heap.size w w1) := B0.out.trans (hb1.mono B0.out.size)
    clear hb1
    go_wp2_with fail
    refine (H2.out _).mono ?_
    rintro e w2 ⟨rfl, hb2⟩
    have B2 : Hid (Below w.heap.size w w2) := B1.out.trans (hb2.mono B1.out.size)
    clear hb2
    go_wp2_with fail
    refine (H3.out _).mono ?_
    rintro e w3 ⟨rfl, hb3⟩
    have B3 : Hid (Below w.heap.size w w3) := B2.out.trans (hb3.mono B2.out.size)
    clear hb3
    go_wp2_with fail
    refine (H0.out _).mono ?_
    rintro e w4 ⟨rfl, hb4⟩
    have B4 : Hid (Below w.heap.size w w4) := B3.out.trans (hb4.mono B3.out.size)
    clear hb4
    go_wp2_with fail
    refine (pliv23 _).mono ?_
    rintro e w5 ⟨rfl, hb5⟩
    have B5 : Hid (Below w.heap.size w w5) := B4.out.trans (hb5.mono B4.out.size)
    clear hb5
    go_wp2_with fail
    go_ret
    exact ⟨rfl, B5.out⟩
  · obtain ⟨A, HB, hA⟩ : ∃ A : Int, (∀ W, Calls Try.prog 19 #[.int .i64 p, .int .i64 q, .int .i64 k] W fun e w' => e = .returned (.int .i64 A) ∧ Below W.heap.size W w') ∧ 0 ≤ A := by
      by_cases c : 64 ≤ p ∧ p ≤ 4096 ∧ 64 ≤ q ∧ q ≤ 65536 ∧ 1 ≤ k ∧ k ≤ 32768
      · obtain ⟨K, hK⟩ : ∃ K : Nat, k = (K : Int) := ⟨k.toNat, by omega⟩
        subst hK
        exact ⟨_, fun W => pbnd23 p q K (by omega) (by omega) (by omega) W, by omega⟩
      · refine ⟨0, fun W => (pbnd23_no p q k c W).mono ?_, by omega⟩
        rintro e w' ⟨rfl, rfl⟩
        exact ⟨rfl, Below.refl _ _⟩
    have HT : Hid (¬ (64 ≤ p ∧ p < 4096 ∧ 64 ≤ q ∧ q < 65536 ∧ 1 ≤ k ∧ k < 32768)) := h
    have HC : Hid (∀ W, Calls Try.prog 19 #[.int .i64 p, .int .i64 q, .int .i64 k] W fun e w' => e = .returned (.int .i64 A) ∧ Below W.heap.size W w') := HB
    clear h HB
    go_enter Try.func7, Try.ntmps7
    go_wp2_with (first
      | (go_at_call 19; refine (HC.out _).mono ?_; rintro e w1 ⟨rfl, hb1⟩; clear HC; have B1 : Hid (Below w.heap.size w w1) := hb1; clear hb1)
      | (go_at_call 9; refine (pliv23 _).mono ?_; rintro e w2 ⟨rfl, hb⟩))
    all_goals first
      | (exfalso; have := HT.out; omega)
      | (go_ret; exact ⟨rfl, B1.out.trans (hb.mono B1.out.size)⟩)
end Go.Proofs.Ytboangeopbblnaa
