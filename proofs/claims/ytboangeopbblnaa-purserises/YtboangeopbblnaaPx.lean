import Derived.Test.YtboangeopbblnaaPi
import Derived.Test.YtboangeopbblnaaPw
namespace Go.Proofs.Ytboangeopbblnaa
open Go.RowKit
set_option linter.unusedVariables false
set_option linter.unusedSimpArgs false
set_option maxRecDepth 100000
set_option maxRecDepth 100000 in
theorem pisw23 (x : Int) (h : 64 ≤ x ∧ x ≤ 65536) (w : World) : Calls Try.prog 38 #[.int .i64 x] w fun e w' => e = .returned (.bool true) ∧ w' = w := by
  have h1 : 64 ≤ x := h.1
  have h2 : x ≤ 65536 := h.2
  clear h
  go_enter Try.func38, Try.ntmps38
  go_wp2_with fail
  go_ret
  exact ⟨by simp [h2], rfl⟩
set_option maxRecDepth 100000 in
theorem pmos23 (x : Int) (h : 64 ≤ x ∧ x ≤ 65536) (w : World) : Calls Try.prog 21 #[.int .i64 x] w fun e w' => e = .returned (.int .i64 (6 * x)) ∧ w' = w := by
  have H := pisw23 x h
  have q : IntKind.i64.wrap (6 * x) = 6 * x := IntWalk.i64_in _ (by omega)
  clear h
  go_enter Try.func21, Try.ntmps21
  go_wp2_with (go_at_call 38; refine (H _).mono ?_; rintro e w' ⟨rfl, hw⟩; subst w')
  go_ret
  exact ⟨by simp [q], rfl⟩
set_option maxRecDepth 100000 in
/-- A parser just made. -/
theorem pprn23 (w : World) : Calls Try.prog 23 #[] w fun e w' => e = .returned (.pointer (some ⟨w.heap.size, 0, none⟩)) ∧ (w'.cell? ⟨w.heap.size, 0, none⟩ = some (.int .u32 0) ∧ w'.cell? ⟨w.heap.size, 3, none⟩ = some (.int .i64 1)) ∧ Below w.heap.size w w' := by
  have hc : ∀ cs : Array Value, cs[0]? = some (.int .u32 0) → cs[3]? = some (.int .i64 1) → (w.alloc (.cells cs 87)).cell? ⟨w.heap.size, 0, none⟩ = some (.int .u32 0) ∧ (w.alloc (.cells cs 87)).cell? ⟨w.heap.size, 3, none⟩ = some (.int .i64 1) := by
    intro cs h0 h3
    have hb := new_blk23 w (.cells cs 87)
    simp only [World.cell?, hb]
    exact ⟨h0, h3⟩
  have HC : Hid (∀ cs : Array Value, cs[0]? = some (.int .u32 0) → cs[3]? = some (.int .i64 1) → (w.alloc (.cells cs 87)).cell? ⟨w.heap.size, 0, none⟩ = some (.int .u32 0) ∧ (w.alloc (.cells cs 87)).cell? ⟨w.heap.size, 3, none⟩ = some (.int .i64 1)) := hc
  clear hc
  go_enter Try.func23, Try.ntmps23
  go_wp2_with fail
  go_ret
  exact ⟨rfl, HC.out _ rfl rfl, (Below.refl _ _).alloc (Nat.le_refl _) _⟩
set_option maxRecDepth 100000 in
theorem prdy23 (b : Nat) (w : World) (c0 : w.cell? ⟨b, 0, none⟩ = some (.int .u32 0)) (c3 : w.cell? ⟨b, 3, none⟩ = some (.int .i64 1)) : Calls Try.prog 41 #[.pointer (some ⟨b, 0, none⟩)] w fun e w' => e = .returned (.bool true) ∧ w' = w := by
  go_enter Try.func41, Try.ntmps41
  go_wp2_with fail
  go_ret
  exact ⟨rfl, rfl⟩
set_option maxRecDepth 100000 in
theorem prom23 (b : Nat) (w : World) (c0 : w.cell? ⟨b, 0, none⟩ = some (.int .u32 0)) (c3 : w.cell? ⟨b, 3, none⟩ = some (.int .i64 1)) : Calls Try.prog 24 #[.pointer (some ⟨b, 0, none⟩)] w fun e w' => e = .returned (.int .i64 64) ∧ w' = w := by
  have H := prdy23 b w c0 c3
  go_enter Try.func24, Try.ntmps24
  go_wp2_with (go_at_call 41; refine H.mono ?_; rintro e w' ⟨rfl, hw⟩; subst w')
  go_ret
  exact ⟨rfl, rfl⟩
set_option maxRecDepth 100000 in
set_option maxHeartbeats 4000000 in
theorem pbnd23 (p q : Int) (k : Nat) (hp : 64 ≤ p ∧ p ≤ 4096) (hq : 64 ≤ q ∧ q ≤ 65536) (hk : 1 ≤ k ∧ k ≤ 32768) (w : World) :
    Calls Try.prog 19 #[.int .i64 p, .int .i64 q, .int .i64 (k : Int)] w fun e w' => e = .returned (.int .i64 (p + 8 * q + (k : Int) + 3963)) ∧ Below w.heap.size w w' := by
  have HP : Hid (Calls Try.prog 34 #[.int .i64 p, .int .i64 64, .int .i64 4096] w fun e w' => e = .returned (.bool true) ∧ w' = w) := pwith23 p _ _ hp w
  have HQ : Hid (Calls Try.prog 34 #[.int .i64 q, .int .i64 64, .int .i64 65536] w fun e w' => e = .returned (.bool true) ∧ w' = w) := pwith23 q _ _ hq w
  have HK : Hid (Calls Try.prog 34 #[.int .i64 (k : Int), .int .i64 1, .int .i64 32768] w fun e w' => e = .returned (.bool true) ∧ w' = w) := pwith23 k _ _ (by omega) w
  have HM : Hid (∀ W, Calls Try.prog 21 #[.int .i64 q] W fun e w' => e = .returned (.int .i64 (6 * q)) ∧ w' = W) := pmos23 q hq
  have HN := pnew11 k hk.1 hk.2 0 (by omega) w
  have q1 : IntKind.i64.wrap (2 * q) = 2 * q := IntWalk.i64_in _ (by omega)
  have q2 : IntKind.i64.wrap (p + 2 * q) = p + 2 * q := IntWalk.i64_in _ (by omega)
  have q3 : IntKind.i64.wrap (p + 2 * q + 6 * q) = p + 2 * q + 6 * q := IntWalk.i64_in _ (by omega)
  have q4 : IntKind.i64.wrap (p + 2 * q + 6 * q + (3835 + (k : Int))) = p + 2 * q + 6 * q + (3835 + (k : Int)) := IntWalk.i64_in _ (by omega)
  have q5 : IntKind.i64.wrap (p + 2 * q + 6 * q + (3835 + (k : Int)) + 64) = p + 2 * q + 6 * q + (3835 + (k : Int)) + 64 := IntWalk.i64_in _ (by omega)
  have q6 : IntKind.i64.wrap (p + 2 * q + 6 * q + (3835 + (k : Int)) + 64 + 64) = p + 2 * q + 6 * q + (3835 + (k : Int)) + 64 + 64 := IntWalk.i64_in _ (by omega)
  clear hp hq hk
  go_enter Try.func19, Try.ntmps19
  go_wp2_with fail
  refine HP.out.mono ?_
  rintro e w' ⟨rfl, hw⟩
  subst w'
  go_wp2_with fail
  refine HQ.out.mono ?_
  rintro e w' ⟨rfl, hw⟩
  subst w'
  go_wp2_with fail
  refine HK.out.mono ?_
  rintro e w' ⟨rfl, hw⟩
  subst w'
  go_wp2_with fail
  refine HN.mono ?_
  rintro e w1 ⟨bs, b, g, dl, dd, hd, rfl, h1, h2, h3, h4, h5, h6, h7⟩
  have HR : Hid (Calls Try.prog 22 #[.pointer (some ⟨bs, 0, none⟩)] w1 fun e w' => e = .returned (.int .i64 (3835 + (k : Int))) ∧ Below w1.heap.size w1 w') := proom11 h1 h2 h3 h4 h5
  have B1 : Hid (Below w.heap.size w w1) := h7
  clear h1 h2 h3 h4 h5 h6 h7 HN
  go_wp2_with fail
  refine (HM.out _).mono ?_
  rintro e w' ⟨rfl, hw⟩
  subst w'
  go_wp2_with fail
  refine HR.out.mono ?_
  rintro e w2 ⟨rfl, hb2⟩
  have B2 : Hid (Below w.heap.size w w2) := B1.out.trans (hb2.mono B1.out.size)
  clear hb2
  go_wp2_with fail
  refine (pprn23 w2).mono ?_
  rintro e w3 ⟨rfl, ⟨d0, d3⟩, hb3⟩
  have B3 : Hid (Below w.heap.size w w3) := B2.out.trans (hb3.mono B2.out.size)
  clear hb3
  go_wp2_with fail
  refine (prom23 _ w3 d0 d3).mono ?_
  rintro e w' ⟨rfl, hw⟩
  subst w'
  go_wp2_with fail
  go_ret
  refine ⟨?_, B3.out⟩
  show Ending.returned (.int .i64 (p + 2 * q + 6 * q + (3835 + (k : Int)) + 64 + 64)) = _
  rw [show p + 2 * q + 6 * q + (3835 + (k : Int)) + 64 + 64 = p + 8 * q + (k : Int) + 3963 by omega]
set_option maxRecDepth 100000 in
theorem pbnd23_no (p q k : Int) (h : ¬ (64 ≤ p ∧ p ≤ 4096 ∧ 64 ≤ q ∧ q ≤ 65536 ∧ 1 ≤ k ∧ k ≤ 32768)) (w : World) :
    Calls Try.prog 19 #[.int .i64 p, .int .i64 q, .int .i64 k] w fun e w' => e = .returned (.int .i64 0) ∧ w' = w := by
  by_cases hp : 64 ≤ p ∧ p ≤ 4096
  · by_cases hq : 64 ≤ q ∧ q ≤ 65536
    · have HP := pwith23 p _ _ hp w
      have HQ := pwith23 q _ _ hq w
      have HK := pwith23_no k 1 32768 (by omega) w
      clear h hp hq
      go_enter Try.func19, Try.ntmps19
      go_wp2_with fail
      refine HP.mono ?_
      rintro e w' ⟨rfl, hw⟩
      subst w'
      go_wp2_with fail
      refine HQ.mono ?_
      rintro e w' ⟨rfl, hw⟩
      subst w'
      go_wp2_with fail
      refine HK.mono ?_
      rintro e w' ⟨rfl, hw⟩
      subst w'
      go_wp2_with fail
      go_ret
      exact ⟨rfl, rfl⟩
    · have HP := pwith23 p _ _ hp w
      have HQ := pwith23_no q 64 65536 (by omega) w
      clear h hp hq
      go_enter Try.func19, Try.ntmps19
      go_wp2_with fail
      refine HP.mono ?_
      rintro e w' ⟨rfl, hw⟩
      subst w'
      go_wp2_with fail
      refine HQ.mono ?_
      rintro e w' ⟨rfl, hw⟩
      subst w'
      go_wp2_with fail
      go_ret
      exact ⟨rfl, rfl⟩
  · have HP := pwith23_no p 64 4096 (by omega) w
    clear h hp
    go_enter Try.func19, Try.ntmps19
    go_wp2_with fail
    refine HP.mono ?_
    rintro e w' ⟨rfl, hw⟩
    subst w'
    go_wp2_with fail
    go_ret
    exact ⟨rfl, rfl⟩
end Go.Proofs.Ytboangeopbblnaa
