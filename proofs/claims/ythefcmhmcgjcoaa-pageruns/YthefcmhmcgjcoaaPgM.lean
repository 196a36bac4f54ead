import Derived.Test.YthefcmhmcgjcoaaRfJ
import Derived.Test.YthefcmhmcgjcoaaPjb
import Derived.Test.YthefcmhmcgjcoaaEdK

namespace Go.Proofs.Ythefcmhmcgjcoaa
open Go.RowKit Go.Shelf
set_option linter.unusedVariables false
set_option linter.unusedSimpArgs false

/-! The law's devices. -/
structure Dv22 where
  p : Nat
  q : Nat
  ac : Bool
  a0 : Option Addr
  l0 : List Int
  k0 : Nat
  a1 : Option Addr
  l1 : List Int
  k1 : Nat
structure Df22 (W : World) (d : Dv22) : Prop where
  s0 : Seg W d.a0 d.l0
  s1 : Seg W d.a1 d.l1
  z0 : d.l0.length ≤ d.k0
  z1 : d.l1.length ≤ d.k1
  n0 : d.a0 = none → d.k0 = 0
  n1 : d.a1 = none → d.k1 = 0
  p : d.p < 18446744073709551616
  q : d.q < 18446744073709551616
def Dv22.P (d : Dv22) : Nat := 64 + d.p % 9
def Dv22.Q (d : Dv22) : Nat := 1 + d.q % 4
def Dv22.A (d : Dv22) : Int := if d.ac then 1 else 0
def Dv22.S (d : Dv22) : Fs21 := nw21 d.P d.Q d.A (d.l0.take (d.P * d.Q)) (d.l1.take (d.P * d.Q))
theorem Dv22.bd (d : Dv22) : 64 ≤ d.P ∧ d.P ≤ 72 ∧ 1 ≤ d.Q ∧ d.Q ≤ 4 ∧ d.P * d.Q ≤ 288 := by
  have h1 : 64 ≤ d.P ∧ d.P ≤ 72 := by unfold Dv22.P; omega
  have h2 : 1 ≤ d.Q ∧ d.Q ≤ 4 := by unfold Dv22.Q; omega
  exact ⟨h1.1, h1.2, h2.1, h2.2, Nat.mul_le_mul h1.2 h2.2⟩
theorem Dv22.ok (d : Dv22) : Ok21 d.S := by
  have := d.bd
  exact ok21_new d.P d.Q d.A _ _ (by omega) (by omega) (by unfold Dv22.A; split <;> omega)
set_option maxRecDepth 100000 in
set_option maxHeartbeats 2000000 in
theorem pshape22 (d : Dv22) (w : World) (hp : d.p < 18446744073709551616) (hq : d.q < 18446744073709551616) : Calls Try.prog 43 #[.agg #[.int .u64 (d.p : Int), .int .u64 (d.q : Int), .bool d.ac, .slice d.a0 d.l0.length d.k0, .slice d.a1 d.l1.length d.k1]] w fun e w' => e = .returned (.agg #[.int .i64 (d.P : Int), .int .i64 (d.Q : Int)]) ∧ Below w.heap.size w w' := by
  obtain ⟨P, hP⟩ : ∃ P, P = d.P := ⟨_, rfl⟩
  obtain ⟨Q, hQ⟩ : ∃ Q, Q = d.Q := ⟨_, rfl⟩
  rw [← hP, ← hQ]
  have r1 : Int.tmod (d.p : Int) 9 = ((d.p % 9 : Nat) : Int) := rfl
  have r2 : Int.tmod (d.q : Int) 4 = ((d.q % 4 : Nat) : Int) := rfl
  obtain ⟨m1, hm1⟩ : ∃ m1, m1 = d.p % 9 := ⟨_, rfl⟩
  obtain ⟨m2, hm2⟩ : ∃ m2, m2 = d.q % 4 := ⟨_, rfl⟩
  rw [← hm1] at r1
  rw [← hm2] at r2
  have u1 : IntKind.u64.wrap (m1 : Int) = (m1 : Int) := IntWalk.u64_in _ (by omega)
  have u2 : IntKind.u64.wrap (m2 : Int) = (m2 : Int) := IntWalk.u64_in _ (by omega)
  have v1 : IntKind.i64.wrap (m1 : Int) = (m1 : Int) := IntWalk.i64_in _ (by omega)
  have v2 : IntKind.i64.wrap (m2 : Int) = (m2 : Int) := IntWalk.i64_in _ (by omega)
  have x1 : IntKind.i64.wrap (64 + (m1 : Int)) = (P : Int) := by rw [IntWalk.i64_in _ (by omega), hP, hm1]; unfold Dv22.P; omega
  have x2 : IntKind.i64.wrap (1 + (m2 : Int)) = (Q : Int) := by rw [IntWalk.i64_in _ (by omega), hQ, hm2]; unfold Dv22.Q; omega
  have hb : Below w.heap.size w ((w.alloc (.cells #[.int .u64 (d.p : Int), .int .u64 (d.q : Int), .bool d.ac, .slice d.a0 d.l0.length d.k0, .slice d.a1 d.l1.length d.k1] 55)).alloc (.cells #[.int .i64 (P : Int), .int .i64 (Q : Int)] 31)) := ((Below.refl _ _).alloc (Nat.le_refl _) _).alloc (by simp) _
  have hqq := heap_alloc2_new w (.cells #[.int .u64 (d.p : Int), .int .u64 (d.q : Int), .bool d.ac, .slice d.a0 d.l0.length d.k0, .slice d.a1 d.l1.length d.k1] 55) (.cells #[.int .i64 (P : Int), .int .i64 (Q : Int)] 31)
  clear hm1 hm2 hP hQ
  go_enter Try.func43, Try.ntmps43
  go_wp2_with fail
  refine bodyPost_ret (v := .agg #[.int .i64 (P : Int), .int .i64 (Q : Int)]) (results_cell_row (fn := Try.f43) (p := 2) (ty := 31) rfl _ _ (w.heap.size + 1) _ _ _ _ rfl hqq Try.underlying31 rfl (by kernel_rfl)) rfl ?_
  exact ⟨rfl, hb⟩
/-- What made leaves. -/
def Dm22 (w w' : World) (d : Dv22) (e : Ending) : Prop := ∃ f F g G, e = .returned (.tuple #[.pointer (some ⟨f, 0, none⟩), .pointer (some ⟨g, 0, none⟩), .bool true]) ∧ Fl21 w' f F d.S ∧ Rl21d w' g G d.S ∧ (∀ k, F k → w.heap.size ≤ k) ∧ (∀ k, G k → w.heap.size ≤ k) ∧ (∀ k, F k → ¬ G k) ∧ Below w.heap.size w w'
theorem slice_none22 (W : World) : (Instr.slice 22 (.slice none 0 0) none (some (.int .i64 0)) none).run Try.prog W = .ok (.slice none 0 0) W := by kernel_rfl
theorem slice_hi22 (a : Option Addr) (n k m : Nat) (hnk : n ≤ k) (hm : m ≤ k) (hn : a = none → k = 0) (W : World) : (Instr.slice 22 (.slice a n k) none (some (.int .i64 (m : Int))) none).run Try.prog W = .ok (.slice a m k) W := by
  have h1 : (m : Int) ≤ (k : Int) := by omega
  have h0 : (0 : Int) ≤ (m : Int) := by omega
  cases a with
  | none =>
    have := hn rfl
    subst this
    obtain rfl : m = 0 := by omega
    obtain rfl : n = 0 := by omega
    exact slice_none22 W
  | some x => go_simp
end Go.Proofs.Ythefcmhmcgjcoaa
