
import Derived.Test.YtjoghmdjnkdokaaDoorRfK
namespace Go.Proofs.YtjoghmdjnkdokaaDoor
open Go.RowKit Go.Shelf
set_option linter.unusedVariables false
set_option linter.unusedSimpArgs false

/-! The document's New, refused. -/
set_option maxRecDepth 100000 in
set_option maxHeartbeats 4000000 in
theorem rnewn21 {w : World} (p q ac : Int) (hp : In21 p) (hq : In21 q) (a0 a1 : Option Addr) (n0 n1 k0 k1 : Nat) (h : nwE21 p q ac n0 n1 = 210) :
    Calls Tryd.prog 8 #[.int .i64 p, .int .i64 q, .int .i64 ac, .agg #[.slice a0 n0 k0, .slice a1 n1 k1]] w fun e w' => e = .returned (.tuple #[.pointer none, .int .i64 210]) ∧ Below w.heap.size w w' := by
  have q1 := heap_alloc_new w (.cells #[.slice a0 n0 k0, .slice a1 n1 k1] 27)
  have y0 := two_cell0 q1
  have y1 := two_cell1 q1
  have HB : Hid (Below w.heap.size w (w.alloc (.cells #[.slice a0 n0 k0, .slice a1 n1 k1] 27))) := (Below.refl _ _).alloc (Nat.le_refl _) _
  clear q1
  by_cases c1 : p < 64
  · clear h
    go_enter Tryd.func8, Tryd.ntmps8
    go_wp2_with fail
    go_ret2
    exact ⟨rfl, HB.out⟩
  · skip
    by_cases c2 : 4096 < p
    · clear h
      go_enter Tryd.func8, Tryd.ntmps8
      go_wp2_with fail
      go_ret2
      exact ⟨rfl, HB.out⟩
    · skip
      by_cases c3 : q < 1
      · clear h
        go_enter Tryd.func8, Tryd.ntmps8
        go_wp2_with fail
        go_ret2
        exact ⟨rfl, HB.out⟩
      · skip
        by_cases c4 : 4096 < q
        · clear h
          go_enter Tryd.func8, Tryd.ntmps8
          go_wp2_with fail
          go_ret2
          exact ⟨rfl, HB.out⟩
        · skip
          by_cases c5 : ac < 0
          · clear h
            go_enter Tryd.func8, Tryd.ntmps8
            go_wp2_with fail
            go_ret2
            exact ⟨rfl, HB.out⟩
          · skip
            by_cases c6 : 1 < ac
            · clear h
              go_enter Tryd.func8, Tryd.ntmps8
              go_wp2_with fail
              go_ret2
              exact ⟨rfl, HB.out⟩
            · skip
              obtain ⟨P, rfl⟩ : ∃ P : Nat, p = (P : Int) := ⟨p.toNat, by omega⟩
              obtain ⟨Q, rfl⟩ : ∃ Q : Nat, q = (Q : Int) := ⟨q.toNat, by omega⟩
              obtain ⟨PQ, hPQ⟩ : ∃ PQ, PQ = P * Q := ⟨_, rfl⟩
              have hpq : PQ ≤ 16777216 := by rw [hPQ]; exact Nat.mul_le_mul (show P ≤ 4096 by omega) (show Q ≤ 4096 by omega)
              have e : (P : Int) * (Q : Int) = (PQ : Int) := by rw [hPQ]; exact (Int.natCast_mul _ _).symm
              have hmul : IntKind.i64.wrap ((P : Int) * (Q : Int)) = (PQ : Int) := by rw [e, IntWalk.i64_in _ (by omega)]
              have hmb : mb21 (P : Int) (Q : Int) = true := by unfold mb21; simp; omega
              have hc : (PQ : Int) < (n0 : Int) ∨ (PQ : Int) < (n1 : Int) := by
                unfold nwE21 at h
                rw [if_neg (by rw [hmb]; simp; omega), e] at h
                by_cases z : (PQ : Int) < (n0 : Int) ∨ (PQ : Int) < (n1 : Int)
                · exact z
                · rw [if_neg z] at h; cases h
              clear h e hPQ hpq hmb
              by_cases c7 : (PQ : Int) < (n0 : Int)
              · clear hc
                go_enter Tryd.func8, Tryd.ntmps8
                go_wp2_with fail
                go_ret2
                exact ⟨rfl, HB.out⟩
              · have c8 : (PQ : Int) < (n1 : Int) := by omega
                clear hc
                go_enter Tryd.func8, Tryd.ntmps8
                go_wp2_with fail
                go_ret2
                exact ⟨rfl, HB.out⟩
end Go.Proofs.YtjoghmdjnkdokaaDoor
