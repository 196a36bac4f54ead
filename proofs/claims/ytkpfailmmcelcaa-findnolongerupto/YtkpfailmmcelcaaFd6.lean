
import Derived.Test.YtkpfailmmcelcaaFd1
import Derived.Laws.Rows
import Derived.Deep.RegionHeld3
namespace Go.Proofs.Ytkpfailmmcelcaa
open Go.RowKit
set_option linter.unusedVariables false

/-! The landed find: common, nearOf, longest, least, Longest; the document's Longest. -/
theorem IX14.cmpn {w : World} {b n : Nat} {z : List Int} {A : List Nat} (h : IX14 w b n z A) {r : Int} {pa : Option Addr} {m pc : Nat} (hb : -9223372036854775808 ≤ r ∧ r ≤ 9223372036854775807) (hr : ¬ (0 ≤ r ∧ r < (n : Int))) :
    Calls Try.prog 51 #[.pointer (some ⟨b, 0, none⟩), .int .i64 r, .slice pa m pc] w fun e w' => e = .returned (.tuple #[.int .i64 0, .int .i64 0, .int .i64 132]) ∧ Below w.heap.size w w' := by
  obtain ⟨da, dc, aa, ac, gb, gr, h⟩ := h
  exact pcmpn13 b da dc aa ac gb gr n z A r pa m pc w h hb hr
theorem IX14.rank {w : World} {b n : Nat} {z : List Int} {A : List Nat} (h : IX14 w b n z A) {j : Nat} (hr : j < n) :
    Calls Try.prog 31 #[.pointer (some ⟨b, 0, none⟩), .int .i64 (j : Int)] w fun e w' => e = .returned (.tuple #[.int .i64 ((rk13 A j : Nat) : Int), .int .i64 0]) ∧ Below w.heap.size w w' := by
  obtain ⟨da, dc, aa, ac, gb, gr, h⟩ := h
  exact prank13 b da dc aa ac gb gr n z A j w h hr
theorem lc13_drop14 : ∀ {X p : List Int} {K : Nat}, K ≤ lc13 X p → lc13 X p = K + lc13 (X.drop K) (p.drop K)
  | X, p, 0, _ => by simp
  | [], p, K + 1, h => by rw [lc13_nil] at h; omega
  | x :: X, [], K + 1, h => by rw [lc13_nil'] at h; omega
  | x :: X, y :: p, K + 1, h => by
    by_cases e : x = y
    · have e1 : lc13 (x :: X) (y :: p) = lc13 X p + 1 := by rw [lc13, if_pos e]
      rw [e1] at h ⊢
      rw [List.drop_succ_cons, List.drop_succ_cons]
      have := lc13_drop14 (X := X) (p := p) (K := K) (by omega)
      omega
    · have e1 : lc13 (x :: X) (y :: p) = 0 := by rw [lc13, if_neg e]
      omega
theorem max_cases14 (k : Int) : (k ≤ 0 ∧ max 0 k = 0) ∨ (0 < k ∧ max 0 k = k) := by omega
/-- What a call of common answers. -/
structure Cm14 (w : World) (b : Nat) (pa : Option Addr) (m pc : Nat) (rho kap : Int) (v : Nat) : Prop where
  out : ∀ W, Below w.heap.size w W → Calls Try.prog 47 #[.pointer (some ⟨b, 0, none⟩), .int .i64 rho, .slice pa m pc, .int .i64 kap] W fun e w' => e = .returned (.int .i64 (v : Int)) ∧ Below W.heap.size W w'
set_option maxRecDepth 100000 in
set_option maxHeartbeats 1000000 in
theorem pcomn14 {b n : Nat} {z : List Int} {A : List Nat} (rho : Int) (pa : Option Addr) (m pc : Nat) (kap : Int) {w : World} (h : IX14 w b n z A) (hb : -9223372036854775808 ≤ rho ∧ rho ≤ 9223372036854775807) (hr : ¬ (0 ≤ rho ∧ rho < (n : Int))) : Cm14 w b pa m pc rho kap 0 := by
  refine ⟨fun W hB => ?_⟩
  have HA := (h.old hB).atn hb hr
  clear h
  go_enter Try.func47, Try.ntmps47
  go_wp2_with (first
    | (go_at_call 26; refine HA.mono ?_; rintro e1 w1 ⟨rfl, B1⟩))
  go_ret
  exact ⟨rfl, B1⟩
set_option maxRecDepth 100000 in
set_option maxHeartbeats 2000000 in
theorem pcom14 {b n : Nat} {z : List Int} {A : List Nat} (r : Nat) {pa : Option Addr} {p : List Int} {m pc : Nat} (kap : Int) (K : Nat) {w : World} (h : IX14 w b n z A) (hp : Seg w pa p) (hm : Hid (p.length = m)) (hmb : m ≤ 140737488351232) (hpc : m ≤ pc) (hr : r < n) (hk1 : -9223372036854775808 ≤ kap) (hK : K = kap.toNat) (hKl : K ≤ lc13 (z.drop (A.getD r 0)) p) :
    Cm14 w b pa m pc (r : Int) kap (lc13 (z.drop (A.getD r 0)) p) := by
  refine ⟨fun W hB => ?_⟩
  have h := h.old hB
  have hp := hp.old hB
  have hn24 := h.n24
  have HA := h.at_ hr
  have hat := h.ar.get hr
  have hlc := lc13_drop14 hKl
  have hl1 := lc13_le (z.drop (A.getD r 0)) p
  have hl2 := lc13_le' (z.drop (A.getD r 0)) p
  rw [List.drop_drop] at hlc
  rw [List.length_drop, h.len] at hl1
  rw [hm.out] at hl2
  have HBW : Hid (∀ W', Below W.heap.size W W' → Below w.heap.size w W') := fun W' h' => hB.trans (h'.mono hB.size)
  have hKm : K ≤ m := by omega
  have hKn : A.getD r 0 + K ≤ n := by omega
  by_cases hend : A.getD r 0 + K < n
  · have HC : Hid (∀ W' pa' pc', Below W.heap.size W W' → Seg W' pa' (p.drop K) → Calls Try.prog 51 #[.pointer (some ⟨b, 0, none⟩), .int .i64 ((A.getD r 0 + K : Nat) : Int), .slice pa' (m - K) pc'] W' fun e w' => e = .returned (.tuple #[.int .i64 (cv13 (z.drop (A.getD r 0 + K)) (p.drop K)), .int .i64 ((lc13 (z.drop (A.getD r 0 + K)) (p.drop K) : Nat) : Int), .int .i64 0]) ∧ Below W.heap.size W w') := fun W' pa' pc' hb hs => ((h.old hb).cmp hs (by show _ = _; rw [List.length_drop, hm.out]) (by omega) hend).mono fun e w' ⟨he, hB'⟩ => ⟨he, hb.trans (hB'.mono hb.size)⟩
    have HSP : Hid (∀ W', Below W.heap.size W W' → Seg W' pa p) := fun W' hb => hp.old hb
    rw [hlc]
    generalize cv13 (z.drop (A.getD r 0 + K)) (p.drop K) = cv at *
    generalize hv : lc13 (z.drop (A.getD r 0 + K)) (p.drop K) = v at *
    obtain ⟨s, hs⟩ : ∃ s, s = A.getD r 0 + K := ⟨_, rfl⟩
    rw [← hs] at HC
    have hvb : K + v ≤ 140737488351232 := by omega
    clear hlc hKl hv h hp
    generalize A.getD r 0 = at0 at *
    have hsi : (at0 : Int) + (K : Int) = (s : Int) := by omega
    rcases max_cases14 kap with ⟨k0, kmx⟩ | ⟨k0, kmx⟩
    · obtain rfl : K = 0 := by omega
      obtain rfl : s = at0 := by omega
      clear hs hK hsi kmx
      rw [Nat.sub_zero] at HC
      have kng : ¬ 0 < kap := by omega
      have HC2 : Hid (∀ W', Below W.heap.size W W' → Calls Try.prog 51 #[.pointer (some ⟨b, 0, none⟩), .int .i64 (s : Int), .slice pa m pc] W' fun e w' => e = .returned (.tuple #[.int .i64 cv, .int .i64 (v : Int), .int .i64 0]) ∧ Below W.heap.size W w') := fun W' hb => HC.out W' pa pc hb (HSP.out W' hb)
      clear HC
      cases pa with
      | none =>
        go_enter Try.func47, Try.ntmps47
        go_wp2_with (first
          | (go_at_call 26; refine HA.mono ?_; rintro e1 w1 ⟨rfl, B1⟩)
          | (go_at_call 51; refine (HC2.out w1 B1).mono ?_; rintro e2 w2 ⟨rfl, B2⟩))
        go_ret
        exact ⟨by first | rfl | simp, B2⟩
      | some ad =>
        go_enter Try.func47, Try.ntmps47
        go_wp2_with (first
          | (go_at_call 26; refine HA.mono ?_; rintro e1 w1 ⟨rfl, B1⟩)
          | (go_at_call 51; refine (HC2.out w1 B1).mono ?_; rintro e2 w2 ⟨rfl, B2⟩))
        go_ret
        exact ⟨by first | rfl | simp, B2⟩
    · obtain rfl : kap = (K : Int) := by omega
      have hsb : s ≤ n := by omega
      clear hK kmx hs
      obtain ⟨pb, po, rfl, -⟩ := (HSP.out W (Below.refl _ _)).at_ 0 (by rw [hm.out]; omega)
      by_cases hcc : pc = K
      · obtain rfl : K = m := by omega
        subst hcc
        have HC2 : Hid (∀ W' pa' l pc', Below W.heap.size W W' → l = 0 → Calls Try.prog 51 #[.pointer (some ⟨b, 0, none⟩), .int .i64 (s : Int), .slice pa' l pc'] W' fun e w' => e = .returned (.tuple #[.int .i64 cv, .int .i64 (v : Int), .int .i64 0]) ∧ Below W.heap.size W w') := fun W' pa' l pc' hb hl => by
          have := HC.out W' pa' pc' hb (by rw [List.drop_eq_nil_of_le (by rw [hm.out]; omega)]; exact SegK.nil (by decide) _ _)
          rw [hl]
          rw [Nat.sub_self] at this
          exact this
        clear HC
        go_enter Try.func47, Try.ntmps47
        go_wp2_with (first
          | (go_at_call 26; refine HA.mono ?_; rintro e1 w1 ⟨rfl, B1⟩)
          | (go_at_call 51; refine (HC2.out w1 _ _ _ B1 (by first | rfl | omega | simp)).mono ?_; rintro e2 w2 ⟨rfl, B2⟩))
        go_ret
        exact ⟨by first | rfl | simp, B2⟩
      · have HC2 : Hid (∀ W', Below W.heap.size W W' → Calls Try.prog 51 #[.pointer (some ⟨b, 0, none⟩), .int .i64 (s : Int), .slice (some ⟨pb, po + K, none⟩) (m - K) (pc - K)] W' fun e w' => e = .returned (.tuple #[.int .i64 cv, .int .i64 (v : Int), .int .i64 0]) ∧ Below W.heap.size W w') := fun W' hb => HC.out W' _ _ hb ((HSP.out W' hb).drop K)
        clear HC
        have l1 : K ≤ m := by omega
        have l2 : (K : Int) ≤ (m : Int) := by omega
        go_enter Try.func47, Try.ntmps47
        go_wp2_with (first
          | (go_at_call 26; refine HA.mono ?_; rintro e1 w1 ⟨rfl, B1⟩)
          | (go_at_call 51; refine (HC2.out w1 B1).mono ?_; rintro e2 w2 ⟨rfl, B2⟩))
        go_ret
        exact ⟨by first | rfl | simp, B2⟩
  · have HC : Hid (∀ W' pa' m' pc', Below W.heap.size W W' → Calls Try.prog 51 #[.pointer (some ⟨b, 0, none⟩), .int .i64 ((A.getD r 0 + K : Nat) : Int), .slice pa' m' pc'] W' fun e w' => e = .returned (.tuple #[.int .i64 0, .int .i64 0, .int .i64 132]) ∧ Below W.heap.size W w') := fun W' pa' m' pc' hb => ((h.old hb).cmpn (by omega) (by omega)).mono fun e w' ⟨he, hB'⟩ => ⟨he, hb.trans (hB'.mono hb.size)⟩
    have HSP : Hid (∀ W', Below W.heap.size W W' → Seg W' pa p) := fun W' hb => hp.old hb
    have hv0 : lc13 (z.drop (A.getD r 0)) p = K := by omega
    rw [hv0]
    obtain ⟨s, hs⟩ : ∃ s, s = A.getD r 0 + K := ⟨_, rfl⟩
    rw [← hs] at HC
    have hkp : 0 < K := by omega
    clear hlc hKl h hp hv0
    generalize A.getD r 0 = at0 at *
    have hsi : (at0 : Int) + (K : Int) = (s : Int) := by omega
    obtain rfl : kap = (K : Int) := by omega
    have hsb : s ≤ n := by omega
    clear hK hs
    obtain ⟨pb, po, rfl, -⟩ := (HSP.out W (Below.refl _ _)).at_ 0 (by rw [hm.out]; omega)
    have l1 : K ≤ m := by omega
    have l2 : (K : Int) ≤ (m : Int) := by omega
    have l3 : (0 : Int) < (K : Int) := by omega
    by_cases hcc : pc = K
    · subst hcc
      go_enter Try.func47, Try.ntmps47
      go_wp2_with (first
        | (go_at_call 26; refine HA.mono ?_; rintro e1 w1 ⟨rfl, B1⟩)
        | (go_at_call 51; refine (HC.out w1 _ _ _ B1).mono ?_; rintro e2 w2 ⟨rfl, B2⟩))
      go_ret
      exact ⟨by first | rfl | simp, B2⟩
    · go_enter Try.func47, Try.ntmps47
      go_wp2_with (first
        | (go_at_call 26; refine HA.mono ?_; rintro e1 w1 ⟨rfl, B1⟩)
        | (go_at_call 51; refine (HC.out w1 _ _ _ B1).mono ?_; rintro e2 w2 ⟨rfl, B2⟩))
      go_ret
      exact ⟨by first | rfl | simp, B2⟩
end Go.Proofs.Ytkpfailmmcelcaa
