
import Derived.Test.YtkpfailmmcelcaaSu4
import Derived.Test.YtkpfailmmcelcaaSu3
import Derived.Test.YtkpfailmmcelcaaSuM7
namespace Go.Proofs.Ytkpfailmmcelcaa
open Go.RowKit
set_option linter.unusedVariables false

/-! The landed Compare. -/
set_option maxRecDepth 100000 in
set_option maxHeartbeats 4000000 in
theorem pcmp13 (b : Nat) (da : Option Addr) (dc : Nat) (aa : Option Addr) (ac gb gr n : Nat) (z : List Int) (A : List Nat) (i : Nat) (pa : Option Addr) (p : List Int) (m pc : Nat) (w : World) (h : Ix13 w b da dc aa ac gb gr n z A) (hp : Seg w pa p) (hm : Hid (p.length = m)) (hmb : m ≤ 9223372036854775807) (hi : i < n) :
    Calls Try.prog 51 #[.pointer (some ⟨b, 0, none⟩), .int .i64 (i : Int), .slice pa m pc] w fun e w' => e = .returned (.tuple #[.int .i64 (cv13 (z.drop i) p), .int .i64 ((lc13 (z.drop i) p : Nat) : Int), .int .i64 0]) ∧ Below w.heap.size w w' := by
  have hn24 := h.n24
  have B1 : Below w.heap.size w (w.alloc (.cells #[.int .i64 (i : Int)] 3)) := (Below.refl _ _).alloc (Nat.le_refl _) _
  have HR := pref13 b da dc aa ac gb gr n z A (some ⟨w.heap.size, 0, none⟩) [(i : Int)] 1 1 _ (h.old B1) (segZ_lit13 w _ (by omega)) (rfl : _ = _) (by omega)
  rw [er13_one, if_pos (by omega)] at HR
  obtain ⟨xb, off, rfl, c3⟩ := h.dat.at_ i (by rw [h.len]; exact hi)
  have hln : Hid (z.length = n) := h.len
  have HC1 : Hid (∀ W, Below w.heap.size w W → W.cell? ⟨b, 0, none⟩ = some (.slice (some ⟨xb, off, none⟩) n dc) ∧ Seg W (some ⟨xb, off + i, none⟩) (z.drop i) ∧ Seg W pa p) := fun W hW => ⟨(h.old hW).c0, (h.old hW).dat.drop i, hp.old hW⟩
  have HSM : Hid (∀ W, Below w.heap.size w W → Calls Try.prog 56 #[.slice (some ⟨xb, off + i, none⟩) (n - i) (dc - i), .slice pa m pc, .int .i64 0] W fun e w' => e = .returned (.int .i64 ((lc13 (z.drop i) p : Nat) : Int)) ∧ ∃ d, w' = W.drewN d) := fun W hW =>
    psame13 _ (z.drop i) (n - i) _ pa p m pc 0 W (HC1.out W hW).2.1 (HC1.out W hW).2.2 (by show _ = _; rw [List.length_drop, hln.out]) hm (by omega) hmb (Nat.zero_le _)
  have hii : (i : Int) < (n : Int) := by omega
  have hdc := h.dle
  have l1 : i ≤ n := by omega
  have l3 : ¬ dc = i := by omega
  have HDL : Hid ((z.drop i).length = n - i) := by show _ = _; rw [List.length_drop, hln.out]
  have HLX : Hid (lc13 (z.drop i) p ≤ n - i ∧ lc13 (z.drop i) p ≤ m) := ⟨by rw [← HDL.out]; exact lc13_le _ _, by rw [← hm.out]; exact lc13_le' _ _⟩
  clear h hp c3
  generalize hX : z.drop i = X at *
  clear hX
  have HIFF : Hid (¬ lc13 X p = m → (LL12 X p ↔ (lc13 X p = n - i ∨ X.getD (lc13 X p) 0 < p.getD (lc13 X p) 0))) := fun h => by
    have := ll_iff13 X p (by rw [hm.out]; exact h)
    rw [HDL.out] at this
    exact this
  by_cases h1 : lc13 X p = m
  · have HV : Hid (cv13 X p = 0) := cv13_zero (by rw [hm.out]; exact h1)
    rw [HV.out]
    rw [h1] at HSM ⊢
    clear h1 HIFF HLX
    go_enter Try.func51, Try.ntmps51
    go_wp2_with (first
      | (go_at_call 41; refine HR.mono ?_; rintro e1 w2 ⟨rfl, hw1⟩; rw [← hw1] at B1; clear hw1 HR; obtain ⟨c0, -, -⟩ := HC1.out w2 B1)
      | (go_at_call 56; refine (HSM.out w2 B1).mono ?_; rintro e2 w3 ⟨rfl, d, hd⟩; have B3 : Below w.heap.size w w3 := (by rw [hd]; exact B1.trans ⟨rfl, rfl, rfl, Nat.le_refl _, fun _ _ => rfl⟩); clear hd))
    go_ret3
    exact ⟨rfl, B3⟩
  · have h1i : ¬ ((lc13 X p : Nat) : Int) = (m : Int) := by omega
    have h1b : (((lc13 X p : Nat) : Int) == (m : Int)) = false := beq_eq_false_iff_ne.2 h1i
    have hlm : ((lc13 X p : Nat) : Int) < (m : Int) := by have := HLX.out; omega
    have HPC : Hid (∀ W, Below w.heap.size w W → ∃ pb po, pa = some ⟨pb, po, none⟩ ∧ W.cell? ⟨pb, po + lc13 X p, none⟩ = some (.int .u8 (p.getD (lc13 X p) 0)) ∧ 0 ≤ p.getD (lc13 X p) 0 ∧ p.getD (lc13 X p) 0 ≤ 255) := fun W hW => by
      obtain ⟨pb, po, q1, q2⟩ := (HC1.out W hW).2.2.at_ (lc13 X p) (by rw [hm.out]; omega)
      exact ⟨pb, po, q1, q2, (HC1.out W hW).2.2.bd _⟩
    obtain ⟨pb, po, rfl, -, pbd⟩ := HPC.out w (Below.refl _ _)
    have HPD : Hid (∀ W, Below w.heap.size w W → W.cell? ⟨pb, po + lc13 X p, none⟩ = some (.int .u8 (p.getD (lc13 X p) 0))) := fun W hW => by
      obtain ⟨pb', po', q1, q2, -⟩ := HPC.out W hW
      cases q1
      exact q2
    by_cases h3 : lc13 X p = n - i
    · have HV : Hid (cv13 X p = -1) := cv13_less (by rw [hm.out]; exact h1) ((HIFF.out h1).2 (Or.inl h3))
      rw [HV.out]
      have h3b : (((lc13 X p : Nat) : Int) == ((n - i : Nat) : Int)) = true := by rw [h3]; simp
      have h3c : ((lc13 X p : Nat) : Int) = ((n - i : Nat) : Int) := by omega
      clear h1 HIFF HLX HPC HPD
      generalize lc13 X p = v at *
      subst h3
      clear h3b h3c
      go_enter Try.func51, Try.ntmps51
      go_wp2_with (first
        | (go_at_call 41; refine HR.mono ?_; rintro e1 w2 ⟨rfl, hw1⟩; rw [← hw1] at B1; clear hw1 HR; obtain ⟨c0, -, -⟩ := HC1.out w2 B1)
        | (go_at_call 56; refine (HSM.out w2 B1).mono ?_; rintro e2 w3 ⟨rfl, d, hd⟩; have B3 : Below w.heap.size w w3 := (by rw [hd]; exact B1.trans ⟨rfl, rfl, rfl, Nat.le_refl _, fun _ _ => rfl⟩); clear hd))
      go_quiet (fail)
      go_wp2_with fail
      go_ret3
      exact ⟨rfl, B3.trans ⟨rfl, rfl, rfl, Nat.le_refl _, fun _ _ => rfl⟩⟩
    · have h3b : (((lc13 X p : Nat) : Int) == ((n - i : Nat) : Int)) = false := beq_eq_false_iff_ne.2 (by omega)
      have h3l : ((lc13 X p : Nat) : Int) < ((n - i : Nat) : Int) := by have := HLX.out; omega
      have HXD : Hid (∀ W, Below w.heap.size w W → W.cell? ⟨xb, off + i + lc13 X p, none⟩ = some (.int .u8 (X.getD (lc13 X p) 0)) ∧ 0 ≤ X.getD (lc13 X p) 0 ∧ X.getD (lc13 X p) 0 ≤ 255) := fun W hW => by
        obtain ⟨b', o', q1, q2⟩ := (HC1.out W hW).2.1.at_ (lc13 X p) (by rw [HDL.out]; have := HLX.out; omega)
        cases q1
        exact ⟨q2, (HC1.out W hW).2.1.bd _⟩
      have xbd := (HXD.out w (Below.refl _ _)).2
      have HCV : Hid (cv13 X p = if X.getD (lc13 X p) 0 < p.getD (lc13 X p) 0 then -1 else 1) := by
        show _ = _
        by_cases h4 : X.getD (lc13 X p) 0 < p.getD (lc13 X p) 0
        · rw [if_pos h4]; exact cv13_less (by rw [hm.out]; exact h1) ((HIFF.out h1).2 (Or.inr h4))
        · rw [if_neg h4]
          refine cv13_more (by rw [hm.out]; exact h1) fun k => ?_
          rcases (HIFF.out h1).1 k with c | c
          · exact h3 c
          · exact h4 c
      rw [HCV.out]
      clear h1 h3 HIFF HPC HCV
      have hvb : lc13 X p ≤ 16777216 := by have := HLX.out; omega
      clear HLX
      generalize X.getD (lc13 X p) 0 = x1 at *
      generalize p.getD (lc13 X p) 0 = y1 at *
      generalize lc13 X p = v at *
      by_cases h4 : x1 < y1
      · rw [if_pos h4]
        go_enter Try.func51, Try.ntmps51
        go_wp2_with (first
          | (go_at_call 41; refine HR.mono ?_; rintro e1 w2 ⟨rfl, hw1⟩; rw [← hw1] at B1; clear hw1 HR; obtain ⟨c0, -, -⟩ := HC1.out w2 B1)
          | (go_at_call 56; refine (HSM.out w2 B1).mono ?_; rintro e2 w3 ⟨rfl, d, hd⟩; have B3 : Below w.heap.size w w3 := (by rw [hd]; exact B1.trans ⟨rfl, rfl, rfl, Nat.le_refl _, fun _ _ => rfl⟩); clear hd; have c5 := (HXD.out w3 B3).1; have c6 := HPD.out w3 B3))
        go_quiet (fail)
        go_wp2_with fail
        go_ret3
        exact ⟨rfl, B3.trans ⟨rfl, rfl, rfl, Nat.le_refl _, fun _ _ => rfl⟩⟩
      · rw [if_neg h4]
        have h4b : decide (x1 < y1) = false := decide_eq_false h4
        go_enter Try.func51, Try.ntmps51
        go_wp2_with (first
          | (go_at_call 41; refine HR.mono ?_; rintro e1 w2 ⟨rfl, hw1⟩; rw [← hw1] at B1; clear hw1 HR; obtain ⟨c0, -, -⟩ := HC1.out w2 B1)
          | (go_at_call 56; refine (HSM.out w2 B1).mono ?_; rintro e2 w3 ⟨rfl, d, hd⟩; have B3 : Below w.heap.size w w3 := (by rw [hd]; exact B1.trans ⟨rfl, rfl, rfl, Nat.le_refl _, fun _ _ => rfl⟩); clear hd; have c5 := (HXD.out w3 B3).1; have c6 := HPD.out w3 B3))
        have h4c : decide (x1 < y1) = false := decide_eq_false (by omega)
        have h4d : ¬ x1 < y1 := by omega
        go_quiet (fail)
        go_wp2_with fail
        go_ret3
        exact ⟨rfl, B3.trans ⟨rfl, rfl, rfl, Nat.le_refl _, fun _ _ => rfl⟩⟩
set_option maxRecDepth 100000 in
set_option maxHeartbeats 1000000 in
theorem pcmpn13 (b : Nat) (da : Option Addr) (dc : Nat) (aa : Option Addr) (ac gb gr n : Nat) (z : List Int) (A : List Nat) (r : Int) (pa : Option Addr) (m pc : Nat) (w : World) (h : Ix13 w b da dc aa ac gb gr n z A) (hb : -9223372036854775808 ≤ r ∧ r ≤ 9223372036854775807) (hr : ¬ (0 ≤ r ∧ r < (n : Int))) :
    Calls Try.prog 51 #[.pointer (some ⟨b, 0, none⟩), .int .i64 r, .slice pa m pc] w fun e w' => e = .returned (.tuple #[.int .i64 0, .int .i64 0, .int .i64 132]) ∧ Below w.heap.size w w' := by
  have B1 : Below w.heap.size w (w.alloc (.cells #[.int .i64 r] 3)) := (Below.refl _ _).alloc (Nat.le_refl _) _
  have HR := pref13 b da dc aa ac gb gr n z A (some ⟨w.heap.size, 0, none⟩) [r] 1 1 _ (h.old B1) (segZ_lit13 w _ hb) (rfl : _ = _) (by omega)
  rw [er13_one, if_neg hr] at HR
  clear h hr
  go_enter Try.func51, Try.ntmps51
  go_wp2_with (first
    | (go_at_call 41; refine HR.mono ?_; rintro e1 w2 ⟨rfl, hw1⟩; rw [← hw1] at B1; clear hw1))
  go_ret3
  exact ⟨rfl, B1⟩
end Go.Proofs.Ytkpfailmmcelcaa
