import Derived.Test.YtidcdbdlaonoeaaPaw
import Derived.Test.YtidcdbdlaonoeaaPax
import Derived.Test.YtidcdbdlaonoeaaPav
import Derived.Laws.Rows
import Derived.Deep.RegionHeld3
namespace Go.Proofs.Ytidcdbdlaonoeaa
open Go.RowKit
set_option linter.unusedVariables false

/-! Distinct: the landed one, the document's; the document's common. -/
theorem IX14.lcp {w : World} {b n : Nat} {z : List Int} {A : List Nat} (h : IX14 w b n z A) :
    Calls Try.prog 23 #[.pointer (some ⟨b, 0, none⟩)] w fun e w' => ∃ g, e = .returned (.slice (some ⟨g, 0, none⟩) n n) ∧ Rz12 w' g (lp13 z A) ∧ Below w.heap.size w w' := by
  obtain ⟨da, dc, aa, ac, gb, gr, h⟩ := h
  exact (plcp13 b da dc aa ac gb gr n z A w h).mono fun e w' ⟨g, he, hR, _, hB⟩ => ⟨g, he, hR, hB⟩
set_option maxRecDepth 100000 in
set_option maxHeartbeats 2000000 in
theorem pdist14 (b n : Nat) (z : List Int) (A : List Nat) (w : World) (h : IX14 w b n z A) :
    Calls Try.prog 21 #[.pointer (some ⟨b, 0, none⟩)] w fun e w' => e = .returned (.tuple #[.int .i64 ((ks13 z A n : Nat) : Int), .int .i64 0]) ∧ Below w.heap.size w w' := by
  have HM := pmd14 b n z A w h
  have hn24 := h.n24
  have hn : Hid (z.length = n) := h.len
  have HL : Hid (∀ W, Below w.heap.size w W → Calls Try.prog 27 #[.pointer (some ⟨b, 0, none⟩)] W fun e w' => e = .returned (.int .i64 (n : Int)) ∧ w' = W) := fun W hb => (h.old hb).len_
  have HP : Hid (∀ W, Below w.heap.size w W → Calls Try.prog 23 #[.pointer (some ⟨b, 0, none⟩)] W fun e w' => ∃ g, e = .returned (.slice (some ⟨g, 0, none⟩) n n) ∧ Rz12 w' g (lp13 z A) ∧ Below w.heap.size w w') := fun W hb => (h.old hb).lcp.mono fun e w' ⟨g, he, hR, hB⟩ => ⟨g, he, hR, hb.trans (hB.mono hb.size)⟩
  have hz := dt14_zero h.arz
  have hle := dt14_le z A
  have hend := dt14_end z A
  have hst : ∀ r, r < n → dt14 z A (r + 1) + lv13 z A r = dt14 z A r := fun r hr => dt14_step (by rw [hn.out]; exact hr)
  rw [hn.out] at hz hend
  have HST : Hid (∀ r, r < n → dt14 z A (r + 1) + lv13 z A r = dt14 z A r) := hst
  have HLE : Hid (∀ r, dt14 z A r ≤ dt14 z A 0) := hle
  rw [← hend]
  clear hst hle hend h
  have hT2 : n * (n + 1) ≤ 16777216 * 16777217 := Nat.mul_le_mul hn24 (by omega)
  obtain ⟨T2, hT⟩ : ∃ T2, T2 = n * (n + 1) := ⟨_, rfl⟩
  have hm1 : (n : Int) * ((n : Int) + 1) = (T2 : Int) := by rw [hT]; push_cast; rfl
  rw [← hT] at hz hT2
  obtain ⟨T0, hT0⟩ : ∃ T0, T0 = dt14 z A 0 := ⟨_, rfl⟩
  have HT0 : Hid (T0 = dt14 z A 0) := hT0
  rw [← hT0] at hz
  clear hT hT0
  have i1 : IntKind.i64.wrap ((n : Int) * ((n : Int) + 1)) = (T2 : Int) := by rw [hm1]; exact IntWalk.i64_in _ (by omega)
  have i2 : (T2 : Int).tdiv 2 = (T0 : Int) := by rw [Int.tdiv_eq_ediv_of_nonneg (by omega)]; omega
  have i3 : (T2 : Int) / 2 = (T0 : Int) := by omega
  have hT0b : T0 ≤ 281474993487872 := by omega
  clear hz hm1
  go_enter Try.func21, Try.ntmps21
  go_wp2_with (first
    | (go_at_call 25; refine HM.mono ?_; rintro e1 w1 ⟨rfl, B1⟩; clear HM)
    | (go_at_call 27; refine (HL.out w1 B1).mono ?_; rintro e2 w2 ⟨rfl, hw2⟩; subst hw2)
    | (go_at_call 23; refine (HP.out w2 B1).mono ?_; rintro e3 w3 ⟨g, rfl, hR, B3⟩))
  have HR : Hid (∀ r, r < n → w3.cell? ⟨g, r, none⟩ = some (.int .i64 ((lv13 z A r : Nat) : Int))) := fun r hr => by
    have := hR.cell (i := r) (by rw [lp13_len, hn.out]; exact hr)
    rw [lp13_get (by rw [hn.out]; exact hr)] at this
    exact this
  clear hR
  go_loopw [5, 21] (fun tt ti wr => ∃ r t : Nat, r ≤ n ∧ tt = .int .i64 t ∧ ti = .int .i64 r ∧ Hid (t = dt14 z A r) ∧ wr = w3) (fun _ ti _ => n - (intOf ti).toNat)
  case atStart => exact ⟨0, T0, Nat.zero_le _, by first | rfl | go_num, rfl, HT0, rfl⟩
  case round =>
    obtain ⟨r, t, hr, rfl, rfl, HD, hw⟩ := hrel
    subst hw
    by_cases h1 : r < n
    · have h1i : (r : Int) < (n : Int) := by omega
      have c1 := HR.out r h1
      have hs := HST.out r h1
      have ht0 := HLE.out r
      rw [← HD.out] at hs ht0
      rw [← HT0.out] at ht0
      obtain ⟨t', ht'⟩ : ∃ t', t' = dt14 z A (r + 1) := ⟨_, rfl⟩
      have HT' : Hid (t' = dt14 z A (r + 1)) := ht'
      rw [← ht'] at hs
      clear ht'
      generalize lv13 z A r = v at *
      have e1 : (t : Int) - (v : Int) = (t' : Int) := by omega
      have hvb : v ≤ 281474993487872 := by omega
      clear hs
      go_wp2_with fail
      go_roundw
      case rel => exact ⟨r + 1, t', by omega, by first | rfl | go_num, by go_num, HT', by first | trivial | rfl⟩
      case measure => simp [intOf]; omega
    · have h1i : ¬ (r : Int) < (n : Int) := by omega
      obtain rfl : r = n := by omega
      go_wp2_with fail
      refine bodyPost_ret (results_tmp2 rfl _ _ _) rfl ?_
      exact ⟨by rw [← HD.out]; rfl, B3⟩
set_option maxRecDepth 100000 in
set_option maxHeartbeats 2000000 in
theorem rcomm14 (da : Option Addr) (z : List Int) (n dc : Nat) (pa : Option Addr) (p : List Int) (m pc : Nat) (at_ : Nat) (w : World) (hs : Seg w da z) (hp : Seg w pa p) (hn : Hid (z.length = n)) (hm : Hid (p.length = m)) (hb : n ≤ 140737488351232) (hb2 : m ≤ 140737488351232) (hat : at_ ≤ n) :
    Calls Try.prog 37 #[.slice da n dc, .slice pa m pc, .int .i64 (at_ : Int)] w fun e w' => e = .returned (.int .i64 ((lc13 (z.drop at_) p : Nat) : Int)) ∧ ∃ d, w' = w.drewN d := by
  have KEY : Hid (∀ wr, (∃ d, wr = w.drewN d) → Seg wr da z ∧ Seg wr pa p) := by
    rintro wr ⟨d, rfl⟩
    exact ⟨hs.drewN d, hp.drewN d⟩
  have HL : Hid (lc13 (z.drop at_) p ≤ m ∧ lc13 (z.drop at_) p ≤ n - at_) := ⟨by rw [← hm.out]; exact lc13_le' _ _, by rw [← hn.out, ← List.length_drop]; exact lc13_le _ _⟩
  have HMO : Hid (∀ i, i ≤ lc13 (z.drop at_) p → i < m → at_ + i < n → z.getD (at_ + i) 0 = p.getD i 0 → i + 1 ≤ lc13 (z.drop at_) p) := fun i h1 h2 h3 h4 => (cv_at14 hn.out hm.out hat h1 h2).2.1 h3 h4
  have HSP : Hid (∀ i, i ≤ lc13 (z.drop at_) p → ¬ z.getD (at_ + i) 0 = p.getD i 0 → lc13 (z.drop at_) p = i) := fun i h1 h4 => lc13_stop h1 (by rw [drop_get14]; exact h4)
  clear hs hp
  generalize lc13 (z.drop at_) p = lc at *
  go_enter Try.func37, Try.ntmps37
  go_wp2_with fail
  go_loopw [7] (fun ti wr => ∃ i : Nat, Hid (i ≤ lc) ∧ ti = .int .i64 i ∧ ∃ d, wr = w.drewN d) (fun ti _ => m - (intOf ti).toNat)
  case atStart => exact ⟨0, Nat.zero_le _, rfl, 0, rfl⟩
  case round =>
    obtain ⟨i, HI, rfl, hd⟩ := hrel
    obtain ⟨sx, sy⟩ := KEY.out wr hd
    obtain ⟨d, hd⟩ := hd
    have HD : Hid (wr = w.drewN d) := hd
    clear hd
    have hib : i ≤ m := by have := HL.out; have := HI.out; omega
    by_cases h1 : i < m
    · have h1i : (i : Int) < (m : Int) := by omega
      obtain ⟨s, hsm⟩ : ∃ s, s = at_ + i := ⟨_, rfl⟩
      have hsi : (at_ : Int) + (i : Int) = (s : Int) := by omega
      have hsw : IntKind.i64.wrap ((at_ : Int) + (i : Int)) = (s : Int) := by rw [hsi]; exact IntWalk.i64_in _ (by omega)
      by_cases h2 : s < n
      · have h2j : (s : Int) < (n : Int) := by omega
        obtain ⟨b1, o1, rfl, c1⟩ := sx.at_ s (by rw [hn.out]; omega)
        obtain ⟨b2, o2, rfl, c2⟩ := sy.at_ i (by rw [hm.out]; omega)
        have v1 := sx.bd s
        have v2 := sy.bd i
        have HEQ : Hid (z.getD s 0 = p.getD i 0 → i + 1 ≤ lc) := fun h => HMO.out i HI.out h1 (by omega) (by rw [← hsm]; exact h)
        have HNE : Hid (¬ z.getD s 0 = p.getD i 0 → lc = i) := fun h => HSP.out i HI.out (by rw [← hsm]; exact h)
        clear sx sy hsm
        generalize z.getD s 0 = x at *
        generalize p.getD i 0 = y at *
        have g1 : decide ((i : Int) < (m : Int)) = true := decide_eq_true h1i
        have g2 : decide ((s : Int) < (n : Int)) = true := decide_eq_true h2j
        by_cases hxy : x = y
        · subst hxy
          have HEQ2 : Hid (i + 1 ≤ lc) := HEQ.out rfl
          clear HEQ HNE
          go_wp2_with fail
          go_quiet (fail)
          go_wp2_with fail
          go_roundw
          case rel => exact ⟨i + 1, HEQ2, by go_num, d + nq, by rw [HD.out, drewN14]⟩
          case measure => simp [intOf]; omega
        · have HNE2 : Hid (lc = i) := HNE.out hxy
          have g3 : (x == y) = false := beq_eq_false_iff_ne.2 hxy
          clear HEQ HNE
          go_wp2_with fail
          go_quiet (fail)
          go_wp2_with fail
          go_ret
          exact ⟨by rw [HNE2.out]; rfl, d + nq, by rw [HD.out, drewN14]⟩
      · have h2j : ¬ (s : Int) < (n : Int) := by omega
        have g1 : decide ((i : Int) < (m : Int)) = true := decide_eq_true h1i
        have g2 : decide ((s : Int) < (n : Int)) = false := decide_eq_false h2j
        have HNE2 : Hid (lc = i) := by show _ = _; have := HL.out; have := HI.out; omega
        clear hsm
        go_wp2_with fail
        go_quiet (fail)
        go_wp2_with fail
        go_ret
        exact ⟨by rw [HNE2.out]; rfl, d + nq, by rw [HD.out, drewN14]⟩
    · have h1i : ¬ (i : Int) < (m : Int) := by omega
      have g1 : decide ((i : Int) < (m : Int)) = false := decide_eq_false h1i
      have HNE2 : Hid (lc = i) := by show _ = _; have := HL.out; have := HI.out; omega
      go_wp2_with fail
      go_quiet (fail)
      go_wp2_with fail
      go_ret
      exact ⟨by rw [HNE2.out]; rfl, d + nq, by rw [HD.out, drewN14]⟩
end Go.Proofs.Ytidcdbdlaonoeaa

namespace Go.Proofs.Ytidcdbdlaonoeaa
open Go.RowKit
set_option linter.unusedVariables false

/-! The landed find: common, nearOf, longest, least, Longest; the document's Longest. -/
theorem IX14.cmpn {w : World} {b n : Nat} {z : List Int} {A : List Nat} (h : IX14 w b n z A) {r : Int} {pa : Option Addr} {m pc : Nat} (hb : -9223372036854775808 ≤ r ∧ r ≤ 9223372036854775807) (hr : ¬ (0 ≤ r ∧ r < (n : Int))) :
    Calls Try.prog 54 #[.pointer (some ⟨b, 0, none⟩), .int .i64 r, .slice pa m pc] w fun e w' => e = .returned (.tuple #[.int .i64 0, .int .i64 0, .int .i64 132]) ∧ Below w.heap.size w w' := by
  obtain ⟨da, dc, aa, ac, gb, gr, h⟩ := h
  exact pcmpn13 b da dc aa ac gb gr n z A r pa m pc w h hb hr
theorem IX14.rank {w : World} {b n : Nat} {z : List Int} {A : List Nat} (h : IX14 w b n z A) {j : Nat} (hr : j < n) :
    Calls Try.prog 50 #[.pointer (some ⟨b, 0, none⟩), .int .i64 (j : Int)] w fun e w' => e = .returned (.tuple #[.int .i64 ((rk13 A j : Nat) : Int), .int .i64 0]) ∧ Below w.heap.size w w' := by
  obtain ⟨da, dc, aa, ac, gb, gr, h⟩ := h
  exact prank13 b da dc aa ac gb gr n z A j w h hr
theorem lc13_drop14 : ∀ {X p : List Int} {K : Nat}, K ≤ lc13 X p → lc13 X p = K + lc13 (X.drop K) (p.drop K)
  | X, p, 0, _ => by simp
  | [], p, K + 1, h => by rw [lc13_nil] at h; omega
  | x :: X, [], K + 1, h => by rw [lc13_nil'] at h; omega
  | x :: X, y :: p, K + 1, h => by
    by_cases e : x = y
    · have e1 : lc13 (x :: X) (y :: p) = lc13 X p + 1 := by rw [lc13, if_pos e]
      rw [e1] at h ⊢
      rw [List.drop_succ_cons, List.drop_succ_cons]
      have := lc13_drop14 (X := X) (p := p) (K := K) (by omega)
      omega
    · have e1 : lc13 (x :: X) (y :: p) = 0 := by rw [lc13, if_neg e]
      omega
theorem max_cases14 (k : Int) : (k ≤ 0 ∧ max 0 k = 0) ∨ (0 < k ∧ max 0 k = k) := by omega
/-- What a call of common answers. -/
structure Cm14 (w : World) (b : Nat) (pa : Option Addr) (m pc : Nat) (rho kap : Int) (v : Nat) : Prop where
  out : ∀ W, Below w.heap.size w W → Calls Try.prog 66 #[.pointer (some ⟨b, 0, none⟩), .int .i64 rho, .slice pa m pc, .int .i64 kap] W fun e w' => e = .returned (.int .i64 (v : Int)) ∧ Below W.heap.size W w'
set_option maxRecDepth 100000 in
set_option maxHeartbeats 1000000 in
theorem pcomn14 {b n : Nat} {z : List Int} {A : List Nat} (rho : Int) (pa : Option Addr) (m pc : Nat) (kap : Int) {w : World} (h : IX14 w b n z A) (hb : -9223372036854775808 ≤ rho ∧ rho ≤ 9223372036854775807) (hr : ¬ (0 ≤ rho ∧ rho < (n : Int))) : Cm14 w b pa m pc rho kap 0 := by
  refine ⟨fun W hB => ?_⟩
  have HA := (h.old hB).atn hb hr
  clear h
  go_enter Try.func66, Try.ntmps66
  go_wp2_with (first
    | (go_at_call 33; refine HA.mono ?_; rintro e1 w1 ⟨rfl, B1⟩))
  go_ret
  exact ⟨rfl, B1⟩
set_option maxRecDepth 100000 in
set_option maxHeartbeats 2000000 in
theorem pcom14 {b n : Nat} {z : List Int} {A : List Nat} (r : Nat) {pa : Option Addr} {p : List Int} {m pc : Nat} (kap : Int) (K : Nat) {w : World} (h : IX14 w b n z A) (hp : Seg w pa p) (hm : Hid (p.length = m)) (hmb : m ≤ 140737488351232) (hpc : m ≤ pc) (hr : r < n) (hk1 : -9223372036854775808 ≤ kap) (hK : K = kap.toNat) (hKl : K ≤ lc13 (z.drop (A.getD r 0)) p) :
    Cm14 w b pa m pc (r : Int) kap (lc13 (z.drop (A.getD r 0)) p) := by
  refine ⟨fun W hB => ?_⟩
  have h := h.old hB
  have hp := hp.old hB
  have hn24 := h.n24
  have HA := h.at_ hr
  have hat := h.ar.get hr
  have hlc := lc13_drop14 hKl
  have hl1 := lc13_le (z.drop (A.getD r 0)) p
  have hl2 := lc13_le' (z.drop (A.getD r 0)) p
  rw [List.drop_drop] at hlc
  rw [List.length_drop, h.len] at hl1
  rw [hm.out] at hl2
  have HBW : Hid (∀ W', Below W.heap.size W W' → Below w.heap.size w W') := fun W' h' => hB.trans (h'.mono hB.size)
  have hKm : K ≤ m := by omega
  have hKn : A.getD r 0 + K ≤ n := by omega
  by_cases hend : A.getD r 0 + K < n
  · have HC : Hid (∀ W' pa' pc', Below W.heap.size W W' → Seg W' pa' (p.drop K) → Calls Try.prog 54 #[.pointer (some ⟨b, 0, none⟩), .int .i64 ((A.getD r 0 + K : Nat) : Int), .slice pa' (m - K) pc'] W' fun e w' => e = .returned (.tuple #[.int .i64 (cv13 (z.drop (A.getD r 0 + K)) (p.drop K)), .int .i64 ((lc13 (z.drop (A.getD r 0 + K)) (p.drop K) : Nat) : Int), .int .i64 0]) ∧ Below W.heap.size W w') := fun W' pa' pc' hb hs => ((h.old hb).cmp hs (by show _ = _; rw [List.length_drop, hm.out]) (by omega) hend).mono fun e w' ⟨he, hB'⟩ => ⟨he, hb.trans (hB'.mono hb.size)⟩
    have HSP : Hid (∀ W', Below W.heap.size W W' → Seg W' pa p) := fun W' hb => hp.old hb
    rw [hlc]
    generalize cv13 (z.drop (A.getD r 0 + K)) (p.drop K) = cv at *
    generalize hv : lc13 (z.drop (A.getD r 0 + K)) (p.drop K) = v at *
    obtain ⟨s, hs⟩ : ∃ s, s = A.getD r 0 + K := ⟨_, rfl⟩
    rw [← hs] at HC
    have hvb : K + v ≤ 140737488351232 := by omega
    clear hlc hKl hv h hp
    generalize A.getD r 0 = at0 at *
    have hsi : (at0 : Int) + (K : Int) = (s : Int) := by omega
    rcases max_cases14 kap with ⟨k0, kmx⟩ | ⟨k0, kmx⟩
    · obtain rfl : K = 0 := by omega
      obtain rfl : s = at0 := by omega
      clear hs hK hsi kmx
      rw [Nat.sub_zero] at HC
      have kng : ¬ 0 < kap := by omega
      have HC2 : Hid (∀ W', Below W.heap.size W W' → Calls Try.prog 54 #[.pointer (some ⟨b, 0, none⟩), .int .i64 (s : Int), .slice pa m pc] W' fun e w' => e = .returned (.tuple #[.int .i64 cv, .int .i64 (v : Int), .int .i64 0]) ∧ Below W.heap.size W w') := fun W' hb => HC.out W' pa pc hb (HSP.out W' hb)
      clear HC
      cases pa with
      | none =>
        go_enter Try.func66, Try.ntmps66
        go_wp2_with (first
          | (go_at_call 33; refine HA.mono ?_; rintro e1 w1 ⟨rfl, B1⟩)
          | (go_at_call 54; refine (HC2.out w1 B1).mono ?_; rintro e2 w2 ⟨rfl, B2⟩))
        go_ret
        exact ⟨by first | rfl | simp, B2⟩
      | some ad =>
        go_enter Try.func66, Try.ntmps66
        go_wp2_with (first
          | (go_at_call 33; refine HA.mono ?_; rintro e1 w1 ⟨rfl, B1⟩)
          | (go_at_call 54; refine (HC2.out w1 B1).mono ?_; rintro e2 w2 ⟨rfl, B2⟩))
        go_ret
        exact ⟨by first | rfl | simp, B2⟩
    · obtain rfl : kap = (K : Int) := by omega
      have hsb : s ≤ n := by omega
      clear hK kmx hs
      obtain ⟨pb, po, rfl, -⟩ := (HSP.out W (Below.refl _ _)).at_ 0 (by rw [hm.out]; omega)
      by_cases hcc : pc = K
      · obtain rfl : K = m := by omega
        subst hcc
        have HC2 : Hid (∀ W' pa' l pc', Below W.heap.size W W' → l = 0 → Calls Try.prog 54 #[.pointer (some ⟨b, 0, none⟩), .int .i64 (s : Int), .slice pa' l pc'] W' fun e w' => e = .returned (.tuple #[.int .i64 cv, .int .i64 (v : Int), .int .i64 0]) ∧ Below W.heap.size W w') := fun W' pa' l pc' hb hl => by
          have := HC.out W' pa' pc' hb (by rw [List.drop_eq_nil_of_le (by rw [hm.out]; omega)]; exact SegK.nil (by decide) _ _)
          rw [hl]
          rw [Nat.sub_self] at this
          exact this
        clear HC
        go_enter Try.func66, Try.ntmps66
        go_wp2_with (first
          | (go_at_call 33; refine HA.mono ?_; rintro e1 w1 ⟨rfl, B1⟩)
          | (go_at_call 54; refine (HC2.out w1 _ _ _ B1 (by first | rfl | omega | simp)).mono ?_; rintro e2 w2 ⟨rfl, B2⟩))
        go_ret
        exact ⟨by first | rfl | simp, B2⟩
      · have HC2 : Hid (∀ W', Below W.heap.size W W' → Calls Try.prog 54 #[.pointer (some ⟨b, 0, none⟩), .int .i64 (s : Int), .slice (some ⟨pb, po + K, none⟩) (m - K) (pc - K)] W' fun e w' => e = .returned (.tuple #[.int .i64 cv, .int .i64 (v : Int), .int .i64 0]) ∧ Below W.heap.size W w') := fun W' hb => HC.out W' _ _ hb ((HSP.out W' hb).drop K)
        clear HC
        have l1 : K ≤ m := by omega
        have l2 : (K : Int) ≤ (m : Int) := by omega
        go_enter Try.func66, Try.ntmps66
        go_wp2_with (first
          | (go_at_call 33; refine HA.mono ?_; rintro e1 w1 ⟨rfl, B1⟩)
          | (go_at_call 54; refine (HC2.out w1 B1).mono ?_; rintro e2 w2 ⟨rfl, B2⟩))
        go_ret
        exact ⟨by first | rfl | simp, B2⟩
  · have HC : Hid (∀ W' pa' m' pc', Below W.heap.size W W' → Calls Try.prog 54 #[.pointer (some ⟨b, 0, none⟩), .int .i64 ((A.getD r 0 + K : Nat) : Int), .slice pa' m' pc'] W' fun e w' => e = .returned (.tuple #[.int .i64 0, .int .i64 0, .int .i64 132]) ∧ Below W.heap.size W w') := fun W' pa' m' pc' hb => ((h.old hb).cmpn (by omega) (by omega)).mono fun e w' ⟨he, hB'⟩ => ⟨he, hb.trans (hB'.mono hb.size)⟩
    have HSP : Hid (∀ W', Below W.heap.size W W' → Seg W' pa p) := fun W' hb => hp.old hb
    have hv0 : lc13 (z.drop (A.getD r 0)) p = K := by omega
    rw [hv0]
    obtain ⟨s, hs⟩ : ∃ s, s = A.getD r 0 + K := ⟨_, rfl⟩
    rw [← hs] at HC
    have hkp : 0 < K := by omega
    clear hlc hKl h hp hv0
    generalize A.getD r 0 = at0 at *
    have hsi : (at0 : Int) + (K : Int) = (s : Int) := by omega
    obtain rfl : kap = (K : Int) := by omega
    have hsb : s ≤ n := by omega
    clear hK hs
    obtain ⟨pb, po, rfl, -⟩ := (HSP.out W (Below.refl _ _)).at_ 0 (by rw [hm.out]; omega)
    have l1 : K ≤ m := by omega
    have l2 : (K : Int) ≤ (m : Int) := by omega
    have l3 : (0 : Int) < (K : Int) := by omega
    by_cases hcc : pc = K
    · subst hcc
      go_enter Try.func66, Try.ntmps66
      go_wp2_with (first
        | (go_at_call 33; refine HA.mono ?_; rintro e1 w1 ⟨rfl, B1⟩)
        | (go_at_call 54; refine (HC.out w1 _ _ _ B1).mono ?_; rintro e2 w2 ⟨rfl, B2⟩))
      go_ret
      exact ⟨by first | rfl | simp, B2⟩
    · go_enter Try.func66, Try.ntmps66
      go_wp2_with (first
        | (go_at_call 33; refine HA.mono ?_; rintro e1 w1 ⟨rfl, B1⟩)
        | (go_at_call 54; refine (HC.out w1 _ _ _ B1).mono ?_; rintro e2 w2 ⟨rfl, B2⟩))
      go_ret
      exact ⟨by first | rfl | simp, B2⟩
end Go.Proofs.Ytidcdbdlaonoeaa
