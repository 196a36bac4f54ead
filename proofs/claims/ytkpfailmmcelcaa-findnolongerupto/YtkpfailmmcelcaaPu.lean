import Derived.Test.YtkpfailmmcelcaaPs
import Derived.Test.YtkpfailmmcelcaaPt
namespace Go.Proofs.Ytkpfailmmcelcaa
open Go.RowKit
set_option linter.unusedVariables false

/-! The landed find: least, Longest; the document's Longest. -/
/-- The least place of these ranks. -/
structure Le14 (A : List Nat) (lo hi v : Nat) : Prop where
  is : ∃ r, lo ≤ r ∧ r < hi ∧ A.getD r 0 = v
  le : ∀ r, lo ≤ r → r < hi → v ≤ A.getD r 0
theorem Le14.unique {A : List Nat} {lo hi v u : Nat} (h : Le14 A lo hi v) (k : Le14 A lo hi u) : v = u := by
  obtain ⟨r, h1, h2, h3⟩ := h.is
  obtain ⟨q, k1, k2, k3⟩ := k.is
  have := h.le q k1 k2
  have := k.le r h1 h2
  omega
theorem Le14.step {A : List Nat} {lo i v : Nat} (h : Le14 A lo (lo + max i 1) v) : Le14 A lo (lo + max (i + 1) 1) (min v (A.getD (lo + i) 0)) := by
  obtain ⟨r, h1, h2, h3⟩ := h.is
  refine ⟨?_, fun q k1 k2 => ?_⟩
  · by_cases c : v ≤ A.getD (lo + i) 0
    · exact ⟨r, h1, by omega, by omega⟩
    · exact ⟨lo + i, by omega, by omega, by omega⟩
  · by_cases c : q = lo + i
    · subst c; omega
    · have := h.le q k1 (by omega)
      omega
theorem Le14.hit {n : Nat} {S : Nat → Int} {A : List Nat} (hA : Ar12 n S A) {lo hi i : Nat} (hi1 : i < n) (hhn : hi ≤ n) (h : lo ≤ rk13 A i ∧ rk13 A i < hi) (hno : ∀ j, j < i → ¬ (lo ≤ rk13 A j ∧ rk13 A j < hi)) : Le14 A lo hi i := by
  refine ⟨⟨rk13 A i, h.1, h.2, (hA.rk hi1).2⟩, fun r h1 h2 => ?_⟩
  rcases Nat.lt_or_ge (A.getD r 0) i with c | c
  · exfalso
    refine hno _ c ?_
    rw [hA.rk_at (by omega)]
    exact ⟨h1, h2⟩
  · exact c
def LeQ14 (w : World) (A : List Nat) (lo hi : Nat) (e : Ending) (w' : World) : Prop := ∃ v : Nat, Le14 A lo hi v ∧ e = .returned (.int .i64 (v : Int)) ∧ Below w.heap.size w w'
set_option maxRecDepth 100000 in
set_option maxHeartbeats 4000000 in
theorem pleast14 (b n : Nat) (z : List Int) (A : List Nat) (lo hi : Nat) (w : World) (h : IX14 w b n z A) (hlh : lo < hi) (hhn : hi ≤ n) :
    Calls Try.prog 20 #[.pointer (some ⟨b, 0, none⟩), .int .i64 (lo : Int), .int .i64 (hi : Int)] w (LeQ14 w A lo hi) := by
  have hn24 := h.n24
  have HAT : Hid (∀ W r, Below w.heap.size w W → r < n → Calls Try.prog 26 #[.pointer (some ⟨b, 0, none⟩), .int .i64 (r : Int)] W fun e w' => e = .returned (.tuple #[.int .i64 ((A.getD r 0 : Nat) : Int), .int .i64 0]) ∧ Below w.heap.size w w') := fun W r hb hr => ((h.old hb).at_ hr).mono fun e w' ⟨he, hB⟩ => ⟨he, hb.trans (hB.mono hb.size)⟩
  have HRK : Hid (∀ W j, Below w.heap.size w W → j < n → Calls Try.prog 31 #[.pointer (some ⟨b, 0, none⟩), .int .i64 (j : Int)] W fun e w' => e = .returned (.tuple #[.int .i64 ((rk13 A j : Nat) : Int), .int .i64 0]) ∧ Below w.heap.size w w') := fun W j hb hr => ((h.old hb).rank hr).mono fun e w' ⟨he, hB⟩ => ⟨he, hb.trans (hB.mono hb.size)⟩
  have HAR : Hid (Ar12 n (S12 z) A) := h.ar
  have A0 := HAT.out w lo (Below.refl _ _) (by omega)
  have hat0 := h.ar.get (r := lo) (by omega)
  have HL0 : Hid (Le14 A lo (lo + max 0 1) (A.getD lo 0)) := ⟨⟨lo, by omega, by omega, rfl⟩, fun r h1 h2 => (by rw [show r = lo by omega]; exact Nat.le_refl _)⟩
  clear h
  obtain ⟨D, hD⟩ : ∃ D, D = hi - lo := ⟨_, rfl⟩
  have e1 : (hi : Int) - (lo : Int) = (D : Int) := by omega
  have hDp : 0 < D := by omega
  have hDn : lo + D = hi := by omega
  have HDN : Hid (lo + D = hi) := hDn
  have hDb : lo + D ≤ n := by omega
  clear hD hDn
  generalize hA0 : A.getD lo 0 = a0 at *
  clear hA0
  go_enter Try.func20, Try.ntmps20
  go_wp2_with (first
    | (go_at_call 26; refine A0.mono ?_; rintro e0 w0 ⟨rfl, B0⟩; clear A0))
  go_loopw [7, 23] (fun to ti wr => ∃ i v : Nat, i ≤ D ∧ to = .int .i64 v ∧ ti = .int .i64 i ∧ v < n ∧ Hid (Le14 A lo (lo + max i 1) v) ∧ Hid (∀ j, j < i → ¬ (lo ≤ rk13 A j ∧ rk13 A j < hi)) ∧ Below w.heap.size w wr) (fun _ ti _ => D - (intOf ti).toNat)
  case atStart => exact ⟨0, a0, Nat.zero_le _, rfl, rfl, hat0, HL0, (fun j hj => by omega), B0⟩
  case round =>
    obtain ⟨i, v, hi1, rfl, rfl, hvn, HL, HNO, BR⟩ := hrel
    by_cases h1 : i < D
    · have h1i : (i : Int) < (D : Int) := by omega
      have CR := HRK.out wr i BR (by omega)
      have hrk := (HAR.out.rk (j := i) (by omega)).1
      by_cases h2 : lo ≤ rk13 A i ∧ rk13 A i < hi
      · have HF : Hid (Le14 A lo hi i) := Le14.hit HAR.out (by omega) hhn h2 HNO.out
        obtain ⟨k1, k2⟩ := h2
        have k1i : (lo : Int) ≤ ((rk13 A i : Nat) : Int) := by omega
        have k2i : ((rk13 A i : Nat) : Int) < (hi : Int) := by omega
        generalize rk13 A i = rk at *
        go_wp2_with (first
          | (go_at_call 31; refine CR.mono ?_; rintro e2 w2 ⟨rfl, B2⟩; clear CR))
        go_ret
        exact ⟨i, HF.out, rfl, B2⟩
      · have HNN : Hid (∀ j, j < i + 1 → ¬ (lo ≤ rk13 A j ∧ rk13 A j < hi)) := fun j hj => by
          by_cases c : j = i
          · subst c; exact h2
          · exact HNO.out j (by omega)
        have HST : Hid (Le14 A lo (lo + max (i + 1) 1) (min v (A.getD (lo + i) 0))) := HL.out.step
        have hat2 := HAR.out.get (r := lo + i) (by omega)
        have HA2 : Hid (∀ W, Below w.heap.size w W → Calls Try.prog 26 #[.pointer (some ⟨b, 0, none⟩), .int .i64 ((lo + i : Nat) : Int)] W fun e w' => e = .returned (.tuple #[.int .i64 ((A.getD (lo + i) 0 : Nat) : Int), .int .i64 0]) ∧ Below w.heap.size w w') := fun W hb => HAT.out W (lo + i) hb (by omega)
        obtain ⟨s, hs⟩ : ∃ s, s = lo + i := ⟨_, rfl⟩
        rw [← hs] at HA2 HST hat2
        have hsi : (lo : Int) + (i : Int) = (s : Int) := by omega
        have hsn : s < n := by omega
        have hrkb : rk13 A i < n := hrk
        have hcase : rk13 A i < lo ∨ (lo ≤ rk13 A i ∧ hi ≤ rk13 A i) := by omega
        clear hs h2 hrk
        generalize A.getD s 0 = u at *
        generalize rk13 A i = rk at *
        rcases hcase with k1 | ⟨k1, k2⟩
        · have k1i : ¬ (lo : Int) ≤ (rk : Int) := by omega
          by_cases h3 : u < v
          · have h3i : (u : Int) < (v : Int) := by omega
            rw [show min v u = u by omega] at HST
            go_wp2_with (first
              | (go_at_call 31; refine CR.mono ?_; rintro e2 w2 ⟨rfl, B2⟩; clear CR)
              | (go_at_call 26; refine (HA2.out w2 B2).mono ?_; rintro e3 w3 ⟨rfl, B3⟩))
            go_roundw
            case rel => exact ⟨i + 1, u, by omega, by first | rfl | go_num, by go_num, hat2, HST, HNN, B3⟩
            case measure => simp [intOf]; omega
          · have h3i : ¬ (u : Int) < (v : Int) := by omega
            rw [show min v u = v by omega] at HST
            go_wp2_with (first
              | (go_at_call 31; refine CR.mono ?_; rintro e2 w2 ⟨rfl, B2⟩; clear CR)
              | (go_at_call 26; refine (HA2.out w2 B2).mono ?_; rintro e3 w3 ⟨rfl, B3⟩))
            go_roundw
            case rel => exact ⟨i + 1, v, by omega, by first | rfl | go_num, by go_num, hvn, HST, HNN, B3⟩
            case measure => simp [intOf]; omega
        · have k1i : (lo : Int) ≤ (rk : Int) := by omega
          have k2i : ¬ (rk : Int) < (hi : Int) := by omega
          by_cases h3 : u < v
          · have h3i : (u : Int) < (v : Int) := by omega
            rw [show min v u = u by omega] at HST
            go_wp2_with (first
              | (go_at_call 31; refine CR.mono ?_; rintro e2 w2 ⟨rfl, B2⟩; clear CR)
              | (go_at_call 26; refine (HA2.out w2 B2).mono ?_; rintro e3 w3 ⟨rfl, B3⟩))
            go_roundw
            case rel => exact ⟨i + 1, u, by omega, by first | rfl | go_num, by go_num, hat2, HST, HNN, B3⟩
            case measure => simp [intOf]; omega
          · have h3i : ¬ (u : Int) < (v : Int) := by omega
            rw [show min v u = v by omega] at HST
            go_wp2_with (first
              | (go_at_call 31; refine CR.mono ?_; rintro e2 w2 ⟨rfl, B2⟩; clear CR)
              | (go_at_call 26; refine (HA2.out w2 B2).mono ?_; rintro e3 w3 ⟨rfl, B3⟩))
            go_roundw
            case rel => exact ⟨i + 1, v, by omega, by first | rfl | go_num, by go_num, hvn, HST, HNN, B3⟩
            case measure => simp [intOf]; omega
    · have h1i : ¬ (i : Int) < (D : Int) := by omega
      obtain rfl : i = D := by omega
      have HF : Hid (Le14 A lo hi v) := by
        have := HL.out
        rw [show lo + max i 1 = hi by have := HDN.out; omega] at this
        exact this
      go_wp2_with fail
      go_ret
      exact ⟨v, HF.out, rfl, BR⟩
/-- The place of the longest beginning. -/
theorem lp_le14 {z : List Int} {A : List Nat} (hA : Ar12 z.length (S12 z) A) (p : List Int) (hm : 0 < mx14 z p) : lo14 z (p.take (mx14 z p)) < hi14 z (p.take (mx14 z p)) ∧ Le14 A (lo14 z (p.take (mx14 z p))) (hi14 z (p.take (mx14 z p))) (lp14 z p) := by
  obtain ⟨h1, h2, h3⟩ := (at14_is z p z.length).2 hm
  obtain ⟨r1, r2⟩ := hA.rk h1
  have k := (range_mx14 hA p r1).2 (by rw [r2]; exact h2)
  refine ⟨by omega, ⟨⟨rk13 A (at14 z p z.length), k.1, k.2, r2⟩, fun r g1 g2 => ?_⟩⟩
  have hr : r < z.length := by have := hi14_le z (p.take (mx14 z p)); omega
  have g3 := (range_mx14 hA p hr).1 ⟨g1, g2⟩
  rcases Nat.lt_or_ge (A.getD r 0) (lp14 z p) with c | c
  · have := h3 _ c
    unfold mx14 at g3
    omega
  · exact c
theorem lp_zero14 (z p : List Int) (h : mx14 z p = 0) : lp14 z p = 0 := (at14_is z p z.length).1 h
def LoQ14 (w : World) (z p : List Int) (e : Ending) (w' : World) : Prop := e = .returned (.tuple #[.int .i64 ((lp14 z p : Nat) : Int), .int .i64 ((mx14 z p : Nat) : Int), .int .i64 0]) ∧ Below w.heap.size w w'
set_option maxRecDepth 100000 in
set_option maxHeartbeats 2000000 in
theorem pLong14 (b n : Nat) (z : List Int) (A : List Nat) (pa : Option Addr) (p : List Int) (m pc : Nat) (w : World) (h : IX14 w b n z A) (hp : Seg w pa p) (hm : Hid (p.length = m)) (hmb : m ≤ 140737488351232) (hpc : m ≤ pc) :
    Calls Try.prog 12 #[.pointer (some ⟨b, 0, none⟩), .slice pa m pc] w (LoQ14 w z p) := by
  have HM := pmd14 b n z A w h
  have HG : Hid (∀ W, Below w.heap.size w W → Calls Try.prog 19 #[.pointer (some ⟨b, 0, none⟩), .slice pa m pc] W fun e w' => e = .returned (.tuple #[.int .i64 ((lo14 z (p.take (mx14 z p)) : Nat) : Int), .int .i64 ((hi14 z (p.take (mx14 z p)) : Nat) : Int), .int .i64 ((mx14 z p : Nat) : Int)]) ∧ Below w.heap.size w w') := fun W hb => (plgst14 b n z A pa p m pc W (h.old hb) (hp.old hb) hm hmb hpc).mono fun e w' ⟨he, hB⟩ => ⟨he, hb.trans (hB.mono hb.size)⟩
  unfold LoQ14
  by_cases c : mx14 z p = 0
  · rw [lp_zero14 z p c, c]
    rw [c] at HG
    clear h hp c
    go_enter Try.func12, Try.ntmps12
    go_wp2_with (first
      | (go_at_call 15; refine HM.mono ?_; rintro e1 w1 ⟨rfl, B1⟩; clear HM)
      | (go_at_call 19; refine (HG.out w1 B1).mono ?_; rintro e2 w2 ⟨rfl, B2⟩))
    go_ret3
    exact ⟨rfl, B2⟩
  · obtain ⟨k1, k2⟩ := lp_le14 h.arz p (by omega)
    have hhn : hi14 z (p.take (mx14 z p)) ≤ n := by rw [← h.len]; exact hi14_le _ _
    have HLE : Hid (∀ W, Below w.heap.size w W → Calls Try.prog 20 #[.pointer (some ⟨b, 0, none⟩), .int .i64 ((lo14 z (p.take (mx14 z p)) : Nat) : Int), .int .i64 ((hi14 z (p.take (mx14 z p)) : Nat) : Int)] W fun e w' => e = .returned (.int .i64 ((lp14 z p : Nat) : Int)) ∧ Below w.heap.size w w') := fun W hb => (pleast14 b n z A _ _ W (h.old hb) k1 hhn).mono fun e w' ⟨v, hv, he, hB⟩ => ⟨by rw [he, hv.unique k2], hb.trans (hB.mono hb.size)⟩
    have c2 : ¬ ((mx14 z p : Nat) : Int) = 0 := by omega
    have c3 : (((mx14 z p : Nat) : Int) == 0) = false := beq_eq_false_iff_ne.2 c2
    clear h hp k1 k2
    generalize hi14 z (p.take (mx14 z p)) = hq at *
    generalize lo14 z (p.take (mx14 z p)) = lq at *
    generalize lp14 z p = at_ at *
    generalize mx14 z p = M at *
    go_enter Try.func12, Try.ntmps12
    go_wp2_with (first
      | (go_at_call 15; refine HM.mono ?_; rintro e1 w1 ⟨rfl, B1⟩; clear HM)
      | (go_at_call 19; refine (HG.out w1 B1).mono ?_; rintro e2 w2 ⟨rfl, B2⟩)
      | (go_at_call 20; refine (HLE.out w2 B2).mono ?_; rintro e3 w3 ⟨rfl, B3⟩))
    go_ret3
    exact ⟨rfl, B3⟩
set_option maxRecDepth 100000 in
set_option maxHeartbeats 2000000 in
theorem rlong14 (da : Option Addr) (z : List Int) (n dc : Nat) (pa : Option Addr) (p : List Int) (m pc : Nat) (w : World) (hs : Seg w da z) (hp : Seg w pa p) (hn : Hid (z.length = n)) (hm : Hid (p.length = m)) (hb : n ≤ 140737488351232) (hb2 : m ≤ 140737488351232) :
    Calls Try.prog 18 #[.slice da n dc, .slice pa m pc] w fun e w' => e = .returned (.tuple #[.int .i64 ((lp14 z p : Nat) : Int), .int .i64 ((mx14 z p : Nat) : Int)]) ∧ ∃ d, w' = w.drewN d := by
  have HCO : Hid (∀ i d, i ≤ n → Calls Try.prog 30 #[.slice da n dc, .slice pa m pc, .int .i64 (i : Int)] (w.drewN d) fun e w' => e = .returned (.int .i64 ((lc13 (z.drop i) p : Nat) : Int)) ∧ ∃ d, w' = w.drewN d) := fun i d hi => (rcomm14 da z n dc pa p m pc i _ (hs.drewN d) (hp.drewN d) hn hm hb hb2 hi).mono fun e w' ⟨he, d2, hd⟩ => ⟨he, d + d2, by rw [hd, drewN14]⟩
  have HLO : Hid (lp14 z p = at14 z p n ∧ mx14 z p = mp14 z p n) := by show _ ∧ _; unfold lp14 mx14; rw [hn.out]; exact ⟨rfl, rfl⟩
  have HML : Hid (∀ i, mp14 z p i ≤ m ∧ lc13 (z.drop i) p ≤ m) := fun i => ⟨by rw [← hm.out]; exact mp14_le z p i, by rw [← hm.out]; exact lc13_le' _ _⟩
  have HST : Hid (∀ i, mp14 z p (i + 1) = max (mp14 z p i) (lc13 (z.drop i) p) ∧ at14 z p (i + 1) = if mp14 z p i < lc13 (z.drop i) p then i else at14 z p i) := fun i => ⟨rfl, rfl⟩
  rw [HLO.out.1, HLO.out.2]
  clear hs hp
  go_enter Try.func18, Try.ntmps18
  go_wp2_with fail
  go_loopw [6, 7, 8] (fun ta tm ti wr => ∃ i at_ mo : Nat, i ≤ n ∧ ta = .int .i64 at_ ∧ tm = .int .i64 mo ∧ ti = .int .i64 i ∧ Hid (at_ = at14 z p i) ∧ Hid (mo = mp14 z p i) ∧ ∃ d, wr = w.drewN d) (fun _ _ ti _ => n - (intOf ti).toNat)
  case atStart => exact ⟨0, 0, 0, Nat.zero_le _, rfl, rfl, rfl, (rfl : _ = _), (rfl : _ = _), 0, rfl⟩
  case round =>
    obtain ⟨i, at_, mo, hin, rfl, rfl, rfl, HA, HM, d, hd⟩ := hrel
    by_cases h1 : i < n
    · have h1i : (i : Int) < (n : Int) := by omega
      have C1 := HCO.out i d hin
      rw [← hd] at C1
      obtain ⟨s1, s2⟩ := HST.out i
      have hb3 := HML.out i
      have HS1 : Hid (mp14 z p (i + 1) = max (mp14 z p i) (lc13 (z.drop i) p)) := s1
      have HS2 : Hid (at14 z p (i + 1) = if mp14 z p i < lc13 (z.drop i) p then i else at14 z p i) := s2
      rw [← HM.out] at HS1 HS2 hb3
      rw [← HA.out] at HS2
      clear s1 s2 hd
      generalize lc13 (z.drop i) p = v at *
      by_cases hv : mo < v
      · have hvi : (mo : Int) < (v : Int) := by omega
        have N1 : Hid (v = mp14 z p (i + 1)) := by show _ = _; rw [HS1.out]; omega
        have N2 : Hid (i = at14 z p (i + 1)) := by show _ = _; rw [HS2.out, if_pos hv]
        clear HS1 HS2
        go_wp2_with (first
          | (go_at_call 30; refine C1.mono ?_; rintro e1 w1 ⟨rfl, d2, hd2⟩; have HD : Hid (w1 = w.drewN d2) := hd2; clear hd2 C1))
        go_roundw
        case rel => exact ⟨i + 1, i, v, by omega, by first | rfl | go_num, by first | rfl | go_num, by go_num, N2, N1, d2, HD.out⟩
        case measure => simp [intOf]; omega
      · have hvi : ¬ (mo : Int) < (v : Int) := by omega
        have N1 : Hid (mo = mp14 z p (i + 1)) := by show _ = _; rw [HS1.out]; omega
        have N2 : Hid (at_ = at14 z p (i + 1)) := by show _ = _; rw [HS2.out, if_neg hv]
        clear HS1 HS2
        go_wp2_with (first
          | (go_at_call 30; refine C1.mono ?_; rintro e1 w1 ⟨rfl, d2, hd2⟩; have HD : Hid (w1 = w.drewN d2) := hd2; clear hd2 C1))
        go_roundw
        case rel => exact ⟨i + 1, at_, mo, by omega, by first | rfl | go_num, by first | rfl | go_num, by go_num, N2, N1, d2, HD.out⟩
        case measure => simp [intOf]; omega
    · have h1i : ¬ (i : Int) < (n : Int) := by omega
      obtain rfl : i = n := by omega
      have HD : Hid (wr = w.drewN d) := hd
      clear hd
      go_wp2_with fail
      refine bodyPost_ret (results_tmp2 rfl _ _ _) rfl ?_
      exact ⟨by rw [← HA.out, ← HM.out]; rfl, d, HD.out⟩
end Go.Proofs.Ytkpfailmmcelcaa
