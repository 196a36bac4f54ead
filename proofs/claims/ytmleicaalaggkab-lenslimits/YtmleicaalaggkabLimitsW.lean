import Derived.Test.YtmleicaalaggkabLnLim
namespace Go.Proofs.Ytmleicaalaggkab
open Go.RowKit
set_option linter.unusedVariables false

theorem errL_at {l : Nat} {zs : List Int} (h1 : 1 ≤ l) (h15 : l ≤ 15) (hz : errOf zs = 0) (hnu : nUse zs ≤ 2 ^ l) : errL (l : Int) zs = 0 ∧ lensR (l : Int) zs = lensL l zs := by
  have h : errL (l : Int) zs = 0 := by
    unfold errL
    rw [if_neg (by omega), if_pos hz, if_neg (by rw [Int.toNat_natCast]; omega)]
  refine ⟨h, ?_⟩
  unfold lensR
  rw [if_pos h, Int.toNat_natCast]
theorem lengths_fine {l : Nat} {zs : List Int} (h1 : 1 ≤ l) (h15 : l ≤ 15) (hz : errOf zs = 0) (hnu : nUse zs ≤ 2 ^ l) (a : Option Addr) (n ca : Nat) (HN : Hid (zs.length = n)) (w : World) (hs : SegZ w a zs) (hl : n ≤ 9223372036854775807) :
    Calls Try.prog 5 #[.int .i64 (l : Int), .slice a n ca] w fun e w' => ∃ b c, e = .returned (.tuple #[.slice b n c, .int .i64 0]) ∧ SegZ w' b (lensL l zs) ∧ Below w.heap.size w w' := by
  refine (lengths_any (l : Int) a zs n ca HN w hs hl).mono ?_
  intro e w' h
  unfold LenQ at h
  obtain ⟨q1, q2⟩ := errL_at h1 h15 hz hnu
  rw [q1, q2, lens_len, HN.out] at h
  exact h
theorem lcost_ok {l : Nat} {zs : List Int} (h1 : 1 ≤ l) (h15 : l ≤ 15) (hz : errOf zs = 0) (hnu : nUse zs ≤ 2 ^ l) (a b : Option Addr) (n ca cb : Nat) (HN : Hid (zs.length = n)) (w : World) (hs : SegZ w a zs) (ht : SegZ w b (lensL l zs)) :
    Calls Try.prog 11 #[.slice a n ca, .slice b n cb] w fun e w' => e = .returned (.int .i64 (cst zs (lensL l zs) n : Nat)) ∧ Below w.heap.size w w' := by
  refine lcost_any a b zs (lensL l zs) n n ca cb HN (by show _ = _; rw [lens_len]; exact HN.out) (Nat.le_refl _) w hs ht hz ?_
  intro i hi hzi
  have := HN.out
  have := lens_all hz h1 hnu i (by omega)
  omega
theorem Cost_ok {l : Nat} {zs : List Int} (h1 : 1 ≤ l) (h15 : l ≤ 15) (hz : errOf zs = 0) (hnu : nUse zs ≤ 2 ^ l) (a b : Option Addr) (n ca cb : Nat) (HN : Hid (zs.length = n)) (w : World) (hs : SegZ w a zs) (ht : SegZ w b (lensL l zs)) :
    Calls Try.prog 9 #[.slice a n ca, .slice b n cb] w fun e w' => e = .returned (.tuple #[.int .i64 (cst zs (lensL l zs) n : Nat), .int .i64 0]) ∧ Below w.heap.size w w' := by
  have hn := HN.out
  have hll : (lensL l zs).length = n := by rw [lens_len]; exact hn
  have h288 := (errOf_zero hz).1
  have C := cost_same a b zs (lensL l zs) n ca cb HN hll w hs ht (by omega)
  obtain ⟨e1, e2⟩ := errC_ok (xs := zs) (ys := lensL l zs) (by omega) hz (fun i hi => by have := lens_all hz h1 hnu i (by omega); omega)
  rw [e1, e2, sumC_cst hz _ (fun i hi => (lens_all hz h1 hnu i (by omega)).1), hll] at C
  exact C
theorem cst_max {l : Nat} {zs : List Int} (h1 : 1 ≤ l) (h15 : l ≤ 15) (hz : errOf zs = 0) (hnu : nUse zs ≤ 2 ^ l) : cst zs (lensL l zs) zs.length ≤ 4749890231992320 := by
  have h288 := (errOf_zero hz).1
  exact Nat.le_trans (cst_le hz _ (fun i hi h => by have := lens_all hz h1 hnu i hi; omega)) (Nat.le_trans (Nat.mul_le_mul_right _ h288) (by decide))
theorem leastV_nn {zs : List Int} (hz : errOf zs = 0) : 0 ≤ leastV zs := by
  unfold leastV
  split
  · have h := used_bd (errOf_zero hz).2
    rename_i h1
    obtain ⟨x, hx⟩ := List.length_eq_one_iff.1 h1
    rw [hx] at h ⊢
    have := h x (by simp)
    simp [List.getD]
    omega
  · omega

set_option maxHeartbeats 2000000 in
theorem lensLimits_walk (w : World) (lim : Int) (hlo : -9223372036854775808 ≤ lim) (hhi : lim ≤ 9223372036854775807) (a : Option Addr) (zs : List Int) (ca : Nat) (hx : SegZ w a zs) (hc : zs.length ≤ ca) (hna : a = none → ca = 0) (hl : zs.length * 8 ≤ 140737488351232) :
    Calls Try.prog 4 #[.int .i64 lim, .slice a zs.length ca] w fun e w' => e = .returned (.bool true) ∧ Below w.heap.size w w' := by
  obtain ⟨n, hn⟩ : ∃ n, zs.length = n := ⟨_, rfl⟩
  have HN : Hid (zs.length = n) := hn
  rw [hn] at hl ⊢
  have HF : Hid (∀ W, Below w.heap.size w W → Calls Try.prog 7 #[.int .i64 lim, .slice a n ca] W fun e w' => e = .returned (.bool (decide (errL lim zs = 0))) ∧ Below w.heap.size w w') := fun W hW => (fits_any lim a zs n ca HN W (hx.old hW) (by omega)).mono fun e w' ⟨h1, h2⟩ => ⟨h1, hW.trans (h2.mono hW.size)⟩
  have CA := awake_any w
  clear hn hc
  by_cases he : errL lim zs = 0
  · obtain ⟨l, rfl, h1, h15, hz, hnu, hlr⟩ := errL_ok he
    have hn288 : n ≤ 288 := by have := (errOf_zero hz).1; have := HN.out; omega
    have e1 : decide (errL (l : Int) zs = 0) = true := decide_eq_true he
    rw [e1] at HF
    by_cases h15b : l = 15
    · subst h15b
      clear hlr he e1
      go_enter Try.func4, Try.ntmps4
      go_wp2_with fail
      refine CA.mono ?_
      rintro e w1 ⟨rfl, B1⟩
      go_wp2_with fail
      refine (HF.out _ B1).mono ?_
      rintro e w2 ⟨rfl, B2⟩
      go_wp2
      go_ret
      exact ⟨rfl, B2⟩
    · have h15n : ((l : Int) == 15) = false := by simp; omega
      have h15c : ¬ (l : Int) = 15 := by omega
      have hnu2 : nUse zs ≤ 2 ^ (l + 1) := Nat.le_trans hnu (Nat.pow_le_pow_right (by decide) (by omega))
      have h15d : l + 1 ≤ 15 := by omega
      have HL1 : Hid (∀ W, Below w.heap.size w W → Calls Try.prog 5 #[.int .i64 (l : Int), .slice a n ca] W fun e w' => ∃ b c, e = .returned (.tuple #[.slice b n c, .int .i64 0]) ∧ SegZ w' b (lensL l zs) ∧ Below w.heap.size w w') := fun W hW => (lengths_fine h1 h15 hz hnu a n ca HN W (hx.old hW) (by omega)).mono fun e w' ⟨b, c, q1, q2, q3⟩ => ⟨b, c, q1, q2, hW.trans (q3.mono hW.size)⟩
      have HL2 : Hid (∀ w1, Below w.heap.size w w1 → Calls Try.prog 5 #[.int .i64 ((l : Int) + 1), .slice a n ca] w1 fun e w' => ∃ b c, e = .returned (.tuple #[.slice b n c, .int .i64 0]) ∧ SegZ w' b (lensL (l + 1) zs) ∧ Below w1.heap.size w1 w') := fun W hW => lengths_fine (l := l + 1) (by omega) h15d hz hnu2 a n ca HN W (hx.old hW) (by omega)
      have HLE : Hid (∀ w1 W, Below w.heap.size w w1 → Below w1.heap.size w1 W → Calls Try.prog 8 #[.slice a n ca] W fun e w' => e = .returned (.tuple #[.int .i64 (leastV zs), .int .i64 0]) ∧ Below w1.heap.size w1 w') := fun w1 W hw hW => (least_fn a zs n ca HN W ((hx.old hw).old hW) (by omega)).mono fun e w' ⟨q1, q2⟩ => ⟨by rw [q1, hz]; unfold leastOf; rw [if_pos hz], hW.trans (q2.mono hW.size)⟩
      have HC1 : Hid (∀ w1 W b c, Below w.heap.size w w1 → SegZ w1 b (lensL l zs) → Below w1.heap.size w1 W → Calls Try.prog 9 #[.slice a n ca, .slice b n c] W fun e w' => e = .returned (.tuple #[.int .i64 (cst zs (lensL l zs) n : Nat), .int .i64 0]) ∧ Below w1.heap.size w1 w') := fun w1 W b c hw hs hW => (Cost_ok h1 h15 hz hnu a b n ca c HN W ((hx.old hw).old hW) (hs.old hW)).mono fun e w' ⟨q1, q2⟩ => ⟨q1, hW.trans (q2.mono hW.size)⟩
      have HC2 : Hid (∀ w1 W b c, Below w.heap.size w w1 → SegZ w1 b (lensL (l + 1) zs) → Below w1.heap.size w1 W → Calls Try.prog 9 #[.slice a n ca, .slice b n c] W fun e w' => e = .returned (.tuple #[.int .i64 (cst zs (lensL (l + 1) zs) n : Nat), .int .i64 0]) ∧ Below w1.heap.size w1 w') := fun w1 W b c hw hs hW => (Cost_ok (l := l + 1) (by omega) h15d hz hnu2 a b n ca c HN W ((hx.old hw).old hW) (hs.old hW)).mono fun e w' ⟨q1, q2⟩ => ⟨q1, hW.trans (q2.mono hW.size)⟩
      have HD1 : Hid (∀ w1 W b c, Below w.heap.size w w1 → SegZ w1 b (lensL l zs) → Below w1.heap.size w1 W → Calls Try.prog 11 #[.slice a n ca, .slice b n c] W fun e w' => e = .returned (.int .i64 (cst zs (lensL l zs) n : Nat)) ∧ Below w1.heap.size w1 w') := fun w1 W b c hw hs hW => (lcost_ok h1 h15 hz hnu a b n ca c HN W ((hx.old hw).old hW) (hs.old hW)).mono fun e w' ⟨q1, q2⟩ => ⟨q1, hW.trans (q2.mono hW.size)⟩
      have HD2 : Hid (∀ w1 W b c, Below w.heap.size w w1 → SegZ w1 b (lensL (l + 1) zs) → Below w1.heap.size w1 W → Calls Try.prog 11 #[.slice a n ca, .slice b n c] W fun e w' => e = .returned (.int .i64 (cst zs (lensL (l + 1) zs) n : Nat)) ∧ Below w1.heap.size w1 w') := fun w1 W b c hw hs hW => (lcost_ok (l := l + 1) (by omega) h15d hz hnu2 a b n ca c HN W ((hx.old hw).old hW) (hs.old hW)).mono fun e w' ⟨q1, q2⟩ => ⟨q1, hW.trans (q2.mono hW.size)⟩
      have HU : usedC zs n = nUse zs := by have := HN.out; rw [nUse_us, ← usedC_us (nn hz), this]
      have hul : nUse zs ≤ n := by rw [← HU]; exact usedC_le zs n
      have HCU : Hid (∀ w1 W, Below w.heap.size w w1 → Below w1.heap.size w1 W → Calls Try.prog 10 #[.slice a n ca] W fun e w' => e = .returned (.int .i64 (nUse zs : Nat)) ∧ Below w1.heap.size w1 w') := fun w1 W hw hW => (used_any a zs n ca HN W ((hx.old hw).old hW) (by omega)).mono fun e w' ⟨h3, h4⟩ => ⟨by rw [h3, HU], hW.trans (h4.mono hW.size)⟩
      have H1 : Hid (cst zs (lensL (l + 1) zs) n ≤ cst zs (lensL l zs) n) := by
        have := HN.out; subst this; exact cst_more hz h1 h15d hnu
      have H2 : Hid (leastV zs ≤ (cst zs (lensL (l + 1) zs) n : Nat)) := by
        have := HN.out; subst this; exact least_le hz (by omega) hnu2
      have H3 : Hid (nUse zs ≤ l + 1 → leastV zs = (cst zs (lensL l zs) n : Nat)) := fun h => by
        have := HN.out; subst this; exact least_eq hz h1 hnu h
      have H4 : Hid (cst zs (lensL l zs) n ≤ 4749890231992320) := by
        have := HN.out; subst this; exact cst_max h1 h15 hz hnu
      have H5 : Hid (0 ≤ leastV zs) := leastV_nn hz
      generalize lensL l zs = la at *
      generalize lensL (l + 1) zs = lb at *
      generalize nUse zs = u at *
      generalize leastV zs = v at *
      generalize cst zs la n = x at *
      generalize cst zs lb n = y at *
      clear hlr he e1 HU hnu hnu2
      go_enter Try.func4, Try.ntmps4
      go_wp2_with fail
      refine CA.mono ?_
      rintro e w1 ⟨rfl, B1⟩
      go_wp2_with fail
      refine (HF.out _ B1).mono ?_
      rintro e w2 ⟨rfl, B2⟩
      go_wp2_with fail
      refine (HL1.out _ B2).mono ?_
      rintro e w3 ⟨b, c, rfl, s1, B3⟩
      go_wp2_with fail
      refine (HL2.out _ B3).mono ?_
      rintro e w4 ⟨b', c', rfl, s2, B34⟩
      have s1 := s1.old B34
      have B4 : Below w.heap.size w w4 := B3.trans (B34.mono B3.size)
      have BF : ∀ w', Below w4.heap.size w4 w' → Below w.heap.size w w' := fun w' h => B4.trans (h.mono B4.size)
      go_wp2_with fail
      refine (HLE.out w4 _ B4 (Below.refl _ _)).mono ?_
      rintro e w5 ⟨rfl, B5⟩
      go_wp2_with fail
      refine (HC1.out w4 _ b c B4 s1 B5).mono ?_
      rintro e w6 ⟨rfl, B6⟩
      go_wp2_with fail
      refine (HC2.out w4 _ b' c' B4 s2 B6).mono ?_
      rintro e w7 ⟨rfl, B7⟩
      go_wp2_with fail
      refine (HCU.out w4 _ B4 B7).mono ?_
      rintro e w8 ⟨rfl, B8⟩
      have q1 := H1.out
      have q2 := H2.out
      have q3 := H3.out
      have q4 := H4.out
      have q5 := H5.out
      by_cases hu : u ≤ l + 1
      · obtain rfl := q3 hu
        obtain rfl : y = x := by omega
        have hui : (u : Int) - 1 ≤ (l : Int) := by omega
        clear q1 q2 q3 hu
        go_wp2_with fail
        refine (HD1.out w4 _ b c B4 s1 B8).mono ?_
        rintro e w9 ⟨rfl, B9⟩
        go_wp2_with fail
        refine (HD2.out w4 _ b' c' B4 s2 B9).mono ?_
        rintro e w10 ⟨rfl, B10⟩
        go_wp2
        go_ret
        exact ⟨by first | rfl | simp [hui], BF _ B10⟩
      · have hui : ¬ (u : Int) - 1 ≤ (l : Int) := by omega
        have hyx : (y : Int) ≤ (x : Int) := by omega
        clear q1 q3 hu
        go_wp2_with fail
        refine (HD1.out w4 _ b c B4 s1 B8).mono ?_
        rintro e w9 ⟨rfl, B9⟩
        go_wp2_with fail
        refine (HD2.out w4 _ b' c' B4 s2 B9).mono ?_
        rintro e w10 ⟨rfl, B10⟩
        go_wp2
        go_ret
        exact ⟨by first | rfl | simp [hui, hyx, q2], BF _ B10⟩
  · have e1 : decide (errL lim zs = 0) = false := decide_eq_false he
    rw [e1] at HF
    clear e1 he
    go_enter Try.func4, Try.ntmps4
    go_wp2_with fail
    refine CA.mono ?_
    rintro e w1 ⟨rfl, B1⟩
    go_wp2_with fail
    refine (HF.out _ B1).mono ?_
    rintro e w2 ⟨rfl, B2⟩
    go_wp2
    go_ret
    exact ⟨rfl, B2⟩
end Go.Proofs.Ytmleicaalaggkab
