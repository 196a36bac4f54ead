
import Derived.Test.YtlbledagpoimaaaSuL1
import Derived.Deep.RegionHeld3
namespace Go.Proofs.Ytlbledagpoimaaa
open Go.RowKit
set_option linter.unusedVariables false

/-! SuffixCommons; the document's Common. -/
set_option maxRecDepth 100000 in
set_option maxHeartbeats 2000000 in
theorem rcom13 (xa : Option Addr) (X : List Int) (m xc : Nat) (ya : Option Addr) (Y : List Int) (q yc : Nat) (w : World) (hx : Seg w xa X) (hy : Seg w ya Y) (hm : Hid (X.length = m)) (hq : Hid (Y.length = q)) (hb : m ≤ 9223372036854775807) (hb2 : q ≤ 9223372036854775807) :
    Calls Try.prog 12 #[.slice xa m xc, .slice ya q yc] w fun e w' => e = .returned (.int .i64 ((lc13 X Y : Nat) : Int)) ∧ ∃ d, w' = w.drewN d := by
  have HL : Hid (lc13 X Y ≤ m ∧ lc13 X Y ≤ q) := ⟨by rw [← hm.out]; exact lc13_le X Y, by rw [← hq.out]; exact lc13_le' X Y⟩
  have KEY : Hid (∀ wr, (∃ d, wr = w.drewN d) → Seg wr xa X ∧ Seg wr ya Y) := by
    rintro wr ⟨d, rfl⟩
    exact ⟨hx.drewN d, hy.drewN d⟩
  clear hx hy
  go_enter Try.func12, Try.ntmps12
  go_wp2_with fail
  go_loopw [5] (fun ti wr => ∃ i : Nat, Hid (i ≤ lc13 X Y) ∧ ti = .int .i64 i ∧ ∃ d, wr = w.drewN d) (fun ti _ => m - (intOf ti).toNat)
  case atStart => exact ⟨0, Nat.zero_le _, rfl, 0, rfl⟩
  case round =>
    obtain ⟨i, HI, rfl, hd⟩ := hrel
    obtain ⟨sx, sy⟩ := KEY.out wr hd
    obtain ⟨d, hd⟩ := hd
    have HD : Hid (wr = w.drewN d) := hd
    clear hd
    have hib : i ≤ m := by have := HL.out; have := HI.out; omega
    have hib2 : i ≤ q := by have := HL.out; have := HI.out; omega
    by_cases h1 : i < m
    · have h1i : (i : Int) < (m : Int) := by omega
      by_cases h2 : i < q
      · have h2i : (i : Int) < (q : Int) := by omega
        obtain ⟨b1, o1, rfl, c1⟩ := sx.at_ i (by rw [hm.out]; omega)
        obtain ⟨b2, o2, rfl, c2⟩ := sy.at_ i (by rw [hq.out]; omega)
        have v1 := sx.bd i
        have v2 := sy.bd i
        have HEQ : Hid (X.getD i 0 = Y.getD i 0 → i + 1 ≤ lc13 X Y) := lc13_more HI.out (by rw [hm.out]; omega) (by rw [hq.out]; omega)
        have HNE : Hid (¬ X.getD i 0 = Y.getD i 0 → lc13 X Y = i) := lc13_stop HI.out
        clear sx sy
        generalize X.getD i 0 = x at *
        generalize Y.getD i 0 = y at *
        by_cases hxy : x = y
        · subst hxy
          have HEQ2 : Hid (i + 1 ≤ lc13 X Y) := HEQ.out rfl
          clear HEQ HNE
          go_wp2_with fail
          go_region
          go_wp2_with fail
          go_roundw
          case rel => exact ⟨i + 1, HEQ2, by go_num, d + 1, by rw [HD.out]; rfl⟩
          case measure => simp [intOf]; omega
        · have HNE2 : Hid (lc13 X Y = i) := HNE.out hxy
          clear HEQ HNE
          go_wp2_with fail
          go_region
          go_wp2_with fail
          go_ret
          exact ⟨by rw [HNE2.out]; rfl, d + 1, by rw [HD.out]; rfl⟩
      · have h2i : ¬ (i : Int) < (q : Int) := by omega
        have HE : Hid (lc13 X Y = i) := by show _ = _; have := HL.out; have := HI.out; omega
        go_wp2_with fail
        go_region
        go_wp2_with fail
        go_ret
        exact ⟨by rw [HE.out]; rfl, d + 1, by rw [HD.out]; rfl⟩
    · have h1i : ¬ (i : Int) < (m : Int) := by omega
      have HE : Hid (lc13 X Y = i) := by show _ = _; have := HL.out; have := HI.out; omega
      go_wp2_with fail
      go_region
      go_wp2_with fail
      go_ret
      exact ⟨by rw [HE.out]; rfl, d + 1, by rw [HD.out]; rfl⟩
set_option maxRecDepth 100000 in
set_option maxHeartbeats 4000000 in
theorem suffixCommons_walk (w : World) (a : Option Addr) (z : List Int) (ca : Nat) (hs : Seg w a z) (hc : z.length ≤ ca) (hnil : a = none → ca = 0) (hl : z.length ≤ 140737488351232) (i : Int) (hi0 : -9223372036854775808 ≤ i) (hi1 : i ≤ 9223372036854775807) (k : Int) (hk0 : -9223372036854775808 ≤ k) (hk1 : k ≤ 9223372036854775807) :
    Calls Try.prog 4 #[.slice a z.length ca, .int .i64 i, .int .i64 k] w fun e w' => e = .returned (.bool true) ∧ Below w.heap.size w w' := by
  generalize hn0 : z.length = n at *
  have hn : Hid (z.length = n) := hn0
  clear hn0
  by_cases h24 : 16777216 < n
  · have h24i : (16777216 : Int) < (n : Int) := by omega
    have HN := pnewn13 a n ca w h24 (by omega)
    clear hs
    go_enter Try.func4, Try.ntmps4
    go_wp2_with (first
      | (go_at_call 10; refine HN.mono ?_; rintro e1 w1 ⟨rfl, hw1⟩; subst hw1))
    go_ret
    exact ⟨rfl, Below.refl _ _⟩
  · have h24i : ¬ (16777216 : Int) < (n : Int) := by omega
    have HN := pnew13 a z n ca w hs hnil hn (by omega)
    have HSG : Hid (∀ W, Below w.heap.size w W → Seg W a z) := fun W b => hs.old b
    clear hs
    by_cases hin : (0 ≤ i ∧ i < (n : Int)) ∧ (0 ≤ k ∧ k < (n : Int))
    · obtain ⟨I, rfl⟩ := Int.eq_ofNat_of_zero_le hin.1.1
      obtain ⟨K, rfl⟩ := Int.eq_ofNat_of_zero_le hin.2.1
      have hI : I < n := by omega
      have hK : K < n := by omega
      have HCM : Hid (∀ b da dc aa ac gb gr A w1, Ix13 w1 b da dc aa ac gb gr n z A → Calls Try.prog 11 #[.pointer (some ⟨b, 0, none⟩), .int .i64 (I : Int), .int .i64 (K : Int)] w1 fun e w' => e = .returned (.tuple #[.int .i64 ((lc13 (z.drop I) (z.drop K) : Nat) : Int), .int .i64 0]) ∧ Below w1.heap.size w1 w') := fun b da dc aa ac gb gr A w1 h => pcom13 b da dc aa ac gb gr n z A I K w1 h hI hK
      obtain ⟨xb, off, rfl, -⟩ := (HSG.out w (Below.refl _ _)).at_ I (by rw [hn.out]; exact hI)
      have HRC : Hid (∀ W, Below w.heap.size w W → Calls Try.prog 12 #[.slice (some ⟨xb, off + I, none⟩) (n - I) (ca - I), .slice (some ⟨xb, off + K, none⟩) (n - K) (ca - K)] W fun e w' => e = .returned (.int .i64 ((lc13 (z.drop I) (z.drop K) : Nat) : Int)) ∧ Below w.heap.size w w') := fun W hb => (rcom13 _ (z.drop I) _ _ _ (z.drop K) _ _ W ((HSG.out W hb).drop I) ((HSG.out W hb).drop K) (by show _ = _; rw [List.length_drop, hn.out]) (by show _ = _; rw [List.length_drop, hn.out]) (by omega) (by omega)).mono fun e w' ⟨he, d, hd⟩ => ⟨he, by rw [hd]; exact hb.trans ⟨rfl, rfl, rfl, Nat.le_refl _, fun _ _ => rfl⟩⟩
      have HLI : Hid (∀ W, Below w.heap.size w W → Calls Try.prog 9 #[] W fun e w' => e = .returned (.bool true) ∧ Below w.heap.size w w') := fun W hb => (plives13 W).mono fun e w' ⟨he, hB⟩ => ⟨he, hb.trans (hB.mono hb.size)⟩
      have i1 : ¬ (I : Int) < 0 := by omega
      have i2 : (I : Int) < (n : Int) := by omega
      have i3 : ¬ (K : Int) < 0 := by omega
      have i4 : (K : Int) < (n : Int) := by omega
      have l1 : I ≤ n := by omega
      have l2 : K ≤ n := by omega
      have l3 : ¬ ca = I := by omega
      have l4 : ¬ ca = K := by omega
      have m1 : ¬ n ≤ I := by omega
      have m2 : ¬ n ≤ K := by omega
      clear hin HSG
      generalize lc13 (z.drop I) (z.drop K) = v at *
      go_enter Try.func4, Try.ntmps4
      go_wp2_with (first
        | (go_at_call 10; refine HN.mono ?_; rintro e1 w1 ⟨b, da, dc, aa, ac, gb, gr, A, rfl, hI, B1, -⟩; clear HN)
        | (go_at_call 11; refine (HCM.out _ _ _ _ _ _ _ _ w1 hI).mono ?_; rintro e2 w2 ⟨rfl, B2⟩; have B12 := B1.trans (B2.mono B1.size))
        | (go_at_call 12; fail))
      have BD := B12.drew
      go_region_held3 (fun _ => True) (trivial) (first
        | (go_at_call 12; refine (HRC.out _ (by assumption)).mono ?_; rintro e3 w3 ⟨rfl, B3⟩)
        | (go_at_call 9; refine (HLI.out _ (by assumption)).mono ?_; rintro e5 w5 ⟨rfl, B5⟩))
      go_wp2_with fail
      go_ret
      exact ⟨rfl, B5⟩
    · have HCM : Hid (∀ b da dc aa ac gb gr A w1, Ix13 w1 b da dc aa ac gb gr n z A → Calls Try.prog 11 #[.pointer (some ⟨b, 0, none⟩), .int .i64 i, .int .i64 k] w1 fun e w' => e = .returned (.tuple #[.int .i64 0, .int .i64 132]) ∧ Below w1.heap.size w1 w') := fun b da dc aa ac gb gr A w1 h => pcomn13 b da dc aa ac gb gr n z A i k w1 h ⟨hi0, hi1⟩ ⟨hk0, hk1⟩ hin
      clear HSG
      have hcases : i < 0 ∨ (0 ≤ i ∧ (n : Int) ≤ i) ∨ (0 ≤ i ∧ i < (n : Int) ∧ k < 0) ∨ (0 ≤ i ∧ i < (n : Int) ∧ 0 ≤ k ∧ (n : Int) ≤ k) := by omega
      clear hin
      rcases hcases with h1 | ⟨h1, h2⟩ | ⟨h1, h2, h3⟩ | ⟨h1, h2, h3, h4⟩ <;> (
        go_enter Try.func4, Try.ntmps4
        go_wp2_with (first
          | (go_at_call 10; refine HN.mono ?_; rintro e1 w1 ⟨b, da, dc, aa, ac, gb, gr, A, rfl, hI, B1, -⟩; clear HN)
          | (go_at_call 11; refine (HCM.out _ _ _ _ _ _ _ _ w1 hI).mono ?_; rintro e2 w2 ⟨rfl, B2⟩; have B12 := B1.trans (B2.mono B1.size))
          | (go_at_call 9; refine (plives13 _).mono ?_; rintro e5 w5 ⟨rfl, B5⟩))
        go_ret
        exact ⟨rfl, B12.trans (B5.mono B12.size)⟩)
end Go.Proofs.Ytlbledagpoimaaa
