
import Derived.Test.YtfodgnmimbaflaaLzF
namespace Go.Proofs.Ytfodgnmimbaflaa
open Go.RowKit
set_option linter.unusedVariables false
set_option linter.unusedSimpArgs false

theorem begins7 {win : Int} {l : List Tok7} (h : (check7 win l).2 = 0) (m : Nat) : (check7 win (l.take m)).2 = 0 ∧ (xpd7 win (l.take m)).length ≤ (xpd7 win l).length ∧ (xpd7 win l).take (xpd7 win (l.take m)).length = xpd7 win (l.take m) ∧ siz7 (l.take m) = (xpd7 win (l.take m)).length := by
  have hw : ¬ (win < 1 ∨ 32768 < win) := by
    intro e
    unfold check7 at h
    rw [if_pos e] at h
    simp at h
  have hok : ok7 win l 0 := by
    unfold check7 at h
    rw [if_neg hw] at h
    exact ok7_chk win l 0 0 h
  have hc : (check7 win (l.take m)).2 = 0 := by
    unfold check7
    rw [if_neg hw, chk7_ok win _ 0 0 (ok7_take win l 0 m hok)]
  have e1 : xpd7 win l = exp7 [] l := by unfold xpd7; rw [if_pos h]
  have e2 : xpd7 win (l.take m) = exp7 [] (l.take m) := by unfold xpd7; rw [if_pos hc]
  have hb := exp7_begin l m []
  refine ⟨hc, ?_, by rw [e1, e2]; exact hb, by rw [e2, ok7_sub win l m hok]⟩
  rw [e1, e2]
  have := congrArg List.length hb
  rw [List.length_take] at this
  omega
theorem tmod_cases (c : Int) (n : Nat) (hn : 0 < n) : ∃ m : Nat, m ≤ n ∧ ((c.tmod ((n : Int) + 1) = (m : Int)) ∨ (c.tmod ((n : Int) + 1) = -(m : Int) ∧ 0 < m)) := by
  have h1 := Int.tmod_lt_of_pos c (show 0 < (n : Int) + 1 by omega)
  have h2 : -((n : Int) + 1) < c.tmod ((n : Int) + 1) := by
    have := Int.tmod_lt_of_pos (-c) (show 0 < (n : Int) + 1 by omega)
    rw [Int.neg_tmod] at this
    omega
  by_cases h0 : 0 ≤ c.tmod ((n : Int) + 1)
  · exact ⟨(c.tmod ((n : Int) + 1)).toNat, by omega, .inl (by omega)⟩
  · exact ⟨(-(c.tmod ((n : Int) + 1))).toNat, by omega, .inr ⟨by omega, by omega⟩⟩
set_option maxRecDepth 100000 in
set_option maxHeartbeats 8000000 in
theorem lzBegins_in (w : World) (win : Int) (a : Option Addr) (n cap : Nat) (l : List Tok7) (hn : l.length = n) (hs : SegT w a l) (hl : n ≤ 1073741824) (ct : Int) :
    Calls Try.prog 8 #[.int .i64 win, .slice a n cap, .int .i64 ct] w fun e w' => e = .returned (.bool true) ∧ Below w.heap.size w w' := by
  have HN : Hid (l.length = n) := hn
  have HS : Hid (∀ W, Below w.heap.size w W → SegT W a l) := fun W hW => hs.old hW
  have hfit := hs.fit
  have HBD : Hid (∀ m, ∀ z ∈ xpd7 win (l.take m), 0 ≤ z ∧ z ≤ 255) := fun m => xpd7_bd (fun t ht => hfit t (List.mem_of_mem_take ht))
  have HBL : Hid (∀ z ∈ xpd7 win l, 0 ≤ z ∧ z ≤ 255) := xpd7_bd hfit
  have CF := face7 l a n cap HN w hs hl
  have HBG : Hid (∀ m, (check7 win l).2 = 0 → (check7 win (l.take m)).2 = 0 ∧ (xpd7 win (l.take m)).length ≤ (xpd7 win l).length ∧ (xpd7 win l).take (xpd7 win (l.take m)).length = xpd7 win (l.take m) ∧ siz7 (l.take m) = (xpd7 win (l.take m)).length) := fun m h => begins7 h m
  have HX0 : Hid ((check7 win l).2 ≠ 0 → (xpd7 win l).length = 0) := fun h => by unfold xpd7; rw [if_neg h]; rfl
  clear hs hn
  go_enter Try.func8, Try.ntmps8
  go_wp2_with fail
  refine CF.mono ?_
  rintro e w1 ⟨g, c, rfl, O1, B1⟩
  have hc1 := (own_factsT O1).1
  have hfl : (faceL l).length = n + 2 := by unfold faceL; rw [List.length_append, HN.out]; rfl
  have s1 : SegT w1 (some ⟨g, 0, none⟩) (faceL l) := own_segT O1 hfl (faceL_fit hfit)
  have p1 : SegT w1 (some ⟨g, 0, none⟩) l := by
    have := s1.take n
    rwa [show (faceL l).take n = l by unfold faceL; rw [← HN.out]; simp] at this
  have HP1 : Hid (∀ W, Below w1.heap.size w1 W → SegT W (some ⟨g, 0, none⟩) l) := fun W hW => p1.old hW
  have C2 := pexp7 win l (some ⟨g, 0, none⟩) n c HN w1 p1 (by omega) (by intro h; cases h) hl
  have HC4 : Hid (∀ (W : World) (m : Nat), m ≤ n → Below w1.heap.size w1 W → Calls Try.prog 13 #[.int .i64 win, .slice (some ⟨g, 0, none⟩) m c] W (ExpQ W (xpd7 win (l.take m)) (check7 win (l.take m)).2)) := fun W m hm hW => pexp7 win (l.take m) (some ⟨g, 0, none⟩) m c (show _ = _ by rw [List.length_take, HN.out]; omega) W ((HP1.out W hW).take m) (by omega) (by intro h; cases h) (by omega)
  have HC7 : Hid (∀ (W : World) (m : Nat), m ≤ n → Below w1.heap.size w1 W → Calls Try.prog 16 #[.slice (some ⟨g, 0, none⟩) m c] W fun e w' => e = .returned (.int .i64 (siz7 (l.take m) : Int)) ∧ Below W.heap.size W w') := fun W m hm hW => psiz7 (l.take m) (some ⟨g, 0, none⟩) m c (show _ = _ by rw [List.length_take, HN.out]; omega) W ((HP1.out W hW).take m) (by omega) (by intro h; cases h) (by omega)
  have HC3 : Hid (∀ W, Below w.heap.size w W → Calls Try.prog 12 #[.int .i64 win, .slice a n cap] W fun e w' => e = .returned (.tuple #[.int .i64 ((check7 win l).1 : Int), .int .i64 (check7 win l).2]) ∧ Below W.heap.size W w') := fun W hW => rcheck7 win l a n cap HN W (HS.out W hW) hl
  clear O1 s1 p1 hfl hfit CF
  go_wp2_with fail
  refine C2.mono ?_
  rintro e w2 ⟨xa, xc, rfl, O2, b2⟩
  have B2 : Below w.heap.size w w2 := B1.trans (b2.mono B1.size)
  obtain ⟨_, _, _, hv, sx, _, hxc, _⟩ := own_seg O2 (M := 255) (by decide) HBL.out
  cases hv
  have hmc : ∃ m : Nat, m ≤ n ∧ ((n = 0 ∧ m = 0) ∨ (0 < n ∧ ct.tmod ((n : Int) + 1) = (m : Int)) ∨ (0 < n ∧ ct.tmod ((n : Int) + 1) = -(m : Int) ∧ 0 < m)) := by
    by_cases h0 : n = 0
    · exact ⟨0, by omega, .inl ⟨h0, rfl⟩⟩
    · obtain ⟨m, h1, h2 | ⟨h2, h3⟩⟩ := tmod_cases ct n (by omega)
      · exact ⟨m, h1, .inr (.inl ⟨by omega, h2⟩)⟩
      · exact ⟨m, h1, .inr (.inr ⟨by omega, h2, h3⟩)⟩
  obtain ⟨m, hmn, hmc⟩ := hmc
  have C4 := HC4.out w2 m hmn b2
  have HZ : Hid (∀ W, Below w1.heap.size w1 W → Calls Try.prog 16 #[.slice (some ⟨g, 0, none⟩) m c] W fun e w' => e = .returned (.int .i64 (siz7 (l.take m) : Int)) ∧ Below W.heap.size W w') := fun W hW => HC7.out W m hmn hW
  have HB1 : Hid ((check7 win l).2 = 0 → (check7 win (l.take m)).2 = 0 ∧ (xpd7 win (l.take m)).length ≤ (xpd7 win l).length ∧ (xpd7 win l).take (xpd7 win (l.take m)).length = xpd7 win (l.take m) ∧ siz7 (l.take m) = (xpd7 win (l.take m)).length) := HBG.out m
  have HB2 := HBD.out m
  have hmi : (m : Int) ≤ (c : Int) := by omega
  have hm0 : (0 : Int) ≤ (m : Int) := by omega
  have hkw : IntKind.i64.wrap ((n : Int) + 1) = (n : Int) + 1 := IntWalk.i64_in _ (by omega)
  have hk0 : ¬ (n : Int) + 1 = 0 := by omega
  have hmw : IntKind.i64.wrap (m : Int) = (m : Int) := IntWalk.i64_in _ (by omega)
  have hmw2 : IntKind.i64.wrap (-(m : Int)) = -(m : Int) := IntWalk.i64_in _ (by omega)
  clear HC4 HC7 HBG HBD C2 O2
  generalize siz7 (l.take m) = sm at *
  generalize xpd7 win (l.take m) = EM at *
  generalize (check7 win (l.take m)).2 = e4 at *
  generalize (check7 win l).2 = er at *
  generalize (check7 win l).1 = ck1 at *
  generalize xpd7 win l = E at *
  rcases hmc with ⟨rfl, rfl⟩ | ⟨hnp, hmt⟩ | ⟨hnp, hmt, hmp⟩
  · have hmi0 : (0 : Int) ≤ (c : Int) := by omega
    go_wp2_with fail
    refine C4.mono ?_
    rintro e w4 ⟨ya, yc, rfl, O4, b4⟩
    have b14 := b2.trans (b4.mono b2.size)
    have B4 := B2.trans (b4.mono B2.size)
    by_cases he : er = 0
    · obtain ⟨g1, g2, g3, g4⟩ := HB1.out he
      obtain ⟨_, _, _, hv, sy, _⟩ := own_seg O4 (M := 255) (by decide) HB2
      cases hv
      have sx4 := SegK.take (sx.old b4) EM.length
      rw [g3] at sx4
      have CS := bsame_any ya xa EM EM yc xc w4 sy sx4
      rw [beq_self7] at CS
      subst he g1
      rw [g4] at HZ
      have g2i : (EM.length : Int) ≤ (E.length : Int) := by omega
      have g5i : (EM.length : Int) ≤ (xc : Int) := by omega
      have g6 : (0 : Int) ≤ (EM.length : Int) := by omega
      clear O4 sy sx4 g3 g4 HB1 HB2 HBL
      generalize EM.length = eml at *
      generalize E.length = el at *
      go_wp2_with fail
      refine CS.mono ?_
      rintro e w5 ⟨rfl, hw5⟩
      subst hw5
      go_wp2_with fail
      refine (HZ.out _ b14).mono ?_
      rintro e w6 ⟨rfl, b6⟩
      have B6 := B4.trans (b6.mono B4.size)
      go_wp2_with fail
      refine (lives7 w6).mono ?_
      rintro e w7 ⟨rfl, b7⟩
      have B7 := B6.trans (b7.mono B6.size)
      go_wp2_with fail
      go_ret
      exact ⟨rfl, B7⟩
    · have hz := HX0.out he
      rw [hz]
      clear O4 HB1 HB2 HBL hz
      go_wp2_with fail
      refine (HC3.out w4 B4).mono ?_
      rintro e w5 ⟨rfl, b5⟩
      have B5 := B4.trans (b5.mono B4.size)
      go_wp2_with fail
      go_ret
      exact ⟨rfl, B5⟩
  · have hnpi : (0 : Int) < (n : Int) := by omega
    go_wp2_with fail
    refine C4.mono ?_
    rintro e w4 ⟨ya, yc, rfl, O4, b4⟩
    have b14 := b2.trans (b4.mono b2.size)
    have B4 := B2.trans (b4.mono B2.size)
    by_cases he : er = 0
    · obtain ⟨g1, g2, g3, g4⟩ := HB1.out he
      obtain ⟨_, _, _, hv, sy, _⟩ := own_seg O4 (M := 255) (by decide) HB2
      cases hv
      have sx4 := SegK.take (sx.old b4) EM.length
      rw [g3] at sx4
      have CS := bsame_any ya xa EM EM yc xc w4 sy sx4
      rw [beq_self7] at CS
      subst he g1
      rw [g4] at HZ
      have g2i : (EM.length : Int) ≤ (E.length : Int) := by omega
      have g5i : (EM.length : Int) ≤ (xc : Int) := by omega
      have g6 : (0 : Int) ≤ (EM.length : Int) := by omega
      clear O4 sy sx4 g3 g4 HB1 HB2 HBL
      generalize EM.length = eml at *
      generalize E.length = el at *
      go_wp2_with fail
      refine CS.mono ?_
      rintro e w5 ⟨rfl, hw5⟩
      subst hw5
      go_wp2_with fail
      refine (HZ.out _ b14).mono ?_
      rintro e w6 ⟨rfl, b6⟩
      have B6 := B4.trans (b6.mono B4.size)
      go_wp2_with fail
      refine (lives7 w6).mono ?_
      rintro e w7 ⟨rfl, b7⟩
      have B7 := B6.trans (b7.mono B6.size)
      go_wp2_with fail
      go_ret
      exact ⟨rfl, B7⟩
    · have hz := HX0.out he
      rw [hz]
      clear O4 HB1 HB2 HBL hz
      go_wp2_with fail
      refine (HC3.out w4 B4).mono ?_
      rintro e w5 ⟨rfl, b5⟩
      have B5 := B4.trans (b5.mono B4.size)
      go_wp2_with fail
      go_ret
      exact ⟨rfl, B5⟩
  · have hnpi : (0 : Int) < (n : Int) := by omega
    have hng : -(m : Int) < 0 := by omega
    have hnn : -(-(m : Int)) = (m : Int) := by omega
    go_wp2_with fail
    refine C4.mono ?_
    rintro e w4 ⟨ya, yc, rfl, O4, b4⟩
    have b14 := b2.trans (b4.mono b2.size)
    have B4 := B2.trans (b4.mono B2.size)
    by_cases he : er = 0
    · obtain ⟨g1, g2, g3, g4⟩ := HB1.out he
      obtain ⟨_, _, _, hv, sy, _⟩ := own_seg O4 (M := 255) (by decide) HB2
      cases hv
      have sx4 := SegK.take (sx.old b4) EM.length
      rw [g3] at sx4
      have CS := bsame_any ya xa EM EM yc xc w4 sy sx4
      rw [beq_self7] at CS
      subst he g1
      rw [g4] at HZ
      have g2i : (EM.length : Int) ≤ (E.length : Int) := by omega
      have g5i : (EM.length : Int) ≤ (xc : Int) := by omega
      have g6 : (0 : Int) ≤ (EM.length : Int) := by omega
      clear O4 sy sx4 g3 g4 HB1 HB2 HBL
      generalize EM.length = eml at *
      generalize E.length = el at *
      go_wp2_with fail
      refine CS.mono ?_
      rintro e w5 ⟨rfl, hw5⟩
      subst hw5
      go_wp2_with fail
      refine (HZ.out _ b14).mono ?_
      rintro e w6 ⟨rfl, b6⟩
      have B6 := B4.trans (b6.mono B4.size)
      go_wp2_with fail
      refine (lives7 w6).mono ?_
      rintro e w7 ⟨rfl, b7⟩
      have B7 := B6.trans (b7.mono B6.size)
      go_wp2_with fail
      go_ret
      exact ⟨rfl, B7⟩
    · have hz := HX0.out he
      rw [hz]
      clear O4 HB1 HB2 HBL hz
      go_wp2_with fail
      refine (HC3.out w4 B4).mono ?_
      rintro e w5 ⟨rfl, b5⟩
      have B5 := B4.trans (b5.mono B4.size)
      go_wp2_with fail
      go_ret
      exact ⟨rfl, B5⟩
end Go.Proofs.Ytfodgnmimbaflaa
