
import Derived.Test.YtaipfcfmhdigfaaLzC
import Derived.Test.YtaipfcfmhdigfaaOwnUse
namespace Go.Proofs.Ytaipfcfmhdigfaa
open Go.RowKit
set_option linter.unusedVariables false
set_option linter.unusedSimpArgs false

theorem xpd7_bd {win : Int} {l : List Tok7} (h : ∀ t ∈ l, t.Fit) : ∀ z ∈ xpd7 win l, 0 ≤ z ∧ z ≤ 255 := by
  unfold xpd7
  split
  · exact exp7_bd l [] (by simp) (fun t ht => (h t ht).1)
  · simp
theorem xpd7_len (win : Int) (l : List Tok7) : (xpd7 win l).length ≤ 258 * l.length := by
  unfold xpd7
  split
  · rename_i h
    have hok : ok7 win l 0 := by
      unfold check7 at h
      split at h
      · simp at h
      · exact ok7_chk win l 0 0 h
    rw [exp7_len win l [] 0 hok]
    have := siz7_le l
    simpa using this
  · simp
theorem beq_self7 (xs : List Int) : (xs == xs) = true := by simp
set_option maxRecDepth 100000 in
set_option maxHeartbeats 4000000 in
theorem lzChecks_in (w : World) (win : Int) (a : Option Addr) (n cap : Nat) (l : List Tok7) (hn : l.length = n) (hs : SegT w a l) (hl : n ≤ 1073741824) :
    Calls Try.prog 4 #[.int .i64 win, .slice a n cap] w fun e w' => e = .returned (.bool true) ∧ Below w.heap.size w w' := by
  have HN : Hid (l.length = n) := hn
  have HS : Hid (∀ W, Below w.heap.size w W → SegT W a l) := fun W hW => hs.old hW
  have HBD : Hid (∀ z ∈ xpd7 win l, 0 ≤ z ∧ z ≤ 255) := xpd7_bd hs.fit
  have hxl : (xpd7 win l).length ≤ 277025390592 := by have := xpd7_len win l; omega
  have hfit := hs.fit
  have CF := face7 l a n cap HN w hs hl
  clear hs hn
  go_enter Try.func4, Try.ntmps4
  go_wp2_with fail
  refine CF.mono ?_
  rintro e w1 ⟨g, c, rfl, O1, B1⟩
  have hc1 := (own_factsT O1).1
  have hfl : (faceL l).length = n + 2 := by unfold faceL; rw [List.length_append, HN.out]; rfl
  have s1 : SegT w1 (some ⟨g, 0, none⟩) (faceL l) := own_segT O1 hfl (faceL_fit hfit)
  have p1 : SegT w1 (some ⟨g, 0, none⟩) l := by
    have := s1.take n
    rwa [show (faceL l).take n = l by unfold faceL; rw [← HN.out]; simp] at this
  have HS1 : Hid (∀ W, Below w1.heap.size w1 W → SegT W (some ⟨g, 0, none⟩) (faceL l)) := fun W hW => s1.old hW
  have HP1 : Hid (∀ W, Below w1.heap.size w1 W → SegT W (some ⟨g, 0, none⟩) l) := fun W hW => p1.old hW
  have C2 := pchk7 win l (some ⟨g, 0, none⟩) n c HN w1 p1 (by omega) (by intro h; cases h) hl
  have HC3 : Hid (∀ W, Below w.heap.size w W → Calls Try.prog 12 #[.int .i64 win, .slice a n cap] W fun e w' => e = .returned (.tuple #[.int .i64 ((check7 win l).1 : Int), .int .i64 (check7 win l).2]) ∧ Below W.heap.size W w') := fun W hW => rcheck7 win l a n cap HN W (HS.out W hW) hl
  have HC4 : Hid (∀ W, Below w1.heap.size w1 W → Calls Try.prog 13 #[.int .i64 win, .slice (some ⟨g, 0, none⟩) n c] W (ExpQ W (xpd7 win l) (check7 win l).2)) := fun W hW => pexp7 win l (some ⟨g, 0, none⟩) n c HN W (HP1.out W hW) (by omega) (by intro h; cases h) hl
  have HC6 : Hid (∀ W, Below w.heap.size w W → Calls Try.prog 14 #[.int .i64 win, .slice a n cap] W (ExpQ W (xpd7 win l) (check7 win l).2)) := fun W hW => rxpd7 win l a n cap HN W (HS.out W hW) hl
  have HC7 : Hid (∀ W, Below w1.heap.size w1 W → Calls Try.prog 16 #[.slice (some ⟨g, 0, none⟩) n c] W fun e w' => e = .returned (.int .i64 (siz7 l : Int)) ∧ Below W.heap.size W w') := fun W hW => psiz7 l (some ⟨g, 0, none⟩) n c HN W (HP1.out W hW) (by omega) (by intro h; cases h) hl
  have HC8 : Hid (∀ W, Below w.heap.size w W → Calls Try.prog 17 #[.slice a n cap] W fun e w' => e = .returned (.int .i64 (siz7 l : Int)) ∧ Below W.heap.size W w') := fun W hW => rsize7 l a n cap HN W (HS.out W hW) hl
  have HC9 : Hid (∀ W, Below w1.heap.size w1 W → Below w.heap.size w W → Calls Try.prog 18 #[.slice (some ⟨g, 0, none⟩) (n + 2) c, .slice a n cap] W fun e w' => e = .returned (.bool true) ∧ Below W.heap.size W w') := fun W hW hW2 => kept7 l (some ⟨g, 0, none⟩) a n c cap HN W (HS1.out W hW) (HS.out W hW2) (by omega) hl
  clear O1 s1 p1 hfl hfit CF HS HS1 HP1
  generalize check7 win l = ck at *
  generalize xpd7 win l = R at *
  generalize siz7 l = sz at *
  obtain ⟨ck1, ck2⟩ := ck
  simp only at C2 HC3 HC4 HC6
  go_wp2_with fail
  refine C2.mono ?_
  rintro e w2 ⟨rfl, b2⟩
  have B2 : Below w.heap.size w w2 := B1.trans (b2.mono B1.size)
  clear C2
  go_wp2_with fail
  refine (HC3.out w2 B2).mono ?_
  rintro e w3 ⟨rfl, b3⟩
  have b13 : Below w1.heap.size w1 w3 := b2.trans (b3.mono b2.size)
  go_wp2_with fail
  refine (HC4.out w3 b13).mono ?_
  rintro e w4 ⟨xa, xc, rfl, O4, b4⟩
  have b14 : Below w1.heap.size w1 w4 := b13.trans (b4.mono b13.size)
  go_wp2_with fail
  refine (HC4.out w4 b14).mono ?_
  rintro e w5 ⟨ya, yc, rfl, O5, b5⟩
  have b15 : Below w1.heap.size w1 w5 := b14.trans (b5.mono b14.size)
  have B5 : Below w.heap.size w w5 := B1.trans (b15.mono B1.size)
  go_wp2_with fail
  refine (HC6.out w5 B5).mono ?_
  rintro e w6 ⟨va, vc, rfl, O6, b6⟩
  have b16 : Below w1.heap.size w1 w6 := b15.trans (b6.mono b15.size)
  have B6 : Below w.heap.size w w6 := B1.trans (b16.mono B1.size)
  have b46 : Below w4.heap.size w4 w6 := b5.trans (b6.mono b5.size)
  have O46 := own_below O4 b46
  have O56 := own_below O5 b6
  have hap : Ap (Value.slice xa R.length xc).ownBlock (Value.slice ya R.length yc).ownBlock := fun k h1 h2 => by
    have := (O4.lt k h1).2
    have := (O5.lt k h2).1
    omega
  obtain ⟨_, _, _, hv, sx, _⟩ := own_seg O46 (M := 255) (by decide) HBD.out
  cases hv
  obtain ⟨_, _, _, hv, sy, _⟩ := own_seg O56 (M := 255) (by decide) HBD.out
  cases hv
  obtain ⟨_, _, _, hv, sv, _⟩ := own_seg O6 (M := 255) (by decide) HBD.out
  cases hv
  have S1 := bsame_any xa va R R xc vc w6 sx sv
  have S2 := bsame_any ya va R R yc vc w6 sy sv
  rw [beq_self7] at S1 S2
  have z3 : w3.heap.size ≤ w4.heap.size := b4.size
  have z36 : w3.heap.size ≤ w6.heap.size := Nat.le_trans z3 b46.size
  have HO : Hid (∀ W, Below w6.heap.size w6 W → Calls Try.prog 19 #[.slice (some ⟨W.heap.size, 0, none⟩) 2 2] (W.alloc (.cells #[.slice xa R.length xc, .slice ya R.length yc] 32)) fun e w' => e = .returned (.bool true) ∧ Below w3.heap.size W w') := fun W hW =>
    own_two w3.heap.size _ _ R R W (own_below O46 hW) (own_base (own_below O56 hW) z3) hap (by omega) (by omega) (Nat.le_trans z36 hW.size)
  have z03 : w.heap.size ≤ w3.heap.size := Nat.le_trans B2.size b3.size
  clear O4 O5 O6 O46 O56 hap sx sy sv HC3 HC4 HC6 b14 b15 b46 b4 b5 b6 B5
  generalize R.length = rl at *
  go_wp2_with fail
  refine S1.mono ?_
  rintro e w7 ⟨rfl, hw7⟩
  subst hw7
  go_wp2_with fail
  refine S2.mono ?_
  rintro e w7 ⟨rfl, hw7⟩
  subst hw7
  go_wp2_with fail
  refine (HC7.out _ b16).mono ?_
  rintro e w8 ⟨rfl, b8⟩
  have B8 := B6.trans (b8.mono B6.size)
  have b18 := b16.trans (b8.mono b16.size)
  go_wp2_with fail
  refine (HC8.out w8 B8).mono ?_
  rintro e w9 ⟨rfl, b9⟩
  have B9 := B8.trans (b9.mono B8.size)
  have b19 := b18.trans (b9.mono b18.size)
  have b69 := b8.trans (b9.mono b8.size)
  go_wp2_with fail
  refine (HC9.out w9 b19 B9).mono ?_
  rintro e w10 ⟨rfl, b10⟩
  have B10 := B9.trans (b10.mono B9.size)
  have b6t := b69.trans (b10.mono b69.size)
  go_wp2_with fail
  refine (HO.out w10 b6t).mono ?_
  rintro e w11 ⟨rfl, b11⟩
  have B11 := B10.trans (b11.mono z03)
  go_wp2_with fail
  refine (lives7 w11).mono ?_
  rintro e w12 ⟨rfl, b12⟩
  have B12 := B11.trans (b12.mono B11.size)
  go_wp2_with fail
  go_ret
  exact ⟨rfl, B12⟩
end Go.Proofs.Ytaipfcfmhdigfaa
