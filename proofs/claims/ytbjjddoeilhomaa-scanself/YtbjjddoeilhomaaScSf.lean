
import Derived.Test.YtbjjddoeilhomaaScL1
namespace Go.Proofs.Ytbjjddoeilhomaa
open Go.RowKit
set_option linter.unusedVariables false

/-! ScanSelf. -/
theorem qr_zero15 (z : List Int) (f : Nat) : Qr15 z [] f 0 0 0 0 := by
  cases f with
  | zero => trivial
  | succ f => exact ⟨trivial, Or.inl rfl⟩
theorem all_zero15 (z : List Int) : all15 z [] = [] := rfl
/-- Steps, where the answer is known. -/
theorem stsN15 {w W : World} {b n m qc : Nat} {z q : List Int} {A : List Nat} {qa : Option Addr} {X : List (Int × Int × Int)} (hb : Below w.heap.size w W) (hI : IX14 W b n z A) (hq : Seg W qa q) (hm : q.length = m) (hmb : m ≤ 16777216) (hqc : m ≤ qc) (hQ : Qr15 z q (m + 1) 0 0 0 0) (hX : all15 z q = X) :
    Calls Try.prog 12 #[.pointer (some ⟨b, 0, none⟩), .slice qa m qc] W (StsQ15 W X) := by
  rw [← hX]
  exact pstsq15 b n z A qa q m qc W hI hq hm hmb hqc hQ
set_option maxRecDepth 100000 in
set_option maxHeartbeats 8000000 in
theorem scanSelf_walk (w : World) (a : Option Addr) (z : List Int) (ca : Nat) (hs : Seg w a z) (hc : z.length ≤ ca) (hnil : a = none → ca = 0) (hl : z.length ≤ 140737488351232) :
    Calls Try.prog 7 #[.slice a z.length ca] w fun e w' => e = .returned (.bool true) ∧ Below w.heap.size w w' := by
  generalize hn0 : z.length = n at *
  have hn : Hid (z.length = n) := hn0
  clear hn0
  have HLV : Hid (∀ W, Below w.heap.size w W → Calls Try.prog 9 #[] W fun e w' => e = .returned (.bool true) ∧ Below w.heap.size w w') := fun W hb => (plives15 W).mono fun e w' ⟨he, hB⟩ => ⟨he, hb.trans (hB.mono hb.size)⟩
  by_cases h24 : 16777216 < n
  · have AW := HLV.out w (Below.refl _ _)
    have h24i : (16777216 : Int) < (n : Int) := by omega
    clear hs
    go_enter Try.func7, Try.ntmps7
    go_wp2_with (first
      | (go_at_call 9; refine AW.mono ?_; rintro e2 w2 ⟨rfl, B2⟩))
    go_ret
    exact ⟨rfl, B2⟩
  · have h24i : ¬ (16777216 : Int) < (n : Int) := by omega
    have HIA : Hid (∀ W, Below w.heap.size w W → Calls Try.prog 10 #[.slice a n ca] W fun e w' => ∃ b A, e = .returned (.pointer (some ⟨b, 0, none⟩)) ∧ IX14 w' b n z A ∧ Below W.heap.size W w') := fun W hb => pidx15 a z n ca W (hs.old hb) hnil hn (by omega)
    have HI0 : Hid (∀ W, Below w.heap.size w W → Calls Try.prog 10 #[.slice none 0 0] W fun e w' => ∃ b A, e = .returned (.pointer (some ⟨b, 0, none⟩)) ∧ IX14 w' b 0 [] A ∧ Below W.heap.size W w') := fun W hb => pidx15 none [] 0 0 W (SegK.nil (by decide) _ _) (fun _ => rfl) rfl (by omega)
    have HS3 : Hid (∀ (W : World) (b : Nat) (A : List Nat), Below w.heap.size w W → IX14 W b n z A → Calls Try.prog 12 #[.pointer (some ⟨b, 0, none⟩), .slice none 0 0] W (StsQ15 W [])) := fun W b A hb hI => stsN15 hb hI (SegK.nil (by decide) _ _) rfl (by omega) (by omega) (qr_zero15 z _) (all_zero15 z)
    by_cases hz : n = 0
    · obtain rfl : z = [] := List.eq_nil_of_length_eq_zero (by rw [hn.out]; exact hz)
      subst hz
      have HS1 : Hid (∀ (W : World) (b : Nat) (A : List Nat), Below w.heap.size w W → IX14 W b 0 [] A → Calls Try.prog 12 #[.pointer (some ⟨b, 0, none⟩), .slice a 0 ca] W (StsQ15 W [])) := fun W b A hb hI => stsN15 hb hI (hs.old hb) rfl (by omega) (by omega) (qr_zero15 _ _) (all_zero15 _)
      have I1 := HIA.out w (Below.refl _ _)
      clear hs
      go_enter Try.func7, Try.ntmps7
      go_wp2_with (first
        | (go_at_call 10; refine I1.mono ?_; rintro e1 w1 ⟨b1, A1, rfl, hI1, B1⟩; clear I1)
        | (go_at_call 12; fail))
      refine (HS1.out w1 b1 A1 B1 hI1).mono ?_
      intro e2 w2 hq2
      obtain ⟨ra2, rc2, rfl, B12⟩ := zero15 hq2
      have B2 := B1.trans (B12.mono B1.size)
      clear hq2 hI1 B12
      have I2 := HI0.out w2 B2
      go_wp2_with (first
        | (go_at_call 10; refine I2.mono ?_; rintro e3 w3 ⟨b3, A3, rfl, hI3, B23⟩; have B3 := B2.trans (B23.mono B2.size); clear I2 B23)
        | (go_at_call 12; fail))
      refine (HS1.out w3 b3 A3 B3 hI3).mono ?_
      intro e4 w4 hq4
      obtain ⟨ra4, rc4, rfl, B34⟩ := zero15 hq4
      have B4 := B3.trans (B34.mono B3.size)
      clear hq4 hI3 B34
      have I5 := HIA.out w4 B4
      go_wp2_with (first
        | (go_at_call 10; refine I5.mono ?_; rintro e5 w5 ⟨b5, A5, rfl, hI5, B45⟩; have B5 := B4.trans (B45.mono B4.size); clear I5 B45)
        | (go_at_call 12; fail))
      refine (HS3.out w5 b5 A5 B5 hI5).mono ?_
      intro e6 w6 hq6
      obtain ⟨ra6, rc6, rfl, B56⟩ := zero15 hq6
      have B6 := B5.trans (B56.mono B5.size)
      clear hq6 hI5 B56
      go_wp2_with (first
        | (go_at_call 9; refine (HLV.out w6 B6).mono ?_; rintro e7 w7 ⟨rfl, B7⟩))
      go_ret
      exact ⟨by first | rfl | simp, B7⟩
    · have hz1 : ¬ (n : Int) = 0 := by omega
      have hz2 : ((n : Int) == 0) = false := beq_eq_false_iff_ne.2 hz1
      have HS1 : Hid (∀ (W : World) (b : Nat) (A : List Nat), Below w.heap.size w W → IX14 W b n z A → Calls Try.prog 12 #[.pointer (some ⟨b, 0, none⟩), .slice a n ca] W (StsQ15 W [((n : Int), 0, 0)])) := fun W b A hb hI => stsN15 hb hI (hs.old hb) hn.out (by omega) hc (qr_self15 z (by rw [hn.out]; exact hz) _) (by rw [← hn.out]; exact self15 z (by rw [hn.out]; exact hz))
      have HS2 : Hid (∀ (W : World) (b : Nat) (A : List Nat), Below w.heap.size w W → IX14 W b 0 [] A → Calls Try.prog 12 #[.pointer (some ⟨b, 0, none⟩), .slice a n ca] W (StsQ15 W [(0, (n : Int), 0)])) := fun W b A hb hI => stsN15 hb hI (hs.old hb) hn.out (by omega) hc (qr_none15 z _) (by rw [← hn.out]; exact none15 z (by rw [hn.out]; exact hz))
      have I1 := HIA.out w (Below.refl _ _)
      clear hs
      go_enter Try.func7, Try.ntmps7
      go_wp2_with (first
        | (go_at_call 10; refine I1.mono ?_; rintro e1 w1 ⟨b1, A1, rfl, hI1, B1⟩; clear I1)
        | (go_at_call 12; fail))
      refine (HS1.out w1 b1 A1 B1 hI1).mono ?_
      intro e2 w2 hq2
      obtain ⟨g2, r2, rfl, hr2, O2, -, B12⟩ := one15 hq2
      have B2 := B1.trans (B12.mono B1.size)
      clear hq2 hI1 B12
      have I2 := HI0.out w2 B2
      go_wp2_with (first
        | (go_at_call 10; refine I2.mono ?_; rintro e3 w3 ⟨b3, A3, rfl, hI3, B23⟩; have B3 := B2.trans (B23.mono B2.size); have O3 := O2.old B23; clear I2 B23 O2)
        | (go_at_call 12; fail))
      refine (HS2.out w3 b3 A3 B3 hI3).mono ?_
      intro e4 w4 hq4
      obtain ⟨g4, r4, rfl, hr4, P4, -, B34⟩ := one15 hq4
      have B4 := B3.trans (B34.mono B3.size)
      have O4 := O3.old B34
      clear hq4 hI3 B34 O3
      have I5 := HIA.out w4 B4
      go_wp2_with (first
        | (go_at_call 10; refine I5.mono ?_; rintro e5 w5 ⟨b5, A5, rfl, hI5, B45⟩; have B5 := B4.trans (B45.mono B4.size); have O5 := O4.old B45; have P5 := P4.old B45; clear I5 B45 O4 P4)
        | (go_at_call 12; fail))
      refine (HS3.out w5 b5 A5 B5 hI5).mono ?_
      intro e6 w6 hq6
      obtain ⟨ra6, rc6, rfl, B56⟩ := zero15 hq6
      have B6 := B5.trans (B56.mono B5.size)
      obtain ⟨x0, x1, x2⟩ := O5.old B56
      obtain ⟨y0, y1, y2⟩ := P5.old B56
      clear hq6 hI5 B56 O5 P5
      by_cases h9 : n < 9
      · have h9i : (n : Int) < 9 := by omega
        have AW := HLV.out w6 B6
        go_wp2_with (first
          | (go_at_call 9; refine AW.mono ?_; rintro e7 w7 ⟨rfl, B7⟩))
        go_ret
        exact ⟨by first | rfl | simp, B6⟩
      · have h9i : ¬ (n : Int) < 9 := by omega
        have AW := HLV.out w6 B6
        go_wp2_with (first
          | (go_at_call 9; refine AW.mono ?_; rintro e7 w7 ⟨rfl, B7⟩))
        go_ret
        exact ⟨by first | rfl | simp, B7⟩
end Go.Proofs.Ytbjjddoeilhomaa
