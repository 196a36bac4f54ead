
import Derived.Test.YtlbledagpoimaaaSuL1
import Derived.Deep.RegionHeld3
namespace Go.Proofs.Ytlbledagpoimaaa
open Go.RowKit
set_option linter.unusedVariables false

/-! SuffixLeast. -/
theorem tmod_bd13 (a : Int) {b : Int} (hb : 0 < b) : -b < a.tmod b ∧ a.tmod b < b := by
  rcases Int.lt_or_le a 0 with h | h
  · have h1 := Int.tmod_nonneg b (a := -a) (by omega)
    have h2 := Int.tmod_lt_of_pos (-a) hb
    rw [Int.neg_tmod] at h1 h2
    omega
  · have h1 := Int.tmod_nonneg b h
    have h2 := Int.tmod_lt_of_pos a hb
    omega
theorem wr13 {x : Int} (h : -9223372036854775808 ≤ x ∧ x ≤ 9223372036854775807) : wrap64 x = x := by unfold wrap64; omega
def Fc13 (W : World) (ab ao R T : Nat) (u v : Nat) : Prop := W.cell? ⟨ab, ao + R, none⟩ = some (.int .i64 (u : Int)) ∧ W.cell? ⟨ab, ao + T, none⟩ = some (.int .i64 (v : Int))
set_option maxRecDepth 100000 in
set_option maxHeartbeats 4000000 in
theorem suffixLeast_walk (w : World) (a : Option Addr) (z : List Int) (ca : Nat) (hs : Seg w a z) (hc : z.length ≤ ca) (hnil : a = none → ca = 0) (hl : z.length ≤ 140737488351232) (i : Int) (hi0 : -9223372036854775808 ≤ i) (hi1 : i ≤ 9223372036854775807) (k : Int) (hk0 : -9223372036854775808 ≤ k) (hk1 : k ≤ 9223372036854775807) :
    Calls Try.prog 7 #[.slice a z.length ca, .int .i64 i, .int .i64 k] w fun e w' => e = .returned (.bool true) ∧ Below w.heap.size w w' := by
  generalize hn0 : z.length = n at *
  have hn : Hid (z.length = n) := hn0
  clear hn0
  by_cases h24 : 16777216 < n
  · have h24i : (16777216 : Int) < (n : Int) := by omega
    have HN := pnewn13 a n ca w h24 (by omega)
    clear hs
    go_enter Try.func7, Try.ntmps7
    go_wp2_with (first
      | (go_at_call 10; refine HN.mono ?_; rintro e1 w1 ⟨rfl, hw1⟩; subst hw1))
    go_ret
    exact ⟨rfl, Below.refl _ _⟩
  · have h24i : ¬ (16777216 : Int) < (n : Int) := by omega
    have HN := pnew13 a z n ca w hs hnil hn (by omega)
    clear hs
    by_cases h2 : n < 2
    · have h2i : (n : Int) < 2 := by omega
      go_enter Try.func7, Try.ntmps7
      go_wp2_with (first
        | (go_at_call 10; refine HN.mono ?_; rintro e1 w1 ⟨b, da, dc, aa, ac, gb, gr, A, rfl, hI, B1, -⟩; clear HN)
        | (go_at_call 9; refine (plives13 _).mono ?_; rintro e5 w5 ⟨rfl, B5⟩))
      go_ret
      exact ⟨rfl, B1.trans (B5.mono B1.size)⟩
    · have h2i : ¬ (n : Int) < 2 := by omega
      have d1 : ¬ (n : Int) - 1 = 0 := by omega
      have d2 : ¬ (n : Int) = 1 := by omega
      obtain ⟨R0, hR0⟩ : ∃ R0, i.tmod ((n : Int) - 1) = R0 := ⟨_, rfl⟩
      have hRb := tmod_bd13 i (b := (n : Int) - 1) (by omega)
      rw [hR0] at hRb
      by_cases hz0 : R0 < 0
      · obtain ⟨R, hR⟩ : ∃ R : Nat, -R0 = (R : Int) := ⟨(-R0).toNat, by omega⟩
        have eR : wrap64 (-R0) = (R : Int) := by rw [hR]; exact wr13 (by omega)
        have hRn : R + 1 < n := by omega
        have hMp : ¬ (n : Int) - 1 - (R : Int) + 1 = 0 := by omega
        obtain ⟨K0, hK0⟩ : ∃ K0, k.tmod ((n : Int) - 1 - (R : Int) + 1) = K0 := ⟨_, rfl⟩
        have hKb := tmod_bd13 k (b := (n : Int) - 1 - (R : Int) + 1) (by omega)
        rw [hK0] at hKb
        have i1 : wrap64 ((n : Int) - 1 - (R : Int)) = (n : Int) - 1 - (R : Int) := wr13 (by omega)
        have i2 : wrap64 ((n : Int) - 1 - (R : Int) + 1) = (n : Int) - 1 - (R : Int) + 1 := wr13 (by omega)
        rcases Int.lt_trichotomy K0 0 with hz | hz | hz
        · obtain ⟨K, hK⟩ : ∃ K : Nat, -K0 = (K : Int) := ⟨(-K0).toNat, by omega⟩
          have eK : wrap64 (-K0) = (K : Int) := by rw [hK]; exact wr13 (by omega)
          have hRK : R + K < n := by omega
          have hKp : 1 ≤ K := by omega
          have hK1 : ¬ (K : Int) = 0 := by omega
          have e1 : (R : Int) + 1 < (n : Int) := by omega
          have e2 : (R : Int) + ((K : Nat) : Int) < (n : Int) := by omega
          have e3 : ¬ (n : Int) ≤ (R : Int) + ((K : Nat) : Int) := by omega
          go_enter Try.func7, Try.ntmps7
          go_wp2_with (first
            | (go_at_call 10; refine HN.mono ?_; rintro e1 w1 ⟨b, da, dc, aa, ac, gb, gr, A, rfl, hI, B1, -⟩; clear HN)
            | (go_at_call 19; fail))
          clear hR0 hK0 hRb hKb i1 i2 hMp d1 d2
          try clear eR
          try clear eK
          try clear hR
          try clear hK
          try clear hz0
          try clear hz
          have HIx : Hid (Ix13 w1 b da dc aa ac gb gr n z A) := hI
          refine (parr13 b da dc aa ac gb gr n z A w1 hI).mono ?_
          rintro e2 w2 ⟨ra, rc, rfl, -, hown, B2⟩
          have sg := own_segZ hown (nz12_bd13 hI.ar.lt hI.n24)
          go_wp2_with fail
          refine (plcp13 b da dc aa ac gb gr n z A w2 (hI.old B2)).mono ?_
          rintro e3 w3 ⟨g, rfl, R3, -, B3⟩
          have HIW : Hid (∀ W, Below w3.heap.size w3 W → Ix13 W b da dc aa ac gb gr n z A) := fun W hW => ((hI.old B2).old B3).old hW
          have sg3 := sg.old B3
          have hA := hI.ar
          have HAR : Hid (Ar12 z.length (S12 z) A) := by show Ar12 _ _ _; rw [hn.out]; exact hI.ar
          have HLV : Hid (∀ W, Below w3.heap.size w3 W → ∀ q, q < n → W.cell? ⟨g, q, none⟩ = some (.int .i64 ((lv13 z A q : Nat) : Int))) := fun W hW q hq => by
            have := (R3.old hW).cell (i := q) (by rw [lp13_len, hn.out]; exact hq)
            rw [lp13_get (by rw [hn.out]; exact hq)] at this
            exact this
          obtain ⟨ab, ao, rfl, cR⟩ := sg3.at_ R (by rw [nz12_len13, hA.len]; omega)
          have cT : w3.cell? ⟨ab, ao + (R + K), none⟩ = some (.int .i64 ((A.getD (R + K) 0 : Nat) : Int)) := by
            obtain ⟨ab', ao', ha', hc'⟩ := sg3.at_ (R + K) (by rw [nz12_len13, hA.len]; omega)
            cases ha'
            rw [nz12_get13 (by rw [hA.len]; omega)] at hc'
            exact hc'
          rw [nz12_get13 (by rw [hA.len]; omega)] at cR
          have hRl := hA.get (r := R) (by omega)
          have hTl := hA.get (r := R + K) hRK
          have HCM : Hid (∀ W, Below w3.heap.size w3 W → Calls Try.prog 11 #[.pointer (some ⟨b, 0, none⟩), .int .i64 ((A.getD R 0 : Nat) : Int), .int .i64 ((A.getD (R + K) 0 : Nat) : Int)] W fun e w' => e = .returned (.tuple #[.int .i64 ((lm13 z A R (K - 1) : Nat) : Int), .int .i64 0]) ∧ Below w3.heap.size w3 w') := fun W hW => by
            have h5 := pcom13 b da dc aa ac gb gr n z A (A.getD R 0) (A.getD (R + K) 0) W (HIW.out W hW) hRl hTl
            have h6 := lm13_is HAR.out R (K - 1) (by rw [hn.out]; omega)
            rw [show R + 1 + (K - 1) = R + K by omega] at h6
            rw [h6] at h5
            exact h5.mono fun e w' ⟨he, hB⟩ => ⟨he, hW.trans (hB.mono hW.size)⟩
          have HFC : Hid (∀ W, Below w3.heap.size w3 W → W.cell? ⟨ab, ao + R, none⟩ = some (.int .i64 ((A.getD R 0 : Nat) : Int)) ∧ W.cell? ⟨ab, ao + (R + K), none⟩ = some (.int .i64 ((A.getD (R + K) 0 : Nat) : Int))) := fun W hW => ⟨(hW.cell (p := ⟨ab, ao + R, none⟩) (World.block_lt_of_cell? w3 _ cR)).trans cR, (hW.cell (p := ⟨ab, ao + (R + K), none⟩) (World.block_lt_of_cell? w3 _ cT)).trans cT⟩
          have HLB : Hid (∀ q, q < n → lv13 z A q ≤ 16777216) := fun q hq => by
            have h7 := (lv13_le HAR.out (r := q) (by rw [hn.out]; exact hq)).1
            rw [hn.out] at h7
            omega
          have HB3 : Hid (Below w.heap.size w w3) := B1.trans ((B2.mono B1.size).trans (B3.mono (by have := B1.size; have := B2.size; omega)))
          have cL1 := HLV.out w3 (Below.refl _ _) (R + 1) (by omega)
          have bL1 := HLB.out (R + 1) (by omega)
          have HM0 : Hid (lv13 z A (R + 1) = lm13 z A R 0) := rfl
          have HNS : Hid (∀ d, lm13 z A R (d + 1) = min (lm13 z A R d) (lv13 z A (R + 1 + (d + 1)))) := fun d => rfl
          clear hI hA sg sg3 hown HIW HIx HAR R3 B1 B2 B3 cR cT hRl hTl
          rw [HM0.out] at cL1
          generalize hg0 : lm13 z A R 0 = m0 at *
          have HG0 : Hid (lm13 z A R 0 = m0) := hg0
          clear hg0
          go_wp2_with fail
          go_loopw [11, 12] (fun tl tk wr => ∃ q m : Nat, R + 1 ≤ q ∧ q ≤ R + K + 1 ∧ tl = .int .i64 m ∧ tk = .int .i64 q ∧ Hid (m = lm13 z A R (q - (R + 2)) ∧ m ≤ 16777216) ∧ wr = w3) (fun _ tk _ => n + 1 - (intOf tk).toNat)
          case atStart => exact ⟨R + 1, m0, by omega, by omega, rfl, by go_num, ⟨by rw [show R + 1 - (R + 2) = 0 by omega]; exact HG0.out.symm, by have := HM0.out; have := HG0.out; omega⟩, by first | trivial | rfl⟩
          case round =>
            obtain ⟨q, m, hq1, hq2, rfl, rfl, HQ, hw⟩ := hrel
            subst hw
            have hm24 := HQ.out.2
            by_cases hlt : q ≤ R + K
            · have hlti : (q : Int) ≤ (R : Int) + ((K : Nat) : Int) := by omega
              have hqn : (q : Int) < (n : Int) := by omega
              have cq := HLV.out wr (Below.refl _ _) q (by omega)
              have bq := HLB.out q (by omega)
              have HNX : Hid (min m (lv13 z A q) = lm13 z A R (q + 1 - (R + 2))) := by
                show _ = _
                rw [HQ.out.1]
                by_cases c : q = R + 1
                · subst c
                  rw [show R + 1 + 1 - (R + 2) = 0 by omega, show R + 1 - (R + 2) = 0 by omega, HM0.out, HG0.out]
                  omega
                · obtain ⟨d, rfl⟩ : ∃ d, q = R + 2 + d := ⟨q - (R + 2), by omega⟩
                  rw [show R + 2 + d - (R + 2) = d by omega, show R + 2 + d + 1 - (R + 2) = d + 1 by omega, HNS.out d, show R + 1 + (d + 1) = R + 2 + d by omega]
              generalize lv13 z A q = v at *
              by_cases hvm : v < m
              · have hvmi : (v : Int) < (m : Int) := by omega
                have HN2 : Hid (v = lm13 z A R (q + 1 - (R + 2)) ∧ v ≤ 16777216) := ⟨by have := HNX.out; omega, by omega⟩
                clear HNX HQ
                go_wp2_with fail
                go_roundw
                case rel => exact ⟨q + 1, v, by omega, by omega, by go_num, by go_num, HN2, by first | trivial | rfl⟩
                case measure => simp [intOf]; omega
              · have hvmi : ¬ (v : Int) < (m : Int) := by omega
                have HN2 : Hid (m = lm13 z A R (q + 1 - (R + 2)) ∧ m ≤ 16777216) := ⟨by have := HNX.out; omega, by omega⟩
                clear HNX HQ
                go_wp2_with fail
                go_roundw
                case rel => exact ⟨q + 1, m, by omega, by omega, by go_num, by go_num, HN2, by first | trivial | rfl⟩
                case measure => simp [intOf]; omega
            · have hlti : ¬ (q : Int) ≤ (R : Int) + ((K : Nat) : Int) := by omega
              have HME : Hid (lm13 z A R (K - 1) = m) := by
                show _ = _
                rw [HQ.out.1, show q - (R + 2) = (K - 1) by omega]
              first | rw [HME.out] at HCM | rw [← HG0.out, HME.out] at HCM
              have HFD : Hid (∀ W, Below wr.heap.size wr W → W.cell? ⟨ab, ao + R, none⟩ = some (.int .i64 ((A.getD R 0 : Nat) : Int)) ∧ W.cell? ⟨ab, ao + ((R : Int) + ((K : Nat) : Int)).toNat, none⟩ = some (.int .i64 ((A.getD (R + K) 0 : Nat) : Int))) := fun W hW => by
                have h8 := HFC.out W hW
                have h9 : ((R : Int) + ((K : Nat) : Int)).toNat = R + K := by omega
                rw [h9]
                exact h8
              obtain ⟨cR, cT⟩ := HFD.out wr (Below.refl _ _)
              have HCT : Hid (wr.cell? ⟨ab, ao + R, none⟩ = some (.int .i64 ((A.getD R 0 : Nat) : Int)) ∧ wr.cell? ⟨ab, ao + ((R : Int) + ((K : Nat) : Int)).toNat, none⟩ = some (.int .i64 ((A.getD (R + K) 0 : Nat) : Int))) := ⟨cR, cT⟩
              clear cR cT HFC
              have BD : Below wr.heap.size wr wr.drew := (Below.refl _ _).drew
              have HLI : Hid (∀ W, Below wr.heap.size wr W → Calls Try.prog 9 #[] W fun e w' => e = .returned (.bool true) ∧ Below wr.heap.size wr w') := fun W hb => (plives13 W).mono fun e w' ⟨he, hB⟩ => ⟨he, hb.trans (hB.mono hb.size)⟩
              generalize A.getD R 0 = u at *
              generalize A.getD (R + K) 0 = v at *
              clear HQ HNS HLV HLB HME
              have x1 : (0 : Int) ≤ (R : Int) := by omega
              have x2 : (R : Int) < (n : Int) := by omega
              have x3 : (0 : Int) ≤ (R : Int) + ((K : Nat) : Int) := by omega
              have x4 : IntKind.i64.wrap ((R : Int) + ((K : Nat) : Int)) = (R : Int) + ((K : Nat) : Int) := IntWalk.i64_in _ (by omega)
              go_wp2_with fail
              go_region_held3 (fun W => W.cell? ⟨ab, ao + R, none⟩ = some (.int .i64 (u : Int)) ∧ W.cell? ⟨ab, ao + ((R : Int) + ((K : Nat) : Int)).toNat, none⟩ = some (.int .i64 (v : Int))) (first | (exact HCT.out) | (exact HFD.out _ (by assumption))) (first
                | (go_at_call 11; refine (HCM.out _ (by assumption)).mono ?_; rintro e4 w4 ⟨rfl, B4⟩))
              go_wp2_with (first
                | (go_at_call 9; refine (HLI.out _ B4).mono ?_; rintro e5 w5 ⟨rfl, B5⟩))
              go_ret
              exact ⟨rfl, HB3.out.trans (B5.mono HB3.out.size)⟩
        · subst hz
          have hRK : R + 1 < n := by omega
          have hKp : 1 ≤ 1 := by omega
          have e1 : (R : Int) + 1 < (n : Int) := by omega
          have e2 : (R : Int) + 1 < (n : Int) := by omega
          have e3 : ¬ (n : Int) ≤ (R : Int) + 1 := by omega
          go_enter Try.func7, Try.ntmps7
          go_wp2_with (first
            | (go_at_call 10; refine HN.mono ?_; rintro e1 w1 ⟨b, da, dc, aa, ac, gb, gr, A, rfl, hI, B1, -⟩; clear HN)
            | (go_at_call 19; fail))
          clear hR0 hK0 hRb hKb i1 i2 hMp d1 d2
          try clear eR
          try clear eK
          try clear hR
          try clear hK
          try clear hz0
          try clear hz
          have HIx : Hid (Ix13 w1 b da dc aa ac gb gr n z A) := hI
          refine (parr13 b da dc aa ac gb gr n z A w1 hI).mono ?_
          rintro e2 w2 ⟨ra, rc, rfl, -, hown, B2⟩
          have sg := own_segZ hown (nz12_bd13 hI.ar.lt hI.n24)
          go_wp2_with fail
          refine (plcp13 b da dc aa ac gb gr n z A w2 (hI.old B2)).mono ?_
          rintro e3 w3 ⟨g, rfl, R3, -, B3⟩
          have HIW : Hid (∀ W, Below w3.heap.size w3 W → Ix13 W b da dc aa ac gb gr n z A) := fun W hW => ((hI.old B2).old B3).old hW
          have sg3 := sg.old B3
          have hA := hI.ar
          have HAR : Hid (Ar12 z.length (S12 z) A) := by show Ar12 _ _ _; rw [hn.out]; exact hI.ar
          have HLV : Hid (∀ W, Below w3.heap.size w3 W → ∀ q, q < n → W.cell? ⟨g, q, none⟩ = some (.int .i64 ((lv13 z A q : Nat) : Int))) := fun W hW q hq => by
            have := (R3.old hW).cell (i := q) (by rw [lp13_len, hn.out]; exact hq)
            rw [lp13_get (by rw [hn.out]; exact hq)] at this
            exact this
          obtain ⟨ab, ao, rfl, cR⟩ := sg3.at_ R (by rw [nz12_len13, hA.len]; omega)
          have cT : w3.cell? ⟨ab, ao + (R + 1), none⟩ = some (.int .i64 ((A.getD (R + 1) 0 : Nat) : Int)) := by
            obtain ⟨ab', ao', ha', hc'⟩ := sg3.at_ (R + 1) (by rw [nz12_len13, hA.len]; omega)
            cases ha'
            rw [nz12_get13 (by rw [hA.len]; omega)] at hc'
            exact hc'
          rw [nz12_get13 (by rw [hA.len]; omega)] at cR
          have hRl := hA.get (r := R) (by omega)
          have hTl := hA.get (r := R + 1) hRK
          have HCM : Hid (∀ W, Below w3.heap.size w3 W → Calls Try.prog 11 #[.pointer (some ⟨b, 0, none⟩), .int .i64 ((A.getD R 0 : Nat) : Int), .int .i64 ((A.getD (R + 1) 0 : Nat) : Int)] W fun e w' => e = .returned (.tuple #[.int .i64 ((lm13 z A R 0 : Nat) : Int), .int .i64 0]) ∧ Below w3.heap.size w3 w') := fun W hW => by
            have h5 := pcom13 b da dc aa ac gb gr n z A (A.getD R 0) (A.getD (R + 1) 0) W (HIW.out W hW) hRl hTl
            have h6 := lm13_is HAR.out R 0 (by rw [hn.out]; omega)
            rw [show R + 1 + 0 = R + 1 by omega] at h6
            rw [h6] at h5
            exact h5.mono fun e w' ⟨he, hB⟩ => ⟨he, hW.trans (hB.mono hW.size)⟩
          have HFC : Hid (∀ W, Below w3.heap.size w3 W → W.cell? ⟨ab, ao + R, none⟩ = some (.int .i64 ((A.getD R 0 : Nat) : Int)) ∧ W.cell? ⟨ab, ao + (R + 1), none⟩ = some (.int .i64 ((A.getD (R + 1) 0 : Nat) : Int))) := fun W hW => ⟨(hW.cell (p := ⟨ab, ao + R, none⟩) (World.block_lt_of_cell? w3 _ cR)).trans cR, (hW.cell (p := ⟨ab, ao + (R + 1), none⟩) (World.block_lt_of_cell? w3 _ cT)).trans cT⟩
          have HLB : Hid (∀ q, q < n → lv13 z A q ≤ 16777216) := fun q hq => by
            have h7 := (lv13_le HAR.out (r := q) (by rw [hn.out]; exact hq)).1
            rw [hn.out] at h7
            omega
          have HB3 : Hid (Below w.heap.size w w3) := B1.trans ((B2.mono B1.size).trans (B3.mono (by have := B1.size; have := B2.size; omega)))
          have cL1 := HLV.out w3 (Below.refl _ _) (R + 1) (by omega)
          have bL1 := HLB.out (R + 1) (by omega)
          have HM0 : Hid (lv13 z A (R + 1) = lm13 z A R 0) := rfl
          have HNS : Hid (∀ d, lm13 z A R (d + 1) = min (lm13 z A R d) (lv13 z A (R + 1 + (d + 1)))) := fun d => rfl
          clear hI hA sg sg3 hown HIW HIx HAR R3 B1 B2 B3 cR cT hRl hTl
          rw [HM0.out] at cL1
          generalize hg0 : lm13 z A R 0 = m0 at *
          have HG0 : Hid (lm13 z A R 0 = m0) := hg0
          clear hg0
          go_wp2_with fail
          go_loopw [11, 12] (fun tl tk wr => ∃ q m : Nat, R + 1 ≤ q ∧ q ≤ R + 1 + 1 ∧ tl = .int .i64 m ∧ tk = .int .i64 q ∧ Hid (m = lm13 z A R (q - (R + 2)) ∧ m ≤ 16777216) ∧ wr = w3) (fun _ tk _ => n + 1 - (intOf tk).toNat)
          case atStart => exact ⟨R + 1, m0, by omega, by omega, rfl, by go_num, ⟨by rw [show R + 1 - (R + 2) = 0 by omega]; exact HG0.out.symm, by have := HM0.out; have := HG0.out; omega⟩, by first | trivial | rfl⟩
          case round =>
            obtain ⟨q, m, hq1, hq2, rfl, rfl, HQ, hw⟩ := hrel
            subst hw
            have hm24 := HQ.out.2
            by_cases hlt : q ≤ R + 1
            · have hlti : (q : Int) ≤ (R : Int) + 1 := by omega
              have hqn : (q : Int) < (n : Int) := by omega
              have cq := HLV.out wr (Below.refl _ _) q (by omega)
              have bq := HLB.out q (by omega)
              have HNX : Hid (min m (lv13 z A q) = lm13 z A R (q + 1 - (R + 2))) := by
                show _ = _
                rw [HQ.out.1]
                by_cases c : q = R + 1
                · subst c
                  rw [show R + 1 + 1 - (R + 2) = 0 by omega, show R + 1 - (R + 2) = 0 by omega, HM0.out, HG0.out]
                  omega
                · obtain ⟨d, rfl⟩ : ∃ d, q = R + 2 + d := ⟨q - (R + 2), by omega⟩
                  rw [show R + 2 + d - (R + 2) = d by omega, show R + 2 + d + 1 - (R + 2) = d + 1 by omega, HNS.out d, show R + 1 + (d + 1) = R + 2 + d by omega]
              generalize lv13 z A q = v at *
              by_cases hvm : v < m
              · have hvmi : (v : Int) < (m : Int) := by omega
                have HN2 : Hid (v = lm13 z A R (q + 1 - (R + 2)) ∧ v ≤ 16777216) := ⟨by have := HNX.out; omega, by omega⟩
                clear HNX HQ
                go_wp2_with fail
                go_roundw
                case rel => exact ⟨q + 1, v, by omega, by omega, by go_num, by go_num, HN2, by first | trivial | rfl⟩
                case measure => simp [intOf]; omega
              · have hvmi : ¬ (v : Int) < (m : Int) := by omega
                have HN2 : Hid (m = lm13 z A R (q + 1 - (R + 2)) ∧ m ≤ 16777216) := ⟨by have := HNX.out; omega, by omega⟩
                clear HNX HQ
                go_wp2_with fail
                go_roundw
                case rel => exact ⟨q + 1, m, by omega, by omega, by go_num, by go_num, HN2, by first | trivial | rfl⟩
                case measure => simp [intOf]; omega
            · have hlti : ¬ (q : Int) ≤ (R : Int) + 1 := by omega
              have HME : Hid (lm13 z A R 0 = m) := by
                show _ = _
                rw [HQ.out.1, show q - (R + 2) = 0 by omega]
              first | rw [HME.out] at HCM | rw [← HG0.out, HME.out] at HCM
              have HFD : Hid (∀ W, Below wr.heap.size wr W → W.cell? ⟨ab, ao + R, none⟩ = some (.int .i64 ((A.getD R 0 : Nat) : Int)) ∧ W.cell? ⟨ab, ao + (R + 1), none⟩ = some (.int .i64 ((A.getD (R + 1) 0 : Nat) : Int))) := fun W hW => by
                have h8 := HFC.out W hW
                have h9 : (R + 1) = R + 1 := by omega
                rw [h9]
                exact h8
              obtain ⟨cR, cT⟩ := HFD.out wr (Below.refl _ _)
              have HCT : Hid (wr.cell? ⟨ab, ao + R, none⟩ = some (.int .i64 ((A.getD R 0 : Nat) : Int)) ∧ wr.cell? ⟨ab, ao + (R + 1), none⟩ = some (.int .i64 ((A.getD (R + 1) 0 : Nat) : Int))) := ⟨cR, cT⟩
              clear cR cT HFC
              have BD : Below wr.heap.size wr wr.drew := (Below.refl _ _).drew
              have HLI : Hid (∀ W, Below wr.heap.size wr W → Calls Try.prog 9 #[] W fun e w' => e = .returned (.bool true) ∧ Below wr.heap.size wr w') := fun W hb => (plives13 W).mono fun e w' ⟨he, hB⟩ => ⟨he, hb.trans (hB.mono hb.size)⟩
              generalize A.getD R 0 = u at *
              generalize A.getD (R + 1) 0 = v at *
              clear HQ HNS HLV HLB HME
              have x1 : (0 : Int) ≤ (R : Int) := by omega
              have x2 : (R : Int) < (n : Int) := by omega
              have x3 : (0 : Int) ≤ (R : Int) + 1 := by omega
              have x4 : IntKind.i64.wrap ((R : Int) + 1) = (R : Int) + 1 := IntWalk.i64_in _ (by omega)
              go_wp2_with fail
              go_region_held3 (fun W => W.cell? ⟨ab, ao + R, none⟩ = some (.int .i64 (u : Int)) ∧ W.cell? ⟨ab, ao + (R + 1), none⟩ = some (.int .i64 (v : Int))) (first | (exact HCT.out) | (exact HFD.out _ (by assumption))) (first
                | (go_at_call 11; refine (HCM.out _ (by assumption)).mono ?_; rintro e4 w4 ⟨rfl, B4⟩))
              go_wp2_with (first
                | (go_at_call 9; refine (HLI.out _ B4).mono ?_; rintro e5 w5 ⟨rfl, B5⟩))
              go_ret
              exact ⟨rfl, HB3.out.trans (B5.mono HB3.out.size)⟩
        · obtain ⟨K, rfl⟩ : ∃ K : Nat, K0 = (K : Int) := ⟨K0.toNat, by omega⟩
          have hRK : R + K < n := by omega
          have hKp : 1 ≤ K := by omega
          have hK1 : ¬ (K : Int) = 0 := by omega
          have e1 : (R : Int) + 1 < (n : Int) := by omega
          have e2 : (R : Int) + ((K : Nat) : Int) < (n : Int) := by omega
          have e3 : ¬ (n : Int) ≤ (R : Int) + ((K : Nat) : Int) := by omega
          go_enter Try.func7, Try.ntmps7
          go_wp2_with (first
            | (go_at_call 10; refine HN.mono ?_; rintro e1 w1 ⟨b, da, dc, aa, ac, gb, gr, A, rfl, hI, B1, -⟩; clear HN)
            | (go_at_call 19; fail))
          clear hR0 hK0 hRb hKb i1 i2 hMp d1 d2
          try clear eR
          try clear eK
          try clear hR
          try clear hK
          try clear hz0
          try clear hz
          have HIx : Hid (Ix13 w1 b da dc aa ac gb gr n z A) := hI
          refine (parr13 b da dc aa ac gb gr n z A w1 hI).mono ?_
          rintro e2 w2 ⟨ra, rc, rfl, -, hown, B2⟩
          have sg := own_segZ hown (nz12_bd13 hI.ar.lt hI.n24)
          go_wp2_with fail
          refine (plcp13 b da dc aa ac gb gr n z A w2 (hI.old B2)).mono ?_
          rintro e3 w3 ⟨g, rfl, R3, -, B3⟩
          have HIW : Hid (∀ W, Below w3.heap.size w3 W → Ix13 W b da dc aa ac gb gr n z A) := fun W hW => ((hI.old B2).old B3).old hW
          have sg3 := sg.old B3
          have hA := hI.ar
          have HAR : Hid (Ar12 z.length (S12 z) A) := by show Ar12 _ _ _; rw [hn.out]; exact hI.ar
          have HLV : Hid (∀ W, Below w3.heap.size w3 W → ∀ q, q < n → W.cell? ⟨g, q, none⟩ = some (.int .i64 ((lv13 z A q : Nat) : Int))) := fun W hW q hq => by
            have := (R3.old hW).cell (i := q) (by rw [lp13_len, hn.out]; exact hq)
            rw [lp13_get (by rw [hn.out]; exact hq)] at this
            exact this
          obtain ⟨ab, ao, rfl, cR⟩ := sg3.at_ R (by rw [nz12_len13, hA.len]; omega)
          have cT : w3.cell? ⟨ab, ao + (R + K), none⟩ = some (.int .i64 ((A.getD (R + K) 0 : Nat) : Int)) := by
            obtain ⟨ab', ao', ha', hc'⟩ := sg3.at_ (R + K) (by rw [nz12_len13, hA.len]; omega)
            cases ha'
            rw [nz12_get13 (by rw [hA.len]; omega)] at hc'
            exact hc'
          rw [nz12_get13 (by rw [hA.len]; omega)] at cR
          have hRl := hA.get (r := R) (by omega)
          have hTl := hA.get (r := R + K) hRK
          have HCM : Hid (∀ W, Below w3.heap.size w3 W → Calls Try.prog 11 #[.pointer (some ⟨b, 0, none⟩), .int .i64 ((A.getD R 0 : Nat) : Int), .int .i64 ((A.getD (R + K) 0 : Nat) : Int)] W fun e w' => e = .returned (.tuple #[.int .i64 ((lm13 z A R (K - 1) : Nat) : Int), .int .i64 0]) ∧ Below w3.heap.size w3 w') := fun W hW => by
            have h5 := pcom13 b da dc aa ac gb gr n z A (A.getD R 0) (A.getD (R + K) 0) W (HIW.out W hW) hRl hTl
            have h6 := lm13_is HAR.out R (K - 1) (by rw [hn.out]; omega)
            rw [show R + 1 + (K - 1) = R + K by omega] at h6
            rw [h6] at h5
            exact h5.mono fun e w' ⟨he, hB⟩ => ⟨he, hW.trans (hB.mono hW.size)⟩
          have HFC : Hid (∀ W, Below w3.heap.size w3 W → W.cell? ⟨ab, ao + R, none⟩ = some (.int .i64 ((A.getD R 0 : Nat) : Int)) ∧ W.cell? ⟨ab, ao + (R + K), none⟩ = some (.int .i64 ((A.getD (R + K) 0 : Nat) : Int))) := fun W hW => ⟨(hW.cell (p := ⟨ab, ao + R, none⟩) (World.block_lt_of_cell? w3 _ cR)).trans cR, (hW.cell (p := ⟨ab, ao + (R + K), none⟩) (World.block_lt_of_cell? w3 _ cT)).trans cT⟩
          have HLB : Hid (∀ q, q < n → lv13 z A q ≤ 16777216) := fun q hq => by
            have h7 := (lv13_le HAR.out (r := q) (by rw [hn.out]; exact hq)).1
            rw [hn.out] at h7
            omega
          have HB3 : Hid (Below w.heap.size w w3) := B1.trans ((B2.mono B1.size).trans (B3.mono (by have := B1.size; have := B2.size; omega)))
          have cL1 := HLV.out w3 (Below.refl _ _) (R + 1) (by omega)
          have bL1 := HLB.out (R + 1) (by omega)
          have HM0 : Hid (lv13 z A (R + 1) = lm13 z A R 0) := rfl
          have HNS : Hid (∀ d, lm13 z A R (d + 1) = min (lm13 z A R d) (lv13 z A (R + 1 + (d + 1)))) := fun d => rfl
          clear hI hA sg sg3 hown HIW HIx HAR R3 B1 B2 B3 cR cT hRl hTl
          rw [HM0.out] at cL1
          generalize hg0 : lm13 z A R 0 = m0 at *
          have HG0 : Hid (lm13 z A R 0 = m0) := hg0
          clear hg0
          go_wp2_with fail
          go_loopw [11, 12] (fun tl tk wr => ∃ q m : Nat, R + 1 ≤ q ∧ q ≤ R + K + 1 ∧ tl = .int .i64 m ∧ tk = .int .i64 q ∧ Hid (m = lm13 z A R (q - (R + 2)) ∧ m ≤ 16777216) ∧ wr = w3) (fun _ tk _ => n + 1 - (intOf tk).toNat)
          case atStart => exact ⟨R + 1, m0, by omega, by omega, rfl, by go_num, ⟨by rw [show R + 1 - (R + 2) = 0 by omega]; exact HG0.out.symm, by have := HM0.out; have := HG0.out; omega⟩, by first | trivial | rfl⟩
          case round =>
            obtain ⟨q, m, hq1, hq2, rfl, rfl, HQ, hw⟩ := hrel
            subst hw
            have hm24 := HQ.out.2
            by_cases hlt : q ≤ R + K
            · have hlti : (q : Int) ≤ (R : Int) + ((K : Nat) : Int) := by omega
              have hqn : (q : Int) < (n : Int) := by omega
              have cq := HLV.out wr (Below.refl _ _) q (by omega)
              have bq := HLB.out q (by omega)
              have HNX : Hid (min m (lv13 z A q) = lm13 z A R (q + 1 - (R + 2))) := by
                show _ = _
                rw [HQ.out.1]
                by_cases c : q = R + 1
                · subst c
                  rw [show R + 1 + 1 - (R + 2) = 0 by omega, show R + 1 - (R + 2) = 0 by omega, HM0.out, HG0.out]
                  omega
                · obtain ⟨d, rfl⟩ : ∃ d, q = R + 2 + d := ⟨q - (R + 2), by omega⟩
                  rw [show R + 2 + d - (R + 2) = d by omega, show R + 2 + d + 1 - (R + 2) = d + 1 by omega, HNS.out d, show R + 1 + (d + 1) = R + 2 + d by omega]
              generalize lv13 z A q = v at *
              by_cases hvm : v < m
              · have hvmi : (v : Int) < (m : Int) := by omega
                have HN2 : Hid (v = lm13 z A R (q + 1 - (R + 2)) ∧ v ≤ 16777216) := ⟨by have := HNX.out; omega, by omega⟩
                clear HNX HQ
                go_wp2_with fail
                go_roundw
                case rel => exact ⟨q + 1, v, by omega, by omega, by go_num, by go_num, HN2, by first | trivial | rfl⟩
                case measure => simp [intOf]; omega
              · have hvmi : ¬ (v : Int) < (m : Int) := by omega
                have HN2 : Hid (m = lm13 z A R (q + 1 - (R + 2)) ∧ m ≤ 16777216) := ⟨by have := HNX.out; omega, by omega⟩
                clear HNX HQ
                go_wp2_with fail
                go_roundw
                case rel => exact ⟨q + 1, m, by omega, by omega, by go_num, by go_num, HN2, by first | trivial | rfl⟩
                case measure => simp [intOf]; omega
            · have hlti : ¬ (q : Int) ≤ (R : Int) + ((K : Nat) : Int) := by omega
              have HME : Hid (lm13 z A R (K - 1) = m) := by
                show _ = _
                rw [HQ.out.1, show q - (R + 2) = (K - 1) by omega]
              first | rw [HME.out] at HCM | rw [← HG0.out, HME.out] at HCM
              have HFD : Hid (∀ W, Below wr.heap.size wr W → W.cell? ⟨ab, ao + R, none⟩ = some (.int .i64 ((A.getD R 0 : Nat) : Int)) ∧ W.cell? ⟨ab, ao + ((R : Int) + ((K : Nat) : Int)).toNat, none⟩ = some (.int .i64 ((A.getD (R + K) 0 : Nat) : Int))) := fun W hW => by
                have h8 := HFC.out W hW
                have h9 : ((R : Int) + ((K : Nat) : Int)).toNat = R + K := by omega
                rw [h9]
                exact h8
              obtain ⟨cR, cT⟩ := HFD.out wr (Below.refl _ _)
              have HCT : Hid (wr.cell? ⟨ab, ao + R, none⟩ = some (.int .i64 ((A.getD R 0 : Nat) : Int)) ∧ wr.cell? ⟨ab, ao + ((R : Int) + ((K : Nat) : Int)).toNat, none⟩ = some (.int .i64 ((A.getD (R + K) 0 : Nat) : Int))) := ⟨cR, cT⟩
              clear cR cT HFC
              have BD : Below wr.heap.size wr wr.drew := (Below.refl _ _).drew
              have HLI : Hid (∀ W, Below wr.heap.size wr W → Calls Try.prog 9 #[] W fun e w' => e = .returned (.bool true) ∧ Below wr.heap.size wr w') := fun W hb => (plives13 W).mono fun e w' ⟨he, hB⟩ => ⟨he, hb.trans (hB.mono hb.size)⟩
              generalize A.getD R 0 = u at *
              generalize A.getD (R + K) 0 = v at *
              clear HQ HNS HLV HLB HME
              have x1 : (0 : Int) ≤ (R : Int) := by omega
              have x2 : (R : Int) < (n : Int) := by omega
              have x3 : (0 : Int) ≤ (R : Int) + ((K : Nat) : Int) := by omega
              have x4 : IntKind.i64.wrap ((R : Int) + ((K : Nat) : Int)) = (R : Int) + ((K : Nat) : Int) := IntWalk.i64_in _ (by omega)
              go_wp2_with fail
              go_region_held3 (fun W => W.cell? ⟨ab, ao + R, none⟩ = some (.int .i64 (u : Int)) ∧ W.cell? ⟨ab, ao + ((R : Int) + ((K : Nat) : Int)).toNat, none⟩ = some (.int .i64 (v : Int))) (first | (exact HCT.out) | (exact HFD.out _ (by assumption))) (first
                | (go_at_call 11; refine (HCM.out _ (by assumption)).mono ?_; rintro e4 w4 ⟨rfl, B4⟩))
              go_wp2_with (first
                | (go_at_call 9; refine (HLI.out _ B4).mono ?_; rintro e5 w5 ⟨rfl, B5⟩))
              go_ret
              exact ⟨rfl, HB3.out.trans (B5.mono HB3.out.size)⟩
      · obtain ⟨R, rfl⟩ : ∃ R : Nat, R0 = (R : Int) := ⟨R0.toNat, by omega⟩
        have hRn : R + 1 < n := by omega
        have hMp : ¬ (n : Int) - 1 - (R : Int) + 1 = 0 := by omega
        obtain ⟨K0, hK0⟩ : ∃ K0, k.tmod ((n : Int) - 1 - (R : Int) + 1) = K0 := ⟨_, rfl⟩
        have hKb := tmod_bd13 k (b := (n : Int) - 1 - (R : Int) + 1) (by omega)
        rw [hK0] at hKb
        have i1 : wrap64 ((n : Int) - 1 - (R : Int)) = (n : Int) - 1 - (R : Int) := wr13 (by omega)
        have i2 : wrap64 ((n : Int) - 1 - (R : Int) + 1) = (n : Int) - 1 - (R : Int) + 1 := wr13 (by omega)
        rcases Int.lt_trichotomy K0 0 with hz | hz | hz
        · obtain ⟨K, hK⟩ : ∃ K : Nat, -K0 = (K : Int) := ⟨(-K0).toNat, by omega⟩
          have eK : wrap64 (-K0) = (K : Int) := by rw [hK]; exact wr13 (by omega)
          have hRK : R + K < n := by omega
          have hKp : 1 ≤ K := by omega
          have hK1 : ¬ (K : Int) = 0 := by omega
          have e1 : (R : Int) + 1 < (n : Int) := by omega
          have e2 : (R : Int) + ((K : Nat) : Int) < (n : Int) := by omega
          have e3 : ¬ (n : Int) ≤ (R : Int) + ((K : Nat) : Int) := by omega
          go_enter Try.func7, Try.ntmps7
          go_wp2_with (first
            | (go_at_call 10; refine HN.mono ?_; rintro e1 w1 ⟨b, da, dc, aa, ac, gb, gr, A, rfl, hI, B1, -⟩; clear HN)
            | (go_at_call 19; fail))
          clear hR0 hK0 hRb hKb i1 i2 hMp d1 d2
          try clear eR
          try clear eK
          try clear hR
          try clear hK
          try clear hz0
          try clear hz
          have HIx : Hid (Ix13 w1 b da dc aa ac gb gr n z A) := hI
          refine (parr13 b da dc aa ac gb gr n z A w1 hI).mono ?_
          rintro e2 w2 ⟨ra, rc, rfl, -, hown, B2⟩
          have sg := own_segZ hown (nz12_bd13 hI.ar.lt hI.n24)
          go_wp2_with fail
          refine (plcp13 b da dc aa ac gb gr n z A w2 (hI.old B2)).mono ?_
          rintro e3 w3 ⟨g, rfl, R3, -, B3⟩
          have HIW : Hid (∀ W, Below w3.heap.size w3 W → Ix13 W b da dc aa ac gb gr n z A) := fun W hW => ((hI.old B2).old B3).old hW
          have sg3 := sg.old B3
          have hA := hI.ar
          have HAR : Hid (Ar12 z.length (S12 z) A) := by show Ar12 _ _ _; rw [hn.out]; exact hI.ar
          have HLV : Hid (∀ W, Below w3.heap.size w3 W → ∀ q, q < n → W.cell? ⟨g, q, none⟩ = some (.int .i64 ((lv13 z A q : Nat) : Int))) := fun W hW q hq => by
            have := (R3.old hW).cell (i := q) (by rw [lp13_len, hn.out]; exact hq)
            rw [lp13_get (by rw [hn.out]; exact hq)] at this
            exact this
          obtain ⟨ab, ao, rfl, cR⟩ := sg3.at_ R (by rw [nz12_len13, hA.len]; omega)
          have cT : w3.cell? ⟨ab, ao + (R + K), none⟩ = some (.int .i64 ((A.getD (R + K) 0 : Nat) : Int)) := by
            obtain ⟨ab', ao', ha', hc'⟩ := sg3.at_ (R + K) (by rw [nz12_len13, hA.len]; omega)
            cases ha'
            rw [nz12_get13 (by rw [hA.len]; omega)] at hc'
            exact hc'
          rw [nz12_get13 (by rw [hA.len]; omega)] at cR
          have hRl := hA.get (r := R) (by omega)
          have hTl := hA.get (r := R + K) hRK
          have HCM : Hid (∀ W, Below w3.heap.size w3 W → Calls Try.prog 11 #[.pointer (some ⟨b, 0, none⟩), .int .i64 ((A.getD R 0 : Nat) : Int), .int .i64 ((A.getD (R + K) 0 : Nat) : Int)] W fun e w' => e = .returned (.tuple #[.int .i64 ((lm13 z A R (K - 1) : Nat) : Int), .int .i64 0]) ∧ Below w3.heap.size w3 w') := fun W hW => by
            have h5 := pcom13 b da dc aa ac gb gr n z A (A.getD R 0) (A.getD (R + K) 0) W (HIW.out W hW) hRl hTl
            have h6 := lm13_is HAR.out R (K - 1) (by rw [hn.out]; omega)
            rw [show R + 1 + (K - 1) = R + K by omega] at h6
            rw [h6] at h5
            exact h5.mono fun e w' ⟨he, hB⟩ => ⟨he, hW.trans (hB.mono hW.size)⟩
          have HFC : Hid (∀ W, Below w3.heap.size w3 W → W.cell? ⟨ab, ao + R, none⟩ = some (.int .i64 ((A.getD R 0 : Nat) : Int)) ∧ W.cell? ⟨ab, ao + (R + K), none⟩ = some (.int .i64 ((A.getD (R + K) 0 : Nat) : Int))) := fun W hW => ⟨(hW.cell (p := ⟨ab, ao + R, none⟩) (World.block_lt_of_cell? w3 _ cR)).trans cR, (hW.cell (p := ⟨ab, ao + (R + K), none⟩) (World.block_lt_of_cell? w3 _ cT)).trans cT⟩
          have HLB : Hid (∀ q, q < n → lv13 z A q ≤ 16777216) := fun q hq => by
            have h7 := (lv13_le HAR.out (r := q) (by rw [hn.out]; exact hq)).1
            rw [hn.out] at h7
            omega
          have HB3 : Hid (Below w.heap.size w w3) := B1.trans ((B2.mono B1.size).trans (B3.mono (by have := B1.size; have := B2.size; omega)))
          have cL1 := HLV.out w3 (Below.refl _ _) (R + 1) (by omega)
          have bL1 := HLB.out (R + 1) (by omega)
          have HM0 : Hid (lv13 z A (R + 1) = lm13 z A R 0) := rfl
          have HNS : Hid (∀ d, lm13 z A R (d + 1) = min (lm13 z A R d) (lv13 z A (R + 1 + (d + 1)))) := fun d => rfl
          clear hI hA sg sg3 hown HIW HIx HAR R3 B1 B2 B3 cR cT hRl hTl
          rw [HM0.out] at cL1
          generalize hg0 : lm13 z A R 0 = m0 at *
          have HG0 : Hid (lm13 z A R 0 = m0) := hg0
          clear hg0
          go_wp2_with fail
          go_loopw [11, 12] (fun tl tk wr => ∃ q m : Nat, R + 1 ≤ q ∧ q ≤ R + K + 1 ∧ tl = .int .i64 m ∧ tk = .int .i64 q ∧ Hid (m = lm13 z A R (q - (R + 2)) ∧ m ≤ 16777216) ∧ wr = w3) (fun _ tk _ => n + 1 - (intOf tk).toNat)
          case atStart => exact ⟨R + 1, m0, by omega, by omega, rfl, by go_num, ⟨by rw [show R + 1 - (R + 2) = 0 by omega]; exact HG0.out.symm, by have := HM0.out; have := HG0.out; omega⟩, by first | trivial | rfl⟩
          case round =>
            obtain ⟨q, m, hq1, hq2, rfl, rfl, HQ, hw⟩ := hrel
            subst hw
            have hm24 := HQ.out.2
            by_cases hlt : q ≤ R + K
            · have hlti : (q : Int) ≤ (R : Int) + ((K : Nat) : Int) := by omega
              have hqn : (q : Int) < (n : Int) := by omega
              have cq := HLV.out wr (Below.refl _ _) q (by omega)
              have bq := HLB.out q (by omega)
              have HNX : Hid (min m (lv13 z A q) = lm13 z A R (q + 1 - (R + 2))) := by
                show _ = _
                rw [HQ.out.1]
                by_cases c : q = R + 1
                · subst c
                  rw [show R + 1 + 1 - (R + 2) = 0 by omega, show R + 1 - (R + 2) = 0 by omega, HM0.out, HG0.out]
                  omega
                · obtain ⟨d, rfl⟩ : ∃ d, q = R + 2 + d := ⟨q - (R + 2), by omega⟩
                  rw [show R + 2 + d - (R + 2) = d by omega, show R + 2 + d + 1 - (R + 2) = d + 1 by omega, HNS.out d, show R + 1 + (d + 1) = R + 2 + d by omega]
              generalize lv13 z A q = v at *
              by_cases hvm : v < m
              · have hvmi : (v : Int) < (m : Int) := by omega
                have HN2 : Hid (v = lm13 z A R (q + 1 - (R + 2)) ∧ v ≤ 16777216) := ⟨by have := HNX.out; omega, by omega⟩
                clear HNX HQ
                go_wp2_with fail
                go_roundw
                case rel => exact ⟨q + 1, v, by omega, by omega, by go_num, by go_num, HN2, by first | trivial | rfl⟩
                case measure => simp [intOf]; omega
              · have hvmi : ¬ (v : Int) < (m : Int) := by omega
                have HN2 : Hid (m = lm13 z A R (q + 1 - (R + 2)) ∧ m ≤ 16777216) := ⟨by have := HNX.out; omega, by omega⟩
                clear HNX HQ
                go_wp2_with fail
                go_roundw
                case rel => exact ⟨q + 1, m, by omega, by omega, by go_num, by go_num, HN2, by first | trivial | rfl⟩
                case measure => simp [intOf]; omega
            · have hlti : ¬ (q : Int) ≤ (R : Int) + ((K : Nat) : Int) := by omega
              have HME : Hid (lm13 z A R (K - 1) = m) := by
                show _ = _
                rw [HQ.out.1, show q - (R + 2) = (K - 1) by omega]
              first | rw [HME.out] at HCM | rw [← HG0.out, HME.out] at HCM
              have HFD : Hid (∀ W, Below wr.heap.size wr W → W.cell? ⟨ab, ao + R, none⟩ = some (.int .i64 ((A.getD R 0 : Nat) : Int)) ∧ W.cell? ⟨ab, ao + ((R : Int) + ((K : Nat) : Int)).toNat, none⟩ = some (.int .i64 ((A.getD (R + K) 0 : Nat) : Int))) := fun W hW => by
                have h8 := HFC.out W hW
                have h9 : ((R : Int) + ((K : Nat) : Int)).toNat = R + K := by omega
                rw [h9]
                exact h8
              obtain ⟨cR, cT⟩ := HFD.out wr (Below.refl _ _)
              have HCT : Hid (wr.cell? ⟨ab, ao + R, none⟩ = some (.int .i64 ((A.getD R 0 : Nat) : Int)) ∧ wr.cell? ⟨ab, ao + ((R : Int) + ((K : Nat) : Int)).toNat, none⟩ = some (.int .i64 ((A.getD (R + K) 0 : Nat) : Int))) := ⟨cR, cT⟩
              clear cR cT HFC
              have BD : Below wr.heap.size wr wr.drew := (Below.refl _ _).drew
              have HLI : Hid (∀ W, Below wr.heap.size wr W → Calls Try.prog 9 #[] W fun e w' => e = .returned (.bool true) ∧ Below wr.heap.size wr w') := fun W hb => (plives13 W).mono fun e w' ⟨he, hB⟩ => ⟨he, hb.trans (hB.mono hb.size)⟩
              generalize A.getD R 0 = u at *
              generalize A.getD (R + K) 0 = v at *
              clear HQ HNS HLV HLB HME
              have x1 : (0 : Int) ≤ (R : Int) := by omega
              have x2 : (R : Int) < (n : Int) := by omega
              have x3 : (0 : Int) ≤ (R : Int) + ((K : Nat) : Int) := by omega
              have x4 : IntKind.i64.wrap ((R : Int) + ((K : Nat) : Int)) = (R : Int) + ((K : Nat) : Int) := IntWalk.i64_in _ (by omega)
              go_wp2_with fail
              go_region_held3 (fun W => W.cell? ⟨ab, ao + R, none⟩ = some (.int .i64 (u : Int)) ∧ W.cell? ⟨ab, ao + ((R : Int) + ((K : Nat) : Int)).toNat, none⟩ = some (.int .i64 (v : Int))) (first | (exact HCT.out) | (exact HFD.out _ (by assumption))) (first
                | (go_at_call 11; refine (HCM.out _ (by assumption)).mono ?_; rintro e4 w4 ⟨rfl, B4⟩))
              go_wp2_with (first
                | (go_at_call 9; refine (HLI.out _ B4).mono ?_; rintro e5 w5 ⟨rfl, B5⟩))
              go_ret
              exact ⟨rfl, HB3.out.trans (B5.mono HB3.out.size)⟩
        · subst hz
          have hRK : R + 1 < n := by omega
          have hKp : 1 ≤ 1 := by omega
          have e1 : (R : Int) + 1 < (n : Int) := by omega
          have e2 : (R : Int) + 1 < (n : Int) := by omega
          have e3 : ¬ (n : Int) ≤ (R : Int) + 1 := by omega
          go_enter Try.func7, Try.ntmps7
          go_wp2_with (first
            | (go_at_call 10; refine HN.mono ?_; rintro e1 w1 ⟨b, da, dc, aa, ac, gb, gr, A, rfl, hI, B1, -⟩; clear HN)
            | (go_at_call 19; fail))
          clear hR0 hK0 hRb hKb i1 i2 hMp d1 d2
          try clear eR
          try clear eK
          try clear hR
          try clear hK
          try clear hz0
          try clear hz
          have HIx : Hid (Ix13 w1 b da dc aa ac gb gr n z A) := hI
          refine (parr13 b da dc aa ac gb gr n z A w1 hI).mono ?_
          rintro e2 w2 ⟨ra, rc, rfl, -, hown, B2⟩
          have sg := own_segZ hown (nz12_bd13 hI.ar.lt hI.n24)
          go_wp2_with fail
          refine (plcp13 b da dc aa ac gb gr n z A w2 (hI.old B2)).mono ?_
          rintro e3 w3 ⟨g, rfl, R3, -, B3⟩
          have HIW : Hid (∀ W, Below w3.heap.size w3 W → Ix13 W b da dc aa ac gb gr n z A) := fun W hW => ((hI.old B2).old B3).old hW
          have sg3 := sg.old B3
          have hA := hI.ar
          have HAR : Hid (Ar12 z.length (S12 z) A) := by show Ar12 _ _ _; rw [hn.out]; exact hI.ar
          have HLV : Hid (∀ W, Below w3.heap.size w3 W → ∀ q, q < n → W.cell? ⟨g, q, none⟩ = some (.int .i64 ((lv13 z A q : Nat) : Int))) := fun W hW q hq => by
            have := (R3.old hW).cell (i := q) (by rw [lp13_len, hn.out]; exact hq)
            rw [lp13_get (by rw [hn.out]; exact hq)] at this
            exact this
          obtain ⟨ab, ao, rfl, cR⟩ := sg3.at_ R (by rw [nz12_len13, hA.len]; omega)
          have cT : w3.cell? ⟨ab, ao + (R + 1), none⟩ = some (.int .i64 ((A.getD (R + 1) 0 : Nat) : Int)) := by
            obtain ⟨ab', ao', ha', hc'⟩ := sg3.at_ (R + 1) (by rw [nz12_len13, hA.len]; omega)
            cases ha'
            rw [nz12_get13 (by rw [hA.len]; omega)] at hc'
            exact hc'
          rw [nz12_get13 (by rw [hA.len]; omega)] at cR
          have hRl := hA.get (r := R) (by omega)
          have hTl := hA.get (r := R + 1) hRK
          have HCM : Hid (∀ W, Below w3.heap.size w3 W → Calls Try.prog 11 #[.pointer (some ⟨b, 0, none⟩), .int .i64 ((A.getD R 0 : Nat) : Int), .int .i64 ((A.getD (R + 1) 0 : Nat) : Int)] W fun e w' => e = .returned (.tuple #[.int .i64 ((lm13 z A R 0 : Nat) : Int), .int .i64 0]) ∧ Below w3.heap.size w3 w') := fun W hW => by
            have h5 := pcom13 b da dc aa ac gb gr n z A (A.getD R 0) (A.getD (R + 1) 0) W (HIW.out W hW) hRl hTl
            have h6 := lm13_is HAR.out R 0 (by rw [hn.out]; omega)
            rw [show R + 1 + 0 = R + 1 by omega] at h6
            rw [h6] at h5
            exact h5.mono fun e w' ⟨he, hB⟩ => ⟨he, hW.trans (hB.mono hW.size)⟩
          have HFC : Hid (∀ W, Below w3.heap.size w3 W → W.cell? ⟨ab, ao + R, none⟩ = some (.int .i64 ((A.getD R 0 : Nat) : Int)) ∧ W.cell? ⟨ab, ao + (R + 1), none⟩ = some (.int .i64 ((A.getD (R + 1) 0 : Nat) : Int))) := fun W hW => ⟨(hW.cell (p := ⟨ab, ao + R, none⟩) (World.block_lt_of_cell? w3 _ cR)).trans cR, (hW.cell (p := ⟨ab, ao + (R + 1), none⟩) (World.block_lt_of_cell? w3 _ cT)).trans cT⟩
          have HLB : Hid (∀ q, q < n → lv13 z A q ≤ 16777216) := fun q hq => by
            have h7 := (lv13_le HAR.out (r := q) (by rw [hn.out]; exact hq)).1
            rw [hn.out] at h7
            omega
          have HB3 : Hid (Below w.heap.size w w3) := B1.trans ((B2.mono B1.size).trans (B3.mono (by have := B1.size; have := B2.size; omega)))
          have cL1 := HLV.out w3 (Below.refl _ _) (R + 1) (by omega)
          have bL1 := HLB.out (R + 1) (by omega)
          have HM0 : Hid (lv13 z A (R + 1) = lm13 z A R 0) := rfl
          have HNS : Hid (∀ d, lm13 z A R (d + 1) = min (lm13 z A R d) (lv13 z A (R + 1 + (d + 1)))) := fun d => rfl
          clear hI hA sg sg3 hown HIW HIx HAR R3 B1 B2 B3 cR cT hRl hTl
          rw [HM0.out] at cL1
          generalize hg0 : lm13 z A R 0 = m0 at *
          have HG0 : Hid (lm13 z A R 0 = m0) := hg0
          clear hg0
          go_wp2_with fail
          go_loopw [11, 12] (fun tl tk wr => ∃ q m : Nat, R + 1 ≤ q ∧ q ≤ R + 1 + 1 ∧ tl = .int .i64 m ∧ tk = .int .i64 q ∧ Hid (m = lm13 z A R (q - (R + 2)) ∧ m ≤ 16777216) ∧ wr = w3) (fun _ tk _ => n + 1 - (intOf tk).toNat)
          case atStart => exact ⟨R + 1, m0, by omega, by omega, rfl, by go_num, ⟨by rw [show R + 1 - (R + 2) = 0 by omega]; exact HG0.out.symm, by have := HM0.out; have := HG0.out; omega⟩, by first | trivial | rfl⟩
          case round =>
            obtain ⟨q, m, hq1, hq2, rfl, rfl, HQ, hw⟩ := hrel
            subst hw
            have hm24 := HQ.out.2
            by_cases hlt : q ≤ R + 1
            · have hlti : (q : Int) ≤ (R : Int) + 1 := by omega
              have hqn : (q : Int) < (n : Int) := by omega
              have cq := HLV.out wr (Below.refl _ _) q (by omega)
              have bq := HLB.out q (by omega)
              have HNX : Hid (min m (lv13 z A q) = lm13 z A R (q + 1 - (R + 2))) := by
                show _ = _
                rw [HQ.out.1]
                by_cases c : q = R + 1
                · subst c
                  rw [show R + 1 + 1 - (R + 2) = 0 by omega, show R + 1 - (R + 2) = 0 by omega, HM0.out, HG0.out]
                  omega
                · obtain ⟨d, rfl⟩ : ∃ d, q = R + 2 + d := ⟨q - (R + 2), by omega⟩
                  rw [show R + 2 + d - (R + 2) = d by omega, show R + 2 + d + 1 - (R + 2) = d + 1 by omega, HNS.out d, show R + 1 + (d + 1) = R + 2 + d by omega]
              generalize lv13 z A q = v at *
              by_cases hvm : v < m
              · have hvmi : (v : Int) < (m : Int) := by omega
                have HN2 : Hid (v = lm13 z A R (q + 1 - (R + 2)) ∧ v ≤ 16777216) := ⟨by have := HNX.out; omega, by omega⟩
                clear HNX HQ
                go_wp2_with fail
                go_roundw
                case rel => exact ⟨q + 1, v, by omega, by omega, by go_num, by go_num, HN2, by first | trivial | rfl⟩
                case measure => simp [intOf]; omega
              · have hvmi : ¬ (v : Int) < (m : Int) := by omega
                have HN2 : Hid (m = lm13 z A R (q + 1 - (R + 2)) ∧ m ≤ 16777216) := ⟨by have := HNX.out; omega, by omega⟩
                clear HNX HQ
                go_wp2_with fail
                go_roundw
                case rel => exact ⟨q + 1, m, by omega, by omega, by go_num, by go_num, HN2, by first | trivial | rfl⟩
                case measure => simp [intOf]; omega
            · have hlti : ¬ (q : Int) ≤ (R : Int) + 1 := by omega
              have HME : Hid (lm13 z A R 0 = m) := by
                show _ = _
                rw [HQ.out.1, show q - (R + 2) = 0 by omega]
              first | rw [HME.out] at HCM | rw [← HG0.out, HME.out] at HCM
              have HFD : Hid (∀ W, Below wr.heap.size wr W → W.cell? ⟨ab, ao + R, none⟩ = some (.int .i64 ((A.getD R 0 : Nat) : Int)) ∧ W.cell? ⟨ab, ao + (R + 1), none⟩ = some (.int .i64 ((A.getD (R + 1) 0 : Nat) : Int))) := fun W hW => by
                have h8 := HFC.out W hW
                have h9 : (R + 1) = R + 1 := by omega
                rw [h9]
                exact h8
              obtain ⟨cR, cT⟩ := HFD.out wr (Below.refl _ _)
              have HCT : Hid (wr.cell? ⟨ab, ao + R, none⟩ = some (.int .i64 ((A.getD R 0 : Nat) : Int)) ∧ wr.cell? ⟨ab, ao + (R + 1), none⟩ = some (.int .i64 ((A.getD (R + 1) 0 : Nat) : Int))) := ⟨cR, cT⟩
              clear cR cT HFC
              have BD : Below wr.heap.size wr wr.drew := (Below.refl _ _).drew
              have HLI : Hid (∀ W, Below wr.heap.size wr W → Calls Try.prog 9 #[] W fun e w' => e = .returned (.bool true) ∧ Below wr.heap.size wr w') := fun W hb => (plives13 W).mono fun e w' ⟨he, hB⟩ => ⟨he, hb.trans (hB.mono hb.size)⟩
              generalize A.getD R 0 = u at *
              generalize A.getD (R + 1) 0 = v at *
              clear HQ HNS HLV HLB HME
              have x1 : (0 : Int) ≤ (R : Int) := by omega
              have x2 : (R : Int) < (n : Int) := by omega
              have x3 : (0 : Int) ≤ (R : Int) + 1 := by omega
              have x4 : IntKind.i64.wrap ((R : Int) + 1) = (R : Int) + 1 := IntWalk.i64_in _ (by omega)
              go_wp2_with fail
              go_region_held3 (fun W => W.cell? ⟨ab, ao + R, none⟩ = some (.int .i64 (u : Int)) ∧ W.cell? ⟨ab, ao + (R + 1), none⟩ = some (.int .i64 (v : Int))) (first | (exact HCT.out) | (exact HFD.out _ (by assumption))) (first
                | (go_at_call 11; refine (HCM.out _ (by assumption)).mono ?_; rintro e4 w4 ⟨rfl, B4⟩))
              go_wp2_with (first
                | (go_at_call 9; refine (HLI.out _ B4).mono ?_; rintro e5 w5 ⟨rfl, B5⟩))
              go_ret
              exact ⟨rfl, HB3.out.trans (B5.mono HB3.out.size)⟩
        · obtain ⟨K, rfl⟩ : ∃ K : Nat, K0 = (K : Int) := ⟨K0.toNat, by omega⟩
          have hRK : R + K < n := by omega
          have hKp : 1 ≤ K := by omega
          have hK1 : ¬ (K : Int) = 0 := by omega
          have e1 : (R : Int) + 1 < (n : Int) := by omega
          have e2 : (R : Int) + ((K : Nat) : Int) < (n : Int) := by omega
          have e3 : ¬ (n : Int) ≤ (R : Int) + ((K : Nat) : Int) := by omega
          go_enter Try.func7, Try.ntmps7
          go_wp2_with (first
            | (go_at_call 10; refine HN.mono ?_; rintro e1 w1 ⟨b, da, dc, aa, ac, gb, gr, A, rfl, hI, B1, -⟩; clear HN)
            | (go_at_call 19; fail))
          clear hR0 hK0 hRb hKb i1 i2 hMp d1 d2
          try clear eR
          try clear eK
          try clear hR
          try clear hK
          try clear hz0
          try clear hz
          have HIx : Hid (Ix13 w1 b da dc aa ac gb gr n z A) := hI
          refine (parr13 b da dc aa ac gb gr n z A w1 hI).mono ?_
          rintro e2 w2 ⟨ra, rc, rfl, -, hown, B2⟩
          have sg := own_segZ hown (nz12_bd13 hI.ar.lt hI.n24)
          go_wp2_with fail
          refine (plcp13 b da dc aa ac gb gr n z A w2 (hI.old B2)).mono ?_
          rintro e3 w3 ⟨g, rfl, R3, -, B3⟩
          have HIW : Hid (∀ W, Below w3.heap.size w3 W → Ix13 W b da dc aa ac gb gr n z A) := fun W hW => ((hI.old B2).old B3).old hW
          have sg3 := sg.old B3
          have hA := hI.ar
          have HAR : Hid (Ar12 z.length (S12 z) A) := by show Ar12 _ _ _; rw [hn.out]; exact hI.ar
          have HLV : Hid (∀ W, Below w3.heap.size w3 W → ∀ q, q < n → W.cell? ⟨g, q, none⟩ = some (.int .i64 ((lv13 z A q : Nat) : Int))) := fun W hW q hq => by
            have := (R3.old hW).cell (i := q) (by rw [lp13_len, hn.out]; exact hq)
            rw [lp13_get (by rw [hn.out]; exact hq)] at this
            exact this
          obtain ⟨ab, ao, rfl, cR⟩ := sg3.at_ R (by rw [nz12_len13, hA.len]; omega)
          have cT : w3.cell? ⟨ab, ao + (R + K), none⟩ = some (.int .i64 ((A.getD (R + K) 0 : Nat) : Int)) := by
            obtain ⟨ab', ao', ha', hc'⟩ := sg3.at_ (R + K) (by rw [nz12_len13, hA.len]; omega)
            cases ha'
            rw [nz12_get13 (by rw [hA.len]; omega)] at hc'
            exact hc'
          rw [nz12_get13 (by rw [hA.len]; omega)] at cR
          have hRl := hA.get (r := R) (by omega)
          have hTl := hA.get (r := R + K) hRK
          have HCM : Hid (∀ W, Below w3.heap.size w3 W → Calls Try.prog 11 #[.pointer (some ⟨b, 0, none⟩), .int .i64 ((A.getD R 0 : Nat) : Int), .int .i64 ((A.getD (R + K) 0 : Nat) : Int)] W fun e w' => e = .returned (.tuple #[.int .i64 ((lm13 z A R (K - 1) : Nat) : Int), .int .i64 0]) ∧ Below w3.heap.size w3 w') := fun W hW => by
            have h5 := pcom13 b da dc aa ac gb gr n z A (A.getD R 0) (A.getD (R + K) 0) W (HIW.out W hW) hRl hTl
            have h6 := lm13_is HAR.out R (K - 1) (by rw [hn.out]; omega)
            rw [show R + 1 + (K - 1) = R + K by omega] at h6
            rw [h6] at h5
            exact h5.mono fun e w' ⟨he, hB⟩ => ⟨he, hW.trans (hB.mono hW.size)⟩
          have HFC : Hid (∀ W, Below w3.heap.size w3 W → W.cell? ⟨ab, ao + R, none⟩ = some (.int .i64 ((A.getD R 0 : Nat) : Int)) ∧ W.cell? ⟨ab, ao + (R + K), none⟩ = some (.int .i64 ((A.getD (R + K) 0 : Nat) : Int))) := fun W hW => ⟨(hW.cell (p := ⟨ab, ao + R, none⟩) (World.block_lt_of_cell? w3 _ cR)).trans cR, (hW.cell (p := ⟨ab, ao + (R + K), none⟩) (World.block_lt_of_cell? w3 _ cT)).trans cT⟩
          have HLB : Hid (∀ q, q < n → lv13 z A q ≤ 16777216) := fun q hq => by
            have h7 := (lv13_le HAR.out (r := q) (by rw [hn.out]; exact hq)).1
            rw [hn.out] at h7
            omega
          have HB3 : Hid (Below w.heap.size w w3) := B1.trans ((B2.mono B1.size).trans (B3.mono (by have := B1.size; have := B2.size; omega)))
          have cL1 := HLV.out w3 (Below.refl _ _) (R + 1) (by omega)
          have bL1 := HLB.out (R + 1) (by omega)
          have HM0 : Hid (lv13 z A (R + 1) = lm13 z A R 0) := rfl
          have HNS : Hid (∀ d, lm13 z A R (d + 1) = min (lm13 z A R d) (lv13 z A (R + 1 + (d + 1)))) := fun d => rfl
          clear hI hA sg sg3 hown HIW HIx HAR R3 B1 B2 B3 cR cT hRl hTl
          rw [HM0.out] at cL1
          generalize hg0 : lm13 z A R 0 = m0 at *
          have HG0 : Hid (lm13 z A R 0 = m0) := hg0
          clear hg0
          go_wp2_with fail
          go_loopw [11, 12] (fun tl tk wr => ∃ q m : Nat, R + 1 ≤ q ∧ q ≤ R + K + 1 ∧ tl = .int .i64 m ∧ tk = .int .i64 q ∧ Hid (m = lm13 z A R (q - (R + 2)) ∧ m ≤ 16777216) ∧ wr = w3) (fun _ tk _ => n + 1 - (intOf tk).toNat)
          case atStart => exact ⟨R + 1, m0, by omega, by omega, rfl, by go_num, ⟨by rw [show R + 1 - (R + 2) = 0 by omega]; exact HG0.out.symm, by have := HM0.out; have := HG0.out; omega⟩, by first | trivial | rfl⟩
          case round =>
            obtain ⟨q, m, hq1, hq2, rfl, rfl, HQ, hw⟩ := hrel
            subst hw
            have hm24 := HQ.out.2
            by_cases hlt : q ≤ R + K
            · have hlti : (q : Int) ≤ (R : Int) + ((K : Nat) : Int) := by omega
              have hqn : (q : Int) < (n : Int) := by omega
              have cq := HLV.out wr (Below.refl _ _) q (by omega)
              have bq := HLB.out q (by omega)
              have HNX : Hid (min m (lv13 z A q) = lm13 z A R (q + 1 - (R + 2))) := by
                show _ = _
                rw [HQ.out.1]
                by_cases c : q = R + 1
                · subst c
                  rw [show R + 1 + 1 - (R + 2) = 0 by omega, show R + 1 - (R + 2) = 0 by omega, HM0.out, HG0.out]
                  omega
                · obtain ⟨d, rfl⟩ : ∃ d, q = R + 2 + d := ⟨q - (R + 2), by omega⟩
                  rw [show R + 2 + d - (R + 2) = d by omega, show R + 2 + d + 1 - (R + 2) = d + 1 by omega, HNS.out d, show R + 1 + (d + 1) = R + 2 + d by omega]
              generalize lv13 z A q = v at *
              by_cases hvm : v < m
              · have hvmi : (v : Int) < (m : Int) := by omega
                have HN2 : Hid (v = lm13 z A R (q + 1 - (R + 2)) ∧ v ≤ 16777216) := ⟨by have := HNX.out; omega, by omega⟩
                clear HNX HQ
                go_wp2_with fail
                go_roundw
                case rel => exact ⟨q + 1, v, by omega, by omega, by go_num, by go_num, HN2, by first | trivial | rfl⟩
                case measure => simp [intOf]; omega
              · have hvmi : ¬ (v : Int) < (m : Int) := by omega
                have HN2 : Hid (m = lm13 z A R (q + 1 - (R + 2)) ∧ m ≤ 16777216) := ⟨by have := HNX.out; omega, by omega⟩
                clear HNX HQ
                go_wp2_with fail
                go_roundw
                case rel => exact ⟨q + 1, m, by omega, by omega, by go_num, by go_num, HN2, by first | trivial | rfl⟩
                case measure => simp [intOf]; omega
            · have hlti : ¬ (q : Int) ≤ (R : Int) + ((K : Nat) : Int) := by omega
              have HME : Hid (lm13 z A R (K - 1) = m) := by
                show _ = _
                rw [HQ.out.1, show q - (R + 2) = (K - 1) by omega]
              first | rw [HME.out] at HCM | rw [← HG0.out, HME.out] at HCM
              have HFD : Hid (∀ W, Below wr.heap.size wr W → W.cell? ⟨ab, ao + R, none⟩ = some (.int .i64 ((A.getD R 0 : Nat) : Int)) ∧ W.cell? ⟨ab, ao + ((R : Int) + ((K : Nat) : Int)).toNat, none⟩ = some (.int .i64 ((A.getD (R + K) 0 : Nat) : Int))) := fun W hW => by
                have h8 := HFC.out W hW
                have h9 : ((R : Int) + ((K : Nat) : Int)).toNat = R + K := by omega
                rw [h9]
                exact h8
              obtain ⟨cR, cT⟩ := HFD.out wr (Below.refl _ _)
              have HCT : Hid (wr.cell? ⟨ab, ao + R, none⟩ = some (.int .i64 ((A.getD R 0 : Nat) : Int)) ∧ wr.cell? ⟨ab, ao + ((R : Int) + ((K : Nat) : Int)).toNat, none⟩ = some (.int .i64 ((A.getD (R + K) 0 : Nat) : Int))) := ⟨cR, cT⟩
              clear cR cT HFC
              have BD : Below wr.heap.size wr wr.drew := (Below.refl _ _).drew
              have HLI : Hid (∀ W, Below wr.heap.size wr W → Calls Try.prog 9 #[] W fun e w' => e = .returned (.bool true) ∧ Below wr.heap.size wr w') := fun W hb => (plives13 W).mono fun e w' ⟨he, hB⟩ => ⟨he, hb.trans (hB.mono hb.size)⟩
              generalize A.getD R 0 = u at *
              generalize A.getD (R + K) 0 = v at *
              clear HQ HNS HLV HLB HME
              have x1 : (0 : Int) ≤ (R : Int) := by omega
              have x2 : (R : Int) < (n : Int) := by omega
              have x3 : (0 : Int) ≤ (R : Int) + ((K : Nat) : Int) := by omega
              have x4 : IntKind.i64.wrap ((R : Int) + ((K : Nat) : Int)) = (R : Int) + ((K : Nat) : Int) := IntWalk.i64_in _ (by omega)
              go_wp2_with fail
              go_region_held3 (fun W => W.cell? ⟨ab, ao + R, none⟩ = some (.int .i64 (u : Int)) ∧ W.cell? ⟨ab, ao + ((R : Int) + ((K : Nat) : Int)).toNat, none⟩ = some (.int .i64 (v : Int))) (first | (exact HCT.out) | (exact HFD.out _ (by assumption))) (first
                | (go_at_call 11; refine (HCM.out _ (by assumption)).mono ?_; rintro e4 w4 ⟨rfl, B4⟩))
              go_wp2_with (first
                | (go_at_call 9; refine (HLI.out _ B4).mono ?_; rintro e5 w5 ⟨rfl, B5⟩))
              go_ret
              exact ⟨rfl, HB3.out.trans (B5.mono HB3.out.size)⟩
end Go.Proofs.Ytlbledagpoimaaa
