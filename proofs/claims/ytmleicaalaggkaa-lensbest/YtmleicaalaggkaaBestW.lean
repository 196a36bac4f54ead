import Derived.Test.YtmleicaalaggkaaLnBest
import Derived.Test.YtmleicaalaggkaaWholeW
namespace Go.Proofs.Ytmleicaalaggkaa
open Go.RowKit
set_option linter.unusedVariables false

theorem errL_no {lim : Int} {zs : List Int} (he : ¬ errL lim zs = 0) : errL lim zs = 1 ∨ errL lim zs = 40 ∨ errL lim zs = 41 ∨ errL lim zs = 42 := by
  have h0 := errOf_range zs
  have h2 := he
  unfold errL at h2 ⊢
  split
  · omega
  · rename_i h3
    rw [if_neg h3] at h2
    split
    · rename_i h4
      rw [if_pos h4] at h2
      split
      · omega
      · rename_i h5
        rw [if_neg h5] at h2
        omega
    · omega

set_option maxHeartbeats 1000000 in
theorem lensBest_walk (w : World) (lim : Int) (hlo : -9223372036854775808 ≤ lim) (hhi : lim ≤ 9223372036854775807) (a : Option Addr) (zs : List Int) (ca : Nat) (hx : SegZ w a zs) (hc : zs.length ≤ ca) (hna : a = none → ca = 0) (hl : zs.length * 8 ≤ 140737488351232)
    (o : Option Addr) (os : List Int) (co : Nat) (hy : SegZ w o os) (hcy : os.length ≤ co) (hno : o = none → co = 0) (hly : os.length * 8 ≤ 140737488351232) :
    Calls Try.prog 8 #[.int .i64 lim, .slice a zs.length ca, .slice o os.length co] w fun e w' => e = .returned (.bool true) ∧ Below w.heap.size w w' := by
  obtain ⟨n, hn⟩ : ∃ n, zs.length = n := ⟨_, rfl⟩
  obtain ⟨m, hm⟩ : ∃ m, os.length = m := ⟨_, rfl⟩
  have HN : Hid (zs.length = n) := hn
  have HM : Hid (os.length = m) := hm
  rw [hn] at hl ⊢
  rw [hm] at hly ⊢
  have C1 := lengths_any lim a zs n ca HN w hx (by omega)
  have HF : Hid (∀ w1 W, Below w.heap.size w w1 → Below w1.heap.size w1 W → Calls Try.prog 19 #[.int .i64 lim, .slice a n ca] W fun e w' => e = .returned (.bool (decide (errL lim zs = 0))) ∧ Below w1.heap.size w1 w') := fun w1 W hw hW => (fits_any lim a zs n ca HN W ((hx.old hw).old hW) (by omega)).mono fun e w' ⟨h1, h2⟩ => ⟨h1, hW.trans (h2.mono hW.size)⟩
  have HA : Hid (∀ w1 W, Below w1.heap.size w1 W → Calls Try.prog 12 #[] W fun e w' => e = .returned (.bool true) ∧ Below w1.heap.size w1 w') := fun w1 W hW => (awake_any W).mono fun e w' ⟨h1, h2⟩ => ⟨h1, hW.trans (h2.mono hW.size)⟩
  unfold LenQ at C1
  clear hn hc hm hcy
  by_cases he : errL lim zs = 0
  · obtain ⟨l, rfl, h1, h15, hz, hnu, hlr⟩ := errL_ok he
    have hlen : (lensR (l : Int) zs).length = n := by rw [hlr, lens_len]; exact HN.out
    have hn288 : n ≤ 288 := by have := (errOf_zero hz).1; have := HN.out; omega
    rw [hlen, he] at C1
    have e1 : decide (errL (l : Int) zs = 0) = true := decide_eq_true he
    rw [e1] at HF
    have HRL : Hid ((lensR (l : Int) zs).length = n) := hlen
    by_cases hmn : m < n
    · have hmi : (m : Int) < (n : Int) := by omega
      generalize lensR (l : Int) zs = ls at *
      clear hlr hlen he e1
      go_enter Try.func8, Try.ntmps8
      go_wp2_with fail
      refine C1.mono ?_
      rintro e w1 ⟨b, c, rfl, s1, B1⟩
      go_wp2_with fail
      refine (HA.out w1 w1 (Below.refl _ _)).mono ?_
      rintro e w2 ⟨rfl, B2⟩
      go_wp2_with fail
      refine (HF.out w1 _ B1 B2).mono ?_
      rintro e w3 ⟨rfl, B3⟩
      go_wp2
      go_ret
      exact ⟨rfl, B1.trans (B3.mono B1.size)⟩
    · have hmi : ¬ (m : Int) < (n : Int) := by omega
      have hnm : n ≤ m := by omega
      have HBE : Hid (inL l zs os n → spc zs os n ≤ 32768 → cst zs (lensR (l : Int) zs) n ≤ cst zs os n) := fun q1 q2 => by
        rw [hlr]
        have hh := HN.out
        have := cst_best (os := os) hz h1 h15 hnu (fun i hi => q1 i (by omega)) (by unfold spc at q2; rw [hh]; exact q2)
        rw [hh] at this
        exact this
      have HSB : Hid (spc zs os n ≤ 11520000) := Nat.le_trans (spc_le _ _ _) (Nat.le_trans (Nat.mul_le_mul_right _ hn288) (by decide))
      have HB1 : Hid (∀ i, i < n → zs.getD i 0 ≠ 0 → 0 ≤ (lensR (l : Int) zs).getD i 0 ∧ (lensR (l : Int) zs).getD i 0 ≤ 15) := fun i hi hzi => by
        rw [hlr]
        have := lens_bd hz h1 hnu (usI_mem.2 ⟨by have := HN.out; omega, hzi⟩)
        omega
      have HB2 : Hid (inL l zs os n → ∀ i, i < n → zs.getD i 0 ≠ 0 → 0 ≤ os.getD i 0 ∧ os.getD i 0 ≤ 15) := fun q i hi hzi => by
        have := q i hi hzi
        omega
      have HQ : Hid (errOf zs = 0) := hz
      have HSPC : Hid (∀ w1 W, Below w.heap.size w w1 → Below w1.heap.size w1 W → Calls Try.prog 20 #[.int .i64 l, .slice a n ca, .slice o m co] W fun e w' => SpQ l zs os n w1 e w') := fun w1 W hw hW => (space_any l a o zs os n m ca co HN HM hnm W ((hx.old hw).old hW) ((hy.old hw).old hW) hn288 h15).mono fun e w' h => by
        unfold SpQ at h ⊢
        obtain ⟨v, ok, q0, q1, q2, q3⟩ := h
        exact ⟨v, ok, q0, q1, q2, hW.trans (q3.mono hW.size)⟩
      have HC1 : Hid (∀ w1 W b c, Below w.heap.size w w1 → SegZ w1 b (lensR (l : Int) zs) → Below w1.heap.size w1 W → Calls Try.prog 22 #[.slice a n ca, .slice b n c] W fun e w' => e = .returned (.int .i64 (cst zs (lensR (l : Int) zs) n : Nat)) ∧ Below w1.heap.size w1 w') := fun w1 W b c hw hs1 hW => (lcost_any a b zs (lensR (l : Int) zs) n n ca c HN HRL (Nat.le_refl _) W ((hx.old hw).old hW) (hs1.old hW) HQ HB1).mono fun e w' ⟨h3, h4⟩ => ⟨h3, hW.trans (h4.mono hW.size)⟩
      have HC2 : Hid (inL l zs os n → ∀ w1 W, Below w.heap.size w w1 → Below w1.heap.size w1 W → Calls Try.prog 22 #[.slice a n ca, .slice o m co] W fun e w' => e = .returned (.int .i64 (cst zs os n : Nat)) ∧ Below w1.heap.size w1 w') := fun hin w1 W hw hW => (lcost_any a o zs os n m ca co HN HM hnm W ((hx.old hw).old hW) ((hy.old hw).old hW) HQ (HB2.out hin)).mono fun e w' ⟨h3, h4⟩ => ⟨h3, hW.trans (h4.mono hW.size)⟩
      have HCB1 : Hid (cst zs (lensR (l : Int) zs) n ≤ 4749890231992320) := Nat.le_trans (cst_le hz n (fun i hi h => (HB1.out i hi h).2)) (Nat.le_trans (Nat.mul_le_mul_right _ hn288) (by decide))
      have HCB2 : Hid (inL l zs os n → cst zs os n ≤ 4749890231992320) := fun hin => Nat.le_trans (cst_le hz n (fun i hi h => (HB2.out hin i hi h).2)) (Nat.le_trans (Nat.mul_le_mul_right _ hn288) (by decide))
      generalize lensR (l : Int) zs = ls at *
      clear hlr hlen he e1 HB1 HB2
      go_enter Try.func8, Try.ntmps8
      go_wp2_with fail
      refine C1.mono ?_
      rintro e w1 ⟨b, c, rfl, s1, B1⟩
      have BF : ∀ w', Below w1.heap.size w1 w' → Below w.heap.size w w' := fun w' h => B1.trans (h.mono B1.size)
      go_wp2_with fail
      refine (HA.out w1 w1 (Below.refl _ _)).mono ?_
      rintro e w2 ⟨rfl, B2⟩
      go_wp2_with fail
      refine (HF.out w1 _ B1 B2).mono ?_
      rintro e w3 ⟨rfl, B3⟩
      go_wp2_with fail
      refine (HSPC.out w1 _ B1 B3).mono ?_
      intro e w4 hsp
      unfold SpQ at hsp
      obtain ⟨v, ok, rfl, q1, q2, B4⟩ := hsp
      cases ok with
      | false =>
        clear q1 q2
        go_wp2
        go_ret
        exact ⟨rfl, BF _ B4⟩
      | true =>
        have hin := q1.1 rfl
        obtain rfl := q2 rfl
        have HBE2 : Hid _ := HBE.out hin
        have HCC : Hid _ := HC2.out hin
        have hcb1 := HCB1.out
        have hcb2 := HCB2.out hin
        have hsb := HSB.out
        clear q1 q2 hin HBE HC2 HCB2 HCB1 HSB
        generalize spc zs os n = S at *
        generalize cst zs ls n = x at *
        generalize cst zs os n = y at *
        by_cases hS : 32768 < S
        · have hSi : (32768 : Int) < (S : Int) := by omega
          go_wp2
          go_ret
          exact ⟨rfl, BF _ B4⟩
        · have hSi : ¬ (32768 : Int) < (S : Int) := by omega
          have hxy : (x : Int) ≤ (y : Int) := by have := HBE2.out (by omega); omega
          go_wp2_with fail
          refine (HC1.out w1 _ b c B1 s1 B4).mono ?_
          rintro e w5 ⟨rfl, B5⟩
          go_wp2_with fail
          refine (HCC.out w1 _ B1 B5).mono ?_
          rintro e w6 ⟨rfl, B6⟩
          go_wp2
          go_ret
          exact ⟨by first | rfl | simp [hxy], BF _ B6⟩
  · have e1 : decide (errL lim zs = 0) = false := decide_eq_false he
    rw [e1] at HF
    have hls : lensR lim zs = [] := by unfold lensR; rw [if_neg he]
    rw [hls] at C1
    obtain ⟨E, hE⟩ : ∃ E, errL lim zs = E := ⟨_, rfl⟩
    have hEr := errL_no he
    rw [hE] at C1 hEr
    clear hE e1 hls he
    rcases hEr with rfl | rfl | rfl | rfl <;>
    · go_enter Try.func8, Try.ntmps8
      go_wp2_with fail
      refine C1.mono ?_
      rintro e w1 ⟨b, c, rfl, s1, B1⟩
      go_wp2_with fail
      refine (HA.out w1 w1 (Below.refl _ _)).mono ?_
      rintro e w2 ⟨rfl, B2⟩
      go_wp2_with fail
      refine (HF.out w1 _ B1 B2).mono ?_
      rintro e w3 ⟨rfl, B3⟩
      go_wp2
      go_ret
      exact ⟨rfl, B1.trans (B3.mono B1.size)⟩
end Go.Proofs.Ytmleicaalaggkaa
