
import Derived.Test.YthplkcdockkiiaaSaOr
import Derived.Deep.RegionWith
namespace Go.Proofs.Ythplkcdockkiiaa
open Go.RowKit
set_option linter.unusedVariables false

/-! SaisOrder. -/
def sn12 (n : Nat) (A : List Nat) (k : Nat) : List Bool := (List.range n).map (fun q => decide (q ∈ A.take k))
theorem sn12_len (n : Nat) (A : List Nat) (k : Nat) : (sn12 n A k).length = n := by simp [sn12]
theorem sn12_get (n : Nat) (A : List Nat) (k q : Nat) (h : q < n) : (sn12 n A k).getD q false = decide (q ∈ A.take k) := by simp [sn12, List.getD, h]
theorem sn12_zero (n : Nat) (A : List Nat) : sn12 n A 0 = List.replicate n false := by
  refine ext12 (d := false) (by simp [sn12]) fun i hi => ?_
  rw [sn12_len] at hi
  rw [sn12_get n A 0 i hi]
  simp [List.getD, hi]
theorem sn12_set (n : Nat) (A : List Nat) (k : Nat) (h : k < A.length) (hn : A.getD k 0 < n) : (sn12 n A k).set (A.getD k 0) true = sn12 n A (k + 1) := by
  have e : A.take (k + 1) = A.take k ++ [A.getD k 0] := by rw [List.take_add_one]; simp [List.getD, h]
  refine ext12 (d := false) (by simp [sn12]) fun q hq => ?_
  rw [List.length_set, sn12_len] at hq
  rw [getD_set12 _ _ _ _ (by rw [sn12_len]; exact hn), sn12_get n A k q hq, sn12_get n A (k + 1) q hq, e]
  by_cases c : q = A.getD k 0
  · subst c; rw [if_pos rfl]; simp
  · rw [if_neg c]
    simp only [List.mem_append, List.mem_singleton, c, or_false]
theorem sn12_new {n : Nat} {S : Nat → Int} {A : List Nat} (hA : Ar12 n S A) {k : Nat} (h : k < n) : A.getD k 0 ∉ A.take k := by
  intro hm
  obtain ⟨q, hq, e⟩ := List.mem_iff_getElem.1 hm
  simp only [List.length_take] at hq
  rw [List.getElem_take] at e
  have h1 := List.pairwise_iff_getElem.1 hA.so q k (by rw [hA.len]; omega) (by rw [hA.len]; exact h) (by omega)
  have hkl : k < A.length := by rw [hA.len]; exact h
  have e2 : A.getD k 0 = A[k] := by simp [List.getD, hkl]
  rw [e2] at e
  rw [e] at h1
  exact h1.irrefl
set_option maxRecDepth 100000 in
set_option maxHeartbeats 4000000 in
theorem saisOrder_walk (w : World) (a : Option Addr) (z : List Int) (ca : Nat) (hs : Seg w a z) (hc : z.length ≤ ca) (hnil : a = none → ca = 0) (hl : z.length ≤ 1073741824) :
    Calls Try.prog 8 #[.slice a z.length ca] w fun e w' => e = .returned (.bool true) ∧ Below w.heap.size w w' := by
  generalize hn0 : z.length = n at *
  have hn : Hid (z.length = n) := hn0
  clear hn0 hc hnil
  have hvz : ∀ y ∈ z, 0 ≤ y ∧ y ≤ 255 := fun y hy => by
    obtain ⟨q, hq, rfl⟩ := List.mem_iff_getElem.1 hy
    have := hs.bd q
    have e : z.getD q 0 = z[q] := by simp [List.getD, hq]
    rw [e] at this
    exact this
  have hzb : ∀ y ∈ z, -9223372036854775808 ≤ y ∧ y ≤ 9223372036854775807 := fun y hy => by have := hvz y hy; omega
  have HW := pwds12 a z n ca w hs hn (by omega)
  have HRF := ref12_words hn.out hvz
  have HKB : mx12 z ≤ 256 := mx12_le (fun y hy => by have := hvz y hy; omega)
  by_cases h24 : 16777216 < n
  · rw [if_pos h24] at HRF
    have h24i : (16777216 : Int) < (n : Int) := by omega
    have HA : Hid (∀ w1 g, Rz12 w1 g z → Calls Try.prog 9 #[.int .i64 ((mx12 z : Nat) : Int), .slice (some ⟨g, 0, none⟩) n n] w1 fun e w' => e = .returned (.tuple #[.slice none 0 0, .int .i64 120]) ∧ Below w1.heap.size w1 w') := fun w1 g R => by
      have := parrn12 ((mx12 z : Nat) : Int) (some ⟨g, 0, none⟩) z n n w1 (R.seg hzb) hn (by omega) (by omega) (by rw [HRF]; decide)
      rw [HRF] at this
      exact this
    clear HRF hvz hzb hs
    generalize mx12 z = K at *
    go_enter Try.func8, Try.ntmps8
    go_wp2_with (first
      | (go_at_call 24; refine HW.mono ?_; rintro e1 w1 ⟨rfl, R1, B1⟩)
      | (go_at_call 9; refine (HA.out w1 _ R1).mono ?_; rintro e2 w2 ⟨rfl, B2⟩)
      | (go_at_call 11; refine (pawk12 _).mono ?_; rintro e3 w3 ⟨rfl, B3⟩))
    go_ret
    have S1 := B1.size
    have S2 := B2.size
    exact ⟨rfl, (B1.trans (B2.mono (by omega))).trans (B3.mono (by omega))⟩
  · rw [if_neg h24] at HRF
    have h24i : ¬ (16777216 : Int) < (n : Int) := by omega
    have HA : Hid (∀ w1 g, Rz12 w1 g z → Calls Try.prog 9 #[.int .i64 ((mx12 z : Nat) : Int), .slice (some ⟨g, 0, none⟩) n n] w1 (ArrQ12 w1 z n)) := fun w1 g R => parr12 ((mx12 z : Nat) : Int) (some ⟨g, 0, none⟩) z n n w1 (R.seg hzb) hn (by omega) HRF
    have HSG : Hid (∀ w1 g, Rz12 w1 g z → SegZ w1 (some ⟨g, 0, none⟩) z) := fun w1 g R => R.seg hzb
    have HM := fun w' => run_make_b12 n (by omega) w'
    clear HRF hvz hzb hs
    generalize mx12 z = K at *
    go_enter Try.func8, Try.ntmps8
    go_wp2_with (first
      | (go_at_call 24; refine HW.mono ?_; rintro e1 w1 ⟨rfl, R1, B1⟩)
      | (go_at_call 9; refine (HA.out w1 _ R1).mono ?_; rintro e2 w2 ⟨gA, A, rfl, RA, hgA, hA, B2⟩)
      | (go_at_call 11; refine (pawk12 _).mono ?_; rintro e3 w3 ⟨rfl, B3⟩; clear HW HA))
    have hal : Below w3.heap.size w3 (w3.alloc (.cells (vb12 (List.replicate n false)) 4)) := (Below.refl _ _).alloc (Nat.le_refl _) _
    have S1 := B1.size
    have S2 := B2.size
    have S3 := B3.size
    have HSN : Hid (Rb12 (w3.alloc (.cells (vb12 (List.replicate n false)) 4)) w3.heap.size (sn12 n A 0)) := by rw [sn12_zero]; exact Rb12.new w3 _
    have HRA : Hid (Rz12 (w3.alloc (.cells (vb12 (List.replicate n false)) 4)) gA (nz12 A)) := (RA.old B3).old hal
    have HR1 : Hid (Rz12 (w3.alloc (.cells (vb12 (List.replicate n false)) 4)) w.heap.size z) := ((R1.old B2).old B3).old hal
    have HBB : Hid (Below w.heap.size w (w3.alloc (.cells (vb12 (List.replicate n false)) 4))) := ((B1.trans (B2.mono (by omega))).trans (B3.mono (by omega))).trans (hal.mono (by omega))
    have HNE : Hid (gA ≠ w3.heap.size ∧ w.heap.size ≠ w3.heap.size ∧ w.heap.size ≤ w3.heap.size) := by have l1 := RA.lt; have l2 := R1.lt; exact ⟨by omega, by omega, by omega⟩
    have HAG : Hid (∀ q, q < n → A.getD q 0 < n ∧ (nz12 A).getD q 0 = ((A.getD q 0 : Nat) : Int)) := fun q hq => ⟨hA.lt _ (getD_mem12 (by rw [hA.len]; exact hq)), nz12_get A q 0 (by rw [hA.len]; exact hq)⟩
    have HNW : Hid (∀ q, q < n → (sn12 n A q).getD (A.getD q 0) false = false) := fun q hq => by
      rw [sn12_get n A q _ (HAG.out q hq).1]
      exact decide_eq_false (sn12_new hA hq)
    have HST : Hid (∀ q, q < n → (sn12 n A q).set (A.getD q 0) true = sn12 n A (q + 1)) := fun q hq => sn12_set n A q (by rw [hA.len]; exact hq) (HAG.out q hq).1
    have HLS : Hid (∀ q, 0 < q → q < n → Ls12 n (S12 z) (A.getD (q - 1) 0) (A.getD q 0)) := fun q h0 hq => by
      have h1 : q - 1 < A.length := by rw [hA.len]; omega
      have h2 : q < A.length := by rw [hA.len]; omega
      have e1 : A.getD (q - 1) 0 = A[q - 1] := by simp [List.getD, h1]
      have e2 : A.getD q 0 = A[q] := by simp [List.getD, h2]
      rw [e1, e2]
      exact List.pairwise_iff_getElem.1 hA.so (q - 1) q h1 h2 (by omega)
    have HNA : Hid ((nz12 A).length = n) := by show _ = _; rw [nz12_len, hA.len]
    clear R1 RA B1 B2 B3 hal hA HM
    generalize w3.heap.size = gS at *
    generalize w3.alloc (.cells (vb12 (List.replicate n false)) 4) = w4 at *
    generalize hg0 : w.heap.size = g0 at *
    have HG0 : Hid (w.heap.size = g0) := hg0
    clear hg0
    go_loopw [8] (fun ti wr => ∃ k : Nat, k ≤ n ∧ ti = .int .i64 k ∧ Rz12 wr gA (nz12 A) ∧ Rz12 wr g0 z ∧ Rb12 wr gS (sn12 n A k) ∧ Below g0 w wr) (fun ti _ => n - (intOf ti).toNat)
    case atStart => exact ⟨0, Nat.zero_le _, rfl, HRA.out, HR1.out, HSN.out, HBB.out⟩
    case round =>
      obtain ⟨k, hk, rfl, hRA, hR1, hSN, hb⟩ := hrel
      by_cases h1 : k < n
      · have h1i : (k : Int) < (n : Int) := by omega
        obtain ⟨hj, ej⟩ := HAG.out k h1
        have c1 := hRA.cell (i := k) (by rw [HNA.out]; exact h1)
        rw [ej] at c1
        have c2 := hSN.cell (i := A.getD k 0) (by rw [sn12_len]; exact hj)
        rw [HNW.out k h1] at c2
        have f2 := hSN.free (A.getD k 0)
        have HS1 : Hid (∀ d, Rb12 ((wr.drewN d).setCell ⟨gS, A.getD k 0, none⟩ (.bool true)) gS (sn12 n A (k + 1)) ∧ Rz12 ((wr.drewN d).setCell ⟨gS, A.getD k 0, none⟩ (.bool true)) gA (nz12 A) ∧ Rz12 ((wr.drewN d).setCell ⟨gS, A.getD k 0, none⟩ (.bool true)) g0 z ∧ Below g0 w ((wr.drewN d).setCell ⟨gS, A.getD k 0, none⟩ (.bool true))) := by
          intro d
          have h5 := (hSN.drewN d).set (A.getD k 0) true
          rw [HST.out k h1] at h5
          have hbd : Below g0 w (wr.drewN d) := ⟨hb.os, hb.tape, hb.output, hb.size, hb.block⟩
          exact ⟨h5, (hRA.drewN d).kp (Kp.set (S := fun j => j = gS) rfl _) HNE.out.1, (hR1.drewN d).kp (Kp.set (S := fun j => j = gS) rfl _) HNE.out.2.1, hbd.trans ((Kp.set (S := fun j => j = gS) rfl _).below (fun j h => by have := HNE.out.2.2; omega) (by have h7 := hR1.lt; show g0 ≤ wr.heap.size; omega))⟩
        have hj1 : ¬ ((A.getD k 0 : Nat) : Int) < 0 := by omega
        have hd1 : decide (((A.getD k 0 : Nat) : Int) < 0) = false := decide_eq_false hj1
        have hj2 : ¬ (n : Int) ≤ ((A.getD k 0 : Nat) : Int) := by omega
        have hj3 : ((A.getD k 0 : Nat) : Int) < (n : Int) := by omega
        have hd2 : decide ((n : Int) ≤ ((A.getD k 0 : Nat) : Int)) = false := decide_eq_false hj2
        have hjm : ¬ n ≤ A.getD k 0 := by omega
        have hdm : decide (n ≤ A.getD k 0) = false := decide_eq_false hjm
        have hdn : decide (A.getD k 0 < n) = true := decide_eq_true hj
        by_cases h0 : k = 0
        · subst h0
          clear hRA hR1 hSN ej
          generalize A.getD 0 0 = j at *
          go_wp2_with fail
          go_region
          go_wp2_with fail
          go_roundw
          case rel => exact ⟨1, by omega, by go_num, (HS1.out 1).2.1, (HS1.out 1).2.2.1, (HS1.out 1).1, (HS1.out 1).2.2.2⟩
          case measure => simp [intOf]; omega
        · have h0i : (0 : Int) < (k : Int) := by omega
          have h0n : 0 < k := by omega
          obtain ⟨hj2, ej2⟩ := HAG.out (k - 1) (by omega)
          have c3 := hRA.cell (i := k - 1) (by rw [HNA.out]; omega)
          rw [ej2] at c3
          have er : (k : Int) - 1 = ((k - 1 : Nat) : Int) := by omega
          have ir : ((k - 1 : Nat) : Int) < (n : Int) := by omega
          have HL : Hid (∀ d, Calls Try.prog 25 #[.slice (some ⟨g0, 0, none⟩) n n, .int .i64 ((A.getD (k - 1) 0 : Nat) : Int), .int .i64 ((A.getD k 0 : Nat) : Int)] (wr.drewN d) fun e w' => e = .returned (.bool true) ∧ ∃ m, w' = (wr.drewN d).drewN m) := fun d => plessT12 _ z n n _ _ (wr.drewN d) (HSG.out _ g0 (hR1.drewN d)) hn (by omega) (by omega) (by omega) (HLS.out k h0n h1)
          clear hRA hR1 hSN ej ej2
          generalize A.getD k 0 = j at *
          generalize A.getD (k - 1) 0 = j2 at *
          generalize k - 1 = k1 at *
          go_wp2_with fail
          go_quiet ((go_at_call 25; exact Calls.quiet_of (HL.out _)))
          go_wp2_with fail
          go_roundw
          case rel => exact ⟨k + 1, by omega, by go_num, (HS1.out _).2.1, (HS1.out _).2.2.1, (HS1.out _).1, (HS1.out _).2.2.2⟩
          case measure => simp [intOf]; omega
      · have h1i : ¬ (k : Int) < (n : Int) := by omega
        go_wp2_with fail
        go_ret
        exact ⟨rfl, by rw [HG0.out]; exact hb⟩
end Go.Proofs.Ythplkcdockkiiaa
