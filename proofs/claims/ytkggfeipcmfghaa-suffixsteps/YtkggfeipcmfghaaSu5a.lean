
import Derived.Test.YtkggfeipcmfghaaSu4
namespace Go.Proofs.Ytkggfeipcmfghaa
open Go.RowKit
set_option linter.unusedVariables false

/-! Lcp. -/
def LvQ13 (w : World) (z : List Int) (A : List Nat) (n : Nat) (e : Ending) (w' : World) : Prop := ∃ g, e = .returned (.slice (some ⟨g, 0, none⟩) n n) ∧ Rz12 w' g (lp13 z A) ∧ w.heap.size ≤ g ∧ Below w.heap.size w w'
set_option maxRecDepth 100000 in
set_option maxHeartbeats 4000000 in
theorem plcp13 (b : Nat) (da : Option Addr) (dc : Nat) (aa : Option Addr) (ac gb gr n : Nat) (z : List Int) (A : List Nat) (w : World) (h : Ix13 w b da dc aa ac gb gr n z A) :
    Calls Try.prog 24 #[.pointer (some ⟨b, 0, none⟩)] w (LvQ13 w z A n) := by
  have HMD := pmade13 b da dc aa ac gb gr n z A w h
  have c0 := h.c0
  have hn24 := h.n24
  have hln : Hid (z.length = n) := h.len
  have HM := run_make_i12 n (by omega) w
  have hr0 := Rz12.new w (List.replicate n 0)
  have hal : Below w.heap.size w (w.alloc (.cells (vi12 (List.replicate n 0)) 3)) := (Below.refl _ _).alloc (Nat.le_refl _) _
  have HZ : Hid (List.replicate n (0 : Int) = lk13 z A 0) := by show _ = _; rw [lk13_zero, hln.out]
  rw [HZ.out] at hr0 hal HM
  have HAR : Hid (Ar12 z.length (S12 z) A) := by show Ar12 _ _ _; rw [hln.out]; exact h.ar
  have HI0 : Hid (∀ W, Below w.heap.size w W → Ix13 W b da dc aa ac gb gr n z A) := fun W hW => h.old hW
  have HLA : Hid (lk13 z A n = lp13 z A) := by show _ = _; rw [← hln.out]; exact lk13_all HAR.out
  have hc0w : ∀ W, Below w.heap.size w W → W.cell? ⟨b, 0, none⟩ = some (.slice da n dc) := fun W hW => (h.old hW).c0
  have c0a := hc0w _ hal
  have HC0 : Hid (∀ W, Below w.heap.size w W → W.cell? ⟨b, 0, none⟩ = some (.slice da n dc)) := hc0w
  have hdc := h.dle
  clear h hc0w
  generalize hg : w.heap.size = g at *
  generalize hW0 : w.alloc (.cells (vi12 (lk13 z A 0)) 3) = W0 at *
  have HW : Hid (W0 = w.alloc (.cells (vi12 (lk13 z A 0)) 3)) := hW0.symm
  have HG : Hid (w.heap.size = g) := hg
  clear hg hW0
  go_enter Try.func24, Try.ntmps24
  go_wp2_with (first
    | (go_at_call 44; refine HMD.mono ?_; rintro e1 w1 ⟨rfl, hw1⟩; subst hw1; clear HMD))
  go_loopw [4, 21] (fun tn ti wr => ∃ j m : Nat, j ≤ n ∧ tn = .int .i64 m ∧ ti = .int .i64 j ∧ Hid (m ≤ 16777216 ∧ (j < n → ¬ rk13 A j = 0 → m - 1 ≤ lv13 z A (rk13 A j))) ∧ Rz12 wr g (lk13 z A j) ∧ Below g w1 wr) (fun _ ti _ => n - (intOf ti).toNat)
  case atStart => exact ⟨0, 0, Nat.zero_le _, rfl, rfl, ⟨by omega, fun _ _ => by omega⟩, hr0, hal⟩
  case round =>
    obtain ⟨j, m, hj, rfl, rfl, HJ, hR, hb2⟩ := hrel
    by_cases h1 : j < n
    · have h1i : (j : Int) < (n : Int) := by omega
      have hI := HI0.out wr hb2
      have hK := pclo13 gb gr n A (S12 z) j wr hI.rk h1 hn24 hI.ar
      have hc2 := hI.c2
      have hrl := (hI.ar.rk h1).1
      have hra := (hI.ar.rk h1).2
      by_cases h0 : rk13 A j = 0
      · have HSK : Hid (lk13 z A (j + 1) = lk13 z A j) := lk13_skip HAR.out (by rw [hln.out]; exact h1) h0
        have HNX : Hid ((0 : Nat) ≤ 16777216 ∧ (j + 1 < n → ¬ rk13 A (j + 1) = 0 → 0 - 1 ≤ lv13 z A (rk13 A (j + 1)))) := ⟨by omega, fun _ _ => by omega⟩
        rw [h0] at hK
        clear hI hrl hra h0
        go_wp2_with (first
          | (refine hK.mono ?_; rintro e3 w3 ⟨rfl, hw3⟩; subst hw3))
        go_roundw
        case rel => exact ⟨j + 1, 0, by omega, by go_num, by go_num, HNX, by rw [HSK.out]; exact hR, hb2⟩
        case measure => simp [intOf]; omega
      · have HLV : Hid (lv13 z A (rk13 A j) = lc13 (z.drop j) (z.drop (A.getD (rk13 A j - 1) 0))) := by
          show _ = _
          unfold lv13
          rw [if_neg h0, hra]
        have HKS : Hid (m - 1 ≤ lv13 z A (rk13 A j)) := HJ.out.2 h1 h0
        have hm24 := HJ.out.1
        have HNX : Hid (lv13 z A (rk13 A j) ≤ 16777216 ∧ (j + 1 < n → ¬ rk13 A (j + 1) = 0 → lv13 z A (rk13 A j) - 1 ≤ lv13 z A (rk13 A (j + 1)))) := by
          refine ⟨?_, fun h3 h4 => kasai13 HAR.out (by rw [hln.out]; exact h3) h4⟩
          have := (lv13_le HAR.out (r := rk13 A j) (by rw [hln.out]; exact hrl)).1
          rw [hln.out] at this
          omega
        have HST : Hid ((lk13 z A j).set (rk13 A j) ((lv13 z A (rk13 A j) : Nat) : Int) = lk13 z A (j + 1)) := lk13_set HAR.out (by rw [hln.out]; exact h1)
        have hp := hI.ar.get (r := rk13 A j - 1) (by omega)
        have c3 : ∃ ab ao, aa = some ⟨ab, ao, none⟩ ∧ wr.cell? ⟨ab, ao + (rk13 A j - 1), none⟩ = some (.int .i64 ((A.getD (rk13 A j - 1) 0 : Nat) : Int)) := by
          obtain ⟨ab, ao, ha, hc⟩ := hI.arr.at_ (rk13 A j - 1) (by rw [nz12_len13, hI.ar.len]; omega)
          rw [nz12_get13 (by rw [hI.ar.len]; omega)] at hc
          exact ⟨ab, ao, ha, hc⟩
        obtain ⟨ab, ao, haa, c3⟩ := c3
        have k1 := hR.cell (i := rk13 A j) (by rw [lk13_len, hln.out]; exact hrl)
        have k2 := hR.free (rk13 A j)
        have HRS : Hid (∀ d, Rz12 ((wr.drewN d).setCell ⟨g, rk13 A j, none⟩ (.int .i64 ((lv13 z A (rk13 A j) : Nat) : Int))) g (lk13 z A (j + 1)) ∧ Below g w1 ((wr.drewN d).setCell ⟨g, rk13 A j, none⟩ (.int .i64 ((lv13 z A (rk13 A j) : Nat) : Int)))) := by
          intro d
          have h5 := (hR.drewN d).set (rk13 A j) ((lv13 z A (rk13 A j) : Nat) : Int)
          rw [HST.out] at h5
          have hbd : Below g w1 (wr.drewN d) := ⟨hb2.os, hb2.tape, hb2.output, hb2.size, hb2.block⟩
          exact ⟨h5, hbd.trans ((Kp.set (S := fun q => q = g) rfl _).below (fun q h => by omega) (by have h7 := hR.lt; show g ≤ wr.heap.size; omega))⟩
        obtain ⟨xb, off, hda, _⟩ := hI.dat.at_ j (by rw [hI.len]; exact h1)
        have HSM : Hid (∀ (K : Nat) d, K ≤ lv13 z A (rk13 A j) → Calls Try.prog 53 #[.slice (some ⟨xb, off + j, none⟩) (n - j) (dc - j), .slice (some ⟨xb, off + A.getD (rk13 A j - 1) 0, none⟩) (n - A.getD (rk13 A j - 1) 0) (dc - A.getD (rk13 A j - 1) 0), .int .i64 (K : Int)] (wr.drewN d) fun e w' => e = .returned (.int .i64 ((lv13 z A (rk13 A j) : Nat) : Int)) ∧ ∃ m, w' = (wr.drewN d).drewN m) := fun K d hKl => by
          have hdd := (hI.drewN d).dat
          rw [hda] at hdd
          rw [HLV.out] at hKl ⊢
          exact psame13 _ (z.drop j) (n - j) _ _ (z.drop (A.getD (rk13 A j - 1) 0)) (n - A.getD (rk13 A j - 1) 0) _ K (wr.drewN d) (hdd.drop j) (hdd.drop _) (by show _ = _; rw [List.length_drop, hln.out]) (by show _ = _; rw [List.length_drop, hln.out]) (by omega) (by omega) hKl
        have ca0 := hI.c0
        have ca1 := hI.c1
        rw [haa] at ca1
        rw [hda] at ca0
        clear hI hra HJ HLV HST hR haa hda
        generalize (lk13 z A j).getD (rk13 A j) 0 = y at *
        generalize lv13 z A (rk13 A j) = v at *
        generalize A.getD (rk13 A j - 1) 0 = p at *
        generalize rk13 A j = r at *
        obtain ⟨r1, hr1⟩ : ∃ r1, r1 = r - 1 := ⟨_, rfl⟩
        have er : (r : Int) - 1 = (r1 : Int) := by omega
        have ir : (r1 : Int) < (n : Int) := by omega
        have hri : (r : Int) < (n : Int) := by omega
        have h0i : ¬ (r : Int) = 0 := by omega
        rw [← hr1] at c3
        clear hr1
        have l1 : j ≤ n := by omega
        have l2 : p ≤ n := by omega
        have l3 : ¬ dc = j := by omega
        have l4 : ¬ dc = p := by omega
        by_cases hm1 : m ≤ 1
        · have HS : Hid (∀ d, Calls Try.prog 53 #[.slice (some ⟨xb, off + j, none⟩) (n - j) (dc - j), .slice (some ⟨xb, off + p, none⟩) (n - p) (dc - p), .int .i64 0] (wr.drewN d) fun e w' => e = .returned (.int .i64 (v : Int)) ∧ ∃ m, w' = (wr.drewN d).drewN m) := fun d => HSM.out 0 d (Nat.zero_le _)
          have g1 : ¬ (0 : Int) < (m : Int) - 1 := by omega
          have g2 : ¬ (1 : Int) < (m : Int) := by omega
          have g3 : ¬ 1 < m := by omega
          have g4 : (m : Int) ≤ 1 := by omega
          clear HSM HKS
          go_wp2_with (first
            | (refine hK.mono ?_; rintro e3 w3 ⟨rfl, hw3⟩; subst hw3; clear hK))
          go_quiet ((go_at_call 53; exact Calls.quiet_of (HS.out _)))
          go_wp2_with fail
          go_roundw
          case rel => exact ⟨j + 1, v, by omega, by go_num, by go_num, HNX, (HRS.out _).1, (HRS.out _).2⟩
          case measure => simp [intOf]; omega
        · obtain ⟨m1, hm2⟩ : ∃ m1, m1 = m - 1 := ⟨_, rfl⟩
          have HS : Hid (∀ d, Calls Try.prog 53 #[.slice (some ⟨xb, off + j, none⟩) (n - j) (dc - j), .slice (some ⟨xb, off + p, none⟩) (n - p) (dc - p), .int .i64 (m1 : Int)] (wr.drewN d) fun e w' => e = .returned (.int .i64 (v : Int)) ∧ ∃ m, w' = (wr.drewN d).drewN m) := fun d => HSM.out m1 d (by rw [hm2]; exact HKS.out)
          have em : (m : Int) - 1 = (m1 : Int) := by omega
          have g1 : (0 : Int) < (m1 : Int) := by omega
          have g2 : 0 < m1 := by omega
          clear HSM HKS hm2
          go_wp2_with (first
            | (refine hK.mono ?_; rintro e3 w3 ⟨rfl, hw3⟩; subst hw3; clear hK))
          go_quiet ((go_at_call 53; exact Calls.quiet_of (HS.out _)))
          go_wp2_with fail
          go_roundw
          case rel => exact ⟨j + 1, v, by omega, by go_num, by go_num, HNX, (HRS.out _).1, (HRS.out _).2⟩
          case measure => simp [intOf]; omega
    · have h1i : ¬ (j : Int) < (n : Int) := by omega
      obtain rfl : j = n := by omega
      rw [HLA.out] at hR
      go_wp2_with fail
      go_ret
      exact ⟨g, rfl, hR, by rw [HG.out]; omega, by rw [HG.out]; exact hb2⟩
end Go.Proofs.Ytkggfeipcmfghaa
