import Derived.Test.YtidcdbdlaonoeaaPap
import Derived.Test.YtidcdbdlaonoeaaPan
import Derived.Lib.SlBytesConst
import Derived.Test.YtidcdbdlaonoeaaPau
namespace Go.Proofs.Ytidcdbdlaonoeaa
open Go.RowKit
set_option linter.unusedVariables false

/-! Lcp. -/
def LvQ13 (w : World) (z : List Int) (A : List Nat) (n : Nat) (e : Ending) (w' : World) : Prop := ∃ g, e = .returned (.slice (some ⟨g, 0, none⟩) n n) ∧ Rz12 w' g (lp13 z A) ∧ w.heap.size ≤ g ∧ Below w.heap.size w w'
set_option maxRecDepth 100000 in
set_option maxHeartbeats 4000000 in
theorem plcp13 (b : Nat) (da : Option Addr) (dc : Nat) (aa : Option Addr) (ac gb gr n : Nat) (z : List Int) (A : List Nat) (w : World) (h : Ix13 w b da dc aa ac gb gr n z A) :
    Calls Try.prog 23 #[.pointer (some ⟨b, 0, none⟩)] w (LvQ13 w z A n) := by
  have HMD := pmade13 b da dc aa ac gb gr n z A w h
  have c0 := h.c0
  have hn24 := h.n24
  have hln : Hid (z.length = n) := h.len
  have HM := run_make_i12 n (by omega) w
  have hr0 := Rz12.new w (List.replicate n 0)
  have hal : Below w.heap.size w (w.alloc (.cells (vi12 (List.replicate n 0)) 3)) := (Below.refl _ _).alloc (Nat.le_refl _) _
  have HZ : Hid (List.replicate n (0 : Int) = lk13 z A 0) := by show _ = _; rw [lk13_zero, hln.out]
  rw [HZ.out] at hr0 hal HM
  have HAR : Hid (Ar12 z.length (S12 z) A) := by show Ar12 _ _ _; rw [hln.out]; exact h.ar
  have HI0 : Hid (∀ W, Below w.heap.size w W → Ix13 W b da dc aa ac gb gr n z A) := fun W hW => h.old hW
  have HLA : Hid (lk13 z A n = lp13 z A) := by show _ = _; rw [← hln.out]; exact lk13_all HAR.out
  have hc0w : ∀ W, Below w.heap.size w W → W.cell? ⟨b, 0, none⟩ = some (.slice da n dc) := fun W hW => (h.old hW).c0
  have c0a := hc0w _ hal
  have HC0 : Hid (∀ W, Below w.heap.size w W → W.cell? ⟨b, 0, none⟩ = some (.slice da n dc)) := hc0w
  have hdc := h.dle
  clear h hc0w
  generalize hg : w.heap.size = g at *
  generalize hW0 : w.alloc (.cells (vi12 (lk13 z A 0)) 3) = W0 at *
  have HW : Hid (W0 = w.alloc (.cells (vi12 (lk13 z A 0)) 3)) := hW0.symm
  have HG : Hid (w.heap.size = g) := hg
  clear hg hW0
  go_enter Try.func23, Try.ntmps23
  go_wp2_with (first
    | (go_at_call 31; refine HMD.mono ?_; rintro e1 w1 ⟨rfl, hw1⟩; subst hw1; clear HMD))
  go_loopw [4, 21] (fun tn ti wr => ∃ j m : Nat, j ≤ n ∧ tn = .int .i64 m ∧ ti = .int .i64 j ∧ Hid (m ≤ 16777216 ∧ (j < n → ¬ rk13 A j = 0 → m - 1 ≤ lv13 z A (rk13 A j))) ∧ Rz12 wr g (lk13 z A j) ∧ Below g w1 wr) (fun _ ti _ => n - (intOf ti).toNat)
  case atStart => exact ⟨0, 0, Nat.zero_le _, rfl, rfl, ⟨by omega, fun _ _ => by omega⟩, hr0, hal⟩
  case round =>
    obtain ⟨j, m, hj, rfl, rfl, HJ, hR, hb2⟩ := hrel
    by_cases h1 : j < n
    · have h1i : (j : Int) < (n : Int) := by omega
      have hI := HI0.out wr hb2
      have hK := pclo13 gb gr n A (S12 z) j wr hI.rk h1 hn24 hI.ar
      have hc2 := hI.c2
      have hrl := (hI.ar.rk h1).1
      have hra := (hI.ar.rk h1).2
      by_cases h0 : rk13 A j = 0
      · have HSK : Hid (lk13 z A (j + 1) = lk13 z A j) := lk13_skip HAR.out (by rw [hln.out]; exact h1) h0
        have HNX : Hid ((0 : Nat) ≤ 16777216 ∧ (j + 1 < n → ¬ rk13 A (j + 1) = 0 → 0 - 1 ≤ lv13 z A (rk13 A (j + 1)))) := ⟨by omega, fun _ _ => by omega⟩
        rw [h0] at hK
        clear hI hrl hra h0
        go_wp2_with (first
          | (refine hK.mono ?_; rintro e3 w3 ⟨rfl, hw3⟩; subst hw3))
        go_roundw
        case rel => exact ⟨j + 1, 0, by omega, by go_num, by go_num, HNX, by rw [HSK.out]; exact hR, hb2⟩
        case measure => simp [intOf]; omega
      · have HLV : Hid (lv13 z A (rk13 A j) = lc13 (z.drop j) (z.drop (A.getD (rk13 A j - 1) 0))) := by
          show _ = _
          unfold lv13
          rw [if_neg h0, hra]
        have HKS : Hid (m - 1 ≤ lv13 z A (rk13 A j)) := HJ.out.2 h1 h0
        have hm24 := HJ.out.1
        have HNX : Hid (lv13 z A (rk13 A j) ≤ 16777216 ∧ (j + 1 < n → ¬ rk13 A (j + 1) = 0 → lv13 z A (rk13 A j) - 1 ≤ lv13 z A (rk13 A (j + 1)))) := by
          refine ⟨?_, fun h3 h4 => kasai13 HAR.out (by rw [hln.out]; exact h3) h4⟩
          have := (lv13_le HAR.out (r := rk13 A j) (by rw [hln.out]; exact hrl)).1
          rw [hln.out] at this
          omega
        have HST : Hid ((lk13 z A j).set (rk13 A j) ((lv13 z A (rk13 A j) : Nat) : Int) = lk13 z A (j + 1)) := lk13_set HAR.out (by rw [hln.out]; exact h1)
        have hp := hI.ar.get (r := rk13 A j - 1) (by omega)
        have c3 : ∃ ab ao, aa = some ⟨ab, ao, none⟩ ∧ wr.cell? ⟨ab, ao + (rk13 A j - 1), none⟩ = some (.int .i64 ((A.getD (rk13 A j - 1) 0 : Nat) : Int)) := by
          obtain ⟨ab, ao, ha, hc⟩ := hI.arr.at_ (rk13 A j - 1) (by rw [nz12_len13, hI.ar.len]; omega)
          rw [nz12_get13 (by rw [hI.ar.len]; omega)] at hc
          exact ⟨ab, ao, ha, hc⟩
        obtain ⟨ab, ao, haa, c3⟩ := c3
        have k1 := hR.cell (i := rk13 A j) (by rw [lk13_len, hln.out]; exact hrl)
        have k2 := hR.free (rk13 A j)
        have HRS : Hid (∀ d, Rz12 ((wr.drewN d).setCell ⟨g, rk13 A j, none⟩ (.int .i64 ((lv13 z A (rk13 A j) : Nat) : Int))) g (lk13 z A (j + 1)) ∧ Below g w1 ((wr.drewN d).setCell ⟨g, rk13 A j, none⟩ (.int .i64 ((lv13 z A (rk13 A j) : Nat) : Int)))) := by
          intro d
          have h5 := (hR.drewN d).set (rk13 A j) ((lv13 z A (rk13 A j) : Nat) : Int)
          rw [HST.out] at h5
          have hbd : Below g w1 (wr.drewN d) := ⟨hb2.os, hb2.tape, hb2.output, hb2.size, hb2.block⟩
          exact ⟨h5, hbd.trans ((Kp.set (S := fun q => q = g) rfl _).below (fun q h => by omega) (by have h7 := hR.lt; show g ≤ wr.heap.size; omega))⟩
        obtain ⟨xb, off, hda, _⟩ := hI.dat.at_ j (by rw [hI.len]; exact h1)
        have HSM : Hid (∀ (K : Nat) d, K ≤ lv13 z A (rk13 A j) → Calls Try.prog 38 #[.slice (some ⟨xb, off + j, none⟩) (n - j) (dc - j), .slice (some ⟨xb, off + A.getD (rk13 A j - 1) 0, none⟩) (n - A.getD (rk13 A j - 1) 0) (dc - A.getD (rk13 A j - 1) 0), .int .i64 (K : Int)] (wr.drewN d) fun e w' => e = .returned (.int .i64 ((lv13 z A (rk13 A j) : Nat) : Int)) ∧ ∃ m, w' = (wr.drewN d).drewN m) := fun K d hKl => by
          have hdd := (hI.drewN d).dat
          rw [hda] at hdd
          rw [HLV.out] at hKl ⊢
          exact psame13 _ (z.drop j) (n - j) _ _ (z.drop (A.getD (rk13 A j - 1) 0)) (n - A.getD (rk13 A j - 1) 0) _ K (wr.drewN d) (hdd.drop j) (hdd.drop _) (by show _ = _; rw [List.length_drop, hln.out]) (by show _ = _; rw [List.length_drop, hln.out]) (by omega) (by omega) hKl
        have ca0 := hI.c0
        have ca1 := hI.c1
        rw [haa] at ca1
        rw [hda] at ca0
        clear hI hra HJ HLV HST hR haa hda
        generalize (lk13 z A j).getD (rk13 A j) 0 = y at *
        generalize lv13 z A (rk13 A j) = v at *
        generalize A.getD (rk13 A j - 1) 0 = p at *
        generalize rk13 A j = r at *
        obtain ⟨r1, hr1⟩ : ∃ r1, r1 = r - 1 := ⟨_, rfl⟩
        have er : (r : Int) - 1 = (r1 : Int) := by omega
        have ir : (r1 : Int) < (n : Int) := by omega
        have hri : (r : Int) < (n : Int) := by omega
        have h0i : ¬ (r : Int) = 0 := by omega
        rw [← hr1] at c3
        clear hr1
        have l1 : j ≤ n := by omega
        have l2 : p ≤ n := by omega
        have l3 : ¬ dc = j := by omega
        have l4 : ¬ dc = p := by omega
        by_cases hm1 : m ≤ 1
        · have HS : Hid (∀ d, Calls Try.prog 38 #[.slice (some ⟨xb, off + j, none⟩) (n - j) (dc - j), .slice (some ⟨xb, off + p, none⟩) (n - p) (dc - p), .int .i64 0] (wr.drewN d) fun e w' => e = .returned (.int .i64 (v : Int)) ∧ ∃ m, w' = (wr.drewN d).drewN m) := fun d => HSM.out 0 d (Nat.zero_le _)
          have g1 : ¬ (0 : Int) < (m : Int) - 1 := by omega
          have g2 : ¬ (1 : Int) < (m : Int) := by omega
          have g3 : ¬ 1 < m := by omega
          have g4 : (m : Int) ≤ 1 := by omega
          clear HSM HKS
          go_wp2_with (first
            | (refine hK.mono ?_; rintro e3 w3 ⟨rfl, hw3⟩; subst hw3; clear hK))
          go_quiet ((go_at_call 38; exact Calls.quiet_of (HS.out _)))
          go_wp2_with fail
          go_roundw
          case rel => exact ⟨j + 1, v, by omega, by go_num, by go_num, HNX, (HRS.out _).1, (HRS.out _).2⟩
          case measure => simp [intOf]; omega
        · obtain ⟨m1, hm2⟩ : ∃ m1, m1 = m - 1 := ⟨_, rfl⟩
          have HS : Hid (∀ d, Calls Try.prog 38 #[.slice (some ⟨xb, off + j, none⟩) (n - j) (dc - j), .slice (some ⟨xb, off + p, none⟩) (n - p) (dc - p), .int .i64 (m1 : Int)] (wr.drewN d) fun e w' => e = .returned (.int .i64 (v : Int)) ∧ ∃ m, w' = (wr.drewN d).drewN m) := fun d => HSM.out m1 d (by rw [hm2]; exact HKS.out)
          have em : (m : Int) - 1 = (m1 : Int) := by omega
          have g1 : (0 : Int) < (m1 : Int) := by omega
          have g2 : 0 < m1 := by omega
          clear HSM HKS hm2
          go_wp2_with (first
            | (refine hK.mono ?_; rintro e3 w3 ⟨rfl, hw3⟩; subst hw3; clear hK))
          go_quiet ((go_at_call 38; exact Calls.quiet_of (HS.out _)))
          go_wp2_with fail
          go_roundw
          case rel => exact ⟨j + 1, v, by omega, by go_num, by go_num, HNX, (HRS.out _).1, (HRS.out _).2⟩
          case measure => simp [intOf]; omega
    · have h1i : ¬ (j : Int) < (n : Int) := by omega
      obtain rfl : j = n := by omega
      rw [HLA.out] at hR
      go_wp2_with fail
      go_ret
      exact ⟨g, rfl, hR, by rw [HG.out]; omega, by rw [HG.out]; exact hb2⟩
end Go.Proofs.Ytidcdbdlaonoeaa

namespace Go.Proofs.Ytidcdbdlaonoeaa
open Go.RowKit
set_option linter.unusedVariables false

/-! The law's helpers: Same, lend, num, awake. -/
theorem take_all12 {xs ys : List Int} (h : xs.length = ys.length) {k : Nat} (hk : k = xs.length ∨ k = ys.length) (he : xs.take k = ys.take k) : xs = ys := by
  have : k = xs.length := by omega
  rw [List.take_of_length_le (by omega), List.take_of_length_le (by omega)] at he
  exact he

def lent12 (zs : List Int) : List Int := zs ++ [71, 72, 73, 74]
theorem lent12_bd {zs : List Int} (h : ∀ z ∈ zs, -9223372036854775808 ≤ z ∧ z ≤ 9223372036854775807) : ∀ z ∈ lent12 zs, -9223372036854775808 ≤ z ∧ z ≤ 9223372036854775807 := by
  intro z hz
  unfold lent12 at hz
  rw [List.mem_append] at hz
  rcases hz with hz | hz
  · exact h z hz
  · simp at hz; omega
theorem seg_four12 (w : World) : SegZ (w.alloc (.cells #[.int .i64 71, .int .i64 72, .int .i64 73, .int .i64 74] 3)) (some ⟨w.heap.size, 0, none⟩) [71, 72, 73, 74] := by
  refine ⟨fun i hi => ⟨w.heap.size, 0, rfl, ?_⟩, getD_bdz (by intro z hz; simp at hz; omega)⟩
  simp only [List.length_cons, List.length_nil] at hi
  match i, hi with
  | 0, _ => simp
  | 1, _ => simp
  | 2, _ => simp
  | 3, _ => simp

def lsb12 (n : Nat) (S : Nat → Int) : Nat → Nat → Nat → Bool
  | 0, _, _ => false
  | f + 1, i, j => decide (j < n) && (!decide (i < n) || (decide (S i < S j) || (decide (S i = S j) && lsb12 n S f (i + 1) (j + 1))))
theorem lsb12_ok {n : Nat} {S : Nat → Int} : ∀ {f i j : Nat}, lsb12 n S f i j = true → Ls12 n S i j
  | 0, _, _, h => by cases h
  | f + 1, i, j, h => by
    unfold lsb12 at h
    simp only [Bool.and_eq_true, decide_eq_true_eq, Bool.or_eq_true, Bool.not_eq_true', decide_eq_false_iff_not] at h
    obtain ⟨hj, h⟩ := h
    rcases h with h | h | ⟨h1, h2⟩
    · exact .fin h hj
    · by_cases hi : i < n
      · exact .lt hi hj h
      · exact .fin hi hj
    · by_cases hi : i < n
      · exact .eq hi hj h1 (lsb12_ok h2)
      · exact .fin hi hj
def prs12 (n : Nat) (S : Nat → Int) : List Nat → Bool
  | [] => true
  | x :: r => r.all (fun y => lsb12 n S (n + 1) x y) && prs12 n S r
theorem prs12_ok {n : Nat} {S : Nat → Int} : ∀ {A : List Nat}, prs12 n S A = true → A.Pairwise (Ls12 n S)
  | [], _ => List.Pairwise.nil
  | x :: r, h => by
    unfold prs12 at h
    rw [Bool.and_eq_true, List.all_eq_true] at h
    exact List.pairwise_cons.2 ⟨fun y hy => lsb12_ok (h.1 y hy), prs12_ok h.2⟩
def chk12 (n : Nat) (s : List Int) (A : List Nat) : Bool := decide (A.length = n) && A.all (fun j => decide (j < n)) && (List.range n).all (fun j => A.contains j) && prs12 n (S12 s) A
theorem chk12_ok {n : Nat} {s : List Int} {A : List Nat} (h : chk12 n s A = true) : Ar12 n (S12 s) A := by
  unfold chk12 at h
  rw [Bool.and_eq_true, Bool.and_eq_true, Bool.and_eq_true, decide_eq_true_eq, List.all_eq_true, List.all_eq_true] at h
  exact ⟨h.1.1.1, fun j hj => by simpa using h.1.1.2 j hj, fun j hj => by simpa using h.1.2 j (List.mem_range.2 hj), prs12_ok h.2⟩
theorem lit12 (w : World) (A : List Int) : Rz12 (w.alloc (.cells (vi12 A) 3)) w.heap.size A := Rz12.new w A
theorem lit12_bd {A : List Int} (h : A.all (fun z => decide (-100 ≤ z) && decide (z ≤ 100)) = true) : ∀ z ∈ A, -9223372036854775808 ≤ z ∧ z ≤ 9223372036854775807 := by
  intro z hz
  rw [List.all_eq_true] at h
  have := h z hz
  simp only [Bool.and_eq_true, decide_eq_true_eq] at this
  omega
/-- Array of a list that was written out. -/
theorem parl12 (k : Int) (s : List Int) (A : List Nat) (n : Nat) (w : World) (hk : 0 ≤ k ∧ k ≤ 100) (hb : s.all (fun z => decide (-100 ≤ z) && decide (z ≤ 100)) = true) (hn : s.length = n) (hr : ref12 k s = 0) (hA : chk12 n s A = true) :
    Calls Try.prog 51 #[.int .i64 k, .slice (some ⟨w.heap.size, 0, none⟩) n n] (w.alloc (.cells (vi12 s) 3)) fun e w' => ∃ g, e = .returned (.tuple #[.slice (some ⟨g, 0, none⟩) n n, .int .i64 0]) ∧ Rz12 w' g (nz12 A) ∧ w.heap.size ≤ g ∧ Below w.heap.size w w' := by
  have hb1 : Below w.heap.size w (w.alloc (.cells (vi12 s) 3)) := (Below.refl _ _).alloc (Nat.le_refl _) _
  refine (parr12 k _ s n n _ ((lit12 w s).seg (lit12_bd hb)) hn (by omega) hr).mono ?_
  rintro e w' ⟨g, A', rfl, RA, hg, hA', B⟩
  rw [hA'.unique (chk12_ok hA)] at RA
  exact ⟨g, rfl, RA, Nat.le_trans hb1.size hg, hb1.trans (B.mono hb1.size)⟩
end Go.Proofs.Ytidcdbdlaonoeaa

namespace Go.Proofs.Ytidcdbdlaonoeaa
open Go.RowKit
set_option linter.unusedVariables false

/-! The law's helpers: same, lives. -/
theorem seg_lit13 (w : World) (zs : List Int) (t : TypeId) (fr : Nat × Nat) (h : ∀ z ∈ zs, 0 ≤ z ∧ z ≤ 255) : Seg (w.alloc (.cells (zs.map (Value.int .u8)).toArray t fr)) (some ⟨w.heap.size, 0, none⟩) zs := by
  refine ⟨fun i hi => ⟨w.heap.size, 0, rfl, ?_⟩, by decide, getD_bd (by decide) h⟩
  have e : zs.getD i 0 = zs[i] := by simp [List.getD, hi]
  rw [e, Nat.zero_add, World.cell?_alloc_mark]
  simp [hi]
end Go.Proofs.Ytidcdbdlaonoeaa

namespace Go.Proofs.Ytidcdbdlaonoeaa
open Go.RowKit
set_option linter.unusedVariables false

/-! The law's helpers of layer 14: lend, kept, index, awake. -/
def lentB14 (zs : List Int) : List Int := zs ++ [71, 72, 73]
theorem lentB14_len (zs : List Int) : (lentB14 zs).length = zs.length + 3 := by simp [lentB14]
theorem lentB14_bd {zs : List Int} (h : ∀ z ∈ zs, 0 ≤ z ∧ z ≤ 255) : ∀ z ∈ lentB14 zs, 0 ≤ z ∧ z ≤ 255 := by
  intro z hz
  unfold lentB14 at hz
  rw [List.mem_append] at hz
  rcases hz with hz | hz
  · exact h z hz
  · simp at hz; omega
theorem lentB14_take (zs : List Int) : (lentB14 zs).take zs.length = zs := by simp [lentB14]
def LenQ14 (w : World) (zs : List Int) (n : Nat) (e : Ending) (w' : World) : Prop := ∃ g c, e = .returned (.slice (some ⟨g, 0, none⟩) (n + 3) c) ∧ Seg w' (some ⟨g, 0, none⟩) (lentB14 zs) ∧ n + 3 ≤ c ∧ Below w.heap.size w w'
set_option maxRecDepth 100000 in
set_option maxHeartbeats 1000000 in
theorem lend14 (a : Option Addr) (zs : List Int) (n cap : Nat) (w : World) (hs : Seg w a zs) (hn : Hid (zs.length = n)) (hnil : a = none → cap = 0) (hl : n ≤ 140737488351232) :
    Calls Try.prog 10 #[.slice a n cap] w (LenQ14 w zs n) := by
  obtain ⟨i0, hi, hz0, hz1, hz2⟩ := info_parts info_y13
  have e0 := hn.out
  subst e0
  clear hn
  have HV : Hid (∀ z ∈ zs, 0 ≤ z ∧ z ≤ 255) := hs.mem
  have sg3 : ∀ w1 : World, Seg (w1.alloc (.cells #[.int .u8 71, .int .u8 72, .int .u8 73] 5)) (some ⟨w1.heap.size, 0, none⟩) [71, 72, 73] := fun w1 => seg_lit13 w1 [71, 72, 73] 5 (0, 0) (by decide)
  have HS3 : Hid (∀ w1 : World, Seg (w1.alloc (.cells #[.int .u8 71, .int .u8 72, .int .u8 73] 5)) (some ⟨w1.heap.size, 0, none⟩) [71, 72, 73]) := sg3
  clear sg3
  go_enter Try.func10, Try.ntmps10
  go_wp2_with (first
    | (at_builtin; refine wpList_appS rfl (.const (.slice none 0 0)) (.tmp 3) 22 rfl w.heap.size 5 i0 (.int .u8 0) 1 Try.underlying22 hi hz0 hz1 hz2 rfl (World.ownsRow_nil _ _ _ _) hs hnil rfl rfl (by omega) (by omega) (Nat.le_refl _) ?_; intro a1 c1 w1 hown1 hg1 hf1 hn1; have hb1 := below_own (World.ownsRow_nil w w.heap.size 5 1) hg1 (Nat.le_refl _); clear hf1 hn1 hg1; rw [Nat.zero_add, List.nil_append] at hown1)
    | (at_builtin; refine wpList_appS rfl (.tmp 4) (.tmp 5) 22 rfl w.heap.size 5 i0 (.int .u8 0) 1 Try.underlying22 hi hz0 hz1 hz2 rfl (hown1.alloc _) (HS3.out w1) (by intro h; cases h) rfl rfl (by simp; omega) (by simp; omega) (by have := hb1.size; simp; omega) ?_; intro a2 c2 w2 hown2 hg2 hf2 hn2))
  go_ret
  clear hf2 hn2
  have hb0 := hb1.trans ((Below.refl w.heap.size w1).alloc hb1.size (.cells #[.int .u8 71, .int .u8 72, .int .u8 73] 5))
  have hb2 := hb0.trans (below_own (hown1.alloc _) hg2 (by have := hb0.size; simpa using this))
  have ev : zs.map (Value.int .u8) ++ ([71, 72, 73] : List Int).map (Value.int .u8) = (lentB14 zs).map (Value.int .u8) := by simp [lentB14]
  have el : zs.length + ([71, 72, 73] : List Int).length = zs.length + 3 := by simp
  rw [el, ev] at hown2
  obtain ⟨g, cap', hv, hc2, hg, hgs⟩ := own_shape hown2 (by omega)
  rw [hv] at hown2
  refine ⟨g, cap', ?_, own_seg13 hown2 (lentB14_bd HV.out), hc2, hb2⟩
  rw [← hv]
  rfl
set_option maxRecDepth 100000 in
set_option maxHeartbeats 2000000 in
theorem kept14 (b a : Option Addr) (zs : List Int) (n cb cap : Nat) (w : World) (hx : Seg w b (lentB14 zs)) (hs : Seg w a zs) (hn : Hid (zs.length = n)) (hnil : a = none → cap = 0) (hl : n ≤ 140737488351232) :
    Calls Try.prog 13 #[.slice b (n + 3) cb, .slice a n cap] w fun e w' => e = .returned (.bool true) ∧ Below w.heap.size w w' := by
  have HL : Hid (∀ W, Below w.heap.size w W → Calls Try.prog 10 #[.slice a n cap] W (LenQ14 W zs n)) := fun W hb => lend14 a zs n cap W (hs.old hb) hn hnil hl
  have HLN : Hid ((lentB14 zs).length = n + 3) := by show _ = _; rw [lentB14_len, hn.out]
  have HCV : Hid (∀ W a2 c2, Seg W a2 (lentB14 zs) → (convert 22 9 (.slice a2 (n + 3) c2)).run Try.prog W = .ok (.string (strOfNums (lentB14 zs))) W) := fun W a2 c2 h => by
    have h8 := run_conv_segS (P := Try.prog) c2 h 22 5 9 Try.underlying22 Try.underlying5 Try.underlying9
    rw [HLN.out] at h8
    exact h8
  have BD : Below w.heap.size w w.drew := (Below.refl _ _).drew
  have y1 := HCV.out w.drew b cb (hx.old BD)
  have HX : Hid (∀ W, Below w.heap.size w W → Seg W b (lentB14 zs)) := fun W hb => hx.old hb
  clear hs hx HLN
  generalize strOfNums (lentB14 zs) = st at *
  go_enter Try.func13, Try.ntmps13
  go_wp2_with fail
  go_region_with (first
    | (go_at_call 10; refine (HL.out _ BD).mono ?_; rintro e1 w1 ⟨g, c, rfl, s1, -, B1⟩; have B2 := BD.trans (B1.mono BD.size); have y2 := HCV.out w1 b cb (HX.out w1 B2); have y3 := HCV.out w1 _ c s1; clear s1 B1))
  all_goals
    go_wp2_with fail
    go_ret
    exact ⟨by first | rfl | simp, B2⟩
set_option maxRecDepth 100000 in
set_option maxHeartbeats 1000000 in
theorem pidx14 (a : Option Addr) (z : List Int) (n cap : Nat) (w : World) (hs : Seg w a z) (hnil : a = none → cap = 0) (hn : Hid (z.length = n)) (hb : n ≤ 16777216) :
    Calls Try.prog 8 #[.slice a n cap] w fun e w' => ∃ b A, e = .returned (.tuple #[.pointer (some ⟨b, 0, none⟩), .bool true]) ∧ IX14 w' b n z A ∧ Below w.heap.size w w' := by
  have HN := pnew13 a z n cap w hs hnil hn hb
  have h24 : ¬ (16777216 : Int) < (n : Int) := by omega
  clear hs
  go_enter Try.func8, Try.ntmps8
  go_wp2_with (first
    | (go_at_call 24; refine HN.mono ?_; rintro e1 w1 ⟨b, da, dc, aa, ac, gb, gr, A, rfl, hI, B1, -⟩; clear HN))
  refine bodyPost_ret (results_tmp2 rfl _ _ _) rfl ?_
  exact ⟨b, A, rfl, ⟨da, dc, aa, ac, gb, gr, hI⟩, B1⟩
set_option maxRecDepth 100000 in
set_option maxHeartbeats 1000000 in
theorem pidxn14 (a : Option Addr) (n cap : Nat) (w : World) (hb : 16777216 < n) (hb2 : n ≤ 9223372036854775807) :
    Calls Try.prog 8 #[.slice a n cap] w fun e w' => e = .returned (.tuple #[.pointer none, .bool true]) ∧ w' = w := by
  have HN := pnewn13 a n cap w hb hb2
  have h24 : (16777216 : Int) < (n : Int) := by omega
  go_enter Try.func8, Try.ntmps8
  go_wp2_with (first
    | (go_at_call 24; refine HN.mono ?_; rintro e1 w1 ⟨rfl, hw1⟩; subst hw1; clear HN))
  refine bodyPost_ret (results_tmp2 rfl _ _ _) rfl ?_
  exact ⟨rfl, rfl⟩
open Classical in
theorem cn12_chk14 {P : Nat → Prop} (f : Nat → Bool) (h : ∀ i, P i ↔ f i = true) : ∀ n, cn12 P n = ((List.range n).filter f).length
  | 0 => rfl
  | n + 1 => by
    rw [List.range_succ, List.filter_append, List.length_append, ← cn12_chk14 f h n]
    show cn12 P n + _ = _
    by_cases c : P n
    · rw [if_pos c, List.filter_cons, if_pos ((h n).1 c)]; rfl
    · rw [if_neg c, List.filter_cons, if_neg (fun k => c ((h n).2 k))]; rfl
theorem lo14_chk (z p : List Int) : lo14 z p = ((List.range z.length).filter fun j => decide (cq14 (z.drop j) p < 0)).length :=
  cn12_chk14 _ (fun i => by rw [cq14_is, decide_eq_true_eq]) _
theorem hi14_chk (z p : List Int) : hi14 z p = ((List.range z.length).filter fun j => decide (cq14 (z.drop j) p ≤ 0)).length :=
  cn12_chk14 _ (fun i => by rw [cq14_is, decide_eq_true_eq]) _
set_option maxRecDepth 100000 in
set_option maxHeartbeats 1000000 in
theorem pawk14 (w : World) : Calls Try.prog 9 #[] w fun e w' => e = .returned (.bool true) ∧ Below w.heap.size w w' := by
  have B0 : Below w.heap.size w (w.alloc (.cells #[.int .u8 98, .int .u8 97, .int .u8 110, .int .u8 97, .int .u8 110, .int .u8 97] 5 (6, 7))) := (Below.refl _ _).alloc (Nat.le_refl _) _
  have hcv : (convert 22 22 (.slice (some ⟨w.heap.size, 0, none⟩) 6 6)).run Try.prog (w.alloc (.cells #[.int .u8 98, .int .u8 97, .int .u8 110, .int .u8 97, .int .u8 110, .int .u8 97] 5)) = .ok (.slice (some ⟨w.heap.size, 0, none⟩) 6 6) (w.alloc (.cells #[.int .u8 98, .int .u8 97, .int .u8 110, .int .u8 97, .int .u8 110, .int .u8 97] 5 (6, 7))) := Lib.run_convert_bytes_const (P := Try.prog) w 22 5 #[.int .u8 98, .int .u8 97, .int .u8 110, .int .u8 97, .int .u8 110, .int .u8 97] 6 6 Try.underlying22 Try.underlying5
  have HN := pnew13 (some ⟨w.heap.size, 0, none⟩) [98, 97, 110, 97, 110, 97] 6 6 _ (seg_lit13 w [98, 97, 110, 97, 110, 97] 5 (6, 7) (by decide)) (by intro h; cases h) rfl (by omega)
  have HLO : Hid (lo14 [98, 97, 110, 97, 110, 97] [97, 110] = 1) := by show _ = _; rw [lo14_chk]; rfl
  have HHI : Hid (hi14 [98, 97, 110, 97, 110, 97] [97, 110] = 3) := by show _ = _; rw [hi14_chk]; rfl
  have HC2 : Hid (∀ w1 : World, (convert 22 22 (.slice (some ⟨w1.heap.size, 0, none⟩) 2 2)).run Try.prog (w1.alloc (.cells #[.int .u8 97, .int .u8 110] 5)) = .ok (.slice (some ⟨w1.heap.size, 0, none⟩) 2 2) (w1.alloc (.cells #[.int .u8 97, .int .u8 110] 5 (2, 3)))) := fun w1 => Lib.run_convert_bytes_const (P := Try.prog) w1 22 5 #[.int .u8 97, .int .u8 110] 2 2 Try.underlying22 Try.underlying5
  go_enter Try.func9, Try.ntmps9
  go_wp2_with (first
    | (go_at_call 24; refine HN.mono ?_; rintro e1 w1 ⟨b, da, dc, aa, ac, gb, gr, A, rfl, hI, B1, -⟩; clear HN hcv; have hc2 := HC2.out w1)
    | (go_at_call 11; fail))
  have B1' := B0.trans (B1.mono B0.size)
  have B2 : Below w1.heap.size w1 (w1.alloc (.cells #[.int .u8 97, .int .u8 110] 5 (2, 3))) := (Below.refl _ _).alloc (Nat.le_refl _) _
  have HR := prange14 b 6 [98, 97, 110, 97, 110, 97] A (some ⟨w1.heap.size, 0, none⟩) [97, 110] 2 2 _ ⟨da, dc, aa, ac, gb, gr, hI.old B2⟩ (seg_lit13 w1 [97, 110] 5 (2, 3) (by decide)) rfl (by omega)
  rw [HLO.out, HHI.out] at HR
  refine HR.mono ?_
  rintro e2 w2 ⟨rfl, B3⟩
  clear HR hI
  go_wp2_with fail
  go_ret
  have S1 := B1'.size
  have S2 := B2.size
  exact ⟨by first | rfl | simp, (B1'.trans (B2.mono (by omega))).trans (B3.mono (by omega))⟩
end Go.Proofs.Ytidcdbdlaonoeaa
