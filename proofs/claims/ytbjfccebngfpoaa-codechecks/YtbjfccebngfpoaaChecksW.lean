
import Derived.Test.YtbjfccebngfpoaaCdS
import Derived.Test.YtbjfccebngfpoaaCdQ
namespace Go.Proofs.Ytbjfccebngfpoaa
open Go.RowKit
set_option linter.unusedVariables false

theorem seg_fives (w : World) : SegZ (w.alloc (.cells #[.int .i64 5, .int .i64 5, .int .i64 5] 3)) (some ⟨w.heap.size, 0, none⟩) [5, 5, 5] := by
  refine ⟨fun i hi => ⟨w.heap.size, 0, rfl, ?_⟩, getD_bdz (by intro z hz; simp at hz; omega)⟩
  simp only [List.length_cons, List.length_nil] at hi
  match i, hi with
  | 0, _ => simp
  | 1, _ => simp
  | 2, _ => simp
theorem cdsR_bd (zs : List Int) : ∀ z ∈ cdsR zs, -9223372036854775808 ≤ z ∧ z ≤ 9223372036854775807 := by
  unfold cdsR
  split
  · rename_i h
    exact cds_bd h
  · intro z hz
    simp at hz
theorem cdsR_len (zs : List Int) : (cdsR zs).length ≤ 288 := by
  unfold cdsR
  split
  · rename_i h
    rw [cds_len]
    exact (errS_zero (errC_zero h).1).1
  · simp

set_option maxRecDepth 100000 in
set_option maxHeartbeats 2000000 in
theorem codeChecks_walk (w : World) (a : Option Addr) (zs : List Int) (ca : Nat) (hs : SegZ w a zs) (hc : zs.length ≤ ca) (hn : a = none → ca = 0) (hl : zs.length * 8 ≤ 140737488351232) :
    Calls Try.prog 5 #[.slice a zs.length ca] w fun e w' => e = .returned (.bool true) ∧ Below w.heap.size w w' := by
  obtain ⟨i0, hi, hz0, hz1, hz2⟩ := info_parts info_int
  obtain ⟨n, hnn⟩ : ∃ n, n = zs.length := ⟨_, rfl⟩
  have HN : Hid (zs.length = n) := hnn.symm
  have C1 := lend5_any a zs ca w hs hn hl
  rw [← hnn] at hl C1 ⊢
  clear hnn
  have hbd := lent5_bd hs.mem
  have HLL : Hid ((lent5 zs).length = n + 3) := by show _ = _; simp [lent5, HN.out]
  go_enter Try.func5, Try.ntmps5
  go_wp2_with fail
  refine C1.mono ?_
  rintro e w1 ⟨g1, c1, rfl, O1, hc1, B1⟩
  have S1 := own_segZ O1 hbd
  have P1 : SegZ w1 (some ⟨g1, 0, none⟩) zs := S1.left
  rw [HN.out, HLL.out]
  clear O1
  go_wp2_with fail
  refine (spaceF_any (some ⟨g1, 0, none⟩) zs n c1 HN w1 P1 (by omega)).mono ?_
  rintro e w2 ⟨rfl, B2⟩
  have x2 : Below w.heap.size w w2 := B1.trans (B2.mono B1.size)
  go_wp2_with fail
  refine (rspace_any a zs n ca HN w2 (hs.old x2) (by omega)).mono ?_
  rintro e w2' ⟨rfl, hw2⟩
  subst w2'
  go_wp2_with fail
  have P2 := P1.old B2
  refine (codes_any (some ⟨g1, 0, none⟩) zs n c1 HN w2 P2 (by omega)).mono ?_
  rintro e w3 ⟨b3, c3, rfl, O3, B3⟩
  go_wp2_with fail
  have P3 := P2.old B3
  refine (codes_any (some ⟨g1, 0, none⟩) zs n c1 HN w3 P3 (by omega)).mono ?_
  rintro e w4 ⟨b4, c4, rfl, O4, B4⟩
  have x3 : Below w.heap.size w w3 := x2.trans (B3.mono x2.size)
  have x4 : Below w.heap.size w w4 := x3.trans (B4.mono x3.size)
  go_wp2_with fail
  refine (rcodes_any a zs n ca HN w4 (hs.old x4) (by omega)).mono ?_
  rintro e w5 ⟨b5, c5, rfl, O5, B5⟩
  have x5 : Below w.heap.size w w5 := x4.trans (B5.mono x4.size)
  have hm := cdsR_len zs
  have HMB := cdsR_bd zs
  obtain ⟨m, hmm⟩ : ∃ m, m = (cdsR zs).length := ⟨_, rfl⟩
  have HM : Hid (m = (cdsR zs).length) := hmm
  rw [← hmm] at O3 O4 O5 hm ⊢
  clear hmm
  generalize spcR zs = sp at *
  go_wp2_with fail
  have P5 : SegZ w5 (some ⟨g1, 0, none⟩) zs := (P3.old B4).old B5
  have S5 : SegZ w5 (some ⟨g1, 0, none⟩) (lent5 zs) := (((S1.old B2).old B3).old B4).old B5
  refine (check_any (some ⟨g1, 0, none⟩) zs n c1 HN w5 P5 (by omega)).mono ?_
  rintro e w6 ⟨rfl, B6⟩
  have x6 : Below w.heap.size w w6 := x5.trans (B6.mono x5.size)
  go_wp2_with fail
  refine (rcheck_any a zs n ca HN w6 (hs.old x6) (by omega)).mono ?_
  rintro e w6' ⟨rfl, hw6⟩
  subst w6'
  have O3' := own_below (own_below (own_below O3 B4) B5) B6
  have O4' := own_below (own_below O4 B5) B6
  have O5' := own_below O5 B6
  have Z3 := own_segZ O3' HMB
  have Z4 := own_segZ O4' HMB
  have Z5 := own_segZ O5' HMB
  have CS := same5_any b3 b5 (cdsR zs) (cdsR zs) c3 c5 w6 Z3 Z5 (by rw [← HM.out]; omega) (by rw [← HM.out]; omega)
  rw [← HM.out] at CS
  have et : (cdsR zs == cdsR zs) = true := by simp
  rw [et] at CS
  go_wp2_with fail
  refine CS.mono ?_
  rintro e w7 ⟨rfl, B7⟩
  have x7 : Below w.heap.size w w7 := x6.trans (B7.mono x6.size)
  have CK := kept5_any (some ⟨g1, 0, none⟩) (lent5 zs) c1 a zs ca w7 ((S5.old B6).old B7) (hs.old x7) hn (by rw [HN.out]; exact hl) (by rw [HLL.out]; omega)
  rw [HLL.out, HN.out] at CK
  have et2 : (lent5 zs == lent5 zs) = true := by simp
  rw [et2] at CK
  go_wp2_with fail
  refine CK.mono ?_
  rintro e w8 ⟨rfl, B8⟩
  have x8 : Below w.heap.size w w8 := x7.trans (B8.mono x7.size)
  have O38 := own_below (own_below O3' B7) B8
  have Z48 := (Z4.old B7).old B8
  have Z58 := (Z5.old B7).old B8
  have hb4 := own_blk (own_below (own_below O4' B7) B8)
  have hb5 := own_blk (own_below (own_below O5' B7) B8)
  have hb3 := own_blk O3
  have HAP : Hid ((∀ x y, b3 = some x → b4 = some y → x.block < y.block) ∧ (∀ x y, b3 = some x → b5 = some y → x.block < y.block) ∧ (∀ x, b3 = some x → w.heap.size ≤ x.block)) := by
    refine ⟨fun x y hx hy => ?_, fun x y hx hy => ?_, fun x hx => ?_⟩
    · have h1 := hb3 x hx; have h2 := hb4 y hy; omega
    · have h1 := hb3 x hx; have h2 := hb5 y hy; have h3 := B4.size; omega
    · have h1 := hb3 x hx; have h2 := x2.size; omega
  clear O3 O4 O5 O3' O4' O5' Z3 Z4 Z5 hb3 hb4 hb5 CS CK et et2 S5 P5 P3 P2 P1 S1 C1
  go_wp2_with fail
  go_loopw [80] (fun tj wr => ∃ (j : Nat) (A : List Int), j ≤ m ∧ Hid (A.length = m) ∧ tj = .int .i64 (j : Int) ∧ wr.ownsRow w.heap.size 3 1 (.slice b3 m c3) m (A.map (Value.int .i64)) ∧ SegZ wr b4 (cdsR zs) ∧ SegZ wr b5 (cdsR zs) ∧ Below w.heap.size w wr) (fun tj _ => m - (intOf tj).toNat)
  case atStart => exact ⟨0, cdsR zs, by omega, HM.out.symm, rfl, own_base O38 x2.size, Z48, Z58, x8⟩
  case round =>
    obtain ⟨j, A, hj, HA, rfl, OJ, Y4, Y5, BJ⟩ := hrel
    clear O38 Z48 Z58 x8
    by_cases hjm : j < m
    · have hji : (j : Int) < (m : Int) := by omega
      obtain ⟨g3, c3', hv, hc3, _, _⟩ := own_shape OJ (by omega)
      simp only [Value.slice.injEq] at hv
      obtain ⟨rfl, _, rfl⟩ := hv
      obtain ⟨a0, fz⟩ := own_cell1 OJ (i := j) (by have := HA.out; omega)
      have f0 := fz j
      obtain ⟨OS, GS⟩ := OJ.stored j (.int .i64 (-1))
      rw [← List.map_set] at OS
      have HOS : Hid _ := OS
      have HB : Hid _ := BJ.grown GS BJ.size (fun k hk => by cases hk; exact HAP.out.2.2 _ rfl)
      have H4 : Hid _ := Y4.kp (S := fun k => k = g3) (Kp.grown GS (fun i hi => by cases hi; rfl)) (fun b off hb _ e => by have := HAP.out.1 _ _ rfl hb; simp at this; omega)
      have H5 : Hid _ := Y5.kp (S := fun k => k = g3) (Kp.grown GS (fun i hi => by cases hi; rfl)) (fun b off hb _ e => by have := HAP.out.2.1 _ _ rfl hb; simp at this; omega)
      have HA2 : Hid ((A.set j (-1)).length = m) := by show _ = _; rw [List.length_set]; exact HA.out
      clear OS GS fz
      generalize A.getD j 0 = zz at *
      go_wp2_with fail
      go_roundw
      case rel => exact ⟨j + 1, A.set j (-1), by omega, HA2, by go_num, HOS.out, H4.out, H5.out, HB.out⟩
      case measure => simp [intOf]; omega
    · obtain rfl : j = m := by omega
      have hwr := BJ.size
      have CS := same5_any b4 b5 (cdsR zs) (cdsR zs) c4 c5
      rw [← HM.out] at CS
      have et : (cdsR zs == cdsR zs) = true := by simp
      rw [et] at CS
      have HCS : Hid _ := CS
      clear CS et
      go_wp2_with (first
        | (at_builtin; refine wpList_appZ rfl (.tmp 87) (.tmp 88) 22 rfl w.heap.size 3 i0 (.int .i64 0) 8 Try.underlying22 hi hz0 hz1 hz2 rfl (OJ.alloc _) (seg_fives wr) (by intro h; cases h) rfl rfl (by simp; omega) (by simp; omega) (by simp; omega) ?_; intro a9 c9 w9 hown9 hg9 hf9 hn9; clear hf9 hn9))
      have hB9 : Below w.heap.size w w9 := (BJ.alloc hwr (.cells #[.int .i64 5, .int .i64 5, .int .i64 5] 3)).trans (below_own (OJ.alloc _) hg9 (by simp; omega))
      have k9 : Kp (fun k => (Value.slice b3 j c3).ownBlock = some k) (wr.alloc (.cells #[.int .i64 5, .int .i64 5, .int .i64 5] 3)) w9 := Kp.grown hg9 (fun i hi => hi)
      have Q4 : SegZ w9 b4 (cdsR zs) := (Y4.alloc _).kp k9 (fun b off hb _ e => by
        cases b3 with
        | none => simp [Value.ownBlock] at e
        | some x => simp [Value.ownBlock] at e; have := HAP.out.1 x _ rfl hb; simp at this; omega)
      have Q5 : SegZ w9 b5 (cdsR zs) := (Y5.alloc _).kp k9 (fun b off hb _ e => by
        cases b3 with
        | none => simp [Value.ownBlock] at e
        | some x => simp [Value.ownBlock] at e; have := HAP.out.2.1 x _ rfl hb; simp at this; omega)
      clear k9 hg9 hown9 OJ Y4 Y5
      refine (HCS.out w9 Q4 Q5 (by omega) (by omega)).mono ?_
      rintro e wA ⟨rfl, BA⟩
      go_wp2_with fail
      refine (lives5_any _).mono ?_
      rintro e wB ⟨rfl, BB⟩
      go_wp2_with fail
      go_ret
      exact ⟨rfl, hB9.trans ((BA.mono hB9.size).trans (BB.mono (by have := hB9.size; have := BA.size; omega)))⟩
end Go.Proofs.Ytbjfccebngfpoaa
