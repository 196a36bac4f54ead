import Derived.Test.YtppjcgkgemhilaaWritesW
namespace Go.Proofs.Ytppjcgkgemhilaa
open Go.RowKit
set_option linter.unusedVariables false

set_option maxRecDepth 100000 in
set_option maxHeartbeats 8000000 in
theorem bitsWrites_walk (w : World) (a : Option Addr) (n cap : Nat) (C V N : Nat → Int) (Ba : Nat → Option Addr) (P : Nat → List Int) (Bc : Nat → Nat) (hs : SegO w a n C V N Ba P Bc) (hn : n ≤ 1073741824) (htot : tot P n ≤ 1073741824) :
    Calls Try.prog 4 #[.slice a n cap] w fun e w' => e = .returned (.bool true) ∧ Below w.heap.size w w' := by
  obtain ⟨b1, hb1⟩ : ∃ b, b = w.heap.size := ⟨_, rfl⟩
  obtain ⟨b2, hb2⟩ : ∃ b, b = w.heap.size + 1 := ⟨_, rfl⟩
  obtain ⟨b3, hb3⟩ : ∃ b, b = w.heap.size + 1 + 1 := ⟨_, rfl⟩
  obtain ⟨b4, hb4⟩ : ∃ b, b = w.heap.size + 1 + 1 + 1 := ⟨_, rfl⟩
  obtain ⟨B, hB⟩ : ∃ b, b = w.heap.size + 4 := ⟨_, rfl⟩
  obtain ⟨wa, hwa⟩ : ∃ wa, wa = w.alloc (.cells #[.slice none 0 0, .int .u64 0, .int .i64 0] 29) := ⟨_, rfl⟩
  obtain ⟨wb, hwb⟩ : ∃ wb, wb = wa.alloc (.cells #[.slice none 0 0, .int .u64 0, .int .i64 0] 29) := ⟨_, rfl⟩
  obtain ⟨wc, hwc⟩ : ∃ wc, wc = wb.alloc (.cells #[.slice none 0 0] 32) := ⟨_, rfl⟩
  obtain ⟨wd, hwd⟩ : ∃ wd, wd = wc.alloc (.cells #[.slice none 0 0] 32) := ⟨_, rfl⟩
  have sa : wa.heap.size = w.heap.size + 1 := by rw [hwa]; simp
  have sb : wb.heap.size = w.heap.size + 1 + 1 := by rw [hwb]; simp [sa]
  have sc : wc.heap.size = w.heap.size + 1 + 1 + 1 := by rw [hwc]; simp [sb]
  have sd : wd.heap.size = w.heap.size + 4 := by rw [hwd]; simp [sc]
  have ga : Below w.heap.size w wa := by rw [hwa]; exact (Below.refl _ _).alloc (Nat.le_refl _) _
  have gb : Below wa.heap.size wa wb := by rw [hwb]; exact (Below.refl _ _).alloc (Nat.le_refl _) _
  have gc : Below wb.heap.size wb wc := by rw [hwc]; exact (Below.refl _ _).alloc (Nat.le_refl _) _
  have gd : Below wc.heap.size wc wd := by rw [hwd]; exact (Below.refl _ _).alloc (Nat.le_refl _) _
  have i1 : WrL wd b1 B (.slice none 0 0) [] := WrL.new (by rw [gd.block b1 (by omega), gc.block b1 (by omega), gb.block b1 (by omega), hwa, hb1]; exact heap_new _ _) (by omega)
  have i2 : WrL wd b2 B (.slice none 0 0) [] := WrL.new (by rw [gd.block b2 (by omega), gc.block b2 (by omega), hwb, hb2, ← sa]; exact heap_new _ _) (by omega)
  have i3 : RwL wd b3 B (.slice none 0 0) [] := RwL.new (by rw [gd.block b3 (by omega), hwc, hb3, ← sb]; exact heap_new _ _) (by omega)
  have i4 : RwL wd b4 B (.slice none 0 0) [] := RwL.new (by rw [hwd, hb4, ← sc]; exact heap_new _ _) (by omega)
  have two0 : Two wd b1 b3 b2 b4 B (.slice none 0 0) (.slice none 0 0) (.slice none 0 0) (.slice none 0 0) [] [] := ⟨⟨i1, i3, ap_nil⟩, ⟨i2, i4, ap_nil⟩, ap_nil, ap_nil, ap_nil, ap_nil⟩
  have hT0 : Below w.heap.size w wd := ga.trans ((gb.mono (by omega)).trans ((gc.mono (by omega)).trans (gd.mono (by omega))))
  have HW : Hid (wd = (((w.alloc (.cells #[.slice none 0 0, .int .u64 0, .int .i64 0] 29)).alloc (.cells #[.slice none 0 0, .int .u64 0, .int .i64 0] 29)).alloc (.cells #[.slice none 0 0] 32)).alloc (.cells #[.slice none 0 0] 32)) := by show _ = _; rw [hwd, hwc, hwb, hwa]
  have HX1 : Hid (b1 = w.heap.size) := hb1
  have HX2 : Hid (b2 = w.heap.size + 1) := hb2
  have HX3 : Hid (b3 = w.heap.size + 1 + 1) := hb3
  have HX4 : Hid (b4 = w.heap.size + 1 + 1 + 1) := hb4
  have hne1 : b2 ≠ b1 ∧ b2 ≠ b3 ∧ b4 ≠ b1 ∧ b4 ≠ b3 := by omega
  have hne2 : b1 ≠ b2 ∧ b1 ≠ b4 ∧ b3 ≠ b2 ∧ b3 ≠ b4 := by omega
  have hB1 : b1 < B ∧ b3 < B ∧ b2 < B ∧ b4 < B := by omega
  have hB2 : b2 < B ∧ b4 < B ∧ b1 < B ∧ b3 < B := by omega
  have hN1 : w.heap.size ≤ b1 ∧ w.heap.size ≤ b3 ∧ w.heap.size ≤ B := by omega
  have hN2 : w.heap.size ≤ b2 ∧ w.heap.size ≤ b4 ∧ w.heap.size ≤ B := by omega
  have h13 : b1 ≠ b3 := by omega
  have h24 : b2 ≠ b4 := by omega
  clear hwa hwb hwc hwd sa sb sc sd ga gb gc gd i1 i2 i3 i4 hb1 hb2 hb3 hb4 hB
  go_enter Try.func4, Try.ntmps4
  go_wp2
  rw [← HW.out, ← HX4.out, ← HX3.out, ← HX2.out, ← HX1.out]
  go_loopw [11] (fun ti wr => ∃ (i : Nat) (v1 u1 v2 u2 : Value), i ≤ n ∧ ti = .int .i64 (i : Int) ∧ Two wr b1 b3 b2 b4 B v1 u1 v2 u2 (LS C V N P i) (LO C V N P i) ∧ Below w.heap.size w wr) (fun ti _ => n - (intOf ti).toNat)
  case atStart => exact ⟨0, _, _, _, _, Nat.zero_le _, rfl, two0, hT0⟩
  case round =>
    obtain ⟨i, v1, u1, v2, u2, hi, rfl, tw, hT⟩ := hrel
    clear two0 hT0 HW HX1 HX2 HX3 HX4
    have hLS := LS_le C V N P i
    have hLO := LO_le C V N P i
    have hti := tot_mono P i n hi
    have hLS2 : (LS C V N P i).length ≤ 1073741824 := by omega
    have hLO2 : (LO C V N P i).length ≤ 1073741824 := by omega
    by_cases hlt : i < n
    · have hlt2 : (i : Int) < (n : Int) := by omega
      have hP : (P i).length ≤ 1073741824 := by
        have := tot_mono P (i + 1) n hlt
        simp only [tot] at this
        omega
      obtain ⟨ob, oo, rfl, c0, c1, c2, c3⟩ := (hs.old hT).at_ i hlt
      have hbd := hs.bd i hlt
      have hseg := hs.seg i hlt
      have hnil := hs.nil i hlt
      have HS1 : Hid (LS C V N P (i + 1) = stepL (LS C V N P i) (C i) (V i).toNat (N i) (P i)) := rfl
      have HS2 : Hid (LO C V N P (i + 1) = if i % 3 = 0 then stepL (LO C V N P i) (C i) (V i).toNat (N i) (P i) else LO C V N P i) := rfl
      obtain ⟨x, hx⟩ : ∃ x : Nat, V i = x := ⟨(V i).toNat, by omega⟩
      have hx64 : x < 18446744073709551616 := by omega
      rw [hx] at c1 HS1 HS2
      rw [Int.toNat_natCast] at HS1 HS2
      have hm0 := hbd.2.2.2.2.1
      have hm1 := hbd.2.2.2.2.2
      clear hx hbd hs hLS hLO hti
      generalize C i = c at *
      generalize N i = m at *
      generalize P i = p at *
      generalize Ba i = ba at *
      generalize Bc i = bc at *
      generalize LS C V N P i = L at *
      generalize LO C V N P i = M at *
      obtain ⟨wA, hwA⟩ : ∃ wA, wA = wr.alloc (.cells #[.int .i64 c, .int .u64 (x : Int), .int .i64 m, .slice ba p.length bc] 34) := ⟨_, rfl⟩
      have bA : Below wr.heap.size wr wA := by rw [hwA]; exact (Below.refl _ _).alloc (Nat.le_refl _) _
      have hA : wA.heap[wr.heap.size]? = some (.cells #[.int .i64 c, .int .u64 (x : Int), .int .i64 m, .slice ba p.length bc] 34 (0, 0)) := by rw [hwA]; exact heap_new wr _
      have HWA : Hid (wA = wr.alloc (.cells #[.int .i64 c, .int .u64 (x : Int), .int .i64 m, .slice ba p.length bc] 34)) := hwA
      obtain ⟨fb, hfb⟩ : ∃ fb, fb = wr.heap.size := ⟨_, rfl⟩
      have HFB : Hid (fb = wr.heap.size) := hfb
      rw [← hfb] at hA
      have twA := tw.old bA
      have hTA := hT.trans (bA.mono hT.size)
      have sA : Seg wA ba p := hseg.old hTA
      have CW := writes_any b1 b3 B w.heap.size v1 u1 L c x m wA twA.p1 h13 hB1.1 hB1.2.1 hx64 hm0 hm1 ba p bc sA hnil hseg.lt hN1.1 hN1.2.1 hLS2 hP
      have hPSfb : ¬ PS b1 b3 v1 u1 fb := by
        have hv := tw.p1.g.own_lt
        have hu := tw.p1.x.own_lt
        have hbl := tw.p1.g.b_lt
        have hxl := tw.p1.x.b_lt
        rintro ((e | e) | (e | e))
        · omega
        · have := (hv fb e).2.1; omega
        · omega
        · have := (hu fb e).2.1; omega
      obtain ⟨k0, k1, k2, k3⟩ := four_cell hA
      clear hwA hfb tw
      go_wp2_with fail
      rw [← HWA.out, ← HFB.out]
      refine CW.mono ?_
      rintro e wP ⟨rfl, hD⟩
      have hst := twA.step hD hne1 hB1 hN1
      have hA2 : wP.heap[fb]? = some (.cells #[.int .i64 c, .int .u64 (x : Int), .int .i64 m, .slice ba p.length bc] 34 (0, 0)) := by
        obtain ⟨_, _, _, hk, _, _⟩ := hD
        exact hk.heap hA hPSfb
      obtain ⟨⟨v1', u1', twP⟩, bP⟩ := hst
      have hTP := hTA.trans bP
      have sP : Seg wP ba p := hseg.old hTP
      obtain ⟨q0, q1, q2, q3⟩ := four_cell hA2
      clear CW hD hA hA2 k0 k1 k2 k3 twA sA
      by_cases h3 : i % 3 = 0
      · have h3I : ((i : Int) % 3 == 0) = true := by simp; omega
        rw [if_pos h3] at HS2
        have CX := writes_any b2 b4 B w.heap.size v2 u2 M c x m wP twP.p2 h24 hB2.1 hB2.2.1 hx64 hm0 hm1 ba p bc sP hnil hseg.lt hN2.1 hN2.2.1 hLO2 hP
        go_wp2_with fail
        refine CX.mono ?_
        rintro e wR ⟨rfl, hD⟩
        obtain ⟨⟨v2', u2', twR⟩, bR⟩ := twP.swap.step hD hne2 hB2 hN2
        clear CX hD q0 q1 q2 q3
        go_wp2
        go_roundw
        case rel => exact ⟨i + 1, v1', u1', v2', u2', by omega, by go_num, by rw [HS1.out, HS2.out]; exact twR.swap, hTP.trans bR⟩
        case measure => simp [intOf]; omega
      · have h3I : ((i : Int) % 3 == 0) = false := by simp; omega
        rw [if_neg h3] at HS2
        go_wp2
        go_roundw
        case rel => exact ⟨i + 1, v1', u1', v2, u2, by omega, by go_num, by rw [HS1.out, HS2.out]; exact twP, hTP⟩
        case measure => simp [intOf]; omega
    · have hge : (n : Int) ≤ (i : Int) := by omega
      clear hlt hi hLS hLO hti
      generalize LS C V N P i = L at *
      generalize LO C V N P i = M at *
      have C1 := writes_look b1 b3 B v1 u1 L 4 0 0 wr tw.p1 (by decide) hLS2 none 0 0
      go_wp2_with fail
      refine C1.mono ?_
      rintro e wP ⟨rfl, hD⟩
      obtain ⟨⟨v1', u1', twP⟩, bP⟩ := tw.step hD hne1 hB1 hN1
      have C2 := writes_look b2 b4 B v2 u2 M 4 0 0 wP twP.p2 (by decide) hLO2 none 0 0
      clear C1 hD
      go_wp2_with fail
      refine C2.mono ?_
      rintro e wR ⟨rfl, hD⟩
      obtain ⟨⟨v2', u2', twR⟩, bR⟩ := twP.swap.step hD hne2 hB2 hN2
      have hTR := hT.trans (bP.trans bR)
      clear C2 hD
      go_wp2_with fail
      refine (lives_any _).mono ?_
      rintro e wl ⟨rfl, bl⟩
      go_wp2
      go_ret
      exact ⟨rfl, hTR.trans (bl.mono hTR.size)⟩
end Go.Proofs.Ytppjcgkgemhilaa
