import Derived.Test.YtppjcgkgemhilaaBackM
namespace Go.Proofs.Ytppjcgkgemhilaa
open Go.RowKit
set_option linter.unusedVariables false

set_option maxRecDepth 100000 in
set_option maxHeartbeats 8000000 in
theorem bitsBack_walk (w : World) (fa : Option Addr) (n fc : Nat) (V N : Nat → Int) (Hi : Nat → Bool) (hs : SegF w fa n V N Hi) (hl : n ≤ 5864062014634) (pa : Option Addr) (ps : List Int) (pc : Nat) (hp : SegI w pa ps) (hpl : ps.length ≤ 17592186043904) :
    Calls Try.prog 7 #[.slice fa n fc, .slice pa ps.length pc] w fun e w' => e = .returned (.bool true) ∧ Below w.heap.size w w' := by
  obtain ⟨b, hb⟩ : ∃ b, b = w.heap.size := ⟨_, rfl⟩
  obtain ⟨B, hB⟩ : ∃ b, b = w.heap.size + 1 := ⟨_, rfl⟩
  obtain ⟨w0, hw0⟩ : ∃ w0, w0 = w.alloc (.cells #[.slice none 0 0, .int .u64 0, .int .i64 0] 29) := ⟨_, rfl⟩
  have hT0 : Below w.heap.size w w0 := by rw [hw0]; exact (Below.refl _ _).alloc (Nat.le_refl _) _
  have i0 : WrL w0 b B (.slice none 0 0) [] := WrL.new (by rw [hw0, hb]; exact heap_new _ _) (by rw [hw0]; simp; omega)
  have HB : Hid (b = w.heap.size) := hb
  have HBB : Hid (B = w.heap.size + 1) := hB
  have HW : Hid (w0 = w.alloc (.cells #[.slice none 0 0, .int .u64 0, .int .i64 0] 29)) := hw0
  have hNb : w.heap.size ≤ b := by omega
  have hNB : w.heap.size ≤ B := by omega
  clear hb hB hw0
  go_enter Try.func7, Try.ntmps7
  go_wp2
  rw [← HW.out, ← HB.out]
  go_loopw [6, 27] (fun tt ti wr => ∃ (i : Nat) (v : Value), i ≤ n ∧ ti = .int .i64 (i : Int) ∧ tt = .int .i64 ((FB V N Hi i).length : Int) ∧ WrL wr b B v (FB V N Hi i) ∧ Below w.heap.size w wr) (fun _ ti _ => n - (intOf ti).toNat)
  case atStart => exact ⟨0, _, Nat.zero_le _, rfl, rfl, i0, hT0⟩
  case round =>
    obtain ⟨i, v, hi, rfl, rfl, g0, hT⟩ := hrel
    clear i0 hT0 HW
    have hFl := FB_len_le V N Hi i
    by_cases hlt : i < n
    · have hlt2 : (i : Int) < (n : Int) := by omega
      obtain ⟨fb', fo, rfl, c0, c1, c2⟩ := (hs.old hT).at_ i hlt
      have hbd := hs.bd i hlt
      have hF1 : FB V N Hi (i + 1) = FB V N Hi i ++ fb (V i).toNat (fitN (N i)) (Hi i) := rfl
      have HF1 : Hid (FB V N Hi (i + 1) = FB V N Hi i ++ fb (V i).toNat (fitN (N i)) (Hi i)) := hF1
      have FT : Hid (∀ W, Calls Try.prog 14 #[.int .i64 (N i)] W fun e w' => e = .returned (.int .i64 (fitN (N i) : Int)) ∧ w' = W) := fun W => fit_any (N i) W hbd.2.2.1 hbd.2.2.2
      have hk := fit_le (N i)
      obtain ⟨x, hx⟩ : ∃ x : Nat, V i = x := ⟨(V i).toNat, by omega⟩
      have hx64 : x < 18446744073709551616 := by omega
      rw [hx] at c0 HF1
      rw [Int.toNat_natCast] at HF1
      clear hF1 hx hbd hs
      generalize N i = m at *
      generalize fitN m = k at *
      generalize FB V N Hi i = L at *
      have hmask : bits .and .u64 (x : Int) (IntKind.u64.wrap (IntKind.u64.wrap (2 ^ k) - 1)) = ((x % 2 ^ k : Nat) : Int) := by rw [wrap_mask (by omega), and_low x k (by omega) hx64]
      have hmlt : x % 2 ^ k < 2 ^ k := Nat.mod_lt _ (Nat.two_pow_pos k)
      have hmb : Hid (bN (x % 2 ^ k) k = bN x k) := bN_mod x k
      generalize hy : x % 2 ^ k = y at *
      clear hy
      cases hh : Hi i
      · rw [hh] at c2 HF1
        clear hh
        have kA : Kp (fun _ => False) wr (wr.alloc (.cells #[.int .u64 (x : Int), .int .i64 m, .bool false] 51)) := Kp.alloc _ _
        have g1 := g0.kp kA (by simp) (by simp)
        have hA := heap_new wr (.cells #[.int .u64 (x : Int), .int .i64 m, .bool false] 51)
        have a0 := three_cell0 hA
        have a1 := three_cell1 hA
        have a2 := three_cell2 hA
        go_wp2_with fail
        refine (FT.out _).mono ?_
        rintro e w1 ⟨rfl, hw1⟩
        subst w1
        have hTA := hT.trans ((Below.refl w.heap.size wr).alloc hT.size (.cells #[.int .u64 (x : Int), .int .i64 m, .bool false] 51))
        generalize wr.alloc (.cells #[.int .u64 (x : Int), .int .i64 m, .bool false] 51) = wA at *
        generalize wr.heap.size = fblk at *
        go_wp2_with fail
        go_region
        have kQ : Kp (fun _ => False) wA wA.drew := (Kp.refl _ _).drew
        have g2 := g1.kp kQ (by simp) (by simp)
        have hTQ : Below w.heap.size w wA.drew := hTA.drew
        have e2 : wA.drew.cell? ⟨fblk, 2, none⟩ = some (.bool false) := a2
        generalize wA.drew = wQ at *
        clear a0 a1 a2 hA g1 kA kQ hTA
        go_wp2_with fail
        refine (put_ok b B v L y k wQ g2 hmlt hk (by omega)).mono ?_
        rintro e wP ⟨rfl, v2, g3, kP, fP⟩
        have hTP := hTQ.trans (g2.below kP hNb hNB)
        have g4 : WrL wP b B v2 (FB V N Hi (i + 1)) := by
          rw [HF1.out]
          unfold fb
          rw [hmb.out] at g3
          exact g3
        have hlen : (FB V N Hi (i + 1)).length = L.length + k := by rw [HF1.out, List.length_append, fb_len]
        have hlenI : ((FB V N Hi (i + 1)).length : Int) = (L.length : Int) + (k : Int) := by omega
        have HL2 : Hid (((FB V N Hi (i + 1)).length : Int) = (L.length : Int) + (k : Int)) := hlenI
        have CL := len_any b B v2 _ wP g4 (by omega)
        rw [hlenI] at CL
        clear hlen hlenI g3 HF1
        go_wp2_with fail
        refine CL.mono ?_
        rintro e wL ⟨rfl, bL⟩
        have g5 := g4.kp (S := fun _ => False) (Kp.of_below bL) (by simp) (by simp)
        go_wp2
        go_roundw
        case rel => exact ⟨i + 1, v2, by omega, by go_num, by rw [HL2.out], g5, hTP.trans (bL.mono hTP.size)⟩
        case measure => simp [intOf]; omega
      · rw [hh] at c2 HF1
        clear hh
        have kA : Kp (fun _ => False) wr (wr.alloc (.cells #[.int .u64 (x : Int), .int .i64 m, .bool true] 51)) := Kp.alloc _ _
        have g1 := g0.kp kA (by simp) (by simp)
        have hA := heap_new wr (.cells #[.int .u64 (x : Int), .int .i64 m, .bool true] 51)
        have a0 := three_cell0 hA
        have a1 := three_cell1 hA
        have a2 := three_cell2 hA
        go_wp2_with fail
        refine (FT.out _).mono ?_
        rintro e w1 ⟨rfl, hw1⟩
        subst w1
        have hTA := hT.trans ((Below.refl w.heap.size wr).alloc hT.size (.cells #[.int .u64 (x : Int), .int .i64 m, .bool true] 51))
        generalize wr.alloc (.cells #[.int .u64 (x : Int), .int .i64 m, .bool true] 51) = wA at *
        generalize wr.heap.size = fblk at *
        go_wp2_with fail
        go_region
        have kQ : Kp (fun _ => False) wA wA.drew := (Kp.refl _ _).drew
        have g2 := g1.kp kQ (by simp) (by simp)
        have hTQ : Below w.heap.size w wA.drew := hTA.drew
        have e2 : wA.drew.cell? ⟨fblk, 2, none⟩ = some (.bool true) := a2
        generalize wA.drew = wQ at *
        clear a0 a1 a2 hA g1 kA kQ hTA
        go_wp2_with fail
        refine (turned_ok b B v L y k wQ g2 hmlt hk (by omega)).mono ?_
        rintro e wP ⟨rfl, v2, g3, kP, fP⟩
        have hTP := hTQ.trans (g2.below kP hNb hNB)
        have g4 : WrL wP b B v2 (FB V N Hi (i + 1)) := by
          rw [HF1.out]
          unfold fb
          rw [hmb.out] at g3
          exact g3
        have hlen : (FB V N Hi (i + 1)).length = L.length + k := by rw [HF1.out, List.length_append, fb_len]
        have hlenI : ((FB V N Hi (i + 1)).length : Int) = (L.length : Int) + (k : Int) := by omega
        have HL2 : Hid (((FB V N Hi (i + 1)).length : Int) = (L.length : Int) + (k : Int)) := hlenI
        have CL := len_any b B v2 _ wP g4 (by omega)
        rw [hlenI] at CL
        clear hlen hlenI g3 HF1
        go_wp2_with fail
        refine CL.mono ?_
        rintro e wL ⟨rfl, bL⟩
        have g5 := g4.kp (S := fun _ => False) (Kp.of_below bL) (by simp) (by simp)
        go_wp2
        go_roundw
        case rel => exact ⟨i + 1, v2, by omega, by go_num, by rw [HL2.out], g5, hTP.trans (bL.mono hTP.size)⟩
        case measure => simp [intOf]; omega
    · have hin : i = n := by omega
      subst hin
      have hge : (i : Int) ≤ (i : Int) := Int.le_refl _
      clear hlt hi
      have hTl := toB_len (FB V N Hi i)
      have hTlI : (((FB V N Hi i).length : Int) + 7) / 8 = ((toB (FB V N Hi i)).length : Int) := by omega
      have hbd := toB_bd (FB V N Hi i)
      go_wp2_with fail
      refine (bytes_any b B v _ wr g0 (by omega)).mono ?_
      rintro e wb ⟨ta, tc, rfl, own, hbb⟩
      obtain ⟨_, ta', tc', hv', sT, hxT, hcT, _⟩ := own_seg own (M := 255) (by decide) hbd
      cases hv'
      have hTb : Below w.heap.size w wb := hT.trans (hbb.mono hT.size)
      obtain ⟨wq, hwq⟩ : ∃ wq, wq = wb.alloc (.cells #[.int .u64 0, .int .i64 0, .int .i64 0] 40) := ⟨_, rfl⟩
      obtain ⟨q, hq⟩ : ∃ q, q = wb.heap.size := ⟨_, rfl⟩
      have hRq : Rd wq q [] 0 := Rd.new (by rw [hwq, hq]; exact heap_new _ _)
      have sq : Seg wq ta (toB (FB V N Hi i)) := by rw [hwq]; exact sT.alloc _
      have hTq : Below w.heap.size w wq := by rw [hwq]; exact hTb.alloc hTb.size _
      have hfar : ∀ g off, ta = some ⟨g, off, none⟩ → 0 < (toB (FB V N Hi i)).length → g ≠ q := by
        intro g off e _
        have := (hxT _ e).2.2.2
        simp at this
        omega
      have hNq : w.heap.size ≤ q := by rw [hq]; exact hTb.size
      have HWQ : Hid (wq = wb.alloc (.cells #[.int .u64 0, .int .i64 0, .int .i64 0] 40)) := hwq
      have HQQ : Hid (q = wb.heap.size) := hq
      have HTT : Hid (toB (FB V N Hi i) = toB (FB V N Hi i)) := rfl
      obtain ⟨T, hTT⟩ : ∃ T, T = toB (FB V N Hi i) := ⟨_, rfl⟩
      have HT : Hid (T = toB (FB V N Hi i)) := hTT
      rw [← hTT] at sq hfar hTlI hcT hTl ⊢
      have hTlen : T.length ≤ 41048434102439 := by omega
      clear hTT HTT hwq hq own hxT sT g0 hbb hbd hT hTb hTl
      go_wp2
      clear hTlI
      rw [← HWQ.out, ← HQQ.out]
      go_loopw [14, 15, 68] (fun tf tk tj wr => ∃ (j fed kk : Nat) (H : List Bool), j ≤ i ∧ tj = .int .i64 (j : Int) ∧ tf = .int .i64 (fed : Int) ∧ tk = .int .i64 (kk : Int) ∧ fed ≤ T.length ∧ kk ≤ ps.length + fed ∧ Rd wr q H (FB V N Hi j).length ∧ Hid (FB V N Hi j ++ H = bB (T.take fed)) ∧ Seg wr ta T ∧ Below w.heap.size w wr) (fun _ _ tj _ => i - (intOf tj).toNat)
      case atStart => exact ⟨0, 0, 0, [], Nat.zero_le _, rfl, rfl, rfl, Nat.zero_le _, Nat.zero_le _, hRq, rfl, sq, hTq⟩
      case round =>
        obtain ⟨j, fed0, kk0, H0, hj, rfl, rfl, rfl, hf0, hk0, hR0, HQ0, sr0, hT0'⟩ := hrel
        clear hRq sq hTq HWQ HQQ
        have hFj := FB_len_le V N Hi j
        by_cases hlt : j < i
        · have hlt2 : (j : Int) < (i : Int) := by omega
          obtain ⟨fb', fo, rfl, c0, c1, c2⟩ := (hs.old hT0').at_ j hlt
          have hbd := hs.bd j hlt
          have HF1 : Hid (FB V N Hi (j + 1) = FB V N Hi j ++ fb (V j).toNat (fitN (N j)) (Hi j)) := rfl
          have FT : Hid (∀ W, Calls Try.prog 14 #[.int .i64 (N j)] W fun e w' => e = .returned (.int .i64 (fitN (N j) : Int)) ∧ w' = W) := fun W => fit_any (N j) W hbd.2.2.1 hbd.2.2.2
          have hk := fit_le (N j)
          have NF : Hid (∀ (fed : Nat) (H : List Bool), FB V N Hi j ++ H = bB (T.take fed) → fitN (N j) ≤ H.length → H.take (fitN (N j)) = fb (V j).toNat (fitN (N j)) (Hi j)) := by
            intro fed H h1 h2
            rw [HT.out] at h1
            exact next_field hlt h1 h2
          have FL : Hid (∀ (fed : Nat) (H : List Bool), FB V N Hi j ++ H = bB (T.take fed) → H.length < fitN (N j) → fed < T.length) := by
            intro fed H h1 h2
            rw [HT.out] at h1 ⊢
            exact fed_lt hlt h1 h2
          obtain ⟨x, hx⟩ : ∃ x : Nat, V j = x := ⟨(V j).toNat, by omega⟩
          have hx64 : x < 18446744073709551616 := by omega
          rw [hx] at c0 HF1 NF
          rw [Int.toNat_natCast] at HF1 NF
          clear hx hbd
          generalize N j = m at *
          generalize fitN m = k at *
          have hmask : bits .and .u64 (x : Int) (IntKind.u64.wrap (IntKind.u64.wrap (2 ^ k) - 1)) = ((x % 2 ^ k : Nat) : Int) := by rw [wrap_mask (by omega), and_low x k (by omega) hx64]
          have hmlt : x % 2 ^ k < 2 ^ k := Nat.mod_lt _ (Nat.two_pow_pos k)
          have hp2 := pow_le_63 (k := k) (by omega)
          have hnf := num_fb x k hk
          have FP : Hid (∀ W, Calls Try.prog 12 #[.int .u64 ((x % 2 ^ k : Nat) : Int), .int .i64 (k : Int)] W fun e w' => e = .returned (.int .u64 (flipN (x % 2 ^ k) k)) ∧ w' = W) := fun W => flip_any _ k W (by omega) (by omega) (by omega)
          have hfl64 := flip_fits (x % 2 ^ k) k
          have hy64 : x % 2 ^ k < 18446744073709551616 := by omega
          generalize flipN (x % 2 ^ k) k = fl at *
          generalize x % 2 ^ k = y at *
          clear hmlt hp2
          cases hh : Hi j
          · rw [hh] at c2 HF1 NF
            clear hh
            have kA : Kp (fun _ => False) wr (wr.alloc (.cells #[.int .u64 (x : Int), .int .i64 m, .bool false] 51)) := Kp.alloc _ _
            have hR1 := hR0.kp kA (by simp)
            have hA := heap_new wr (.cells #[.int .u64 (x : Int), .int .i64 m, .bool false] 51)
            have a0 := three_cell0 hA
            have a1 := three_cell1 hA
            have a2 := three_cell2 hA
            have sr1 : Seg (wr.alloc (.cells #[.int .u64 (x : Int), .int .i64 m, .bool false] 51)) ta T := sr0.alloc _
            go_wp2_with fail
            refine (FT.out _).mono ?_
            rintro e w1 ⟨rfl, hw1⟩
            subst w1
            have hTA := hT0'.trans ((Below.refl w.heap.size wr).alloc hT0'.size (.cells #[.int .u64 (x : Int), .int .i64 m, .bool false] 51))
            generalize wr.alloc (.cells #[.int .u64 (x : Int), .int .i64 m, .bool false] 51) = wA at *
            generalize wr.heap.size = fblk at *
            go_wp2_with fail
            go_region
            have hR2 : Rd wA.drew q H0 _ := hR1.kp ((Kp.refl (fun _ => False) wA).drew) (by simp)
            have sr2 : Seg wA.drew ta T := sr1.drew
            have hTQ : Below w.heap.size w wA.drew := hTA.drew
            have e2 : wA.drew.cell? ⟨fblk, 2, none⟩ = some (.bool false) := a2
            generalize wA.drew = wQ at *
            clear a0 a1 a2 hA hR1 kA sr1 hTA sr0 hR0 hT0' c0 c1 c2 hmask
            obtain ⟨u, hu⟩ : ∃ u, u = y := ⟨_, rfl⟩
            have hu64 : u < 18446744073709551616 := by omega
            have HU : Hid (num (fb x k false) = u) := by rw [hu]; exact hnf.2
            rw [← hu]
            clear hnf hu FP
            go_wp2
            go_loopw [14, 15] (fun tf tk wr => ∃ (fed kk : Nat) (H : List Bool), tf = .int .i64 (fed : Int) ∧ tk = .int .i64 (kk : Int) ∧ fed ≤ T.length ∧ kk ≤ ps.length + fed ∧ Rd wr q H (FB V N Hi j).length ∧ Hid (FB V N Hi j ++ H = bB (T.take fed)) ∧ Seg wr ta T ∧ Below w.heap.size w wr) (fun tf tk _ => (ps.length - (intOf tk).toNat) + (T.length - (intOf tf).toNat))
            case atStart => exact ⟨fed0, kk0, H0, rfl, rfl, hf0, hk0, hR2, HQ0, sr2, hTQ⟩
            case round =>
              obtain ⟨fed, kk, H, rfl, rfl, hf, hkk, hR, HQ, sr, hTr⟩ := hrel
              clear hR2 sr2 hTQ e2 hf0 hk0 HQ0
              by_cases hHk : H.length < k
              · have hlo := FL.out fed H HQ.out hHk
                have hHkI : (H.length : Int) < (k : Int) := by omega
                have hle := hR.le
                obtain ⟨rest, hrest⟩ : ∃ r : Nat, r = T.length - fed := ⟨_, rfl⟩
                have hrI : (T.length : Int) - (fed : Int) = (rest : Int) := by omega
                have hspc : 1 ≤ (64 - H.length) / 8 := by omega
                have hfT : (fed : Int) < (T.length : Int) := by omega
                obtain ⟨tg, toff, rfl, _⟩ := sr.at_ fed hlo
                have CFA : Hid (∀ sz : Nat, sz ≤ rest → Calls Try.prog 20 #[.pointer (some ⟨q, 0, none⟩), .slice (some ⟨tg, toff + fed, none⟩) sz (tc - fed)] wr fun e w' => e = .returned (.int .i64 (feedN H sz : Int)) ∧ Rd w' q (H ++ bB (((T.drop fed).take sz).take (feedN H sz))) (FB V N Hi j).length ∧ (Kp (fun k => k = q) wr w')) := by
                  intro sz hsz
                  have hl2 : ((T.drop fed).take sz).length = sz := by rw [List.length_take, List.length_drop]; omega
                  have := feed_any q H _ (some ⟨tg, toff + fed, none⟩) ((T.drop fed).take sz) (tc - fed) wr hR ((sr.drop fed).take sz) (by omega) (by intro g off e hp; cases e; exact hfar tg toff rfl (by omega)) (by omega)
                  rw [hl2] at this
                  exact this
                by_cases hkp : kk < ps.length
                · have hkpI : (kk : Int) < (ps.length : Int) := by omega
                  have hpO := (hp.old hTr).at_ kk hkp
                  obtain ⟨pg, po, rfl, hpc⟩ := hpO
                  have hpb := hp.bd kk hkp
                  generalize ps.getD kk 0 = z at *
                  by_cases hz0 : z < 0
                  · obtain ⟨sz, hsz⟩ : ∃ s : Nat, s = rest := ⟨_, rfl⟩
                    rw [← hsz] at hrI
                    have hszr : sz ≤ rest := by omega
                    have hsz1 : kk < ps.length ∨ 1 ≤ sz := by omega
                    clear hsz
                    have CF := CFA.out sz hszr
                    have hm1 : feedN H sz ≤ sz := by unfold feedN; omega
                    have hm3 : feedN H sz ≤ (64 - H.length) / 8 := by unfold feedN; omega
                    have hm2 : kk + 1 ≤ ps.length := by omega
                    have HRS : Hid (rest = T.length - fed) := hrest
                    have hszT : fed + sz ≤ T.length := by omega
                    have hszI : (fed : Int) + (sz : Int) ≤ (tc : Int) := by omega
                    clear hrest CFA hspc FT FL NF HF1 hFl hFj HU hy64 hfl64 hx64 hs hszr hsz1
                    go_wp2_with fail
                    refine (has_any q H _ wr hR).mono ?_
                    rintro e w1 ⟨rfl, hw1⟩
                    subst w1
                    go_wp2_with fail
                    refine (has_any q H _ wr hR).mono ?_
                    rintro e w1 ⟨rfl, hw1⟩
                    subst w1
                    go_wp2_with fail
                    refine CF.mono ?_
                    rintro e wF ⟨rfl, hR2, kF⟩
                    have hH2 : (H ++ bB (((T.drop fed).take sz).take (feedN H sz))).length = H.length + 8 * feedN H sz := by
                      rw [List.length_append, bB_len, List.length_take, List.length_take, List.length_drop]; omega
                    have HN : Hid (FB V N Hi j ++ (H ++ bB (((T.drop fed).take sz).take (feedN H sz))) = bB (T.take (fed + feedN H sz))) := by
                      show _ = _
                      rw [← List.append_assoc, HQ.out, ← bB_append, List.take_take, Nat.min_eq_left hm1, List.take_add]
                    have hTF := hTr.trans (kF.below (fun i e => by omega) hTr.size)
                    have sF := sr.kp kF hfar
                    have CH := has_any q _ _ wF hR2
                    rw [hH2] at CH
                    have HH2 : Hid ((H ++ bB (((T.drop fed).take sz).take (feedN H sz))).length = H.length + 8 * feedN H sz) := hH2
                    clear hH2 CF kF
                    generalize (H ++ bB (((T.drop fed).take sz).take (feedN H sz))) = H2 at *
                    generalize feedN H sz = m2 at *
                    have hHI : ((H.length + 8 * m2 : Nat) : Int) = (H.length : Int) + 8 * (m2 : Int) := by omega
                    rw [hHI] at CH
                    clear hHI
                    go_wp2_with fail
                    refine CH.mono ?_
                    rintro e w1 ⟨rfl, hw1⟩
                    subst w1
                    go_wp2
                    go_roundw
                    case rel => exact ⟨fed + m2, kk + 1, H2, by go_num, by go_num, by omega, by omega, hR2, HN, sF, hTF⟩
                    case measure => simp [intOf]; omega
                  · have hz0' : 0 ≤ z := by omega
                    by_cases hzr : z < (rest : Int)
                    · obtain ⟨sz, rfl⟩ : ∃ s : Nat, z = s := ⟨z.toNat, by omega⟩
                      have hszr : sz ≤ rest := by omega
                      have hsz1 : kk < ps.length ∨ 1 ≤ sz := by omega
                      have CF := CFA.out sz hszr
                      have hm1 : feedN H sz ≤ sz := by unfold feedN; omega
                      have hm3 : feedN H sz ≤ (64 - H.length) / 8 := by unfold feedN; omega
                      have hm2 : kk + 1 ≤ ps.length := by omega
                      have HRS : Hid (rest = T.length - fed) := hrest
                      have hszT : fed + sz ≤ T.length := by omega
                      have hszI : (fed : Int) + (sz : Int) ≤ (tc : Int) := by omega
                      clear hrest CFA hspc FT FL NF HF1 hFl hFj HU hy64 hfl64 hx64 hs hszr hsz1
                      go_wp2_with fail
                      refine (has_any q H _ wr hR).mono ?_
                      rintro e w1 ⟨rfl, hw1⟩
                      subst w1
                      go_wp2_with fail
                      refine (has_any q H _ wr hR).mono ?_
                      rintro e w1 ⟨rfl, hw1⟩
                      subst w1
                      go_wp2_with fail
                      refine CF.mono ?_
                      rintro e wF ⟨rfl, hR2, kF⟩
                      have hH2 : (H ++ bB (((T.drop fed).take sz).take (feedN H sz))).length = H.length + 8 * feedN H sz := by
                        rw [List.length_append, bB_len, List.length_take, List.length_take, List.length_drop]; omega
                      have HN : Hid (FB V N Hi j ++ (H ++ bB (((T.drop fed).take sz).take (feedN H sz))) = bB (T.take (fed + feedN H sz))) := by
                        show _ = _
                        rw [← List.append_assoc, HQ.out, ← bB_append, List.take_take, Nat.min_eq_left hm1, List.take_add]
                      have hTF := hTr.trans (kF.below (fun i e => by omega) hTr.size)
                      have sF := sr.kp kF hfar
                      have CH := has_any q _ _ wF hR2
                      rw [hH2] at CH
                      have HH2 : Hid ((H ++ bB (((T.drop fed).take sz).take (feedN H sz))).length = H.length + 8 * feedN H sz) := hH2
                      clear hH2 CF kF
                      generalize (H ++ bB (((T.drop fed).take sz).take (feedN H sz))) = H2 at *
                      generalize feedN H sz = m2 at *
                      have hHI : ((H.length + 8 * m2 : Nat) : Int) = (H.length : Int) + 8 * (m2 : Int) := by omega
                      rw [hHI] at CH
                      clear hHI
                      go_wp2_with fail
                      refine CH.mono ?_
                      rintro e w1 ⟨rfl, hw1⟩
                      subst w1
                      go_wp2
                      go_roundw
                      case rel => exact ⟨fed + m2, kk + 1, H2, by go_num, by go_num, by omega, by omega, hR2, HN, sF, hTF⟩
                      case measure => simp [intOf]; omega
                    · have hzr' : (rest : Int) ≤ z := by omega
                      obtain ⟨sz, hsz⟩ : ∃ s : Nat, s = rest := ⟨_, rfl⟩
                      rw [← hsz] at hrI hzr'
                      have hszr : sz ≤ rest := by omega
                      have hsz1 : kk < ps.length ∨ 1 ≤ sz := by omega
                      clear hsz
                      have CF := CFA.out sz hszr
                      have hm1 : feedN H sz ≤ sz := by unfold feedN; omega
                      have hm3 : feedN H sz ≤ (64 - H.length) / 8 := by unfold feedN; omega
                      have hm2 : kk + 1 ≤ ps.length := by omega
                      have HRS : Hid (rest = T.length - fed) := hrest
                      have hszT : fed + sz ≤ T.length := by omega
                      have hszI : (fed : Int) + (sz : Int) ≤ (tc : Int) := by omega
                      clear hrest CFA hspc FT FL NF HF1 hFl hFj HU hy64 hfl64 hx64 hs hszr hsz1
                      go_wp2_with fail
                      refine (has_any q H _ wr hR).mono ?_
                      rintro e w1 ⟨rfl, hw1⟩
                      subst w1
                      go_wp2_with fail
                      refine (has_any q H _ wr hR).mono ?_
                      rintro e w1 ⟨rfl, hw1⟩
                      subst w1
                      go_wp2_with fail
                      refine CF.mono ?_
                      rintro e wF ⟨rfl, hR2, kF⟩
                      have hH2 : (H ++ bB (((T.drop fed).take sz).take (feedN H sz))).length = H.length + 8 * feedN H sz := by
                        rw [List.length_append, bB_len, List.length_take, List.length_take, List.length_drop]; omega
                      have HN : Hid (FB V N Hi j ++ (H ++ bB (((T.drop fed).take sz).take (feedN H sz))) = bB (T.take (fed + feedN H sz))) := by
                        show _ = _
                        rw [← List.append_assoc, HQ.out, ← bB_append, List.take_take, Nat.min_eq_left hm1, List.take_add]
                      have hTF := hTr.trans (kF.below (fun i e => by omega) hTr.size)
                      have sF := sr.kp kF hfar
                      have CH := has_any q _ _ wF hR2
                      rw [hH2] at CH
                      have HH2 : Hid ((H ++ bB (((T.drop fed).take sz).take (feedN H sz))).length = H.length + 8 * feedN H sz) := hH2
                      clear hH2 CF kF
                      generalize (H ++ bB (((T.drop fed).take sz).take (feedN H sz))) = H2 at *
                      generalize feedN H sz = m2 at *
                      have hHI : ((H.length + 8 * m2 : Nat) : Int) = (H.length : Int) + 8 * (m2 : Int) := by omega
                      rw [hHI] at CH
                      clear hHI
                      go_wp2_with fail
                      refine CH.mono ?_
                      rintro e w1 ⟨rfl, hw1⟩
                      subst w1
                      go_wp2
                      go_roundw
                      case rel => exact ⟨fed + m2, kk + 1, H2, by go_num, by go_num, by omega, by omega, hR2, HN, sF, hTF⟩
                      case measure => simp [intOf]; omega
                · have hkpI : (ps.length : Int) ≤ (kk : Int) := by omega
                  obtain ⟨sz, hsz⟩ : ∃ s : Nat, s = rest := ⟨_, rfl⟩
                  rw [← hsz] at hrI
                  have hszr : sz ≤ rest := by omega
                  have hsz1 : kk < ps.length ∨ 1 ≤ sz := by omega
                  clear hsz
                  have CF := CFA.out sz hszr
                  have hm1 : feedN H sz ≤ sz := by unfold feedN; omega
                  have hm3 : feedN H sz ≤ (64 - H.length) / 8 := by unfold feedN; omega
                  have hm2 : 0 < feedN H sz := by unfold feedN; omega
                  have HRS : Hid (rest = T.length - fed) := hrest
                  have hszT : fed + sz ≤ T.length := by omega
                  have hszI : (fed : Int) + (sz : Int) ≤ (tc : Int) := by omega
                  clear hrest CFA hspc FT FL NF HF1 hFl hFj HU hy64 hfl64 hx64 hs hszr hsz1
                  go_wp2_with fail
                  refine (has_any q H _ wr hR).mono ?_
                  rintro e w1 ⟨rfl, hw1⟩
                  subst w1
                  go_wp2_with fail
                  refine (has_any q H _ wr hR).mono ?_
                  rintro e w1 ⟨rfl, hw1⟩
                  subst w1
                  go_wp2_with fail
                  refine CF.mono ?_
                  rintro e wF ⟨rfl, hR2, kF⟩
                  have hH2 : (H ++ bB (((T.drop fed).take sz).take (feedN H sz))).length = H.length + 8 * feedN H sz := by
                    rw [List.length_append, bB_len, List.length_take, List.length_take, List.length_drop]; omega
                  have HN : Hid (FB V N Hi j ++ (H ++ bB (((T.drop fed).take sz).take (feedN H sz))) = bB (T.take (fed + feedN H sz))) := by
                    show _ = _
                    rw [← List.append_assoc, HQ.out, ← bB_append, List.take_take, Nat.min_eq_left hm1, List.take_add]
                  have hTF := hTr.trans (kF.below (fun i e => by omega) hTr.size)
                  have sF := sr.kp kF hfar
                  have CH := has_any q _ _ wF hR2
                  rw [hH2] at CH
                  have HH2 : Hid ((H ++ bB (((T.drop fed).take sz).take (feedN H sz))).length = H.length + 8 * feedN H sz) := hH2
                  clear hH2 CF kF
                  generalize (H ++ bB (((T.drop fed).take sz).take (feedN H sz))) = H2 at *
                  generalize feedN H sz = m2 at *
                  have hHI : ((H.length + 8 * m2 : Nat) : Int) = (H.length : Int) + 8 * (m2 : Int) := by omega
                  rw [hHI] at CH
                  clear hHI
                  have hm0 : ((m2 : Int) == 0) = false := by simp; omega
                  go_wp2_with fail
                  refine CH.mono ?_
                  rintro e w1 ⟨rfl, hw1⟩
                  subst w1
                  go_wp2
                  go_roundw
                  case rel => exact ⟨fed + m2, kk + 1, H2, by go_num, by go_num, by omega, by omega, hR2, HN, sF, hTF⟩
                  case measure => simp [intOf]; omega
              · have hHkI : (k : Int) ≤ (H.length : Int) := by omega
                have hth : there H (k : Int) = true := there_of hk (by omega)
                have hTv : takeV H (k : Int) = u := by
                  unfold takeV
                  rw [hth]
                  simp only [if_true, Int.toNat_natCast]
                  rw [NF.out fed H HQ.out (by omega)]
                  exact HU.out
                have CT := take_any q H _ (k : Int) wr hR (by omega)
                rw [hth, hTv] at CT
                have hle := hR.le
                have HTL : Hid (takeL H (k : Int) = H.drop k ∧ takeT H (FB V N Hi j).length (k : Int) = (FB V N Hi (j + 1)).length) := by
                  show _ ∧ _
                  unfold takeL takeT
                  rw [hth]
                  refine ⟨by simp, ?_⟩
                  rw [HF1.out, List.length_append, fb_len]
                  simp
                have hbits : 8 * fed = (FB V N Hi j).length + H.length := by
                  have h1 := congrArg List.length HQ.out
                  rw [bB_len, List.length_append, List.length_take] at h1
                  omega
                have HNX : Hid (FB V N Hi (j + 1) ++ H.drop k = bB (T.take fed)) := by
                  show _ = _
                  rw [HF1.out, ← NF.out fed H HQ.out (by omega), List.append_assoc, List.take_append_drop]
                  exact HQ.out
                have hl1 : (FB V N Hi (j + 1)).length = (FB V N Hi j).length + k := by rw [HF1.out, List.length_append, fb_len]
                have hsum : ((H.drop k).length : Int) + ((FB V N Hi (j + 1)).length : Int) = 8 * (fed : Int) := by rw [List.length_drop]; omega
                have hD64 : (H.drop k).length ≤ 64 := by rw [List.length_drop]; omega
                have hj1 := FB_len_le V N Hi (j + 1)
                clear hth hTv FT FL NF HU hFl hFj hy64 hfl64 hx64 hs hbits hl1
                go_wp2_with fail
                refine (has_any q H _ wr hR).mono ?_
                rintro e w1 ⟨rfl, hw1⟩
                subst w1
                go_wp2_with fail
                refine CT.mono ?_
                rintro e wT ⟨rfl, hRT, kT⟩
                rw [HTL.out.1, HTL.out.2] at hRT
                have sT2 := sr.grown kT (by intro g off e hp e2; cases e2; exact hfar _ off e hp rfl)
                have hTT2 := hTr.trans (below_of_grown kT hNq hTr.size)
                clear HTL CT HQ HF1
                generalize H.drop k = H3 at *
                obtain ⟨F3, hF3⟩ : ∃ F, F = FB V N Hi (j + 1) := ⟨_, rfl⟩
                rw [← hF3] at hRT HNX hsum hj1
                have HF3 : Hid (F3 = FB V N Hi (j + 1)) := hF3
                clear hF3
                go_wp2_with fail
                refine (has_any q H3 _ wT hRT).mono ?_
                rintro e w1 ⟨rfl, hw1⟩
                subst w1
                go_wp2_with fail
                refine (taken_any q H3 _ wT hRT).mono ?_
                rintro e w1 ⟨rfl, hw1⟩
                subst w1
                go_wp2
                go_roundw
                case rel => exact ⟨j + 1, fed, kk, H3, by omega, by go_num, rfl, rfl, hf, hkk, by rw [← HF3.out]; exact hRT, by rw [← HF3.out]; exact HNX, sT2, hTT2⟩
                case measure => simp [intOf]; omega
          · rw [hh] at c2 HF1 NF
            clear hh
            have kA : Kp (fun _ => False) wr (wr.alloc (.cells #[.int .u64 (x : Int), .int .i64 m, .bool true] 51)) := Kp.alloc _ _
            have hR1 := hR0.kp kA (by simp)
            have hA := heap_new wr (.cells #[.int .u64 (x : Int), .int .i64 m, .bool true] 51)
            have a0 := three_cell0 hA
            have a1 := three_cell1 hA
            have a2 := three_cell2 hA
            have sr1 : Seg (wr.alloc (.cells #[.int .u64 (x : Int), .int .i64 m, .bool true] 51)) ta T := sr0.alloc _
            go_wp2_with fail
            refine (FT.out _).mono ?_
            rintro e w1 ⟨rfl, hw1⟩
            subst w1
            have hTA := hT0'.trans ((Below.refl w.heap.size wr).alloc hT0'.size (.cells #[.int .u64 (x : Int), .int .i64 m, .bool true] 51))
            generalize wr.alloc (.cells #[.int .u64 (x : Int), .int .i64 m, .bool true] 51) = wA at *
            generalize wr.heap.size = fblk at *
            go_wp2_with fail
            go_region
            have hR2 : Rd wA.drew q H0 _ := hR1.kp ((Kp.refl (fun _ => False) wA).drew) (by simp)
            have sr2 : Seg wA.drew ta T := sr1.drew
            have hTQ : Below w.heap.size w wA.drew := hTA.drew
            have e2 : wA.drew.cell? ⟨fblk, 2, none⟩ = some (.bool true) := a2
            generalize wA.drew = wQ at *
            clear a0 a1 a2 hA hR1 kA sr1 hTA sr0 hR0 hT0' c0 c1 c2 hmask
            go_wp2_with fail
            refine (FP.out _).mono ?_
            rintro e w1 ⟨rfl, hw1⟩
            subst w1
            obtain ⟨u, hu⟩ : ∃ u, u = fl := ⟨_, rfl⟩
            have hu64 : u < 18446744073709551616 := by omega
            have HU : Hid (num (fb x k true) = u) := by rw [hu]; exact hnf.1
            rw [← hu]
            clear hnf hu FP
            go_wp2
            go_loopw [14, 15] (fun tf tk wr => ∃ (fed kk : Nat) (H : List Bool), tf = .int .i64 (fed : Int) ∧ tk = .int .i64 (kk : Int) ∧ fed ≤ T.length ∧ kk ≤ ps.length + fed ∧ Rd wr q H (FB V N Hi j).length ∧ Hid (FB V N Hi j ++ H = bB (T.take fed)) ∧ Seg wr ta T ∧ Below w.heap.size w wr) (fun tf tk _ => (ps.length - (intOf tk).toNat) + (T.length - (intOf tf).toNat))
            case atStart => exact ⟨fed0, kk0, H0, rfl, rfl, hf0, hk0, hR2, HQ0, sr2, hTQ⟩
            case round =>
              obtain ⟨fed, kk, H, rfl, rfl, hf, hkk, hR, HQ, sr, hTr⟩ := hrel
              clear hR2 sr2 hTQ e2 hf0 hk0 HQ0
              by_cases hHk : H.length < k
              · have hlo := FL.out fed H HQ.out hHk
                have hHkI : (H.length : Int) < (k : Int) := by omega
                have hle := hR.le
                obtain ⟨rest, hrest⟩ : ∃ r : Nat, r = T.length - fed := ⟨_, rfl⟩
                have hrI : (T.length : Int) - (fed : Int) = (rest : Int) := by omega
                have hspc : 1 ≤ (64 - H.length) / 8 := by omega
                have hfT : (fed : Int) < (T.length : Int) := by omega
                obtain ⟨tg, toff, rfl, _⟩ := sr.at_ fed hlo
                have CFA : Hid (∀ sz : Nat, sz ≤ rest → Calls Try.prog 20 #[.pointer (some ⟨q, 0, none⟩), .slice (some ⟨tg, toff + fed, none⟩) sz (tc - fed)] wr fun e w' => e = .returned (.int .i64 (feedN H sz : Int)) ∧ Rd w' q (H ++ bB (((T.drop fed).take sz).take (feedN H sz))) (FB V N Hi j).length ∧ (Kp (fun k => k = q) wr w')) := by
                  intro sz hsz
                  have hl2 : ((T.drop fed).take sz).length = sz := by rw [List.length_take, List.length_drop]; omega
                  have := feed_any q H _ (some ⟨tg, toff + fed, none⟩) ((T.drop fed).take sz) (tc - fed) wr hR ((sr.drop fed).take sz) (by omega) (by intro g off e hp; cases e; exact hfar tg toff rfl (by omega)) (by omega)
                  rw [hl2] at this
                  exact this
                by_cases hkp : kk < ps.length
                · have hkpI : (kk : Int) < (ps.length : Int) := by omega
                  have hpO := (hp.old hTr).at_ kk hkp
                  obtain ⟨pg, po, rfl, hpc⟩ := hpO
                  have hpb := hp.bd kk hkp
                  generalize ps.getD kk 0 = z at *
                  by_cases hz0 : z < 0
                  · obtain ⟨sz, hsz⟩ : ∃ s : Nat, s = rest := ⟨_, rfl⟩
                    rw [← hsz] at hrI
                    have hszr : sz ≤ rest := by omega
                    have hsz1 : kk < ps.length ∨ 1 ≤ sz := by omega
                    clear hsz
                    have CF := CFA.out sz hszr
                    have hm1 : feedN H sz ≤ sz := by unfold feedN; omega
                    have hm3 : feedN H sz ≤ (64 - H.length) / 8 := by unfold feedN; omega
                    have hm2 : kk + 1 ≤ ps.length := by omega
                    have HRS : Hid (rest = T.length - fed) := hrest
                    have hszT : fed + sz ≤ T.length := by omega
                    have hszI : (fed : Int) + (sz : Int) ≤ (tc : Int) := by omega
                    clear hrest CFA hspc FT FL NF HF1 hFl hFj HU hy64 hfl64 hx64 hs hszr hsz1
                    go_wp2_with fail
                    refine (has_any q H _ wr hR).mono ?_
                    rintro e w1 ⟨rfl, hw1⟩
                    subst w1
                    go_wp2_with fail
                    refine (has_any q H _ wr hR).mono ?_
                    rintro e w1 ⟨rfl, hw1⟩
                    subst w1
                    go_wp2_with fail
                    refine CF.mono ?_
                    rintro e wF ⟨rfl, hR2, kF⟩
                    have hH2 : (H ++ bB (((T.drop fed).take sz).take (feedN H sz))).length = H.length + 8 * feedN H sz := by
                      rw [List.length_append, bB_len, List.length_take, List.length_take, List.length_drop]; omega
                    have HN : Hid (FB V N Hi j ++ (H ++ bB (((T.drop fed).take sz).take (feedN H sz))) = bB (T.take (fed + feedN H sz))) := by
                      show _ = _
                      rw [← List.append_assoc, HQ.out, ← bB_append, List.take_take, Nat.min_eq_left hm1, List.take_add]
                    have hTF := hTr.trans (kF.below (fun i e => by omega) hTr.size)
                    have sF := sr.kp kF hfar
                    have CH := has_any q _ _ wF hR2
                    rw [hH2] at CH
                    have HH2 : Hid ((H ++ bB (((T.drop fed).take sz).take (feedN H sz))).length = H.length + 8 * feedN H sz) := hH2
                    clear hH2 CF kF
                    generalize (H ++ bB (((T.drop fed).take sz).take (feedN H sz))) = H2 at *
                    generalize feedN H sz = m2 at *
                    have hHI : ((H.length + 8 * m2 : Nat) : Int) = (H.length : Int) + 8 * (m2 : Int) := by omega
                    rw [hHI] at CH
                    clear hHI
                    go_wp2_with fail
                    refine CH.mono ?_
                    rintro e w1 ⟨rfl, hw1⟩
                    subst w1
                    go_wp2
                    go_roundw
                    case rel => exact ⟨fed + m2, kk + 1, H2, by go_num, by go_num, by omega, by omega, hR2, HN, sF, hTF⟩
                    case measure => simp [intOf]; omega
                  · have hz0' : 0 ≤ z := by omega
                    by_cases hzr : z < (rest : Int)
                    · obtain ⟨sz, rfl⟩ : ∃ s : Nat, z = s := ⟨z.toNat, by omega⟩
                      have hszr : sz ≤ rest := by omega
                      have hsz1 : kk < ps.length ∨ 1 ≤ sz := by omega
                      have CF := CFA.out sz hszr
                      have hm1 : feedN H sz ≤ sz := by unfold feedN; omega
                      have hm3 : feedN H sz ≤ (64 - H.length) / 8 := by unfold feedN; omega
                      have hm2 : kk + 1 ≤ ps.length := by omega
                      have HRS : Hid (rest = T.length - fed) := hrest
                      have hszT : fed + sz ≤ T.length := by omega
                      have hszI : (fed : Int) + (sz : Int) ≤ (tc : Int) := by omega
                      clear hrest CFA hspc FT FL NF HF1 hFl hFj HU hy64 hfl64 hx64 hs hszr hsz1
                      go_wp2_with fail
                      refine (has_any q H _ wr hR).mono ?_
                      rintro e w1 ⟨rfl, hw1⟩
                      subst w1
                      go_wp2_with fail
                      refine (has_any q H _ wr hR).mono ?_
                      rintro e w1 ⟨rfl, hw1⟩
                      subst w1
                      go_wp2_with fail
                      refine CF.mono ?_
                      rintro e wF ⟨rfl, hR2, kF⟩
                      have hH2 : (H ++ bB (((T.drop fed).take sz).take (feedN H sz))).length = H.length + 8 * feedN H sz := by
                        rw [List.length_append, bB_len, List.length_take, List.length_take, List.length_drop]; omega
                      have HN : Hid (FB V N Hi j ++ (H ++ bB (((T.drop fed).take sz).take (feedN H sz))) = bB (T.take (fed + feedN H sz))) := by
                        show _ = _
                        rw [← List.append_assoc, HQ.out, ← bB_append, List.take_take, Nat.min_eq_left hm1, List.take_add]
                      have hTF := hTr.trans (kF.below (fun i e => by omega) hTr.size)
                      have sF := sr.kp kF hfar
                      have CH := has_any q _ _ wF hR2
                      rw [hH2] at CH
                      have HH2 : Hid ((H ++ bB (((T.drop fed).take sz).take (feedN H sz))).length = H.length + 8 * feedN H sz) := hH2
                      clear hH2 CF kF
                      generalize (H ++ bB (((T.drop fed).take sz).take (feedN H sz))) = H2 at *
                      generalize feedN H sz = m2 at *
                      have hHI : ((H.length + 8 * m2 : Nat) : Int) = (H.length : Int) + 8 * (m2 : Int) := by omega
                      rw [hHI] at CH
                      clear hHI
                      go_wp2_with fail
                      refine CH.mono ?_
                      rintro e w1 ⟨rfl, hw1⟩
                      subst w1
                      go_wp2
                      go_roundw
                      case rel => exact ⟨fed + m2, kk + 1, H2, by go_num, by go_num, by omega, by omega, hR2, HN, sF, hTF⟩
                      case measure => simp [intOf]; omega
                    · have hzr' : (rest : Int) ≤ z := by omega
                      obtain ⟨sz, hsz⟩ : ∃ s : Nat, s = rest := ⟨_, rfl⟩
                      rw [← hsz] at hrI hzr'
                      have hszr : sz ≤ rest := by omega
                      have hsz1 : kk < ps.length ∨ 1 ≤ sz := by omega
                      clear hsz
                      have CF := CFA.out sz hszr
                      have hm1 : feedN H sz ≤ sz := by unfold feedN; omega
                      have hm3 : feedN H sz ≤ (64 - H.length) / 8 := by unfold feedN; omega
                      have hm2 : kk + 1 ≤ ps.length := by omega
                      have HRS : Hid (rest = T.length - fed) := hrest
                      have hszT : fed + sz ≤ T.length := by omega
                      have hszI : (fed : Int) + (sz : Int) ≤ (tc : Int) := by omega
                      clear hrest CFA hspc FT FL NF HF1 hFl hFj HU hy64 hfl64 hx64 hs hszr hsz1
                      go_wp2_with fail
                      refine (has_any q H _ wr hR).mono ?_
                      rintro e w1 ⟨rfl, hw1⟩
                      subst w1
                      go_wp2_with fail
                      refine (has_any q H _ wr hR).mono ?_
                      rintro e w1 ⟨rfl, hw1⟩
                      subst w1
                      go_wp2_with fail
                      refine CF.mono ?_
                      rintro e wF ⟨rfl, hR2, kF⟩
                      have hH2 : (H ++ bB (((T.drop fed).take sz).take (feedN H sz))).length = H.length + 8 * feedN H sz := by
                        rw [List.length_append, bB_len, List.length_take, List.length_take, List.length_drop]; omega
                      have HN : Hid (FB V N Hi j ++ (H ++ bB (((T.drop fed).take sz).take (feedN H sz))) = bB (T.take (fed + feedN H sz))) := by
                        show _ = _
                        rw [← List.append_assoc, HQ.out, ← bB_append, List.take_take, Nat.min_eq_left hm1, List.take_add]
                      have hTF := hTr.trans (kF.below (fun i e => by omega) hTr.size)
                      have sF := sr.kp kF hfar
                      have CH := has_any q _ _ wF hR2
                      rw [hH2] at CH
                      have HH2 : Hid ((H ++ bB (((T.drop fed).take sz).take (feedN H sz))).length = H.length + 8 * feedN H sz) := hH2
                      clear hH2 CF kF
                      generalize (H ++ bB (((T.drop fed).take sz).take (feedN H sz))) = H2 at *
                      generalize feedN H sz = m2 at *
                      have hHI : ((H.length + 8 * m2 : Nat) : Int) = (H.length : Int) + 8 * (m2 : Int) := by omega
                      rw [hHI] at CH
                      clear hHI
                      go_wp2_with fail
                      refine CH.mono ?_
                      rintro e w1 ⟨rfl, hw1⟩
                      subst w1
                      go_wp2
                      go_roundw
                      case rel => exact ⟨fed + m2, kk + 1, H2, by go_num, by go_num, by omega, by omega, hR2, HN, sF, hTF⟩
                      case measure => simp [intOf]; omega
                · have hkpI : (ps.length : Int) ≤ (kk : Int) := by omega
                  obtain ⟨sz, hsz⟩ : ∃ s : Nat, s = rest := ⟨_, rfl⟩
                  rw [← hsz] at hrI
                  have hszr : sz ≤ rest := by omega
                  have hsz1 : kk < ps.length ∨ 1 ≤ sz := by omega
                  clear hsz
                  have CF := CFA.out sz hszr
                  have hm1 : feedN H sz ≤ sz := by unfold feedN; omega
                  have hm3 : feedN H sz ≤ (64 - H.length) / 8 := by unfold feedN; omega
                  have hm2 : 0 < feedN H sz := by unfold feedN; omega
                  have HRS : Hid (rest = T.length - fed) := hrest
                  have hszT : fed + sz ≤ T.length := by omega
                  have hszI : (fed : Int) + (sz : Int) ≤ (tc : Int) := by omega
                  clear hrest CFA hspc FT FL NF HF1 hFl hFj HU hy64 hfl64 hx64 hs hszr hsz1
                  go_wp2_with fail
                  refine (has_any q H _ wr hR).mono ?_
                  rintro e w1 ⟨rfl, hw1⟩
                  subst w1
                  go_wp2_with fail
                  refine (has_any q H _ wr hR).mono ?_
                  rintro e w1 ⟨rfl, hw1⟩
                  subst w1
                  go_wp2_with fail
                  refine CF.mono ?_
                  rintro e wF ⟨rfl, hR2, kF⟩
                  have hH2 : (H ++ bB (((T.drop fed).take sz).take (feedN H sz))).length = H.length + 8 * feedN H sz := by
                    rw [List.length_append, bB_len, List.length_take, List.length_take, List.length_drop]; omega
                  have HN : Hid (FB V N Hi j ++ (H ++ bB (((T.drop fed).take sz).take (feedN H sz))) = bB (T.take (fed + feedN H sz))) := by
                    show _ = _
                    rw [← List.append_assoc, HQ.out, ← bB_append, List.take_take, Nat.min_eq_left hm1, List.take_add]
                  have hTF := hTr.trans (kF.below (fun i e => by omega) hTr.size)
                  have sF := sr.kp kF hfar
                  have CH := has_any q _ _ wF hR2
                  rw [hH2] at CH
                  have HH2 : Hid ((H ++ bB (((T.drop fed).take sz).take (feedN H sz))).length = H.length + 8 * feedN H sz) := hH2
                  clear hH2 CF kF
                  generalize (H ++ bB (((T.drop fed).take sz).take (feedN H sz))) = H2 at *
                  generalize feedN H sz = m2 at *
                  have hHI : ((H.length + 8 * m2 : Nat) : Int) = (H.length : Int) + 8 * (m2 : Int) := by omega
                  rw [hHI] at CH
                  clear hHI
                  have hm0 : ((m2 : Int) == 0) = false := by simp; omega
                  go_wp2_with fail
                  refine CH.mono ?_
                  rintro e w1 ⟨rfl, hw1⟩
                  subst w1
                  go_wp2
                  go_roundw
                  case rel => exact ⟨fed + m2, kk + 1, H2, by go_num, by go_num, by omega, by omega, hR2, HN, sF, hTF⟩
                  case measure => simp [intOf]; omega
              · have hHkI : (k : Int) ≤ (H.length : Int) := by omega
                have hth : there H (k : Int) = true := there_of hk (by omega)
                have hTv : takeV H (k : Int) = u := by
                  unfold takeV
                  rw [hth]
                  simp only [if_true, Int.toNat_natCast]
                  rw [NF.out fed H HQ.out (by omega)]
                  exact HU.out
                have CT := take_any q H _ (k : Int) wr hR (by omega)
                rw [hth, hTv] at CT
                have hle := hR.le
                have HTL : Hid (takeL H (k : Int) = H.drop k ∧ takeT H (FB V N Hi j).length (k : Int) = (FB V N Hi (j + 1)).length) := by
                  show _ ∧ _
                  unfold takeL takeT
                  rw [hth]
                  refine ⟨by simp, ?_⟩
                  rw [HF1.out, List.length_append, fb_len]
                  simp
                have hbits : 8 * fed = (FB V N Hi j).length + H.length := by
                  have h1 := congrArg List.length HQ.out
                  rw [bB_len, List.length_append, List.length_take] at h1
                  omega
                have HNX : Hid (FB V N Hi (j + 1) ++ H.drop k = bB (T.take fed)) := by
                  show _ = _
                  rw [HF1.out, ← NF.out fed H HQ.out (by omega), List.append_assoc, List.take_append_drop]
                  exact HQ.out
                have hl1 : (FB V N Hi (j + 1)).length = (FB V N Hi j).length + k := by rw [HF1.out, List.length_append, fb_len]
                have hsum : ((H.drop k).length : Int) + ((FB V N Hi (j + 1)).length : Int) = 8 * (fed : Int) := by rw [List.length_drop]; omega
                have hD64 : (H.drop k).length ≤ 64 := by rw [List.length_drop]; omega
                have hj1 := FB_len_le V N Hi (j + 1)
                clear hth hTv FT FL NF HU hFl hFj hy64 hfl64 hx64 hs hbits hl1
                go_wp2_with fail
                refine (has_any q H _ wr hR).mono ?_
                rintro e w1 ⟨rfl, hw1⟩
                subst w1
                go_wp2_with fail
                refine CT.mono ?_
                rintro e wT ⟨rfl, hRT, kT⟩
                rw [HTL.out.1, HTL.out.2] at hRT
                have sT2 := sr.grown kT (by intro g off e hp e2; cases e2; exact hfar _ off e hp rfl)
                have hTT2 := hTr.trans (below_of_grown kT hNq hTr.size)
                clear HTL CT HQ HF1
                generalize H.drop k = H3 at *
                obtain ⟨F3, hF3⟩ : ∃ F, F = FB V N Hi (j + 1) := ⟨_, rfl⟩
                rw [← hF3] at hRT HNX hsum hj1
                have HF3 : Hid (F3 = FB V N Hi (j + 1)) := hF3
                clear hF3
                go_wp2_with fail
                refine (has_any q H3 _ wT hRT).mono ?_
                rintro e w1 ⟨rfl, hw1⟩
                subst w1
                go_wp2_with fail
                refine (taken_any q H3 _ wT hRT).mono ?_
                rintro e w1 ⟨rfl, hw1⟩
                subst w1
                go_wp2
                go_roundw
                case rel => exact ⟨j + 1, fed, kk, H3, by omega, by go_num, rfl, rfl, hf, hkk, by rw [← HF3.out]; exact hRT, by rw [← HF3.out]; exact HNX, sT2, hTT2⟩
                case measure => simp [intOf]; omega
        · have hji : j = i := by omega
          subst hji
          have hge2 : (j : Int) ≤ (j : Int) := Int.le_refl _
          clear hlt hj
          go_wp2_with fail
          refine (taken_any q H0 _ wr hR0).mono ?_
          rintro e w1 ⟨rfl, hw1⟩
          subst w1
          go_wp2_with fail
          refine (lives_any _).mono ?_
          rintro e wl ⟨rfl, bl⟩
          go_wp2
          go_ret
          exact ⟨rfl, hT0'.trans (bl.mono hT0'.size)⟩
end Go.Proofs.Ytppjcgkgemhilaa
