import Derived.Test.YtkjccbihdinlkaaPaz
namespace Go.Proofs.Ytkjccbihdinlkaa
open Go.RowKit
set_option linter.unusedVariables false

set_option maxRecDepth 100000 in
set_option maxHeartbeats 8000000 in
theorem codeBack_walk (w : World) (a : Option Addr) (zs : List Int) (ca : Nat) (hs : SegZ w a zs) (hc : zs.length ≤ ca) (hn : a = none → ca = 0) (hl : zs.length * 8 ≤ 140737488351232)
    (b : Option Addr) (ys : List Int) (cb : Nat) (hy : SegZ w b ys) (hcy : ys.length ≤ cb) (hny : b = none → cb = 0) (hly : ys.length * 8 ≤ 140737488351232)
    (pa : Option Addr) (ps : List Int) (pc : Nat) (hp : SegZ w pa ps) (hcp : ps.length ≤ pc) (hnp : pa = none → pc = 0) (hlp : ps.length * 8 ≤ 140737488351232) :
    Calls Try.prog 7 #[.slice a zs.length ca, .slice b ys.length cb, .slice pa ps.length pc] w fun e w' => e = .returned (.bool true) ∧ Below w.heap.size w w' := by
  obtain ⟨i0, hi, hz0, hz1, hz2⟩ := info_parts info_int
  obtain ⟨n, hnn⟩ : ∃ n, n = zs.length := ⟨_, rfl⟩
  have HN : Hid (zs.length = n) := hnn.symm
  obtain ⟨m, hmm⟩ : ∃ m, m = ys.length := ⟨_, rfl⟩
  have HM : Hid (ys.length = m) := hmm.symm
  obtain ⟨np, hpp⟩ : ∃ np, np = ps.length := ⟨_, rfl⟩
  have HP : Hid (ps.length = np) := hpp.symm
  rw [← hnn] at hl ⊢
  rw [← hmm] at hly ⊢
  rw [← hpp] at hlp ⊢
  clear hnn hmm hpp hc hcy hcp hny hnp
  by_cases hok : errC zs = 0
  · have HOK : Hid (errC zs = 0) := hok
    have h288 : n ≤ 288 := by have := (errS_zero (errC_zero hok).1).1; have := HN.out; omega
    clear hok
    go_enter Try.func7, Try.ntmps7
    go_wp2_with fail
    refine (check_any a zs n ca HN w hs (by omega)).mono ?_
    rintro e w1 ⟨rfl, B1⟩
    rw [HOK.out]
    go_wp2_with fail
    refine (newEnc_any a zs n ca HN w1 (hs.old B1) hn (by omega)).mono ?_
    rintro e w2 ⟨hE, _, B2⟩
    obtain ⟨be, rfl, hbe, E2⟩ := hE HOK.out
    clear hE
    have x2 : Below w.heap.size w w2 := B1.trans (B2.mono B1.size)
    go_wp2_with fail
    refine (newDec_any 288 (by omega) (by omega) w2).mono ?_
    rintro e w3 ⟨rfl, hw3⟩
    have hd3 : w3.heap[w2.heap.size]? = some (.cells (arr (dl 288 [] Z288)) 95 (0, 0)) := by rw [hw3]; exact heap_alloc_new w2 _
    have B3 : Below w2.heap.size w2 w3 := by rw [hw3]; exact (Below.refl _ _).alloc (Nat.le_refl _) _
    have D3 : De w3 w2.heap.size 288 [] := De.new (by omega) (by omega) hd3
    clear hw3 hd3
    have E3 := E2.old B3
    have x3 : Below w.heap.size w w3 := x2.trans (B3.mono x2.size)
    have s23 : w.heap.size ≤ w2.heap.size := x2.size
    obtain ⟨bd, hbd⟩ : ∃ bd, bd = w2.heap.size := ⟨_, rfl⟩
    rw [← hbd] at D3 E3 s23 ⊢
    clear hbd B3 B2 B1 E2 x2 hbe
    go_wp2_with fail
    refine (load_any bd 288 [] a zs n ca HN w3 D3 (hs.old x3) (by omega)).mono ?_
    rintro e w5 ⟨rfl, D5, K5⟩
    have e1 : errD 288 zs = 0 := by unfold errD; rw [if_neg (by have := HN.out; omega)]; exact HOK.out
    rw [e1, if_pos rfl] at D5
    rw [e1]
    clear e1
    have E5 : En w5 be bd zs := E3.old (K5.below (fun i e => by omega) (by have := D3.lt; omega))
    have x5 : Below w.heap.size w w5 := x3.trans (K5.below (fun i e => by omega) x3.size)
    clear D3 E3 x3 K5
    have h6 : WrL (w5.alloc (.cells #[.slice none 0 0, .int .u64 0, .int .i64 0] 47)) w5.heap.size (w5.heap.size + 1) (.slice none 0 0) [] := WrL.new (heap_new _ _) (by simp)
    have B6 : Below w5.heap.size w5 (w5.alloc (.cells #[.slice none 0 0, .int .u64 0, .int .i64 0] 47)) := (Below.refl _ _).alloc (Nat.le_refl _) _
    have z6 : (w5.alloc (.cells #[.slice none 0 0, .int .u64 0, .int .i64 0] 47)).heap.size = w5.heap.size + 1 := by simp
    go_wp2_with fail
    generalize w5.alloc (.cells #[.slice none 0 0, .int .u64 0, .int .i64 0] 47) = w6 at *
    have hd5 := D5.lt
    have E6 := E5.old (B6.mono (by omega))
    have D6 := D5.keep (B6.block bd D5.lt)
    have x6 : Below w.heap.size w w6 := x5.trans (B6.mono x5.size)
    have sx5 := x5.size
    obtain ⟨bw, hbw⟩ : ∃ bw, bw = w5.heap.size := ⟨_, rfl⟩
    obtain ⟨B, hB⟩ : ∃ B, B = bw + 1 := ⟨_, rfl⟩
    rw [← hbw] at h6 hd5 z6 sx5 ⊢
    rw [← hB] at h6 z6
    have HO : Hid (bd < bw ∧ bw < B ∧ w.heap.size ≤ bw ∧ w6.heap.size = B ∧ w.heap.size ≤ bd) := ⟨hd5, by omega, sx5, z6, s23⟩
    clear hbw hB hd5 z6 sx5 s23 B6 x5 E5 D5
    go_loopw [12, 63] (fun tp tj wr => ∃ (j k : Nat) (v : Value) (P : List Int) (qa : Option Addr) (qc : Nat), j ≤ m ∧ k ≤ j ∧ tj = .int .i64 (j : Int) ∧ tp = .slice qa k qc ∧ Hid (P.length = k) ∧ wr.ownsRow B 3 1 (.slice qa k qc) k (P.map (Value.int .i64)) ∧ WrL wr bw B v (PB zs P) ∧ Ap v.ownBlock (Value.slice qa k qc).ownBlock ∧ Hid (∀ s ∈ P, costV zs s ≠ 0 ∧ -9223372036854775808 ≤ s ∧ s ≤ 9223372036854775807) ∧ Below bw w6 wr) (fun _ tj _ => m - (intOf tj).toNat)
    case atStart => exact ⟨0, 0, _, [], none, 0, by omega, by omega, rfl, rfl, (rfl : _ = _), World.ownsRow_nil _ _ _ _, h6, (fun k _ e => by cases e), (fun s hs => by simp at hs), Below.refl _ _⟩
    case round =>
      obtain ⟨j, k, v, P, qa, qc, hj, hkj, rfl, rfl, HPk, OP, GW, AP, HPP, BJ⟩ := hrel
      clear h6
      have xJ : Below w.heap.size w wr := x6.trans (BJ.mono HO.out.2.2.1)
      have EJ : En wr be bd zs := E6.old (BJ.mono (by have := HO.out; omega))
      have hPL := PB_len HOK.out P
      rw [HPk.out] at hPL
      by_cases hjm : j < m
      · have hji : (j : Int) < (m : Int) := by omega
        have hjy : j < ys.length := by have := HM.out; omega
        obtain ⟨gy, oy, rfl, cy⟩ := (hy.old xJ).at_ j hjy
        have sb := hy.bd j
        generalize ys.getD j 0 = s at *
        have CC := cost5_any be bd zs s wr EJ
        by_cases hc0 : costV zs s = 0
        · rw [hc0] at CC
          clear hc0
          go_wp2_with fail
          refine CC.mono ?_
          rintro e w7 ⟨rfl, hw7⟩
          subst w7
          go_wp2_with fail
          go_roundw
          case rel => exact ⟨j + 1, k, v, P, qa, qc, by omega, by omega, by go_num, rfl, HPk, OP, GW, AP, HPP, BJ⟩
          case measure => simp [intOf]; omega
        · have HC0 : Hid (costV zs s ≠ 0) := hc0
          have HEP : Hid (errP zs s = 0) := by show _ = _; unfold errP; rw [if_neg hc0]
          have CP := put5_any be bd zs s bw B v (PB zs P) wr EJ GW (by omega)
          rw [HEP.out] at CP
          clear hc0
          obtain ⟨cv, hcv0⟩ : ∃ cv, cv = costV zs s := ⟨_, rfl⟩
          have hcv : ¬ cv = 0 := by rw [hcv0]; exact HC0.out
          rw [← hcv0] at CC
          clear hcv0
          go_wp2_with fail
          refine CC.mono ?_
          rintro e w7 ⟨rfl, hw7⟩
          subst w7
          go_wp2_with fail
          refine CP.mono ?_
          rintro e w7 ⟨rfl, v', g7, k7, f7⟩
          have hvl := GW.own_lt
          have hO := HO.out
          have O7 : w7.ownsRow B 3 1 (.slice qa k qc) k (P.map (Value.int .i64)) := own_kp OP k7 (fun i e => by
            have hq := OP.lt i e
            rintro (e2 | e2)
            · omega
            · exact AP i e2 e)
          have B7 : Below bw wr w7 := GW.below k7 (Nat.le_refl _) (by omega)
          have hs7 : B ≤ w7.heap.size := by have := B7.size; have := BJ.size; omega
          have A7 : Ap v'.ownBlock (Value.slice qa k qc).ownBlock := fun i e1 e2 => by
            have hq := OP.lt i e2
            rcases f7 i e1 with e | e
            · exact AP i e e2
            · omega
          have hv7 := g7.own_lt
          clear CC CP hO
          go_wp2_with (at_builtin; refine wpList_app1 rfl (.tmp 75) (.tmp 77) 23 rfl B 3 i0 (.int .i64 0) 8 Try.underlying23 hi hz0 hz1 hz2 rfl w7 (.int .i64 s) rfl O7 rfl rfl (by omega) (by omega) hs7 ?_; intro gg cap2 w8 hown8 hg8 hf8)
          have hO := HO.out
          have g8 : WrL w8 bw B v' (PB zs (P ++ [s])) := by
            rw [PB_snoc]
            refine g7.kp (Kp.grown (S := fun i => (Value.slice qa k qc).ownBlock = some i) hg8 (fun i e => e)) (fun e => ?_) (fun i e e2 => A7 i e e2)
            have := OP.lt bw e
            omega
          have B8 : Below bw w7 w8 := (Kp.grown (S := fun i => (Value.slice qa k qc).ownBlock = some i) hg8 (fun i e => e)).below (fun i e => by have := OP.lt i e; omega) (by omega)
          go_roundw
          case rel =>
            refine ⟨j + 1, k + 1, v', P ++ [s], some ⟨gg, 0, none⟩, cap2, by omega, by omega, by go_num, rfl, ?_, ?_, g8, ?_, ?_, BJ.trans (B7.trans B8)⟩
            · show _ = _; rw [List.length_append, HPk.out]; rfl
            · rw [List.map_append]; exact hown8
            · intro i e1 e2
              rcases hf8 i e2 with e | e
              · exact A7 i e1 e
              · have := (hv7 i e1).2.1; omega
            · intro t ht
              rcases List.mem_append.1 ht with h | h
              · exact HPP.out t h
              · simp at h; subst h; exact ⟨HC0.out, sb⟩
          case measure => simp [intOf]; omega
      · obtain rfl : j = m := by omega
        have S0 : SegZ wr qa P := own_segZ OP (fun z hz => (HPP.out z hz).2)
        have hTl := toB_len (PB zs P)
        have hbdT := toB_bd (PB zs P)
        have hDJ : De wr bd 288 zs := D6.keep (BJ.block bd (by have := HO.out; omega))
        go_wp2_with fail
        refine (bytes_any bw B v _ wr GW (by omega)).mono ?_
        rintro e wb ⟨ta, tc, rfl, own, hbb⟩
        obtain ⟨_, ta', tc', hv', sT, hxT, hcT, _⟩ := own_seg own (M := 255) (by decide) hbdT
        cases hv'
        have xb : Below w.heap.size w wb := xJ.trans (hbb.mono xJ.size)
        have S1 : SegZ wb qa P := S0.old hbb
        have D1 : De wb bd 288 zs := hDJ.keep (hbb.block bd hDJ.lt)
        have G1 : WrL wb bw B v (PB zs P) := GW.kp (S := fun _ => False) (Kp.of_below hbb) (by simp) (by simp)
        obtain ⟨T, hTT⟩ : ∃ T, T = toB (PB zs P) := ⟨_, rfl⟩
        have HT : Hid (T = toB (PB zs P)) := hTT
        rw [← hTT] at sT hcT hTl ⊢
        clear hTT own GW OP S0 hDJ hbb hbdT
        obtain ⟨wq, hwq⟩ : ∃ wq, wq = wb.alloc (.cells #[.int .u64 0, .int .i64 0, .int .i64 0] 63) := ⟨_, rfl⟩
        obtain ⟨q, hq⟩ : ∃ q, q = wb.heap.size := ⟨_, rfl⟩
        have hRq : Rd wq q [] 0 := Rd.new (by rw [hwq, hq]; exact heap_new _ _)
        have bq : Below wb.heap.size wb wq := by rw [hwq]; exact (Below.refl _ _).alloc (Nat.le_refl _) _
        have sq : Seg wq ta T := sT.old bq
        have S2 : SegZ wq qa P := S1.old bq
        have D2 := D1.keep (bq.block bd D1.lt)
        have G2 : WrL wq bw B v (PB zs P) := G1.kp (S := fun _ => False) (Kp.of_below bq) (by simp) (by simp)
        have x2 : Below w.heap.size w wq := xb.trans (bq.mono xb.size)
        have HF : Hid ((∀ g off, ta = some ⟨g, off, none⟩ → g ≠ q) ∧ (∀ g off, qa = some ⟨g, off, none⟩ → 0 < P.length → g ≠ q) ∧ bd ≠ q ∧ bw ≠ q ∧ (∀ i, v.ownBlock = some i → i ≠ q) ∧ w.heap.size ≤ q) := by
          refine ⟨fun g off e e2 => ?_, fun g off e hl e2 => ?_, ?_, ?_, fun i e e2 => ?_, ?_⟩
          · have := (hxT _ e).2.2.2; simp at this; omega
          · have := S1.lt g off e hl; omega
          · have := D1.lt; omega
          · have := G1.b_lt; omega
          · have := (G1.own_lt i e).2.1; omega
          · have := xb.size; omega
        have HWQ : Hid (wq = wb.alloc (.cells #[.int .u64 0, .int .i64 0, .int .i64 0] 63)) := hwq
        have HQQ : Hid (q = wb.heap.size) := hq
        have hTlen : T.length ≤ 41048434102439 := by omega
        clear hwq hq hxT sT S1 D1 G1 bq xb hTl AP EJ xJ
        go_wp2_with fail
        rw [← HWQ.out, ← HQQ.out]
        go_loopw [17, 18, 83] (fun tf tk tj wr => ∃ (i fed kk : Nat) (H : List Bool), i ≤ k ∧ tj = .int .i64 (i : Int) ∧ tf = .int .i64 (fed : Int) ∧ tk = .int .i64 (kk : Int) ∧ fed ≤ T.length ∧ kk ≤ fed ∧ Rd wr q H (PB zs (P.take i)).length ∧ Hid (PB zs (P.take i) ++ H = bB (T.take fed)) ∧ Kp (fun x => x = q) wq wr) (fun _ _ tj _ => k - (intOf tj).toNat)
        case atStart => exact ⟨0, 0, 0, [], Nat.zero_le _, rfl, rfl, rfl, Nat.zero_le _, Nat.zero_le _, hRq, (rfl : _ = _), Kp.refl _ _⟩
        case round =>
          obtain ⟨i, fed0, kk0, H0, hik, rfl, rfl, rfl, hf0, hk0, hR0, HQ0, K0⟩ := hrel
          clear hRq HWQ HQQ
          by_cases hlt : i < k
          · have hlti : (i : Int) < (k : Int) := by omega
            have hiP : i < P.length := by have := HPk.out; omega
            obtain ⟨gp, op, rfl, cp⟩ := (S2.kp K0 (fun g off e h => HF.out.2.1 g off e h)).at_ i hiP
            have hmem : P.getD i 0 ∈ P := by rw [List.getD_eq_getElem?_getD, List.getElem?_eq_getElem hiP]; exact List.getElem_mem hiP
            obtain ⟨sy, hsy, hsz, _, hs0⟩ := costV_pos (HPP.out _ hmem).1
            rw [hsy] at cp
            have HSY : Hid (P.getD i 0 = (sy : Int) ∧ sy < zs.length ∧ zs.getD sy 0 ≠ 0) := ⟨hsy, hsz, hs0⟩
            clear hmem hsy hsz hs0
            go_wp2_with fail
            go_loopw [17, 18] (fun tf tk wr => ∃ (fed kk : Nat) (H : List Bool), tf = .int .i64 (fed : Int) ∧ tk = .int .i64 (kk : Int) ∧ fed ≤ T.length ∧ kk ≤ fed ∧ Rd wr q H (PB zs (P.take i)).length ∧ Hid (PB zs (P.take i) ++ H = bB (T.take fed)) ∧ Kp (fun x => x = q) wq wr) (fun tf _ _ => T.length - (intOf tf).toNat)
            case atStart => exact ⟨fed0, kk0, H0, rfl, rfl, hf0, hk0, hR0, HQ0, K0⟩
            case round =>
              obtain ⟨fed, kk, H, rfl, rfl, hf, hkk, hR, HQ, KR⟩ := hrel
              clear hR0 HQ0 K0 hf0 hk0 cp
              have DR : De wr bd 288 zs := D2.keep (KR.block bd D2.lt HF.out.2.2.1)
              have ht : (PB zs (P.take i)).length ≤ 4611686018427387000 := by
                have h1 := PB_len HOK.out (P.take i)
                have h2 : (P.take i).length ≤ i := by rw [List.length_take]; omega
                omega
              have CN := next5_any bd 288 zs q H _ wr DR hR ht
              have hle := hR.le
              by_cases hHk : ln zs sy ≤ H.length
              · have hbeg := held_beg HOK.out hiP HSY.out.1 HSY.out.2.1 HSY.out.2.2 (by rw [HQ.out, HT.out]) hHk
                have HB : Hid _ := hbeg
                clear hbeg
                go_wp2_with fail
                refine CN.mono ?_
                rintro e wN ⟨hN, kN⟩
                rcases hN with ⟨s', hs', rfl, rN⟩ | ⟨hs', _⟩ | ⟨hs', _⟩
                · obtain rfl := beg_one (errS_zero (errC_zero HOK.out).1).2 hs' HB.out.1
                  clear hs'
                  rw [← HB.out.2.2] at rN
                  go_wp2_with fail
                  go_roundw
                  case rel => exact ⟨i + 1, fed, kk, H.drop (ln zs s'), by omega, by go_num, rfl, rfl, hf, hkk, rN, (by show _ = _; rw [HB.out.2.1, HT.out]), KR.trans (S' := fun x => x = q) kN (fun _ _ e => e)⟩
                  case measure => simp [intOf]; omega
                · exact absurd HB.out.1 (hs' _)
                · exact absurd HB.out.1 (hs' _)
              · have hmay := held_may HOK.out hiP HSY.out.1 HSY.out.2.1 HSY.out.2.2 (by rw [HQ.out, HT.out]) (Nat.lt_of_not_le hHk)
                have hl15 : ln zs sy ≤ 15 := ((errS_zero (errC_zero HOK.out).1).2.ln sy).2
                have hlo : fed < T.length := by rw [HT.out]; exact hmay.2.2
                have HMY : Hid ((∀ s, ¬ Beg zs H s) ∧ May zs H) := ⟨hmay.1, hmay.2.1⟩
                have hH15 : H.length < 15 := by omega
                clear hmay hHk hl15
                obtain ⟨rest, hrest⟩ : ∃ r : Nat, r = T.length - fed := ⟨_, rfl⟩
                have hrI : (T.length : Int) - (fed : Int) = (rest : Int) := by omega
                have hr1 : 1 ≤ rest := by omega
                have sR : Seg wr ta T := sq.kp KR (fun g off e _ => HF.out.1 g off e)
                have xR : Below w.heap.size w wr := x2.trans (KR.below (fun x e => by have := HF.out; omega) x2.size)
                obtain ⟨tg, toff, rfl, _⟩ := sR.at_ fed hlo
                have hcase : ((np : Int) ≤ (kk : Int) ∧ rest = rest) ∨ (((kk : Int) < (np : Int)) ∧ ps.getD kk 0 < 1) ∨ (((kk : Int) < (np : Int)) ∧ ¬ ps.getD kk 0 < 1 ∧ ps.getD kk 0 < (rest : Int)) ∨ (((kk : Int) < (np : Int)) ∧ ¬ ps.getD kk 0 < 1 ∧ ¬ ps.getD kk 0 < (rest : Int)) := by omega
                go_wp2_with fail
                refine CN.mono ?_
                rintro e wN ⟨hN, kN⟩
                rcases hN with ⟨s', hs', _⟩ | ⟨_, _, rfl, rN⟩ | ⟨_, hm', _⟩
                · exact absurd hs' (HMY.out.1 _)
                · have KN : Kp (fun x => x = q) wq wN := KR.trans (S' := fun x => x = q) kN (fun _ _ e => e)
                  have sN : Seg wN (some ⟨tg, toff, none⟩) T := sR.kp kN (fun g off e _ => HF.out.1 g off e)
                  have xN : Below w.heap.size w wN := xR.trans (kN.below (fun x e => by have := HF.out; omega) xR.size)
                  have hOld := hp.old xN
                  have hpbd := hp.bd kk
                  have CFA : Hid (∀ sz : Nat, sz ≤ rest → Calls Try.prog 29 #[.pointer (some ⟨q, 0, none⟩), .slice (some ⟨tg, toff + fed, none⟩) sz (tc - fed)] wN fun e w' => e = .returned (.int .i64 (feedN H sz : Int)) ∧ Rd w' q (H ++ bB (((T.drop fed).take sz).take (feedN H sz))) (PB zs (P.take i)).length ∧ (Kp (fun k => k = q) wN w')) := by
                    intro sz hsz
                    have hl2 : ((T.drop fed).take sz).length = sz := by rw [List.length_take, List.length_drop]; omega
                    have := feed_any q H _ (some ⟨tg, toff + fed, none⟩) ((T.drop fed).take sz) (tc - fed) wN rN ((sN.drop fed).take sz) (by omega) (by intro g off e hp; cases e; exact HF.out.1 tg toff rfl) (by omega)
                    rw [hl2] at this
                    exact this
                  have HRS : Hid (rest = T.length - fed) := hrest
                  clear hrest CN kN KR sR xR hR DR
                  obtain ⟨z, hzz⟩ : ∃ z, z = ps.getD kk 0 := ⟨_, rfl⟩
                  rw [← hzz] at hcase hpbd
                  rcases hcase with ⟨hkp, _⟩ | ⟨hkp, hz⟩ | ⟨hkp, hz, hz2⟩ | ⟨hkp, hz, hz2⟩
                  case' inl =>
                    obtain ⟨sz, hsz⟩ : ∃ s : Nat, s = rest := ⟨_, rfl⟩
                    rw [← hsz] at hrI
                    have hszr : sz ≤ rest := by omega
                    have hsz1 : 1 ≤ sz := by omega
                    clear hsz hOld hzz
                  case' inr.inl =>
                    obtain ⟨pg, po, rfl, hpc⟩ := hOld.at_ kk (by have := HP.out; omega)
                    rw [← hzz] at hpc
                    clear hzz
                    obtain ⟨sz, hsz⟩ : ∃ s : Nat, s = rest := ⟨_, rfl⟩
                    rw [← hsz] at hrI
                    have hszr : sz ≤ rest := by omega
                    have hsz1 : 1 ≤ sz := by omega
                    clear hsz hOld
                  case' inr.inr.inl =>
                    obtain ⟨pg, po, rfl, hpc⟩ := hOld.at_ kk (by have := HP.out; omega)
                    rw [← hzz] at hpc
                    clear hzz
                    obtain ⟨sz, rfl⟩ : ∃ s : Nat, z = s := ⟨z.toNat, by omega⟩
                    have hz3 : (1 : Int) ≤ (sz : Int) := by omega
                    have hszr : sz ≤ rest := by omega
                    have hsz1 : 1 ≤ sz := by omega
                    clear hOld
                  case' inr.inr.inr =>
                    obtain ⟨pg, po, rfl, hpc⟩ := hOld.at_ kk (by have := HP.out; omega)
                    rw [← hzz] at hpc
                    clear hzz
                    obtain ⟨sz, hsz⟩ : ∃ s : Nat, s = rest := ⟨_, rfl⟩
                    have hz3 : 1 ≤ z := by omega
                    rw [← hsz] at hrI hz2
                    have hszr : sz ≤ rest := by omega
                    have hsz1 : 1 ≤ sz := by omega
                    clear hsz hOld
                  all_goals
                    have CF := CFA.out sz hszr
                    have hm1 : feedN H sz ≤ sz := by unfold feedN; omega
                    have hm2 : 1 ≤ feedN H sz := by unfold feedN; omega
                    have hszT : fed + sz ≤ T.length := by have := HRS.out; omega
                    have hszI : (fed : Int) + (sz : Int) ≤ (tc : Int) := by omega
                    have hfT : (fed : Int) ≤ (T.length : Int) := by omega
                    clear CFA hszr
                    go_wp2_with fail
                    refine CF.mono ?_
                    rintro e wF ⟨rfl, hR2, kF⟩
                    have HNN : Hid (PB zs (P.take i) ++ (H ++ bB (((T.drop fed).take sz).take (feedN H sz))) = bB (T.take (fed + feedN H sz))) := by
                      show _ = _
                      rw [← List.append_assoc, HQ.out, ← bB_append, List.take_take, Nat.min_eq_left hm1, List.take_add]
                    generalize (H ++ bB (((T.drop fed).take sz).take (feedN H sz))) = H2 at *
                    generalize feedN H sz = m2 at *
                    have hm0 : ¬ (m2 : Int) ≤ 0 := by omega
                    have hm4 : ¬ (sz : Int) < (m2 : Int) := by omega
                    clear CF
                    go_wp2_with fail
                    go_roundw
                    case rel => exact ⟨fed + m2, kk + 1, H2, by go_num, by go_num, by omega, by omega, hR2, HNN, KN.trans (S' := fun x => x = q) kF (fun _ _ e => e)⟩
                    case measure => simp [intOf]; omega
                · exact absurd HMY.out.2 hm'
          · have hik2 : i = k := by omega
            subst hik2
            have hge : (i : Int) ≤ (i : Int) := Int.le_refl _
            have eTk : P.take i = P := List.take_of_length_le (by have := HPk.out; omega)
            rw [eTk] at hR0
            have GR : WrL wr bw B v (PB zs P) := G2.kp K0 HF.out.2.2.2.1 (fun x e => HF.out.2.2.2.2.1 x e)
            have xR : Below w.heap.size w wr := x2.trans (K0.below (fun x e => by have := HF.out; omega) x2.size)
            clear eTk HQ0 K0 hlt
            go_wp2_with fail
            refine (taken_any q H0 _ wr hR0).mono ?_
            rintro e w1 ⟨rfl, hw1⟩
            subst w1
            go_wp2_with fail
            refine (len_any bw B v _ wr GR (by omega)).mono ?_
            rintro e wl ⟨rfl, bl⟩
            have xl : Below w.heap.size w wl := xR.trans (bl.mono xR.size)
            go_wp2_with fail
            refine (lives5_any _).mono ?_
            rintro e wv ⟨rfl, bv⟩
            go_wp2
            go_ret
            exact ⟨rfl, xl.trans (bv.mono xl.size)⟩
  · have HNK : Hid (¬ errC zs = 0) := hok
    have key : ∀ E : Int, E = 50 ∨ E = 51 ∨ E = 52 → errC zs = E → Calls Try.prog 7 #[.slice a n ca, .slice b m cb, .slice pa np pc] w fun e w' => e = .returned (.bool true) ∧ Below w.heap.size w w' := by
      intro E hE hEE
      have HEE : Hid (errC zs = E) := hEE
      clear hEE hok
      rcases hE with rfl | rfl | rfl
      all_goals
        go_enter Try.func7, Try.ntmps7
        go_wp2_with fail
        refine (check_any a zs n ca HN w hs (by omega)).mono ?_
        rintro e w1 ⟨rfl, B1⟩
        rw [HEE.out]
        go_wp2_with fail
        refine (rcheck_any a zs n ca HN w1 (hs.old B1) (by omega)).mono ?_
        rintro e w2 ⟨rfl, hw2⟩
        subst w2
        rw [HEE.out]
        go_wp2
        go_ret
        exact ⟨rfl, B1⟩
    rcases errC_cases zs with h | h | h | h
    · exact absurd h hok
    · exact key 50 (.inl rfl) h
    · exact key 51 (.inr (.inl rfl)) h
    · exact key 52 (.inr (.inr rfl)) h
end Go.Proofs.Ytkjccbihdinlkaa
