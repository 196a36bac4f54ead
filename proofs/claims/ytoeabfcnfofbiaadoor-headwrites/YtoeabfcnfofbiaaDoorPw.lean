import Derived.Test.YtoeabfcnfofbiaaDoorPv
import Derived.Deep.RegionLaw
import Derived.Deep.AppendLies
import Derived.Test.YtoeabfcnfofbiaaDoorPc
import Derived.WalkLawsBesides
import Derived.Test.YtoeabfcnfofbiaaDoorPb
import Derived.Lib.SmallJoins
import Derived.Test.YtoeabfcnfofbiaaDoorProg
import Derived.Test.YtoeabfcnfofbiaaDoorPa
import Derived.Test.YtoeabfcnfofbiaaDoorPr
import Derived.WalkKit
import Derived.WalkSpells
import Derived.Deep.QuietTactic
import Derived.BigQuiet
namespace Go.Proofs.YtoeabfcnfofbiaaDoor
open Go.RowKit
set_option linter.unusedVariables false

/-! The document's Write. -/
def DwQ (w : World) (bx B : Nat) (u : Value) (L : List Bool) (lit dist : List Int) (e : Ending) (w' : World) : Prop := e = .returned (.int .i64 (if tld8 errC lit dist then 0 else 80)) ∧ RwI w w' bx B u (L ++ if tld8 errC lit dist then hd8 lit dist else [])
theorem seg_ord8 (w : World) : SegZ (w.alloc (.cells (ord8.map (Value.int .i64)).toArray 3)) (some ⟨w.heap.size, 0, none⟩) ordL := by
  refine ⟨fun i hi => ⟨w.heap.size, 0, rfl, ?_⟩, getD_bdz (by decide)⟩
  rw [Nat.zero_add, cell_of_row _ _ i _ _ _ (heap_alloc_new w _)]
  have : ord8 = ordL := rfl
  rw [this]
  simp [List.getD, hi]
set_option maxRecDepth 100000 in
set_option maxHeartbeats 4000000 in
theorem rwrite8 (bx B : Nat) (u : Value) (L : List Bool) (lit dist : List Int) (a b : Option Addr) (n m ca cb : Nat) (hn : Hid (lit.length = n)) (hm : Hid (dist.length = m)) (w : World) (hw : RwL w bx B u L) (hL : L.length ≤ 140737488300000) (hx : SegZ w a lit) (hy : SegZ w b dist) (hca : n ≤ ca) (hcb : m ≤ cb) (hna : a = none → ca = 0) (hnb : b = none → cb = 0) :
    Calls Tryd.prog 23 #[.pointer (some ⟨bx, 0, none⟩), .slice a n ca, .slice b m cb] w (DwQ w bx B u L lit dist) := by
  have CT := rtold8 errC (fun a zs n cap w h1 h2 h3 => rcheck_any a zs n cap h1 w h2 (by omega)) lit dist a b n m ca cb hn hm w hx hy
  have HX : Hid (SegZ w a lit) := hx
  have HY : Hid (SegZ w b dist) := hy
  have HWR : Hid (RwL w bx B u L) := hw
  have hbl := hw.b_lt
  have HOW := hw.own_lt
  clear hx hy hw
  by_cases ht : tld8 errC lit dist
  · rw [decide_eq_true ht] at CT
    have HQ : Hid (∀ w', RwI w w' bx B u (L ++ hd8 lit dist) → DwQ w bx B u L lit dist (.returned (.int .i64 0)) w') := fun w' h => by
      unfold DwQ
      rw [if_pos ht, if_pos ht]
      exact ⟨rfl, h⟩
    have HHD : Hid (hd8 lit dist = bN ((sht8 lit 257).length - 257) 5 ++ bN ((sht8 dist 1).length - 1) 5 ++ bN (tol8 (sz8 lit dist) 19 - 4) 4 ++ szb8 (sz8 lit dist) (tol8 (sz8 lit dist) 19) ++ rnb8 (sz8 lit dist) (rs8 lit dist)) := rfl
    obtain ⟨_, _, hmay, hal, hbl2⟩ := tld8_ok ht
    have hR := runs8_ok hmay
    have hE := fr8_err lit dist ht
    have hZ := sz8_ok ht
    have hto := tol8_bd (sz8 lit dist) 19 (by omega)
    have hcx := cmx8_tol (sz8 lit dist) 19 (by omega)
    have hn286 : n ≤ 286 ∧ m ≤ 30 := by
      obtain ⟨_, h2, h3, _⟩ := ht
      rw [hn.out] at h2
      rw [hm.out] at h3
      exact ⟨h2, h3⟩
    obtain ⟨i0, hi, hz0, hz1, hz2⟩ := info_parts info_int
    have hmk : ∀ W, (Instr.makeSlice 22 (.int .i64 19) (.int .i64 19)).run Tryd.prog W = .ok (.slice (some ⟨W.heap.size, 0, none⟩) 19 19) (W.alloc (.cells (Array.replicate 19 (.int .i64 0)) 3)) := fun W => run_make_ints 19 (by omega) W
    clear ht
    go_enter Tryd.func23, Tryd.ntmps23
    go_wp2_with fail
    refine CT.mono ?_
    rintro e w' ⟨rfl, hw'⟩
    subst w'
    clear CT
    go_wp2_with fail
    refine (rshort8 lit 257 a n ca hn w HX.out hna hca (by omega) (by omega)).mono ?_
    rintro e w2 ⟨oa, oc, rfl, OA2, B2⟩
    obtain ⟨A, hA⟩ : ∃ A, A = sht8 lit 257 := ⟨_, rfl⟩
    obtain ⟨D, hD⟩ : ∃ D, D = sht8 dist 1 := ⟨_, rfl⟩
    have HAB : Hid (sht8 lit 257 = A ∧ sht8 dist 1 = D) := ⟨hA.symm, hD.symm⟩
    obtain ⟨kA, hnA⟩ : ∃ kA, A.length = kA + 257 := ⟨A.length - 257, by rw [hA]; omega⟩
    obtain ⟨kB, hnB⟩ : ∃ kB, D.length = kB + 1 := ⟨D.length - 1, by rw [hD]; omega⟩
    have HLA : Hid (A.length = kA + 257) := hnA
    have HLB : Hid (D.length = kB + 1) := hnB
    have hbA : kA ≤ 29 ∧ kB ≤ 29 := by
      rw [hA] at hnA
      rw [hD] at hnB
      omega
    rw [HAB.out.1, HLA.out] at OA2
    rw [HAB.out.1, HLA.out]
    rw [HAB.out.1, HAB.out.2, HLA.out, HLB.out, show kA + 257 - 257 = kA by omega, show kB + 1 - 1 = kB by omega] at HHD
    clear hA hD hnA hnB
    go_wp2_with fail
    refine (rshort8 dist 1 b m cb hm w2 ((show SegZ w b dist from HY.out).old B2) hnb hcb (by omega) (by omega)).mono ?_
    rintro e w3 ⟨pa, pc, rfl, OB3, B3⟩
    have x3 : Below w.heap.size w w3 := B2.trans (B3.mono B2.size)
    rw [HAB.out.2, HLB.out] at OB3
    rw [HAB.out.2, HLB.out]
    have hAM : ∀ z ∈ A, -9223372036854775808 ≤ z ∧ z ≤ 9223372036854775807 := fun z hz => by
      have := hmay.2 z (by unfold rw8; rw [HAB.out.1]; exact List.mem_append_left _ hz)
      omega
    have hBM : ∀ z ∈ D, -9223372036854775808 ≤ z ∧ z ≤ 9223372036854775807 := fun z hz => by
      have := hmay.2 z (by unfold rw8; rw [HAB.out.2]; exact List.mem_append_right _ hz)
      omega
    have hm0 : (w3.alloc (.cells #[] 3)).ownsRow w3.heap.size 3 1 (.slice (some ⟨w3.heap.size, 0, none⟩) 0 0) 0 [] := World.ownsRow_made w3 #[] 0 (Nat.le_refl _) (by decide) rfl
    have SA4 : SegZ (w3.alloc (.cells #[] 3)) oa A := ((own_segZ OA2 hAM).old B3).alloc _
    have SB3 := own_segZ OB3 hBM
    have hon : oa = none → oc = 0 := fun e => by
      obtain ⟨g, _, _⟩ := own_shape1 OA2 (by omega)
      simp_all
    have hpn : pa = none → pc = 0 := fun e => by
      obtain ⟨g, _, _⟩ := own_shape1 OB3 (by omega)
      simp_all
    have b34 := below_box8 w3 (.cells #[] 3)
    have HSB : Hid (∀ W, Below w3.heap.size w3 W → SegZ W pa D) := fun W hW => SB3.old hW
    clear OA2 OB3 B2 B3 SB3
    rw [← HLA.out, ← HLB.out]
    go_wp2_with (first
      | (at_builtin; refine wpList_appZ rfl (.tmp 30) (.tmp 31) 22 rfl w3.heap.size 3 i0 (.int .i64 0) 8 Tryd.underlying22 hi hz0 hz1 hz2 rfl hm0 SA4 hon rfl rfl (by rw [HLA.out]; omega) (by rw [HLA.out]; omega) (by simp) ?_; intro qa qc w4 OQ4 hg4 _ _; have B4 := b34.trans ((Below.refl w3.heap.size _).grown hg4 (by simp) (fun k hk => by cases hk; exact Nat.le_refl _)); rw [Nat.zero_add, List.nil_append] at OQ4; rw [Nat.zero_add])
      | (at_builtin; refine wpList_appZ rfl (.tmp 32) (.tmp 33) 22 rfl w3.heap.size 3 i0 (.int .i64 0) 8 Tryd.underlying22 hi hz0 hz1 hz2 rfl OQ4 (HSB.out _ B4) hpn rfl rfl (by rw [HLA.out, HLB.out]; omega) (by rw [HLA.out, HLB.out]; omega) B4.size ?_; intro ra2 rc2 w5 OQ5 hg5 _ _))
    have B5 : Below w3.heap.size w3 w5 := B4.trans ((Below.refl w3.heap.size _).grown hg5 B4.size (fun k hk => (OQ4.lt k hk).1))
    have x5 : Below w.heap.size w w5 := x3.trans (B5.mono x3.size)
    have HRW : Hid (A ++ D = rw8 lit dist) := by show _ = _; unfold rw8; rw [HAB.out.1, HAB.out.2]
    rw [← List.map_append, HRW.out] at OQ5
    have SQ5 : SegZ w5 ra2 (rw8 lit dist) := own_segZ OQ5 (fun z hz => by have := hmay.2 z hz; omega)
    have HLQ : Hid ((rw8 lit dist).length = A.length + D.length) := by show _ = _; rw [← HRW.out, List.length_append]
    clear OQ4 hg4 hg5 OQ5 B4 b34 hm0 SA4 HSB B5
    have CR := rruns8 (rw8 lit dist) ra2 (A.length + D.length) rc2 HLQ w5 SQ5
    have HRR : Hid (rns8 (rw8 lit dist) = rs8 lit dist ∧ rer8 (rw8 lit dist) = 0) := by
      unfold rns8 rer8
      rw [if_pos hmay, if_pos hmay]
      exact ⟨rfl, rfl⟩
    rw [HRR.out.1, HRR.out.2] at CR
    obtain ⟨Z, hZe⟩ : ∃ Z, Z = sz8 lit dist := ⟨_, rfl⟩
    obtain ⟨R, hRe⟩ : ∃ R, R = rs8 lit dist := ⟨_, rfl⟩
    have HOKR : Hid (∀ r ∈ rs8 lit dist, ok8 r) := fun r hr => hR.1 r hr
    have hR3 : (rs8 lit dist).length ≤ 320 := by have := hR.2; have := hmay.1; unfold rs8; omega
    have HFR : Hid (fr8 lit dist = tly8 (rs8 lit dist)) := rfl
    rw [← hZe] at HHD hE hZ hto hcx
    rw [← hRe] at HHD hZ CR HOKR hR3 HFR
    have HRZ : Hid (lensR 7 (tly8 R) = Z ∧ errL 7 (tly8 R) = 0) := by rw [← HFR.out]; exact ⟨hE.2.2.2, hE.2.2.1⟩
    clear hZe hRe hE hR HFR
    obtain ⟨nR, hnR⟩ : ∃ nR, nR = R.length := ⟨_, rfl⟩
    have HNR : Hid (R.length = nR) := hnR.symm
    rw [← hnR] at hR3
    clear hnR SQ5
    go_wp2_with fail
    refine CR.mono ?_
    rintro e w6 ⟨ra, rc, rfl, OR6, B6⟩
    rw [HNR.out] at OR6
    rw [HNR.out]
    have x6 : Below w.heap.size w w6 := x5.trans (B6.mono x5.size)
    have SR6 : SegN w6 ra R := own_segN OR6 HNR.out
    have hrg : ∀ g o, ra = some ⟨g, o, none⟩ → w.heap.size ≤ g := fun g o e => Nat.le_trans x5.size (own_blk28 OR6 _ e)
    clear CR OR6 B6
    go_wp2_with fail
    have O7 := own_zeros w6 19 (by omega)
    have B7 := below_box8 w6 (.cells (Array.replicate 19 (.int .i64 0)) 3)
    generalize w6.alloc (.cells (Array.replicate 19 (.int .i64 0)) 3) = w7 at *
    go_loopw [12] (fun ti wr => ∃ i : Nat, i ≤ nR ∧ ti = .int .i64 (i : Int) ∧ wr.ownsRow w6.heap.size 3 1 (.slice (some ⟨w6.heap.size, 0, none⟩) 19 19) 19 ((tly8 (R.take i)).map (Value.int .i64)) ∧ Below w6.heap.size w6 wr) (fun ti _ => nR - (intOf ti).toNat)
    case atStart => exact ⟨0, by omega, rfl, by rw [List.take_zero]; exact O7, B7⟩
    case round =>
      obtain ⟨i, hin, rfl, OO, BR⟩ := hrel
      clear O7 B7
      by_cases hlt : i < nR
      · have hlti : (i : Int) < (nR : Int) := by omega
        have hil : i < R.length := by rw [HNR.out]; exact hlt
        obtain ⟨rb, off, rfl, cs, cc⟩ := (SR6.old BR).at_ i hil
        have HTK : Hid (R.take (i + 1) = R.take i ++ [R.getD i ⟨0, 0⟩]) := take_snocN hil
        have hbd := HOKR.out (R.getD i ⟨0, 0⟩) (by simp [List.getD, hil])
        generalize R.getD i ⟨0, 0⟩ = r at *
        obtain ⟨sy, ct⟩ := r
        simp only [ok8] at cs cc hbd
        obtain ⟨s, rfl⟩ : ∃ s : Nat, sy = (s : Int) := ⟨sy.toNat, by omega⟩
        have hs19 : (s : Int) < 19 := by omega
        have hzb := tly8_bd (R.take i) ((tly8 (R.take i)).getD s 0) (by have : s < (tly8 (R.take i)).length := by rw [tly8_len]; omega
                                                                        simp [List.getD, this])
        rw [List.length_take] at hzb
        have HSN : Hid (tly8 (R.take (i + 1)) = (tly8 (R.take i)).set s ((tly8 (R.take i)).getD s 0 + 1)) := by
          show _ = _
          rw [HTK.out, tly8_snoc _ (by omega)]
        obtain ⟨d0, fz⟩ := own_cell1 OO (i := s) (by rw [tly8_len]; omega)
        have f0 := fz s
        obtain ⟨OS, GS⟩ := OO.stored s (.int .i64 ((tly8 (R.take i)).getD s 0 + 1))
        rw [← List.map_set, ← HSN.out] at OS
        have HB : Hid (Below w6.heap.size w6 (wr.setCell ⟨w6.heap.size, s, none⟩ (.int .i64 ((tly8 (R.take i)).getD s 0 + 1)))) := BR.trans ((Below.refl _ _).grown GS BR.size (fun k hk => by cases hk; exact Nat.le_refl _))
        have HOS : Hid _ := OS
        clear OS GS fz HSN HTK
        generalize (tly8 (R.take i)).getD s 0 = z at *
        go_wp2_with fail
        go_roundw
        case rel => exact ⟨i + 1, by omega, by go_num, HOS.out, HB.out⟩
        case measure => simp [intOf]; omega
      · have hge : ¬ (i : Int) < (nR : Int) := by omega
        have hTA : R.take i = R := List.take_of_length_le (by rw [HNR.out]; omega)
        rw [hTA] at OO
        have HF19 : Hid ((tly8 R).length = 19) := tly8_len _
        have SF : SegZ wr (some ⟨w6.heap.size, 0, none⟩) (tly8 R) := own_segZ OO (fun z hz => by have := tly8_bd _ z hz; have h3 := HNR.out; omega)
        have CL := rlengths_far 7 (some ⟨w6.heap.size, 0, none⟩) (tly8 R) 19 19 HF19 wr SF (by omega)
        unfold LenF at CL
        obtain ⟨hZC, hZ19, hZb, hZn⟩ := hZ
        rw [HRZ.out.1, HRZ.out.2, hZ19] at CL
        have x8 : Below w.heap.size w wr := x6.trans (BR.mono x6.size)
        have SR8 := SR6.old BR
        generalize wr = w8 at *
        clear SF OO BR SR6 hTA
        go_wp2_with fail
        refine CL.mono ?_
        rintro e w9 ⟨zb, zc, rfl, SZ9, hzf, B9⟩
        have x9 : Below w.heap.size w w9 := x8.trans (B9.mono x8.size)
        have hzg : ∀ x, zb = some x → w.heap.size ≤ x.block := fun x e => Nat.le_trans x8.size (hzf x e)
        have SR9 := SR8.old B9
        clear CL hzf B9 SR8
        go_wp2_with fail
        refine (rorder8 w9).mono ?_
        rintro e W ⟨rfl, hW⟩
        have SOW : SegZ W (some ⟨w9.heap.size, 0, none⟩) ordL := by rw [hW]; exact seg_ord8 w9
        have BW : Below w9.heap.size w9 W := by rw [hW]; exact below_box8 w9 _
        have xW : Below w.heap.size w W := x9.trans (BW.mono x9.size)
        have SZW := SZ9.old BW
        have SRW := SR9.old BW
        have hog : w.heap.size ≤ w9.heap.size := x9.size
        clear hW SZ9 SR9 BW x9
        obtain ⟨zg, zo, hzb, _⟩ := SZW.at_ 0 (by omega)
        have hzgk : w.heap.size ≤ zg := hzg _ hzb
        subst hzb
        clear hzg
        go_wp2_with fail
        go_loopw [16, 17] (fun tc ti wr => ∃ i : Nat, i ≤ 19 ∧ ti = .int .i64 (i : Int) ∧ tc = .int .i64 (cmx8 Z i : Int) ∧ wr = W) (fun _ ti _ => 19 - (intOf ti).toNat)
        case atStart => exact ⟨0, by omega, rfl, rfl, rfl⟩
        case round =>
          obtain ⟨i, hi19, rfl, rfl, hwr⟩ := hrel
          have hwr2 : W = wr := hwr.symm
          subst hwr2
          clear hwr
          by_cases hlt : i < 19
          · have hlti : (i : Int) < 19 := by omega
            obtain ⟨ob, oo, eo, co⟩ := SOW.at_ i (by show i < 19; exact hlt)
            cases eo
            rw [Nat.zero_add] at co
            have hob := ord_bd ⟨i, hlt⟩
            simp only at hob
            have HC : Hid (cmx8 Z (i + 1) = if Z.getD (ordL.getD i 0).toNat 0 ≠ 0 ∧ cmx8 Z i < i + 1 then i + 1 else cmx8 Z i) := rfl
            have hcb := cmx8_bd Z i
            generalize cmx8 Z i = c at *
            generalize ordL.getD i 0 = oq at *
            obtain ⟨s, rfl⟩ : ∃ s : Nat, oq = (s : Int) := ⟨oq.toNat, by omega⟩
            rw [Int.toNat_natCast] at HC
            obtain ⟨_, _, ez, cz⟩ := SZW.at_ s (by omega)
            cases ez
            have hs19 : (s : Int) < 19 := by omega
            by_cases hz : Z.getD s 0 = 0
            · rw [hz] at cz
              have HC2 : Hid (cmx8 Z (i + 1) = c) := by show _ = _; rw [HC.out, if_neg (fun h => h.1 hz)]
              clear HC
              go_wp2_with fail
              go_roundw
              case rel => exact ⟨i + 1, by omega, by go_num, by rw [HC2.out], trivial⟩
              case measure => simp [intOf]; omega
            · have hzn : (Z.getD s 0 != 0) = true := by simpa using hz
              have hzb2 : (Z.getD s 0 == 0) = false := by rw [beq_eq_false_iff_ne]; exact hz
              by_cases hc : c < i + 1
              · have hci : (c : Int) < (i : Int) + 1 := by omega
                have HC2 : Hid (cmx8 Z (i + 1) = i + 1) := by show _ = _; rw [HC.out, if_pos ⟨hz, hc⟩]
                clear HC
                generalize Z.getD s 0 = z at *
                go_wp2_with fail
                go_roundw
                case rel => exact ⟨i + 1, by omega, by go_num, by rw [HC2.out]; go_num, trivial⟩
                case measure => simp [intOf]; omega
              · have hci : ¬ (c : Int) < (i : Int) + 1 := by omega
                have HC2 : Hid (cmx8 Z (i + 1) = c) := by show _ = _; rw [HC.out, if_neg (fun h => hc h.2)]
                clear HC
                generalize Z.getD s 0 = z at *
                go_wp2_with fail
                go_roundw
                case rel => exact ⟨i + 1, by omega, by go_num, by rw [HC2.out], trivial⟩
                case measure => simp [intOf]; omega
          · have hge : ¬ (i : Int) < 19 := by omega
            obtain rfl : i = 19 := by omega
            rw [hcx]
            generalize tol8 Z 19 = tq at *
            obtain ⟨kt, rfl⟩ : ∃ kt, tq = kt + 4 := ⟨tq - 4, by omega⟩
            rw [show kt + 4 - 4 = kt by omega] at HHD
            have HI0 : RwI W W bx B u L := RwI.start ((show RwL w bx B u L from HWR.out).below8 xW)
            have HK : Hid (∀ wr, Kp (WS bx u) W wr → SegZ wr (some ⟨zg, zo, none⟩) Z ∧ SegN wr ra R ∧ SegZ wr (some ⟨w9.heap.size, 0, none⟩) ordL) := fun wr hk => by
              have hfar : ∀ k, w.heap.size ≤ k → ¬ WS bx u k := fun k hk2 e => by
                rcases e with e | e
                · omega
                · have := (HOW k e).2.1; omega
              exact ⟨SZW.kp hk (fun g o e _ => by cases e; exact hfar _ hzgk), SRW.kp hk (fun g o e => hfar _ (hrg g o e)), SOW.kp hk (fun g o e _ => by cases e; exact hfar _ hog)⟩
            have HKA : Hid (kA < 2 ^ 5 ∧ kB < 2 ^ 5 ∧ kt < 2 ^ 4) := ⟨by omega, by omega, by omega⟩
            clear SZW SRW SOW hcx
            rw [HLA.out, HLB.out]
            go_wp2_with fail
            refine (rput8 HI0 kA 5 HKA.out.1 (by omega) (by omega)).mono ?_
            rintro e w2' ⟨rfl, HI1⟩
            clear HI0
            go_wp2_with fail
            refine (rput8 HI1 kB 5 HKA.out.2.1 (by omega) (by simp [bN_len]; omega)).mono ?_
            rintro e w3' ⟨rfl, HI2⟩
            clear HI1
            go_wp2_with fail
            refine (rput8 HI2 kt 4 HKA.out.2.2 (by omega) (by simp [bN_len]; omega)).mono ?_
            rintro e w4' ⟨rfl, HI3⟩
            clear HI2
            obtain ⟨M3, hM3⟩ : ∃ M3, M3 = L ++ bN kA 5 ++ bN kB 5 ++ bN kt 4 := ⟨_, rfl⟩
            have HM3 : Hid (M3 = L ++ bN kA 5 ++ bN kB 5 ++ bN kt 4) := hM3
            have hM3l : M3.length = L.length + 14 := by rw [hM3]; simp [bN_len]
            rw [← hM3] at HI3
            clear hM3
            go_wp2_with fail
            go_loopw [18] (fun ti wr => ∃ i : Nat, i ≤ kt + 4 ∧ ti = .int .i64 (i : Int) ∧ RwI W wr bx B u (M3 ++ szb8 Z i)) (fun ti _ => kt + 4 - (intOf ti).toNat)
            case atStart => exact ⟨0, by omega, rfl, by rw [szb8, List.append_nil]; exact HI3⟩
            case round =>
              obtain ⟨i, hit, rfl, HI⟩ := hrel
              clear HI3
              by_cases hlt : i < kt + 4
              · have hlti : (i : Int) < (kt : Int) + 4 := by omega
                obtain ⟨SZ, _, SO⟩ := HK.out wr HI.kp
                obtain ⟨ob, oo, eo, co⟩ := SO.at_ i (by show i < 19; omega)
                cases eo
                rw [Nat.zero_add] at co
                have hob := ord_bd ⟨i, by omega⟩
                simp only at hob
                have HSB2 : Hid (szb8 Z (i + 1) = szb8 Z i ++ bN (Z.getD (ordL.getD i 0).toNat 0).toNat 3) := rfl
                have hl3 := szb8_len Z i
                generalize ordL.getD i 0 = oq at *
                obtain ⟨s, rfl⟩ : ∃ s : Nat, oq = (s : Int) := ⟨oq.toNat, by omega⟩
                rw [Int.toNat_natCast] at HSB2
                obtain ⟨_, _, ez, cz⟩ := SZ.at_ s (by omega)
                cases ez
                have hzb := hZb s (by omega)
                generalize Z.getD s 0 = z at *
                obtain ⟨zn, rfl⟩ : ∃ zn : Nat, z = (zn : Int) := ⟨z.toNat, by omega⟩
                rw [Int.toNat_natCast] at HSB2
                have hs19 : (s : Int) < 19 := by omega
                have hi19 : (i : Int) < 19 := by omega
                have CPU := rput8 HI zn 3 (by omega) (by omega) (by rw [List.length_append, hl3]; omega)
                rw [List.append_assoc, ← HSB2.out] at CPU
                clear HI SO SZ HSB2
                go_wp2_with fail
                refine CPU.mono ?_
                rintro e w5' ⟨rfl, HI5⟩
                go_wp2_with fail
                go_roundw
                case rel => exact ⟨i + 1, by omega, by go_num, HI5⟩
                case measure => simp [intOf]; omega
              · have hge : ¬ (i : Int) < (kt : Int) + 4 := by omega
                obtain rfl : i = kt + 4 := by omega
                have hl3 := szb8_len Z (kt + 4)
                obtain ⟨M4, hM4⟩ : ∃ M4, M4 = M3 ++ szb8 Z (kt + 4) := ⟨_, rfl⟩
                have HJ : Hid (∀ wr, RwI W wr bx B u (M4 ++ rnb8 Z R) → DwQ w bx B u L lit dist (.returned (.int .i64 0)) wr) := fun wr h => by
                  refine HQ.out wr ?_
                  have e : L ++ hd8 lit dist = M4 ++ rnb8 Z R := by
                    rw [HHD.out, hM4, HM3.out]
                    simp only [List.append_assoc]
                  rw [e]
                  exact RwI.up xW h
                have hM4l : M4.length ≤ L.length + 80 := by rw [hM4, List.length_append, hl3]; omega
                rw [← hM4] at HI
                clear hM4 HQ HHD HM3
                have HI4 := HI
                go_wp2_with fail
                go_loopw [19] (fun ti wr => ∃ i : Nat, i ≤ nR ∧ ti = .int .i64 (i : Int) ∧ RwI W wr bx B u (M4 ++ rnb8 Z (R.take i))) (fun ti _ => nR - (intOf ti).toNat)
                case atStart => exact ⟨0, by omega, rfl, by rw [List.take_zero, rnb8, List.append_nil]; exact HI4⟩
                case round =>
                  clear HI4 HI
                  obtain ⟨i, hin, rfl, HI⟩ := hrel
                  by_cases hlt : i < nR
                  · have hlti : (i : Int) < (nR : Int) := by omega
                    have hil : i < R.length := by rw [HNR.out]; exact hlt
                    obtain ⟨SZ, SR, _⟩ := HK.out wr HI.kp
                    obtain ⟨rb, off, rfl, cs, cc⟩ := SR.at_ i hil
                    have HTK : Hid (R.take (i + 1) = R.take i ++ [R.getD i ⟨0, 0⟩]) := take_snocN hil
                    have hok := HOKR.out (R.getD i ⟨0, 0⟩) (by simp [List.getD, hil])
                    have hzn := hZn (R.getD i ⟨0, 0⟩) (by simp [List.getD, hil])
                    have hml : (M4 ++ rnb8 Z (R.take i)).length ≤ L.length + 8000 := by
                      have := rnb8_len hZC (R.take i)
                      rw [List.length_take] at this
                      rw [List.length_append]
                      omega
                    have hctl := ct8_lt hok
                    have HRB : Hid (M4 ++ rnb8 Z (R.take (i + 1)) = (M4 ++ rnb8 Z (R.take i)) ++ putB Z (R.getD i ⟨0, 0⟩).sy ++ bN ((R.getD i ⟨0, 0⟩).ct - lst8 (R.getD i ⟨0, 0⟩).sy).toNat (mor8 (R.getD i ⟨0, 0⟩).sy)) := by
                      show _ = _
                      rw [HTK.out, rnb8_app, rnb8, rnb8, List.append_nil]
                      simp only [List.append_assoc]
                    generalize M4 ++ rnb8 Z (R.take i) = MM at *
                    have HRC : Hid (∀ wr, Kp (WS bx u) W wr → wr.cell? ⟨rb, off + i * 2 + 1, none⟩ = some (.int .i64 (R.getD i ⟨0, 0⟩).ct)) := fun wr hk => by
                      obtain ⟨_, SR2, _⟩ := HK.out wr hk
                      obtain ⟨_, _, e2, _, c2⟩ := SR2.at_ i hil
                      cases e2
                      exact c2
                    generalize R.getD i ⟨0, 0⟩ = r at *
                    obtain ⟨sy, ct⟩ := r
                    simp only [ok8] at cs cc hok hctl HRB hzn HRC
                    obtain ⟨s, rfl⟩ : ∃ s : Nat, sy = (s : Int) := ⟨sy.toNat, by omega⟩
                    rw [Int.toNat_natCast] at hzn
                    obtain ⟨P, hP⟩ : ∃ P, P = putB Z (s : Int) := ⟨_, rfl⟩
                    have hPl : 1 ≤ P.length ∧ P.length ≤ 15 := by
                      have h1 := putB_le hZC (s : Int)
                      have h2 := putB_cost hZC (s : Int)
                      rw [costV_in (by omega)] at h2
                      rw [hP]
                      omega
                    obtain ⟨u7, h71, h72, h73⟩ := HI
                    obtain ⟨ua, uc, rfl, r7⟩ := h71
                    have CB : Hid (∀ W', Below wr.heap.size wr W' → Calls Tryd.prog 50 #[.slice (some ⟨zg, zo, none⟩) 19 zc, .int .i64 (s : Int)] W' fun e w' => ∃ b c, e = .returned (.slice b P.length c) ∧ w'.ownsRow W'.heap.size 4 1 (.slice b P.length c) P.length (P.map Value.bool) ∧ Below W'.heap.size W' w') := fun W' hW' => by
                      rw [hP]
                      exact bits5_any (some ⟨zg, zo, none⟩) Z 19 zc hZ19 (s : Int) W' (SZ.old hW') hZC (by omega) (by omega)
                    rw [← hP] at HRB
                    clear hP SZ SR HTK cc
                    have hd0 := r7.cell0
                    have hdf := r7.free 0
                    have hr7 := r7.ne
                    have hB7 := r7.bB
                    have hl7 := r7.b_lt
                    obtain ⟨ib, hib, hb0, hb1, hb2⟩ := info_parts info_b1
                    have hbt : Below wr.heap.size wr wr.drew := (Below.refl _ _).drew
                    have hwd : wr.drew.heap.size = wr.heap.size := rfl
                    have HRB7 : Hid (RB wr bx B 56 [] ua uc MM) := r7
                    clear r7
                    go_wp2_with fail
                    go_region_law
                      (first
                        | (go_simp
                           go_at_call 50
                           refine (CB.out _ hbt).mono ?_
                           rintro e w6' ⟨b6, c6, rfl, O6, B6⟩
                           have B6w : Below wr.heap.size wr w6' := hbt.trans (B6.mono (Nat.le_refl _))
                           obtain ⟨g6, rfl, hc6, hg6, hg6l⟩ := own_shape1 O6 hPl.1
                           have e0 := (B6w.cell (p := ⟨bx, 0, none⟩) hl7).trans hd0
                           have ef := (B6w.frozen (p := ⟨bx, 0, none⟩) hl7).trans hdf
                           have r6 : RB w6' bx B 56 [] ua uc MM := HRB7.out.kp (kp_of_below B6w (fun _ => False)) (fun h => h) (fun _ _ h => h)
                           have hr6l := r6.b_lt
                           have HR6 : Hid (RB w6' bx B 56 [] ua uc MM) := r6
                           have HO6 : Hid (w6'.ownsRow wr.drew.heap.size 4 1 (.slice (some ⟨g6, 0, none⟩) P.length c6) P.length (P.map Value.bool)) := O6
                           clear r6 O6)
                        | (refine step_append_lies _ (by rfl) _ _ _ (by rfl) B 4 ib _ 1 1 Tryd.underlying46 hib hb0 hb1 hb2 rfl (by omega) (.slice ua MM.length uc) MM.length (MM.map Value.bool) (by rfl) HR6.out.own ⟨g6, 0, none⟩ P.length c6 (P.map Value.bool) (by rfl) (by simp) (fun j u hu => HO6.out.cells (g := g6) rfl j u hu) (by intro u hu; obtain ⟨_, _, rfl⟩ := List.mem_map.1 hu; rfl) hPl.1 (by unfold maxLen; omega) (by omega) HR6.out.bB w6'.heap.size rfl ?_
                           intro g8 c8 w8' hown8 hg8 hat8 hlt8
                           have hx0 := (hg8.cell_far ⟨bx, 0, none⟩ hr6l (Ne.symm HR6.out.ne)).trans e0
                           have hxf := (hg8.frozen_far ⟨bx, 0, none⟩ hr6l (Ne.symm HR6.out.ne)).trans ef))
                    all_goals
                      have hlen : (MM ++ P).length = MM.length + P.length := List.length_append
                      have hfr : Fresh w6' (.slice ua MM.length uc) (.slice (some ⟨g8, 0, none⟩) (MM.length + P.length) c8) := fun k e => by
                        have e2 : k = g8 := by simpa [Value.ownBlock] using e.symm
                        subst e2
                        rcases hat8 with h | h
                        · exact .inl h
                        · exact .inr (by omega)
                      have hst := HR6.out.store (L' := MM ++ P) (a' := some ⟨g8, 0, none⟩) (cap' := c8) (Kp.grown hg8 (fun i e => e)) (by rw [hlen, List.map_append]; exact hown8) (by rw [hlen]; exact hfr)
                      rw [hlen] at hst
                      have h72b : Kp (WS bx u) W w6' := h72.trans (S' := fun _ => False) (kp_of_below B6w _) (fun _ _ e => e.elim)
                      have HI9 : RwI W (w8'.setCell ⟨bx, 0, none⟩ (.slice (some ⟨g8, 0, none⟩) (MM.length + P.length) c8)) bx B u (MM ++ P) := RwI.next h72b h73 ⟨some ⟨g8, 0, none⟩, c8, by rw [hlen], hst.1⟩ hst.2.1 hst.2.2
                      have hml9 : (MM ++ P).length ≤ L.length + 9000 := by rw [hlen]; omega
                      clear hst hfr hlen hown8 hg8 hat8 hlt8 hx0 hxf HR6 HO6 e0 ef B6 B6w h72b hg6 hg6l hc6 HRB7 CB hr6l h72 h73
                      generalize w8'.setCell ⟨bx, 0, none⟩ (.slice (some ⟨g8, 0, none⟩) (MM.length + P.length) c8) = w10 at *
                      have c10 : w10.drew.cell? ⟨rb, off + i * 2 + 1, none⟩ = some (.int .i64 ct) := HRC.out w10 HI9.kp
                      have HLE : Hid (∀ W, Calls Tryd.prog 39 #[.int .i64 (s : Int)] W fun e w' => e = .returned (.int .i64 (lst8 s)) ∧ w' = W) := rleast8 s
                      have HMO : Hid (∀ W, Calls Tryd.prog 51 #[.int .i64 (s : Int)] W fun e w' => e = .returned (.int .i64 (mor8 s : Int)) ∧ w' = W) := rmore8 s
                      have hl1 := lst8_bd (s : Int)
                      have hm1 := mor8_le (s : Int)
                      have CPU : Hid (∀ k : Nat, k < 2 ^ mor8 (s : Int) → Calls Tryd.prog 20 #[.pointer (some ⟨bx, 0, none⟩), .int .u64 (k : Int), .int .i64 (mor8 (s : Int) : Int)] w10.drew (RuQ W bx B u (MM ++ P ++ bN k (mor8 (s : Int))))) := fun k hk => rput8 (HI9.old ((Below.refl w10.heap.size w10).drew)) k _ hk (by omega) (by omega)
                      generalize lst8 (s : Int) = x1 at *
                      generalize mor8 (s : Int) = mo at *
                      obtain ⟨k, rfl⟩ : ∃ k : Nat, ct = x1 + (k : Int) := ⟨(ct - x1).toNat, by omega⟩
                      rw [show x1 + (k : Int) - x1 = (k : Int) by omega, Int.toNat_natCast] at hctl HRB
                      have hkb : k ≤ 127 := by
                        have : 2 ^ mo ≤ 2 ^ 7 := Nat.pow_le_pow_right (by omega) hm1
                        omega
                      have CP2 := CPU.out k hctl
                      rw [← HRB.out] at CP2
                      have HRC2 : Hid (∀ w' M, RwI W w' bx B u M → w'.cell? ⟨rb, off + i * 2 + 1, none⟩ = some (.int .i64 (x1 + (k : Int)))) := fun w' M h => HRC.out w' h.kp
                      clear CPU HRC HRB HI9
                      have HCV : Hid (IntKind.u64.wrap (IntKind.i64.wrap (x1 + (k : Int) - x1)) = (k : Int)) := by
                        show _ = _
                        rw [IntWalk.i64_in _ (by omega), IntWalk.u64_in _ (by omega)]
                        omega
                      go_wp2_with fail
                      go_region_held3 (fun w' => w'.cell? ⟨rb, off + i * 2 + 1, none⟩ = some (.int .i64 (x1 + (k : Int)))) (first | (exact c10) | (exact HRC2.out _ _ (by assumption)))
                        (first
                          | (go_at_call 39; refine (HLE.out _).mono ?_; rintro e w' ⟨rfl, hw'⟩; subst w')
                          | (go_at_call 51; refine (HMO.out _).mono ?_; rintro e w' ⟨rfl, hw'⟩; subst w')
                          | (go_at_call 20; rw [HCV.out]; refine CP2.mono ?_; rintro e w11 ⟨rfl, HI11⟩))
                      all_goals
                        go_wp2_with fail
                        go_roundw
                        case rel => exact ⟨i + 1, by omega, by go_num, HI11⟩
                        case measure => simp [intOf]; omega
                  · have hge : ¬ (i : Int) < (nR : Int) := by omega
                    have hTA : R.take i = R := List.take_of_length_le (by rw [HNR.out]; omega)
                    rw [hTA] at HI
                    have HF := HJ.out wr HI
                    clear HJ HK
                    go_wp2_with fail
                    go_ret
                    exact HF
  · rw [decide_eq_false ht] at CT
    have HF : Hid (DwQ w bx B u L lit dist (.returned (.int .i64 80)) w) := by
      unfold DwQ
      rw [if_neg ht, if_neg ht, List.append_nil]
      exact ⟨rfl, RwI.start HWR.out⟩
    clear ht
    go_enter Tryd.func23, Tryd.ntmps23
    go_wp2_with fail
    refine CT.mono ?_
    rintro e w' ⟨rfl, hw'⟩
    subst w'
    go_wp2_with fail
    go_ret
    exact HF.out
end Go.Proofs.YtoeabfcnfofbiaaDoor

namespace Go.Proofs.YtoeabfcnfofbiaaDoor
open Go.RowKit
set_option linter.unusedVariables false

/-! A head's bits, counted; the document's Cost. -/
theorem rnb8_cost {Z : List Int} (h : errC Z = 0) (hl : Z.length = 19) : ∀ R : List Rn8, (∀ r ∈ R, ok8 r) → (rnb8 Z R).length = cb8 Z R
  | [], _ => rfl
  | r :: R, hr => by
    have hok := hr r (by simp)
    have h1 := putB_cost h r.sy
    obtain ⟨s, hs⟩ : ∃ s : Nat, r.sy = (s : Int) := ⟨r.sy.toNat, by unfold ok8 at hok; omega⟩
    have hs19 : s < 19 := by unfold ok8 at hok; omega
    rw [hs, costV_in (by omega)] at h1
    rw [rnb8, cb8, List.length_append, List.length_append, bN_len, rnb8_cost h hl R fun x hx => hr x (by simp [hx]), hs, Int.toNat_natCast]
    omega
theorem hd8_len {lit dist : List Int} (h : tld8 errC lit dist) : (hd8 lit dist).length = cst8 lit dist := by
  have hZ := sz8_ok h
  have hR := (runs8_ok (tld8_ok h).2.2.1).1
  unfold hd8 cst8
  simp only [List.length_append, bN_len, szb8_len]
  have hc := rnb8_cost hZ.1 hZ.2.1 (rs8 lit dist) hR
  omega
def DcQ (w : World) (lit dist : List Int) (e : Ending) (w' : World) : Prop := e = .returned (.tuple (if tld8 errC lit dist then #[.int .i64 (cst8 lit dist : Int), .int .i64 0] else #[.int .i64 0, .int .i64 80])) ∧ Below w.heap.size w w'
set_option maxRecDepth 100000 in
set_option maxHeartbeats 1000000 in
theorem rcost8 (lit dist : List Int) (a b : Option Addr) (n m ca cb : Nat) (hn : Hid (lit.length = n)) (hm : Hid (dist.length = m)) (w : World) (hx : SegZ w a lit) (hy : SegZ w b dist) (hca : n ≤ ca) (hcb : m ≤ cb) (hna : a = none → ca = 0) (hnb : b = none → cb = 0) :
    Calls Tryd.prog 22 #[.slice a n ca, .slice b m cb] w (DcQ w lit dist) := by
  have hh := heap_alloc_new w (.cells #[.slice none 0 0] 56)
  have B0 := below_box8 w (.cells #[.slice none 0 0] 56)
  obtain ⟨w0, hw0⟩ : ∃ w0, w0 = w.alloc (.cells #[.slice none 0 0] 56) := ⟨_, rfl⟩
  have HW0 : Hid (w.alloc (.cells #[.slice none 0 0] 56) = w0) := hw0.symm
  rw [← hw0] at hh B0
  have hs0 : w0.heap.size = w.heap.size + 1 := by rw [hw0]; simp
  have CW := rwrite8 w.heap.size (w.heap.size + 1) (.slice none 0 0) [] lit dist a b n m ca cb hn hm w0 (RwL.new hh (by omega)) (by simp) (hx.old B0) (hy.old B0) hca hcb hna hnb
  have HQ : Hid (∀ w' M, M = (if tld8 errC lit dist then hd8 lit dist else []) → Below w.heap.size w w' → DcQ w lit dist (.returned (.tuple #[.int .i64 (M.length : Int), .int .i64 (if tld8 errC lit dist then 0 else 80)])) w') := fun w' M hM hb => by
    refine ⟨?_, hb⟩
    subst hM
    by_cases ht : tld8 errC lit dist
    · rw [if_pos ht, if_pos ht, if_pos ht, hd8_len ht]
    · rw [if_neg ht, if_neg ht, if_neg ht]; rfl
  clear hh hx hy hw0
  go_enter Tryd.func22, Tryd.ntmps22
  go_wp2_with fail
  rw [HW0.out]
  refine CW.mono ?_
  rintro e w1 ⟨rfl, HI⟩
  obtain ⟨v1, h1, h2, h3⟩ := HI
  obtain ⟨ua, uc, rfl, r1⟩ := h1
  have hd0 := r1.cell0
  have B1 : Below w.heap.size w w1 := B0.trans (h2.below (fun k e => by
    rcases e with e | e
    · omega
    · simp [Value.ownBlock] at e) (by omega))
  rw [List.nil_append] at hd0
  have HF := HQ.out w1 _ rfl B1
  generalize (if tld8 errC lit dist then hd8 lit dist else []) = MM at *
  generalize (if tld8 errC lit dist then (0 : Int) else 80) = ER at *
  clear CW HQ r1 h2 h3
  go_wp2_with fail
  go_ret2
  exact HF
end Go.Proofs.YtoeabfcnfofbiaaDoor

namespace Go.Proofs.YtoeabfcnfofbiaaDoor
open Go.RowKit
set_option linter.unusedVariables false

def lentZ (zs : List Int) : List Int := zs ++ [71, 72, 73, 74]
theorem lentZ_bd {zs : List Int} (h : ∀ z ∈ zs, -9223372036854775808 ≤ z ∧ z ≤ 9223372036854775807) : ∀ z ∈ lentZ zs, -9223372036854775808 ≤ z ∧ z ≤ 9223372036854775807 := by
  intro z hz
  unfold lentZ at hz
  rw [List.mem_append] at hz
  rcases hz with hz | hz
  · exact h z hz
  · simp at hz; omega
theorem seg_four (w : World) : SegZ (w.alloc (.cells #[.int .i64 71, .int .i64 72, .int .i64 73, .int .i64 74] 3)) (some ⟨w.heap.size, 0, none⟩) [71, 72, 73, 74] := by
  refine ⟨fun i hi => ⟨w.heap.size, 0, rfl, ?_⟩, getD_bdz (by intro z hz; simp at hz; omega)⟩
  simp only [List.length_cons, List.length_nil] at hi
  match i, hi with
  | 0, _ => simp
  | 1, _ => simp
  | 2, _ => simp
  | 3, _ => simp

end Go.Proofs.YtoeabfcnfofbiaaDoor

namespace Go.Proofs.YtoeabfcnfofbiaaDoor
open Go.RowKit
set_option linter.unusedVariables false

/-! Layer 8's helpers: Same, lend, alike. -/
theorem below_drewN8 {B : Nat} {w w' : World} (h : Below B w w') (n : Nat) : Below B w (w'.drewN n) := ⟨h.os, h.tape, h.output, h.size, h.block⟩
set_option maxRecDepth 100000 in
set_option maxHeartbeats 400000 in
theorem same8 (a b : Option Addr) (xs ys : List Int) (ca cb : Nat) (w : World) (hx : SegZ w a xs) (hy : SegZ w b ys) (hl : xs.length ≤ 9223372036854775807) (hl2 : ys.length ≤ 9223372036854775807) :
    Calls Tryd.prog 16 #[.slice a xs.length ca, .slice b ys.length cb] w fun e w' => e = .returned (.bool (xs == ys)) ∧ Below w.heap.size w w' := by
  go_enter Tryd.func16, Tryd.ntmps16
  go_wp2
  go_loopw [5] (fun ti wr => ∃ k : Nat, k ≤ xs.length ∧ k ≤ ys.length ∧ ti = .int .i64 k ∧ Hid (xs.take k = ys.take k) ∧ Below w.heap.size w wr) (fun ti _ => xs.length - (intOf ti).toNat)
  case atStart => exact ⟨0, Nat.zero_le _, Nat.zero_le _, rfl, (by simp : _ = _), Below.refl _ _⟩
  case round =>
    obtain ⟨k, hk, hk2, rfl, HE, hb⟩ := hrel
    have hx := hx.old hb
    have hy := hy.old hb
    by_cases h1 : k < xs.length
    · have h1i : (k : Int) < (xs.length : Int) := by omega
      by_cases h2 : k < ys.length
      · have h2i : (k : Int) < (ys.length : Int) := by omega
        obtain ⟨b1, o1, rfl, c1⟩ := hx.at_ k h1
        obtain ⟨b2, o2, rfl, c2⟩ := hy.at_ k h2
        have b1 := hx.bd k
        have b2 := hy.bd k
        have HT : Hid (xs.take (k + 1) = xs.take k ++ [xs.getD k 0] ∧ ys.take (k + 1) = ys.take k ++ [ys.getD k 0]) := ⟨take_snocZ h1, take_snocZ h2⟩
        have HN : Hid (xs.getD k 0 ≠ ys.getD k 0 → xs ≠ ys) := by
          intro hne e; rw [e] at hne; exact hne rfl
        generalize xs.getD k 0 = z1 at *
        generalize ys.getD k 0 = z2 at *
        by_cases hz : z1 = z2
        · subst hz
          go_wp2
          go_region
          go_wp2
          go_roundw
          case rel => exact ⟨k + 1, by omega, by omega, by go_num, (by rw [HT.out.1, HT.out.2, HE.out] : _ = _), hb.drew⟩
          case measure => simp [intOf]; omega
        · go_wp2
          go_region
          go_wp2
          go_ret
          exact ⟨by have := HN.out hz; simp [this], hb.drew⟩
      · have h2i : ¬ (k : Int) < (ys.length : Int) := by omega
        obtain rfl : k = ys.length := by omega
        have hlen : ¬ xs.length = ys.length := by omega
        have hne : xs ≠ ys := by intro e; rw [e] at hlen; exact hlen rfl
        go_wp2
        go_ret
        refine ⟨?_, hb⟩
        have : (xs == ys) = false := by simp [hne]
        rw [this]
        have : ¬ (xs.length : Int) = (ys.length : Int) := by omega
        simp [this]
    · have h1i : ¬ (k : Int) < (xs.length : Int) := by omega
      obtain rfl : k = xs.length := by omega
      go_wp2
      go_ret
      refine ⟨?_, hb⟩
      by_cases hlen : xs.length = ys.length
      · have : xs = ys := take_all_eq hlen (.inl rfl) HE.out
        subst this
        simp
      · have hne : xs ≠ ys := by intro e; rw [e] at hlen; exact hlen rfl
        have : (xs == ys) = false := by simp [hne]
        rw [this]
        have : ¬ (xs.length : Int) = (ys.length : Int) := by omega
        simp [this]
set_option maxRecDepth 100000 in
set_option maxHeartbeats 400000 in
theorem lend8 (a : Option Addr) (zs : List Int) (cap : Nat) (w : World) (hs : SegZ w a zs) (hnil : a = none → cap = 0) (hl : zs.length * 8 ≤ 140737488351232) :
    Calls Tryd.prog 13 #[.slice a zs.length cap] w fun e w' => ∃ g cap', e = .returned (.slice (some ⟨g, 0, none⟩) (lentZ zs).length cap') ∧
      w'.ownsRow w.heap.size 3 1 (.slice (some ⟨g, 0, none⟩) (lentZ zs).length cap') (lentZ zs).length ((lentZ zs).map (Value.int .i64)) ∧ (lentZ zs).length ≤ cap' ∧ Below w.heap.size w w' := by
  obtain ⟨i0, hi, hz0, hz1, hz2⟩ := info_parts info_int
  have HL : Hid (zs.length + 4 = (lentZ zs).length) := by show _ = _; simp [lentZ]
  go_enter Tryd.func13, Tryd.ntmps13
  go_wp2_with (first
    | (at_builtin; refine wpList_appZ rfl (.const (.slice none 0 0)) (.tmp 3) 22 rfl w.heap.size 3 i0 (.int .i64 0) 8 Tryd.underlying22 hi hz0 hz1 hz2 rfl (World.ownsRow_nil _ _ _ _) hs hnil rfl rfl (by omega) (by omega) (Nat.le_refl _) ?_; intro a1 c1 w1 hown1 hg1 hf1 hn1; have hb1 := below_own (World.ownsRow_nil w w.heap.size 3 1) hg1 (Nat.le_refl _); clear hf1 hn1 hg1; rw [Nat.zero_add, List.nil_append] at hown1)
    | (at_builtin; refine wpList_appZ rfl (.tmp 4) (.tmp 5) 22 rfl w.heap.size 3 i0 (.int .i64 0) 8 Tryd.underlying22 hi hz0 hz1 hz2 rfl (hown1.alloc _) (seg_four w1) (by intro h; cases h) rfl rfl (by simp; omega) (by simp; omega) (by have := hb1.size; simp; omega) ?_; intro a2 c2 w2 hown2 hg2 hf2 hn2))
  go_ret
  clear hf2 hn2
  have hb0 := hb1.trans ((Below.refl w.heap.size w1).alloc hb1.size (.cells #[.int .i64 71, .int .i64 72, .int .i64 73, .int .i64 74] 3))
  have hb2 := hb0.trans (below_own (hown1.alloc _) hg2 (by have := hb0.size; simpa using this))
  have el : zs.length + ([71, 72, 73, 74] : List Int).length = (lentZ zs).length := by simp [lentZ]
  have ev : zs.map (Value.int .i64) ++ ([71, 72, 73, 74] : List Int).map (Value.int .i64) = (lentZ zs).map (Value.int .i64) := by simp [lentZ]
  rw [el, ev] at hown2
  obtain ⟨g, cap', hv, hc2, hg, hgs⟩ := own_shape hown2 (by have := HL.out; omega)
  refine ⟨g, cap', ?_, by rw [← hv]; exact hown2, hc2, hb2⟩
  rw [← hv, ← el]
  rfl
theorem snocR {R : List Rn8} {x : Nat} (h : x < R.length) : R.take (x + 1) = R.take x ++ [R.getD x ⟨0, 0⟩] := by
  rw [List.take_succ_eq_append_getElem h]; simp [List.getD, h]
def AlQ (xs ys : List Rn8) (w : World) (e : Ending) (w' : World) : Prop := ∃ r, e = .returned (.bool r) ∧ (r = true ↔ xs = ys) ∧ Below w.heap.size w w'
set_option maxRecDepth 100000 in
set_option maxHeartbeats 4000000 in
theorem alike8 (a b : Option Addr) (xs ys : List Rn8) (n m ca cb : Nat) (hn : Hid (xs.length = n)) (hm : Hid (ys.length = m)) (w : World) (hx : SegN w a xs) (hy : SegN w b ys) (hl : n ≤ 1152921504606846976) (hl2 : m ≤ 1152921504606846976) :
    Calls Tryd.prog 15 #[.slice a n ca, .slice b m cb] w (AlQ xs ys w) := by
  have HX : Hid (SegN w a xs) := hx
  have HY : Hid (SegN w b ys) := hy
  clear hx hy
  go_enter Tryd.func15, Tryd.ntmps15
  go_wp2
  go_loopw [5] (fun ti wr => ∃ k : Nat, k ≤ n ∧ k ≤ m ∧ ti = .int .i64 (k : Int) ∧ Hid (xs.take k = ys.take k) ∧ Below w.heap.size w wr) (fun ti _ => n - (intOf ti).toNat)
  case atStart => exact ⟨0, Nat.zero_le _, Nat.zero_le _, rfl, (by simp : _ = _), Below.refl _ _⟩
  case round =>
    obtain ⟨k, hk, hk2, rfl, HE, hb⟩ := hrel
    by_cases h1 : k < n
    · have h1i : (k : Int) < (n : Int) := by omega
      by_cases h2 : k < m
      · have h2i : (k : Int) < (m : Int) := by omega
        have h1l : k < xs.length := by rw [hn.out]; exact h1
        have h2l : k < ys.length := by rw [hm.out]; exact h2
        obtain ⟨b1, o1, rfl, c1, e1⟩ := ((show SegN w a xs from HX.out).old hb).at_ k h1l
        obtain ⟨b2, o2, rfl, c2, e2⟩ := ((show SegN w b ys from HY.out).old hb).at_ k h2l
        have HT : Hid (xs.take (k + 1) = xs.take k ++ [xs.getD k ⟨0, 0⟩] ∧ ys.take (k + 1) = ys.take k ++ [ys.getD k ⟨0, 0⟩]) := ⟨snocR h1l, snocR h2l⟩
        have HN : Hid (xs.getD k ⟨0, 0⟩ ≠ ys.getD k ⟨0, 0⟩ → xs ≠ ys) := by
          intro hne e; rw [e] at hne; exact hne rfl
        generalize xs.getD k ⟨0, 0⟩ = r1 at *
        generalize ys.getD k ⟨0, 0⟩ = r2 at *
        obtain ⟨s1, t1⟩ := r1
        obtain ⟨s2, t2⟩ := r2
        simp only at c1 e1 c2 e2
        by_cases hz : s1 = s2
        · subst hz
          by_cases hy : t1 = t2
          · subst hy
            go_wp2_with fail
            go_quiet (fail)
            go_wp2_with fail
            go_roundw
            case rel => exact ⟨k + 1, by omega, by omega, by go_num, (by rw [HT.out.1, HT.out.2, HE.out] : _ = _), below_drewN8 hb _⟩
            case measure => simp [intOf]; omega
          · have hyb : (t1 == t2) = false := by simp [hy]
            have HF : Hid (xs ≠ ys) := HN.out (by intro e; cases e; exact hy rfl)
            go_wp2_with fail
            go_quiet (fail)
            go_wp2_with fail
            go_ret
            exact ⟨false, rfl, by simp [HF.out], below_drewN8 hb _⟩
        · have hzb : (s1 == s2) = false := by simp [hz]
          have HF : Hid (xs ≠ ys) := HN.out (by intro e; cases e; exact hz rfl)
          go_wp2_with fail
          go_quiet (fail)
          go_wp2_with fail
          go_ret
          exact ⟨false, rfl, by simp [HF.out], below_drewN8 hb _⟩
      · have h2i : ¬ (k : Int) < (m : Int) := by omega
        obtain rfl : k = m := by omega
        have hnb : ((n : Int) == (k : Int)) = false := by simp; omega
        have HF : Hid (xs ≠ ys) := by
          intro e
          have h3 := hn.out
          rw [e, hm.out] at h3
          omega
        go_wp2_with fail
        go_ret
        exact ⟨_, rfl, by simp [HF.out], hb⟩
    · have h1i : ¬ (k : Int) < (n : Int) := by omega
      obtain rfl : k = n := by omega
      have HI : Hid ((k : Int) = (m : Int) ↔ xs = ys) := by
        constructor
        · intro e
          have e' : k = m := by omega
          have h3 := HE.out
          rw [List.take_of_length_le (by rw [hn.out]; omega), List.take_of_length_le (by rw [hm.out]; omega)] at h3
          exact h3
        · intro e
          have h3 := hn.out
          rw [e, hm.out] at h3
          omega
      go_wp2_with fail
      go_ret
      exact ⟨_, rfl, by simpa using HI.out, hb⟩
end Go.Proofs.YtoeabfcnfofbiaaDoor

namespace Go.Proofs.YtoeabfcnfofbiaaDoor
open Go.RowKit
set_option linter.unusedVariables false

/-! Layer 8's helpers: num, awake; a row of runs that is written over. -/
set_option maxRecDepth 100000 in
theorem num8 (e : Int) (w : World) : Calls Tryd.prog 10 #[.int .i64 e] w fun r w' => r = .returned (.int .i64 e) ∧ w' = w := by
  go_enter Tryd.func10, Tryd.ntmps10
  go_wp2
  go_ret
  exact ⟨rfl, rfl⟩
theorem runs_5555 : rns8 [5, 5, 5, 5] = [⟨5, 1⟩, ⟨16, 3⟩] ∧ rer8 [5, 5, 5, 5] = 0 := by
  have h : may8 [5, 5, 5, 5] := by decide
  unfold rns8 rer8
  rw [if_pos h, if_pos h]
  refine ⟨?_, rfl⟩
  simp [runs8, rung8, row8, pre8, rep8, sum8]
theorem seg_lit48 (w : World) (x0 x1 x2 x3 : Int) (h : ∀ z ∈ [x0, x1, x2, x3], -9223372036854775808 ≤ z ∧ z ≤ 9223372036854775807) : SegZ (w.alloc (.cells #[.int .i64 x0, .int .i64 x1, .int .i64 x2, .int .i64 x3] 3)) (some ⟨w.heap.size, 0, none⟩) [x0, x1, x2, x3] := by
  refine ⟨fun i hi => ⟨w.heap.size, 0, rfl, ?_⟩, getD_bdz h⟩
  simp only [List.length_cons, List.length_nil] at hi
  match i, hi with
  | 0, _ => simp
  | 1, _ => simp
  | 2, _ => simp
  | 3, _ => simp
set_option maxRecDepth 100000 in
set_option maxHeartbeats 1000000 in
theorem awake8 (w : World) (T : TabS w) : Calls Tryd.prog 11 #[] w fun e w' => e = .returned (.bool true) ∧ Below w.heap.size w w' := by
  have s1 := seg_lit48 w 5 5 5 5 (by intro z hz; simp at hz; omega)
  have C1 := pruns8 [5, 5, 5, 5] (some ⟨w.heap.size, 0, none⟩) 4 4 rfl (by omega) _ s1 (T.alloc _)
  unfold RsQ at C1
  rw [runs_5555.1, runs_5555.2] at C1
  go_enter Tryd.func11, Tryd.ntmps11
  go_wp2_with fail
  refine C1.mono ?_
  rintro e w1 ⟨b, c, rfl, O1, B1⟩
  have B0 : Below w.heap.size w w1 := ((Below.refl _ _).alloc (Nat.le_refl _) _).trans (B1.mono (by simp))
  have s2 := own_segN O1 rfl
  obtain ⟨b0, off, rfl, c0, c1⟩ := s2.at_ 0 (by simp)
  obtain ⟨b1, off1, e, c2, c3⟩ := s2.at_ 1 (by simp)
  cases e
  simp only [Nat.zero_mul, Nat.add_zero, List.getD_cons_zero, List.getD_cons_succ, Nat.one_mul] at c0 c1 c2 c3
  clear s2 O1 C1 s1 B1
  go_wp2_with fail
  go_ret
  exact ⟨rfl, B0⟩
/-- A store within a row of the call's own: it is still the call's own. -/
theorem own_set2 {w : World} {base n c g : Nat} {e : TypeId} {xs : List Value} (h : w.ownsRow base e 2 (.slice (some ⟨g, 0, none⟩) n c) n xs) (i : Nat) (v : Value) : ∃ xs', (w.setCell ⟨g, i, none⟩ v).ownsRow base e 2 (.slice (some ⟨g, 0, none⟩) n c) n xs' := by
  rcases h.2 with ⟨h1, _⟩ | ⟨g', cap, cur, h1, h2, h3, h4, h5, h6, h7⟩
  · simp at h1
  · simp only [Value.slice.injEq, Option.some.injEq, Addr.mk.injEq] at h1
    obtain ⟨⟨rfl, _⟩, _, rfl⟩ := h1
    have hb := Go.Joins.block_setCell h3 (i := i) v
    refine ⟨(cur.setIfInBounds i v).toList.take (n * 2), ?_, .inr ⟨g, c, _, rfl, h2, hb, h4, h5, by simpa using h6, rfl⟩⟩
    have : n * 2 ≤ cur.size := by rw [h6]; exact Nat.mul_le_mul_right 2 h4
    simp [List.length_take]
    omega
theorem own_cell2 {w : World} {base n c g : Nat} {e : TypeId} {xs : List Value} (h : w.ownsRow base e 2 (.slice (some ⟨g, 0, none⟩) n c) n xs) (j : Nat) (hj : j < n * 2) : (∃ v, w.cell? ⟨g, j, none⟩ = some v) ∧ w.frozen? ⟨g, j, none⟩ = false := by
  rcases h.2 with ⟨h1, _⟩ | ⟨g', cap, cur, h1, h2, h3, h4, h5, h6, h7⟩
  · simp at h1
  · simp only [Value.slice.injEq, Option.some.injEq, Addr.mk.injEq] at h1
    obtain ⟨⟨rfl, _⟩, _, rfl⟩ := h1
    have : j < cur.size := by rw [h6]; have := Nat.mul_le_mul_right 2 h4; omega
    exact ⟨⟨cur[j], by simp [World.cell?, h3, this]⟩, by simp [World.frozen?, h3]⟩
theorem own_shape2 {w : World} {base n : Nat} {e : TypeId} {v : Value} {xs : List Value} (h : w.ownsRow base e 2 v n xs) (hn : 0 < n) : ∃ g cap, v = .slice (some ⟨g, 0, none⟩) n cap ∧ n ≤ cap ∧ base ≤ g ∧ g < w.heap.size := by
  rcases h.2 with ⟨_, h0⟩ | ⟨g, cap, cur, h1, h2, h3, h4, _⟩
  · omega
  · exact ⟨g, cap, h1, h4, h2, (Array.getElem?_eq_some_iff.1 h3).1⟩
/-- A run behind a row of the call's own, whatever it holds. -/
theorem wpList_appNx {P : Program} {ops : Array Oper} {rest : List Oper} {o : Oper} {a : Act} {Q : Exit → Act → World → Prop} (hgd : o.guard = none) (s x : Operand) (t : TypeId)
    (ho : o.op = .call { callee := .builtin .append, args := #[s, x], argTypes := #[t, t] })
    (base : Nat) (e : TypeId) (i : TypeInfo) (z : Value) (bytes : Nat) (ht : P.underlying t = some (.slice e)) (hi : P.info? e = some i) (hz : i.zero = some z)
    (hsize : i.size = 2) (hby : i.bytes = bytes) (hzs : z.cells.size = 2) (w0 : World) (y : Rn8)
    {ra : Option Addr} {n rc : Nat} {xs : List Value} (hown : w0.ownsRow base e 2 (.slice ra n rc) n xs) (hs : a.eval s = .slice ra n rc) (hx : a.eval x = .slice (some ⟨w0.heap.size, 0, none⟩) 1 1)
    (h63 : n + 1 ≤ 140737488355328) (hbytes : (n + 1) * bytes ≤ 140737488355328) (hbase : base ≤ w0.heap.size)
    (h : ∀ (g : Nat) (c : Nat) (w' : World) (xs' : List Value), w'.ownsRow base e 2 (.slice (some ⟨g, 0, none⟩) (n + 1) c) (n + 1) xs' → Kp (fun k => (Value.slice ra n rc).ownBlock = some k) w0 w' → Fresh w0 (.slice ra n rc) (.slice (some ⟨g, 0, none⟩) (n + 1) c) → wpList P ops Q rest (a.put o.dst (.slice (some ⟨g, 0, none⟩) (n + 1) c)) w') : wpList P ops Q (o :: rest) a (w0.alloc (.cells #[.int .i64 y.sy, .int .i64 y.ct] e)) := by
  have hnew : ∀ j u, ([.int .i64 y.sy, .int .i64 y.ct] : List Value)[j]? = some u → (w0.alloc (.cells #[.int .i64 y.sy, .int .i64 y.ct] e)).cell? ((⟨w0.heap.size, 0, none⟩ : Addr).add j) = some u := by
    intro j u hu
    have hadd : (⟨w0.heap.size, 0, none⟩ : Addr).add j = ⟨w0.heap.size, j, none⟩ := by unfold Addr.add; split <;> simp_all
    rw [hadd]
    have hh := heap_alloc_new w0 (.cells #[.int .i64 y.sy, .int .i64 y.ct] e)
    simp only [World.cell?, hh]
    simpa using hu
  refine wpList_append_lies _ hgd s x t ho base e i z 2 bytes ht hi hz hsize hby hzs (by decide) _ n xs hs (hown.alloc _) ⟨w0.heap.size, 0, none⟩ 1 1 [.int .i64 y.sy, .int .i64 y.ct] hx rfl hnew (by intro u hu; simp only [List.mem_cons, List.not_mem_nil, or_false] at hu; rcases hu with rfl | rfl <;> rfl) (by decide) (by unfold maxLen; omega) hbytes (by simp; omega) (w0.heap.size + 1) (by simp) ?_
  intro g c w' h1 h2 h3 _
  refine h g c w' _ h1 ?_ ?_
  · exact (Kp.alloc w0 _).trans (Kp.grown (S := fun k => (Value.slice ra n rc).ownBlock = some k) h2 (fun i e => e)) (fun _ _ e => e)
  · intro k hk
    have hk' : k = g := by simpa [Value.ownBlock] using hk.symm
    subst hk'
    rcases h3 with h3 | h3
    · exact .inl h3
    · exact .inr (by omega)
end Go.Proofs.YtoeabfcnfofbiaaDoor

namespace Go.Proofs.YtoeabfcnfofbiaaDoor
open Go.RowKit
set_option linter.unusedVariables false

theorem info_u8' : (Tryd.prog.info? 5).map (fun i => (i.zero, i.size, i.bytes)) = some (some (.int .u8 0), 1, 1) := by kernel_rfl
def lentL (zs : List Int) : List Int := zs ++ [171, 172, 173, 174, 175]

theorem seg_five (w : World) : Seg (w.alloc (.cells #[.int .u8 171, .int .u8 172, .int .u8 173, .int .u8 174, .int .u8 175] 5)) (some ⟨w.heap.size, 0, none⟩) [171, 172, 173, 174, 175] := by
  refine ⟨fun i hi => ⟨w.heap.size, 0, rfl, ?_⟩, by decide, ?_⟩
  · simp only [List.length_cons, List.length_nil] at hi
    match i, hi with
    | 0, _ => simp
    | 1, _ => simp
    | 2, _ => simp
    | 3, _ => simp
    | 4, _ => simp
  · exact getD_bd (by decide) (by intro z hz; simp at hz; omega)

theorem lent_bd {zs : List Int} (h : ∀ z ∈ zs, 0 ≤ z ∧ z ≤ 255) : ∀ z ∈ lentL zs, 0 ≤ z ∧ z ≤ 255 := by
  intro z hz
  unfold lentL at hz
  rw [List.mem_append] at hz
  rcases hz with hz | hz
  · exact h z hz
  · simp at hz; omega

end Go.Proofs.YtoeabfcnfofbiaaDoor
