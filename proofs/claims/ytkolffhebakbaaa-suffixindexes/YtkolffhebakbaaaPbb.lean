import Derived.Test.YtkolffhebakbaaaPba
import Derived.Test.YtkolffhebakbaaaPau
import Derived.Test.YtkolffhebakbaaaPaa
import Derived.WalkKit
import Derived.ProofKit
import Derived.OpenShut
import Derived.SizedLaws
namespace Go.Proofs.Ytkolffhebakbaaa
open Go.RowKit
set_option linter.unusedVariables false

/-! SuffixIndexes. -/
theorem Ix13.kpI {w w' : World} {S : Nat → Prop} {b : Nat} {da : Option Addr} {dc : Nat} {aa : Option Addr} {ac gb gr n : Nat} {z : List Int} {A : List Nat} (h : Ix13 w b da dc aa ac gb gr n z A) (hk : Kp S w w') (h1 : ¬ S b) (h2 : ¬ S gb) (h3 : ¬ S gr) (h4 : ∀ x off, da = some ⟨x, off, none⟩ → ¬ S x) (h5 : ∀ x off, aa = some ⟨x, off, none⟩ → ¬ S x) : Ix13 w' b da dc aa ac gb gr n z A :=
  ⟨hk.heap h.hp h1, h.dat.kp hk (fun x off e _ => h4 x off e), h.nil, h.dle, h.arr.kp hk (fun x off e _ => h5 x off e), h.anil, h.ale, ⟨hk.heap h.rk.box h2, h.rk.rks.kp hk h3⟩, h.len, h.n24, h.ar⟩
set_option maxRecDepth 100000 in
set_option maxHeartbeats 8000000 in
theorem suffixIndexes_walk (w : World) (a : Option Addr) (z : List Int) (ca : Nat) (hs : Seg w a z) (hc : z.length ≤ ca) (hnil : a = none → ca = 0) (hl : z.length ≤ 140737488351232) (t : Int) (ht0 : -9223372036854775808 ≤ t) (ht1 : t ≤ 9223372036854775807) (pa : Option Addr) (p : List Int) (pc : Nat) (hp : Seg w pa p) (hpc : p.length ≤ pc) (hpn : pa = none → pc = 0) (hpl : p.length ≤ 140737488351232) :
    Calls Try.prog 3 #[.slice a z.length ca, .int .i64 t, .slice pa p.length pc] w fun e w' => e = .returned (.bool true) ∧ Below w.heap.size w w' := by
  have HSD : Hid (∀ W, Below w.heap.size w W → Seg W a z) := fun W b => hs.old b
  have HSP0 : Hid (∀ W, Below w.heap.size w W → Seg W pa p) := fun W b => hp.old b
  have HLD := lend_any a z ca w hs hnil hl
  have HKP : Hid (∀ W g cap', Below w.heap.size w W → Seg W (some ⟨g, 0, none⟩) (lentL z) → Calls Try.prog 9 #[.slice (some ⟨g, 0, none⟩) (z.length + 5) cap', .slice a z.length ca] W fun e w' => e = .returned (.bool true) ∧ Below W.heap.size W w') := fun W g cap' hb sg => by
    have h5 := kept_any a (some ⟨g, 0, none⟩) (lentL z) z cap' ca W sg (hs.old hb) hnil hl
    have e5 : (lentL z).length = z.length + 5 := by simp [lentL]
    rw [e5] at h5
    refine h5.mono ?_
    rintro e w' ⟨rfl, hB⟩
    exact ⟨by simp, hB⟩
  have HV : Hid (∀ y ∈ z, 0 ≤ y ∧ y ≤ 255) := seg_bd13 hs
  have HSM : Hid (∀ W xa xc, Seg W xa z → Below w.heap.size w W → Calls Try.prog 12 #[.slice xa z.length xc, .slice a z.length ca] W fun e w' => e = .returned (.bool true) ∧ w' = W) := fun W xa xc s1 hb => by
    refine (bsame_any xa a z z xc ca W s1 (hs.old hb)).mono ?_
    rintro e w' ⟨rfl, hB⟩
    exact ⟨by simp, hB⟩
  clear hs hp
  have e5 : Hid ((lentL z).length = z.length + 5) := by show _ = _; simp [lentL]
  generalize hn0 : z.length = n at *
  have hn : Hid (z.length = n) := hn0
  generalize hm0 : p.length = m at *
  have hm : Hid (p.length = m) := hm0
  clear hn0 hm0
  go_enter Try.func3, Try.ntmps3
  go_wp2_with (first
    | (go_at_call 7; refine HLD.mono ?_; rintro e1 w1 ⟨gL, cL, rfl, o1, B1⟩; clear HLD)
    | (go_at_call 8; fail))
  have sL := own_seg13 o1 (lent_bd HV.out)
  have hcl : n ≤ cL := by have := own_le13 o1; omega
  have sP : Seg w1 (some ⟨gL, 0, none⟩) z := by have h5 := sL; unfold lentL at h5; have := h5.take z.length; simpa using this
  have lg := o1.lt gL rfl
  by_cases h24 : 16777216 < n
  · have h24i : (16777216 : Int) < (n : Int) := by omega
    refine (pnewn13 (some ⟨gL, 0, none⟩) n cL w1 h24 (by omega)).mono ?_
    rintro e2 w2 ⟨rfl, hw2⟩
    subst hw2
    clear sL sP o1
    go_wp2_with fail
    go_ret
    exact ⟨rfl, B1⟩
  · have h24i : ¬ (16777216 : Int) < (n : Int) := by omega
    have hn24 : n ≤ 16777216 := by omega
    refine (pnew13 (some ⟨gL, 0, none⟩) z n cL w1 sP (by intro h; cases h) hn hn24).mono ?_
    rintro e2 w2 ⟨b, da, dc, aa, ac, gb, gr, A, rfl, hI, B2, q1, q2, q3, q4, q5⟩
    have D2 := B1.trans (B2.mono B1.size)
    have hK := HKP.out w2 gL cL D2 (sL.old B2)
    clear sP sL
    go_wp2_with (first
      | (go_at_call 9; refine hK.mono ?_; rintro e3 w3 ⟨rfl, B3⟩; clear hK))
    have D3 := D2.trans (B3.mono D2.size)
    have o3 := own_below (own_below o1 B2) B3
    have hI3 := hI.old B3
    clear o1 hI HKP
    go_loopw [58] (fun ti wr => ∃ (k : Nat) (L : List Int), k ≤ n + 5 ∧ ti = .int .i64 k ∧ L.length = n + 5 ∧ wr.ownsRow w.heap.size 5 1 (.slice (some ⟨gL, 0, none⟩) (n + 5) cL) (n + 5) (L.map (Value.int .u8)) ∧ Kp (fun q => q = gL) w3 wr) (fun ti _ => n + 5 - (intOf ti).toNat)
    case atStart => exact ⟨0, lentL z, Nat.zero_le _, rfl, e5.out, o3, Kp.refl _ _⟩
    case round =>
      obtain ⟨k, L, hk, rfl, hL, oL, KL⟩ := hrel
      clear o3
      by_cases h1 : k < n + 5
      · have h1i : (k : Int) < (n : Int) + 5 := by omega
        have c1 := oL.cells (g := gL) rfl k (.int .u8 (L.getD k 0)) (by simp [List.getD, hL, h1])
        have hadd : (⟨gL, 0, none⟩ : Addr).add k = ⟨gL, k, none⟩ := by unfold Addr.add; split <;> simp_all
        rw [hadd] at c1
        have fz := oL.frozenAt k
        have HST := oL.stored k (.int .u8 7)
        rw [← List.map_set] at HST
        have HS : Hid _ := HST.1
        have HG : Hid _ := HST.2
        generalize L.getD k 0 = y at c1
        clear oL HST
        go_wp2_with fail
        go_roundw
        case rel => exact ⟨k + 1, L.set k 7, by omega, by go_num, by rw [List.length_set]; exact hL, HS.out, KL.trans (Kp.grown (S := fun q => q = gL) HG.out (fun i e => by simpa [Value.ownBlock] using e.symm)) (fun _ _ e => e)⟩
        case measure => simp [intOf]; omega
      · have h1i : ¬ (k : Int) < (n : Int) + 5 := by omega
        have C4 : Below w.heap.size w wr := D3.trans (KL.below (fun i e => by omega) (by have := D3.size; omega))
        have hI4 := hI3.kpI KL (by omega) (by omega) (by omega) (fun x off h => by have := q4 x off h; omega) (fun x off h => by have := q5 x off h; omega)
        have hA := hI4.ar
        have HA : Hid (Ar12 n (S12 z) A) := hA
        have hlen := hA.len
        clear hI3 oL KL q1 q2 q3 q4 q5
        have HC : Hid (∀ W, Below wr.heap.size wr W → Below w.heap.size w W) := fun W hb => C4.trans (hb.mono C4.size)
        have HRA := rarr13 a z n ca A wr (HSD.out wr C4) hc hn hA hn24
        have HIX : Hid (∀ W, Below wr.heap.size wr W → Ix13 W b da dc aa ac gb gr n z A) := fun W hb => hI4.old hb
        have HPN : Hid (∀ W, Below wr.heap.size wr W → Calls Try.prog 11 #[.pointer (some ⟨b, 0, none⟩)] W fun e w' => e = .returned (.int .i64 (n : Int)) ∧ w' = W) := fun W hb => plen13 b da dc aa ac gb gr n z A W (hI4.old hb)
        have HPD : Hid (∀ W, Below wr.heap.size wr W → Calls Try.prog 13 #[.pointer (some ⟨b, 0, none⟩)] W (AnB13 W n z)) := fun W hb => pdat13 b da dc aa ac gb gr n z A W (hI4.old hb)
        have HPA : Hid (∀ W, Below wr.heap.size wr W → Calls Try.prog 15 #[.pointer (some ⟨b, 0, none⟩)] W (AnI13 W n (nz12 A))) := fun W hb => parr13 b da dc aa ac gb gr n z A W (hI4.old hb)
        have HPP : Hid (∀ W, Below wr.heap.size wr W → Calls Try.prog 16 #[.pointer (some ⟨b, 0, none⟩)] W (LvQ13 W z A n)) := fun W hb => plcp13 b da dc aa ac gb gr n z A W (hI4.old hb)
        have HRL : Hid (∀ W, Below wr.heap.size wr W → Calls Try.prog 17 #[.slice a n ca] W (LvQ13 W z A n)) := fun W hb => rlcp13 a z n ca A W (HSD.out W (HC.out W hb)) hc hn HA.out hn24
        have HPO : Hid (∀ W, Below wr.heap.size wr W → Calls Try.prog 18 #[.pointer (some ⟨b, 0, none⟩)] W fun e w' => e = .returned (.bool true) ∧ Below W.heap.size W w') := fun W hb => pownI13 b da dc aa ac gb gr n z A W (hI4.old hb)
        have HPR : Hid (∀ W, Below wr.heap.size wr W → Calls Try.prog 19 #[.pointer (some ⟨b, 0, none⟩)] W (RpQ13 W z A)) := fun W hb => prep13 b da dc aa ac gb gr n z A W (hI4.old hb)
        have HRR : Hid (∀ W, Below wr.heap.size wr W → Calls Try.prog 20 #[.slice a n ca] W (RpQ13 W z A)) := fun W hb => rrep13 a z n ca A W (HSD.out W (HC.out W hb)) hc hn HA.out hn24
        have HS3 : Hid (∀ W pa pb L pc qc, SegZ W pa L → SegZ W pb L → L.length = n → Calls Try.prog 14 #[.slice pa n pc, .slice pb n qc] W fun e w' => e = .returned (.bool true) ∧ Below W.heap.size W w') := fun W pa pb L pc qc s1 s2 hL => by
          refine (same13 pa pb L L n n pc qc W s1 s2 hL hL (by omega) (by omega)).mono ?_
          rintro e w' ⟨rfl, hB⟩
          exact ⟨by simp, hB⟩
        have HLB : Hid (∀ y ∈ lp13 z A, -9223372036854775808 ≤ y ∧ y ≤ 9223372036854775807) := lp13_bdI hn.out HA.out hn24
        have HLL : Hid ((lp13 z A).length = n) := by show _ = _; rw [lp13_len, hn.out]
        have HNB : Hid (∀ y ∈ nz12 A, -9223372036854775808 ≤ y ∧ y ≤ 9223372036854775807) := nz12_bd13 HA.out.lt hn24
        have HNL : Hid ((nz12 A).length = n) := by show _ = _; rw [nz12_len13, hlen]
        clear hI4 hA C4
        go_wp2_with (first
          | (go_at_call 10; refine HRA.mono ?_; rintro e5 w5 ⟨rfl, R5, B5⟩; clear HRA)
          | (go_at_call 11; refine (HPN.out w5 B5).mono ?_; rintro e5b w5b ⟨rfl, hw5⟩; subst hw5)
          | (go_at_call 13; fail))
        refine (HPD.out w5b B5).mono ?_
        rintro e6 w6 ⟨xa, xc, rfl, -, o6, B6⟩
        have E6 := B5.trans (B6.mono B5.size)
        have hS6 := HSM.out w6 xa xc (own_seg13 o6 HV.out) (HC.out w6 E6)
        have HW5 : Hid (∀ W, Below w5b.heap.size w5b W → Rz12 W wr.heap.size (nz12 A)) := fun W hb => R5.old hb
        clear o6 R5
        go_wp2_with (first
          | (go_at_call 12; refine hS6.mono ?_; rintro e6b w6b ⟨rfl, hw6⟩; subst hw6; clear hS6)
          | (go_at_call 15; fail))
        refine (HPA.out w6b E6).mono ?_
        rintro e7 w7 ⟨ra7, rc7, rfl, -, o7, B7⟩
        have E7 := E6.trans (B7.mono E6.size)
        have F7 := B6.trans (B7.mono B6.size)
        have hS7 := HS3.out w7 ra7 (some ⟨wr.heap.size, 0, none⟩) _ rc7 n (own_segZ o7 HNB.out) ((HW5.out w7 F7).seg HNB.out) HNL.out
        clear o7
        go_wp2_with (first
          | (go_at_call 14; refine hS7.mono ?_; rintro e8 w8 ⟨rfl, B8⟩; have E8 := E7.trans (B8.mono E7.size); have F8 := F7.trans (B8.mono F7.size); clear hS7)
          | (go_at_call 16; refine (HPP.out w8 E8).mono ?_; rintro e9 w9 ⟨g9, rfl, R9, -, B9⟩; have E9 := E8.trans (B9.mono E8.size); have F9 := F8.trans (B9.mono F8.size))
          | (go_at_call 17; refine (HRL.out w9 E9).mono ?_; rintro e10 w10 ⟨g10, rfl, R10, -, B10⟩; have E10 := E9.trans (B10.mono E9.size); have F10 := F9.trans (B10.mono F9.size); have hS10 := HS3.out w10 (some ⟨g9, 0, none⟩) (some ⟨g10, 0, none⟩) _ n n ((R9.old B10).seg HLB.out) (R10.seg HLB.out) HLL.out; clear R9 R10)
          | (go_at_call 14; refine hS10.mono ?_; rintro e11 w11 ⟨rfl, B11⟩; have E11 := E10.trans (B11.mono E10.size); have F11 := F10.trans (B11.mono F10.size); clear hS10)
          | (go_at_call 18; refine (HPO.out w11 E11).mono ?_; rintro e12 w12 ⟨rfl, B12⟩; have E12 := E11.trans (B12.mono E11.size); have F12 := F11.trans (B12.mono F11.size))
          | (go_at_call 19; refine (HPR.out w12 E12).mono ?_; rintro e13 w13 ⟨ri, rm, rr, rfl, hp13, B13⟩; have E13 := E12.trans (B13.mono E12.size); have F13 := F12.trans (B13.mono F12.size))
          | (go_at_call 20; refine (HRR.out w13 E13).mono ?_; rintro e14 w14 ⟨ri2, rm2, rr2, rfl, hp14, B14⟩; have E14 := E13.trans (B14.mono E13.size); have F14 := F13.trans (B14.mono F13.size); obtain ⟨rfl, rfl⟩ := hp13.unique hp14; clear hp13 hp14)
          | (go_at_call 21; fail))
        clear HPO HPR HRR HS3 HPA HPD HPP HRL HPN HSM
        clear B6 B7 B8 B9 B10 B11 B12 B13 B14 E6 E7 E8 E9 E10 E11 E12 E13 F7 F8 F9 F10 F11 F12 F13
        by_cases hin : 0 ≤ t ∧ t < (n : Int)
        · obtain ⟨T, rfl⟩ := Int.eq_ofNat_of_zero_le hin.1
          have hT : T < n := by omega
          have HAT := pat13 b da dc aa ac gb gr n z A T w14 (HIX.out w14 E14) hT
          have HRK : Hid (∀ W, Below wr.heap.size wr W → Calls Try.prog 22 #[.pointer (some ⟨b, 0, none⟩), .int .i64 (T : Int)] W fun e w' => e = .returned (.tuple #[.int .i64 ((rk13 A T : Nat) : Int), .int .i64 0]) ∧ Below W.heap.size W w') := fun W hb => prank13 b da dc aa ac gb gr n z A T W (HIX.out W hb) hT
          have HCM : Hid (∀ W, Below wr.heap.size wr W → Calls Try.prog 23 #[.pointer (some ⟨b, 0, none⟩), .int .i64 (T : Int), .slice pa m pc] W fun e w' => e = .returned (.tuple #[.int .i64 (cv13 (z.drop T) p), .int .i64 ((lc13 (z.drop T) p : Nat) : Int), .int .i64 0]) ∧ Below W.heap.size W w') := fun W hb => pcmp13 b da dc aa ac gb gr n z A T pa p m pc W (HIX.out W hb) (HSP0.out W (HC.out W hb)) hm (by omega) hT
          obtain ⟨xb, off, rfl, -⟩ := (HSD.out w (Below.refl _ _)).at_ T (by rw [hn.out]; exact hT)
          have HDC : Hid (∀ W, Below wr.heap.size wr W → Calls Try.prog 25 #[.slice (some ⟨xb, off + T, none⟩) (n - T) (ca - T), .slice pa m pc] W fun e w' => e = .returned (.tuple #[.int .i64 (cv13 (z.drop T) p), .int .i64 ((lc13 (z.drop T) p : Nat) : Int)]) ∧ Below W.heap.size W w') := fun W hb => rcmp13 _ (z.drop T) _ _ pa p m pc W ((HSD.out W (HC.out W hb)).drop T) (HSP0.out W (HC.out W hb)) (by show _ = _; rw [List.length_drop, hn.out]) hm (by omega) (by omega)
          obtain ⟨hrk, hat⟩ := HA.out.rk hT
          have HWC : Hid (∀ W, Below w5b.heap.size w5b W → W.cell? ⟨wr.heap.size, T, none⟩ = some (.int .i64 ((A.getD T 0 : Nat) : Int)) ∧ W.cell? ⟨wr.heap.size, rk13 A T, none⟩ = some (.int .i64 (T : Int))) := fun W hb => by
            have R := HW5.out W hb
            have k1 := R.cell (i := T) (by rw [HNL.out]; exact hT)
            have k2 := R.cell (i := rk13 A T) (by rw [HNL.out]; exact hrk)
            rw [nz12_get13 (by rw [hlen]; exact hT)] at k1
            rw [nz12_get13 (by rw [hlen]; exact hrk), hat] at k2
            exact ⟨k1, k2⟩
          clear hat HNB HNL HLB HLL HA HIX HSD HSP0 HW5 hlen
          generalize cv13 (z.drop T) p = cv at *
          generalize lc13 (z.drop T) p = cl at *
          generalize A.getD T 0 = av at *
          generalize rk13 A T = rk at *
          have i1 : ¬ (T : Int) < 0 := by omega
          have i2 : (T : Int) < (n : Int) := by omega
          have j1 : ¬ (rk : Int) < 0 := by omega
          have j2 : (rk : Int) < (n : Int) := by omega
          have j3 : ¬ (n : Int) ≤ (rk : Int) := by omega
          have l1 : T ≤ n := by omega
          have l3 : ¬ ca = T := by omega
          have m1 : ¬ n ≤ T := by omega
          clear hin
          go_wp2_with (first
            | (go_at_call 21; refine HAT.mono ?_; rintro e15 w15 ⟨rfl, B15⟩; have E15 := E14.trans (B15.mono E14.size); have F15 := F14.trans (B15.mono F14.size); clear HAT)
            | (go_at_call 22; refine (HRK.out w15 E15).mono ?_; rintro e16 w16 ⟨rfl, B16⟩; have E16 := E15.trans (B16.mono E15.size); have F16 := F15.trans (B16.mono F15.size))
            | (go_at_call 23; refine (HCM.out w16 E16).mono ?_; rintro e17 w17 ⟨rfl, B17⟩; have E17 := E16.trans (B17.mono E16.size); have F17 := F16.trans (B17.mono F16.size))
            | (go_at_call 25; refine (HDC.out w17 E17).mono ?_; rintro e18 w18 ⟨rfl, B18⟩; have E18 := E17.trans (B18.mono E17.size); have F18 := F17.trans (B18.mono F17.size); obtain ⟨k1, k2⟩ := HWC.out w18 F18)
            | (go_at_call 24; refine (plives13 _).mono ?_; rintro e19 w19 ⟨rfl, B19⟩; have E19 := E18.trans (B19.mono E18.size)))
          go_ret
          exact ⟨rfl, HC.out w19 E19⟩
        · have HAT := patn13 b da dc aa ac gb gr n z A t w14 (HIX.out w14 E14) ⟨ht0, ht1⟩ hin
          have HRK : Hid (∀ W, Below wr.heap.size wr W → Calls Try.prog 22 #[.pointer (some ⟨b, 0, none⟩), .int .i64 t] W fun e w' => e = .returned (.tuple #[.int .i64 0, .int .i64 132]) ∧ Below W.heap.size W w') := fun W hb => prankn13 b da dc aa ac gb gr n z A t W (HIX.out W hb) ⟨ht0, ht1⟩ hin
          have HCM : Hid (∀ W, Below wr.heap.size wr W → Calls Try.prog 23 #[.pointer (some ⟨b, 0, none⟩), .int .i64 t, .slice pa m pc] W fun e w' => e = .returned (.tuple #[.int .i64 0, .int .i64 0, .int .i64 132]) ∧ Below W.heap.size W w') := fun W hb => pcmpn13 b da dc aa ac gb gr n z A t pa m pc W (HIX.out W hb) ⟨ht0, ht1⟩ hin
          clear HNB HNL HLB HLL HA HIX HSD HSP0 HW5 hlen
          have hcases : t < 0 ∨ (0 ≤ t ∧ (n : Int) ≤ t) := by omega
          clear hin
          rcases hcases with h1 | ⟨h1, h2⟩ <;> (
            go_wp2_with (first
              | (go_at_call 21; refine HAT.mono ?_; rintro e15 w15 ⟨rfl, B15⟩; have E15 := E14.trans (B15.mono E14.size); clear HAT)
              | (go_at_call 22; refine (HRK.out w15 E15).mono ?_; rintro e16 w16 ⟨rfl, B16⟩; have E16 := E15.trans (B16.mono E15.size))
              | (go_at_call 23; refine (HCM.out w16 E16).mono ?_; rintro e17 w17 ⟨rfl, B17⟩; have E17 := E16.trans (B17.mono E16.size))
              | (go_at_call 24; refine (plives13 _).mono ?_; rintro e19 w19 ⟨rfl, B19⟩; have E19 := E17.trans (B19.mono E17.size)))
            go_ret
            exact ⟨rfl, HC.out w19 E19⟩)
end Go.Proofs.Ytkolffhebakbaaa

namespace Go.Proofs.Ytkolffhebakbaaa
open Go.ChangeShapes Go.WideShapes Go.ChangeAt Go.RowKit
set_option linter.unusedVariables false

/-- A slice of whole numbers that came in: what lies there, and how it was read. -/
theorem open_seg {H : Type} {enc : TypeId × Value → H} {P : Program} {W : World} {T e : TypeId} {k : IntKind} {M : Int} {a : Option Addr} {len cap : Nat} {d : DataW H} {p : List MemPlace}
    (hT : P.underlying T = some (.slice e)) (he : P.underlying e = some (.int k)) (hc : P.cellsOf e = 1) (hM : 0 ≤ M) (hwf : ∀ n, (Lit.int k n).wf = true → 0 ≤ n ∧ n ≤ M)
    (h : DataW.Trod enc P W 0 (fun _ => true) true T (.slice a len cap) d p) :
    ∃ zs : List Int, zs.length = len ∧ SegK k M W a zs ∧ len ≤ cap ∧ (a = none → cap = 0) ∧ ((d = .nil ∧ len = 0) ∨ ∃ elems spare, d = .slice elems spare ∧ elems.length = len) := by
  obtain ⟨fuel, hf⟩ := h
  rcases open_ints hT he hc hf with ⟨hcs, hx⟩ | ⟨x, l, c, zs, hcs, _, hl, hm, hz, hx, hcell, hwz⟩
  · simp [Value.cells] at hcs
    obtain ⟨rfl, rfl, rfl⟩ := hcs
    simp only [Prod.mk.injEq] at hx
    exact ⟨[], rfl, SegK.nil hM _ _, Nat.le_refl _, fun _ => rfl, Or.inl ⟨hx.1, rfl⟩⟩
  · simp [Value.cells] at hcs
    obtain ⟨rfl, rfl, rfl⟩ := hcs
    simp only [Prod.mk.injEq] at hx
    simp only [if_true] at hz
    refine ⟨zs.take len, by simp; omega, ⟨fun i hi => ?_, hM, getD_bd hM ?_⟩, hl, (by intro h; cases h), Or.inr ⟨_, _, hx.1, by simp [ChangeShapes.lits]; omega⟩⟩
    · simp at hi
      have hi2 : i < len := by omega
      have h1 := hcell i (by omega)
      obtain ⟨b, off, spot⟩ := x
      have hs : spot = none := by
        have := hcell 0 (by omega)
        simpa [Addr.add] using World.cell?_spot this
      subst hs
      refine ⟨b, off, rfl, ?_⟩
      have hadd : (⟨b, off, none⟩ : Addr).add i = ⟨b, off + i, none⟩ := by unfold Addr.add; split <;> simp_all
      rw [hadd] at h1
      rw [h1]
      simp [List.getD, hi2]
    · intro z hz1
      exact hwf z (hwz z (List.mem_of_mem_take hz1))
end Go.Proofs.Ytkolffhebakbaaa
