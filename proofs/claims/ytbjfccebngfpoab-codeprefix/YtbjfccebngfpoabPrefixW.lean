
import Derived.Test.YtbjfccebngfpoabCdR
import Derived.Test.YtbjfccebngfpoabCdQ
namespace Go.Proofs.Ytbjfccebngfpoab
open Go.RowKit
set_option linter.unusedVariables false

set_option maxRecDepth 100000 in
set_option maxHeartbeats 2000000 in
theorem codePrefix_walk (w : World) (a : Option Addr) (zs : List Int) (ca : Nat) (hs : SegZ w a zs) (hc : zs.length ≤ ca) (hn : a = none → ca = 0) (hl : zs.length * 8 ≤ 140737488351232) :
    Calls Try.prog 3 #[.slice a zs.length ca] w fun e w' => e = .returned (.bool true) ∧ Below w.heap.size w w' := by
  obtain ⟨n, hnn⟩ : ∃ n, n = zs.length := ⟨_, rfl⟩
  have HN : Hid (zs.length = n) := hnn.symm
  rw [← hnn] at hl ⊢
  clear hnn hc
  have HC := codes_any a zs n ca HN w hs (by omega)
  by_cases hok : errC zs = 0
  · have HOK : Hid (errC zs = 0) := hok
    have HL := errS_zero (errC_zero hok).1
    have HLK : Hid (LOk zs) := HL.2
    have hn288 : n ≤ 288 := by have := HN.out; have := HL.1; omega
    have HRR : Hid (spc zs ≤ 32768 ∧ (spc zs = 32768 ∨ tot zs = 0 ∨ (tot zs = 1 ∧ spc zs = 16384))) := by
      have h1 := (errC_zero hok).2
      unfold errR at h1
      by_cases c1 : 32768 < spc zs
      · rw [if_pos c1] at h1; cases h1
      · rw [if_neg c1] at h1
        by_cases c2 : spc zs = 32768 ∨ tot zs = 0 ∨ (tot zs = 1 ∧ cC zs 1 = 1)
        · refine ⟨by omega, ?_⟩
          rcases c2 with c | c | ⟨c, d⟩
          · exact .inl c
          · exact .inr (.inl c)
          · exact .inr (.inr ⟨c, (one_half c).2 d⟩)
        · rw [if_neg c2] at h1; cases h1
    have HCS : Hid (∀ W, Below w.heap.size w W → Calls Try.prog 7 #[.slice a n ca] W fun e w' => e = .returned (.tuple #[.int .i64 (spc zs : Int), .int .i64 0]) ∧ Below W.heap.size W w') := fun W hW => by
      have := spaceF_any a zs n ca HN W (hs.old hW) (by omega)
      have e1 : spcR zs = spc zs := by unfold spcR; rw [if_pos (errC_zero HOK.out).1]
      rw [e1, (errC_zero HOK.out).1] at this
      exact this
    have e1 : Hid (cdsR zs = cds zs) := by show _ = _; unfold cdsR; rw [if_pos HOK.out]
    have e3 : Hid ((cds zs).length = n) := by show _ = _; rw [cds_len]; exact HN.out
    clear hok HL
    go_enter Try.func3, Try.ntmps3
    go_wp2_with fail
    refine HC.mono ?_
    rintro e w1 ⟨b1, c1, rfl, O1, B1⟩
    rw [e1.out, e3.out] at O1
    rw [e1.out, e3.out, HOK.out]
    have Z1 := own_segZ O1 (cds_bd HOK.out)
    have hb1 := own_blk O1
    clear O1
    go_wp2_with fail
    have hb4 : spc zs ≤ 10000000 := by have := HRR.out.1; omega
    go_loopw [5, 6, 35] (fun tsum tu tj wr => ∃ j : Nat, j ≤ n ∧ tsum = .int .i64 (spc (zs.take j) : Int) ∧ tu = .int .i64 (tot (zs.take j) : Int) ∧ tj = .int .i64 (j : Int) ∧ Below w1.heap.size w1 wr) (fun _ _ tj _ => n - (intOf tj).toNat)
    case atStart => exact ⟨0, by omega, by rw [List.take_zero, spc_nil]; rfl, by rw [List.take_zero, tot_nil]; rfl, rfl, Below.refl _ _⟩
    case round =>
      obtain ⟨j, hj, rfl, rfl, rfl, BJ⟩ := hrel
      have x1 : Below w.heap.size w wr := B1.trans (BJ.mono B1.size)
      by_cases hjn : j < n
      · have hji : (j : Int) < (n : Int) := by omega
        obtain ⟨b, off, rfl, c0⟩ := (hs.old x1).at_ j (by have := HN.out; omega)
        obtain ⟨bb, oo, rfl, d0⟩ := (Z1.old BJ).at_ j (by have := e3.out; omega)
        rw [cds_get zs (by have := HN.out; omega)] at d0
        have HTK : Hid (zs.take (j + 1) = zs.take j ++ [zs.getD j 0]) := take_snocZ (by have := HN.out; omega)
        have HZB : Hid (0 ≤ zs.getD j 0 ∧ zs.getD j 0 ≤ 15) := HLK.out.get j
        have hlnj := HLK.out.ln j
        have HLN : Hid (zs.getD j 0 = (ln zs j : Int)) := hlnj.1
        have hl15 := hlnj.2
        rw [hlnj.1] at c0
        have HSN : Hid (spc (zs.take (j + 1)) = spc (zs.take j) + (if zs.getD j 0 = 0 then 0 else 2 ^ (15 - (zs.getD j 0).toNat))) := by show _ = _; rw [HTK.out, spc_snoc _ HZB.out]
        have HTS : Hid (tot (zs.take (j + 1)) = tot (zs.take j) + (if zs.getD j 0 = 0 then 0 else 1)) := by show _ = _; rw [HTK.out, tot_snoc _ HZB.out]
        have HSM := cd_small HOK.out (show j < zs.length by have := HN.out; omega)
        have hcs := HSM.2.2
        have HCL : Hid (cd zs j < 2 ^ ln zs j) := HSM.1
        have hsb : spc (zs.take (j + 1)) ≤ 10000000 := Nat.le_trans (spc_take (by have := HN.out; omega) (LOk.take_of (fun i _ => HLK.out.get i))) (by decide)
        have htb : tot (zs.take (j + 1)) ≤ 1000 := by
          have h1 := tot_le (zs.take (j + 1)) (LOk.take_of (fun i _ => HLK.out.get i))
          simp at h1
          omega
        clear hlnj HSM
        have HX : Hid (∃ x u, x = spc (zs.take (j + 1)) ∧ u = tot (zs.take (j + 1))) := ⟨_, _, rfl, rfl⟩
        obtain ⟨x, u, hx, hu⟩ := HX.out
        have HXX : Hid (x = spc (zs.take (j + 1)) ∧ u = tot (zs.take (j + 1))) := ⟨hx, hu⟩
        rw [← hx] at HSN hsb
        rw [← hu] at HTS htb
        clear hx hu HX
        generalize spc (zs.take j) = s0 at *
        generalize tot (zs.take j) = u0 at *
        by_cases hz00 : ln zs j = 0
        · have hz : Hid (zs.getD j 0 = 0) := by show _ = _; rw [HLN.out, hz00]; rfl
          have hcd : cd zs j = 0 := cd_none hz.out
          have E1 : Hid (x = s0 ∧ u = u0) := ⟨by have := HSN.out; rw [if_pos hz.out] at this; omega, by have := HTS.out; rw [if_pos hz.out] at this; omega⟩
          rw [hcd] at d0
          rw [hz00] at c0
          clear hcd hz00 HCL hcs
          go_wp2_with fail
          go_roundw
          case rel => exact ⟨j + 1, by omega, by rw [← HXX.out.1, E1.out.1], by rw [← HXX.out.2, E1.out.2], by go_num, BJ⟩
          case measure => simp [intOf]; omega
        · have hzn : Hid (zs.getD j 0 ≠ 0) := by show _ ≠ _; rw [HLN.out]; omega
          obtain ⟨q, hq⟩ : ∃ q : Nat, q = 15 - ln zs j := ⟨_, rfl⟩
          have rq : 15 - (ln zs j : Int) = (q : Int) := by omega
          have ex : x = s0 + 2 ^ q := by have := HSN.out; rw [if_neg hzn.out, HLN.out, Int.toNat_natCast, ← hq] at this; exact this
          have eu : u = u0 + 1 := by have := HTS.out; rw [if_neg hzn.out] at this; exact this
          have hp : 2 ^ q ≤ 2 ^ 15 := Nat.pow_le_pow_right (by decide) (by omega)
          obtain ⟨p, hp2⟩ : ∃ p, p = 2 ^ q := ⟨_, rfl⟩
          rw [← hp2] at hp ex
          have hw : RowKit.wrap64 ((2 : Int) ^ q) = (p : Int) := by
            have e : ((2 : Int) ^ q) = (p : Int) := by rw [hp2]; exact (Int.natCast_pow 2 q).symm
            rw [e, ← IntWalk.i64_left]
            exact IntWalk.i64_in _ (by omega)
          have hxe : (s0 : Int) + (p : Int) = (x : Int) := by omega
          have hue : (u0 : Int) + 1 = (u : Int) := by omega
          have hu0 : u0 ≤ 1000 := by omega
          obtain ⟨r, hr⟩ : ∃ r, r = 2 ^ ln zs j := ⟨_, rfl⟩
          have hrl : r ≤ 2 ^ 15 := by rw [hr]; exact Nat.pow_le_pow_right (by decide) hl15
          have hw2 : Hid (IntKind.i64.wrap ((2 : Int) ^ ln zs j) = (r : Int)) := by
            have e : ((2 : Int) ^ ln zs j) = (r : Int) := by rw [hr]; exact (Int.natCast_pow 2 _).symm
            show _ = _
            rw [e]
            exact IntWalk.i64_in _ (by omega)
          have hcl := HCL.out
          rw [← hr] at hcl
          have hrl2 : r ≤ 32768 := hrl
          clear hrl
          have hcr : ¬ (r : Int) ≤ (cd zs j : Int) := fun h => Nat.not_le.2 hcl (Int.ofNat_le.1 h)
          have hc0 : ¬ (cd zs j : Int) < 0 := by omega
          have HAP : Hid (∀ k, k < n → k ≠ j → ln zs j ≤ ln zs k → cd zs k / 2 ^ (ln zs k - ln zs j) ≠ cd zs j) := fun k hk hne hle e => hne (cd_apart HLK.out (by have := HN.out; omega) (by have := HN.out; omega) hzn.out hle e).symm
          have HLJ : Hid (∃ l c, l = ln zs j ∧ c = cd zs j) := ⟨_, _, rfl, rfl⟩
          obtain ⟨l, c, hl', hc'⟩ := HLJ.out
          have HCJ : Hid (c = cd zs j) := hc'
          rw [← hl', ← hc'] at HAP
          rw [← hl'] at c0 rq hw2 hz00 hl15
          rw [← hc'] at d0 hcr hc0 hcs
          clear hl' hc' HLJ hq hp2 hr ex eu HCL HLN
          have hlz : ¬ (l : Int) = 0 := by omega
          have hq15 : q ≤ 15 := by omega
          have hzq : ((l : Int) == 0) = false := by simp; omega
          clear hcl
          go_wp2_with fail
          have hw3 := hw2.out
          clear hw2 hw rq hxe hue
          have hdec0 : decide ((c : Int) < 0) = false := decide_eq_false (by first | exact hc0 | exact Int.not_lt.2 hc0)
          have hdec : decide ((r : Int) ≤ (c : Int)) = false := decide_eq_false (by first | exact hcr | exact Int.not_le.2 hcr)
          have hdecN : decide (r ≤ c) = false := decide_eq_false (fun h => absurd (Int.ofNat_le.2 h) (by first | exact hcr | exact Int.not_le.2 hcr))
          go_quiet (fail)
          have BJd : Below w1.heap.size w1 (wr.drewN nq) := ⟨BJ.os, BJ.tape, BJ.output, BJ.size, BJ.block⟩
          clear BJ x1 c0 d0
          generalize wr.drewN nq = wq at *
          go_wp2_with fail
          clear hw3 hdec hdecN hdec0 hcr hc0 hzq hlz
          go_loopw [70] (fun tk wr => ∃ k : Nat, k ≤ n ∧ tk = .int .i64 (k : Int) ∧ Below w1.heap.size w1 wr) (fun tk _ => n - (intOf tk).toNat)
          case atStart => exact ⟨0, by omega, rfl, BJd⟩
          case round =>
            obtain ⟨k, hk, rfl, BK⟩ := hrel
            clear BJd
            have x1 : Below w.heap.size w wr := B1.trans (BK.mono B1.size)
            by_cases hkn : k < n
            · have hki : (k : Int) < (n : Int) := by omega
              obtain ⟨_, _, ea, c0⟩ := (hs.old x1).at_ k (by have := HN.out; omega)
              cases ea
              obtain ⟨_, _, ea, d0⟩ := (Z1.old BK).at_ k (by have := e3.out; omega)
              cases ea
              obtain ⟨_, _, ea, d1⟩ := (Z1.old BK).at_ j (by have := e3.out; omega)
              cases ea
              rw [cds_get zs (by have := HN.out; omega)] at d0 d1
              have hlk := HLK.out.ln k
              rw [hlk.1] at c0
              have hM := hlk.2
              have hC := (cd_small HOK.out (show k < zs.length by have := HN.out; omega)).2.2
              have HAK := HAP.out k hkn
              rw [← HCJ.out] at d1
              clear hlk
              generalize ln zs k = M at *
              generalize cd zs k = C at *
              by_cases hkj : k = j
              · subst hkj
                clear HAK
                go_wp2_with fail
                go_quiet (fail)
                go_wp2_with fail
                go_roundw
                case rel => exact ⟨k + 1, by omega, by go_num, ⟨BK.os, BK.tape, BK.output, BK.size, BK.block⟩⟩
                case measure => simp [intOf]; omega
              · have hkjb : ((k : Int) != (j : Int)) = true := by simp; omega
                have HAK2 : Hid (l ≤ M → C / 2 ^ (M - l) ≠ c) := HAK hkj
                clear HAK
                by_cases hlM : l ≤ M
                · obtain ⟨q2, hq2⟩ : ∃ q2, q2 = M - l := ⟨_, rfl⟩
                  have rq2 : (M : Int) - (l : Int) = (q2 : Int) := by omega
                  obtain ⟨D, hD⟩ : ∃ D, D = C / 2 ^ q2 := ⟨_, rfl⟩
                  have hsh : (C : Int) / 2 ^ q2 = (D : Int) := by rw [hD]; simp
                  have hDc : D ≠ c := by have := HAK2.out hlM; rw [← hq2, ← hD] at this; exact this
                  have hDb : ((D : Int) == (c : Int)) = false := by simp; omega
                  have hq15 : q2 ≤ 15 := by omega
                  have hlMb : (l : Int) ≤ (M : Int) := by omega
                  have hlMd : decide ((l : Int) ≤ (M : Int)) = true := decide_eq_true hlMb
                  clear hq2 hD HAK2
                  go_wp2_with fail
                  go_quiet (fail)
                  go_wp2_with fail
                  go_roundw
                  case rel => exact ⟨k + 1, by omega, by go_num, ⟨BK.os, BK.tape, BK.output, BK.size, BK.block⟩⟩
                  case measure => simp [intOf]; omega
                · have hlMb : ¬ (l : Int) ≤ (M : Int) := by omega
                  clear HAK2
                  go_wp2_with fail
                  have hlMd : decide ((l : Int) ≤ (M : Int)) = false := decide_eq_false (by omega)
                  go_quiet (fail)
                  go_wp2_with fail
                  go_roundw
                  case rel => exact ⟨k + 1, by omega, by go_num, ⟨BK.os, BK.tape, BK.output, BK.size, BK.block⟩⟩
                  case measure => simp [intOf]; omega
            · obtain rfl : k = n := by omega
              go_wp2_with fail
              go_roundw
              case rel => exact ⟨j + 1, by omega, by rw [← HXX.out.1], by rw [← HXX.out.2], by go_num, BK⟩
              case measure => simp [intOf]; omega
      · obtain rfl : j = n := by omega
        have HALL : Hid (zs.take j = zs) := by show _ = _; exact List.take_of_length_le (by have := HN.out; omega)
        rw [HALL.out]
        have hst := HRR.out
        have htb : tot zs ≤ 288 := Nat.le_trans (tot_le zs HLK.out) (by have := HN.out; omega)
        have CS := HCS.out wr x1
        clear HRR
        generalize spc zs = sp at *
        generalize tot zs = tt at *
        go_wp2_with fail
        refine CS.mono ?_
        rintro e w2 ⟨rfl, B2⟩
        have CL := lives5_any w2
        have fin : ∀ w3, Below w2.heap.size w2 w3 → Below w.heap.size w w3 := fun w3 h => x1.trans ((B2.mono x1.size).trans (h.mono (by have := x1.size; have := B2.size; omega)))
        have HF : Hid _ := fin
        clear fin
        by_cases c1 : sp = 32768
        · subst c1
          clear hst
          go_wp2_with fail
          refine CL.mono ?_
          rintro e w3 ⟨rfl, B3⟩
          go_wp2
          go_ret
          exact ⟨rfl, HF.out _ B3⟩
        · have c1b : ((sp : Int) == 32768) = false := by simp; omega
          by_cases c2 : tt = 0
          · subst c2
            clear hst
            go_wp2_with fail
            refine CL.mono ?_
            rintro e w3 ⟨rfl, B3⟩
            go_wp2
            go_ret
            exact ⟨rfl, HF.out _ B3⟩
          · obtain ⟨rfl, rfl⟩ : tt = 1 ∧ sp = 16384 := by omega
            clear hst
            go_wp2_with fail
            refine CL.mono ?_
            rintro e w3 ⟨rfl, B3⟩
            go_wp2
            go_ret
            exact ⟨rfl, HF.out _ B3⟩
  · have HNK : Hid (¬ errC zs = 0) := hok
    have e1 : Hid (cdsR zs = []) := by show _ = _; unfold cdsR; rw [if_neg hok]
    have CR : Hid (∀ W, Below w.heap.size w W → Calls Try.prog 6 #[.slice a n ca] W fun e w' => e = .returned (.int .i64 (errC zs)) ∧ w' = W) := fun W hW => rcheck_any a zs n ca HN W (hs.old hW) (by omega)
    have key : ∀ E : Int, E = 50 ∨ E = 51 ∨ E = 52 → errC zs = E → Calls Try.prog 3 #[.slice a n ca] w fun e w' => e = .returned (.bool true) ∧ Below w.heap.size w w' := by
      intro E hE hEE
      have HEE : Hid (errC zs = E) := hEE
      rw [hEE] at CR
      clear hEE hok
      rcases hE with rfl | rfl | rfl
      all_goals
        go_enter Try.func3, Try.ntmps3
        go_wp2_with fail
        refine HC.mono ?_
        rintro e w1 ⟨b1, c1, rfl, O1, B1⟩
        rw [e1.out, HEE.out]
        clear O1
        go_wp2_with fail
        refine (CR.out _ B1).mono ?_
        rintro e w2 ⟨rfl, hw2⟩
        subst w2
        go_wp2_with fail
        go_ret
        exact ⟨rfl, B1⟩
    rcases errC_cases zs with h | h | h | h
    · exact absurd h hok
    · exact key 50 (.inl rfl) h
    · exact key 51 (.inr (.inl rfl)) h
    · exact key 52 (.inr (.inr rfl)) h
end Go.Proofs.Ytbjfccebngfpoab
