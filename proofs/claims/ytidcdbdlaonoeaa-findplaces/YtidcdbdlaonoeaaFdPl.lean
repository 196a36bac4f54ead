
import Derived.Test.YtidcdbdlaonoeaaFd9
namespace Go.Proofs.Ytidcdbdlaonoeaa
open Go.RowKit
set_option linter.unusedVariables false

/-! FindPlaces: the walk. -/
set_option maxRecDepth 100000 in
set_option maxHeartbeats 8000000 in
theorem findPlaces_walk (w : World) (a : Option Addr) (z : List Int) (ca : Nat) (hs : Seg w a z) (hc : z.length ≤ ca) (hnil : a = none → ca = 0) (hl : z.length ≤ 140737488351232) (pa : Option Addr) (p : List Int) (pc : Nat) (hp : Seg w pa p) (hpc : p.length ≤ pc) (hpn : pa = none → pc = 0) (hpl : p.length ≤ 140737488351232) :
    Calls Try.prog 4 #[.slice a z.length ca, .slice pa p.length pc] w fun e w' => e = .returned (.bool true) ∧ Below w.heap.size w w' := by
  generalize hn0 : z.length = n at *
  have hn : Hid (z.length = n) := hn0
  generalize hm0 : p.length = m at *
  have hm : Hid (p.length = m) := hm0
  clear hn0 hm0
  have HAW : Hid (∀ W, Below w.heap.size w W → Calls Try.prog 9 #[] W fun e w' => e = .returned (.bool true) ∧ Below w.heap.size w w') := fun W hb => awkW14 hb
  by_cases h24 : 16777216 < n
  · have HN := pidxn14 a n ca w h24 (by omega)
    have AW := HAW.out w (Below.refl _ _)
    clear hs hp
    go_enter Try.func4, Try.ntmps4
    go_wp2_with (first
      | (go_at_call 8; refine HN.mono ?_; rintro e1 w1 ⟨rfl, hw1⟩; subst hw1; clear HN)
      | (go_at_call 9; refine AW.mono ?_; rintro e2 w2 ⟨rfl, B2⟩))
    go_ret
    exact ⟨rfl, B2⟩
  · obtain ⟨i0, hi, hz0, hz1, hz2⟩ := info_parts info_i12
    have HN := pidx14 a z n ca w hs hnil hn (by omega)
    have HLD : Hid (∀ W, Below w.heap.size w W → Calls Try.prog 10 #[.slice pa m pc] W fun e w' => ∃ g c, e = .returned (.slice (some ⟨g, 0, none⟩) (m + 3) c) ∧ Lt14 w' g c m p ∧ Below w.heap.size w w' ∧ Below W.heap.size W w') := fun W hb => lendW14 hp hm hpn hpl hb
    have HKP : Hid (∀ W g c, Below w.heap.size w W → Lt14 W g c m p → Calls Try.prog 13 #[.slice (some ⟨g, 0, none⟩) (m + 3) c, .slice pa m pc] W fun e w' => e = .returned (.bool true) ∧ Below w.heap.size w w' ∧ Below W.heap.size W w') := fun W g c hb hL => keptW14 hp hm hpn hpl hb hL
    have HRA : Hid (∀ W, Below w.heap.size w W → Calls Try.prog 17 #[.slice a n ca, .slice pa m pc] W (RAllQ14 W (pl14 z p n))) := fun W hb => rall14 a z n ca pa p m pc W (hs.old hb) (hp.old hb) hn hm (by omega) (by omega)
    have HSP : Hid (∀ W, Below w.heap.size w W → Seg W pa p) := fun W hb => hp.old hb
    have HPL : Hid ((pl14 z p n).length = hi14 z p - lo14 z p) := by show _ = _; rw [← hn.out]; exact pl14_len
    have HPZ : Hid (pl14 z p z.length = pl14 z p n) := by show _ = _; rw [hn.out]
    have HBD : Hid (∀ y ∈ nz12 (pl14 z p n), -9223372036854775808 ≤ y ∧ y ≤ 9223372036854775807) := pl14_bd (by omega)
    have hkn : hi14 z p - lo14 z p ≤ n := by rw [← HPL.out]; exact pl14_le z p n
    clear hs hp
    go_enter Try.func4, Try.ntmps4
    go_wp2_with (first
      | (go_at_call 8; refine HN.mono ?_; rintro e1 w1 ⟨b, A, rfl, hI, B1⟩; clear HN)
      | (go_at_call 10; refine (HLD.out w1 B1).mono ?_; rintro e2 w2 ⟨g, c, rfl, hL, B2, B12⟩; have hcc := hL.cap; have hcc2 : (m : Int) ≤ (c : Int) := (by omega); have hI2 := hI.old B12; clear hI B12)
      | (go_at_call 15; refine (pcount14 b n z A _ p m c w2 hI2 hL.txt hm (by omega)).mono ?_; rintro e3 w3 ⟨rfl, B23⟩; have hI3 := hI2.old B23; have hL3 := hL.old B23; have B3 := B2.trans (B23.mono B2.size); clear hI2 hL B23)
      | (go_at_call 16; fail))
    have HAL : Hid (∀ W pa' pc', Below w3.heap.size w3 W → Seg W pa' p → Calls Try.prog 16 #[.pointer (some ⟨b, 0, none⟩), .slice pa' m pc'] W (AllQ14 W z p (hi14 z p - lo14 z p))) := fun W pa' pc' hb hsg => pall14 b n z A pa' p m pc' W (hI3.old hb) hsg hm (by omega)
    unfold AllQ14 at HAL
    rw [HPZ.out] at HAL
    generalize hi14 z p - lo14 z p = k at *
    have HLN : Hid ((nz12 (pl14 z p n)).length = k) := by show _ = _; rw [nz12_len13, HPL.out]
    unfold RAllQ14 at HRA
    rw [HPL.out] at HRA
    generalize nz12 (pl14 z p n) = PL at *
    clear HPL HPZ
    have HSM : Hid (∀ W pa pb pc qc, SegZ W pa PL → SegZ W pb PL → Calls Try.prog 18 #[.slice pa k pc, .slice pb k qc] W fun e w' => e = .returned (.bool true) ∧ Below W.heap.size W w') := fun W pa pb pc qc s1 s2 => same14 pa pb PL k pc qc W s1 s2 HLN (by omega)
    refine (HAL.out w3 _ c (Below.refl _ _) hL3.txt).mono ?_
    rintro e4 w4 ⟨ga, rfl, Ra, qa, B34⟩
    have C4 := HAL.out w4 (some ⟨g, 0, none⟩) c B34 (hL3.old B34).txt
    go_wp2_with (first
      | (go_at_call 16; fail))
    refine C4.mono ?_
    rintro e5 w5 ⟨gb, rfl, Rb, qb, B45⟩
    have B35 := B34.trans (B45.mono B34.size)
    have B5 := B3.trans (B35.mono B3.size)
    have CR := HRA.out w5 B5
    clear C4
    go_wp2_with (first
      | (go_at_call 17; fail))
    refine CR.mono ?_
    rintro e6 w6 ⟨rw6, rc6, rfl, s6, q6, B56⟩
    have B36 := B35.trans (B56.mono B35.size)
    have B6 := B3.trans (B36.mono B3.size)
    have sa6 := ((Ra.old B45).old B56).seg HBD.out
    have sb6 := (Rb.old B56).seg HBD.out
    have M1 := HSM.out w6 (some ⟨ga, 0, none⟩) rw6 k rc6 sa6 s6
    have HM2 : Hid (∀ W, Below w6.heap.size w6 W → Calls Try.prog 18 #[.slice (some ⟨gb, 0, none⟩) k k, .slice rw6 k rc6] W fun e w' => e = .returned (.bool true) ∧ Below W.heap.size W w') := fun W hb => HSM.out W _ _ _ _ (sb6.old hb) (s6.old hb)
    have HK6 : Hid (∀ W, Below w6.heap.size w6 W → Calls Try.prog 13 #[.slice (some ⟨g, 0, none⟩) (m + 3) c, .slice pa m pc] W fun e w' => e = .returned (.bool true) ∧ Below w.heap.size w w' ∧ Below W.heap.size W w') := fun W hb => HKP.out W g c (B6.trans (hb.mono B6.size)) ((hL3.old B36).old hb)
    have hga := Ra.lt
    have hgb := Rb.lt
    have z34 := B34.size
    have z45 := B45.size
    have z56 := B56.size
    have z3 := B3.size
    clear CR sa6
    go_wp2_with (first
      | (go_at_call 18; refine M1.mono ?_; rintro e7 w7 ⟨rfl, B7⟩; clear M1; have M2 := HM2.out w7 B7)
      | (go_at_call 18; refine M2.mono ?_; rintro e8 w8 ⟨rfl, B78⟩; clear M2; have B8 := B7.trans (B78.mono B7.size))
      | (go_at_call 13; refine (HK6.out w8 B8).mono ?_; rintro e9 w9 ⟨rfl, -, B89⟩; have B9 := B8.trans (B89.mono B8.size)))
    have z69 := B9.size
    have B39 := B36.trans (B9.mono B36.size)
    have oa : w9.ownsRow w3.heap.size 3 1 (.slice (some ⟨ga, 0, none⟩) k k) k (PL.map (Value.int .i64)) := by
      have h5 := (((Ra.old B45).old B56).old B9).own qa (by rw [HLN.out]; omega)
      rw [HLN.out] at h5
      exact h5
    have HKE : Hid (∀ W, Kp (fun q => q = ga) w9 W → SegZ W (some ⟨gb, 0, none⟩) PL ∧ SegZ W rw6 PL ∧ Below w3.heap.size w3 W) := fun W K => by
      refine ⟨(sb6.old B9).kp K fun x off e _ hS => ?_, (s6.old B9).kp K fun x off e h0 hS => ?_, B39.trans (K.below (fun q e => by omega) (by omega))⟩
      · cases e; omega
      · have := q6 x off e
        omega
    have HZ9 : Hid (ga < w9.heap.size ∧ w3.heap.size ≤ w9.heap.size) := ⟨by omega, by omega⟩
    clear Ra Rb qa qb q6 s6 sb6 hL3 hI3 hga hgb z34 z45 z56 z69 B34 B45 B35 B5 B56 B36 B6 B7 B8 B9 B39 B78 B89 HM2 HK6 HRA HLD HKP B2
    go_loopw [15] (fun ti wr => ∃ (i : Nat) (L : List Int), i ≤ k ∧ ti = .int .i64 i ∧ L.length = k ∧ wr.ownsRow w3.heap.size 3 1 (.slice (some ⟨ga, 0, none⟩) k k) k (L.map (Value.int .i64)) ∧ Kp (fun q => q = ga) w9 wr) (fun ti _ => k - (intOf ti).toNat)
    case atStart => exact ⟨0, PL, Nat.zero_le _, rfl, HLN.out, oa, Kp.refl _ _⟩
    case round =>
      obtain ⟨i, L, hik, rfl, hLk, oL, KL⟩ := hrel
      clear oa
      by_cases h1 : i < k
      · have h1i : (i : Int) < (k : Int) := by omega
        have c1 := oL.cells (g := ga) rfl i (.int .i64 (L.getD i 0)) (by simp [List.getD, hLk, h1])
        have hadd : (⟨ga, 0, none⟩ : Addr).add i = ⟨ga, i, none⟩ := by unfold Addr.add; split <;> simp_all
        rw [hadd] at c1
        have fz := oL.frozenAt i
        have HST := oL.stored i (.int .i64 81)
        rw [← List.map_set] at HST
        have HS : Hid _ := HST.1
        have HG : Hid _ := HST.2
        generalize L.getD i 0 = y at c1
        clear oL HST
        go_wp2_with fail
        go_roundw
        case rel => exact ⟨i + 1, L.set i 81, by omega, by go_num, by rw [List.length_set]; exact hLk, HS.out, KL.trans (Kp.grown (S := fun q => q = ga) HG.out (fun q e => by simpa [Value.ownBlock] using e.symm)) (fun _ _ e => e)⟩
        case measure => simp [intOf]; omega
      · have h1i : ¬ (i : Int) < (k : Int) := by omega
        go_wp2_with fail
        go_loopw [10, 16] (fun ts ti wr => ∃ (j l rc g1 : Nat) (L : List Int), j ≤ 40 ∧ ti = .int .i64 j ∧ ts = .slice (some ⟨g1, 0, none⟩) l rc ∧ l ≤ k + j ∧ wr.ownsRow w3.heap.size 3 1 (.slice (some ⟨g1, 0, none⟩) l rc) l (L.map (Value.int .i64)) ∧ (g1 = ga ∨ w9.heap.size ≤ g1) ∧ Kp (fun q => q = ga) w9 wr) (fun _ ti _ => 40 - (intOf ti).toNat)
        case atStart => exact ⟨0, k, k, ga, L, by omega, rfl, rfl, by omega, oL, Or.inl rfl, KL⟩
        case round =>
          clear oL KL hLk
          obtain ⟨j, l, rc, g1, L1, hj, rfl, rfl, hlj, oL, hg1, KL⟩ := hrel
          have zz := KL.size
          have z9 := HZ9.out
          by_cases h2 : j < 40
          · have h2i : (j : Int) < 40 := by omega
            go_wp2_with (first
              | (at_builtin; refine wpList_ap12 rfl (.tmp 113) (.tmp 114) 37 rfl w3.heap.size 3 i0 (.int .i64 0) 8 Try.underlying37 hi hz0 hz1 hz2 rfl wr 82 oL rfl rfl (by omega) (by omega) (by omega) ?_; intro g2 gc w10 own3 hk3 hat3))
            go_roundw
            case rel =>
              refine ⟨j + 1, l + 1, gc, g2, L1 ++ [82], by omega, by go_num, rfl, by omega, own3, ?_, KL.trans hk3 (fun q hq e => ?_)⟩
              · rcases hat3 with e | e
                · have : g1 = g2 := by simpa [Value.ownBlock] using e
                  rw [← this]; exact hg1
                · right; omega
              · have : g1 = q := by simpa [Value.ownBlock] using e
                rcases hg1 with c | c
                · show q = ga; omega
                · omega
            case measure => simp [intOf]; omega
          · have h2i : ¬ (j : Int) < 40 := by omega
            obtain ⟨sb, sw, B3E⟩ := HKE.out wr KL
            have BE : Below w.heap.size w wr := B3.trans (B3E.mono B3.size)
            have CA := HAL.out wr pa pc B3E (HSP.out wr BE)
            go_wp2_with (first
              | (go_at_call 16; fail))
            refine CA.mono ?_
            rintro e11 w11 ⟨gc, rfl, Rc, qc, B11⟩
            have BF := BE.trans (B11.mono BE.size)
            have M1 := HSM.out w11 (some ⟨gb, 0, none⟩) rw6 k rc6 (sb.old B11) (sw.old B11)
            have HM2 : Hid (∀ W, Below w11.heap.size w11 W → Calls Try.prog 18 #[.slice (some ⟨gc, 0, none⟩) k k, .slice rw6 k rc6] W fun e w' => e = .returned (.bool true) ∧ Below W.heap.size W w') := fun W hb => HSM.out W _ _ _ _ ((Rc.old hb).seg HBD.out) ((sw.old B11).old hb)
            clear CA oL
            go_wp2_with (first
              | (go_at_call 18; refine M1.mono ?_; rintro e12 w12 ⟨rfl, B12⟩; clear M1; have M2 := HM2.out w12 B12; have BG := BF.trans (B12.mono BF.size))
              | (go_at_call 18; refine M2.mono ?_; rintro e13 w13 ⟨rfl, B13⟩; clear M2; have BH := BG.trans (B13.mono BG.size))
              | (go_at_call 9; refine (HAW.out w13 BH).mono ?_; rintro e14 w14 ⟨rfl, B14⟩))
            go_ret
            exact ⟨by first | rfl | simp, B14⟩
end Go.Proofs.Ytidcdbdlaonoeaa
