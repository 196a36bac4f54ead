import Derived.Test.YtkpfailmmcelcaaPu
import Derived.Test.YtkpfailmmcelcaaPt
import Derived.Test.YtkpfailmmcelcaaPx
import Derived.Test.YtkpfailmmcelcaaPq
import Derived.Deep.Cut
import Derived.Test.YtkpfailmmcelcaaPa
import Derived.WalkKit
import Derived.ProofKit
import Derived.OpenShut
import Derived.SizedLaws
namespace Go.Proofs.Ytkpfailmmcelcaa
open Go.RowKit
set_option linter.unusedVariables false

/-! FindNoLonger: the walk. -/
theorem still_all14 {P : Program} {id : Nat} {Q : Exit → Act → World → Prop} {a : Act} {w : World} {l : List Oper} (hm : P.follows .mixedOrders = true) (hB : Region.lexB .any l.toArray = true)
    (h : wpStill P l.toArray w.drew (fun a' => Q .normal a' w.drew) l a) : (Code.region id l.toArray true).wp P Q a w := wp_region_still_lit hm hB h
theorem nl_part14 (z q : List Int) : (z.drop (lp14 z q)).take (mx14 z q) = q.take (mx14 z q) ∧ lp14 z q + mx14 z q ≤ z.length := by
  rcases Nat.eq_zero_or_pos (mx14 z q) with c | c
  · rw [c, lp_zero14 z q c]
    simp
  · obtain ⟨h1, h2, h3⟩ := (at14_is z q z.length).2 c
    have h4 := lc13_take (z.drop (at14 z q z.length)) q
    have h5 := lc13_le (z.drop (at14 z q z.length)) q
    rw [List.length_drop] at h5
    rw [h2] at h4 h5
    unfold lp14 mx14
    exact ⟨h4, by omega⟩
theorem nl_more14 {z p : List Int} {i : Nat} (hi : i + mx14 z p < z.length) (hm : mx14 z p < p.length) : ¬ (z.drop i).take (mx14 z p + 1) = p.take (mx14 z p + 1) := fun e => by
  have h1 := lc13_ge e (by rw [List.length_drop]; omega) (by omega)
  have h2 := mp14_ge z p (k := z.length) (i := i) (by omega)
  have h3 : mp14 z p z.length = mx14 z p := rfl
  omega
theorem nl_less14 {z p : List Int} {i : Nat} (hi : i < lp14 z p) : ¬ (z.drop i).take (mx14 z p) = p.take (mx14 z p) := fun e => by
  rcases Nat.eq_zero_or_pos (mx14 z p) with c | c
  · rw [lp_zero14 z p c] at hi; omega
  · have h0 := (nl_part14 z p).2
    have h1 := lc13_ge e (by rw [List.length_drop]; omega) (mx14_le z p)
    have h2 := ((at14_is z p z.length).2 c).2.2 i hi
    have h3 : mp14 z p z.length = mx14 z p := rfl
    omega
theorem nl_next14 {z : List Int} {A : List Nat} (hA : Ar12 z.length (S12 z) A) {p : List Int} {i : Nat} (hi : i < p.length) : mx14 z (p.drop i) ≤ mx14 z (p.drop (i + 1)) + 1 := by
  have h1 := nr_step14 hA hi
  have h2 := mx_max14 hA (p.drop i)
  have h3 := mx_max14 hA (p.drop (i + 1))
  omega
theorem nl_nil14 (W : World) (q : Option Addr) : Seg W q [] := SegK.nil (by decide) W q
theorem str_ne14 {xs ys : List Int} (hx : ∀ z ∈ xs, 0 ≤ z ∧ z ≤ 255) (hy : ∀ z ∈ ys, 0 ≤ z ∧ z ≤ 255) (h : ¬ xs = ys) : ((strOfNums xs).toList == (strOfNums ys).toList) = false := by
  rw [str_injS hx hy]
  exact beq_eq_false_iff_ne.2 h
set_option maxRecDepth 100000 in
set_option maxHeartbeats 8000000 in
theorem findNoLonger_walk (w : World) (a : Option Addr) (z : List Int) (ca : Nat) (hs : Seg w a z) (hc : z.length ≤ ca) (hnil : a = none → ca = 0) (hl : z.length ≤ 1073741824) (pa : Option Addr) (p : List Int) (pc : Nat) (hp : Seg w pa p) (hpc : p.length ≤ pc) (hpn : pa = none → pc = 0) (hpl : p.length ≤ 1073741824) :
    Calls Try.prog 4 #[.slice a z.length ca, .slice pa p.length pc] w fun e w' => e = .returned (.bool true) ∧ Below w.heap.size w w' := by
  generalize hn0 : z.length = n at *
  have hn : Hid (z.length = n) := hn0
  generalize hm0 : p.length = m at *
  have hm : Hid (p.length = m) := hm0
  clear hn0 hm0
  have HAW : Hid (∀ W, Below w.heap.size w W → Calls Try.prog 6 #[] W fun e w' => e = .returned (.bool true) ∧ Below w.heap.size w w') := fun W hb => awkW14 hb
  by_cases h24 : 16777216 < n
  · have HN := pidxn14 a n ca w h24 (by omega)
    have AW := HAW.out w (Below.refl _ _)
    clear hs hp
    go_enter Try.func4, Try.ntmps4
    go_wp2_with (first
      | (go_at_call 5; refine HN.mono ?_; rintro e1 w1 ⟨rfl, hw1⟩; subst hw1; clear HN)
      | (go_at_call 6; refine AW.mono ?_; rintro e2 w2 ⟨rfl, B2⟩))
    go_ret
    exact ⟨rfl, B2⟩
  · have HZB : Hid (∀ y ∈ z, 0 ≤ y ∧ y ≤ 255) := hs.mem
    have HPB : Hid (∀ y ∈ p, 0 ≤ y ∧ y ≤ 255) := hp.mem
    have HN := pidx14 a z n ca w hs hnil hn (by omega)
    have HCV : Hid (∀ W q (X : List Int) L c, Seg W q X → X.length = L → (convert 22 9 (.slice q L c)).run Try.prog W = .ok (.string (strOfNums X)) W) := fun W q X L c hq hL => by
      have h8 := run_conv_segS (P := Try.prog) c hq 22 5 9 Try.underlying22 Try.underlying5 Try.underlying9
      rw [hL] at h8
      exact h8
    have HSZ : Hid (∀ W, Below w.heap.size w W → Seg W a z) := fun W hb => hs.old hb
    have HSP : Hid (∀ W, Below w.heap.size w W → Seg W pa p) := fun W hb => hp.old hb
    have HZA : Hid (0 < n → ∃ xb off, a = some ⟨xb, off, none⟩) := fun h0 => by
      obtain ⟨xb, off, e, -⟩ := hs.at_ 0 (by rw [hn.out]; exact h0)
      exact ⟨xb, off, e⟩
    have HPA : Hid (0 < m → ∃ pb po, pa = some ⟨pb, po, none⟩) := fun h0 => by
      obtain ⟨xb, off, e, -⟩ := hp.at_ 0 (by rw [hm.out]; exact h0)
      exact ⟨xb, off, e⟩
    obtain ⟨t1, t2⟩ := nl_part14 z p
    rw [hn.out] at t2
    have t3 := mx14_le z p
    rw [hm.out] at t3
    have t4 : mx14 z p = 0 → lp14 z p = 0 := lp_zero14 z p
    clear hs hp
    go_enter Try.func4, Try.ntmps4
    go_wp2_with (first
      | (go_at_call 5; refine HN.mono ?_; rintro e1 w1 ⟨b, A, rfl, hI, B1⟩; clear HN)
      | (go_at_call 12; fail))
    have CL := pLong14 b n z A pa p m pc w1 hI (HSP.out w1 B1) hm (by omega) hpc
    unfold LoQ14 at CL
    refine CL.mono ?_
    rintro e2 w2 ⟨rfl, B12⟩
    have HAR : Hid (Ar12 z.length (S12 z) A) := hI.arz
    have HIX : Hid (∀ W, Below w1.heap.size w1 W → IX14 W b n z A) := fun W hb => hI.old hb
    have AW := pawk14 w2
    obtain ⟨M, hM⟩ : ∃ M, M = mx14 z p := ⟨_, rfl⟩
    obtain ⟨O, hO⟩ : ∃ O, O = lp14 z p := ⟨_, rfl⟩
    rw [← hM, ← hO] at t1 t2 t4
    rw [← hM] at t3
    rw [← hM, ← hO]
    have HNM : Hid (∀ i, i + M < n → M < m → ((strOfNums ((z.drop i).take (M + 1))).toList == (strOfNums (p.take (M + 1))).toList) = false) := fun i h1 h2 => str_ne14 (fun y hy => HZB.out y (List.mem_of_mem_drop (List.mem_of_mem_take hy))) (fun y hy => HPB.out y (List.mem_of_mem_take hy)) (by rw [hM]; exact nl_more14 (by rw [hn.out, ← hM]; exact h1) (by rw [hm.out, ← hM]; exact h2))
    have HNL : Hid (∀ i, i < O → ((strOfNums ((z.drop i).take M)).toList == (strOfNums (p.take M)).toList) = false) := fun i h1 => str_ne14 (fun y hy => HZB.out y (List.mem_of_mem_drop (List.mem_of_mem_take hy))) (fun y hy => HPB.out y (List.mem_of_mem_take hy)) (by rw [hM]; exact nl_less14 (by rw [← hO]; exact h1))
    have HM0 : Hid (M = mx14 z p) := hM
    have HT1 : Hid ((z.drop O).take M = p.take M) := t1
    obtain ⟨s, hs⟩ : ∃ s, s = O + M := ⟨_, rfl⟩
    have hsi : (O : Int) + (M : Int) = (s : Int) := by omega
    have hsw : IntKind.i64.wrap (s : Int) = (s : Int) := IntWalk.i64_in _ (by omega)
    have x1 : ¬ (M : Int) < 0 := by omega
    have x2 : ¬ (m : Int) < (M : Int) := by omega
    have x3 : ¬ (O : Int) < 0 := by omega
    have x4 : ¬ (n : Int) < (s : Int) := by omega
    have HSO : Hid (s = O + M) := hs
    clear CL hI hM hO t1 hs
    go_wp2_with (first
      | (go_at_call 6; refine AW.mono ?_; rintro e3 w3 ⟨rfl, B23⟩; clear AW))
    have B13 := B12.trans (B23.mono B12.size)
    have B3 := B1.trans (B13.mono B1.size)
    go_cut [84] from 15 (fun s84 wc => s84 = .bool false ∧ wc = w3.drew)
    case first =>
      rcases Nat.eq_zero_or_pos M with h0 | h0
      · have hO := t4 h0
        obtain rfl : s = 0 := by omega
        subst h0
        subst hO
        have cv0 : ∀ q c, (convert 22 9 (.slice q 0 c)).run Try.prog w3.drew = .ok (.string (strOfNums [])) w3.drew := fun q c => HCV.out _ q [] 0 c (nl_nil14 _ _) rfl
        generalize strOfNums [] = st at cv0
        clear HCV HSZ HSP HIX HAR HNM HNL HT1 HM0 HZA HPA
        have hw0 : IntKind.i64.wrap 0 = 0 := by decide
        refine still_all14 (by kernel_rfl) (by kernel_rfl) ?_
        repeat still_step
        refine wpStill_nil ?_
        go_wp2_with fail
        go_meet
        case rel => exact ⟨by first | rfl | simp, rfl⟩
      · obtain ⟨xb, off, ha⟩ := HZA.out (by omega)
        obtain ⟨pb, po, hpa⟩ := HPA.out (by omega)
        have sz := HSZ.out w3.drew (B3.trans ((Below.refl _ _).drew.mono B3.size))
        have sp := HSP.out w3.drew (B3.trans ((Below.refl _ _).drew.mono B3.size))
        rw [ha] at sz
        rw [hpa] at sp
        have hso := HSO.out
        have cv1 : (convert 22 9 (.slice (some ⟨xb, off + O, none⟩) (s - O) (ca - O))).run Try.prog w3.drew = .ok (.string (strOfNums (p.take M))) w3.drew := by
          have h7 := (sz.drop O).take M
          rw [HT1.out] at h7
          exact HCV.out _ _ _ _ _ h7 (by rw [List.length_take, hm.out]; omega)
        have cv2 : (convert 22 9 (.slice (some ⟨pb, po, none⟩) M pc)).run Try.prog w3.drew = .ok (.string (strOfNums (p.take M))) w3.drew := HCV.out _ _ _ _ _ (sp.take M) (by rw [List.length_take, hm.out]; omega)
        generalize strOfNums (p.take M) = st at cv1 cv2
        have v1 : ¬ ca = O := by omega
        have v2 : (O : Int) ≤ (s : Int) := by omega
        have v3 : (s : Int) ≤ (ca : Int) := by omega
        have v4 : (M : Int) ≤ (pc : Int) := by omega
        have v5 : ¬ (M : Int) = 0 := by omega
        have v6 : ((M : Int) == 0) = false := beq_eq_false_iff_ne.2 v5
        clear HCV HSZ HSP HIX HAR HNM HNL HT1 HM0 hso sz sp HZA HPA HSO
        subst ha
        subst hpa
        refine still_all14 (by kernel_rfl) (by kernel_rfl) ?_
        repeat still_step
        refine wpStill_nil ?_
        go_wp2_with fail
        go_meet
        case rel => exact ⟨by first | rfl | simp, rfl⟩
    case rest =>
      obtain ⟨rfl, rfl⟩ := hcut
      have B3D : Below w1.heap.size w1 w3.drew := B13.trans ((Below.refl _ _).drew.mono B13.size)
      have HB3 : Hid (∀ W, Below w3.drew.heap.size w3.drew W → Below w.heap.size w W ∧ Below w1.heap.size w1 W) := fun W hb => ⟨B1.trans ((B3D.trans (hb.mono B3D.size)).mono B1.size), B3D.trans (hb.mono B3D.size)⟩
      clear B12 B23 B13 B3 B3D x1 x2 x3 x4 hsi hsw
      generalize w3.drew = w4 at *
      go_wp2_with fail
      go_loopw [10] (fun ti wr => ∃ i : Nat, i ≤ n ∧ ti = .int .i64 i ∧ Below w4.heap.size w4 wr) (fun ti _ => n + 1 - (intOf ti).toNat)
      case atStart => exact ⟨0, Nat.zero_le _, rfl, Below.refl _ _⟩
      case round =>
        obtain ⟨i, hin, rfl, hB⟩ := hrel
        obtain ⟨r, hr⟩ : ∃ r, r = i + M := ⟨_, rfl⟩
        have hri : (i : Int) + (M : Int) = (r : Int) := by omega
        have hrw : IntKind.i64.wrap (r : Int) = (r : Int) := IntWalk.i64_in _ (by omega)
        by_cases h1 : i + M < n ∧ M < m
        · have c1 : (r : Int) < (n : Int) := by omega
          have c2 : (M : Int) < (m : Int) := by omega
          obtain ⟨xb, off, ha⟩ := HZA.out (by omega)
          obtain ⟨pb, po, hpa⟩ := HPA.out (by omega)
          have BD : Below w4.heap.size w4 wr.drew := hB.trans ((Below.refl _ _).drew.mono hB.size)
          have sz := HSZ.out wr.drew (HB3.out _ BD).1
          have sp := HSP.out wr.drew (HB3.out _ BD).1
          rw [ha] at sz
          rw [hpa] at sp
          have hne := HNM.out i h1.1 h1.2
          obtain ⟨e, he⟩ : ∃ e, e = r + 1 := ⟨_, rfl⟩
          obtain ⟨f, hf⟩ : ∃ f, f = M + 1 := ⟨_, rfl⟩
          have hei : (r : Int) + 1 = (e : Int) := by omega
          have hew : IntKind.i64.wrap (e : Int) = (e : Int) := IntWalk.i64_in _ (by omega)
          have hfi : (M : Int) + 1 = (f : Int) := by omega
          have hfw : IntKind.i64.wrap (f : Int) = (f : Int) := IntWalk.i64_in _ (by omega)
          rw [← hf] at hne
          have cv1 : (convert 22 9 (.slice (some ⟨xb, off + i, none⟩) (e - i) (ca - i))).run Try.prog wr.drew = .ok (.string (strOfNums ((z.drop i).take f))) wr.drew := HCV.out _ _ _ _ _ ((sz.drop i).take f) (by rw [List.length_take, List.length_drop, hn.out]; omega)
          have cv2 : (convert 22 9 (.slice (some ⟨pb, po, none⟩) f pc)).run Try.prog wr.drew = .ok (.string (strOfNums (p.take f))) wr.drew := HCV.out _ _ _ _ _ (sp.take f) (by rw [List.length_take, hm.out]; omega)
          generalize strOfNums (p.take f) = st at *
          generalize strOfNums ((z.drop i).take f) = s2 at *
          have v1 : ¬ ca = i := by omega
          have v2 : (i : Int) ≤ (e : Int) := by omega
          have v3 : (e : Int) ≤ (ca : Int) := by omega
          have v4 : (f : Int) ≤ (pc : Int) := by omega
          have HI1 : Hid (i + 1 ≤ n) := by show _ ≤ _; omega
          have HB5 : Hid (Below w4.heap.size w4 wr.drew) := BD
          clear HCV HSZ HSP HIX HAR HNM HNL HT1 HM0 sz sp HZA HPA HSO hr he hf BD
          subst ha
          subst hpa
          go_wp2_with fail
          refine still_all14 (by kernel_rfl) (by kernel_rfl) ?_
          repeat still_step
          refine wpStill_nil ?_
          go_wp2_with fail
          go_roundw
          case rel => exact ⟨i + 1, HI1.out, by go_num, HB5.out⟩
          case measure => simp [intOf]; omega
        · have cc : ((r : Int) < (n : Int) ∧ ¬ (M : Int) < (m : Int)) ∨ ¬ (r : Int) < (n : Int) := by omega
          rcases cc with ⟨c3, c2⟩ | c3
          all_goals
            clear hr h1 hrw
            go_wp2_with fail
            clear c3 hri
            go_loopw [11] (fun ti wr => ∃ i : Nat, i ≤ O ∧ ti = .int .i64 i ∧ Below w4.heap.size w4 wr) (fun ti _ => O - (intOf ti).toNat)
            case atStart => exact ⟨0, Nat.zero_le _, rfl, hB⟩
            case round =>
              clear hB
              obtain ⟨i2, hiO, rfl, hB⟩ := hrel
              by_cases h2 : i2 < O
              · have c4 : (i2 : Int) < (O : Int) := by omega
                have hM1 : M ≠ 0 := fun e => by have := t4 e; omega
                obtain ⟨xb, off, ha⟩ := HZA.out (by omega)
                obtain ⟨pb, po, hpa⟩ := HPA.out (by omega)
                have BD : Below w4.heap.size w4 wr.drew := hB.trans ((Below.refl _ _).drew.mono hB.size)
                have sz := HSZ.out wr.drew (HB3.out _ BD).1
                have sp := HSP.out wr.drew (HB3.out _ BD).1
                rw [ha] at sz
                rw [hpa] at sp
                have hne := HNL.out i2 h2
                obtain ⟨e, he⟩ : ∃ e, e = i2 + M := ⟨_, rfl⟩
                have hei : (i2 : Int) + (M : Int) = (e : Int) := by omega
                have hew : IntKind.i64.wrap (e : Int) = (e : Int) := IntWalk.i64_in _ (by omega)
                have cv1 : (convert 22 9 (.slice (some ⟨xb, off + i2, none⟩) (e - i2) (ca - i2))).run Try.prog wr.drew = .ok (.string (strOfNums ((z.drop i2).take M))) wr.drew := HCV.out _ _ _ _ _ ((sz.drop i2).take M) (by rw [List.length_take, List.length_drop, hn.out]; omega)
                have cv2 : (convert 22 9 (.slice (some ⟨pb, po, none⟩) M pc)).run Try.prog wr.drew = .ok (.string (strOfNums (p.take M))) wr.drew := HCV.out _ _ _ _ _ (sp.take M) (by rw [List.length_take, hm.out]; omega)
                generalize strOfNums (p.take M) = st at *
                generalize strOfNums ((z.drop i2).take M) = s2 at *
                have v1 : ¬ ca = i2 := by omega
                have v2 : (i2 : Int) ≤ (e : Int) := by omega
                have v3 : (e : Int) ≤ (ca : Int) := by omega
                have v4 : (M : Int) ≤ (pc : Int) := by omega
                have HB5 : Hid (Below w4.heap.size w4 wr.drew) := BD
                clear HCV HSZ HSP HIX HAR HNM HNL HT1 HM0 sz sp HZA HPA HSO he BD hM1
                subst ha
                subst hpa
                go_wp2_with fail
                refine still_all14 (by kernel_rfl) (by kernel_rfl) ?_
                repeat still_step
                refine wpStill_nil ?_
                go_wp2_with fail
                go_roundw
                case rel => exact ⟨i2 + 1, by omega, by go_num, HB5.out⟩
                case measure => simp [intOf]; omega
              · have c4 : ¬ (i2 : Int) < (O : Int) := by omega
                have CS := pstat14 b n z A pa p m pc wr (HIX.out wr (HB3.out wr hB).2) HZB.out (HSP.out wr (HB3.out wr hB).1) hm (by omega) hpc
                unfold StQ14 at CS
                have HUB : Hid (∀ i, mx14 z (p.drop i) ≤ m - i) := fun i => by
                  have := mx14_le z (p.drop i)
                  rw [List.length_drop, hm.out] at this
                  exact this
                have HNX : Hid (∀ i, i < m → mx14 z (p.drop i) ≤ mx14 z (p.drop (i + 1)) + 1) := fun i hi => nl_next14 HAR.out (by rw [hm.out]; exact hi)
                have HFI : Hid (∀ w5 W, Below wr.heap.size wr w5 → Below w5.heap.size w5 W → Below w.heap.size w W) := fun w5 W b5 hb => by
                  have b6 := hB.trans (b5.mono hB.size)
                  exact (HB3.out W (b6.trans (hb.mono b6.size))).1
                have HRW : Hid (∀ w5 gs, Rz12 w5 gs (stt14 z p) → ∀ W, Below w5.heap.size w5 W → ∀ i, i < m → W.cell? ⟨gs, i, none⟩ = some (.int .i64 ((mx14 z (p.drop i) : Nat) : Int))) := fun w5 gs R W hb i hi => by
                  have := (R.old hb).cell (i := i) (by rw [stt14_len, hm.out]; exact hi)
                  rw [stt14_get z p (by rw [hm.out]; exact hi)] at this
                  exact this
                have HMZ : Hid (mx14 z (p.drop 0) = M) := by show _ = _; rw [List.drop_zero]; exact HM0.out.symm
                clear HCV HSZ HSP HIX HAR HNM HNL HT1 HM0 HZA HPA HSO HB3 hB t2 t4
                go_wp2_with (first
                  | (go_at_call 8; fail))
                refine CS.mono ?_
                rintro e5 w5 ⟨gs, rfl, Rs, qs, BS⟩
                clear CS
                have HRS : Hid (∀ W, Below w5.heap.size w5 W → ∀ i, i < m → W.cell? ⟨gs, i, none⟩ = some (.int .i64 ((mx14 z (p.drop i) : Nat) : Int))) := HRW.out w5 gs Rs
                have HBF : Hid (∀ W, Below w5.heap.size w5 W → Below w.heap.size w W) := fun W hb => HFI.out w5 W BS hb
                have cc2 : ((0 : Int) < (m : Int) ∧ w5.cell? ⟨gs, 0, none⟩ = some (.int .i64 (M : Int))) ∨ ¬ (0 : Int) < (m : Int) := by
                  rcases Nat.eq_zero_or_pos m with hm0 | hm0
                  · right; omega
                  · left
                    have c0 := HRS.out w5 (Below.refl _ _) 0 hm0
                    rw [HMZ.out] at c0
                    exact ⟨by omega, c0⟩
                clear Rs BS qs HRW HFI HMZ
                rcases cc2 with ⟨cm, c0⟩ | cm
                all_goals
                  go_wp2_with fail
                  go_loopw [14] (fun ti wr => ∃ i : Nat, 1 ≤ i ∧ i ≤ m + 1 ∧ ti = .int .i64 i ∧ Below w5.heap.size w5 wr) (fun ti _ => m + 1 - (intOf ti).toNat)
                  case atStart => exact ⟨1, Nat.le_refl _, by omega, rfl, Below.refl _ _⟩
                  case round =>
                    obtain ⟨i3, hi1, hi2, rfl, hB⟩ := hrel
                    by_cases h3 : i3 < m
                    · try (exfalso; omega)
                      all_goals
                        have c5 : (i3 : Int) < (m : Int) := by omega
                        obtain ⟨j, hj⟩ : ∃ j, j = i3 - 1 := ⟨_, rfl⟩
                        have BD : Below w5.heap.size w5 wr.drew := hB.trans ((Below.refl _ _).drew.mono hB.size)
                        have ci := HRS.out wr.drew BD i3 h3
                        have cj := HRS.out wr.drew BD j (by omega)
                        have hx := HNX.out j (by omega)
                        rw [show j + 1 = i3 by omega] at hx
                        have hu := HUB.out i3
                        have hv := HUB.out j
                        generalize mx14 z (p.drop i3) = u at *
                        generalize mx14 z (p.drop j) = v at *
                        obtain ⟨q, hq⟩ : ∃ q, q = m - i3 := ⟨_, rfl⟩
                        have d1 : (i3 : Int) - 1 = (j : Int) := by omega
                        have d2 : IntKind.i64.wrap (j : Int) = (j : Int) := IntWalk.i64_in _ (by omega)
                        have d3 : (m : Int) - (i3 : Int) = (q : Int) := by omega
                        have d4 : IntKind.i64.wrap (q : Int) = (q : Int) := IntWalk.i64_in _ (by omega)
                        have d5 : IntKind.i64.wrap ((v : Int) - 1) = (v : Int) - 1 := IntWalk.i64_in _ (by omega)
                        have d6 : ¬ (u : Int) < (v : Int) - 1 := by omega
                        have d7 : ¬ (q : Int) < (u : Int) := by omega
                        have d8 : (j : Int) < (m : Int) := by omega
                        have HB5 : Hid (Below w5.heap.size w5 wr.drew) := BD
                        clear hj hq hx hu hv BD HRS HNX HUB HBF
                        go_wp2_with fail
                        refine still_all14 (by kernel_rfl) (by kernel_rfl) ?_
                        repeat still_step
                        refine wpStill_nil ?_
                        go_wp2_with fail
                        go_roundw
                        case rel => exact ⟨i3 + 1, by omega, by omega, by go_num, HB5.out⟩
                        case measure => simp [intOf]; omega
                    · have c5 : ¬ (i3 : Int) < (m : Int) := by omega
                      go_wp2_with fail
                      go_ret
                      exact ⟨by first | rfl | simp, HBF.out wr hB⟩
end Go.Proofs.Ytkpfailmmcelcaa

namespace Go.Proofs.Ytkpfailmmcelcaa
open Go.ChangeShapes Go.WideShapes Go.ChangeAt Go.RowKit
set_option linter.unusedVariables false

/-- A slice of whole numbers that came in: what lies there, and how it was read. -/
theorem open_seg {H : Type} {enc : TypeId × Value → H} {P : Program} {W : World} {T e : TypeId} {k : IntKind} {M : Int} {a : Option Addr} {len cap : Nat} {d : DataW H} {p : List MemPlace}
    (hT : P.underlying T = some (.slice e)) (he : P.underlying e = some (.int k)) (hc : P.cellsOf e = 1) (hM : 0 ≤ M) (hwf : ∀ n, (Lit.int k n).wf = true → 0 ≤ n ∧ n ≤ M)
    (h : DataW.Trod enc P W 0 (fun _ => true) true T (.slice a len cap) d p) :
    ∃ zs : List Int, zs.length = len ∧ SegK k M W a zs ∧ len ≤ cap ∧ (a = none → cap = 0) ∧ ((d = .nil ∧ len = 0) ∨ ∃ elems spare, d = .slice elems spare ∧ elems.length = len) := by
  obtain ⟨fuel, hf⟩ := h
  rcases open_ints hT he hc hf with ⟨hcs, hx⟩ | ⟨x, l, c, zs, hcs, _, hl, hm, hz, hx, hcell, hwz⟩
  · simp [Value.cells] at hcs
    obtain ⟨rfl, rfl, rfl⟩ := hcs
    simp only [Prod.mk.injEq] at hx
    exact ⟨[], rfl, SegK.nil hM _ _, Nat.le_refl _, fun _ => rfl, Or.inl ⟨hx.1, rfl⟩⟩
  · simp [Value.cells] at hcs
    obtain ⟨rfl, rfl, rfl⟩ := hcs
    simp only [Prod.mk.injEq] at hx
    simp only [if_true] at hz
    refine ⟨zs.take len, by simp; omega, ⟨fun i hi => ?_, hM, getD_bd hM ?_⟩, hl, (by intro h; cases h), Or.inr ⟨_, _, hx.1, by simp [ChangeShapes.lits]; omega⟩⟩
    · simp at hi
      have hi2 : i < len := by omega
      have h1 := hcell i (by omega)
      obtain ⟨b, off, spot⟩ := x
      have hs : spot = none := by
        have := hcell 0 (by omega)
        simpa [Addr.add] using World.cell?_spot this
      subst hs
      refine ⟨b, off, rfl, ?_⟩
      have hadd : (⟨b, off, none⟩ : Addr).add i = ⟨b, off + i, none⟩ := by unfold Addr.add; split <;> simp_all
      rw [hadd] at h1
      rw [h1]
      simp [List.getD, hi2]
    · intro z hz1
      exact hwf z (hwz z (List.mem_of_mem_take hz1))
end Go.Proofs.Ytkpfailmmcelcaa
