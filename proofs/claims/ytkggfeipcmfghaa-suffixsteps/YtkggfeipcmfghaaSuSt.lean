
import Derived.Test.YtkggfeipcmfghaaSuK1
import Derived.Test.YtkggfeipcmfghaaSuL1
import Derived.Test.YtkggfeipcmfghaaSuR1
import Derived.Test.YtkggfeipcmfghaaFdM2
import Derived.Test.YtkggfeipcmfghaaSame
namespace Go.Proofs.Ytkggfeipcmfghaa
open Go.RowKit
set_option linter.unusedVariables false

/-! SuffixSteps: the walk. -/
theorem big13 {k : Nat} (h : k ≤ 281474976710656) : k ≤ 9223372036854775807 := by omega
theorem kt13_ne {z : List Int} {A : List Nat} (hA : Ar12 z.length (S12 z) A) {k r : Nat} (h : Kr13 z A k r) : LL12 [] (kt13 z A k r) := by
  have := kt13_len hA h
  cases e : kt13 z A k r with
  | nil => rw [e] at this; simp at this
  | cons x l => exact .nil
theorem kt13_at {z : List Int} {A : List Nat} (hA : Ar12 z.length (S12 z) A) {k r : Nat} (h : Kr13 z A k r) : A.getD r 0 + (kt13 z A k r).length ≤ z.length ∧ (z.drop (A.getD r 0)).take (kt13 z A k r).length = kt13 z A k r := by
  have h1 := kt13_len hA h
  have h2 := h.hi
  have h3 := h.lo
  have h4 := hA.get h.lt
  unfold fr13 at h2
  refine ⟨by omega, ?_⟩
  rw [h1]
  rfl
theorem kr13_lt {z : List Int} {A : List Nat} {k r : Nat} (h : Kr13 z A k r) : k < ks13 z A z.length := by
  have h1 := ks13_mono z A (r := r + 1) (q := z.length) h.lt
  have h2 : ks13 z A (r + 1) = ks13 z A r + fr13 z A r := rfl
  have := h.hi
  omega
theorem ks13_sq {z : List Int} {A : List Nat} (hA : Ar12 z.length (S12 z) A) : ks13 z A z.length ≤ z.length * z.length := by
  have := ks13_sum hA z.length (Nat.le_refl _)
  omega
theorem kt13_bd {z : List Int} {A : List Nat} (hz : ∀ y ∈ z, 0 ≤ y ∧ y ≤ 255) (k r : Nat) : ∀ y ∈ kt13 z A k r, 0 ≤ y ∧ y ≤ 255 := fun y hy => hz y (List.mem_of_mem_drop (List.mem_of_mem_take hy))
set_option maxRecDepth 100000 in
set_option maxHeartbeats 8000000 in
theorem suffixSteps_walk (w : World) (a : Option Addr) (z : List Int) (ca : Nat) (hs : Seg w a z) (hc : z.length ≤ ca) (hnil : a = none → ca = 0) (hl : z.length ≤ 140737488351232) :
    Calls Try.prog 6 #[.slice a z.length ca] w fun e w' => e = .returned (.bool true) ∧ Below w.heap.size w w' := by
  generalize hn0 : z.length = n at *
  have hn : Hid (z.length = n) := hn0
  clear hn0
  by_cases h24 : 16777216 < n
  · have h24i : (16777216 : Int) < (n : Int) := by omega
    have HN := pnewn13 a n ca w h24 (by omega)
    clear hs
    go_enter Try.func6, Try.ntmps6
    go_wp2_with (first
      | (go_at_call 17; refine HN.mono ?_; rintro e1 w1 ⟨rfl, hw1⟩; subst hw1))
    go_ret
    exact ⟨rfl, Below.refl _ _⟩
  · have h24i : ¬ (16777216 : Int) < (n : Int) := by omega
    have hn24 : n ≤ 16777216 := by omega
    have HN := pnew13 a z n ca w hs hnil hn (by omega)
    have HSZ : Hid (∀ W, Below w.heap.size w W → Seg W a z) := fun W hb => hs.old hb
    have HVZ : Hid (∀ y ∈ z, 0 ≤ y ∧ y ≤ 255) := hs.mem
    have HCD : Hid (∀ W xb off at_ k L, a = some ⟨xb, off, none⟩ → Below w.heap.size w W → at_ + k ≤ n → L = k → ∀ d, (convert 36 9 (.slice (some ⟨xb, off + at_, none⟩) L (ca - at_))).run Try.prog (W.drewN d) = .ok (.string (strOfNums ((z.drop at_).take k))) (W.drewN d)) := by
      rintro W xb off at_ k L rfl hb hk rfl d
      have h7 := ((((hs.old hb).drewN d).drop at_).take L)
      have h8 := run_conv_segS (P := Try.prog) (ca - at_) h7 36 5 9 Try.underlying36 Try.underlying5 Try.underlying9
      have h9 : ((z.drop at_).take L).length = L := by rw [List.length_take, List.length_drop, hn.out]; omega
      rw [h9] at h8
      exact h8
    have hsq : n * n ≤ 16777216 * 16777216 := Nat.mul_le_mul hn24 hn24
    obtain ⟨SQ, hSQ⟩ : ∃ SQ, SQ = n * n := ⟨_, rfl⟩
    have HSQ : Hid (SQ = n * n) := hSQ
    have im1 : IntKind.i64.wrap ((n : Int) * (n : Int)) = (SQ : Int) := by rw [show (n : Int) * (n : Int) = (SQ : Int) by rw [hSQ]; push_cast; rfl]; exact IntWalk.i64_in _ (by omega)
    have hSQb : SQ ≤ 281474976710656 := by omega
    clear hsq
    clear hs hSQ
    go_enter Try.func6, Try.ntmps6
    go_wp2_with (first
      | (go_at_call 17; refine HN.mono ?_; rintro e1 w1 ⟨b, da, dc, aa, ac, gb, gr, A, rfl, hI, B1, -⟩; clear HN))
    have hA : Ar12 z.length (S12 z) A := by rw [hn.out]; exact hI.ar
    have HAR : Hid (Ar12 z.length (S12 z) A) := hA
    have HKT : Hid (∀ (k : Nat) (W : World), k ≤ 281474976710656 → Below w1.heap.size w1 W → Calls Try.prog 18 #[.pointer (some ⟨b, 0, none⟩), .int .i64 (k : Int)] W (KtQ13 W z A k)) := fun k W hk hb => pkth13 b da dc aa ac gb gr n z A k (big13 hk) W (hI.old hb)
    have HLP : Hid (∀ W, Below w1.heap.size w1 W → Calls Try.prog 24 #[.pointer (some ⟨b, 0, none⟩)] W (LvQ13 W z A n)) := fun W hb => plcp13 b da dc aa ac gb gr n z A W (hI.old hb)
    have HNS : Hid (ks13 z A n ≤ SQ) := by show _ ≤ _; rw [HSQ.out, ← hn.out]; exact ks13_sq hA
    have HBW : Hid (∀ W, Below w1.heap.size w1 W → Below w.heap.size w W) := fun W hb => B1.trans (hb.mono B1.size)
    clear hI hA
    go_loopw [5, 6] (fun tl tn wr => ∃ (j : Nat) (Tl : List Int), tl = .string (strOfNums Tl) ∧ tn = .int .i64 j ∧ Hid (j ≤ ks13 z A n) ∧ Hid (∀ y ∈ Tl, 0 ≤ y ∧ y ≤ 255) ∧ Hid (∀ r, Kr13 z A j r → LL12 Tl (kt13 z A j r)) ∧ Below w1.heap.size w1 wr) (fun _ tn _ => ks13 z A n - (intOf tn).toNat)
    case atStart => exact ⟨0, [], rfl, rfl, Nat.zero_le _, (fun y hy => by cases hy), (fun r hr => kt13_ne HAR.out hr), Below.refl _ _⟩
    case round =>
      obtain ⟨j, Tl, rfl, rfl, HJ, HTB, HLL, BR⟩ := hrel
      have hjq : j ≤ SQ := Nat.le_trans HJ.out HNS.out
      have CK := HKT.out j wr (by omega) BR
      go_wp2_with (first
        | (go_at_call 18; fail))
      refine CK.mono ?_
      clear CK
      rintro e2 w2 hq
      rcases hq with ⟨r, ra, rc, hkr, rfl, hown, B2⟩ | ⟨hend, rfl, B2⟩
      · have hlt := kr13_lt hkr
        rw [hn.out] at hlt
        have HLT : Hid (j < ks13 z A n) := hlt
        have s2 := own_seg13 hown (kt13_bd HVZ.out j r)
        obtain ⟨p1, p2⟩ := kt13_at HAR.out hkr
        rw [hn.out] at p1
        have HP2 : Hid ((z.drop (A.getD r 0)).take (kt13 z A j r).length = kt13 z A j r) := p2
        have hrn : A.getD r 0 < n := by have := HAR.out.get hkr.lt; rw [hn.out] at this; exact this
        have hLp : 1 ≤ (kt13 z A j r).length := by rw [kt13_len HAR.out hkr]; omega
        have hbl := sl13 HTB.out (kt13_bd HVZ.out j r) (HLL.out r hkr)
        have HBL : Hid (Op.bytesLess (strOfNums Tl).toList (strOfNums (kt13 z A j r)).toList = true) := hbl
        have hll := HLL.out r hkr
        have HB2 : Hid (Op.bytesLess (strOfNums (kt13 z A j r)).toList (strOfNums Tl).toList = false) := sln13 (kt13_bd HVZ.out j r) HTB.out (fun k => hll.asymm k)
        have HB3 : Hid (((strOfNums (kt13 z A j r)).toList == (strOfNums Tl).toList) = false) := by
          show _ = _
          rw [str_injS (kt13_bd HVZ.out j r) HTB.out]
          exact beq_eq_false_iff_ne.2 (fun e => by rw [e] at hll; exact hll.irrefl)
        clear hll
        have HNX : Hid (∀ q, Kr13 z A (j + 1) q → LL12 (kt13 z A j r) (kt13 z A (j + 1) q)) := fun q hq => kt13_rise HAR.out hkr hq
        have HTBn : Hid (∀ y ∈ kt13 z A j r, 0 ≤ y ∧ y ≤ 255) := kt13_bd HVZ.out j r
        have HEQ : Hid (∀ X, (∀ y ∈ X, 0 ≤ y ∧ y ≤ 255) → ((strOfNums X).toList == (strOfNums (kt13 z A j r)).toList) = (X == kt13 z A j r)) := fun X hX => str_injS hX HTBn.out
        have HCT : Hid (∀ d, (convert 36 9 (.slice ra (kt13 z A j r).length rc)).run Try.prog (w2.drewN d) = .ok (.string (strOfNums (kt13 z A j r))) (w2.drewN d)) := fun d => run_conv_segS (P := Try.prog) rc (s2.drewN d) 36 5 9 Try.underlying36 Try.underlying5 Try.underlying9
        have C2 := BR.trans (B2.mono BR.size)
        have BW2 := HBW.out w2 C2
        obtain ⟨xb, off, hxa, -⟩ := (HSZ.out w (Below.refl _ _)).at_ 0 (by rw [hn.out]; omega)
        have HXA : Hid (a = some ⟨xb, off, none⟩) := hxa
        subst hxa
        clear hbl p2 s2 hown hlt HLL hkr HKT
        generalize kt13 z A j r = T at *
        generalize A.getD r 0 = ar at *
        obtain ⟨L, hL⟩ : ∃ L, L = T.length := ⟨_, rfl⟩
        rw [← hL] at p1 hLp HP2 HCT ⊢
        have HL : Hid (L = T.length) := hL
        clear hL
        go_wp2_with fail
        go_loopw [9, 46] (fun ts ti wr => ∃ (i : Nat) (s : Bool), i ≤ n ∧ ts = .bool s ∧ ti = .int .i64 i ∧ (ar < i → s = true) ∧ ∃ d, wr = w2.drewN d) (fun _ ti _ => n - (intOf ti).toNat)
        case atStart => exact ⟨0, false, Nat.zero_le _, rfl, rfl, fun h => by omega, 0, rfl⟩
        case round =>
          obtain ⟨i, s, hin, rfl, rfl, hsi, d, hd⟩ := hrel
          have HD : Hid (wr = w2.drewN d) := hd
          have y0 : ∀ k, (convert 36 9 (.slice ra L rc)).run Try.prog (wr.drewN k) = .ok (.string (strOfNums T)) (wr.drewN k) := fun k => by rw [hd, drewN13]; exact HCT.out (d + k)
          have BWR : Below w.heap.size w wr := by rw [hd]; exact BW2.trans ⟨rfl, rfl, rfl, Nat.le_refl _, fun _ _ => rfl⟩
          clear hd
          by_cases h1 : i < n
          · have h1i : (i : Int) < (n : Int) := by omega
            cases s with
            | true =>
              clear y0
              go_wp2_with fail
              go_quiet (fail)
              go_wp2_with fail
              go_roundw
              case rel => exact ⟨i + 1, true, by omega, rfl, by go_num, fun _ => rfl, d + nq, by rw [HD.out, drewN13]⟩
              case measure => simp [intOf]; omega
            | false =>
              have hne : ¬ ar < i := fun h => by have := hsi h; cases this
              have x1 : (0 : Int) ≤ (i : Int) := by omega
              have x3 : (i : Int) ≤ (i : Int) + (L : Int) := by omega
              have x7 : IntKind.i64.wrap ((i : Int) + (L : Int)) = (i : Int) + (L : Int) := IntWalk.i64_in _ (by omega)
              have x9 : (0 : Int) ≤ (i : Int) + (L : Int) := by omega
              have x11 : ¬ ca = i := by omega
              by_cases h2 : i + L ≤ n
              · have g1 : decide ((i : Int) + (L : Int) ≤ (n : Int)) = true := decide_eq_true (by omega)
                have g2 : (i : Int) + (L : Int) ≤ (n : Int) := by omega
                have x5 : (i : Int) + (L : Int) ≤ (ca : Int) := by omega
                have HXB : Hid (∀ y ∈ (z.drop i).take L, 0 ≤ y ∧ y ≤ 255) := fun y hy => HVZ.out y (List.mem_of_mem_drop (List.mem_of_mem_take hy))
                have HE := HEQ.out _ HXB.out
                have y1 := HCD.out wr xb off i L L rfl BWR h2 rfl
                have y2 := HCD.out wr xb off i L (((i : Int) + (L : Int)).toNat - i) rfl BWR h2 (by omega)
                have y3 := HCD.out wr xb off i L (i + L - i) rfl BWR h2 (by omega)
                by_cases h3 : (z.drop i).take L = T
                · rw [h3] at y1 y2 y3
                  clear HE h3 hsi
                  generalize strOfNums T = st at *
                  go_wp2_with fail
                  go_quiet (fail)
                  clear y0 y1 y2 y3
                  go_wp2_with fail
                  go_roundw
                  case rel => exact ⟨i + 1, true, by omega, by first | rfl | simp, by go_num, fun _ => rfl, d + nq, by rw [HD.out, drewN13]⟩
                  case measure => simp [intOf]; omega
                · rw [beq_eq_false_iff_ne.2 h3] at HE
                  have hia : ¬ ar = i := fun e => h3 (by rw [← e]; exact HP2.out)
                  clear h3 hsi
                  generalize strOfNums T = st at *
                  generalize strOfNums ((z.drop i).take L) = st2 at *
                  go_wp2_with fail
                  go_quiet (fail)
                  clear y0 y1 y2 y3
                  go_wp2_with fail
                  go_roundw
                  case rel => exact ⟨i + 1, false, by omega, by first | rfl | (simp [HE]) | simp, by go_num, fun h => by omega, d + nq, by rw [HD.out, drewN13]⟩
                  case measure => simp [intOf]; omega
              · have g1 : decide ((i : Int) + (L : Int) ≤ (n : Int)) = false := decide_eq_false (by omega)
                have g2 : ¬ (i : Int) + (L : Int) ≤ (n : Int) := by omega
                have hia : ¬ ar = i := fun e => h2 (by omega)
                clear y0 hsi
                go_wp2_with fail
                go_quiet (fail)
                go_wp2_with fail
                go_roundw
                case rel => exact ⟨i + 1, false, by omega, rfl, by go_num, fun h => by omega, d + nq, by rw [HD.out, drewN13]⟩
                case measure => simp [intOf]; omega
          · have h1i : ¬ (i : Int) < (n : Int) := by omega
            obtain rfl : s = true := hsi (by omega)
            have y1 := y0 0
            have hw0 : wr.drewN 0 = wr := rfl
            rw [hw0] at y1
            have hbl := HBL.out
            have hb2 := HB2.out
            have hb3 := HB3.out
            have CW : Below w1.heap.size w1 wr := by rw [HD.out]; exact C2.trans ⟨rfl, rfl, rfl, Nat.le_refl _, fun _ _ => rfl⟩
            have q1 : ¬ (SQ : Int) < (j : Int) := by omega
            clear y0 hw0 hsi
            generalize hst : strOfNums T = st at *
            have HST : Hid (st = strOfNums T) := hst.symm
            clear hst
            generalize strOfNums Tl = sl at *
            go_wp2_with fail
            go_roundw
            case rel => exact ⟨j + 1, T, by rw [HST.out], by go_num, HLT.out, HTBn, HNX, CW⟩
            case measure => simp [intOf]; have := HLT.out; omega
      · rw [hn.out] at hend
        obtain ⟨N, hN⟩ : ∃ N, N = ks13 z A n := ⟨_, rfl⟩
        have HNN : Hid (N = ks13 z A n) := hN
        obtain rfl : j = N := by rw [hN]; have := HJ.out; omega
        have C2 := BR.trans (B2.mono BR.size)
        have HT2 : n * (n + 1) ≤ 16777216 * 16777217 := Nat.mul_le_mul hn24 (by omega)
        have hz := dt14_zero HAR.out
        rw [hn.out] at hz
        obtain ⟨T2, hT⟩ : ∃ T2, T2 = n * (n + 1) := ⟨_, rfl⟩
        have hm1 : (n : Int) * ((n : Int) + 1) = (T2 : Int) := by rw [hT]; push_cast; rfl
        rw [← hT] at hz HT2
        obtain ⟨T0, hT0⟩ : ∃ T0, T0 = dt14 z A 0 := ⟨_, rfl⟩
        have HT0 : Hid (T0 = dt14 z A 0) := hT0
        rw [← hT0] at hz
        clear hT hT0 hN hend
        have i1 : IntKind.i64.wrap ((n : Int) * ((n : Int) + 1)) = (T2 : Int) := by rw [hm1]; exact IntWalk.i64_in _ (by omega)
        have i2 : (T2 : Int).tdiv 2 = (T0 : Int) := by rw [Int.tdiv_eq_ediv_of_nonneg (by omega)]; omega
        have i3 : (T2 : Int) / 2 = (T0 : Int) := by omega
        have hT0b : T0 ≤ 281474993487872 := by omega
        have HEND : Hid (dt14 z A n = ks13 z A n) := by have := dt14_end z A; rw [hn.out] at this; exact this
        have HSTP : Hid (∀ r, r < n → dt14 z A (r + 1) + lv13 z A r = dt14 z A r) := fun r hr => dt14_step (by rw [hn.out]; exact hr)
        have HLE : Hid (∀ r, dt14 z A r ≤ dt14 z A 0) := dt14_le z A
        clear hz hm1 HLL HJ
        generalize strOfNums Tl = sl at *
        go_wp2_with (first
          | (go_at_call 24; refine (HLP.out w2 C2).mono ?_; rintro e3 w3 ⟨g, rfl, hR, -, B3⟩; have C3 := C2.trans (B3.mono C2.size)))
        have HR : Hid (∀ r, r < n → w3.cell? ⟨g, r, none⟩ = some (.int .i64 ((lv13 z A r : Nat) : Int))) := fun r hr => by
          have := hR.cell (i := r) (by rw [lp13_len, hn.out]; exact hr)
          rw [lp13_get (by rw [hn.out]; exact hr)] at this
          exact this
        have BF := HBW.out w3 C3
        clear hR
        go_loopw [11, 106] (fun tt ti wr => ∃ r t : Nat, r ≤ n ∧ tt = .int .i64 t ∧ ti = .int .i64 r ∧ Hid (t = dt14 z A r) ∧ wr = w3) (fun _ ti _ => n - (intOf ti).toNat)
        case atStart => exact ⟨0, T0, Nat.zero_le _, by first | rfl | go_num, rfl, HT0, rfl⟩
        case round =>
          obtain ⟨r, t, hr, rfl, rfl, HD, hw⟩ := hrel
          subst hw
          by_cases h1 : r < n
          · have h1i : (r : Int) < (n : Int) := by omega
            have c1 := HR.out r h1
            have hs := HSTP.out r h1
            have ht0 := HLE.out r
            rw [← HD.out] at hs ht0
            rw [← HT0.out] at ht0
            obtain ⟨t', ht'⟩ : ∃ t', t' = dt14 z A (r + 1) := ⟨_, rfl⟩
            have HT' : Hid (t' = dt14 z A (r + 1)) := ht'
            rw [← ht'] at hs
            clear ht'
            generalize lv13 z A r = v at *
            have e1 : (t : Int) - (v : Int) = (t' : Int) := by omega
            have hvb : v ≤ 281474993487872 := by omega
            clear hs
            go_wp2_with fail
            go_roundw
            case rel => exact ⟨r + 1, t', by omega, by first | rfl | go_num, by go_num, HT', by first | trivial | rfl⟩
            case measure => simp [intOf]; omega
          · have h1i : ¬ (r : Int) < (n : Int) := by omega
            obtain rfl : r = n := by omega
            obtain rfl : j = t := by rw [HNN.out, HD.out, HEND.out]
            go_wp2_with (first
              | (go_at_call 16; refine (plives13 _).mono ?_; rintro e5 w5 ⟨rfl, B5⟩))
            go_ret
            exact ⟨by first | rfl | simp, BF.trans (B5.mono BF.size)⟩
end Go.Proofs.Ytkggfeipcmfghaa
