import Derived.Test.YtppjcgkgemhilaaBtTwo
namespace Go.Proofs.Ytppjcgkgemhilaa
open Go.RowKit
set_option linter.unusedVariables false

set_option maxHeartbeats 4000000 in
theorem bitsSame_walk (w : World) (x : Int) (hx0 : 0 ≤ x) (hx1 : x ≤ 18446744073709551615) (n : Int) (hn0 : -9223372036854775808 ≤ n) (hn1 : n ≤ 9223372036854775807)
    (pa : Option Addr) (p : List Int) (pc : Nat) (hs : Seg w pa p) (hcap : p.length ≤ pc) (hnil : pa = none → pc = 0) (hl : p.length ≤ 140737488351232) :
    Calls Try.prog 8 #[.int .u64 x, .int .i64 n, .slice pa p.length pc] w fun e w' => e = .returned (.bool true) ∧ Below w.heap.size w w' := by
  obtain ⟨v, rfl⟩ : ∃ v : Nat, x = v := ⟨x.toNat, by omega⟩
  have hv : v < 18446744073709551616 := by omega
  obtain ⟨b1, hb1⟩ : ∃ b, b = w.heap.size := ⟨_, rfl⟩
  obtain ⟨b2, hb2⟩ : ∃ b, b = w.heap.size + 1 := ⟨_, rfl⟩
  obtain ⟨B, hB⟩ : ∃ b, b = w.heap.size + 2 := ⟨_, rfl⟩
  obtain ⟨w0, hw0⟩ : ∃ w0, w0 = (w.alloc (.cells #[.slice none 0 0, .int .u64 0, .int .i64 0] 29)).alloc (.cells #[.slice none 0 0, .int .u64 0, .int .i64 0] 29) := ⟨_, rfl⟩
  have hT0 : Below w.heap.size w w0 := by
    have h1 : Below w.heap.size w (w.alloc (.cells #[.slice none 0 0, .int .u64 0, .int .i64 0] 29)) := (Below.refl _ _).alloc (Nat.le_refl _) _
    rw [hw0]
    exact h1.alloc (by simp) _
  have s0 : Seg w0 pa p := hs.old hT0
  have i1 : WrL w0 b1 B (.slice none 0 0) [] := WrL.new (by rw [hw0, hb1, Below.heap_alloc _ _ _ (by simp)]; exact heap_new _ _) (by rw [hw0]; simp; omega)
  have i2 : WrL w0 b2 B (.slice none 0 0) [] := WrL.new (by rw [hw0, hb2]; exact heap_new2 _ _ _) (by rw [hw0]; simp; omega)
  have HB1 : Hid (b1 = w.heap.size) := hb1
  have HB2 : Hid (b2 = w.heap.size + 1) := hb2
  have HB : Hid (B = w.heap.size + 2) := hB
  have HW : Hid (w0 = (w.alloc (.cells #[.slice none 0 0, .int .u64 0, .int .i64 0] 29)).alloc (.cells #[.slice none 0 0, .int .u64 0, .int .i64 0] 29)) := hw0
  clear hb1 hb2 hB hw0
  have hN1 : w.heap.size ≤ b1 := by have := HB1.out; omega
  have hN2 : w.heap.size ≤ b2 := by have := HB2.out; omega
  have hNB : w.heap.size ≤ B := by have := HB.out; omega
  have hb12 : b1 ≠ b2 := by have := HB1.out; have := HB2.out; omega
  have hb1B : b1 < B := by have := HB1.out; have := HB.out; omega
  have hb2B : b2 < B := by have := HB2.out; have := HB.out; omega
  have ap0 : Ap (Value.slice none 0 0).ownBlock (Value.slice none 0 0).ownBlock := ap_nil
  rcases errW_cases v n with ⟨he, hn⟩ | ⟨k, rfl, hk, ⟨he, hvk⟩ | ⟨he, hvk⟩⟩
  · obtain ⟨L, hL⟩ : ∃ L : List Bool, L = [] := ⟨_, rfl⟩
    rw [← hL] at i1 i2
    have hLl : L.length ≤ 56 := by rw [hL]; simp
    have HL : Hid (L.length = 0) := by show _ = _; rw [hL]; rfl
    have C := turned_no b1 v n w0 hv (by omega) (by omega) (by rw [he]; decide)
    rw [he] at C
    clear hL he
    rcases hn with hn | hn
    · go_enter Try.func8, Try.ntmps8
      go_wp2_with fail
      rw [← HW.out, ← HB2.out, ← HB1.out]
      refine C.mono ?_
      rintro e w1 ⟨rfl, hw1⟩
      subst w1
      go_wp2_with fail
      refine (len_any b1 B _ L w0 i1 (by omega)).mono ?_
      rintro e wA ⟨rfl, bA⟩
      rw [HL.out]
      have g1 : WrL wA b1 B _ L := i1.kp (S := fun _ => False) (Kp.of_below bA) (by simp) (by simp)
      have g2 : WrL wA b2 B _ L := i2.kp (S := fun _ => False) (Kp.of_below bA) (by simp) (by simp)
      have sA : Seg wA pa p := s0.old bA
      have hap := ap0
      have hTA : Below w.heap.size w wA := hT0.trans (bA.mono hT0.size)
      obtain ⟨v1, hv1⟩ : ∃ u, u = Value.slice none 0 0 := ⟨_, rfl⟩
      rw [← hv1] at g1 g2 hap
      obtain ⟨v2, hv2⟩ : ∃ u, u = v1 := ⟨_, rfl⟩
      have g2 : WrL wA b2 B v2 L := by rw [hv2]; exact g2
      have hap : Ap v1.ownBlock v2.ownBlock := by rw [hv2]; exact hap
      clear hv1 hv2 i1 i2 bA C ap0 HL
      go_wp2_with fail
      refine (whole_any b1 B v1 L pa p pc wA g1 sA hnil (fun g off e hp => g1.far hN1 hNB (hs.lt g off e hp)) (by omega)).mono ?_
      rintro e wB ⟨rfl, v3, g3, k3, f3⟩
      have g2b := g2.apart g1 k3 (Ne.symm hb12) hb2B hb1B hap.symm
      have apb : Ap v2.ownBlock v3.ownBlock := hap.symm.fresh g2 f3
      have bB' := g1.below k3 hN1 hNB
      have sB : Seg wB pa p := sA.kp k3 (fun g off e hp => g1.far hN1 hNB (hs.lt g off e hp))
      go_wp2_with fail
      refine (align_any b2 B v2 L wB g2b (by omega)).mono ?_
      rintro e wC ⟨rfl, v4, g4, k4, f4⟩
      have g3b := g3.apart g2b k4 hb12 hb1B hb2B apb.symm
      have apc : Ap v3.ownBlock v4.ownBlock := apb.symm.fresh g3 f4
      have bC' := g2b.below k4 hN2 hNB
      have sC : Seg wC pa p := sB.kp k4 (fun g off e hp => g2b.far hN2 hNB (hs.lt g off e hp))
      have hlA := alignL_len L
      have hpad : padN L.length < 8 := by unfold padN; omega
      have hTB : Below w.heap.size w wC := hTA.trans (bB'.trans bC')
      clear g1 g2 k3 f3 g2b apb bB' sB k4 f4 bC' g3
      generalize hAL : alignL L = A at *
      clear hAL
      go_wp2
      go_loopw [48] (fun ti wr => ∃ (i : Nat) (v5 : Value), i ≤ p.length ∧ ti = .int .i64 (i : Int) ∧ WrL wr b1 B v3 (A ++ bB p) ∧ WrL wr b2 B v5 (A ++ bB (p.take i)) ∧ Ap v3.ownBlock v5.ownBlock ∧ Seg wr pa p ∧ Below w.heap.size w wr) (fun ti _ => p.length - (intOf ti).toNat)
      case atStart => exact ⟨0, v4, Nat.zero_le _, rfl, g3b, by simpa [bB] using g4, apc, sC, hTB⟩
      case round =>
        obtain ⟨i, v5, hi, rfl, q1, q2, qap, qs, qb⟩ := hrel
        clear g3b g4 apc sC hTB
        by_cases hlt : i < p.length
        · have hlt2 : (i : Int) < (p.length : Int) := by omega
          obtain ⟨g, off, rfl, hcell⟩ := qs.at_ i hlt
          have hz := qs.bd i
          have HT : Hid (bB (p.take (i + 1)) = bB (p.take i) ++ bN (p.getD i 0).toNat 8) := by
            show _ = _
            rw [List.take_succ_eq_append_getElem hlt, bB_append, bB_one]
            simp [List.getD, hlt]
          have hlen : (A ++ bB (p.take i)).length = A.length + 8 * i := by rw [List.length_append, bB_len, List.length_take]; omega
          have C := put_ok b2 B v5 (A ++ bB (p.take i)) (p.getD i 0).toNat 8 wr q2 (by omega) (by decide) (by omega)
          rw [Int.toNat_of_nonneg hz.1] at C
          have HR : Hid (w.heap.size ≤ wr.heap.size) := qb.size
          clear hlen
          generalize p.getD i 0 = z at *
          go_wp2_with fail
          refine C.mono ?_
          rintro e wD ⟨rfl, v6, g6, k6, f6⟩
          have g5 := q1.apart q2 k6 hb12 hb1B hb2B qap
          have ap6 := qap.fresh q1 f6
          have sD := qs.kp k6 (fun g off e hp => q2.far hN2 hNB (hs.lt g off e hp))
          have bD := qb.trans (q2.below k6 hN2 hNB)
          go_wp2
          go_roundw
          case rel => exact ⟨i + 1, v6, by omega, by go_num, g5, by rw [HT.out, ← List.append_assoc]; exact g6, ap6, sD, bD⟩
          case measure => simp [intOf]; omega
        · have HI : Hid (i = p.length) := by show _ = _; omega
          have hge : (p.length : Int) ≤ (i : Int) := by omega
          clear hlt hi
          have q2' : WrL wr b2 B v5 (A ++ bB p) := by rw [HI.out, List.take_length] at q2; exact q2
          have hlen : (A ++ bB p).length = A.length + 8 * p.length := by rw [List.length_append, bB_len]
          have hlE : (A ++ bB p).length ≤ 1125899906842560 := by omega
          have hbd := toB_bd (A ++ bB p)
          clear q2 hlen
          generalize A ++ bB p = E at *
          go_wp2_with fail
          refine (len_any b1 B v3 E wr q1 (by omega)).mono ?_
          rintro e wE ⟨rfl, bE⟩
          have q3 : WrL wE b2 B v5 E := q2'.kp (S := fun _ => False) (Kp.of_below bE) (by simp) (by simp)
          have q4 : WrL wE b1 B v3 E := q1.kp (S := fun _ => False) (Kp.of_below bE) (by simp) (by simp)
          go_wp2_with fail
          refine (len_any b2 B v5 E wE q3 (by omega)).mono ?_
          rintro e wF ⟨rfl, bF⟩
          have q5 : WrL wF b2 B v5 E := q3.kp (S := fun _ => False) (Kp.of_below bF) (by simp) (by simp)
          have q6 : WrL wF b1 B v3 E := q4.kp (S := fun _ => False) (Kp.of_below bF) (by simp) (by simp)
          go_wp2_with fail
          refine (bytes_any b1 B v3 E wF q6 hlE).mono ?_
          rintro e wG ⟨a1, c1, rfl, o1, bG⟩
          have q7 : WrL wG b2 B v5 E := q5.kp (S := fun _ => False) (Kp.of_below bG) (by simp) (by simp)
          go_wp2_with fail
          refine (bytes_any b2 B v5 E wG q7 hlE).mono ?_
          rintro e wH ⟨a2, c2, rfl, o2, bH⟩
          have o1' := own_below o1 bH
          obtain ⟨_, x1, y1, e1, s1, _⟩ := own_seg o1' (M := 255) (by decide) hbd
          cases e1
          obtain ⟨_, x2, y2, e2, s2, _⟩ := own_seg o2 (M := 255) (by decide) hbd
          cases e2
          have hqb := qb.size
          have z1 := bE.size
          have z2 := bF.size
          have z3 := bG.size
          have z4 := bH.size
          clear q1 q2' q3 q4 q5 q6 q7 o1 o1' o2
          generalize toB E = T at *
          go_wp2_with fail
          refine (same_any a1 a2 T T c1 c2 wH s1 s2).mono ?_
          rintro e wI ⟨rfl, hwI⟩
          subst wI
          rw [beq_self_list]
          go_wp2_with fail
          refine (lives_any _).mono ?_
          rintro e wI ⟨rfl, bI⟩
          go_wp2
          go_ret
          exact ⟨rfl, qb.trans ((bE.mono hqb).trans ((bF.mono (by omega)).trans ((bG.mono (by omega)).trans ((bH.mono (by omega)).trans (bI.mono (by omega))))))⟩
    · have hn2 : 0 ≤ n := by omega
      go_enter Try.func8, Try.ntmps8
      go_wp2_with fail
      rw [← HW.out, ← HB2.out, ← HB1.out]
      refine C.mono ?_
      rintro e w1 ⟨rfl, hw1⟩
      subst w1
      go_wp2_with fail
      refine (len_any b1 B _ L w0 i1 (by omega)).mono ?_
      rintro e wA ⟨rfl, bA⟩
      rw [HL.out]
      have g1 : WrL wA b1 B _ L := i1.kp (S := fun _ => False) (Kp.of_below bA) (by simp) (by simp)
      have g2 : WrL wA b2 B _ L := i2.kp (S := fun _ => False) (Kp.of_below bA) (by simp) (by simp)
      have sA : Seg wA pa p := s0.old bA
      have hap := ap0
      have hTA : Below w.heap.size w wA := hT0.trans (bA.mono hT0.size)
      obtain ⟨v1, hv1⟩ : ∃ u, u = Value.slice none 0 0 := ⟨_, rfl⟩
      rw [← hv1] at g1 g2 hap
      obtain ⟨v2, hv2⟩ : ∃ u, u = v1 := ⟨_, rfl⟩
      have g2 : WrL wA b2 B v2 L := by rw [hv2]; exact g2
      have hap : Ap v1.ownBlock v2.ownBlock := by rw [hv2]; exact hap
      clear hv1 hv2 i1 i2 bA C ap0 HL
      go_wp2_with fail
      refine (whole_any b1 B v1 L pa p pc wA g1 sA hnil (fun g off e hp => g1.far hN1 hNB (hs.lt g off e hp)) (by omega)).mono ?_
      rintro e wB ⟨rfl, v3, g3, k3, f3⟩
      have g2b := g2.apart g1 k3 (Ne.symm hb12) hb2B hb1B hap.symm
      have apb : Ap v2.ownBlock v3.ownBlock := hap.symm.fresh g2 f3
      have bB' := g1.below k3 hN1 hNB
      have sB : Seg wB pa p := sA.kp k3 (fun g off e hp => g1.far hN1 hNB (hs.lt g off e hp))
      go_wp2_with fail
      refine (align_any b2 B v2 L wB g2b (by omega)).mono ?_
      rintro e wC ⟨rfl, v4, g4, k4, f4⟩
      have g3b := g3.apart g2b k4 hb12 hb1B hb2B apb.symm
      have apc : Ap v3.ownBlock v4.ownBlock := apb.symm.fresh g3 f4
      have bC' := g2b.below k4 hN2 hNB
      have sC : Seg wC pa p := sB.kp k4 (fun g off e hp => g2b.far hN2 hNB (hs.lt g off e hp))
      have hlA := alignL_len L
      have hpad : padN L.length < 8 := by unfold padN; omega
      have hTB : Below w.heap.size w wC := hTA.trans (bB'.trans bC')
      clear g1 g2 k3 f3 g2b apb bB' sB k4 f4 bC' g3
      generalize hAL : alignL L = A at *
      clear hAL
      go_wp2
      go_loopw [48] (fun ti wr => ∃ (i : Nat) (v5 : Value), i ≤ p.length ∧ ti = .int .i64 (i : Int) ∧ WrL wr b1 B v3 (A ++ bB p) ∧ WrL wr b2 B v5 (A ++ bB (p.take i)) ∧ Ap v3.ownBlock v5.ownBlock ∧ Seg wr pa p ∧ Below w.heap.size w wr) (fun ti _ => p.length - (intOf ti).toNat)
      case atStart => exact ⟨0, v4, Nat.zero_le _, rfl, g3b, by simpa [bB] using g4, apc, sC, hTB⟩
      case round =>
        obtain ⟨i, v5, hi, rfl, q1, q2, qap, qs, qb⟩ := hrel
        clear g3b g4 apc sC hTB
        by_cases hlt : i < p.length
        · have hlt2 : (i : Int) < (p.length : Int) := by omega
          obtain ⟨g, off, rfl, hcell⟩ := qs.at_ i hlt
          have hz := qs.bd i
          have HT : Hid (bB (p.take (i + 1)) = bB (p.take i) ++ bN (p.getD i 0).toNat 8) := by
            show _ = _
            rw [List.take_succ_eq_append_getElem hlt, bB_append, bB_one]
            simp [List.getD, hlt]
          have hlen : (A ++ bB (p.take i)).length = A.length + 8 * i := by rw [List.length_append, bB_len, List.length_take]; omega
          have C := put_ok b2 B v5 (A ++ bB (p.take i)) (p.getD i 0).toNat 8 wr q2 (by omega) (by decide) (by omega)
          rw [Int.toNat_of_nonneg hz.1] at C
          have HR : Hid (w.heap.size ≤ wr.heap.size) := qb.size
          clear hlen
          generalize p.getD i 0 = z at *
          go_wp2_with fail
          refine C.mono ?_
          rintro e wD ⟨rfl, v6, g6, k6, f6⟩
          have g5 := q1.apart q2 k6 hb12 hb1B hb2B qap
          have ap6 := qap.fresh q1 f6
          have sD := qs.kp k6 (fun g off e hp => q2.far hN2 hNB (hs.lt g off e hp))
          have bD := qb.trans (q2.below k6 hN2 hNB)
          go_wp2
          go_roundw
          case rel => exact ⟨i + 1, v6, by omega, by go_num, g5, by rw [HT.out, ← List.append_assoc]; exact g6, ap6, sD, bD⟩
          case measure => simp [intOf]; omega
        · have HI : Hid (i = p.length) := by show _ = _; omega
          have hge : (p.length : Int) ≤ (i : Int) := by omega
          clear hlt hi
          have q2' : WrL wr b2 B v5 (A ++ bB p) := by rw [HI.out, List.take_length] at q2; exact q2
          have hlen : (A ++ bB p).length = A.length + 8 * p.length := by rw [List.length_append, bB_len]
          have hlE : (A ++ bB p).length ≤ 1125899906842560 := by omega
          have hbd := toB_bd (A ++ bB p)
          clear q2 hlen
          generalize A ++ bB p = E at *
          go_wp2_with fail
          refine (len_any b1 B v3 E wr q1 (by omega)).mono ?_
          rintro e wE ⟨rfl, bE⟩
          have q3 : WrL wE b2 B v5 E := q2'.kp (S := fun _ => False) (Kp.of_below bE) (by simp) (by simp)
          have q4 : WrL wE b1 B v3 E := q1.kp (S := fun _ => False) (Kp.of_below bE) (by simp) (by simp)
          go_wp2_with fail
          refine (len_any b2 B v5 E wE q3 (by omega)).mono ?_
          rintro e wF ⟨rfl, bF⟩
          have q5 : WrL wF b2 B v5 E := q3.kp (S := fun _ => False) (Kp.of_below bF) (by simp) (by simp)
          have q6 : WrL wF b1 B v3 E := q4.kp (S := fun _ => False) (Kp.of_below bF) (by simp) (by simp)
          go_wp2_with fail
          refine (bytes_any b1 B v3 E wF q6 hlE).mono ?_
          rintro e wG ⟨a1, c1, rfl, o1, bG⟩
          have q7 : WrL wG b2 B v5 E := q5.kp (S := fun _ => False) (Kp.of_below bG) (by simp) (by simp)
          go_wp2_with fail
          refine (bytes_any b2 B v5 E wG q7 hlE).mono ?_
          rintro e wH ⟨a2, c2, rfl, o2, bH⟩
          have o1' := own_below o1 bH
          obtain ⟨_, x1, y1, e1, s1, _⟩ := own_seg o1' (M := 255) (by decide) hbd
          cases e1
          obtain ⟨_, x2, y2, e2, s2, _⟩ := own_seg o2 (M := 255) (by decide) hbd
          cases e2
          have hqb := qb.size
          have z1 := bE.size
          have z2 := bF.size
          have z3 := bG.size
          have z4 := bH.size
          clear q1 q2' q3 q4 q5 q6 q7 o1 o1' o2
          generalize toB E = T at *
          go_wp2_with fail
          refine (same_any a1 a2 T T c1 c2 wH s1 s2).mono ?_
          rintro e wI ⟨rfl, hwI⟩
          subst wI
          rw [beq_self_list]
          go_wp2_with fail
          refine (lives_any _).mono ?_
          rintro e wI ⟨rfl, bI⟩
          go_wp2
          go_ret
          exact ⟨rfl, qb.trans ((bE.mono hqb).trans ((bF.mono (by omega)).trans ((bG.mono (by omega)).trans ((bH.mono (by omega)).trans (bI.mono (by omega))))))⟩
  · have hfl := flip_bits v k hk
    have C := turned_ok b1 B _ [] v k w0 i1 hvk hk (by simp)
    have F : Hid (∀ W, Calls Try.prog 12 #[.int .u64 (v : Int), .int .i64 (k : Int)] W fun e w' => e = .returned (.int .u64 (flipN v k)) ∧ w' = W) := fun W => flip_any v k W hv (by omega) (by omega)
    have hs0 : (v : Int) / 2 ^ k = 0 := by rw [shr_nat, Nat.div_eq_of_lt hvk]; rfl
    clear he hvk
    go_enter Try.func8, Try.ntmps8
    go_wp2_with fail
    rw [← HW.out, ← HB2.out, ← HB1.out]
    refine C.mono ?_
    rintro e wX ⟨rfl, v1, x1, kX, fX⟩
    have x2 := i2.apart i1 kX (Ne.symm hb12) hb2B hb1B ap0
    have ap1 : Ap (Value.slice none 0 0).ownBlock v1.ownBlock := Ap.none _
    have sX : Seg wX pa p := s0.kp kX (fun g off e hp => i1.far hN1 hNB (hs.lt g off e hp))
    have hTX := hT0.trans (i1.below kX hN1 hNB)
    have D := put_ok b2 B _ [] (flipN v k) k wX x2 hfl.1 hk (by simp)
    rw [hfl.2] at D
    clear hfl C i1 i2 s0 kX
    generalize flipN v k = fl at *
    go_wp2_with fail
    refine (F.out _).mono ?_
    rintro e w1 ⟨rfl, hw1⟩
    subst w1
    go_wp2_with fail
    refine D.mono ?_
    rintro e wA ⟨rfl, v2, x3, kA, fA⟩
    have g1 := x1.apart x2 kA hb12 hb1B hb2B ap1.symm
    have hap : Ap v1.ownBlock v2.ownBlock := ap1.symm.fresh x1 fA
    have sA : Seg wA pa p := sX.kp kA (fun g off e hp => x2.far hN2 hNB (hs.lt g off e hp))
    have hTA : Below w.heap.size w wA := hTX.trans (x2.below kA hN2 hNB)
    have hLl : ([] ++ (bN v k).reverse).length ≤ 56 := by rw [List.nil_append, rev_len]; exact hk
    have g2 := x3
    generalize [] ++ (bN v k).reverse = L at *
    clear x1 x2 x3 kA sX hTX D F ap1 ap0 hs0 fA fX
    go_wp2_with fail
    refine (whole_any b1 B v1 L pa p pc wA g1 sA hnil (fun g off e hp => g1.far hN1 hNB (hs.lt g off e hp)) (by omega)).mono ?_
    rintro e wB ⟨rfl, v3, g3, k3, f3⟩
    have g2b := g2.apart g1 k3 (Ne.symm hb12) hb2B hb1B hap.symm
    have apb : Ap v2.ownBlock v3.ownBlock := hap.symm.fresh g2 f3
    have bB' := g1.below k3 hN1 hNB
    have sB : Seg wB pa p := sA.kp k3 (fun g off e hp => g1.far hN1 hNB (hs.lt g off e hp))
    go_wp2_with fail
    refine (align_any b2 B v2 L wB g2b (by omega)).mono ?_
    rintro e wC ⟨rfl, v4, g4, k4, f4⟩
    have g3b := g3.apart g2b k4 hb12 hb1B hb2B apb.symm
    have apc : Ap v3.ownBlock v4.ownBlock := apb.symm.fresh g3 f4
    have bC' := g2b.below k4 hN2 hNB
    have sC : Seg wC pa p := sB.kp k4 (fun g off e hp => g2b.far hN2 hNB (hs.lt g off e hp))
    have hlA := alignL_len L
    have hpad : padN L.length < 8 := by unfold padN; omega
    have hTB : Below w.heap.size w wC := hTA.trans (bB'.trans bC')
    clear g1 g2 k3 f3 g2b apb bB' sB k4 f4 bC' g3
    generalize hAL : alignL L = A at *
    clear hAL
    go_wp2
    go_loopw [48] (fun ti wr => ∃ (i : Nat) (v5 : Value), i ≤ p.length ∧ ti = .int .i64 (i : Int) ∧ WrL wr b1 B v3 (A ++ bB p) ∧ WrL wr b2 B v5 (A ++ bB (p.take i)) ∧ Ap v3.ownBlock v5.ownBlock ∧ Seg wr pa p ∧ Below w.heap.size w wr) (fun ti _ => p.length - (intOf ti).toNat)
    case atStart => exact ⟨0, v4, Nat.zero_le _, rfl, g3b, by simpa [bB] using g4, apc, sC, hTB⟩
    case round =>
      obtain ⟨i, v5, hi, rfl, q1, q2, qap, qs, qb⟩ := hrel
      clear g3b g4 apc sC hTB
      by_cases hlt : i < p.length
      · have hlt2 : (i : Int) < (p.length : Int) := by omega
        obtain ⟨g, off, rfl, hcell⟩ := qs.at_ i hlt
        have hz := qs.bd i
        have HT : Hid (bB (p.take (i + 1)) = bB (p.take i) ++ bN (p.getD i 0).toNat 8) := by
          show _ = _
          rw [List.take_succ_eq_append_getElem hlt, bB_append, bB_one]
          simp [List.getD, hlt]
        have hlen : (A ++ bB (p.take i)).length = A.length + 8 * i := by rw [List.length_append, bB_len, List.length_take]; omega
        have C := put_ok b2 B v5 (A ++ bB (p.take i)) (p.getD i 0).toNat 8 wr q2 (by omega) (by decide) (by omega)
        rw [Int.toNat_of_nonneg hz.1] at C
        have HR : Hid (w.heap.size ≤ wr.heap.size) := qb.size
        clear hlen
        generalize p.getD i 0 = z at *
        go_wp2_with fail
        refine C.mono ?_
        rintro e wD ⟨rfl, v6, g6, k6, f6⟩
        have g5 := q1.apart q2 k6 hb12 hb1B hb2B qap
        have ap6 := qap.fresh q1 f6
        have sD := qs.kp k6 (fun g off e hp => q2.far hN2 hNB (hs.lt g off e hp))
        have bD := qb.trans (q2.below k6 hN2 hNB)
        go_wp2
        go_roundw
        case rel => exact ⟨i + 1, v6, by omega, by go_num, g5, by rw [HT.out, ← List.append_assoc]; exact g6, ap6, sD, bD⟩
        case measure => simp [intOf]; omega
      · have HI : Hid (i = p.length) := by show _ = _; omega
        have hge : (p.length : Int) ≤ (i : Int) := by omega
        clear hlt hi
        have q2' : WrL wr b2 B v5 (A ++ bB p) := by rw [HI.out, List.take_length] at q2; exact q2
        have hlen : (A ++ bB p).length = A.length + 8 * p.length := by rw [List.length_append, bB_len]
        have hlE : (A ++ bB p).length ≤ 1125899906842560 := by omega
        have hbd := toB_bd (A ++ bB p)
        clear q2 hlen
        generalize A ++ bB p = E at *
        go_wp2_with fail
        refine (len_any b1 B v3 E wr q1 (by omega)).mono ?_
        rintro e wE ⟨rfl, bE⟩
        have q3 : WrL wE b2 B v5 E := q2'.kp (S := fun _ => False) (Kp.of_below bE) (by simp) (by simp)
        have q4 : WrL wE b1 B v3 E := q1.kp (S := fun _ => False) (Kp.of_below bE) (by simp) (by simp)
        go_wp2_with fail
        refine (len_any b2 B v5 E wE q3 (by omega)).mono ?_
        rintro e wF ⟨rfl, bF⟩
        have q5 : WrL wF b2 B v5 E := q3.kp (S := fun _ => False) (Kp.of_below bF) (by simp) (by simp)
        have q6 : WrL wF b1 B v3 E := q4.kp (S := fun _ => False) (Kp.of_below bF) (by simp) (by simp)
        go_wp2_with fail
        refine (bytes_any b1 B v3 E wF q6 hlE).mono ?_
        rintro e wG ⟨a1, c1, rfl, o1, bG⟩
        have q7 : WrL wG b2 B v5 E := q5.kp (S := fun _ => False) (Kp.of_below bG) (by simp) (by simp)
        go_wp2_with fail
        refine (bytes_any b2 B v5 E wG q7 hlE).mono ?_
        rintro e wH ⟨a2, c2, rfl, o2, bH⟩
        have o1' := own_below o1 bH
        obtain ⟨_, x1, y1, e1, s1, _⟩ := own_seg o1' (M := 255) (by decide) hbd
        cases e1
        obtain ⟨_, x2, y2, e2, s2, _⟩ := own_seg o2 (M := 255) (by decide) hbd
        cases e2
        have hqb := qb.size
        have z1 := bE.size
        have z2 := bF.size
        have z3 := bG.size
        have z4 := bH.size
        clear q1 q2' q3 q4 q5 q6 q7 o1 o1' o2
        generalize toB E = T at *
        go_wp2_with fail
        refine (same_any a1 a2 T T c1 c2 wH s1 s2).mono ?_
        rintro e wI ⟨rfl, hwI⟩
        subst wI
        rw [beq_self_list]
        go_wp2_with fail
        refine (lives_any _).mono ?_
        rintro e wI ⟨rfl, bI⟩
        go_wp2
        go_ret
        exact ⟨rfl, qb.trans ((bE.mono hqb).trans ((bF.mono (by omega)).trans ((bG.mono (by omega)).trans ((bH.mono (by omega)).trans (bI.mono (by omega))))))⟩
  · obtain ⟨L, hL⟩ : ∃ L : List Bool, L = [] := ⟨_, rfl⟩
    rw [← hL] at i1 i2
    have hLl : L.length ≤ 56 := by rw [hL]; simp
    have HL : Hid (L.length = 0) := by show _ = _; rw [hL]; rfl
    have C := turned_no b1 v (k : Int) w0 hv (by omega) (by omega) (by rw [he]; decide)
    rw [he] at C
    clear hL he
    have hs0 := shr_nat v k
    have hq := shr_ne hvk
    have hs2 := div_pow_lt (k := k) hv
    generalize v / 2 ^ k = q at *
    clear hvk
    have hq0 : ((q : Int) == 0) = false := by simp; omega
    go_enter Try.func8, Try.ntmps8
    go_wp2_with fail
    rw [← HW.out, ← HB2.out, ← HB1.out]
    refine C.mono ?_
    rintro e w1 ⟨rfl, hw1⟩
    subst w1
    go_wp2_with fail
    refine (len_any b1 B _ L w0 i1 (by omega)).mono ?_
    rintro e wA ⟨rfl, bA⟩
    rw [HL.out]
    have g1 : WrL wA b1 B _ L := i1.kp (S := fun _ => False) (Kp.of_below bA) (by simp) (by simp)
    have g2 : WrL wA b2 B _ L := i2.kp (S := fun _ => False) (Kp.of_below bA) (by simp) (by simp)
    have sA : Seg wA pa p := s0.old bA
    have hap := ap0
    have hTA : Below w.heap.size w wA := hT0.trans (bA.mono hT0.size)
    obtain ⟨v1, hv1⟩ : ∃ u, u = Value.slice none 0 0 := ⟨_, rfl⟩
    rw [← hv1] at g1 g2 hap
    obtain ⟨v2, hv2⟩ : ∃ u, u = v1 := ⟨_, rfl⟩
    have g2 : WrL wA b2 B v2 L := by rw [hv2]; exact g2
    have hap : Ap v1.ownBlock v2.ownBlock := by rw [hv2]; exact hap
    clear hv1 hv2 i1 i2 bA C ap0 HL
    go_wp2_with fail
    refine (whole_any b1 B v1 L pa p pc wA g1 sA hnil (fun g off e hp => g1.far hN1 hNB (hs.lt g off e hp)) (by omega)).mono ?_
    rintro e wB ⟨rfl, v3, g3, k3, f3⟩
    have g2b := g2.apart g1 k3 (Ne.symm hb12) hb2B hb1B hap.symm
    have apb : Ap v2.ownBlock v3.ownBlock := hap.symm.fresh g2 f3
    have bB' := g1.below k3 hN1 hNB
    have sB : Seg wB pa p := sA.kp k3 (fun g off e hp => g1.far hN1 hNB (hs.lt g off e hp))
    go_wp2_with fail
    refine (align_any b2 B v2 L wB g2b (by omega)).mono ?_
    rintro e wC ⟨rfl, v4, g4, k4, f4⟩
    have g3b := g3.apart g2b k4 hb12 hb1B hb2B apb.symm
    have apc : Ap v3.ownBlock v4.ownBlock := apb.symm.fresh g3 f4
    have bC' := g2b.below k4 hN2 hNB
    have sC : Seg wC pa p := sB.kp k4 (fun g off e hp => g2b.far hN2 hNB (hs.lt g off e hp))
    have hlA := alignL_len L
    have hpad : padN L.length < 8 := by unfold padN; omega
    have hTB : Below w.heap.size w wC := hTA.trans (bB'.trans bC')
    clear g1 g2 k3 f3 g2b apb bB' sB k4 f4 bC' g3
    generalize hAL : alignL L = A at *
    clear hAL
    go_wp2
    go_loopw [48] (fun ti wr => ∃ (i : Nat) (v5 : Value), i ≤ p.length ∧ ti = .int .i64 (i : Int) ∧ WrL wr b1 B v3 (A ++ bB p) ∧ WrL wr b2 B v5 (A ++ bB (p.take i)) ∧ Ap v3.ownBlock v5.ownBlock ∧ Seg wr pa p ∧ Below w.heap.size w wr) (fun ti _ => p.length - (intOf ti).toNat)
    case atStart => exact ⟨0, v4, Nat.zero_le _, rfl, g3b, by simpa [bB] using g4, apc, sC, hTB⟩
    case round =>
      obtain ⟨i, v5, hi, rfl, q1, q2, qap, qs, qb⟩ := hrel
      clear g3b g4 apc sC hTB
      by_cases hlt : i < p.length
      · have hlt2 : (i : Int) < (p.length : Int) := by omega
        obtain ⟨g, off, rfl, hcell⟩ := qs.at_ i hlt
        have hz := qs.bd i
        have HT : Hid (bB (p.take (i + 1)) = bB (p.take i) ++ bN (p.getD i 0).toNat 8) := by
          show _ = _
          rw [List.take_succ_eq_append_getElem hlt, bB_append, bB_one]
          simp [List.getD, hlt]
        have hlen : (A ++ bB (p.take i)).length = A.length + 8 * i := by rw [List.length_append, bB_len, List.length_take]; omega
        have C := put_ok b2 B v5 (A ++ bB (p.take i)) (p.getD i 0).toNat 8 wr q2 (by omega) (by decide) (by omega)
        rw [Int.toNat_of_nonneg hz.1] at C
        have HR : Hid (w.heap.size ≤ wr.heap.size) := qb.size
        clear hlen
        generalize p.getD i 0 = z at *
        go_wp2_with fail
        refine C.mono ?_
        rintro e wD ⟨rfl, v6, g6, k6, f6⟩
        have g5 := q1.apart q2 k6 hb12 hb1B hb2B qap
        have ap6 := qap.fresh q1 f6
        have sD := qs.kp k6 (fun g off e hp => q2.far hN2 hNB (hs.lt g off e hp))
        have bD := qb.trans (q2.below k6 hN2 hNB)
        go_wp2
        go_roundw
        case rel => exact ⟨i + 1, v6, by omega, by go_num, g5, by rw [HT.out, ← List.append_assoc]; exact g6, ap6, sD, bD⟩
        case measure => simp [intOf]; omega
      · have HI : Hid (i = p.length) := by show _ = _; omega
        have hge : (p.length : Int) ≤ (i : Int) := by omega
        clear hlt hi
        have q2' : WrL wr b2 B v5 (A ++ bB p) := by rw [HI.out, List.take_length] at q2; exact q2
        have hlen : (A ++ bB p).length = A.length + 8 * p.length := by rw [List.length_append, bB_len]
        have hlE : (A ++ bB p).length ≤ 1125899906842560 := by omega
        have hbd := toB_bd (A ++ bB p)
        clear q2 hlen
        generalize A ++ bB p = E at *
        go_wp2_with fail
        refine (len_any b1 B v3 E wr q1 (by omega)).mono ?_
        rintro e wE ⟨rfl, bE⟩
        have q3 : WrL wE b2 B v5 E := q2'.kp (S := fun _ => False) (Kp.of_below bE) (by simp) (by simp)
        have q4 : WrL wE b1 B v3 E := q1.kp (S := fun _ => False) (Kp.of_below bE) (by simp) (by simp)
        go_wp2_with fail
        refine (len_any b2 B v5 E wE q3 (by omega)).mono ?_
        rintro e wF ⟨rfl, bF⟩
        have q5 : WrL wF b2 B v5 E := q3.kp (S := fun _ => False) (Kp.of_below bF) (by simp) (by simp)
        have q6 : WrL wF b1 B v3 E := q4.kp (S := fun _ => False) (Kp.of_below bF) (by simp) (by simp)
        go_wp2_with fail
        refine (bytes_any b1 B v3 E wF q6 hlE).mono ?_
        rintro e wG ⟨a1, c1, rfl, o1, bG⟩
        have q7 : WrL wG b2 B v5 E := q5.kp (S := fun _ => False) (Kp.of_below bG) (by simp) (by simp)
        go_wp2_with fail
        refine (bytes_any b2 B v5 E wG q7 hlE).mono ?_
        rintro e wH ⟨a2, c2, rfl, o2, bH⟩
        have o1' := own_below o1 bH
        obtain ⟨_, x1, y1, e1, s1, _⟩ := own_seg o1' (M := 255) (by decide) hbd
        cases e1
        obtain ⟨_, x2, y2, e2, s2, _⟩ := own_seg o2 (M := 255) (by decide) hbd
        cases e2
        have hqb := qb.size
        have z1 := bE.size
        have z2 := bF.size
        have z3 := bG.size
        have z4 := bH.size
        clear q1 q2' q3 q4 q5 q6 q7 o1 o1' o2
        generalize toB E = T at *
        go_wp2_with fail
        refine (same_any a1 a2 T T c1 c2 wH s1 s2).mono ?_
        rintro e wI ⟨rfl, hwI⟩
        subst wI
        rw [beq_self_list]
        go_wp2_with fail
        refine (lives_any _).mono ?_
        rintro e wI ⟨rfl, bI⟩
        go_wp2
        go_ret
        exact ⟨rfl, qb.trans ((bE.mono hqb).trans ((bF.mono (by omega)).trans ((bG.mono (by omega)).trans ((bH.mono (by omega)).trans (bI.mono (by omega))))))⟩
end Go.Proofs.Ytppjcgkgemhilaa
