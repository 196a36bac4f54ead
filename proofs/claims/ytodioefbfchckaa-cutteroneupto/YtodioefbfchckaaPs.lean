import Derived.Test.YtodioefbfchckaaPr
namespace Go.Proofs.Ytodioefbfchckaa
open Go.RowKit Go.Shelf
set_option linter.unusedVariables false

/-! The document's Check. -/
set_option maxRecDepth 100000 in
set_option maxHeartbeats 16000000 in
theorem rchk17 (pos old size : Int) {sa : Option Addr} {n sc : Nat} {da : Option Addr} {m dc : Nat} {xa : Option Addr} {k xc : Nat} {S : List St16} (w : World) (hs : SegS w sa S) (hn : Hid (S.length = n)) (hln : n ≤ 5864062014805) (hlm : m ≤ 140737488355328) (hlk : k ≤ 140737488355328) :
    Calls Try.prog 47 #[wn17 pos sa n sc da m dc xa k xc, .int .i64 old, .int .i64 size] w fun e w' => e = .returned (.int .i64 (cc17 pos S m k old size)) ∧ Below w.heap.size w w' := by
  obtain ⟨wA, hwA⟩ : ∃ wA, wA = w.alloc (.cells #[.int .i64 pos, .slice sa n sc, .slice da m dc, .slice xa k xc] 44) := ⟨_, rfl⟩
  have cA : Cb16 w #[.int .i64 pos, .slice sa n sc, .slice da m dc, .slice xa k xc] 44 wA := by rw [hwA]; exact cb16 _ _ _
  have bA : Below w.heap.size w wA := cA.bl
  obtain ⟨ob, hob⟩ : ∃ ob, ob = w.heap.size := ⟨_, rfl⟩
  have qA : wA.heap[ob]? = some (.cells #[.int .i64 pos, .slice sa n sc, .slice da m dc, .slice xa k xc] 44 (0, 0)) := by rw [hob]; exact cA.cl
  obtain ⟨a0, a1, a2, a3⟩ := four_cells qA
  have CS := rsum17 sa n sc S wA (hs.old bA) hn hln
  have hw1 : IntKind.i64.wrap ((n : Int) - 1) = (n : Int) - 1 := IntWalk.i64_in _ (by omega)
  have HIF : Hid (W17 pos S m k old size ↔ ((∀ i, i < n → M17 S i) ∧ (1 ≤ size ∧ size ≤ 65536) ∧ (0 ≤ old ∧ old ≤ 16777216) ∧ sa16 S n = m ∧ sc16 S n = k ∧ ((m + k : Nat) : Int) = size ∧ (0 ≤ pos ∧ pos ≤ old) ∧ ∀ i, i < n → H17 S pos old i)) := by
    have := w17_iff pos S m k old size
    rw [hn.out] at this
    exact this
  have HS0 : Hid (SegS w sa S) := hs
  have HWA : Hid (w.alloc (.cells #[.int .i64 pos, .slice sa n sc, .slice da m dc, .slice xa k xc] 44) = wA) := hwA.symm
  rw [hob] at a0 a1 a2 a3
  rw [hwA] at a0 a1 a2 a3 CS
  have i1 := rin17 size 1 65536
  have i2 := rin17 old 0 16777216
  have i3 := rin17 pos 0 old
  unfold wn17
  by_cases hok : ∀ i, i < n → M17 S i
  rotate_left
  · rw [sms17_no hok] at CS
    have HNO : Hid (cc17 pos S m k old size = 171) := cc17_no (fun h => hok (HIF.out.1 h).1)
    clear hok
    rw [← hwA] at CS
    go_enter Try.func47, Try.ntmps47
    go_wp2_with (first | (go_at_call 46; rw [HWA.out]; refine CS.mono ?_; rintro e2 w2 ⟨rfl, b2⟩; clear CS))
    go_ret
    exact ⟨by rw [HNO.out]; rfl, bA.trans (b2.mono bA.size)⟩
  rw [sms17_ok hok] at CS
  have hsum : sa16 S n ≤ 16777216 ∧ sc16 S n ≤ 16777216 := by
    rcases Nat.eq_zero_or_pos n with rfl | hp
    · simp [sa16, sc16]
    · have := hok (n - 1) (by omega)
      have h5 := this.2.2.2.2
      rw [show n - 1 + 1 = n by omega] at h5
      exact h5
  have HOK : Hid (∀ i, i < n → M17 S i) := hok
  obtain ⟨SA, hSA⟩ : ∃ SA, SA = sa16 S n := ⟨_, rfl⟩
  obtain ⟨SC, hSC⟩ : ∃ SC, SC = sc16 S n := ⟨_, rfl⟩
  rw [← hSA, ← hSC] at CS HIF hsum
  have w1 : IntKind.i64.wrap ((SA : Int) + (SC : Int)) = (SA : Int) + (SC : Int) := IntWalk.i64_in _ (by omega)
  rw [← hwA] at CS
  have HOB : Hid (w.heap.size = ob) := hob.symm
  rw [← hob] at a0 a1 a2 a3
  rw [hob] at a0 a1 a2 a3
  have HQA : Hid (wA.heap[ob]? = some (.cells #[.int .i64 pos, .slice sa n sc, .slice da m dc, .slice xa k xc] 44 (0, 0))) := qA
  clear hSA hSC hok hwA hob cA qA hs
  by_cases k1 : 1 ≤ size ∧ size ≤ 65536
  rotate_left
  · have HNO : Hid (cc17 pos S m k old size = 171) := cc17_no (fun h => by have := HIF.out.1 h; omega)
    rw [decide_eq_false k1] at i1
    clear HIF
    go_enter Try.func47, Try.ntmps47
    go_wp2_with (first | (go_at_call 46; rw [HWA.out]; refine CS.mono ?_; rintro e2 w2 ⟨rfl, b2⟩; clear CS; have q2 := (b2.block ob (Array.getElem?_eq_some_iff.1 HQA.out).1).trans HQA.out; obtain ⟨d0, d1, d2, d3⟩ := four_cells q2; rw [← HOB.out] at d0 d1 d2 d3; have B2 : Below w.heap.size w w2 := bA.trans (b2.mono bA.size); clear a0 a1 a2 a3 b2 q2) | (go_at_call 41; refine (i1 _).mono ?_; rintro e1 w1 ⟨rfl, rfl⟩; clear i1))
    go_ret
    exact ⟨by rw [HNO.out]; rfl, B2⟩
  rw [decide_eq_true k1] at i1
  by_cases k2 : 0 ≤ old ∧ old ≤ 16777216
  rotate_left
  · have HNO : Hid (cc17 pos S m k old size = 171) := cc17_no (fun h => by have := HIF.out.1 h; omega)
    rw [decide_eq_false k2] at i2
    clear HIF
    go_enter Try.func47, Try.ntmps47
    go_wp2_with (first | (go_at_call 46; rw [HWA.out]; refine CS.mono ?_; rintro e2 w2 ⟨rfl, b2⟩; clear CS; have q2 := (b2.block ob (Array.getElem?_eq_some_iff.1 HQA.out).1).trans HQA.out; obtain ⟨d0, d1, d2, d3⟩ := four_cells q2; rw [← HOB.out] at d0 d1 d2 d3; have B2 : Below w.heap.size w w2 := bA.trans (b2.mono bA.size); clear a0 a1 a2 a3 b2 q2) | (go_at_call 41; refine (i1 _).mono ?_; rintro e1 w1 ⟨rfl, rfl⟩; clear i1) | (go_at_call 41; refine (i2 _).mono ?_; rintro e1 w1 ⟨rfl, rfl⟩; clear i2))
    go_ret
    exact ⟨by rw [HNO.out]; rfl, B2⟩
  rw [decide_eq_true k2] at i2
  by_cases k3 : SA = m
  rotate_left
  · have HNO : Hid (cc17 pos S m k old size = 171) := cc17_no (fun h => by have := HIF.out.1 h; omega)
    have hb : ((SA : Int) == (m : Int)) = false := by simp; omega
    clear HIF
    go_enter Try.func47, Try.ntmps47
    go_wp2_with (first | (go_at_call 46; rw [HWA.out]; refine CS.mono ?_; rintro e2 w2 ⟨rfl, b2⟩; clear CS; have q2 := (b2.block ob (Array.getElem?_eq_some_iff.1 HQA.out).1).trans HQA.out; obtain ⟨d0, d1, d2, d3⟩ := four_cells q2; rw [← HOB.out] at d0 d1 d2 d3; have B2 : Below w.heap.size w w2 := bA.trans (b2.mono bA.size); clear a0 a1 a2 a3 b2 q2) | (go_at_call 41; refine (i1 _).mono ?_; rintro e1 w1 ⟨rfl, rfl⟩; clear i1) | (go_at_call 41; refine (i2 _).mono ?_; rintro e1 w1 ⟨rfl, rfl⟩; clear i2))
    go_ret
    exact ⟨by rw [HNO.out]; rfl, B2⟩
  have hb : ((SA : Int) == (m : Int)) = true := by simp; omega
  by_cases k4 : SC = k
  rotate_left
  · have HNO : Hid (cc17 pos S m k old size = 171) := cc17_no (fun h => by have := HIF.out.1 h; omega)
    have hc : ((SC : Int) == (k : Int)) = false := by simp; omega
    clear HIF
    go_enter Try.func47, Try.ntmps47
    go_wp2_with (first | (go_at_call 46; rw [HWA.out]; refine CS.mono ?_; rintro e2 w2 ⟨rfl, b2⟩; clear CS; have q2 := (b2.block ob (Array.getElem?_eq_some_iff.1 HQA.out).1).trans HQA.out; obtain ⟨d0, d1, d2, d3⟩ := four_cells q2; rw [← HOB.out] at d0 d1 d2 d3; have B2 : Below w.heap.size w w2 := bA.trans (b2.mono bA.size); clear a0 a1 a2 a3 b2 q2) | (go_at_call 41; refine (i1 _).mono ?_; rintro e1 w1 ⟨rfl, rfl⟩; clear i1) | (go_at_call 41; refine (i2 _).mono ?_; rintro e1 w1 ⟨rfl, rfl⟩; clear i2))
    go_ret
    exact ⟨by rw [HNO.out]; rfl, B2⟩
  have hc : ((SC : Int) == (k : Int)) = true := by simp; omega
  by_cases k5 : (SA : Int) + (SC : Int) = size
  rotate_left
  · have HNO : Hid (cc17 pos S m k old size = 171) := cc17_no (fun h => by have := HIF.out.1 h; omega)
    have hd : ((SA : Int) + (SC : Int) == size) = false := by simp; omega
    clear HIF
    go_enter Try.func47, Try.ntmps47
    go_wp2_with (first | (go_at_call 46; rw [HWA.out]; refine CS.mono ?_; rintro e2 w2 ⟨rfl, b2⟩; clear CS; have q2 := (b2.block ob (Array.getElem?_eq_some_iff.1 HQA.out).1).trans HQA.out; obtain ⟨d0, d1, d2, d3⟩ := four_cells q2; rw [← HOB.out] at d0 d1 d2 d3; have B2 : Below w.heap.size w w2 := bA.trans (b2.mono bA.size); clear a0 a1 a2 a3 b2 q2) | (go_at_call 41; refine (i1 _).mono ?_; rintro e1 w1 ⟨rfl, rfl⟩; clear i1) | (go_at_call 41; refine (i2 _).mono ?_; rintro e1 w1 ⟨rfl, rfl⟩; clear i2))
    go_ret
    exact ⟨by rw [HNO.out]; rfl, B2⟩
  have hd : ((SA : Int) + (SC : Int) == size) = true := by simp; omega
  by_cases k6 : 0 ≤ pos ∧ pos ≤ old
  rotate_left
  · have HNO : Hid (cc17 pos S m k old size = 171) := cc17_no (fun h => by have := HIF.out.1 h; omega)
    rw [decide_eq_false k6] at i3
    clear HIF
    go_enter Try.func47, Try.ntmps47
    go_wp2_with (first | (go_at_call 46; rw [HWA.out]; refine CS.mono ?_; rintro e2 w2 ⟨rfl, b2⟩; clear CS; have q2 := (b2.block ob (Array.getElem?_eq_some_iff.1 HQA.out).1).trans HQA.out; obtain ⟨d0, d1, d2, d3⟩ := four_cells q2; rw [← HOB.out] at d0 d1 d2 d3; have B2 : Below w.heap.size w w2 := bA.trans (b2.mono bA.size); clear a0 a1 a2 a3 b2 q2) | (go_at_call 41; refine (i1 _).mono ?_; rintro e1 w1 ⟨rfl, rfl⟩; clear i1) | (go_at_call 41; refine (i2 _).mono ?_; rintro e1 w1 ⟨rfl, rfl⟩; clear i2) | (go_at_call 41; refine (i3 _).mono ?_; rintro e1 w1 ⟨rfl, rfl⟩; clear i3))
    go_ret
    exact ⟨by rw [HNO.out]; rfl, B2⟩
  rw [decide_eq_true k6] at i3
  have HK : Hid (SA = m ∧ SC = k ∧ (SA : Int) + (SC : Int) = size) := ⟨k3, k4, k5⟩
  clear hb hc hd
  subst k3
  subst k4
  subst k5
  go_enter Try.func47, Try.ntmps47
  go_wp2_with (first | (go_at_call 46; rw [HWA.out]; refine CS.mono ?_; rintro e2 w2 ⟨rfl, b2⟩; clear CS; have q2 := (b2.block ob (Array.getElem?_eq_some_iff.1 HQA.out).1).trans HQA.out; obtain ⟨d0, d1, d2, d3⟩ := four_cells q2; rw [← HOB.out] at d0 d1 d2 d3; have B2 : Below w.heap.size w w2 := bA.trans (b2.mono bA.size); clear a0 a1 a2 a3 b2 q2) | (go_at_call 41; refine (i1 _).mono ?_; rintro e1 w1 ⟨rfl, rfl⟩; clear i1) | (go_at_call 41; refine (i2 _).mono ?_; rintro e1 w1 ⟨rfl, rfl⟩; clear i2) | (go_at_call 41; refine (i3 _).mono ?_; rintro e1 w1 ⟨rfl, rfl⟩; clear i3))
  obtain ⟨W1, hW1⟩ : ∃ W1, W1 = w1 := ⟨_, rfl⟩
  rw [← hW1] at d1 B2
  have HD1 : Hid (∀ W, Below W1.heap.size W1 W → W.cell? ⟨w.heap.size, 1, none⟩ = some (.slice sa n sc)) := fun W hW => (hW.cell (World.block_lt_of_cell? W1 _ d1)).trans d1
  rw [hW1] at HD1 B2
  clear hW1 d0 d1 d2 d3
  go_loopw [10, 69] (fun t10 t69 wr => ∃ i : Nat, i ≤ n ∧ t69 = .int .i64 (i : Int) ∧ t10 = .int .i64 (pos + pl16 S i) ∧ Hid (∀ j, j < i → H17 S pos old j) ∧ (0 ≤ pos + pl16 S i ∧ pos + pl16 S i ≤ old) ∧ Below w1.heap.size w1 wr) (fun _ t69 _ => n - (intOf t69).toNat)
  case atStart => exact ⟨0, Nat.zero_le _, rfl, by simp [pl16], fun j hj => by omega, by simp [pl16]; omega, Below.refl _ _⟩
  case round =>
    obtain ⟨i, hi, rfl, rfl, HH, hq, BR⟩ := hrel
    have BW : Below w.heap.size w wr := B2.trans (BR.mono B2.size)
    have d1 := HD1.out wr BR
    by_cases hin : i < n
    · have hii : (i : Int) < (n : Int) := by omega
      have hi0 : (0 : Int) ≤ (i : Int) := by omega
      have hil : i < S.length := by rw [hn.out]; exact hin
      obtain ⟨b, off, rfl, hT⟩ := (HS0.out.old BW).at_ i hil
      have c0 := hT.c0
      have c1 := hT.c1
      have c2 := hT.c2
      have hM := HOK.out i hin
      have HNO : Hid (¬ H17 S pos old i → cc17 pos S SA SC old ((SA : Int) + (SC : Int)) = 171) := fun h => cc17_no (fun x => h ((HIF.out.1 x).2.2.2.2.2.2.2 i hin))
      have HHE : Hid (H17 S pos old i ↔ (¬ ((S.getD i z16).1 = 0 ∧ (S.getD i z16).2.1 = 0) ∧ (i + 1 = n → (S.getD i z16).2.2 = 0) ∧ (-16777216 ≤ (S.getD i z16).2.2 ∧ (S.getD i z16).2.2 ≤ 16777216) ∧ (0 ≤ pos + pl16 S i + (S.getD i z16).1 ∧ pos + pl16 S i + (S.getD i z16).1 ≤ old) ∧ (0 ≤ pos + pl16 S i + (S.getD i z16).1 + (S.getD i z16).2.2 ∧ pos + pl16 S i + (S.getD i z16).1 + (S.getD i z16).2.2 ≤ old))) := by
        unfold Hid H17
        rw [hn.out]
      have HSU : Hid (H17 S pos old i → (∀ j, j < i + 1 → H17 S pos old j) ∧ pos + pl16 S (i + 1) = pos + pl16 S i + (S.getD i z16).1 + (S.getD i z16).2.2) := fun h => by
        refine ⟨fun j hj => ?_, ?_⟩
        · rcases Nat.lt_or_ge j i with z | z
          · exact HH.out j z
          · have : j = i := by omega
            subst this; exact h
        · have y1 := hM.1
          simp only [pl16, ad16, sk16]; omega
      have hA := hM.1
      have hA2 := hM.2.1
      have fit := HS0.out.fit _ (getD_memS hil)
      unfold Fit16 at fit
      clear hM hT HH
      generalize S.getD i z16 = s at *
      obtain ⟨A, C, K⟩ := s
      simp only at c0 c1 c2 HHE HSU hA hA2 fit
      generalize pos + pl16 S i = q at *
      obtain ⟨wB, hwB⟩ : ∃ wB, wB = wr.alloc (.cells #[.int .i64 A, .int .i64 C, .int .i64 K] 77) := ⟨_, rfl⟩
      have BB : Below w1.heap.size w1 wB := by rw [hwB]; exact BR.trans ((below_box16 _ _).mono BR.size)
      have dB := HD1.out wB BB
      rw [hwB] at BB dB
      have BBw : Below w.heap.size w (wr.alloc (.cells #[.int .i64 A, .int .i64 C, .int .i64 K] 77)) := B2.trans (BB.mono B2.size)
      clear hwB
      by_cases y1 : A = 0 ∧ C = 0
      · obtain ⟨rfl, rfl⟩ := y1
        have HN : Hid (cc17 pos S SA SC old ((SA : Int) + (SC : Int)) = 171) := HNO.out (fun h => by have := (HHE.out.1 h).1; simp at this)
        clear HHE HSU
        go_wp2_with fail
        go_ret
        exact ⟨by rw [HN.out]; rfl, BBw⟩
      have HY1 : Hid (¬ (A = 0 ∧ C = 0)) := y1
      have vq : IntKind.i64.wrap q = q := IntWalk.i64_in _ (by omega)
      by_cases hA0 : A = 0
      · have hC0 : ¬ C = 0 := fun h => y1 ⟨hA0, h⟩
        have hC1 : (C == 0) = false := by simp; exact hC0
        subst hA0
        simp only [Int.add_zero] at HHE HSU
        clear y1
        by_cases hl : i + 1 = n
        · have l1 : ((i : Int) == (n : Int) - 1) = true := by simp; omega
          by_cases hK0 : K = 0
          rotate_left
          · have hK1 : (K == 0) = false := by simp; exact hK0
            have hK2 : (K != 0) = true := by simp; exact hK0
            have HN : Hid (cc17 pos S SA SC old ((SA : Int) + (SC : Int)) = 171) := HNO.out (fun h => hK0 ((HHE.out.1 h).2.1 hl))
            clear HHE HSU hl
            go_wp2_with fail
            go_ret
            exact ⟨by rw [HN.out]; rfl, BBw⟩
          subst hK0
          simp only [Int.add_zero] at HHE HSU
          have HL : Hid (i + 1 = n) := hl
          clear hl
          have i4 := rin17 0 (-16777216) 16777216
          have i5 := rin17 (q) 0 old
          have i6 := rin17 (q) 0 old
          have y3 : (-16777216 : Int) ≤ 0 ∧ (0 : Int) ≤ 16777216 := by omega
          rw [decide_eq_true y3] at i4
          have y4 := hq
          rw [decide_eq_true y4] at i5
          have y5 := y4
          rw [decide_eq_true y5] at i6
          have HY : Hid (H17 S pos old i) := HHE.out.2 ⟨fun h => hC0 h.2, fun _ => trivial, y3, y4, y5⟩
          clear HHE
          go_wp2_with (first | (go_at_call 41; refine (i4 _).mono ?_; rintro e1 w9 ⟨rfl, rfl⟩; clear i4) | (go_at_call 41; refine (i5 _).mono ?_; rintro e1 w9 ⟨rfl, rfl⟩; clear i5) | (go_at_call 41; refine (i6 _).mono ?_; rintro e1 w9 ⟨rfl, rfl⟩; clear i6))
          go_roundw
          case rel =>
            obtain ⟨x1, x2⟩ := HSU.out HY.out
            exact ⟨i + 1, by omega, by simp, by rw [x2], x1, by rw [x2]; exact y5, BB⟩
          case measure => simp [intOf]; omega
        · have l1 : ((i : Int) == (n : Int) - 1) = false := by simp; omega
          have HL : Hid (¬ i + 1 = n) := hl
          clear hl
          have i4 := rin17 K (-16777216) 16777216
          have i5 := rin17 (q) 0 old
          have i6 := rin17 (q + K) 0 old
          by_cases y3 : -16777216 ≤ K ∧ K ≤ 16777216
          rotate_left
          · rw [decide_eq_false y3] at i4
            have HN : Hid (cc17 pos S SA SC old ((SA : Int) + (SC : Int)) = 171) := HNO.out (fun h => y3 (HHE.out.1 h).2.2.1)
            clear HHE HSU
            go_wp2_with (first | (go_at_call 41; refine (i4 _).mono ?_; rintro e1 w9 ⟨rfl, rfl⟩; clear i4))
            go_ret
            exact ⟨by rw [HN.out]; rfl, BBw⟩
          rw [decide_eq_true y3] at i4
          have y4 := hq
          rw [decide_eq_true y4] at i5
          have v2 : IntKind.i64.wrap (q + K) = q + K := IntWalk.i64_in _ (by omega)
          by_cases y5 : 0 ≤ q + K ∧ q + K ≤ old
          rotate_left
          · rw [decide_eq_false y5] at i6
            have HN : Hid (cc17 pos S SA SC old ((SA : Int) + (SC : Int)) = 171) := HNO.out (fun h => y5 (HHE.out.1 h).2.2.2.2)
            clear HHE HSU
            go_wp2_with (first | (go_at_call 41; refine (i4 _).mono ?_; rintro e1 w9 ⟨rfl, rfl⟩; clear i4) | (go_at_call 41; refine (i5 _).mono ?_; rintro e1 w9 ⟨rfl, rfl⟩; clear i5) | (go_at_call 41; refine (i6 _).mono ?_; rintro e1 w9 ⟨rfl, rfl⟩; clear i6))
            go_ret
            exact ⟨by rw [HN.out]; rfl, BBw⟩
          rw [decide_eq_true y5] at i6
          have vk : IntKind.i64.wrap K = K := IntWalk.i64_in _ (by omega)
          have HY : Hid (H17 S pos old i) := HHE.out.2 ⟨fun h => hC0 h.2, fun h => absurd h HL.out, y3, y4, y5⟩
          clear HHE
          go_wp2_with (first | (go_at_call 41; refine (i4 _).mono ?_; rintro e1 w9 ⟨rfl, rfl⟩; clear i4) | (go_at_call 41; refine (i5 _).mono ?_; rintro e1 w9 ⟨rfl, rfl⟩; clear i5) | (go_at_call 41; refine (i6 _).mono ?_; rintro e1 w9 ⟨rfl, rfl⟩; clear i6))
          go_roundw
          case rel =>
            obtain ⟨x1, x2⟩ := HSU.out HY.out
            exact ⟨i + 1, by omega, by simp, by rw [x2], x1, by rw [x2]; exact y5, BB⟩
          case measure => simp [intOf]; omega
      · have hA1 : (A == 0) = false := by simp; exact hA0
        have v1 : IntKind.i64.wrap (q + A) = q + A := IntWalk.i64_in _ (by omega)
        have v1a : IntKind.i64.wrap A = A := IntWalk.i64_in _ (by omega)
        clear y1
        by_cases hl : i + 1 = n
        · have l1 : ((i : Int) == (n : Int) - 1) = true := by simp; omega
          by_cases hK0 : K = 0
          rotate_left
          · have hK1 : (K == 0) = false := by simp; exact hK0
            have hK2 : (K != 0) = true := by simp; exact hK0
            have HN : Hid (cc17 pos S SA SC old ((SA : Int) + (SC : Int)) = 171) := HNO.out (fun h => hK0 ((HHE.out.1 h).2.1 hl))
            clear HHE HSU hl
            go_wp2_with fail
            go_ret
            exact ⟨by rw [HN.out]; rfl, BBw⟩
          subst hK0
          simp only [Int.add_zero] at HHE HSU
          have HL : Hid (i + 1 = n) := hl
          clear hl
          have i4 := rin17 0 (-16777216) 16777216
          have i5 := rin17 (q + A) 0 old
          have i6 := rin17 (q + A) 0 old
          have y3 : (-16777216 : Int) ≤ 0 ∧ (0 : Int) ≤ 16777216 := by omega
          rw [decide_eq_true y3] at i4
          by_cases y4 : 0 ≤ q + A ∧ q + A ≤ old
          rotate_left
          · rw [decide_eq_false y4] at i5
            have HN : Hid (cc17 pos S SA SC old ((SA : Int) + (SC : Int)) = 171) := HNO.out (fun h => y4 (HHE.out.1 h).2.2.2.1)
            clear HHE HSU i6
            go_wp2_with (first | (go_at_call 41; refine (i4 _).mono ?_; rintro e1 w9 ⟨rfl, rfl⟩; clear i4) | (go_at_call 41; refine (i5 _).mono ?_; rintro e1 w9 ⟨rfl, rfl⟩; clear i5))
            go_ret
            exact ⟨by rw [HN.out]; rfl, BBw⟩
          rw [decide_eq_true y4] at i5
          have y5 := y4
          rw [decide_eq_true y5] at i6
          have HY : Hid (H17 S pos old i) := HHE.out.2 ⟨HY1.out, fun _ => trivial, y3, y4, y5⟩
          clear HHE
          go_wp2_with (first | (go_at_call 41; refine (i4 _).mono ?_; rintro e1 w9 ⟨rfl, rfl⟩; clear i4) | (go_at_call 41; refine (i5 _).mono ?_; rintro e1 w9 ⟨rfl, rfl⟩; clear i5) | (go_at_call 41; refine (i6 _).mono ?_; rintro e1 w9 ⟨rfl, rfl⟩; clear i6))
          go_roundw
          case rel =>
            obtain ⟨x1, x2⟩ := HSU.out HY.out
            exact ⟨i + 1, by omega, by simp, by rw [x2], x1, by rw [x2]; exact y5, BB⟩
          case measure => simp [intOf]; omega
        · have l1 : ((i : Int) == (n : Int) - 1) = false := by simp; omega
          have HL : Hid (¬ i + 1 = n) := hl
          clear hl
          have i4 := rin17 K (-16777216) 16777216
          have i5 := rin17 (q + A) 0 old
          have i6 := rin17 (q + A + K) 0 old
          by_cases y3 : -16777216 ≤ K ∧ K ≤ 16777216
          rotate_left
          · rw [decide_eq_false y3] at i4
            have HN : Hid (cc17 pos S SA SC old ((SA : Int) + (SC : Int)) = 171) := HNO.out (fun h => y3 (HHE.out.1 h).2.2.1)
            clear HHE HSU
            go_wp2_with (first | (go_at_call 41; refine (i4 _).mono ?_; rintro e1 w9 ⟨rfl, rfl⟩; clear i4))
            go_ret
            exact ⟨by rw [HN.out]; rfl, BBw⟩
          rw [decide_eq_true y3] at i4
          by_cases y4 : 0 ≤ q + A ∧ q + A ≤ old
          rotate_left
          · rw [decide_eq_false y4] at i5
            have HN : Hid (cc17 pos S SA SC old ((SA : Int) + (SC : Int)) = 171) := HNO.out (fun h => y4 (HHE.out.1 h).2.2.2.1)
            clear HHE HSU i6
            go_wp2_with (first | (go_at_call 41; refine (i4 _).mono ?_; rintro e1 w9 ⟨rfl, rfl⟩; clear i4) | (go_at_call 41; refine (i5 _).mono ?_; rintro e1 w9 ⟨rfl, rfl⟩; clear i5))
            go_ret
            exact ⟨by rw [HN.out]; rfl, BBw⟩
          rw [decide_eq_true y4] at i5
          have v2 : IntKind.i64.wrap (q + A + K) = q + A + K := IntWalk.i64_in _ (by omega)
          by_cases y5 : 0 ≤ q + A + K ∧ q + A + K ≤ old
          rotate_left
          · rw [decide_eq_false y5] at i6
            have HN : Hid (cc17 pos S SA SC old ((SA : Int) + (SC : Int)) = 171) := HNO.out (fun h => y5 (HHE.out.1 h).2.2.2.2)
            clear HHE HSU
            go_wp2_with (first | (go_at_call 41; refine (i4 _).mono ?_; rintro e1 w9 ⟨rfl, rfl⟩; clear i4) | (go_at_call 41; refine (i5 _).mono ?_; rintro e1 w9 ⟨rfl, rfl⟩; clear i5) | (go_at_call 41; refine (i6 _).mono ?_; rintro e1 w9 ⟨rfl, rfl⟩; clear i6))
            go_ret
            exact ⟨by rw [HN.out]; rfl, BBw⟩
          rw [decide_eq_true y5] at i6
          have vk : IntKind.i64.wrap K = K := IntWalk.i64_in _ (by omega)
          have v3 : IntKind.i64.wrap (A + K) = A + K := IntWalk.i64_in _ (by omega)
          have v4 : IntKind.i64.wrap (q + (A + K)) = q + A + K := by rw [IntWalk.i64_in _ (by omega)]; omega
          have HY : Hid (H17 S pos old i) := HHE.out.2 ⟨HY1.out, fun h => absurd h HL.out, y3, y4, y5⟩
          clear HHE
          go_wp2_with (first | (go_at_call 41; refine (i4 _).mono ?_; rintro e1 w9 ⟨rfl, rfl⟩; clear i4) | (go_at_call 41; refine (i5 _).mono ?_; rintro e1 w9 ⟨rfl, rfl⟩; clear i5) | (go_at_call 41; refine (i6 _).mono ?_; rintro e1 w9 ⟨rfl, rfl⟩; clear i6))
          go_roundw
          case rel =>
            obtain ⟨x1, x2⟩ := HSU.out HY.out
            exact ⟨i + 1, by omega, by simp, by rw [x2], x1, by rw [x2]; exact y5, BB⟩
          case measure => simp [intOf]; omega
    · have hk2 : i = n := by omega
      subst hk2
      have hneg : ¬ (i : Int) < (i : Int) := by omega
      have HY : Hid (cc17 pos S SA SC old ((SA : Int) + (SC : Int)) = 0) := cc17_ok (HIF.out.2 ⟨HOK.out, k1, k2, trivial, trivial, by omega, k6, HH.out⟩)
      clear HH hq
      go_wp2_with fail
      go_ret
      exact ⟨by rw [HY.out]; rfl, BW⟩
end Go.Proofs.Ytodioefbfchckaa
