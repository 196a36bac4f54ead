import Derived.Test.YtaipfcfmhdigfaaPah
import Derived.Test.YtaipfcfmhdigfaaPaf
namespace Go.Proofs.Ytaipfcfmhdigfaa
open Go.RowKit
set_option linter.unusedVariables false

/-! From candidate to candidate. -/
theorem bsg7_full (D : List Int) (p W C best dist : Nat) (h : ∀ q, al7 D q p ≤ best) : ∀ f d seen, bsg7 D p W C f d best dist seen = (best, dist)
  | 0, d, seen => rfl
  | f + 1, d, seen => by
    rw [bsg7]
    split
    · split
      · exact bsg7_full D p W C best dist h f _ _
      · rw [if_neg (by have := h (p - d); omega)]
        exact bsg7_full D p W C best dist h f _ _
    · rfl
def Cd7 (D : List Int) (p W C : Nat) (q : Int) (best dist seen : Nat) : Prop := ∃ d, 1 ≤ d ∧ d ≤ p + 1 ∧ bst7 D p W C = bsg7 D p W C (p + 1 - d) d best dist seen ∧
  ((q = -1 ∧ ∀ e, d ≤ e → e ≤ p → al7 D (p - e) p < 3) ∨ ∃ q0 : Nat, q = (q0 : Int) ∧ q0 < p ∧ d ≤ p - q0 ∧ 3 ≤ al7 D q0 p ∧ ∀ e, d ≤ e → e < p - q0 → al7 D (p - e) p < 3)
theorem cd7_next {D : List Int} {p t : Nat} {x y z : Int} (h2 : p + 2 < D.length) (ht : t ≤ p) (hx : x = D.getD p 0) (hy : y = D.getD (p + 1) 0) (hz : z = D.getD (p + 2) 0) :
    (lst7 D t x y z = -1 ∧ ∀ e, p - t + 1 ≤ e → e ≤ p → al7 D (p - e) p < 3) ∨ ∃ q0 : Nat, lst7 D t x y z = (q0 : Int) ∧ q0 < t ∧ 3 ≤ al7 D q0 p ∧ ∀ e, p - t + 1 ≤ e → e < p - q0 → al7 D (p - e) p < 3 := by
  rcases lst7_spec D x y z t with ⟨h3, h4⟩ | ⟨q, h3, h4, h5, h6⟩
  · refine .inl ⟨h3, fun e e1 e2 => ?_⟩
    apply Nat.lt_of_not_le
    intro h
    obtain ⟨_, a1, a2, a3⟩ := al7_three.1 h
    exact h4 (p - e) (by omega) ⟨by rw [hx, a1], by rw [hy, a2], by rw [hz, a3]⟩
  · refine .inr ⟨q, h3, h4, ?_, fun e e1 e2 => ?_⟩
    · rw [al7_three]
      exact ⟨h2, by rw [← h5.1, hx], by rw [← h5.2.1, hy], by rw [← h5.2.2, hz]⟩
    · apply Nat.lt_of_not_le
      intro h
      obtain ⟨_, a1, a2, a3⟩ := al7_three.1 h
      exact h6 (p - e) (by omega) (by omega) ⟨by rw [hx, a1], by rw [hy, a2], by rw [hz, a3]⟩
theorem cd7_start {D : List Int} {p : Nat} (W C : Nat) (h2 : p + 2 < D.length) : Cd7 D p W C (lst7 D p (D.getD p 0) (D.getD (p + 1) 0) (D.getD (p + 2) 0)) 0 0 0 := by
  refine ⟨1, by omega, by omega, bst7_start D p W C, ?_⟩
  rcases cd7_next h2 (Nat.le_refl p) rfl rfl rfl with ⟨h3, h4⟩ | ⟨q, h3, h4, h5, h6⟩
  · exact .inl ⟨h3, fun e e1 e2 => h4 e (by omega) e2⟩
  · exact .inr ⟨q, h3, h4, by omega, h5, fun e e1 e2 => h6 e (by omega) e2⟩
theorem cd7_end {D : List Int} {p W C : Nat} {q : Int} {best dist seen : Nat} (h : Cd7 D p W C q best dist seen) (he : C ≤ seen ∨ q = -1 ∨ (∃ q0 : Nat, q = (q0 : Int) ∧ W < p - q0) ∨ ∀ q, al7 D q p ≤ best) : bst7 D p W C = (best, dist) := by
  obtain ⟨d, h1, h2, h3, h4⟩ := h
  rw [h3]
  rcases he with he | he | ⟨q0, he, hw⟩ | he
  · exact bsg7_far D p W C _ d best dist seen (by omega)
  · rcases h4 with ⟨_, h5⟩ | ⟨q0, h5, _⟩
    · exact bsg7_none D p W C best dist seen d h2 h5
    · omega
  · rcases h4 with ⟨h5, _⟩ | ⟨q1, h5, h6, h7, h8, h9⟩
    · omega
    · obtain rfl : q0 = q1 := by omega
      obtain ⟨m, hm⟩ : ∃ m, d + m = p - q0 := ⟨p - q0 - d, by omega⟩
      rw [bsg7_skip D p W C best dist seen m d (by omega) (fun e e1 e2 => h9 e e1 (by omega)), bsg7_far D p W C _ (d + m) best dist seen (by omega)]
  · exact bsg7_full D p W C best dist he _ _ _
theorem cd7_step {D : List Int} {p W C q0 best dist seen : Nat} (h2 : p + 2 < D.length) (h : Cd7 D p W C (q0 : Int) best dist seen) (hW : p - q0 ≤ W) (hS : seen < C) :
    q0 < p ∧ 3 ≤ al7 D q0 p ∧ ((best < al7 D q0 p → Cd7 D p W C (prv7 D q0) (al7 D q0 p) (p - q0) (seen + 1)) ∧ (¬ best < al7 D q0 p → Cd7 D p W C (prv7 D q0) best dist (seen + 1))) := by
  obtain ⟨d, h1, hd, h3, h4⟩ := h
  rcases h4 with ⟨h5, _⟩ | ⟨q1, h5, h6, h7, h8, h9⟩
  · omega
  · obtain rfl : q0 = q1 := by omega
    obtain ⟨m, hm⟩ : ∃ m, d + m = p - q0 := ⟨p - q0 - d, by omega⟩
    have e1 := bsg7_skip D p W C best dist seen m d (by omega) (fun e e1 e2 => h9 e e1 (by omega))
    rw [hm] at e1
    have e2 := bsg7_take D p W C best dist seen (p - q0) (by omega) hW hS (by rw [show p - (p - q0) = q0 by omega]; exact h8)
    rw [show p - (p - q0) = q0 by omega] at e2
    have h3' := h3.trans (e1.trans e2)
    obtain ⟨_, a1, a2, a3⟩ := al7_three.1 h8
    have hnx : ((prv7 D q0 = -1 ∧ ∀ e, p - q0 + 1 ≤ e → e ≤ p → al7 D (p - e) p < 3) ∨ ∃ q : Nat, prv7 D q0 = (q : Int) ∧ q < p ∧ p - q0 + 1 ≤ p - q ∧ 3 ≤ al7 D q p ∧ ∀ e, p - q0 + 1 ≤ e → e < p - q → al7 D (p - e) p < 3) := by
      rcases cd7_next h2 (Nat.le_of_lt h6) a1 a2 a3 with h | ⟨q, b1, b2, b3, b4⟩
      · exact .inl h
      · exact .inr ⟨q, b1, by omega, by omega, b3, b4⟩
    refine ⟨h6, h8, fun hb => ⟨p - q0 + 1, by omega, by omega, ?_, hnx⟩, fun hb => ⟨p - q0 + 1, by omega, by omega, ?_, hnx⟩⟩
    · rw [h3', if_pos hb]
    · rw [h3', if_neg hb]
theorem cd7_some {D : List Int} {p W C : Nat} {q : Int} {best dist seen : Nat} (h : Cd7 D p W C q best dist seen) : q = -1 ∨ ∃ q0 : Nat, q = (q0 : Int) ∧ q0 < p := by
  obtain ⟨d, _, _, _, h | ⟨q0, h1, h2, _⟩⟩ := h
  · exact .inl h.1
  · exact .inr ⟨q0, h1, h2⟩
theorem bst7_short {D : List Int} {p : Nat} (W C : Nat) (hp : p ≤ D.length) (h : D.length - p < 3) : bst7 D p W C = (0, 0) := by
  rw [bst7_start]
  refine bsg7_none D p W C 0 0 0 1 (by omega) (fun e _ _ => ?_)
  have := al7_fits (D := D) (q := p - e) hp
  omega
def BjI (D : List Int) (p W C : Nat) (B b m : Nat) (oa : Option Addr) (oc : Nat) (a : Option Addr) (n cap : Nat) (lz : Bool) (S : Nat → Prop) (w0 : World) (tb td tq tl : Value) (wr : World) : Prop := ∃ (best dist seen : Nat) (q : Int), tb = .int .i64 (best : Int) ∧ td = .int .i64 (dist : Int) ∧ tq = .int .i64 q ∧ tl = .int .i64 ((C : Int) - (seen : Int)) ∧
  best ≤ 258 ∧ seen ≤ C ∧ Hid (Cd7 D p W C q best dist seen) ∧ Chn wr B b m oa oc D a n cap W C lz p ∧ Kp S w0 wr
set_option maxRecDepth 100000 in
set_option maxHeartbeats 4000000 in
theorem pbst7 (B b m : Nat) (oa : Option Addr) (oc : Nat) (D : List Int) (a : Option Addr) (n cap W C : Nat) (lz : Bool) (s p : Nat) (hn : Hid (D.length = n)) (w : World) (h : Chn w B b m oa oc D a n cap W C lz s) (hsp : s ≤ p) (hp : p < n) (hl : n ≤ 1073741824) (hW : W ≤ 32768) (hC : C ≤ 4096) :
    Calls Try.prog 38 #[.pointer (some ⟨b, 0, none⟩), .int .i64 (p : Int)] w fun e w' => e = .returned (.tuple #[.int .i64 ((bst7 D p W C).1 : Int), .int .i64 ((bst7 D p W C).2 : Int)]) ∧ (∃ oa' oc' s', s' ≤ p ∧ Chn w' B b m oa' oc' D a n cap W C lz s' ∧ Fresh w (.slice oa s oc) (.slice oa' s' oc')) ∧ Kp (CS b m (.slice oa s oc)) w w' := by
  obtain ⟨c0, c1, c2, c3, c4, c5⟩ := h.six.cells
  have hws : IntKind.i64.wrap ((n : Int) - (p : Int)) = ((n - p : Nat) : Int) := by rw [IntWalk.i64_in _ (by omega)]; omega
  obtain ⟨r, hr⟩ : ∃ r, r = n - p := ⟨_, rfl⟩
  rw [← hr] at hws
  have hri : (n : Int) - (p : Int) = (r : Int) := by omega
  by_cases h3 : r < 3
  · have HE : Hid (bst7 D p W C = (0, 0)) := bst7_short W C (by rw [hn.out]; omega) (by rw [hn.out]; omega)
    have hr3 : (r : Int) < 3 := by omega
    have hr4 : ¬ (r : Int) < 258 → False := by omega
    have hmn : (if (r : Int) < 258 then (r : Int) else 258) = (r : Int) := if_pos (by omega)
    clear hr
    go_enter Try.func38, Try.ntmps38
    go_wp2_with fail
    all_goals first
      | (go_ret2
         exact ⟨by rw [HE.out]; rfl, ⟨oa, oc, s, hsp, h, Fresh.refl7 _ _⟩, Kp.refl _ _⟩)
      | omega
  · obtain ⟨lim, hlim⟩ : ∃ lim, lim = min 258 r := ⟨_, rfl⟩
    have hlimI : (if (r : Int) < 258 then (r : Int) else 258) = (lim : Int) := by split <;> omega
    have hl3 : ¬ (lim : Int) < 3 := by omega
    have hl2 : 3 ≤ lim ∧ lim ≤ 258 ∧ p + lim ≤ n := by omega
    have HLM : Hid (lim = min 258 (n - p)) := by show _ = _; rw [hlim, hr]
    have hr3 : ¬ (r : Int) < 3 := by omega
    have CS := psee7 B b m oa oc D a n cap W C lz s p hn w h (by omega) hl
    rw [Nat.max_eq_right hsp] at CS
    have HH : Hid (Chn w B b m oa oc D a n cap W C lz s) := h
    clear hr hlim h
    go_enter Try.func38, Try.ntmps38
    go_wp2_with fail
    refine CS.mono ?_
    rintro e w1 ⟨rfl, ⟨qa, qc, hC1, FR⟩, b1⟩
    clear HH c0 c1 c2 c3 c4 c5 CS
    have h2n : p + 2 < D.length := by rw [hn.out]; omega
    have CK := pkey7 D a n cap p hn w1 hC1.seg (by omega) (by omega)
    obtain ⟨c0, c1, c2, c3, c4, c5⟩ := hC1.six.cells
    have bx := hC1.seg.bd p
    have byy := hC1.seg.bd (p + 1)
    have bz := hC1.seg.bd (p + 2)
    have HST : Hid (Cd7 D p W C (lst7 D p (D.getD p 0) (D.getD (p + 1) 0) (D.getD (p + 2) 0)) 0 0 0) := cd7_start W C h2n
    have HC1 : Hid (Chn w1 B b m qa qc D a n cap W C lz p) := hC1
    have hB1 := hC1.bs
    have CL : Hid (∀ W1, Below w1.heap.size w1 W1 → Calls Try.prog 45 #[.pointer (some ⟨b, 0, none⟩), .agg #[.int .u8 (D.getD p 0), .int .u8 (D.getD (p + 1) 0), .int .u8 (D.getD (p + 2) 0)]] W1 fun e w' => e = .returned (.int .i64 (lst7 D p (D.getD p 0) (D.getD (p + 1) 0) (D.getD (p + 2) 0))) ∧ Below W1.heap.size W1 w') := fun W1 hW1 => by
      have h := hC1.kp hW1
      exact plast7 b m p (lst7 D p) _ _ _ bx byy bz W1 h.six.cells.2.2.2.2.1 h.mp
    generalize D.getD p 0 = x at *
    generalize D.getD (p + 1) 0 = y at *
    generalize D.getD (p + 2) 0 = z at *
    generalize lst7 D p x y z = q0 at *
    clear hC1
    go_wp2_with fail
    refine CK.mono ?_
    rintro e w2 ⟨rfl, b2⟩
    go_wp2_with fail
    refine (CL.out w2 b2).mono ?_
    rintro e w3 ⟨rfl, b3⟩
    have b13 : Below w1.heap.size w1 w3 := b2.trans (b3.mono b2.size)
    have hC3 := (show Chn w1 B b m qa qc D a n cap W C lz p from HC1.out).kp b13
    have B3 : Kp (CS b m (.slice oa s oc)) w w3 := b1.trans (Kp.of_below (S := CS b m (.slice oa s oc)) b13) (fun _ _ e => e)
    obtain ⟨e0, e1, e2, e3, e4, e5⟩ := hC3.six.cells
    have HC3 : Hid (Chn w3 B b m qa qc D a n cap W C lz p) := hC3
    clear CK CL b2 b3 b13 HC1 c0 c1 c2 c3 c4 c5 hC3
    go_wp2_with fail
    go_loopw [7, 8, 9, 10] (fun tb td tq tl wr => BjI D p W C B b m qa qc a n cap lz (CS b m (.slice oa s oc)) w tb td tq tl wr) (fun _ _ _ tl _ => (intOf tl).toNat)
    case atStart => exact ⟨0, 0, 0, q0, rfl, rfl, rfl, by simp, by omega, by omega, HST, HC3.out, B3⟩
    case round =>
      clear HC3 HST B3 e0 e1 e2 e3 e4 e5
      obtain ⟨best, dist, seen, q, rfl, rfl, rfl, rfl, hb, hsC, HQ, hCr, BR⟩ := hrel
      obtain ⟨c0, c1, c2, c3, c4, c5⟩ := hCr.six.cells
      by_cases hg1 : seen < C
      · have hg1i : 0 < (C : Int) - (seen : Int) := by omega
        have hwl : IntKind.i64.wrap ((C : Int) - (seen : Int) - 1) = (C : Int) - ((seen + 1 : Nat) : Int) := by rw [IntWalk.i64_in _ (by omega)]; omega
        rcases cd7_some HQ.out with rfl | ⟨q1, rfl, hq1⟩
        · have HE : Hid (bst7 D p W C = (best, dist)) := cd7_end HQ.out (.inr (.inl rfl))
          go_wp2_with fail
          go_ret2
          exact ⟨by rw [HE.out]; rfl, ⟨qa, qc, p, Nat.le_refl _, hCr, FR⟩, BR⟩
        · have hqn : ¬ (q1 : Int) = -1 := by omega
          have hwd : IntKind.i64.wrap ((p : Int) - (q1 : Int)) = ((p - q1 : Nat) : Int) := by rw [IntWalk.i64_in _ (by omega)]; omega
          obtain ⟨dd, hdd⟩ : ∃ dd, dd = p - q1 := ⟨_, rfl⟩
          rw [← hdd] at hwd
          have hddi : (p : Int) - (q1 : Int) = (dd : Int) := by omega
          by_cases hg2 : dd ≤ W
          · have hg2i : (dd : Int) ≤ (W : Int) := by omega
            by_cases hg3 : best < lim
            · have hg3i : (best : Int) < (lim : Int) := by omega
              obtain ⟨_, hal3, hstA, hstB⟩ := cd7_step h2n HQ.out (show p - q1 ≤ W by omega) hg1
              rw [← hdd] at hstA
              obtain ⟨x1, hx1⟩ : ∃ x1, x1 = q1 + best := ⟨_, rfl⟩
              obtain ⟨y1, hy1⟩ : ∃ y1, y1 = p + best := ⟨_, rfl⟩
              have hwx : IntKind.i64.wrap ((q1 : Int) + (best : Int)) = (x1 : Int) := by rw [IntWalk.i64_in _ (by omega)]; omega
              have hwy : IntKind.i64.wrap ((p : Int) + (best : Int)) = (y1 : Int) := by rw [IntWalk.i64_in _ (by omega)]; omega
              have hxi : (q1 : Int) + (best : Int) = (x1 : Int) := by omega
              have hyi : (p : Int) + (best : Int) = (y1 : Int) := by omega
              have hxn : (x1 : Int) < (n : Int) := by omega
              have hyn : (y1 : Int) < (n : Int) := by omega
              have sg := hCr.seg
              obtain ⟨g, off, rfl, cx⟩ := sg.at_ x1 (by rw [hn.out]; omega)
              obtain ⟨g', off', hgg, cy⟩ := sg.at_ y1 (by rw [hn.out]; omega)
              cases hgg
              have hx8 := sg.bd x1
              have hy8 := sg.bd y1
              have hgl := World.block_lt_of_cell? wr _ cx
              have hale := al7_le D q1 p
              have CA : Hid (∀ k, Calls Try.prog 47 #[.slice (some ⟨g, off, none⟩) n cap, .int .i64 (q1 : Int), .int .i64 (p : Int), .int .i64 ((3 : Nat) : Int), .int .i64 (lim : Int)] (wr.drewN k) fun e w' => e = .returned (.int .i64 (al7 D q1 p : Int)) ∧ Below (wr.drewN k).heap.size (wr.drewN k) w') := fun k => psame7 D (some ⟨g, off, none⟩) n cap q1 p 3 lim hn (wr.drewN k) (sg.drewN k) hq1 (by omega) hal3 HLM.out (by omega)
              have HNE : Hid (¬ D.getD x1 0 = D.getD y1 0 → ¬ best < al7 D q1 p) := fun e h => e (by have := (al7_same h).2; rw [hx1, hy1]; exact this)
              obtain ⟨sgr, _, hv, _⟩ := own_shape hCr.own (by omega)
              simp only [Value.slice.injEq] at hv
              obtain ⟨rfl, _, rfl⟩ := hv
              have HCr : Hid (∀ W1, Below wr.heap.size wr W1 → Chn W1 B b m (some ⟨sgr, 0, none⟩) qc D (some ⟨g, off, none⟩) n cap W C lz p) := fun W1 h1 => hCr.kp h1
              have hrc : wr.cell? ⟨sgr, q1, none⟩ = some (.int .i64 (prv7 D q1)) := by
                have := hCr.own.cells (g := sgr) rfl q1 (.int .i64 (prv7 D q1)) (by
                  have := prvs7_len D p
                  rw [← prvs7_get D p q1 hq1]
                  simp [List.getD, show q1 < (prvs7 D p).length by omega])
                by_cases hx00 : q1 = 0
                · subst hx00; simpa [Addr.add] using this
                · simpa [Addr.add, hx00] using this
              have hrl := World.block_lt_of_cell? wr _ hrc
              have hbl := hCr.six.lt
              have hqp : (q1 : Int) < (p : Int) := by omega
              have hBr := hCr.bs
              clear hdd hx1 hy1 sg hCr HQ
              generalize D.getD x1 0 = ux at *
              generalize D.getD y1 0 = uy at *
              generalize al7 D q1 p = al at *
              generalize prv7 D q1 = pv at *
              by_cases heq : ux = uy
              · subst heq
                by_cases hup : best < al
                · have HQ2 : Hid (Cd7 D p W C pv al dd (seen + 1)) := hstA hup
                  have hupi : (best : Int) < (al : Int) := by omega
                  clear hstA hstB HNE
                  go_wp2_with fail
                  go_quiet (fail)
                  go_wp2_with fail
                  refine (CA.out _).mono ?_
                  rintro e w2 ⟨rfl, b2⟩
                  have b2 : Below wr.heap.size wr w2 := ⟨b2.os, b2.tape, b2.output, b2.size, b2.block⟩
                  have hC2 := HCr.out w2 b2
                  have B2 := BR.trans (Kp.of_below (S := CS b m (.slice oa s oc)) b2) (fun _ _ e => e)
                  have c5' := (b2.cell (p := ⟨b, 5, none⟩) hbl).trans c5
                  have hrc' := (b2.cell (p := ⟨sgr, q1, none⟩) hrl).trans hrc
                  clear c0 c1 c2 c3 c4 c5 hrc cx cy
                  go_wp2_with fail
                  go_roundw
                  case rel => exact ⟨al, dd, seen + 1, pv, rfl, rfl, rfl, rfl, by omega, by omega, HQ2, hC2, B2⟩
                  case measure => simp [intOf]; omega
                · have HQ2 : Hid (Cd7 D p W C pv best dist (seen + 1)) := hstB hup
                  have hupi : ¬ (best : Int) < (al : Int) := by omega
                  clear hstA hstB HNE
                  go_wp2_with fail
                  go_quiet (fail)
                  go_wp2_with fail
                  refine (CA.out _).mono ?_
                  rintro e w2 ⟨rfl, b2⟩
                  have b2 : Below wr.heap.size wr w2 := ⟨b2.os, b2.tape, b2.output, b2.size, b2.block⟩
                  have hC2 := HCr.out w2 b2
                  have B2 := BR.trans (Kp.of_below (S := CS b m (.slice oa s oc)) b2) (fun _ _ e => e)
                  have c5' := (b2.cell (p := ⟨b, 5, none⟩) hbl).trans c5
                  have hrc' := (b2.cell (p := ⟨sgr, q1, none⟩) hrl).trans hrc
                  clear c0 c1 c2 c3 c4 c5 hrc cx cy
                  go_wp2_with fail
                  go_roundw
                  case rel => exact ⟨best, dist, seen + 1, pv, rfl, rfl, rfl, rfl, by omega, by omega, HQ2, hC2, B2⟩
                  case measure => simp [intOf]; omega
              · have HQ2 : Hid (Cd7 D p W C pv best dist (seen + 1)) := hstB (HNE.out heq)
                have hd9 : ∀ k, Below wr.heap.size wr (wr.drewN k) := fun k => ⟨rfl, rfl, rfl, Nat.le_refl _, fun _ _ => rfl⟩
                have hC2 : Hid (∀ k, Chn (wr.drewN k) B b m (some ⟨sgr, 0, none⟩) qc D (some ⟨g, off, none⟩) n cap W C lz p) := fun k => HCr.out _ (hd9 k)
                have B2 : Hid (∀ k, Kp (CS b m (.slice oa s oc)) w (wr.drewN k)) := fun k => BR.drewN k
                clear hd9
                clear hstA hstB HNE
                go_wp2_with fail
                go_quiet (fail)
                go_wp2_with fail
                go_roundw
                case rel => exact ⟨best, dist, seen + 1, pv, rfl, rfl, rfl, rfl, by omega, by omega, HQ2, hC2.out _, B2.out _⟩
                case measure => simp [intOf]; omega
            · have hg3i : ¬ (best : Int) < (lim : Int) := by omega
              have HE : Hid (bst7 D p W C = (best, dist)) := cd7_end HQ.out (.inr (.inr (.inr (fun q => by
                have h1 := al7_le D q p
                have h2 := al7_fits (D := D) (q := q) (p := p) (by rw [hn.out]; omega)
                rw [hn.out] at h2
                have := HLM.out
                omega))))
              clear hdd
              go_wp2_with fail
              go_ret2
              exact ⟨by rw [HE.out]; rfl, ⟨qa, qc, p, Nat.le_refl _, hCr, FR⟩, BR⟩
          · have hg2i : ¬ (dd : Int) ≤ (W : Int) := by omega
            have HE : Hid (bst7 D p W C = (best, dist)) := cd7_end HQ.out (.inr (.inr (.inl ⟨q1, rfl, by omega⟩)))
            clear hdd
            go_wp2_with fail
            go_ret2
            exact ⟨by rw [HE.out]; rfl, ⟨qa, qc, p, Nat.le_refl _, hCr, FR⟩, BR⟩
      · have hg1i : ¬ 0 < (C : Int) - (seen : Int) := by omega
        have HE : Hid (bst7 D p W C = (best, dist)) := cd7_end HQ.out (.inl (by omega))
        go_wp2_with fail
        go_ret2
        exact ⟨by rw [HE.out]; rfl, ⟨qa, qc, p, Nat.le_refl _, hCr, FR⟩, BR⟩
end Go.Proofs.Ytaipfcfmhdigfaa

namespace Go.Proofs.Ytaipfcfmhdigfaa
open Go.RowKit
set_option linter.unusedVariables false

/-! The landed lz: length, Check, Size, Expand, Options. -/
theorem boxK {w wA : World} {t : Tok7} (hA : wA = w.alloc (.cells #[.int .u8 t.lit, .int .i64 t.len, .int .i64 t.dist] 56)) : TkAt wA w.heap.size 0 t := by
  have h : wA.heap[w.heap.size]? = some (.cells #[.int .u8 t.lit, .int .i64 t.len, .int .i64 t.dist] 56 (0, 0)) := by rw [hA]; exact heap_alloc_new w _
  refine ⟨?_, ?_, ?_⟩ <;> simp [World.cell?, h]
set_option maxRecDepth 100000 in
set_option maxHeartbeats 2000000 in
theorem plen7 (t : Tok7) (w : World) : Calls Try.prog 34 #[t.val] w fun e w' => e = .returned (.int .i64 (wid7 t : Int)) ∧ Below w.heap.size w w' := by
  obtain ⟨z, n, d⟩ := t
  unfold Tok7.val
  simp only
  by_cases h0 : n = 0
  · subst h0
    by_cases h1 : d = 0
    · have HM : Hid (wid7 ⟨z, 0, d⟩ = 1) := by show _ = _; simp [wid7, may7, h1]
      rw [HM.out]
      subst h1
      go_enter Try.func34, Try.ntmps34
      go_wp2_with fail
      go_ret
      exact ⟨rfl, below_box _ _⟩
    · have HM : Hid (wid7 ⟨z, 0, d⟩ = 0) := by show _ = _; simp [wid7, may7, h1]
      rw [HM.out]
      go_enter Try.func34, Try.ntmps34
      go_wp2_with fail
      go_ret
      exact ⟨rfl, below_box _ _⟩
  · have hm : may7 ⟨z, n, d⟩ ↔ (3 ≤ n ∧ n ≤ 258 ∧ 1 ≤ d ∧ d ≤ 32768 ∧ z = 0) := by unfold may7; simp only; rw [if_neg h0]
    have hno : ¬ may7 ⟨z, n, d⟩ → wid7 ⟨z, n, d⟩ = 0 := fun h => by unfold wid7; rw [if_neg h]
    have hF : may7 ⟨z, n, d⟩ → (wid7 ⟨z, n, d⟩ : Int) = n := fun h1 => by
      unfold wid7
      simp only
      rw [if_pos h1, if_neg h0]
      have := hm.1 h1
      omega
    by_cases h1 : 3 ≤ n
    · by_cases h2 : n ≤ 258
      · by_cases h3 : 1 ≤ d
        · by_cases h4 : d ≤ 32768
          · by_cases h5 : z = 0
            · have HM : Hid ((wid7 ⟨z, n, d⟩ : Int) = n) := hF (hm.2 ⟨h1, h2, h3, h4, h5⟩)
              rw [HM.out]
              subst h5
              clear hm hno hF HM
              go_enter Try.func34, Try.ntmps34
              go_wp2_with fail
              go_ret
              exact ⟨rfl, below_box _ _⟩
            · have HM : Hid (wid7 ⟨z, n, d⟩ = 0) := hno (by simp [hm, h5])
              rw [HM.out]
              clear hm hno hF HM
              have hz9 : (z != 0) = true := by simp [h5]
              go_enter Try.func34, Try.ntmps34
              go_wp2_with fail
              go_ret
              exact ⟨rfl, below_box _ _⟩
          · have HM : Hid (wid7 ⟨z, n, d⟩ = 0) := hno (by simp [hm, h4])
            rw [HM.out]
            clear hm hno hF HM
            go_enter Try.func34, Try.ntmps34
            go_wp2_with fail
            go_ret
            exact ⟨rfl, below_box _ _⟩
        · have HM : Hid (wid7 ⟨z, n, d⟩ = 0) := hno (by simp [hm, h3])
          rw [HM.out]
          clear hm hno hF HM
          go_enter Try.func34, Try.ntmps34
          go_wp2_with fail
          go_ret
          exact ⟨rfl, below_box _ _⟩
      · have HM : Hid (wid7 ⟨z, n, d⟩ = 0) := hno (by simp [hm, h2])
        rw [HM.out]
        clear hm hno hF HM
        go_enter Try.func34, Try.ntmps34
        go_wp2_with fail
        go_ret
        exact ⟨rfl, below_box _ _⟩
    · have HM : Hid (wid7 ⟨z, n, d⟩ = 0) := hno (by simp [hm, h1])
      rw [HM.out]
      clear hm hno hF HM
      go_enter Try.func34, Try.ntmps34
      go_wp2_with fail
      go_ret
      exact ⟨rfl, below_box _ _⟩
theorem wid7_zero {t : Tok7} (h : wid7 t = 0) : ¬ may7 t := by
  intro hm
  unfold wid7 at h
  rw [if_pos hm] at h
  split at h
  · omega
  · rename_i h0
    unfold may7 at hm
    rw [if_neg h0] at hm
    omega
theorem wid7_pos {t : Tok7} (h : wid7 t ≠ 0) : may7 t := by
  unfold wid7 at h
  by_cases hm : may7 t
  · exact hm
  · rw [if_neg hm] at h; exact absurd rfl h
theorem far7_iff {win : Int} {tot : Nat} {t : Tok7} (h : may7 t) (hw : 1 ≤ win) : far7 win tot t ↔ (win < t.dist ∨ (tot : Int) < t.dist) := by
  unfold far7
  unfold may7 at h
  by_cases h0 : t.len = 0
  · rw [if_pos h0] at h; omega
  · rw [if_neg h0] at h; omega
set_option maxRecDepth 100000 in
set_option maxHeartbeats 2000000 in
theorem pchk7 (win : Int) (l : List Tok7) (a : Option Addr) (n cap : Nat) (hn : Hid (l.length = n)) (w : World) (hs : SegT w a l) (hcap : n ≤ cap) (hnil : a = none → cap = 0) (hl : n ≤ 1073741824) :
    Calls Try.prog 11 #[.int .i64 win, .slice a n cap] w fun e w' => e = .returned (.tuple #[.int .i64 ((check7 win l).1 : Int), .int .i64 (check7 win l).2]) ∧ Below w.heap.size w w' := by
  unfold check7
  by_cases h1 : win < 1
  · rw [if_pos (.inl h1)]
    go_enter Try.func11, Try.ntmps11
    go_wp2_with fail
    go_ret2
    exact ⟨rfl, Below.refl _ _⟩
  · by_cases h2 : 32768 < win
    · rw [if_pos (.inr h2)]
      go_enter Try.func11, Try.ntmps11
      go_wp2_with fail
      go_ret2
      exact ⟨rfl, Below.refl _ _⟩
    · rw [if_neg (by omega)]
      go_enter Try.func11, Try.ntmps11
      go_wp2_with fail
      go_loopw [6, 18] (fun tt ti wr => ∃ i tot : Nat, i ≤ n ∧ ti = .int .i64 (i : Int) ∧ tt = .int .i64 (tot : Int) ∧ tot ≤ 258 * i ∧ Hid (chk7 win l 0 0 = chk7 win (l.drop i) tot i) ∧ Below w.heap.size w wr) (fun _ ti _ => n - (intOf ti).toNat)
      case atStart => exact ⟨0, 0, by omega, rfl, rfl, by omega, (show _ = _ by simp), Below.refl _ _⟩
      case round =>
        obtain ⟨i, tot, hi, rfl, rfl, htot, HC, BR⟩ := hrel
        by_cases hin : i < n
        · have hii : (i : Int) < (n : Int) := by omega
          have hil : i < l.length := by rw [hn.out]; exact hin
          have hD : l.drop i = l.getD i tk0 :: l.drop (i + 1) := dropT hil
          obtain ⟨b, off, rfl, hT⟩ := (hs.old BR).at_ i hil
          rw [hD, chk7] at HC
          have hw := wid7_le (l.getD i tk0)
          have CW := plen7 (l.getD i tk0)
          generalize l.getD i tk0 = t at *
          obtain ⟨wA, hwA⟩ : ∃ wA, wA = wr.alloc (.cells #[.int .u8 t.lit, .int .i64 t.len, .int .i64 t.dist] 56) := ⟨_, rfl⟩
          have bA : Below wr.heap.size wr wA := by rw [hwA]; exact below_box _ _
          have tA : TkAt wA wr.heap.size 0 t := boxK hwA
          have HWA : Hid (wA = wr.alloc (.cells #[.int .u8 t.lit, .int .i64 t.len, .int .i64 t.dist] 56)) := hwA
          have BA : Below w.heap.size w wA := BR.trans (bA.mono BR.size)
          obtain ⟨ob, hob⟩ : ∃ ob, ob = wr.heap.size := ⟨_, rfl⟩
          have HOB : Hid (ob = wr.heap.size) := hob
          rw [← hob] at tA
          have hol := tA.lt
          have hc0 := hT.c0
          have hc1 := hT.c1
          have hc2 := hT.c2
          have CWA : Hid (∀ W, Calls Try.prog 34 #[t.val] W fun e w' => e = .returned (.int .i64 (wid7 t : Int)) ∧ Below W.heap.size W w') := CW
          have HTA : Hid (∀ W, Below wA.heap.size wA W → TkAt W ob 0 t) := fun W hW => tA.of_block (hW.block ob hol)
          have a0 := tA.c0
          have a1 := tA.c1
          have a2 := tA.c2
          by_cases hm : wid7 t = 0
          · rw [if_pos (wid7_zero hm)] at HC
            rw [hm] at CWA
            clear hwA hob hD CW hT tA hm
            obtain ⟨z, ln, ds⟩ := t
            unfold Tok7.val at CWA
            simp only at hc0 hc1 hc2 a0 a1 a2 CWA HWA
            go_wp2_with fail
            rw [← HWA.out, ← HOB.out]
            refine (CWA.out wA).mono ?_
            rintro e w1 ⟨rfl, b1⟩
            go_wp2_with fail
            go_ret2
            exact ⟨by rw [HC.out]; rfl, BA.trans (b1.mono BA.size)⟩
          · have hm2 := wid7_pos hm
            rw [if_neg (by simpa using hm2)] at HC
            have hfi := far7_iff (win := win) (tot := tot) hm2 (by omega)
            obtain ⟨t2, ht2⟩ : ∃ t2, t2 = tot + wid7 t := ⟨_, rfl⟩
            have hwt : IntKind.i64.wrap ((tot : Int) + (wid7 t : Int)) = (t2 : Int) := by rw [IntWalk.i64_in _ (by omega)]; omega
            have hwz : ¬ (wid7 t : Int) = 0 := by omega
            have ht3 : t2 ≤ 258 * (i + 1) := by omega
            obtain ⟨mn, hmn⟩ : ∃ mn, mn = min win (tot : Int) := ⟨_, rfl⟩
            have hmn2 : far7 win tot t ↔ mn < t.dist := by rw [hfi, hmn]; omega
            have HMN : Hid ((if (tot : Int) < win then (tot : Int) else win) = mn) := by show _ = _; rw [hmn]; split <;> omega
            by_cases hf : far7 win tot t
            · rw [if_pos hf] at HC
              have hg := hmn2.1 hf
              clear hwA hob hD CW hT tA hm hfi hmn2 hmn hf hm2 ht2
              obtain ⟨z, ln, ds⟩ := t
              unfold Tok7.val at CWA
              simp only at hc0 hc1 hc2 a0 a1 a2 CWA HWA hg hwt hwz
              generalize wid7 ⟨z, ln, ds⟩ = W at *
              go_wp2_with fail
              rw [← HWA.out, ← HOB.out]
              refine (CWA.out wA).mono ?_
              rintro e w1 ⟨rfl, b1⟩
              obtain ⟨e0, e1, e2⟩ := HTA.out w1 b1
              simp only at e0 e1 e2
              have hmin := HMN.out
              go_wp2_with fail
              all_goals go_ret2
              all_goals exact ⟨by rw [HC.out]; rfl, BA.trans (b1.mono BA.size)⟩
            · rw [if_neg hf] at HC
              have hg : ¬ mn < t.dist := fun e => hf (hmn2.2 e)
              rw [← ht2] at HC
              clear hwA hob hD CW hT tA hm hfi hmn2 hmn hf hm2 ht2
              obtain ⟨z, ln, ds⟩ := t
              unfold Tok7.val at CWA
              simp only at hc0 hc1 hc2 a0 a1 a2 CWA HWA hg hwt hwz
              generalize wid7 ⟨z, ln, ds⟩ = W at *
              go_wp2_with fail
              rw [← HWA.out, ← HOB.out]
              refine (CWA.out wA).mono ?_
              rintro e w1 ⟨rfl, b1⟩
              obtain ⟨e0, e1, e2⟩ := HTA.out w1 b1
              simp only at e0 e1 e2
              have B2 := BA.trans (b1.mono BA.size)
              have hmin := HMN.out
              go_wp2_with fail
              go_roundw
              case rel => exact ⟨i + 1, t2, by omega, by go_num, rfl, ht3, HC, B2⟩
              case measure => simp [intOf]; omega
        · have hge : ¬ (i : Int) < (n : Int) := by omega
          have HE : Hid (chk7 win l 0 0 = (0, 0)) := by
            show _ = _
            rw [HC.out, List.drop_of_length_le (by rw [hn.out]; omega)]
            rfl
          clear HC
          go_wp2_with fail
          go_ret2
          exact ⟨by rw [HE.out]; rfl, BR⟩
end Go.Proofs.Ytaipfcfmhdigfaa
