import Derived.Test.YtppjcgkgemhilaaRdFeed
import Derived.Test.YtppjcgkgemhilaaWritesW
namespace Go.Proofs.Ytppjcgkgemhilaa
open Go.RowKit
set_option linter.unusedVariables false

def rH (H : List Bool) (c : Int) (n : Int) (p : List Int) : List Bool := if c = 0 then feedL H p else if c = 1 then takeL H n else if c = 2 then H else if c = 3 then H.drop (H.length % 8) else H
def rT (H : List Bool) (t : Nat) (c : Int) (n : Int) : Nat := if c = 0 then t else if c = 1 then takeT H t n else if c = 2 then t else if c = 3 then t + H.length % 8 else t
theorem rT_le (H : List Bool) (t : Nat) (c : Int) (n : Int) : rT H t c n ≤ t + 64 := by
  have h1 : takeT H t n ≤ t + 56 := by
    unfold takeT
    cases hn : there H n
    · simp
    · obtain ⟨k, rfl, h1, h2⟩ := there_yes hn
      simp only [if_true, Int.toNat_natCast]
      omega
  unfold rT
  repeat' split
  all_goals omega
theorem reads_any (b bx B N : Nat) (u : Value) (H : List Bool) (t : Nat) (c : Int) (x : Int) (n : Int) (w : World) (h : RPair w b bx B u H t) (hb : b ≠ bx) (hb1 : b < B) (ht : t ≤ 4611686018427387904) (ba : Option Addr) (p : List Int) (bc : Nat) (hs : Seg w ba p) (hnil : ba = none → bc = 0) (hcap : p.length ≤ bc) (hN : ∀ g off, ba = some ⟨g, off, none⟩ → 0 < p.length → g < N) (hNb : N ≤ b) (hNx : N ≤ bx) (hNB : N ≤ B) (hl : p.length ≤ 140737488351232) :
    Calls Try.prog 11 #[.pointer (some ⟨b, 0, none⟩), .pointer (some ⟨bx, 0, none⟩), .agg #[.int .i64 c, .int .u64 x, .int .i64 n, .slice ba p.length bc]] w fun e w' => e = .returned (.bool true) ∧ DoneR w w' b bx B u (rH H c n p) (rT H t c n) := by
  unfold rH rT
  by_cases h0 : c = 0
  · subst h0
    exact reads_feed b bx B N u H t x n w h hb hb1 ba p bc hs hnil hcap hN hNb hNx hNB hl
  rw [if_neg h0, if_neg h0]
  by_cases h1 : c = 1
  · subst h1
    exact reads_take b bx B u H t x n w h hb hb1 ht ba p.length bc
  rw [if_neg h1, if_neg h1]
  by_cases h2 : c = 2
  · subst h2
    exact reads_peek b bx B u H t x n w h ba p.length bc
  rw [if_neg h2, if_neg h2]
  by_cases h3 : c = 3
  · subst h3
    exact reads_down b bx B u H t x n w h hb hb1 ht ba p.length bc
  rw [if_neg h3, if_neg h3]
  exact reads_ask b bx B u H t c x n w h ⟨h0, h1, h2, h3⟩ ba p.length bc

/-- Two pairs beside each other. -/
structure RTwo (w : World) (b1 x1 b2 x2 B : Nat) (u1 u2 : Value) (H : List Bool) (t : Nat) (M : List Bool) (s : Nat) : Prop where
  p1 : RPair w b1 x1 B u1 H t
  p2 : RPair w b2 x2 B u2 M s
  ap : Ap u1.ownBlock u2.ownBlock
variable {w w' : World} {b1 x1 b2 x2 B N : Nat} {u1 u2 : Value} {H H' M : List Bool} {t t' s : Nat}
theorem RTwo.swap (h : RTwo w b1 x1 b2 x2 B u1 u2 H t M s) : RTwo w b2 x2 b1 x1 B u2 u1 M s H t := ⟨h.p2, h.p1, h.ap.symm⟩
theorem RTwo.old (h : RTwo w b1 x1 b2 x2 B u1 u2 H t M s) (hb : Below w.heap.size w w') : RTwo w' b1 x1 b2 x2 B u1 u2 H t M s := ⟨h.p1.old hb, h.p2.old hb, h.ap⟩
theorem RTwo.step (h : RTwo w b1 x1 b2 x2 B u1 u2 H t M s) (hd : DoneR w w' b1 x1 B u1 H' t') (hne : b2 ≠ b1 ∧ b2 ≠ x1 ∧ x2 ≠ b1 ∧ x2 ≠ x1) (hB : b1 < B ∧ x1 < B ∧ b2 < B ∧ x2 < B) (hN : N ≤ b1 ∧ N ≤ x1 ∧ N ≤ B) : (∃ u1', RTwo w' b1 x1 b2 x2 B u1' u2 H' t' M s) ∧ Below N w w' := by
  obtain ⟨u', hp, hk, hg⟩ := hd
  have hu := h.p1.x.own_lt
  have hu2 := h.p2.x.own_lt
  refine ⟨⟨u', hp, h.p2.kp hk ?_ ?_ ?_, ?_⟩, hk.below ?_ ?_⟩
  · rintro (e | (e | e))
    · exact hne.1 e
    · exact hne.2.1 e
    · have := (hu _ e).1; omega
  · rintro (e | (e | e))
    · exact hne.2.2.1 e
    · exact hne.2.2.2 e
    · have := (hu _ e).1; omega
  · intro k hk3
    have := (hu2 k hk3).1
    rintro (e | (e | e))
    · omega
    · omega
    · exact h.ap k e hk3
  · intro k e1 e2
    have := (hu2 k e2).2.1
    rcases hg k e1 with e | e
    · exact h.ap k e e2
    · omega
  · rintro i (e | (e | e))
    · omega
    · omega
    · have := (hu i e).1; omega
  · have := h.p1.r.b_lt; omega

section
variable (C N : Nat → Int) (P : Nat → List Int)
/-- The bits held, and how many are gone, behind so many calls. -/
def RSt : Nat → List Bool × Nat
  | 0 => ([], 0)
  | i + 1 => (rH (RSt i).1 (C i) (N i) (P i), rT (RSt i).1 (RSt i).2 (C i) (N i))
def ROt : Nat → List Bool × Nat
  | 0 => ([], 0)
  | i + 1 => if i % 3 = 0 then (rH (ROt i).1 (C i) (N i) (P i), rT (ROt i).1 (ROt i).2 (C i) (N i)) else ROt i
theorem RSt_le (i : Nat) : (RSt C N P i).2 ≤ 64 * i := by
  induction i with
  | zero => simp [RSt]
  | succ i ih =>
    have := rT_le (RSt C N P i).1 (RSt C N P i).2 (C i) (N i)
    simp only [RSt]
    omega
theorem ROt_le (i : Nat) : (ROt C N P i).2 ≤ 64 * i := by
  induction i with
  | zero => simp [ROt]
  | succ i ih =>
    have := rT_le (ROt C N P i).1 (ROt C N P i).2 (C i) (N i)
    simp only [ROt]
    split
    · simp only; omega
    · omega
end

set_option maxRecDepth 100000 in
set_option maxHeartbeats 8000000 in
theorem bitsReads_walk (w : World) (a : Option Addr) (n cap : Nat) (C V N : Nat → Int) (Ba : Nat → Option Addr) (P : Nat → List Int) (Bc : Nat → Nat) (hs : SegO w a n C V N Ba P Bc) (hn : n ≤ 140737488351232) (hP : ∀ i, i < n → (P i).length ≤ 140737488351232) :
    Calls Try.prog 5 #[.slice a n cap] w fun e w' => e = .returned (.bool true) ∧ Below w.heap.size w w' := by
  obtain ⟨b1, hb1⟩ : ∃ b, b = w.heap.size := ⟨_, rfl⟩
  obtain ⟨b2, hb2⟩ : ∃ b, b = w.heap.size + 1 := ⟨_, rfl⟩
  obtain ⟨b3, hb3⟩ : ∃ b, b = w.heap.size + 1 + 1 := ⟨_, rfl⟩
  obtain ⟨b4, hb4⟩ : ∃ b, b = w.heap.size + 1 + 1 + 1 := ⟨_, rfl⟩
  obtain ⟨B, hB⟩ : ∃ b, b = w.heap.size + 4 := ⟨_, rfl⟩
  obtain ⟨wa, hwa⟩ : ∃ wa, wa = w.alloc (.cells #[.int .u64 0, .int .i64 0, .int .i64 0] 40) := ⟨_, rfl⟩
  obtain ⟨wb, hwb⟩ : ∃ wb, wb = wa.alloc (.cells #[.int .u64 0, .int .i64 0, .int .i64 0] 40) := ⟨_, rfl⟩
  obtain ⟨wc, hwc⟩ : ∃ wc, wc = wb.alloc (.cells #[.slice none 0 0, .int .i64 0] 42) := ⟨_, rfl⟩
  obtain ⟨wd, hwd⟩ : ∃ wd, wd = wc.alloc (.cells #[.slice none 0 0, .int .i64 0] 42) := ⟨_, rfl⟩
  have sa : wa.heap.size = w.heap.size + 1 := by rw [hwa]; simp
  have sb : wb.heap.size = w.heap.size + 1 + 1 := by rw [hwb]; simp [sa]
  have sc : wc.heap.size = w.heap.size + 1 + 1 + 1 := by rw [hwc]; simp [sb]
  have sd : wd.heap.size = w.heap.size + 4 := by rw [hwd]; simp [sc]
  have ga : Below w.heap.size w wa := by rw [hwa]; exact (Below.refl _ _).alloc (Nat.le_refl _) _
  have gb : Below wa.heap.size wa wb := by rw [hwb]; exact (Below.refl _ _).alloc (Nat.le_refl _) _
  have gc : Below wb.heap.size wb wc := by rw [hwc]; exact (Below.refl _ _).alloc (Nat.le_refl _) _
  have gd : Below wc.heap.size wc wd := by rw [hwd]; exact (Below.refl _ _).alloc (Nat.le_refl _) _
  have i1 : Rd wd b1 [] 0 := Rd.new (by rw [gd.block b1 (by omega), gc.block b1 (by omega), gb.block b1 (by omega), hwa, hb1]; exact heap_new _ _)
  have i2 : Rd wd b2 [] 0 := Rd.new (by rw [gd.block b2 (by omega), gc.block b2 (by omega), hwb, hb2, ← sa]; exact heap_new _ _)
  have i3 : RrL wd b3 B (.slice none 0 0) [] 0 := RrL.new (by rw [gd.block b3 (by omega), hwc, hb3, ← sb]; exact heap_new _ _) (by omega)
  have i4 : RrL wd b4 B (.slice none 0 0) [] 0 := RrL.new (by rw [hwd, hb4, ← sc]; exact heap_new _ _) (by omega)
  have two0 : RTwo wd b1 b3 b2 b4 B (.slice none 0 0) (.slice none 0 0) [] 0 [] 0 := ⟨⟨i1, i3, by decide⟩, ⟨i2, i4, by decide⟩, ap_nil⟩
  have hT0 : Below w.heap.size w wd := ga.trans ((gb.mono (by omega)).trans ((gc.mono (by omega)).trans (gd.mono (by omega))))
  have HW : Hid (wd = (((w.alloc (.cells #[.int .u64 0, .int .i64 0, .int .i64 0] 40)).alloc (.cells #[.int .u64 0, .int .i64 0, .int .i64 0] 40)).alloc (.cells #[.slice none 0 0, .int .i64 0] 42)).alloc (.cells #[.slice none 0 0, .int .i64 0] 42)) := by show _ = _; rw [hwd, hwc, hwb, hwa]
  have HX1 : Hid (b1 = w.heap.size) := hb1
  have HX2 : Hid (b2 = w.heap.size + 1) := hb2
  have HX3 : Hid (b3 = w.heap.size + 1 + 1) := hb3
  have HX4 : Hid (b4 = w.heap.size + 1 + 1 + 1) := hb4
  have hne1 : b2 ≠ b1 ∧ b2 ≠ b3 ∧ b4 ≠ b1 ∧ b4 ≠ b3 := by omega
  have hne2 : b1 ≠ b2 ∧ b1 ≠ b4 ∧ b3 ≠ b2 ∧ b3 ≠ b4 := by omega
  have hB1 : b1 < B ∧ b3 < B ∧ b2 < B ∧ b4 < B := by omega
  have hB2 : b2 < B ∧ b4 < B ∧ b1 < B ∧ b3 < B := by omega
  have hN1 : w.heap.size ≤ b1 ∧ w.heap.size ≤ b3 ∧ w.heap.size ≤ B := by omega
  have hN2 : w.heap.size ≤ b2 ∧ w.heap.size ≤ b4 ∧ w.heap.size ≤ B := by omega
  have h13 : b1 ≠ b3 := by omega
  have h24 : b2 ≠ b4 := by omega
  clear hwa hwb hwc hwd sa sb sc sd ga gb gc gd i1 i2 i3 i4 hb1 hb2 hb3 hb4 hB
  go_enter Try.func5, Try.ntmps5
  go_wp2
  rw [← HW.out, ← HX4.out, ← HX3.out, ← HX2.out, ← HX1.out]
  go_loopw [11] (fun ti wr => ∃ (i : Nat) (u1 u2 : Value), i ≤ n ∧ ti = .int .i64 (i : Int) ∧ RTwo wr b1 b3 b2 b4 B u1 u2 (RSt C N P i).1 (RSt C N P i).2 (ROt C N P i).1 (ROt C N P i).2 ∧ Below w.heap.size w wr) (fun ti _ => n - (intOf ti).toNat)
  case atStart => exact ⟨0, _, _, Nat.zero_le _, rfl, two0, hT0⟩
  case round =>
    obtain ⟨i, u1, u2, hi, rfl, tw, hT⟩ := hrel
    clear two0 hT0 HW HX1 HX2 HX3 HX4
    have hLS := RSt_le C N P i
    have hLO := ROt_le C N P i
    have hLS2 : (RSt C N P i).2 ≤ 4611686018427387904 := by omega
    have hLO2 : (ROt C N P i).2 ≤ 4611686018427387904 := by omega
    by_cases hlt : i < n
    · have hlt2 : (i : Int) < (n : Int) := by omega
      have hPi := hP i hlt
      obtain ⟨ob, oo, rfl, c0, c1, c2, c3⟩ := (hs.old hT).at_ i hlt
      have hseg := hs.seg i hlt
      have hnil := hs.nil i hlt
      have hcp := hs.cap i hlt
      have HS1 : Hid (RSt C N P (i + 1) = (rH (RSt C N P i).1 (C i) (N i) (P i), rT (RSt C N P i).1 (RSt C N P i).2 (C i) (N i))) := rfl
      have HS2 : Hid (ROt C N P (i + 1) = if i % 3 = 0 then (rH (ROt C N P i).1 (C i) (N i) (P i), rT (ROt C N P i).1 (ROt C N P i).2 (C i) (N i)) else ROt C N P i) := rfl
      clear hs hLS hLO hP
      generalize C i = c at *
      generalize V i = x at *
      generalize N i = m at *
      generalize P i = p at *
      generalize Ba i = ba at *
      generalize Bc i = bc at *
      generalize RSt C N P i = L at *
      generalize ROt C N P i = M at *
      obtain ⟨L, tL⟩ := L
      obtain ⟨M, tM⟩ := M
      simp only at hLS2 hLO2 tw HS1 HS2
      obtain ⟨wA, hwA⟩ : ∃ wA, wA = wr.alloc (.cells #[.int .i64 c, .int .u64 x, .int .i64 m, .slice ba p.length bc] 34) := ⟨_, rfl⟩
      have bA : Below wr.heap.size wr wA := by rw [hwA]; exact (Below.refl _ _).alloc (Nat.le_refl _) _
      have hA : wA.heap[wr.heap.size]? = some (.cells #[.int .i64 c, .int .u64 x, .int .i64 m, .slice ba p.length bc] 34 (0, 0)) := by rw [hwA]; exact heap_new wr _
      have HWA : Hid (wA = wr.alloc (.cells #[.int .i64 c, .int .u64 x, .int .i64 m, .slice ba p.length bc] 34)) := hwA
      obtain ⟨fb, hfb⟩ : ∃ fb, fb = wr.heap.size := ⟨_, rfl⟩
      have HFB : Hid (fb = wr.heap.size) := hfb
      rw [← hfb] at hA
      have twA := tw.old bA
      have hTA := hT.trans (bA.mono hT.size)
      have sA : Seg wA ba p := hseg.old hTA
      have CW := reads_any b1 b3 B w.heap.size u1 L tL c x m wA twA.p1 h13 hB1.1 hLS2 ba p bc sA hnil hcp hseg.lt hN1.1 hN1.2.1 hN1.2.2 hPi
      have hbl := tw.p1.r.b_lt
      have hxl := tw.p1.x.b_lt
      have hu := tw.p1.x.own_lt
      have hPSfb : ¬ RS b1 b3 u1 fb := by
        rintro (e | (e | e))
        · omega
        · omega
        · have := (hu fb e).2.1; omega
      obtain ⟨k0, k1, k2, k3⟩ := four_cell hA
      have hfbA : fb < wA.heap.size := World.block_lt_of_cell? wA _ k0
      clear hwA tw hu
      have hbf : b1 ≠ fb ∧ b3 ≠ fb := by omega
      clear hfb hbl hxl
      go_wp2_with fail
      rw [← HWA.out, ← HFB.out]
      refine CW.mono ?_
      rintro e wP ⟨rfl, hD⟩
      have hst := twA.step hD hne1 hB1 hN1
      have hA2 : wP.heap[fb]? = some (.cells #[.int .i64 c, .int .u64 x, .int .i64 m, .slice ba p.length bc] 34 (0, 0)) := by
        obtain ⟨_, _, hk, _⟩ := hD
        exact hk.heap hA hPSfb
      have hfr : ∃ u1', RTwo wP b1 b3 b2 b4 B u1' u2 (rH L c m p) (rT L tL c m) M tM ∧ ¬ RS b1 b3 u1' fb := by
        obtain ⟨u', hp, hk, hf⟩ := hD
        obtain ⟨⟨u9, tw9⟩, _⟩ := twA.step ⟨u', hp, hk, hf⟩ hne1 hB1 hN1
        refine ⟨u', ⟨hp, tw9.p2, ?_⟩, ?_⟩
        · intro k e1 e2
          have h2 := (twA.p2.x.own_lt k e2).2.1
          rcases hf k e1 with e | e
          · exact twA.ap k e e2
          · omega
        · rintro (e | (e | e))
          · exact hbf.1 e.symm
          · exact hbf.2 e.symm
          · rcases hf fb e with e | e
            · exact hPSfb (.inr (.inr e))
            · omega
      obtain ⟨u1', twP, hPS2⟩ := hfr
      have bP := hst.2
      have hTP := hTA.trans bP
      have hH' := twP.p1
      clear CW hD hA k0 k1 k2 k3 twA sA hst
      have HQ : Hid (RSt C N P (i + 1) = (rH L c m p, rT L tL c m)) := HS1
      generalize hL' : rH L c m p = L' at *
      generalize ht' : rT L tL c m = t' at *
      have C2 := reads_ask b1 b3 B u1' L' t' 4 0 0 wP twP.p1 (by decide) none 0 0
      clear hL' ht'
      go_wp2_with fail
      refine C2.mono ?_
      rintro e wQ ⟨rfl, hD⟩
      have hA3 : wQ.heap[fb]? = some (.cells #[.int .i64 c, .int .u64 x, .int .i64 m, .slice ba p.length bc] 34 (0, 0)) := by
        obtain ⟨_, _, hk, _⟩ := hD
        exact hk.heap hA2 hPS2
      obtain ⟨⟨u1'', twQ⟩, bQ⟩ := twP.step hD hne1 hB1 hN1
      have hTQ := hTP.trans bQ
      have sQ : Seg wQ ba p := hseg.old hTQ
      obtain ⟨q0, q1, q2, q3⟩ := four_cell hA3
      clear C2 hD hA2 hA3 twP hH'
      by_cases h3 : i % 3 = 0
      · have h3I : ((i : Int) % 3 == 0) = true := by simp; omega
        rw [if_pos h3] at HS2
        have CX := reads_any b2 b4 B w.heap.size u2 M tM c x m wQ twQ.p2 h24 hB2.1 hLO2 ba p bc sQ hnil hcp hseg.lt hN2.1 hN2.2.1 hN2.2.2 hPi
        go_wp2_with fail
        refine CX.mono ?_
        rintro e wR ⟨rfl, hD⟩
        obtain ⟨⟨u2', twR⟩, bR⟩ := twQ.swap.step hD hne2 hB2 hN2
        clear CX hD q0 q1 q2 q3
        go_wp2
        go_roundw
        case rel => exact ⟨i + 1, u1'', u2', by omega, by go_num, by rw [HQ.out, HS2.out]; exact twR.swap, hTQ.trans bR⟩
        case measure => simp [intOf]; omega
      · have h3I : ((i : Int) % 3 == 0) = false := by simp; omega
        rw [if_neg h3] at HS2
        go_wp2
        go_roundw
        case rel => exact ⟨i + 1, u1'', u2, by omega, by go_num, by rw [HQ.out, HS2.out]; exact twQ, hTQ⟩
        case measure => simp [intOf]; omega
    · have hge : (n : Int) ≤ (i : Int) := by omega
      clear hlt hi hLS hLO
      have C1 := reads_ask b2 b4 B u2 _ _ 4 0 0 wr tw.p2 (by decide) none 0 0
      generalize RSt C N P i = L at *
      generalize ROt C N P i = M at *
      go_wp2_with fail
      refine C1.mono ?_
      rintro e wP ⟨rfl, hD⟩
      obtain ⟨⟨u2', twP⟩, bP⟩ := tw.swap.step hD hne2 hB2 hN2
      have hTR := hT.trans bP
      clear C1 hD
      go_wp2_with fail
      refine (lives_any _).mono ?_
      rintro e wl ⟨rfl, bl⟩
      go_wp2
      go_ret
      exact ⟨rfl, hTR.trans (bl.mono hTR.size)⟩
end Go.Proofs.Ytppjcgkgemhilaa
