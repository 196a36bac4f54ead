
import Derived.Test.YtaipfcfmhdigfaaLzQ
namespace Go.Proofs.Ytaipfcfmhdigfaa
open Go.RowKit
set_option linter.unusedVariables false

/-! The landed lz: length, Check, Size, Expand, Options. -/
theorem boxK {w wA : World} {t : Tok7} (hA : wA = w.alloc (.cells #[.int .u8 t.lit, .int .i64 t.len, .int .i64 t.dist] 56)) : TkAt wA w.heap.size 0 t := by
  have h : wA.heap[w.heap.size]? = some (.cells #[.int .u8 t.lit, .int .i64 t.len, .int .i64 t.dist] 56 (0, 0)) := by rw [hA]; exact heap_alloc_new w _
  refine ⟨?_, ?_, ?_⟩ <;> simp [World.cell?, h]
set_option maxRecDepth 100000 in
set_option maxHeartbeats 2000000 in
theorem plen7 (t : Tok7) (w : World) : Calls Try.prog 34 #[t.val] w fun e w' => e = .returned (.int .i64 (wid7 t : Int)) ∧ Below w.heap.size w w' := by
  obtain ⟨z, n, d⟩ := t
  unfold Tok7.val
  simp only
  by_cases h0 : n = 0
  · subst h0
    by_cases h1 : d = 0
    · have HM : Hid (wid7 ⟨z, 0, d⟩ = 1) := by show _ = _; simp [wid7, may7, h1]
      rw [HM.out]
      subst h1
      go_enter Try.func34, Try.ntmps34
      go_wp2_with fail
      go_ret
      exact ⟨rfl, below_box _ _⟩
    · have HM : Hid (wid7 ⟨z, 0, d⟩ = 0) := by show _ = _; simp [wid7, may7, h1]
      rw [HM.out]
      go_enter Try.func34, Try.ntmps34
      go_wp2_with fail
      go_ret
      exact ⟨rfl, below_box _ _⟩
  · have hm : may7 ⟨z, n, d⟩ ↔ (3 ≤ n ∧ n ≤ 258 ∧ 1 ≤ d ∧ d ≤ 32768 ∧ z = 0) := by unfold may7; simp only; rw [if_neg h0]
    have hno : ¬ may7 ⟨z, n, d⟩ → wid7 ⟨z, n, d⟩ = 0 := fun h => by unfold wid7; rw [if_neg h]
    have hF : may7 ⟨z, n, d⟩ → (wid7 ⟨z, n, d⟩ : Int) = n := fun h1 => by
      unfold wid7
      simp only
      rw [if_pos h1, if_neg h0]
      have := hm.1 h1
      omega
    by_cases h1 : 3 ≤ n
    · by_cases h2 : n ≤ 258
      · by_cases h3 : 1 ≤ d
        · by_cases h4 : d ≤ 32768
          · by_cases h5 : z = 0
            · have HM : Hid ((wid7 ⟨z, n, d⟩ : Int) = n) := hF (hm.2 ⟨h1, h2, h3, h4, h5⟩)
              rw [HM.out]
              subst h5
              clear hm hno hF HM
              go_enter Try.func34, Try.ntmps34
              go_wp2_with fail
              go_ret
              exact ⟨rfl, below_box _ _⟩
            · have HM : Hid (wid7 ⟨z, n, d⟩ = 0) := hno (by simp [hm, h5])
              rw [HM.out]
              clear hm hno hF HM
              have hz9 : (z != 0) = true := by simp [h5]
              go_enter Try.func34, Try.ntmps34
              go_wp2_with fail
              go_ret
              exact ⟨rfl, below_box _ _⟩
          · have HM : Hid (wid7 ⟨z, n, d⟩ = 0) := hno (by simp [hm, h4])
            rw [HM.out]
            clear hm hno hF HM
            go_enter Try.func34, Try.ntmps34
            go_wp2_with fail
            go_ret
            exact ⟨rfl, below_box _ _⟩
        · have HM : Hid (wid7 ⟨z, n, d⟩ = 0) := hno (by simp [hm, h3])
          rw [HM.out]
          clear hm hno hF HM
          go_enter Try.func34, Try.ntmps34
          go_wp2_with fail
          go_ret
          exact ⟨rfl, below_box _ _⟩
      · have HM : Hid (wid7 ⟨z, n, d⟩ = 0) := hno (by simp [hm, h2])
        rw [HM.out]
        clear hm hno hF HM
        go_enter Try.func34, Try.ntmps34
        go_wp2_with fail
        go_ret
        exact ⟨rfl, below_box _ _⟩
    · have HM : Hid (wid7 ⟨z, n, d⟩ = 0) := hno (by simp [hm, h1])
      rw [HM.out]
      clear hm hno hF HM
      go_enter Try.func34, Try.ntmps34
      go_wp2_with fail
      go_ret
      exact ⟨rfl, below_box _ _⟩
theorem wid7_zero {t : Tok7} (h : wid7 t = 0) : ¬ may7 t := by
  intro hm
  unfold wid7 at h
  rw [if_pos hm] at h
  split at h
  · omega
  · rename_i h0
    unfold may7 at hm
    rw [if_neg h0] at hm
    omega
theorem wid7_pos {t : Tok7} (h : wid7 t ≠ 0) : may7 t := by
  unfold wid7 at h
  by_cases hm : may7 t
  · exact hm
  · rw [if_neg hm] at h; exact absurd rfl h
theorem far7_iff {win : Int} {tot : Nat} {t : Tok7} (h : may7 t) (hw : 1 ≤ win) : far7 win tot t ↔ (win < t.dist ∨ (tot : Int) < t.dist) := by
  unfold far7
  unfold may7 at h
  by_cases h0 : t.len = 0
  · rw [if_pos h0] at h; omega
  · rw [if_neg h0] at h; omega
set_option maxRecDepth 100000 in
set_option maxHeartbeats 2000000 in
theorem pchk7 (win : Int) (l : List Tok7) (a : Option Addr) (n cap : Nat) (hn : Hid (l.length = n)) (w : World) (hs : SegT w a l) (hcap : n ≤ cap) (hnil : a = none → cap = 0) (hl : n ≤ 1073741824) :
    Calls Try.prog 11 #[.int .i64 win, .slice a n cap] w fun e w' => e = .returned (.tuple #[.int .i64 ((check7 win l).1 : Int), .int .i64 (check7 win l).2]) ∧ Below w.heap.size w w' := by
  unfold check7
  by_cases h1 : win < 1
  · rw [if_pos (.inl h1)]
    go_enter Try.func11, Try.ntmps11
    go_wp2_with fail
    go_ret2
    exact ⟨rfl, Below.refl _ _⟩
  · by_cases h2 : 32768 < win
    · rw [if_pos (.inr h2)]
      go_enter Try.func11, Try.ntmps11
      go_wp2_with fail
      go_ret2
      exact ⟨rfl, Below.refl _ _⟩
    · rw [if_neg (by omega)]
      go_enter Try.func11, Try.ntmps11
      go_wp2_with fail
      go_loopw [6, 18] (fun tt ti wr => ∃ i tot : Nat, i ≤ n ∧ ti = .int .i64 (i : Int) ∧ tt = .int .i64 (tot : Int) ∧ tot ≤ 258 * i ∧ Hid (chk7 win l 0 0 = chk7 win (l.drop i) tot i) ∧ Below w.heap.size w wr) (fun _ ti _ => n - (intOf ti).toNat)
      case atStart => exact ⟨0, 0, by omega, rfl, rfl, by omega, (show _ = _ by simp), Below.refl _ _⟩
      case round =>
        obtain ⟨i, tot, hi, rfl, rfl, htot, HC, BR⟩ := hrel
        by_cases hin : i < n
        · have hii : (i : Int) < (n : Int) := by omega
          have hil : i < l.length := by rw [hn.out]; exact hin
          have hD : l.drop i = l.getD i tk0 :: l.drop (i + 1) := dropT hil
          obtain ⟨b, off, rfl, hT⟩ := (hs.old BR).at_ i hil
          rw [hD, chk7] at HC
          have hw := wid7_le (l.getD i tk0)
          have CW := plen7 (l.getD i tk0)
          generalize l.getD i tk0 = t at *
          obtain ⟨wA, hwA⟩ : ∃ wA, wA = wr.alloc (.cells #[.int .u8 t.lit, .int .i64 t.len, .int .i64 t.dist] 56) := ⟨_, rfl⟩
          have bA : Below wr.heap.size wr wA := by rw [hwA]; exact below_box _ _
          have tA : TkAt wA wr.heap.size 0 t := boxK hwA
          have HWA : Hid (wA = wr.alloc (.cells #[.int .u8 t.lit, .int .i64 t.len, .int .i64 t.dist] 56)) := hwA
          have BA : Below w.heap.size w wA := BR.trans (bA.mono BR.size)
          obtain ⟨ob, hob⟩ : ∃ ob, ob = wr.heap.size := ⟨_, rfl⟩
          have HOB : Hid (ob = wr.heap.size) := hob
          rw [← hob] at tA
          have hol := tA.lt
          have hc0 := hT.c0
          have hc1 := hT.c1
          have hc2 := hT.c2
          have CWA : Hid (∀ W, Calls Try.prog 34 #[t.val] W fun e w' => e = .returned (.int .i64 (wid7 t : Int)) ∧ Below W.heap.size W w') := CW
          have HTA : Hid (∀ W, Below wA.heap.size wA W → TkAt W ob 0 t) := fun W hW => tA.of_block (hW.block ob hol)
          have a0 := tA.c0
          have a1 := tA.c1
          have a2 := tA.c2
          by_cases hm : wid7 t = 0
          · rw [if_pos (wid7_zero hm)] at HC
            rw [hm] at CWA
            clear hwA hob hD CW hT tA hm
            obtain ⟨z, ln, ds⟩ := t
            unfold Tok7.val at CWA
            simp only at hc0 hc1 hc2 a0 a1 a2 CWA HWA
            go_wp2_with fail
            rw [← HWA.out, ← HOB.out]
            refine (CWA.out wA).mono ?_
            rintro e w1 ⟨rfl, b1⟩
            go_wp2_with fail
            go_ret2
            exact ⟨by rw [HC.out]; rfl, BA.trans (b1.mono BA.size)⟩
          · have hm2 := wid7_pos hm
            rw [if_neg (by simpa using hm2)] at HC
            have hfi := far7_iff (win := win) (tot := tot) hm2 (by omega)
            obtain ⟨t2, ht2⟩ : ∃ t2, t2 = tot + wid7 t := ⟨_, rfl⟩
            have hwt : IntKind.i64.wrap ((tot : Int) + (wid7 t : Int)) = (t2 : Int) := by rw [IntWalk.i64_in _ (by omega)]; omega
            have hwz : ¬ (wid7 t : Int) = 0 := by omega
            have ht3 : t2 ≤ 258 * (i + 1) := by omega
            obtain ⟨mn, hmn⟩ : ∃ mn, mn = min win (tot : Int) := ⟨_, rfl⟩
            have hmn2 : far7 win tot t ↔ mn < t.dist := by rw [hfi, hmn]; omega
            have HMN : Hid ((if (tot : Int) < win then (tot : Int) else win) = mn) := by show _ = _; rw [hmn]; split <;> omega
            by_cases hf : far7 win tot t
            · rw [if_pos hf] at HC
              have hg := hmn2.1 hf
              clear hwA hob hD CW hT tA hm hfi hmn2 hmn hf hm2 ht2
              obtain ⟨z, ln, ds⟩ := t
              unfold Tok7.val at CWA
              simp only at hc0 hc1 hc2 a0 a1 a2 CWA HWA hg hwt hwz
              generalize wid7 ⟨z, ln, ds⟩ = W at *
              go_wp2_with fail
              rw [← HWA.out, ← HOB.out]
              refine (CWA.out wA).mono ?_
              rintro e w1 ⟨rfl, b1⟩
              obtain ⟨e0, e1, e2⟩ := HTA.out w1 b1
              simp only at e0 e1 e2
              have hmin := HMN.out
              go_wp2_with fail
              all_goals go_ret2
              all_goals exact ⟨by rw [HC.out]; rfl, BA.trans (b1.mono BA.size)⟩
            · rw [if_neg hf] at HC
              have hg : ¬ mn < t.dist := fun e => hf (hmn2.2 e)
              rw [← ht2] at HC
              clear hwA hob hD CW hT tA hm hfi hmn2 hmn hf hm2 ht2
              obtain ⟨z, ln, ds⟩ := t
              unfold Tok7.val at CWA
              simp only at hc0 hc1 hc2 a0 a1 a2 CWA HWA hg hwt hwz
              generalize wid7 ⟨z, ln, ds⟩ = W at *
              go_wp2_with fail
              rw [← HWA.out, ← HOB.out]
              refine (CWA.out wA).mono ?_
              rintro e w1 ⟨rfl, b1⟩
              obtain ⟨e0, e1, e2⟩ := HTA.out w1 b1
              simp only at e0 e1 e2
              have B2 := BA.trans (b1.mono BA.size)
              have hmin := HMN.out
              go_wp2_with fail
              go_roundw
              case rel => exact ⟨i + 1, t2, by omega, by go_num, rfl, ht3, HC, B2⟩
              case measure => simp [intOf]; omega
        · have hge : ¬ (i : Int) < (n : Int) := by omega
          have HE : Hid (chk7 win l 0 0 = (0, 0)) := by
            show _ = _
            rw [HC.out, List.drop_of_length_le (by rw [hn.out]; omega)]
            rfl
          clear HC
          go_wp2_with fail
          go_ret2
          exact ⟨by rw [HE.out]; rfl, BR⟩
end Go.Proofs.Ytaipfcfmhdigfaa
