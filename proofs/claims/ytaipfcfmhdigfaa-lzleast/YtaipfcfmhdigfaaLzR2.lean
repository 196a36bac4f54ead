
import Derived.Test.YtaipfcfmhdigfaaLzR1
namespace Go.Proofs.Ytaipfcfmhdigfaa
open Go.RowKit
set_option linter.unusedVariables false

theorem wid7_le (t : Tok7) : wid7 t ≤ 258 := by
  have := siz7_le [t]
  simpa [siz7] using this
theorem boxT {w wA : World} {t : Tok7} (hA : wA = w.alloc (.cells #[.int .u8 t.lit, .int .i64 t.len, .int .i64 t.dist] 73)) : TkAt wA w.heap.size 0 t := by
  have h : wA.heap[w.heap.size]? = some (.cells #[.int .u8 t.lit, .int .i64 t.len, .int .i64 t.dist] 73 (0, 0)) := by rw [hA]; exact heap_alloc_new w _
  refine ⟨?_, ?_, ?_⟩ <;> simp [World.cell?, h]
set_option maxRecDepth 100000 in
set_option maxHeartbeats 2000000 in
theorem rcheck7 (win : Int) (l : List Tok7) (a : Option Addr) (n cap : Nat) (hn : Hid (l.length = n)) (w : World) (hs : SegT w a l) (hl : n ≤ 1073741824) :
    Calls Try.prog 12 #[.int .i64 win, .slice a n cap] w fun e w' => e = .returned (.tuple #[.int .i64 ((check7 win l).1 : Int), .int .i64 (check7 win l).2]) ∧ Below w.heap.size w w' := by
  unfold check7
  by_cases h1 : win < 1
  · rw [if_pos (.inl h1)]
    go_enter Try.func12, Try.ntmps12
    go_wp2_with fail
    go_ret2
    exact ⟨rfl, Below.refl _ _⟩
  · by_cases h2 : 32768 < win
    · rw [if_pos (.inr h2)]
      go_enter Try.func12, Try.ntmps12
      go_wp2_with fail
      go_ret2
      exact ⟨rfl, Below.refl _ _⟩
    · rw [if_neg (by omega)]
      go_enter Try.func12, Try.ntmps12
      go_wp2_with fail
      go_loopw [6, 17] (fun tt ti wr => ∃ i tot : Nat, i ≤ n ∧ ti = .int .i64 (i : Int) ∧ tt = .int .i64 (tot : Int) ∧ tot ≤ 258 * i ∧ Hid (chk7 win l 0 0 = chk7 win (l.drop i) tot i) ∧ Below w.heap.size w wr) (fun _ ti _ => n - (intOf ti).toNat)
      case atStart => exact ⟨0, 0, by omega, rfl, rfl, by omega, (show _ = _ by simp), Below.refl _ _⟩
      case round =>
        obtain ⟨i, tot, hi, rfl, rfl, htot, HC, BR⟩ := hrel
        by_cases hin : i < n
        · have hii : (i : Int) < (n : Int) := by omega
          have hil : i < l.length := by rw [hn.out]; exact hin
          have hD : l.drop i = l.getD i tk0 :: l.drop (i + 1) := dropT hil
          obtain ⟨b, off, rfl, hT⟩ := (hs.old BR).at_ i hil
          rw [hD, chk7] at HC
          have hw := wid7_le (l.getD i tk0)
          have CM := rmay7 (l.getD i tk0)
          have CW := rwidth7 (l.getD i tk0)
          generalize l.getD i tk0 = t at *
          obtain ⟨wA, hwA⟩ : ∃ wA, wA = wr.alloc (.cells #[.int .u8 t.lit, .int .i64 t.len, .int .i64 t.dist] 73) := ⟨_, rfl⟩
          have bA : Below wr.heap.size wr wA := by rw [hwA]; exact below_box _ _
          have tA : TkAt wA wr.heap.size 0 t := boxT hwA
          have HWA : Hid (wA = wr.alloc (.cells #[.int .u8 t.lit, .int .i64 t.len, .int .i64 t.dist] 73)) := hwA
          have BA : Below w.heap.size w wA := BR.trans (bA.mono BR.size)
          obtain ⟨ob, hob⟩ : ∃ ob, ob = wr.heap.size := ⟨_, rfl⟩
          have HOB : Hid (ob = wr.heap.size) := hob
          rw [← hob] at tA
          have hol := tA.lt
          have hc0 := hT.c0
          have hc1 := hT.c1
          have hc2 := hT.c2
          have CMA : Hid (∀ W, Calls Try.prog 35 #[t.val] W fun e w' => e = .returned (.bool (decide (may7 t))) ∧ Below W.heap.size W w') := CM
          have CWA : Hid (∀ W, Calls Try.prog 36 #[t.val] W fun e w' => e = .returned (.int .i64 (wid7 t : Int)) ∧ Below W.heap.size W w') := CW
          have HTA : Hid (∀ W, Below wA.heap.size wA W → TkAt W ob 0 t) := fun W hW => tA.of_block (hW.block ob hol)
          have HFAR : Hid (far7 win tot t ↔ 0 < t.len ∧ (win < t.dist ∨ (tot : Int) < t.dist)) := Iff.rfl
          have a0 := tA.c0
          have a1 := tA.c1
          have a2 := tA.c2
          clear hwA hob hD CM CW hT tA
          obtain ⟨z, ln, ds⟩ := t
          unfold Tok7.val at CMA CWA
          simp only at hc0 hc1 hc2 a0 a1 a2 CMA CWA HWA HFAR
          by_cases hm : may7 ⟨z, ln, ds⟩
          · rw [if_neg (by simpa using hm)] at HC
            rw [decide_eq_true hm] at CMA
            by_cases hf : far7 win tot ⟨z, ln, ds⟩
            · rw [if_pos hf] at HC
              obtain ⟨f1, f2⟩ := HFAR.out.1 hf
              by_cases f3 : win < ds
              · clear f2
                go_wp2_with fail
                rw [← HWA.out, ← HOB.out]
                refine (CMA.out wA).mono ?_
                rintro e w1 ⟨rfl, b1⟩
                obtain ⟨e0, e1, e2⟩ := HTA.out w1 b1
                simp only at e0 e1 e2
                go_wp2_with fail
                go_ret2
                exact ⟨by rw [HC.out]; rfl, BA.trans (b1.mono BA.size)⟩
              · have f4 : (tot : Int) < ds := by rcases f2 with e | e; exact absurd e f3; exact e
                clear f2
                go_wp2_with fail
                rw [← HWA.out, ← HOB.out]
                refine (CMA.out wA).mono ?_
                rintro e w1 ⟨rfl, b1⟩
                obtain ⟨e0, e1, e2⟩ := HTA.out w1 b1
                simp only at e0 e1 e2
                go_wp2_with fail
                go_ret2
                exact ⟨by rw [HC.out]; rfl, BA.trans (b1.mono BA.size)⟩
            · rw [if_neg hf] at HC
              have hnf : ¬ (0 < ln ∧ (win < ds ∨ (tot : Int) < ds)) := fun e => hf (HFAR.out.2 e)
              obtain ⟨t2, ht2⟩ : ∃ t2, t2 = tot + wid7 ⟨z, ln, ds⟩ := ⟨_, rfl⟩
              have hwt : IntKind.i64.wrap ((tot : Int) + (wid7 ⟨z, ln, ds⟩ : Int)) = (t2 : Int) := by rw [IntWalk.i64_in _ (by omega)]; omega
              rw [← ht2] at HC
              have ht3 : t2 ≤ 258 * (i + 1) := by omega
              clear hf HFAR ht2
              generalize wid7 ⟨z, ln, ds⟩ = W at *
              by_cases f1 : 0 < ln
              · have f2 : ¬ win < ds := fun e => hnf ⟨f1, .inl e⟩
                have f3 : ¬ (tot : Int) < ds := fun e => hnf ⟨f1, .inr e⟩
                clear hnf
                go_wp2_with fail
                rw [← HWA.out, ← HOB.out]
                refine (CMA.out wA).mono ?_
                rintro e w1 ⟨rfl, b1⟩
                obtain ⟨e0, e1, e2⟩ := HTA.out w1 b1
                simp only at e0 e1 e2
                go_wp2_with fail
                refine (CWA.out w1).mono ?_
                rintro e w2 ⟨rfl, b2⟩
                have B2 := (BA.trans (b1.mono BA.size)).trans (b2.mono (Nat.le_trans BA.size b1.size))
                go_wp2_with fail
                go_roundw
                case rel => exact ⟨i + 1, t2, by omega, by go_num, rfl, ht3, HC, B2⟩
                case measure => simp [intOf]; omega
              · clear hnf
                go_wp2_with fail
                rw [← HWA.out, ← HOB.out]
                refine (CMA.out wA).mono ?_
                rintro e w1 ⟨rfl, b1⟩
                obtain ⟨e0, e1, e2⟩ := HTA.out w1 b1
                simp only at e0 e1 e2
                go_wp2_with fail
                refine (CWA.out w1).mono ?_
                rintro e w2 ⟨rfl, b2⟩
                have B2 := (BA.trans (b1.mono BA.size)).trans (b2.mono (Nat.le_trans BA.size b1.size))
                go_wp2_with fail
                go_roundw
                case rel => exact ⟨i + 1, t2, by omega, by go_num, rfl, ht3, HC, B2⟩
                case measure => simp [intOf]; omega
          · rw [if_pos hm] at HC
            rw [decide_eq_false hm] at CMA
            go_wp2_with fail
            rw [← HWA.out, ← HOB.out]
            refine (CMA.out wA).mono ?_
            rintro e w1 ⟨rfl, b1⟩
            go_wp2_with fail
            go_ret2
            exact ⟨by rw [HC.out]; rfl, BA.trans (b1.mono BA.size)⟩
        · have hge : ¬ (i : Int) < (n : Int) := by omega
          have HE : Hid (chk7 win l 0 0 = (0, 0)) := by
            show _ = _
            rw [HC.out, List.drop_of_length_le (by rw [hn.out]; omega)]
            rfl
          clear HC
          go_wp2_with fail
          go_ret2
          exact ⟨by rw [HE.out]; rfl, BR⟩
set_option maxRecDepth 100000 in
set_option maxHeartbeats 1000000 in
theorem rsize7 (l : List Tok7) (a : Option Addr) (n cap : Nat) (hn : Hid (l.length = n)) (w : World) (hs : SegT w a l) (hl : n ≤ 1073741824) :
    Calls Try.prog 17 #[.slice a n cap] w fun e w' => e = .returned (.int .i64 (siz7 l : Int)) ∧ Below w.heap.size w w' := by
  go_enter Try.func17, Try.ntmps17
  go_wp2_with fail
  go_loopw [3, 8] (fun tt ti wr => ∃ i tot : Nat, i ≤ n ∧ ti = .int .i64 (i : Int) ∧ tt = .int .i64 (tot : Int) ∧ tot ≤ 258 * i ∧ Hid (siz7 l = tot + siz7 (l.drop i)) ∧ Below w.heap.size w wr) (fun _ ti _ => n - (intOf ti).toNat)
  case atStart => exact ⟨0, 0, by omega, rfl, rfl, by omega, (show _ = _ by simp), Below.refl _ _⟩
  case round =>
    obtain ⟨i, tot, hi, rfl, rfl, htot, HC, BR⟩ := hrel
    by_cases hin : i < n
    · have hii : (i : Int) < (n : Int) := by omega
      have hil : i < l.length := by rw [hn.out]; exact hin
      have hD : l.drop i = l.getD i tk0 :: l.drop (i + 1) := dropT hil
      obtain ⟨b, off, rfl, hT⟩ := (hs.old BR).at_ i hil
      rw [hD, siz7] at HC
      have hw := wid7_le (l.getD i tk0)
      have CW := rwidth7 (l.getD i tk0)
      generalize l.getD i tk0 = t at *
      obtain ⟨wA, hwA⟩ : ∃ wA, wA = wr.alloc (.cells #[.int .u8 t.lit, .int .i64 t.len, .int .i64 t.dist] 73) := ⟨_, rfl⟩
      have bA : Below wr.heap.size wr wA := by rw [hwA]; exact below_box _ _
      have HWA : Hid (wA = wr.alloc (.cells #[.int .u8 t.lit, .int .i64 t.len, .int .i64 t.dist] 73)) := hwA
      have BA : Below w.heap.size w wA := BR.trans (bA.mono BR.size)
      have hc0 := hT.c0
      have hc1 := hT.c1
      have hc2 := hT.c2
      have CWA : Hid (∀ W, Calls Try.prog 36 #[t.val] W fun e w' => e = .returned (.int .i64 (wid7 t : Int)) ∧ Below W.heap.size W w') := CW
      obtain ⟨t2, ht2⟩ : ∃ t2, t2 = tot + wid7 t := ⟨_, rfl⟩
      have hwt : IntKind.i64.wrap ((tot : Int) + (wid7 t : Int)) = (t2 : Int) := by rw [IntWalk.i64_in _ (by omega)]; omega
      have HC2 : Hid (siz7 l = t2 + siz7 (l.drop (i + 1))) := by have := HC.out; show _ = _; omega
      have ht3 : t2 ≤ 258 * (i + 1) := by omega
      clear hwA hD CW hT ht2 HC
      obtain ⟨z, ln, ds⟩ := t
      unfold Tok7.val at CWA
      simp only at hc0 hc1 hc2 CWA HWA
      generalize wid7 ⟨z, ln, ds⟩ = W at *
      go_wp2_with fail
      rw [← HWA.out]
      refine (CWA.out wA).mono ?_
      rintro e w2 ⟨rfl, b2⟩
      have B2 := BA.trans (b2.mono BA.size)
      go_wp2_with fail
      go_roundw
      case rel => exact ⟨i + 1, t2, by omega, by go_num, rfl, ht3, HC2, B2⟩
      case measure => simp [intOf]; omega
    · have hge : ¬ (i : Int) < (n : Int) := by omega
      have HE : Hid (siz7 l = tot) := by
        show _ = _
        rw [HC.out, List.drop_of_length_le (by rw [hn.out]; omega)]
        rfl
      clear HC
      go_wp2_with fail
      go_ret
      exact ⟨by rw [HE.out]; rfl, BR⟩
end Go.Proofs.Ytaipfcfmhdigfaa
