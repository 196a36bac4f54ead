import Derived.Test.YtaipfcfmhdigfaaPac
import Derived.Test.YtaipfcfmhdigfaaPaa
import Derived.Deep.AppendLies
namespace Go.Proofs.Ytaipfcfmhdigfaa
open Go.RowKit
set_option linter.unusedVariables false

theorem wid7_le (t : Tok7) : wid7 t ≤ 258 := by
  have := siz7_le [t]
  simpa [siz7] using this
theorem boxT {w wA : World} {t : Tok7} (hA : wA = w.alloc (.cells #[.int .u8 t.lit, .int .i64 t.len, .int .i64 t.dist] 73)) : TkAt wA w.heap.size 0 t := by
  have h : wA.heap[w.heap.size]? = some (.cells #[.int .u8 t.lit, .int .i64 t.len, .int .i64 t.dist] 73 (0, 0)) := by rw [hA]; exact heap_alloc_new w _
  refine ⟨?_, ?_, ?_⟩ <;> simp [World.cell?, h]
set_option maxRecDepth 100000 in
set_option maxHeartbeats 2000000 in
theorem rcheck7 (win : Int) (l : List Tok7) (a : Option Addr) (n cap : Nat) (hn : Hid (l.length = n)) (w : World) (hs : SegT w a l) (hl : n ≤ 1073741824) :
    Calls Try.prog 12 #[.int .i64 win, .slice a n cap] w fun e w' => e = .returned (.tuple #[.int .i64 ((check7 win l).1 : Int), .int .i64 (check7 win l).2]) ∧ Below w.heap.size w w' := by
  unfold check7
  by_cases h1 : win < 1
  · rw [if_pos (.inl h1)]
    go_enter Try.func12, Try.ntmps12
    go_wp2_with fail
    go_ret2
    exact ⟨rfl, Below.refl _ _⟩
  · by_cases h2 : 32768 < win
    · rw [if_pos (.inr h2)]
      go_enter Try.func12, Try.ntmps12
      go_wp2_with fail
      go_ret2
      exact ⟨rfl, Below.refl _ _⟩
    · rw [if_neg (by omega)]
      go_enter Try.func12, Try.ntmps12
      go_wp2_with fail
      go_loopw [6, 17] (fun tt ti wr => ∃ i tot : Nat, i ≤ n ∧ ti = .int .i64 (i : Int) ∧ tt = .int .i64 (tot : Int) ∧ tot ≤ 258 * i ∧ Hid (chk7 win l 0 0 = chk7 win (l.drop i) tot i) ∧ Below w.heap.size w wr) (fun _ ti _ => n - (intOf ti).toNat)
      case atStart => exact ⟨0, 0, by omega, rfl, rfl, by omega, (show _ = _ by simp), Below.refl _ _⟩
      case round =>
        obtain ⟨i, tot, hi, rfl, rfl, htot, HC, BR⟩ := hrel
        by_cases hin : i < n
        · have hii : (i : Int) < (n : Int) := by omega
          have hil : i < l.length := by rw [hn.out]; exact hin
          have hD : l.drop i = l.getD i tk0 :: l.drop (i + 1) := dropT hil
          obtain ⟨b, off, rfl, hT⟩ := (hs.old BR).at_ i hil
          rw [hD, chk7] at HC
          have hw := wid7_le (l.getD i tk0)
          have CM := rmay7 (l.getD i tk0)
          have CW := rwidth7 (l.getD i tk0)
          generalize l.getD i tk0 = t at *
          obtain ⟨wA, hwA⟩ : ∃ wA, wA = wr.alloc (.cells #[.int .u8 t.lit, .int .i64 t.len, .int .i64 t.dist] 73) := ⟨_, rfl⟩
          have bA : Below wr.heap.size wr wA := by rw [hwA]; exact below_box _ _
          have tA : TkAt wA wr.heap.size 0 t := boxT hwA
          have HWA : Hid (wA = wr.alloc (.cells #[.int .u8 t.lit, .int .i64 t.len, .int .i64 t.dist] 73)) := hwA
          have BA : Below w.heap.size w wA := BR.trans (bA.mono BR.size)
          obtain ⟨ob, hob⟩ : ∃ ob, ob = wr.heap.size := ⟨_, rfl⟩
          have HOB : Hid (ob = wr.heap.size) := hob
          rw [← hob] at tA
          have hol := tA.lt
          have hc0 := hT.c0
          have hc1 := hT.c1
          have hc2 := hT.c2
          have CMA : Hid (∀ W, Calls Try.prog 35 #[t.val] W fun e w' => e = .returned (.bool (decide (may7 t))) ∧ Below W.heap.size W w') := CM
          have CWA : Hid (∀ W, Calls Try.prog 36 #[t.val] W fun e w' => e = .returned (.int .i64 (wid7 t : Int)) ∧ Below W.heap.size W w') := CW
          have HTA : Hid (∀ W, Below wA.heap.size wA W → TkAt W ob 0 t) := fun W hW => tA.of_block (hW.block ob hol)
          have HFAR : Hid (far7 win tot t ↔ 0 < t.len ∧ (win < t.dist ∨ (tot : Int) < t.dist)) := Iff.rfl
          have a0 := tA.c0
          have a1 := tA.c1
          have a2 := tA.c2
          clear hwA hob hD CM CW hT tA
          obtain ⟨z, ln, ds⟩ := t
          unfold Tok7.val at CMA CWA
          simp only at hc0 hc1 hc2 a0 a1 a2 CMA CWA HWA HFAR
          by_cases hm : may7 ⟨z, ln, ds⟩
          · rw [if_neg (by simpa using hm)] at HC
            rw [decide_eq_true hm] at CMA
            by_cases hf : far7 win tot ⟨z, ln, ds⟩
            · rw [if_pos hf] at HC
              obtain ⟨f1, f2⟩ := HFAR.out.1 hf
              by_cases f3 : win < ds
              · clear f2
                go_wp2_with fail
                rw [← HWA.out, ← HOB.out]
                refine (CMA.out wA).mono ?_
                rintro e w1 ⟨rfl, b1⟩
                obtain ⟨e0, e1, e2⟩ := HTA.out w1 b1
                simp only at e0 e1 e2
                go_wp2_with fail
                go_ret2
                exact ⟨by rw [HC.out]; rfl, BA.trans (b1.mono BA.size)⟩
              · have f4 : (tot : Int) < ds := by rcases f2 with e | e; exact absurd e f3; exact e
                clear f2
                go_wp2_with fail
                rw [← HWA.out, ← HOB.out]
                refine (CMA.out wA).mono ?_
                rintro e w1 ⟨rfl, b1⟩
                obtain ⟨e0, e1, e2⟩ := HTA.out w1 b1
                simp only at e0 e1 e2
                go_wp2_with fail
                go_ret2
                exact ⟨by rw [HC.out]; rfl, BA.trans (b1.mono BA.size)⟩
            · rw [if_neg hf] at HC
              have hnf : ¬ (0 < ln ∧ (win < ds ∨ (tot : Int) < ds)) := fun e => hf (HFAR.out.2 e)
              obtain ⟨t2, ht2⟩ : ∃ t2, t2 = tot + wid7 ⟨z, ln, ds⟩ := ⟨_, rfl⟩
              have hwt : IntKind.i64.wrap ((tot : Int) + (wid7 ⟨z, ln, ds⟩ : Int)) = (t2 : Int) := by rw [IntWalk.i64_in _ (by omega)]; omega
              rw [← ht2] at HC
              have ht3 : t2 ≤ 258 * (i + 1) := by omega
              clear hf HFAR ht2
              generalize wid7 ⟨z, ln, ds⟩ = W at *
              by_cases f1 : 0 < ln
              · have f2 : ¬ win < ds := fun e => hnf ⟨f1, .inl e⟩
                have f3 : ¬ (tot : Int) < ds := fun e => hnf ⟨f1, .inr e⟩
                clear hnf
                go_wp2_with fail
                rw [← HWA.out, ← HOB.out]
                refine (CMA.out wA).mono ?_
                rintro e w1 ⟨rfl, b1⟩
                obtain ⟨e0, e1, e2⟩ := HTA.out w1 b1
                simp only at e0 e1 e2
                go_wp2_with fail
                refine (CWA.out w1).mono ?_
                rintro e w2 ⟨rfl, b2⟩
                have B2 := (BA.trans (b1.mono BA.size)).trans (b2.mono (Nat.le_trans BA.size b1.size))
                go_wp2_with fail
                go_roundw
                case rel => exact ⟨i + 1, t2, by omega, by go_num, rfl, ht3, HC, B2⟩
                case measure => simp [intOf]; omega
              · clear hnf
                go_wp2_with fail
                rw [← HWA.out, ← HOB.out]
                refine (CMA.out wA).mono ?_
                rintro e w1 ⟨rfl, b1⟩
                obtain ⟨e0, e1, e2⟩ := HTA.out w1 b1
                simp only at e0 e1 e2
                go_wp2_with fail
                refine (CWA.out w1).mono ?_
                rintro e w2 ⟨rfl, b2⟩
                have B2 := (BA.trans (b1.mono BA.size)).trans (b2.mono (Nat.le_trans BA.size b1.size))
                go_wp2_with fail
                go_roundw
                case rel => exact ⟨i + 1, t2, by omega, by go_num, rfl, ht3, HC, B2⟩
                case measure => simp [intOf]; omega
          · rw [if_pos hm] at HC
            rw [decide_eq_false hm] at CMA
            go_wp2_with fail
            rw [← HWA.out, ← HOB.out]
            refine (CMA.out wA).mono ?_
            rintro e w1 ⟨rfl, b1⟩
            go_wp2_with fail
            go_ret2
            exact ⟨by rw [HC.out]; rfl, BA.trans (b1.mono BA.size)⟩
        · have hge : ¬ (i : Int) < (n : Int) := by omega
          have HE : Hid (chk7 win l 0 0 = (0, 0)) := by
            show _ = _
            rw [HC.out, List.drop_of_length_le (by rw [hn.out]; omega)]
            rfl
          clear HC
          go_wp2_with fail
          go_ret2
          exact ⟨by rw [HE.out]; rfl, BR⟩
set_option maxRecDepth 100000 in
set_option maxHeartbeats 1000000 in
theorem rsize7 (l : List Tok7) (a : Option Addr) (n cap : Nat) (hn : Hid (l.length = n)) (w : World) (hs : SegT w a l) (hl : n ≤ 1073741824) :
    Calls Try.prog 17 #[.slice a n cap] w fun e w' => e = .returned (.int .i64 (siz7 l : Int)) ∧ Below w.heap.size w w' := by
  go_enter Try.func17, Try.ntmps17
  go_wp2_with fail
  go_loopw [3, 8] (fun tt ti wr => ∃ i tot : Nat, i ≤ n ∧ ti = .int .i64 (i : Int) ∧ tt = .int .i64 (tot : Int) ∧ tot ≤ 258 * i ∧ Hid (siz7 l = tot + siz7 (l.drop i)) ∧ Below w.heap.size w wr) (fun _ ti _ => n - (intOf ti).toNat)
  case atStart => exact ⟨0, 0, by omega, rfl, rfl, by omega, (show _ = _ by simp), Below.refl _ _⟩
  case round =>
    obtain ⟨i, tot, hi, rfl, rfl, htot, HC, BR⟩ := hrel
    by_cases hin : i < n
    · have hii : (i : Int) < (n : Int) := by omega
      have hil : i < l.length := by rw [hn.out]; exact hin
      have hD : l.drop i = l.getD i tk0 :: l.drop (i + 1) := dropT hil
      obtain ⟨b, off, rfl, hT⟩ := (hs.old BR).at_ i hil
      rw [hD, siz7] at HC
      have hw := wid7_le (l.getD i tk0)
      have CW := rwidth7 (l.getD i tk0)
      generalize l.getD i tk0 = t at *
      obtain ⟨wA, hwA⟩ : ∃ wA, wA = wr.alloc (.cells #[.int .u8 t.lit, .int .i64 t.len, .int .i64 t.dist] 73) := ⟨_, rfl⟩
      have bA : Below wr.heap.size wr wA := by rw [hwA]; exact below_box _ _
      have HWA : Hid (wA = wr.alloc (.cells #[.int .u8 t.lit, .int .i64 t.len, .int .i64 t.dist] 73)) := hwA
      have BA : Below w.heap.size w wA := BR.trans (bA.mono BR.size)
      have hc0 := hT.c0
      have hc1 := hT.c1
      have hc2 := hT.c2
      have CWA : Hid (∀ W, Calls Try.prog 36 #[t.val] W fun e w' => e = .returned (.int .i64 (wid7 t : Int)) ∧ Below W.heap.size W w') := CW
      obtain ⟨t2, ht2⟩ : ∃ t2, t2 = tot + wid7 t := ⟨_, rfl⟩
      have hwt : IntKind.i64.wrap ((tot : Int) + (wid7 t : Int)) = (t2 : Int) := by rw [IntWalk.i64_in _ (by omega)]; omega
      have HC2 : Hid (siz7 l = t2 + siz7 (l.drop (i + 1))) := by have := HC.out; show _ = _; omega
      have ht3 : t2 ≤ 258 * (i + 1) := by omega
      clear hwA hD CW hT ht2 HC
      obtain ⟨z, ln, ds⟩ := t
      unfold Tok7.val at CWA
      simp only at hc0 hc1 hc2 CWA HWA
      generalize wid7 ⟨z, ln, ds⟩ = W at *
      go_wp2_with fail
      rw [← HWA.out]
      refine (CWA.out wA).mono ?_
      rintro e w2 ⟨rfl, b2⟩
      have B2 := BA.trans (b2.mono BA.size)
      go_wp2_with fail
      go_roundw
      case rel => exact ⟨i + 1, t2, by omega, by go_num, rfl, ht3, HC2, B2⟩
      case measure => simp [intOf]; omega
    · have hge : ¬ (i : Int) < (n : Int) := by omega
      have HE : Hid (siz7 l = tot) := by
        show _ = _
        rw [HC.out, List.drop_of_length_le (by rw [hn.out]; omega)]
        rfl
      clear HC
      go_wp2_with fail
      go_ret
      exact ⟨by rw [HE.out]; rfl, BR⟩
end Go.Proofs.Ytaipfcfmhdigfaa

namespace Go.Proofs.Ytaipfcfmhdigfaa
open Go.RowKit
set_option linter.unusedVariables false

theorem ok7_at (win : Int) : ∀ (l : List Tok7) (tot i : Nat), ok7 win l tot → i < l.length → may7 (l.getD i tk0) ∧ ¬ far7 win (tot + siz7 (l.take i)) (l.getD i tk0)
  | [], _, _, _, h => by simp at h
  | t :: r, tot, 0, ⟨h1, h2, h3⟩, _ => ⟨h1, by simpa [siz7] using h2⟩
  | t :: r, tot, i + 1, ⟨h1, h2, h3⟩, h => by
    have := ok7_at win r (tot + wid7 t) i h3 (by simpa using h)
    rw [List.take_succ_cons, siz7, ← Nat.add_assoc]
    simpa [List.getD] using this
theorem ok7_sub (win : Int) (l : List Tok7) (n : Nat) (h : ok7 win l 0) : (exp7 [] (l.take n)).length = siz7 (l.take n) := by
  rw [exp7_len win _ _ 0 (ok7_take win l 0 n h)]
  simp
theorem exp7_succ {l : List Tok7} {i : Nat} (h : i < l.length) : exp7 [] (l.take (i + 1)) = tok7 (exp7 [] (l.take i)) (l.getD i tk0) := by
  rw [takeT h, exp7_app]
  rfl
theorem info_u8l : (Try.prog.info? 5).map (fun i => (i.zero, i.size, i.bytes)) = some (some (.int .u8 0), 1, 1) := by kernel_rfl
theorem below_own7 {w w' : World} {base n : Nat} {e : TypeId} {sz : Nat} {v : Value} {xs : List Value} (hown : w.ownsRow base e sz v n xs) (hg : w.grownBy w' v.ownBlock) (hb : base ≤ w.heap.size) : Below base w w' := (Below.refl _ _).grown hg hb (fun k hk => (hown.lt k hk).1)
theorem getD_bd7 {b : List Int} (hb : ∀ z ∈ b, 0 ≤ z ∧ z ≤ 255) (i : Nat) : 0 ≤ b.getD i 0 ∧ b.getD i 0 ≤ 255 := getD_bd (by decide) hb i
set_option maxRecDepth 100000 in
set_option maxHeartbeats 4000000 in
theorem rexp7 (win : Int) (l : List Tok7) (a : Option Addr) (n cap : Nat) (hn : Hid (l.length = n)) (w : World) (hs : SegT w a l) (hl : n ≤ 1073741824) :
    Calls Try.prog 14 #[.int .i64 win, .slice a n cap] w fun e w' =>
      ((check7 win l).2 ≠ 0 ∧ e = .returned (.tuple #[.slice none 0 0, .int .i64 (check7 win l).2]) ∧ Below w.heap.size w w') ∨
      ((check7 win l).2 = 0 ∧ ∃ oa oc, e = .returned (.tuple #[.slice oa (exp7 [] l).length oc, .int .i64 0]) ∧ w'.ownsRow w.heap.size 5 1 (.slice oa (exp7 [] l).length oc) (exp7 [] l).length ((exp7 [] l).map (Value.int .u8)) ∧ Below w.heap.size w w') := by
  obtain ⟨i0, hi, hz0, hz1, hz2⟩ := info_parts info_u8l
  have CC := rcheck7 win l a n cap hn w hs hl
  by_cases hk : (check7 win l).2 = 0
  · have hok : ok7 win l 0 := by
      unfold check7 at hk
      split at hk
      · simp at hk
      · exact ok7_chk win l 0 0 hk
    have HOK : Hid (ok7 win l 0) := hok
    have HFT : Hid (∀ t ∈ l, 0 ≤ t.lit ∧ t.lit ≤ 255) := fun t ht => (hs.fit t ht).1
    have HS : Hid (SegT w a l) := hs
    rw [hk] at CC
    have HK : Hid ((check7 win l).2 = 0) := hk
    clear hk hok hs
    generalize (check7 win l).1 = at0 at *
    go_enter Try.func14, Try.ntmps14
    go_wp2_with fail
    refine CC.mono ?_
    rintro e w1 ⟨rfl, b1⟩
    go_wp2_with fail
    go_loopw [8, 23] (fun tb ti wr => ∃ (i m oc : Nat) (oa : Option Addr) (X : List Int), i ≤ n ∧ ti = .int .i64 (i : Int) ∧ tb = .slice oa m oc ∧ Hid (X = exp7 [] (l.take i)) ∧ Hid (X.length = m) ∧ wr.ownsRow w.heap.size 5 1 (.slice oa m oc) m (X.map (Value.int .u8)) ∧ Below w.heap.size w wr) (fun _ ti _ => n - (intOf ti).toNat)
    case atStart => exact ⟨0, 0, 0, none, [], by omega, rfl, rfl, (show _ = _ by simp [exp7]), (show _ = _ by rfl), World.ownsRow_nil _ _ _ _, b1⟩
    case round =>
      obtain ⟨i, m, oc, oa, X, hin0, rfl, rfl, HX, HXL, OO, BR⟩ := hrel
      by_cases hin : i < n
      · have hii : (i : Int) < (n : Int) := by omega
        have hil : i < l.length := by rw [hn.out]; exact hin
        obtain ⟨b, off, rfl, hT⟩ := ((show SegT w a l from HS.out).old BR).at_ i hil
        have hat := ok7_at win l 0 i HOK.out hil
        have hsz := ok7_sub win l i HOK.out
        have hx2 := exp7_succ hil
        have hfit := HFT.out _ (getD_memT hil)
        rw [Nat.zero_add, ← hsz] at hat
        have hbX : ∀ z ∈ X, 0 ≤ z ∧ z ≤ 255 := by
          rw [HX.out]
          exact exp7_bd _ _ (by simp) (fun t ht => HFT.out t (List.mem_of_mem_take ht))
        rw [← HX.out] at hat hx2
        have hXm : m ≤ 258 * i := by
          have h5 := siz7_le (l.take i)
          have h6 : (l.take i).length ≤ i := by rw [List.length_take]; omega
          rw [← hsz, ← HX.out, HXL.out] at h5
          omega
        generalize l.getD i tk0 = t at *
        obtain ⟨wA, hwA⟩ : ∃ wA, wA = wr.alloc (.cells #[.int .u8 t.lit, .int .i64 t.len, .int .i64 t.dist] 73) := ⟨_, rfl⟩
        have bA : Below wr.heap.size wr wA := by rw [hwA]; exact below_box _ _
        have tA : TkAt wA wr.heap.size 0 t := boxT hwA
        have HWA : Hid (wA = wr.alloc (.cells #[.int .u8 t.lit, .int .i64 t.len, .int .i64 t.dist] 73)) := hwA
        have HSZ : Hid (wr.heap.size + 1 = wA.heap.size) := by show _ = _; rw [hwA]; simp
        have BA : Below w.heap.size w wA := BR.trans (bA.mono BR.size)
        have OA : wA.ownsRow w.heap.size 5 1 (.slice oa m oc) m (X.map (Value.int .u8)) := own_below OO bA
        have hvo : ∀ k, (Value.slice oa m oc).ownBlock = some k → k < wr.heap.size := fun k e => (OO.lt k e).2
        obtain ⟨ob, hob⟩ : ∃ ob, ob = wr.heap.size := ⟨_, rfl⟩
        have HOB : Hid (ob = wr.heap.size) := hob
        rw [← hob] at tA
        have hol := tA.lt
        have hc0 := hT.c0
        have hc1 := hT.c1
        have hc2 := hT.c2
        have a0 := tA.c0
        have a1 := tA.c1
        have a2 := tA.c2
        have hsA := BA.size
        have hobw : w.heap.size ≤ ob := by rw [hob]; exact BR.size
        have HX2 : Hid (exp7 [] (l.take (i + 1)) = tok7 X t) := hx2
        have hnof : (Value.slice oa m oc).ownBlock ≠ some ob := fun e => by have := hvo ob e; omega
        clear hwA hT tA OO BR hsz hx2 hvo hob
        obtain ⟨z, ln, ds⟩ := t
        simp only at hc0 hc1 hc2 a0 a1 a2 HWA hfit
        by_cases h0 : ln = 0
        · subst h0
          have HT2 : Hid (tok7 X ⟨z, 0, ds⟩ = X ++ [z]) := by show _ = _; unfold tok7; simp
          clear hat
          go_wp2_with (first | (at_builtin; rw [HSZ.out, ← HWA.out, ← HOB.out]; refine wpList_app1 rfl (.tmp 30) (.tmp 33) 32 rfl w.heap.size 5 i0 (.int .u8 0) 1 Try.underlying32 hi hz0 hz1 hz2 rfl wA (.int .u8 z) rfl OA rfl rfl (by omega) (by omega) hsA ?_; intro g2 c2 w2 own2 hg2 hf2))
          have d1 : w2.cell? ⟨ob, 1, none⟩ = some (.int .i64 0) := (hg2.cell_far ⟨ob, 1, none⟩ hol (fun e => hnof e.symm)).trans a1
          have B2 : Below w.heap.size w w2 := BA.trans (below_own7 OA hg2 hsA)
          have HL2 : Hid ((X ++ [z]).length = m + 1) := by show _ = _; rw [List.length_append, HXL.out]; rfl
          have O2 : w2.ownsRow w.heap.size 5 1 (.slice (some ⟨g2, 0, none⟩) (m + 1) c2) (m + 1) ((X ++ [z]).map (Value.int .u8)) := by rw [List.map_append]; exact own2
          clear own2 hg2 hf2
          go_loopw [8, 11] (fun tb tj wr => tb = .slice (some ⟨g2, 0, none⟩) (m + 1) c2 ∧ tj = .int .i64 0 ∧ wr = w2) (fun _ _ _ => 0)
          case atStart => exact ⟨rfl, rfl, rfl⟩
          case round =>
            obtain ⟨rfl, rfl, hwq⟩ := hrel
            subst hwq
            go_wp2_with fail
            go_roundw
            case rel => exact ⟨i + 1, m + 1, c2, some ⟨g2, 0, none⟩, X ++ [z], by omega, by go_num, rfl, (show _ = _ by rw [HX2.out, HT2.out]), HL2, O2, B2⟩
            case measure => simp [intOf]; omega
        · have hm := hat.1
          have hf := hat.2
          unfold may7 at hm
          unfold far7 at hf
          simp only at hm hf
          rw [if_neg h0] at hm
          obtain ⟨N, hN⟩ : ∃ N : Nat, ln = (N : Int) := Int.eq_ofNat_of_zero_le (by omega)
          obtain ⟨D, hD⟩ : ∃ D : Nat, ds = (D : Int) := Int.eq_ofNat_of_zero_le (by omega)
          subst hN hD
          have hD1 : 1 ≤ D := by omega
          have hDX : D ≤ m := by rw [← HXL.out]; omega
          have hN258 : N ≤ 258 := by omega
          have HT2 : Hid (tok7 X ⟨z, N, D⟩ = cp7 X D N) := by show _ = _; unfold tok7; simp only; rw [if_neg h0]; simp
          have HCL : Hid (∀ j, (cp7 X D j).length = m + j) := fun j => by rw [cp7_len, HXL.out]
          have HCB : Hid (∀ j, ∀ y ∈ cp7 X D j, 0 ≤ y ∧ y ≤ 255) := fun j => by
            by_cases hj0 : j = 0
            · subst hj0; exact hbX
            · have := tok7_bd (t := ⟨0, (j : Int), (D : Int)⟩) hbX (by simp)
              unfold tok7 at this
              simp only at this
              rw [if_neg (by omega), Int.toNat_natCast, Int.toNat_natCast] at this
              exact this
          have hN0 : ¬ (N : Int) = 0 := h0
          have hNn : ¬ N = 0 := by omega
          clear hat hm hf
          go_wp2_with fail
          rw [← HWA.out, ← HOB.out]
          go_loopw [8, 11] (fun tb tj wr => ∃ (j mm qc : Nat) (qa : Option Addr), j ≤ N ∧ tj = .int .i64 (j : Int) ∧ tb = .slice qa mm qc ∧ Hid (mm = m + j) ∧ wr.ownsRow w.heap.size 5 1 (.slice qa mm qc) mm ((cp7 X D j).map (Value.int .u8)) ∧ Below w.heap.size w wr ∧ TkAt wr ob 0 ⟨z, N, D⟩ ∧ Hid ((Value.slice qa mm qc).ownBlock ≠ some ob)) (fun _ tj _ => N - (intOf tj).toNat)
          case atStart => exact ⟨0, m, oc, oa, by omega, rfl, rfl, (show _ = _ by omega), OA, BA, ⟨a0, a1, a2⟩, hnof⟩
          case round =>
            obtain ⟨j, mm, qc, qa, hjN, rfl, rfl, HM, Oq, Bq, Tq, HNO⟩ := hrel
            have hmm : mm = m + j := HM.out
            obtain ⟨e0, e1, e2⟩ := Tq
            have hoq := World.block_lt_of_cell? wr _ e0
            simp only at e0 e1 e2
            have hsq := Bq.size
            by_cases hjl : j < N
            · have hji : (j : Int) < (N : Int) := by omega
              obtain ⟨sg, _, hv, _⟩ := own_shape Oq (by omega)
              simp only [Value.slice.injEq] at hv
              obtain ⟨rfl, _, rfl⟩ := hv
              obtain ⟨x, hx⟩ : ∃ x, x = mm - D := ⟨_, rfl⟩
              have hcx : wr.cell? ⟨sg, x, none⟩ = some (.int .u8 ((cp7 X D j).getD x 0)) := by
                have := Oq.cells (g := sg) rfl x (.int .u8 ((cp7 X D j).getD x 0)) (by have := HCL.out j; simp [List.getD, show x < (cp7 X D j).length by omega])
                by_cases hx00 : x = 0
                · subst hx00; simpa [Addr.add] using this
                · simpa [Addr.add, hx00] using this
              have hzb := getD_bd7 (HCB.out j) x
              have HCS : Hid (cp7 X D (j + 1) = cp7 X D j ++ [(cp7 X D j).getD x 0]) := by
                show _ = _
                rw [cp7, HCL.out j, ← hmm, ← hx]
              have hwx : IntKind.i64.wrap ((mm : Int) - (D : Int)) = (x : Int) := by rw [IntWalk.i64_in _ (by omega)]; omega
              have hxm : (x : Int) < (mm : Int) := by omega
              have hx0 : (0 : Int) ≤ (x : Int) := by omega
              have hmmb : mm ≤ 70368744177664 := by omega
              have hjb : mm + D ≤ 70368744177664 := by omega
              clear hx hmm
              generalize (cp7 X D j).getD x 0 = y at *
              go_wp2_with (first | (at_builtin; refine wpList_app1 rfl (.tmp 41) (.tmp 50) 32 rfl w.heap.size 5 i0 (.int .u8 0) 1 Try.underlying32 hi hz0 hz1 hz2 rfl wr (.int .u8 y) rfl Oq rfl rfl (by omega) (by omega) hsq ?_; intro g2 c2 w2 own2 hg2 hf2))
              have T2 : TkAt w2 ob 0 ⟨z, N, D⟩ := ⟨(hg2.cell_far ⟨ob, 0, none⟩ hoq (fun e => HNO.out e.symm)).trans e0, (hg2.cell_far ⟨ob, 1, none⟩ hoq (fun e => HNO.out e.symm)).trans e1, (hg2.cell_far ⟨ob, 2, none⟩ hoq (fun e => HNO.out e.symm)).trans e2⟩
              have B2 : Below w.heap.size w w2 := Bq.trans (below_own7 Oq hg2 hsq)
              have HN2 : Hid ((Value.slice (some ⟨g2, 0, none⟩) (mm + 1) c2).ownBlock ≠ some ob) := fun e => by
                rcases hf2 ob e with h | h
                · exact HNO.out h
                · omega
              have O2 : w2.ownsRow w.heap.size 5 1 (.slice (some ⟨g2, 0, none⟩) (mm + 1) c2) (mm + 1) ((cp7 X D (j + 1)).map (Value.int .u8)) := by rw [HCS.out, List.map_append]; exact own2
              clear own2 hg2 hf2
              go_wp2_with fail
              go_roundw
              case rel => exact ⟨j + 1, by omega, by omega, mm + 1, c2, some ⟨g2, 0, none⟩, ⟨rfl, rfl, rfl⟩, (show _ = _ by have := HM.out; omega), O2, B2, T2, HN2⟩
              case measure => simp [intOf]; omega
            · have hjge : ¬ (j : Int) < (N : Int) := by omega
              obtain rfl : j = N := by omega
              clear hmm
              go_wp2_with fail
              go_roundw
              case rel => exact ⟨i + 1, mm, qc, qa, cp7 X D j, by omega, by go_num, rfl, (show _ = _ by rw [HX2.out, HT2.out]), (show _ = _ by rw [HCL.out j, HM.out]), Oq, Bq⟩
              case measure => simp [intOf]; omega
      · have hge : ¬ (i : Int) < (n : Int) := by omega
        have HE : Hid (X = exp7 [] l) := by
          show _ = _
          rw [HX.out, List.take_of_length_le (by rw [hn.out]; omega)]
        clear HX
        go_wp2_with fail
        go_ret2
        refine .inr ⟨HK.out, oa, oc, ?_, ?_, BR⟩
        · rw [← HE.out, HXL.out]; rfl
        · rw [← HE.out, HXL.out]; exact OO
  · have HK : Hid ((check7 win l).2 ≠ 0) := hk
    generalize (check7 win l).1 = at0 at *
    generalize (check7 win l).2 = er at *
    go_enter Try.func14, Try.ntmps14
    go_wp2_with fail
    refine CC.mono ?_
    rintro e w1 ⟨rfl, b1⟩
    go_wp2_with fail
    go_ret2
    exact .inl ⟨HK.out, rfl, b1⟩
end Go.Proofs.Ytaipfcfmhdigfaa

namespace Go.Proofs.Ytaipfcfmhdigfaa
open Go.RowKit
set_option linter.unusedVariables false

/-! The document's Options, alike, Best. -/
def opt7 (win chain : Int) : Int := if win < 1 ∨ 32768 < win ∨ chain < 0 ∨ 4096 < chain then 72 else 0
def look7 (win chain : Int) (lazy : Bool) : Value := .agg #[.int .i64 win, .int .i64 chain, .bool lazy]
set_option maxRecDepth 100000 in
set_option maxHeartbeats 1000000 in
theorem ropt7 (win chain : Int) (lazy : Bool) (w : World) : Calls Try.prog 25 #[look7 win chain lazy] w fun e w' => e = .returned (.int .i64 (opt7 win chain)) ∧ Below w.heap.size w w' := by
  unfold look7
  by_cases h1 : win < 1
  · have HE : opt7 win chain = 72 := by unfold opt7; rw [if_pos (.inl h1)]
    rw [HE]
    go_enter Try.func25, Try.ntmps25
    go_wp2_with fail
    go_ret
    exact ⟨rfl, below_box _ _⟩
  · by_cases h2 : 32768 < win
    · have HE : opt7 win chain = 72 := by unfold opt7; rw [if_pos (.inr (.inl h2))]
      rw [HE]
      go_enter Try.func25, Try.ntmps25
      go_wp2_with fail
      go_ret
      exact ⟨rfl, below_box _ _⟩
    · by_cases h3 : chain < 0
      · have HE : opt7 win chain = 72 := by unfold opt7; rw [if_pos (.inr (.inr (.inl h3)))]
        rw [HE]
        go_enter Try.func25, Try.ntmps25
        go_wp2_with fail
        go_ret
        exact ⟨rfl, below_box _ _⟩
      · by_cases h4 : 4096 < chain
        · have HE : opt7 win chain = 72 := by unfold opt7; rw [if_pos (.inr (.inr (.inr h4)))]
          rw [HE]
          go_enter Try.func25, Try.ntmps25
          go_wp2_with fail
          go_ret
          exact ⟨rfl, below_box _ _⟩
        · have HE : opt7 win chain = 0 := by unfold opt7; rw [if_neg (by omega)]
          rw [HE]
          go_enter Try.func25, Try.ntmps25
          go_wp2_with fail
          go_ret
          exact ⟨rfl, below_box _ _⟩
theorem opt7_ok {win chain : Int} (h : opt7 win chain = 0) : 1 ≤ win ∧ win ≤ 32768 ∧ 0 ≤ chain ∧ chain ≤ 4096 := by
  unfold opt7 at h
  split at h
  · omega
  · omega
theorem opt7_no {win chain : Int} (h : opt7 win chain ≠ 0) : opt7 win chain = 72 := by
  unfold opt7 at h ⊢
  split
  · rfl
  · rename_i h2; rw [if_neg h2] at h; exact absurd rfl h
set_option maxRecDepth 100000 in
set_option maxHeartbeats 2000000 in
theorem ralike7 (D : List Int) (a : Option Addr) (n cap q p : Nat) (hn : Hid (D.length = n)) (w : World) (hs : Seg w a D) (hqp : q ≤ p) (hp : p ≤ n) (hl : n ≤ 1152921504606846976) :
    Calls Try.prog 39 #[.slice a n cap, .int .i64 (q : Int), .int .i64 (p : Int)] w fun e w' => e = .returned (.int .i64 (al7 D q p : Int)) ∧ Below w.heap.size w w' := by
  have HS : Hid (Seg w a D) := hs
  clear hs
  go_enter Try.func39, Try.ntmps39
  go_wp2_with fail
  go_loopw [7] (fun ti wr => ∃ i : Nat, i ≤ 258 ∧ p + i ≤ n ∧ ti = .int .i64 (i : Int) ∧ Hid (al7 D q p = alg7 D q p (258 - i) i) ∧ Below w.heap.size w wr) (fun ti _ => 258 - (intOf ti).toNat)
  case atStart => exact ⟨0, by omega, by omega, rfl, (show _ = _ by rfl), Below.refl _ _⟩
  case round =>
    obtain ⟨i, hi, hpi, rfl, HA, BR⟩ := hrel
    have HI : Hid (alg7 D q p 0 i = i) := rfl
    by_cases h258 : i < 258
    · have h258i : (i : Int) < 258 := by omega
      have hw1 : IntKind.i64.wrap ((p : Int) + (i : Int)) = ((p + i : Nat) : Int) := by rw [IntWalk.i64_in _ (by omega)]; omega
      have hw2 : IntKind.i64.wrap ((q : Int) + (i : Int)) = ((q + i : Nat) : Int) := by rw [IntWalk.i64_in _ (by omega)]; omega
      have HU : Hid (alg7 D q p (258 - i) i = if p + i < D.length ∧ D.getD (q + i) 0 = D.getD (p + i) 0 then alg7 D q p (258 - (i + 1)) (i + 1) else i) := by
        show _ = _
        rw [show 258 - i = 258 - (i + 1) + 1 by omega, alg7]
      obtain ⟨x, hx⟩ : ∃ x, x = p + i := ⟨_, rfl⟩
      obtain ⟨y, hy⟩ : ∃ y, y = q + i := ⟨_, rfl⟩
      rw [← hx] at hw1
      rw [← hy] at hw2
      have HX : Hid (x = p + i) := hx
      have HY : Hid (y = q + i) := hy
      rw [← hx, ← hy] at HU
      by_cases hlt : x < n
      · have hlti : (x : Int) < (n : Int) := by omega
        have hylt : (y : Int) < (n : Int) := by omega
        have sg : Seg wr a D := (show Seg w a D from HS.out).below BR (show Seg w a D from HS.out).lt
        obtain ⟨g, off, rfl, cx⟩ := sg.at_ x (by rw [hn.out]; omega)
        obtain ⟨g', off', hgg, cy⟩ := sg.at_ y (by rw [hn.out]; omega)
        cases hgg
        have bx := sg.bd x
        have byy := sg.bd y
        rw [hn.out] at HU
        have hxi : (p : Int) + (i : Int) = (x : Int) := by omega
        have hyi : (q : Int) + (i : Int) = (y : Int) := by omega
        clear hx hy sg
        generalize D.getD x 0 = ux at *
        generalize D.getD y 0 = uy at *
        by_cases he : uy = ux
        · have HU2 : Hid (al7 D q p = alg7 D q p (258 - (i + 1)) (i + 1)) := by
            show _ = _
            rw [HA.out, HU.out, if_pos ⟨hlt, he⟩]
          have hx1 : p + (i + 1) ≤ n := by have := HX.out; omega
          clear HU HA
          go_wp2_with fail
          go_quiet (fail)
          go_wp2
          go_roundw
          case rel => exact ⟨i + 1, by omega, by omega, by go_num, HU2, ⟨BR.os, BR.tape, BR.output, BR.size, BR.block⟩⟩
          case measure => simp [intOf]; omega
        · have HU2 : Hid (al7 D q p = i) := by
            show _ = _
            rw [HA.out, HU.out, if_neg (fun e => he e.2)]
          clear HU HA
          go_wp2_with fail
          go_quiet (fail)
          go_wp2
          go_ret
          exact ⟨by rw [HU2.out]; rfl, ⟨BR.os, BR.tape, BR.output, BR.size, BR.block⟩⟩
      · have hlti : ¬ (x : Int) < (n : Int) := by omega
        have HU2 : Hid (al7 D q p = i) := by
          show _ = _
          rw [HA.out, HU.out, if_neg (fun e => by rw [hn.out] at e; omega)]
        have hxi : (p : Int) + (i : Int) = (x : Int) := by omega
        clear HU HA hx hy
        go_wp2_with fail
        go_quiet (fail)
        go_wp2
        go_ret
        exact ⟨by rw [HU2.out]; rfl, ⟨BR.os, BR.tape, BR.output, BR.size, BR.block⟩⟩
    · obtain rfl : i = 258 := by omega
      have HU2 : Hid (al7 D q p = 258) := by
        show _ = _
        rw [HA.out]; rfl
      clear HA
      go_wp2_with fail
      go_quiet (fail)
      go_wp2
      go_ret
      exact ⟨by rw [HU2.out]; rfl, ⟨BR.os, BR.tape, BR.output, BR.size, BR.block⟩⟩
end Go.Proofs.Ytaipfcfmhdigfaa
