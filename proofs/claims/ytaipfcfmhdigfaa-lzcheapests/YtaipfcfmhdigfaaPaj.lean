import Derived.Test.YtaipfcfmhdigfaaPai
import Derived.Laws.MakeOwn
namespace Go.Proofs.Ytaipfcfmhdigfaa
open Go.RowKit
set_option linter.unusedVariables false

set_option maxRecDepth 100000 in
set_option maxHeartbeats 1000000 in
theorem popt7 (win chain : Int) (lazy : Bool) (w : World) : Calls Try.prog 24 #[look7 win chain lazy] w fun e w' => e = .returned (.int .i64 (opt7 win chain)) ∧ Below w.heap.size w w' := by
  unfold look7
  by_cases h1 : win < 1
  · have HE : opt7 win chain = 72 := by unfold opt7; rw [if_pos (.inl h1)]
    rw [HE]
    go_enter Try.func24, Try.ntmps24
    go_wp2_with fail
    go_ret
    exact ⟨rfl, below_box _ _⟩
  · by_cases h2 : 32768 < win
    · have HE : opt7 win chain = 72 := by unfold opt7; rw [if_pos (.inr (.inl h2))]
      rw [HE]
      go_enter Try.func24, Try.ntmps24
      go_wp2_with fail
      go_ret
      exact ⟨rfl, below_box _ _⟩
    · by_cases h3 : chain < 0
      · have HE : opt7 win chain = 72 := by unfold opt7; rw [if_pos (.inr (.inr (.inl h3)))]
        rw [HE]
        go_enter Try.func24, Try.ntmps24
        go_wp2_with fail
        go_ret
        exact ⟨rfl, below_box _ _⟩
      · by_cases h4 : 4096 < chain
        · have HE : opt7 win chain = 72 := by unfold opt7; rw [if_pos (.inr (.inr (.inr h4)))]
          rw [HE]
          go_enter Try.func24, Try.ntmps24
          go_wp2_with fail
          go_ret
          exact ⟨rfl, below_box _ _⟩
        · have HE : opt7 win chain = 0 := by unfold opt7; rw [if_neg (by omega)]
          rw [HE]
          go_enter Try.func24, Try.ntmps24
          go_wp2_with fail
          go_ret
          exact ⟨rfl, below_box _ _⟩
set_option maxRecDepth 100000 in
set_option maxHeartbeats 1000000 in
theorem psiz7 (l : List Tok7) (a : Option Addr) (n cap : Nat) (hn : Hid (l.length = n)) (w : World) (hs : SegT w a l) (hcap : n ≤ cap) (hnil : a = none → cap = 0) (hl : n ≤ 1073741824) :
    Calls Try.prog 16 #[.slice a n cap] w fun e w' => e = .returned (.int .i64 (siz7 l : Int)) ∧ Below w.heap.size w w' := by
  go_enter Try.func16, Try.ntmps16
  go_wp2_with fail
  go_loopw [3, 8] (fun tt ti wr => ∃ i tot : Nat, i ≤ n ∧ ti = .int .i64 (i : Int) ∧ tt = .int .i64 (tot : Int) ∧ tot ≤ 258 * i ∧ Hid (siz7 l = tot + siz7 (l.drop i)) ∧ Below w.heap.size w wr) (fun _ ti _ => n - (intOf ti).toNat)
  case atStart => exact ⟨0, 0, by omega, rfl, rfl, by omega, (show _ = _ by simp), Below.refl _ _⟩
  case round =>
    obtain ⟨i, tot, hi, rfl, rfl, htot, HC, BR⟩ := hrel
    by_cases hin : i < n
    · have hii : (i : Int) < (n : Int) := by omega
      have hil : i < l.length := by rw [hn.out]; exact hin
      have hD : l.drop i = l.getD i tk0 :: l.drop (i + 1) := dropT hil
      obtain ⟨b, off, rfl, hT⟩ := (hs.old BR).at_ i hil
      rw [hD, siz7] at HC
      have hw := wid7_le (l.getD i tk0)
      have CW := plen7 (l.getD i tk0)
      generalize l.getD i tk0 = t at *
      obtain ⟨wA, hwA⟩ : ∃ wA, wA = wr.alloc (.cells #[.int .u8 t.lit, .int .i64 t.len, .int .i64 t.dist] 56) := ⟨_, rfl⟩
      have bA : Below wr.heap.size wr wA := by rw [hwA]; exact below_box _ _
      have HWA : Hid (wA = wr.alloc (.cells #[.int .u8 t.lit, .int .i64 t.len, .int .i64 t.dist] 56)) := hwA
      have BA : Below w.heap.size w wA := BR.trans (bA.mono BR.size)
      have hc0 := hT.c0
      have hc1 := hT.c1
      have hc2 := hT.c2
      have CWA : Hid (∀ W, Calls Try.prog 34 #[t.val] W fun e w' => e = .returned (.int .i64 (wid7 t : Int)) ∧ Below W.heap.size W w') := CW
      obtain ⟨t2, ht2⟩ : ∃ t2, t2 = tot + wid7 t := ⟨_, rfl⟩
      have hwt : IntKind.i64.wrap ((tot : Int) + (wid7 t : Int)) = (t2 : Int) := by rw [IntWalk.i64_in _ (by omega)]; omega
      have HC2 : Hid (siz7 l = t2 + siz7 (l.drop (i + 1))) := by have := HC.out; show _ = _; omega
      have ht3 : t2 ≤ 258 * (i + 1) := by omega
      clear hwA hD CW hT ht2 HC
      obtain ⟨z, ln, ds⟩ := t
      unfold Tok7.val at CWA
      simp only at hc0 hc1 hc2 CWA HWA
      generalize wid7 ⟨z, ln, ds⟩ = W at *
      go_wp2_with fail
      rw [← HWA.out]
      refine (CWA.out wA).mono ?_
      rintro e w2 ⟨rfl, b2⟩
      have B2 := BA.trans (b2.mono BA.size)
      go_wp2_with fail
      go_roundw
      case rel => exact ⟨i + 1, t2, by omega, by go_num, rfl, ht3, HC2, B2⟩
      case measure => simp [intOf]; omega
    · have hge : ¬ (i : Int) < (n : Int) := by omega
      have HE : Hid (siz7 l = tot) := by
        show _ = _
        rw [HC.out, List.drop_of_length_le (by rw [hn.out]; omega)]
        rfl
      clear HC
      go_wp2_with fail
      go_ret
      exact ⟨by rw [HE.out]; rfl, BR⟩
set_option maxRecDepth 100000 in
set_option maxHeartbeats 4000000 in
theorem pexp7_raw (win : Int) (l : List Tok7) (a : Option Addr) (n cap : Nat) (hn : Hid (l.length = n)) (w : World) (hs : SegT w a l) (hcap : n ≤ cap) (hnil : a = none → cap = 0) (hl : n ≤ 1073741824) :
    Calls Try.prog 13 #[.int .i64 win, .slice a n cap] w fun e w' =>
      ((check7 win l).2 ≠ 0 ∧ e = .returned (.tuple #[.slice none 0 0, .int .i64 (check7 win l).2]) ∧ Below w.heap.size w w') ∨
      ((check7 win l).2 = 0 ∧ ∃ oa oc, e = .returned (.tuple #[.slice oa (exp7 [] l).length oc, .int .i64 0]) ∧ w'.ownsRow w.heap.size 5 1 (.slice oa (exp7 [] l).length oc) (exp7 [] l).length ((exp7 [] l).map (Value.int .u8)) ∧ Below w.heap.size w w') := by
  obtain ⟨i0, hi, hz0, hz1, hz2⟩ := info_parts info_u8l
  have CC := pchk7 win l a n cap hn w hs hcap hnil hl
  by_cases hk : (check7 win l).2 = 0
  · have hok : ok7 win l 0 := by
      unfold check7 at hk
      split at hk
      · simp at hk
      · exact ok7_chk win l 0 0 hk
    have HOK : Hid (ok7 win l 0) := hok
    have HFT : Hid (∀ t ∈ l, 0 ≤ t.lit ∧ t.lit ≤ 255) := fun t ht => (hs.fit t ht).1
    have HS : Hid (SegT w a l) := hs
    have CZ : Hid (∀ W, SegT W a l → Calls Try.prog 16 #[.slice a n cap] W fun e w' => e = .returned (.int .i64 (siz7 l : Int)) ∧ Below W.heap.size W w') := fun W hW => psiz7 l a n cap hn W hW hcap hnil hl
    have hszl : siz7 l ≤ 258 * 1073741824 := by have := siz7_le l; rw [hn.out] at this; omega
    rw [hk] at CC
    have HK : Hid ((check7 win l).2 = 0) := hk
    clear hk hok hs
    generalize (check7 win l).1 = at0 at *
    go_enter Try.func13, Try.ntmps13
    go_wp2_with fail
    refine CC.mono ?_
    rintro e w0 ⟨rfl, b0⟩
    go_wp2_with fail
    refine (CZ.out w0 ((show SegT w a l from HS.out).old b0)).mono ?_
    rintro e w1 ⟨rfl, b1⟩
    have b1 : Below w.heap.size w w1 := b0.trans (b1.mono b0.size)
    generalize siz7 l = Z at *
    obtain ⟨w3, hmk, own3, gr3⟩ := run_make_own (P := Try.prog) w1 w.heap.size 32 5 i0 (.int .u8 0) 1 Try.underlying32 hi hz0 hz1 .i64 .i64 Z (by rw [hz2]; omega) (by unfold maxLen; omega) b1.size
    have b3 : Below w.heap.size w w3 := b1.grown gr3 b1.size (fun k hk => by cases hk)
    go_wp2_with fail
    go_loopw [8, 25] (fun tb ti wr => ∃ (i m oc : Nat) (oa : Option Addr) (X : List Int), i ≤ n ∧ ti = .int .i64 (i : Int) ∧ tb = .slice oa m oc ∧ Hid (X = exp7 [] (l.take i)) ∧ Hid (X.length = m) ∧ wr.ownsRow w.heap.size 5 1 (.slice oa m oc) m (X.map (Value.int .u8)) ∧ Below w.heap.size w wr) (fun _ ti _ => n - (intOf ti).toNat)
    case atStart => exact ⟨0, 0, Z, _, [], by omega, rfl, rfl, (show _ = _ by simp [exp7]), (show _ = _ by rfl), own3, b3⟩
    case round =>
      obtain ⟨i, m, oc, oa, X, hin0, rfl, rfl, HX, HXL, OO, BR⟩ := hrel
      by_cases hin : i < n
      · have hii : (i : Int) < (n : Int) := by omega
        have hil : i < l.length := by rw [hn.out]; exact hin
        obtain ⟨b, off, rfl, hT⟩ := ((show SegT w a l from HS.out).old BR).at_ i hil
        have hat := ok7_at win l 0 i HOK.out hil
        have hsz := ok7_sub win l i HOK.out
        have hx2 := exp7_succ hil
        have hfit := HFT.out _ (getD_memT hil)
        rw [Nat.zero_add, ← hsz] at hat
        have hbX : ∀ z ∈ X, 0 ≤ z ∧ z ≤ 255 := by
          rw [HX.out]
          exact exp7_bd _ _ (by simp) (fun t ht => HFT.out t (List.mem_of_mem_take ht))
        rw [← HX.out] at hat hx2
        have hXm : m ≤ 258 * i := by
          have h5 := siz7_le (l.take i)
          have h6 : (l.take i).length ≤ i := by rw [List.length_take]; omega
          rw [← hsz, ← HX.out, HXL.out] at h5
          omega
        generalize l.getD i tk0 = t at *
        obtain ⟨wA, hwA⟩ : ∃ wA, wA = wr.alloc (.cells #[.int .u8 t.lit, .int .i64 t.len, .int .i64 t.dist] 56) := ⟨_, rfl⟩
        have bA : Below wr.heap.size wr wA := by rw [hwA]; exact below_box _ _
        have tA : TkAt wA wr.heap.size 0 t := boxK hwA
        have HWA : Hid (wA = wr.alloc (.cells #[.int .u8 t.lit, .int .i64 t.len, .int .i64 t.dist] 56)) := hwA
        have HSZ : Hid (wr.heap.size + 1 = wA.heap.size) := by show _ = _; rw [hwA]; simp
        have BA : Below w.heap.size w wA := BR.trans (bA.mono BR.size)
        have OA : wA.ownsRow w.heap.size 5 1 (.slice oa m oc) m (X.map (Value.int .u8)) := own_below OO bA
        have hvo : ∀ k, (Value.slice oa m oc).ownBlock = some k → k < wr.heap.size := fun k e => (OO.lt k e).2
        obtain ⟨ob, hob⟩ : ∃ ob, ob = wr.heap.size := ⟨_, rfl⟩
        have HOB : Hid (ob = wr.heap.size) := hob
        rw [← hob] at tA
        have hol := tA.lt
        have hc0 := hT.c0
        have hc1 := hT.c1
        have hc2 := hT.c2
        have a0 := tA.c0
        have a1 := tA.c1
        have a2 := tA.c2
        have hsA := BA.size
        have hobw : w.heap.size ≤ ob := by rw [hob]; exact BR.size
        have HX2 : Hid (exp7 [] (l.take (i + 1)) = tok7 X t) := hx2
        have hnof : (Value.slice oa m oc).ownBlock ≠ some ob := fun e => by have := hvo ob e; omega
        clear hwA hT tA OO BR hsz hx2 hvo hob
        obtain ⟨z, ln, ds⟩ := t
        simp only at hc0 hc1 hc2 a0 a1 a2 HWA hfit
        by_cases h0 : ln = 0
        · subst h0
          have HT2 : Hid (tok7 X ⟨z, 0, ds⟩ = X ++ [z]) := by show _ = _; unfold tok7; simp
          clear hat
          go_wp2_with (first | (at_builtin; rw [HSZ.out, ← HWA.out, ← HOB.out]; refine wpList_app1 rfl (.tmp 32) (.tmp 35) 32 rfl w.heap.size 5 i0 (.int .u8 0) 1 Try.underlying32 hi hz0 hz1 hz2 rfl wA (.int .u8 z) rfl OA rfl rfl (by omega) (by omega) hsA ?_; intro g2 c2 w2 own2 hg2 hf2; have d1 : w2.cell? ⟨ob, 1, none⟩ = some (.int .i64 0) := (hg2.cell_far ⟨ob, 1, none⟩ hol (fun e => hnof e.symm)).trans a1))
          have B2 : Below w.heap.size w w2 := BA.trans (below_own7 OA hg2 hsA)
          have HL2 : Hid ((X ++ [z]).length = m + 1) := by show _ = _; rw [List.length_append, HXL.out]; rfl
          have O2 : w2.ownsRow w.heap.size 5 1 (.slice (some ⟨g2, 0, none⟩) (m + 1) c2) (m + 1) ((X ++ [z]).map (Value.int .u8)) := by rw [List.map_append]; exact own2
          clear own2 hg2 hf2
          go_loopw [8, 39] (fun tb tj wr => tb = .slice (some ⟨g2, 0, none⟩) (m + 1) c2 ∧ tj = .int .i64 0 ∧ wr = w2) (fun _ _ _ => 0)
          case atStart => exact ⟨rfl, rfl, rfl⟩
          case round =>
            obtain ⟨rfl, rfl, hwq⟩ := hrel
            subst hwq
            go_wp2_with fail
            go_roundw
            case rel => exact ⟨i + 1, m + 1, c2, some ⟨g2, 0, none⟩, X ++ [z], by omega, by go_num, rfl, (show _ = _ by rw [HX2.out, HT2.out]), HL2, O2, B2⟩
            case measure => simp [intOf]; omega
        · have hm := hat.1
          have hf := hat.2
          unfold may7 at hm
          unfold far7 at hf
          simp only at hm hf
          rw [if_neg h0] at hm
          obtain ⟨N, hN⟩ : ∃ N : Nat, ln = (N : Int) := Int.eq_ofNat_of_zero_le (by omega)
          obtain ⟨D, hD⟩ : ∃ D : Nat, ds = (D : Int) := Int.eq_ofNat_of_zero_le (by omega)
          subst hN hD
          have hD1 : 1 ≤ D := by omega
          have hDX : D ≤ m := by rw [← HXL.out]; omega
          have hN258 : N ≤ 258 := by omega
          have HT2 : Hid (tok7 X ⟨z, N, D⟩ = cp7 X D N) := by show _ = _; unfold tok7; simp only; rw [if_neg h0]; simp
          have HCL : Hid (∀ j, (cp7 X D j).length = m + j) := fun j => by rw [cp7_len, HXL.out]
          have HCB : Hid (∀ j, ∀ y ∈ cp7 X D j, 0 ≤ y ∧ y ≤ 255) := fun j => by
            by_cases hj0 : j = 0
            · subst hj0; exact hbX
            · have := tok7_bd (t := ⟨0, (j : Int), (D : Int)⟩) hbX (by simp)
              unfold tok7 at this
              simp only at this
              rw [if_neg (by omega), Int.toNat_natCast, Int.toNat_natCast] at this
              exact this
          have hN0 : ¬ (N : Int) = 0 := h0
          have hNn : ¬ N = 0 := by omega
          clear hat hm hf
          go_wp2_with fail
          rw [← HWA.out, ← HOB.out]
          go_loopw [8, 39] (fun tb tj wr => ∃ (j mm qc : Nat) (qa : Option Addr), j ≤ N ∧ tj = .int .i64 (j : Int) ∧ tb = .slice qa mm qc ∧ Hid (mm = m + j) ∧ wr.ownsRow w.heap.size 5 1 (.slice qa mm qc) mm ((cp7 X D j).map (Value.int .u8)) ∧ Below w.heap.size w wr ∧ TkAt wr ob 0 ⟨z, N, D⟩ ∧ Hid ((Value.slice qa mm qc).ownBlock ≠ some ob)) (fun _ tj _ => N - (intOf tj).toNat)
          case atStart => exact ⟨0, m, oc, oa, by omega, rfl, rfl, (show _ = _ by omega), OA, BA, ⟨a0, a1, a2⟩, hnof⟩
          case round =>
            obtain ⟨j, mm, qc, qa, hjN, rfl, rfl, HM, Oq, Bq, Tq, HNO⟩ := hrel
            have hmm : mm = m + j := HM.out
            obtain ⟨e0, e1, e2⟩ := Tq
            have hoq := World.block_lt_of_cell? wr _ e0
            simp only at e0 e1 e2
            have hsq := Bq.size
            by_cases hjl : j < N
            · have hji : (j : Int) < (N : Int) := by omega
              obtain ⟨sg, _, hv, _⟩ := own_shape Oq (by omega)
              simp only [Value.slice.injEq] at hv
              obtain ⟨rfl, _, rfl⟩ := hv
              obtain ⟨x, hx⟩ : ∃ x, x = mm - D := ⟨_, rfl⟩
              have hcx : wr.cell? ⟨sg, x, none⟩ = some (.int .u8 ((cp7 X D j).getD x 0)) := by
                have := Oq.cells (g := sg) rfl x (.int .u8 ((cp7 X D j).getD x 0)) (by have := HCL.out j; simp [List.getD, show x < (cp7 X D j).length by omega])
                by_cases hx00 : x = 0
                · subst hx00; simpa [Addr.add] using this
                · simpa [Addr.add, hx00] using this
              have hzb := getD_bd7 (HCB.out j) x
              have HCS : Hid (cp7 X D (j + 1) = cp7 X D j ++ [(cp7 X D j).getD x 0]) := by
                show _ = _
                rw [cp7, HCL.out j, ← hmm, ← hx]
              have hwx : IntKind.i64.wrap ((mm : Int) - (D : Int)) = (x : Int) := by rw [IntWalk.i64_in _ (by omega)]; omega
              have hxm : (x : Int) < (mm : Int) := by omega
              have hx0 : (0 : Int) ≤ (x : Int) := by omega
              have hmmb : mm ≤ 70368744177664 := by omega
              have hjb : mm + D ≤ 70368744177664 := by omega
              clear hx hmm
              generalize (cp7 X D j).getD x 0 = y at *
              go_wp2_with (first | (at_builtin; refine wpList_app1 rfl (.tmp 41) (.tmp 50) 32 rfl w.heap.size 5 i0 (.int .u8 0) 1 Try.underlying32 hi hz0 hz1 hz2 rfl wr (.int .u8 y) rfl Oq rfl rfl (by omega) (by omega) hsq ?_; intro g2 c2 w2 own2 hg2 hf2))
              have T2 : TkAt w2 ob 0 ⟨z, N, D⟩ := ⟨(hg2.cell_far ⟨ob, 0, none⟩ hoq (fun e => HNO.out e.symm)).trans e0, (hg2.cell_far ⟨ob, 1, none⟩ hoq (fun e => HNO.out e.symm)).trans e1, (hg2.cell_far ⟨ob, 2, none⟩ hoq (fun e => HNO.out e.symm)).trans e2⟩
              have B2 : Below w.heap.size w w2 := Bq.trans (below_own7 Oq hg2 hsq)
              have HN2 : Hid ((Value.slice (some ⟨g2, 0, none⟩) (mm + 1) c2).ownBlock ≠ some ob) := fun e => by
                rcases hf2 ob e with h | h
                · exact HNO.out h
                · omega
              have O2 : w2.ownsRow w.heap.size 5 1 (.slice (some ⟨g2, 0, none⟩) (mm + 1) c2) (mm + 1) ((cp7 X D (j + 1)).map (Value.int .u8)) := by rw [HCS.out, List.map_append]; exact own2
              clear own2 hg2 hf2
              go_wp2_with fail
              go_roundw
              case rel => exact ⟨j + 1, by omega, by omega, mm + 1, c2, some ⟨g2, 0, none⟩, ⟨rfl, rfl, rfl⟩, (show _ = _ by have := HM.out; omega), O2, B2, T2, HN2⟩
              case measure => simp [intOf]; omega
            · have hjge : ¬ (j : Int) < (N : Int) := by omega
              obtain rfl : j = N := by omega
              clear hmm
              go_wp2_with fail
              go_roundw
              case rel => exact ⟨i + 1, mm, qc, qa, cp7 X D j, by omega, by go_num, rfl, (show _ = _ by rw [HX2.out, HT2.out]), (show _ = _ by rw [HCL.out j, HM.out]), Oq, Bq⟩
              case measure => simp [intOf]; omega
      · have hge : ¬ (i : Int) < (n : Int) := by omega
        have HE : Hid (X = exp7 [] l) := by
          show _ = _
          rw [HX.out, List.take_of_length_le (by rw [hn.out]; omega)]
        clear HX
        go_wp2_with fail
        go_ret2
        refine .inr ⟨HK.out, oa, oc, ?_, ?_, BR⟩
        · rw [← HE.out, HXL.out]; rfl
        · rw [← HE.out, HXL.out]; exact OO
  · have HK : Hid ((check7 win l).2 ≠ 0) := hk
    generalize (check7 win l).1 = at0 at *
    generalize (check7 win l).2 = er at *
    go_enter Try.func13, Try.ntmps13
    go_wp2_with fail
    refine CC.mono ?_
    rintro e w1 ⟨rfl, b1⟩
    go_wp2_with fail
    go_ret2
    exact .inl ⟨HK.out, rfl, b1⟩
theorem pexp7 (win : Int) (l : List Tok7) (a : Option Addr) (n cap : Nat) (hn : Hid (l.length = n)) (w : World) (hs : SegT w a l) (hcap : n ≤ cap) (hnil : a = none → cap = 0) (hl : n ≤ 1073741824) : Calls Try.prog 13 #[.int .i64 win, .slice a n cap] w (ExpQ w (xpd7 win l) (check7 win l).2) := by
  refine (pexp7_raw win l a n cap hn w hs hcap hnil hl).mono ?_
  rintro e w' (⟨h1, rfl, b⟩ | ⟨h1, oa, oc, rfl, o, b⟩)
  · unfold ExpQ xpd7
    rw [if_neg h1]
    exact ⟨none, 0, rfl, World.ownsRow_nil _ _ _ _, b⟩
  · unfold ExpQ xpd7
    rw [if_pos h1, h1]
    exact ⟨oa, oc, rfl, o, b⟩
end Go.Proofs.Ytaipfcfmhdigfaa
