import Derived.Test.YtcifalelnfeggaaGreatDoorPf
import Derived.Test.YtcifalelnfeggaaGreatDoorPa
import Derived.Deep.AppendLies
import Derived.Laws.MakeOwn
namespace Go.Proofs.YtcifalelnfeggaaGreatDoor
open Go.RowKit
set_option linter.unusedVariables false

theorem wid7_le (t : Tok7) : wid7 t ≤ 258 := by
  have := siz7_le [t]
  simpa [siz7] using this
theorem boxT {w wA : World} {t : Tok7} (hA : wA = w.alloc (.cells #[.int .u8 t.lit, .int .i64 t.len, .int .i64 t.dist] 98)) : TkAt wA w.heap.size 0 t := by
  have h : wA.heap[w.heap.size]? = some (.cells #[.int .u8 t.lit, .int .i64 t.len, .int .i64 t.dist] 98 (0, 0)) := by rw [hA]; exact heap_alloc_new w _
  refine ⟨?_, ?_, ?_⟩ <;> simp [World.cell?, h]
set_option maxRecDepth 100000 in
set_option maxHeartbeats 2000000 in
theorem rcheck7 (win : Int) (l : List Tok7) (a : Option Addr) (n cap : Nat) (hn : Hid (l.length = n)) (w : World) (hs : SegT w a l) (hl : n ≤ 1073741824) :
    Calls Tryz.prog 56 #[.int .i64 win, .slice a n cap] w fun e w' => e = .returned (.tuple #[.int .i64 ((check7 win l).1 : Int), .int .i64 (check7 win l).2]) ∧ Below w.heap.size w w' := by
  unfold check7
  by_cases h1 : win < 1
  · rw [if_pos (.inl h1)]
    go_enter Tryz.func56, Tryz.ntmps56
    go_wp2_with fail
    go_ret2
    exact ⟨rfl, Below.refl _ _⟩
  · by_cases h2 : 32768 < win
    · rw [if_pos (.inr h2)]
      go_enter Tryz.func56, Tryz.ntmps56
      go_wp2_with fail
      go_ret2
      exact ⟨rfl, Below.refl _ _⟩
    · rw [if_neg (by omega)]
      go_enter Tryz.func56, Tryz.ntmps56
      go_wp2_with fail
      go_loopw [6, 17] (fun tt ti wr => ∃ i tot : Nat, i ≤ n ∧ ti = .int .i64 (i : Int) ∧ tt = .int .i64 (tot : Int) ∧ tot ≤ 258 * i ∧ Hid (chk7 win l 0 0 = chk7 win (l.drop i) tot i) ∧ Below w.heap.size w wr) (fun _ ti _ => n - (intOf ti).toNat)
      case atStart => exact ⟨0, 0, by omega, rfl, rfl, by omega, (show _ = _ by simp), Below.refl _ _⟩
      case round =>
        obtain ⟨i, tot, hi, rfl, rfl, htot, HC, BR⟩ := hrel
        by_cases hin : i < n
        · have hii : (i : Int) < (n : Int) := by omega
          have hil : i < l.length := by rw [hn.out]; exact hin
          have hD : l.drop i = l.getD i tk0 :: l.drop (i + 1) := dropT hil
          obtain ⟨b, off, rfl, hT⟩ := (hs.old BR).at_ i hil
          rw [hD, chk7] at HC
          have hw := wid7_le (l.getD i tk0)
          have CM := rmay7 (l.getD i tk0)
          have CW := rwidth7 (l.getD i tk0)
          generalize l.getD i tk0 = t at *
          obtain ⟨wA, hwA⟩ : ∃ wA, wA = wr.alloc (.cells #[.int .u8 t.lit, .int .i64 t.len, .int .i64 t.dist] 98) := ⟨_, rfl⟩
          have bA : Below wr.heap.size wr wA := by rw [hwA]; exact below_box _ _
          have tA : TkAt wA wr.heap.size 0 t := boxT hwA
          have HWA : Hid (wA = wr.alloc (.cells #[.int .u8 t.lit, .int .i64 t.len, .int .i64 t.dist] 98)) := hwA
          have BA : Below w.heap.size w wA := BR.trans (bA.mono BR.size)
          obtain ⟨ob, hob⟩ : ∃ ob, ob = wr.heap.size := ⟨_, rfl⟩
          have HOB : Hid (ob = wr.heap.size) := hob
          rw [← hob] at tA
          have hol := tA.lt
          have hc0 := hT.c0
          have hc1 := hT.c1
          have hc2 := hT.c2
          have CMA : Hid (∀ W, Calls Tryz.prog 69 #[t.val] W fun e w' => e = .returned (.bool (decide (may7 t))) ∧ Below W.heap.size W w') := CM
          have CWA : Hid (∀ W, Calls Tryz.prog 57 #[t.val] W fun e w' => e = .returned (.int .i64 (wid7 t : Int)) ∧ Below W.heap.size W w') := CW
          have HTA : Hid (∀ W, Below wA.heap.size wA W → TkAt W ob 0 t) := fun W hW => tA.of_block (hW.block ob hol)
          have HFAR : Hid (far7 win tot t ↔ 0 < t.len ∧ (win < t.dist ∨ (tot : Int) < t.dist)) := Iff.rfl
          have a0 := tA.c0
          have a1 := tA.c1
          have a2 := tA.c2
          clear hwA hob hD CM CW hT tA
          obtain ⟨z, ln, ds⟩ := t
          unfold Tok7.val at CMA CWA
          simp only at hc0 hc1 hc2 a0 a1 a2 CMA CWA HWA HFAR
          by_cases hm : may7 ⟨z, ln, ds⟩
          · rw [if_neg (by simpa using hm)] at HC
            rw [decide_eq_true hm] at CMA
            by_cases hf : far7 win tot ⟨z, ln, ds⟩
            · rw [if_pos hf] at HC
              obtain ⟨f1, f2⟩ := HFAR.out.1 hf
              by_cases f3 : win < ds
              · clear f2
                go_wp2_with fail
                rw [← HWA.out, ← HOB.out]
                refine (CMA.out wA).mono ?_
                rintro e w1 ⟨rfl, b1⟩
                obtain ⟨e0, e1, e2⟩ := HTA.out w1 b1
                simp only at e0 e1 e2
                go_wp2_with fail
                go_ret2
                exact ⟨by rw [HC.out]; rfl, BA.trans (b1.mono BA.size)⟩
              · have f4 : (tot : Int) < ds := by rcases f2 with e | e; exact absurd e f3; exact e
                clear f2
                go_wp2_with fail
                rw [← HWA.out, ← HOB.out]
                refine (CMA.out wA).mono ?_
                rintro e w1 ⟨rfl, b1⟩
                obtain ⟨e0, e1, e2⟩ := HTA.out w1 b1
                simp only at e0 e1 e2
                go_wp2_with fail
                go_ret2
                exact ⟨by rw [HC.out]; rfl, BA.trans (b1.mono BA.size)⟩
            · rw [if_neg hf] at HC
              have hnf : ¬ (0 < ln ∧ (win < ds ∨ (tot : Int) < ds)) := fun e => hf (HFAR.out.2 e)
              obtain ⟨t2, ht2⟩ : ∃ t2, t2 = tot + wid7 ⟨z, ln, ds⟩ := ⟨_, rfl⟩
              have hwt : IntKind.i64.wrap ((tot : Int) + (wid7 ⟨z, ln, ds⟩ : Int)) = (t2 : Int) := by rw [IntWalk.i64_in _ (by omega)]; omega
              rw [← ht2] at HC
              have ht3 : t2 ≤ 258 * (i + 1) := by omega
              clear hf HFAR ht2
              generalize wid7 ⟨z, ln, ds⟩ = W at *
              by_cases f1 : 0 < ln
              · have f2 : ¬ win < ds := fun e => hnf ⟨f1, .inl e⟩
                have f3 : ¬ (tot : Int) < ds := fun e => hnf ⟨f1, .inr e⟩
                clear hnf
                go_wp2_with fail
                rw [← HWA.out, ← HOB.out]
                refine (CMA.out wA).mono ?_
                rintro e w1 ⟨rfl, b1⟩
                obtain ⟨e0, e1, e2⟩ := HTA.out w1 b1
                simp only at e0 e1 e2
                go_wp2_with fail
                refine (CWA.out w1).mono ?_
                rintro e w2 ⟨rfl, b2⟩
                have B2 := (BA.trans (b1.mono BA.size)).trans (b2.mono (Nat.le_trans BA.size b1.size))
                go_wp2_with fail
                go_roundw
                case rel => exact ⟨i + 1, t2, by omega, by go_num, rfl, ht3, HC, B2⟩
                case measure => simp [intOf]; omega
              · clear hnf
                go_wp2_with fail
                rw [← HWA.out, ← HOB.out]
                refine (CMA.out wA).mono ?_
                rintro e w1 ⟨rfl, b1⟩
                obtain ⟨e0, e1, e2⟩ := HTA.out w1 b1
                simp only at e0 e1 e2
                go_wp2_with fail
                refine (CWA.out w1).mono ?_
                rintro e w2 ⟨rfl, b2⟩
                have B2 := (BA.trans (b1.mono BA.size)).trans (b2.mono (Nat.le_trans BA.size b1.size))
                go_wp2_with fail
                go_roundw
                case rel => exact ⟨i + 1, t2, by omega, by go_num, rfl, ht3, HC, B2⟩
                case measure => simp [intOf]; omega
          · rw [if_pos hm] at HC
            rw [decide_eq_false hm] at CMA
            go_wp2_with fail
            rw [← HWA.out, ← HOB.out]
            refine (CMA.out wA).mono ?_
            rintro e w1 ⟨rfl, b1⟩
            go_wp2_with fail
            go_ret2
            exact ⟨by rw [HC.out]; rfl, BA.trans (b1.mono BA.size)⟩
        · have hge : ¬ (i : Int) < (n : Int) := by omega
          have HE : Hid (chk7 win l 0 0 = (0, 0)) := by
            show _ = _
            rw [HC.out, List.drop_of_length_le (by rw [hn.out]; omega)]
            rfl
          clear HC
          go_wp2_with fail
          go_ret2
          exact ⟨by rw [HE.out]; rfl, BR⟩
set_option maxRecDepth 100000 in
set_option maxHeartbeats 1000000 in
theorem rsize7 (l : List Tok7) (a : Option Addr) (n cap : Nat) (hn : Hid (l.length = n)) (w : World) (hs : SegT w a l) (hl : n ≤ 1073741824) :
    Calls Tryz.prog 32 #[.slice a n cap] w fun e w' => e = .returned (.int .i64 (siz7 l : Int)) ∧ Below w.heap.size w w' := by
  go_enter Tryz.func32, Tryz.ntmps32
  go_wp2_with fail
  go_loopw [3, 8] (fun tt ti wr => ∃ i tot : Nat, i ≤ n ∧ ti = .int .i64 (i : Int) ∧ tt = .int .i64 (tot : Int) ∧ tot ≤ 258 * i ∧ Hid (siz7 l = tot + siz7 (l.drop i)) ∧ Below w.heap.size w wr) (fun _ ti _ => n - (intOf ti).toNat)
  case atStart => exact ⟨0, 0, by omega, rfl, rfl, by omega, (show _ = _ by simp), Below.refl _ _⟩
  case round =>
    obtain ⟨i, tot, hi, rfl, rfl, htot, HC, BR⟩ := hrel
    by_cases hin : i < n
    · have hii : (i : Int) < (n : Int) := by omega
      have hil : i < l.length := by rw [hn.out]; exact hin
      have hD : l.drop i = l.getD i tk0 :: l.drop (i + 1) := dropT hil
      obtain ⟨b, off, rfl, hT⟩ := (hs.old BR).at_ i hil
      rw [hD, siz7] at HC
      have hw := wid7_le (l.getD i tk0)
      have CW := rwidth7 (l.getD i tk0)
      generalize l.getD i tk0 = t at *
      obtain ⟨wA, hwA⟩ : ∃ wA, wA = wr.alloc (.cells #[.int .u8 t.lit, .int .i64 t.len, .int .i64 t.dist] 98) := ⟨_, rfl⟩
      have bA : Below wr.heap.size wr wA := by rw [hwA]; exact below_box _ _
      have HWA : Hid (wA = wr.alloc (.cells #[.int .u8 t.lit, .int .i64 t.len, .int .i64 t.dist] 98)) := hwA
      have BA : Below w.heap.size w wA := BR.trans (bA.mono BR.size)
      have hc0 := hT.c0
      have hc1 := hT.c1
      have hc2 := hT.c2
      have CWA : Hid (∀ W, Calls Tryz.prog 57 #[t.val] W fun e w' => e = .returned (.int .i64 (wid7 t : Int)) ∧ Below W.heap.size W w') := CW
      obtain ⟨t2, ht2⟩ : ∃ t2, t2 = tot + wid7 t := ⟨_, rfl⟩
      have hwt : IntKind.i64.wrap ((tot : Int) + (wid7 t : Int)) = (t2 : Int) := by rw [IntWalk.i64_in _ (by omega)]; omega
      have HC2 : Hid (siz7 l = t2 + siz7 (l.drop (i + 1))) := by have := HC.out; show _ = _; omega
      have ht3 : t2 ≤ 258 * (i + 1) := by omega
      clear hwA hD CW hT ht2 HC
      obtain ⟨z, ln, ds⟩ := t
      unfold Tok7.val at CWA
      simp only at hc0 hc1 hc2 CWA HWA
      generalize wid7 ⟨z, ln, ds⟩ = W at *
      go_wp2_with fail
      rw [← HWA.out]
      refine (CWA.out wA).mono ?_
      rintro e w2 ⟨rfl, b2⟩
      have B2 := BA.trans (b2.mono BA.size)
      go_wp2_with fail
      go_roundw
      case rel => exact ⟨i + 1, t2, by omega, by go_num, rfl, ht3, HC2, B2⟩
      case measure => simp [intOf]; omega
    · have hge : ¬ (i : Int) < (n : Int) := by omega
      have HE : Hid (siz7 l = tot) := by
        show _ = _
        rw [HC.out, List.drop_of_length_le (by rw [hn.out]; omega)]
        rfl
      clear HC
      go_wp2_with fail
      go_ret
      exact ⟨by rw [HE.out]; rfl, BR⟩
end Go.Proofs.YtcifalelnfeggaaGreatDoor

namespace Go.Proofs.YtcifalelnfeggaaGreatDoor
open Go.RowKit
set_option linter.unusedVariables false

theorem ok7_at (win : Int) : ∀ (l : List Tok7) (tot i : Nat), ok7 win l tot → i < l.length → may7 (l.getD i tk0) ∧ ¬ far7 win (tot + siz7 (l.take i)) (l.getD i tk0)
  | [], _, _, _, h => by simp at h
  | t :: r, tot, 0, ⟨h1, h2, h3⟩, _ => ⟨h1, by simpa [siz7] using h2⟩
  | t :: r, tot, i + 1, ⟨h1, h2, h3⟩, h => by
    have := ok7_at win r (tot + wid7 t) i h3 (by simpa using h)
    rw [List.take_succ_cons, siz7, ← Nat.add_assoc]
    simpa [List.getD] using this
theorem ok7_sub (win : Int) (l : List Tok7) (n : Nat) (h : ok7 win l 0) : (exp7 [] (l.take n)).length = siz7 (l.take n) := by
  rw [exp7_len win _ _ 0 (ok7_take win l 0 n h)]
  simp
theorem exp7_succ {l : List Tok7} {i : Nat} (h : i < l.length) : exp7 [] (l.take (i + 1)) = tok7 (exp7 [] (l.take i)) (l.getD i tk0) := by
  rw [takeT7 h, exp7_app]
  rfl
theorem info_u8l : (Tryz.prog.info? 5).map (fun i => (i.zero, i.size, i.bytes)) = some (some (.int .u8 0), 1, 1) := by kernel_rfl
theorem below_own7 {w w' : World} {base n : Nat} {e : TypeId} {sz : Nat} {v : Value} {xs : List Value} (hown : w.ownsRow base e sz v n xs) (hg : w.grownBy w' v.ownBlock) (hb : base ≤ w.heap.size) : Below base w w' := (Below.refl _ _).grown hg hb (fun k hk => (hown.lt k hk).1)
theorem getD_bd7 {b : List Int} (hb : ∀ z ∈ b, 0 ≤ z ∧ z ≤ 255) (i : Nat) : 0 ≤ b.getD i 0 ∧ b.getD i 0 ≤ 255 := getD_bd (by decide) hb i
set_option maxRecDepth 100000 in
set_option maxHeartbeats 4000000 in
theorem rexp7 (win : Int) (l : List Tok7) (a : Option Addr) (n cap : Nat) (hn : Hid (l.length = n)) (w : World) (hs : SegT w a l) (hl : n ≤ 1073741824) :
    Calls Tryz.prog 31 #[.int .i64 win, .slice a n cap] w fun e w' =>
      ((check7 win l).2 ≠ 0 ∧ e = .returned (.tuple #[.slice none 0 0, .int .i64 (check7 win l).2]) ∧ Below w.heap.size w w') ∨
      ((check7 win l).2 = 0 ∧ ∃ oa oc, e = .returned (.tuple #[.slice oa (exp7 [] l).length oc, .int .i64 0]) ∧ w'.ownsRow w.heap.size 5 1 (.slice oa (exp7 [] l).length oc) (exp7 [] l).length ((exp7 [] l).map (Value.int .u8)) ∧ Below w.heap.size w w') := by
  obtain ⟨i0, hi, hz0, hz1, hz2⟩ := info_parts info_u8l
  have CC := rcheck7 win l a n cap hn w hs hl
  by_cases hk : (check7 win l).2 = 0
  · have hok : ok7 win l 0 := by
      unfold check7 at hk
      split at hk
      · simp at hk
      · exact ok7_chk win l 0 0 hk
    have HOK : Hid (ok7 win l 0) := hok
    have HFT : Hid (∀ t ∈ l, 0 ≤ t.lit ∧ t.lit ≤ 255) := fun t ht => (hs.fit t ht).1
    have HS : Hid (SegT w a l) := hs
    rw [hk] at CC
    have HK : Hid ((check7 win l).2 = 0) := hk
    clear hk hok hs
    generalize (check7 win l).1 = at0 at *
    go_enter Tryz.func31, Tryz.ntmps31
    go_wp2_with fail
    refine CC.mono ?_
    rintro e w1 ⟨rfl, b1⟩
    go_wp2_with fail
    go_loopw [8, 23] (fun tb ti wr => ∃ (i m oc : Nat) (oa : Option Addr) (X : List Int), i ≤ n ∧ ti = .int .i64 (i : Int) ∧ tb = .slice oa m oc ∧ Hid (X = exp7 [] (l.take i)) ∧ Hid (X.length = m) ∧ wr.ownsRow w.heap.size 5 1 (.slice oa m oc) m (X.map (Value.int .u8)) ∧ Below w.heap.size w wr) (fun _ ti _ => n - (intOf ti).toNat)
    case atStart => exact ⟨0, 0, 0, none, [], by omega, rfl, rfl, (show _ = _ by simp [exp7]), (show _ = _ by rfl), World.ownsRow_nil _ _ _ _, b1⟩
    case round =>
      obtain ⟨i, m, oc, oa, X, hin0, rfl, rfl, HX, HXL, OO, BR⟩ := hrel
      by_cases hin : i < n
      · have hii : (i : Int) < (n : Int) := by omega
        have hil : i < l.length := by rw [hn.out]; exact hin
        obtain ⟨b, off, rfl, hT⟩ := ((show SegT w a l from HS.out).old BR).at_ i hil
        have hat := ok7_at win l 0 i HOK.out hil
        have hsz := ok7_sub win l i HOK.out
        have hx2 := exp7_succ hil
        have hfit := HFT.out _ (getD_memT hil)
        rw [Nat.zero_add, ← hsz] at hat
        have hbX : ∀ z ∈ X, 0 ≤ z ∧ z ≤ 255 := by
          rw [HX.out]
          exact exp7_bd _ _ (by simp) (fun t ht => HFT.out t (List.mem_of_mem_take ht))
        rw [← HX.out] at hat hx2
        have hXm : m ≤ 258 * i := by
          have h5 := siz7_le (l.take i)
          have h6 : (l.take i).length ≤ i := by rw [List.length_take]; omega
          rw [← hsz, ← HX.out, HXL.out] at h5
          omega
        generalize l.getD i tk0 = t at *
        obtain ⟨wA, hwA⟩ : ∃ wA, wA = wr.alloc (.cells #[.int .u8 t.lit, .int .i64 t.len, .int .i64 t.dist] 98) := ⟨_, rfl⟩
        have bA : Below wr.heap.size wr wA := by rw [hwA]; exact below_box _ _
        have tA : TkAt wA wr.heap.size 0 t := boxT hwA
        have HWA : Hid (wA = wr.alloc (.cells #[.int .u8 t.lit, .int .i64 t.len, .int .i64 t.dist] 98)) := hwA
        have HSZ : Hid (wr.heap.size + 1 = wA.heap.size) := by show _ = _; rw [hwA]; simp
        have BA : Below w.heap.size w wA := BR.trans (bA.mono BR.size)
        have OA : wA.ownsRow w.heap.size 5 1 (.slice oa m oc) m (X.map (Value.int .u8)) := own_below OO bA
        have hvo : ∀ k, (Value.slice oa m oc).ownBlock = some k → k < wr.heap.size := fun k e => (OO.lt k e).2
        obtain ⟨ob, hob⟩ : ∃ ob, ob = wr.heap.size := ⟨_, rfl⟩
        have HOB : Hid (ob = wr.heap.size) := hob
        rw [← hob] at tA
        have hol := tA.lt
        have hc0 := hT.c0
        have hc1 := hT.c1
        have hc2 := hT.c2
        have a0 := tA.c0
        have a1 := tA.c1
        have a2 := tA.c2
        have hsA := BA.size
        have hobw : w.heap.size ≤ ob := by rw [hob]; exact BR.size
        have HX2 : Hid (exp7 [] (l.take (i + 1)) = tok7 X t) := hx2
        have hnof : (Value.slice oa m oc).ownBlock ≠ some ob := fun e => by have := hvo ob e; omega
        clear hwA hT tA OO BR hsz hx2 hvo hob
        obtain ⟨z, ln, ds⟩ := t
        simp only at hc0 hc1 hc2 a0 a1 a2 HWA hfit
        by_cases h0 : ln = 0
        · subst h0
          have HT2 : Hid (tok7 X ⟨z, 0, ds⟩ = X ++ [z]) := by show _ = _; unfold tok7; simp
          clear hat
          go_wp2_with (first | (at_builtin; rw [HSZ.out, ← HWA.out, ← HOB.out]; refine wpList_app1 rfl (.tmp 30) (.tmp 33) 59 rfl w.heap.size 5 i0 (.int .u8 0) 1 Tryz.underlying59 hi hz0 hz1 hz2 rfl wA (.int .u8 z) rfl OA rfl rfl (by omega) (by omega) hsA ?_; intro g2 c2 w2 own2 hg2 hf2))
          have d1 : w2.cell? ⟨ob, 1, none⟩ = some (.int .i64 0) := (hg2.cell_far ⟨ob, 1, none⟩ hol (fun e => hnof e.symm)).trans a1
          have B2 : Below w.heap.size w w2 := BA.trans (below_own7 OA hg2 hsA)
          have HL2 : Hid ((X ++ [z]).length = m + 1) := by show _ = _; rw [List.length_append, HXL.out]; rfl
          have O2 : w2.ownsRow w.heap.size 5 1 (.slice (some ⟨g2, 0, none⟩) (m + 1) c2) (m + 1) ((X ++ [z]).map (Value.int .u8)) := by rw [List.map_append]; exact own2
          clear own2 hg2 hf2
          go_loopw [8, 11] (fun tb tj wr => tb = .slice (some ⟨g2, 0, none⟩) (m + 1) c2 ∧ tj = .int .i64 0 ∧ wr = w2) (fun _ _ _ => 0)
          case atStart => exact ⟨rfl, rfl, rfl⟩
          case round =>
            obtain ⟨rfl, rfl, hwq⟩ := hrel
            subst hwq
            go_wp2_with fail
            go_roundw
            case rel => exact ⟨i + 1, m + 1, c2, some ⟨g2, 0, none⟩, X ++ [z], by omega, by go_num, rfl, (show _ = _ by rw [HX2.out, HT2.out]), HL2, O2, B2⟩
            case measure => simp [intOf]; omega
        · have hm := hat.1
          have hf := hat.2
          unfold may7 at hm
          unfold far7 at hf
          simp only at hm hf
          rw [if_neg h0] at hm
          obtain ⟨N, hN⟩ : ∃ N : Nat, ln = (N : Int) := Int.eq_ofNat_of_zero_le (by omega)
          obtain ⟨D, hD⟩ : ∃ D : Nat, ds = (D : Int) := Int.eq_ofNat_of_zero_le (by omega)
          subst hN hD
          have hD1 : 1 ≤ D := by omega
          have hDX : D ≤ m := by rw [← HXL.out]; omega
          have hN258 : N ≤ 258 := by omega
          have HT2 : Hid (tok7 X ⟨z, N, D⟩ = cp7 X D N) := by show _ = _; unfold tok7; simp only; rw [if_neg h0]; simp
          have HCL : Hid (∀ j, (cp7 X D j).length = m + j) := fun j => by rw [cp7_len, HXL.out]
          have HCB : Hid (∀ j, ∀ y ∈ cp7 X D j, 0 ≤ y ∧ y ≤ 255) := fun j => by
            by_cases hj0 : j = 0
            · subst hj0; exact hbX
            · have := tok7_bd (t := ⟨0, (j : Int), (D : Int)⟩) hbX (by simp)
              unfold tok7 at this
              simp only at this
              rw [if_neg (by omega), Int.toNat_natCast, Int.toNat_natCast] at this
              exact this
          have hN0 : ¬ (N : Int) = 0 := h0
          have hNn : ¬ N = 0 := by omega
          clear hat hm hf
          go_wp2_with fail
          rw [← HWA.out, ← HOB.out]
          go_loopw [8, 11] (fun tb tj wr => ∃ (j mm qc : Nat) (qa : Option Addr), j ≤ N ∧ tj = .int .i64 (j : Int) ∧ tb = .slice qa mm qc ∧ Hid (mm = m + j) ∧ wr.ownsRow w.heap.size 5 1 (.slice qa mm qc) mm ((cp7 X D j).map (Value.int .u8)) ∧ Below w.heap.size w wr ∧ TkAt wr ob 0 ⟨z, N, D⟩ ∧ Hid ((Value.slice qa mm qc).ownBlock ≠ some ob)) (fun _ tj _ => N - (intOf tj).toNat)
          case atStart => exact ⟨0, m, oc, oa, by omega, rfl, rfl, (show _ = _ by omega), OA, BA, ⟨a0, a1, a2⟩, hnof⟩
          case round =>
            obtain ⟨j, mm, qc, qa, hjN, rfl, rfl, HM, Oq, Bq, Tq, HNO⟩ := hrel
            have hmm : mm = m + j := HM.out
            obtain ⟨e0, e1, e2⟩ := Tq
            have hoq := World.block_lt_of_cell? wr _ e0
            simp only at e0 e1 e2
            have hsq := Bq.size
            by_cases hjl : j < N
            · have hji : (j : Int) < (N : Int) := by omega
              obtain ⟨sg, _, hv, _⟩ := own_shape Oq (by omega)
              simp only [Value.slice.injEq] at hv
              obtain ⟨rfl, _, rfl⟩ := hv
              obtain ⟨x, hx⟩ : ∃ x, x = mm - D := ⟨_, rfl⟩
              have hcx : wr.cell? ⟨sg, x, none⟩ = some (.int .u8 ((cp7 X D j).getD x 0)) := by
                have := Oq.cells (g := sg) rfl x (.int .u8 ((cp7 X D j).getD x 0)) (by have := HCL.out j; simp [List.getD, show x < (cp7 X D j).length by omega])
                by_cases hx00 : x = 0
                · subst hx00; simpa [Addr.add] using this
                · simpa [Addr.add, hx00] using this
              have hzb := getD_bd7 (HCB.out j) x
              have HCS : Hid (cp7 X D (j + 1) = cp7 X D j ++ [(cp7 X D j).getD x 0]) := by
                show _ = _
                rw [cp7, HCL.out j, ← hmm, ← hx]
              have hwx : IntKind.i64.wrap ((mm : Int) - (D : Int)) = (x : Int) := by rw [IntWalk.i64_in _ (by omega)]; omega
              have hxm : (x : Int) < (mm : Int) := by omega
              have hx0 : (0 : Int) ≤ (x : Int) := by omega
              have hmmb : mm ≤ 70368744177664 := by omega
              have hjb : mm + D ≤ 70368744177664 := by omega
              clear hx hmm
              generalize (cp7 X D j).getD x 0 = y at *
              go_wp2_with (first | (at_builtin; refine wpList_app1 rfl (.tmp 41) (.tmp 50) 59 rfl w.heap.size 5 i0 (.int .u8 0) 1 Tryz.underlying59 hi hz0 hz1 hz2 rfl wr (.int .u8 y) rfl Oq rfl rfl (by omega) (by omega) hsq ?_; intro g2 c2 w2 own2 hg2 hf2))
              have T2 : TkAt w2 ob 0 ⟨z, N, D⟩ := ⟨(hg2.cell_far ⟨ob, 0, none⟩ hoq (fun e => HNO.out e.symm)).trans e0, (hg2.cell_far ⟨ob, 1, none⟩ hoq (fun e => HNO.out e.symm)).trans e1, (hg2.cell_far ⟨ob, 2, none⟩ hoq (fun e => HNO.out e.symm)).trans e2⟩
              have B2 : Below w.heap.size w w2 := Bq.trans (below_own7 Oq hg2 hsq)
              have HN2 : Hid ((Value.slice (some ⟨g2, 0, none⟩) (mm + 1) c2).ownBlock ≠ some ob) := fun e => by
                rcases hf2 ob e with h | h
                · exact HNO.out h
                · omega
              have O2 : w2.ownsRow w.heap.size 5 1 (.slice (some ⟨g2, 0, none⟩) (mm + 1) c2) (mm + 1) ((cp7 X D (j + 1)).map (Value.int .u8)) := by rw [HCS.out, List.map_append]; exact own2
              clear own2 hg2 hf2
              go_wp2_with fail
              go_roundw
              case rel => exact ⟨j + 1, by omega, by omega, mm + 1, c2, some ⟨g2, 0, none⟩, ⟨rfl, rfl, rfl⟩, (show _ = _ by have := HM.out; omega), O2, B2, T2, HN2⟩
              case measure => simp [intOf]; omega
            · have hjge : ¬ (j : Int) < (N : Int) := by omega
              obtain rfl : j = N := by omega
              clear hmm
              go_wp2_with fail
              go_roundw
              case rel => exact ⟨i + 1, mm, qc, qa, cp7 X D j, by omega, by go_num, rfl, (show _ = _ by rw [HX2.out, HT2.out]), (show _ = _ by rw [HCL.out j, HM.out]), Oq, Bq⟩
              case measure => simp [intOf]; omega
      · have hge : ¬ (i : Int) < (n : Int) := by omega
        have HE : Hid (X = exp7 [] l) := by
          show _ = _
          rw [HX.out, List.take_of_length_le (by rw [hn.out]; omega)]
        clear HX
        go_wp2_with fail
        go_ret2
        refine .inr ⟨HK.out, oa, oc, ?_, ?_, BR⟩
        · rw [← HE.out, HXL.out]; rfl
        · rw [← HE.out, HXL.out]; exact OO
  · have HK : Hid ((check7 win l).2 ≠ 0) := hk
    generalize (check7 win l).1 = at0 at *
    generalize (check7 win l).2 = er at *
    go_enter Tryz.func31, Tryz.ntmps31
    go_wp2_with fail
    refine CC.mono ?_
    rintro e w1 ⟨rfl, b1⟩
    go_wp2_with fail
    go_ret2
    exact .inl ⟨HK.out, rfl, b1⟩
end Go.Proofs.YtcifalelnfeggaaGreatDoor

namespace Go.Proofs.YtcifalelnfeggaaGreatDoor
open Go.RowKit
set_option linter.unusedVariables false

/-! The document's Options, alike, Best. -/
def opt7 (win chain : Int) : Int := if win < 1 ∨ 32768 < win ∨ chain < 0 ∨ 4096 < chain then 72 else 0
def look7 (win chain : Int) (lazy : Bool) : Value := .agg #[.int .i64 win, .int .i64 chain, .bool lazy]
theorem opt7_ok {win chain : Int} (h : opt7 win chain = 0) : 1 ≤ win ∧ win ≤ 32768 ∧ 0 ≤ chain ∧ chain ≤ 4096 := by
  unfold opt7 at h
  split at h
  · omega
  · omega
theorem opt7_no {win chain : Int} (h : opt7 win chain ≠ 0) : opt7 win chain = 72 := by
  unfold opt7 at h ⊢
  split
  · rfl
  · rename_i h2; rw [if_neg h2] at h; exact absurd rfl h
end Go.Proofs.YtcifalelnfeggaaGreatDoor

namespace Go.Proofs.YtcifalelnfeggaaGreatDoor
open Go.RowKit
set_option linter.unusedVariables false

structure LkAt (w : World) (g : Nat) (win chain : Int) (lazy : Bool) : Prop where
  c0 : w.cell? ⟨g, 0, none⟩ = some (.int .i64 win)
  c1 : w.cell? ⟨g, 1, none⟩ = some (.int .i64 chain)
  c2 : w.cell? ⟨g, 2, none⟩ = some (.bool lazy)
theorem LkAt.of_block {w w' : World} {g : Nat} {win chain : Int} {lazy : Bool} (h : LkAt w g win chain lazy) (hb : w'.heap[g]? = w.heap[g]?) : LkAt w' g win chain lazy :=
  ⟨(World.cell?_of_block (a := ⟨g, 0, none⟩) hb).trans h.c0, (World.cell?_of_block (a := ⟨g, 1, none⟩) hb).trans h.c1, (World.cell?_of_block (a := ⟨g, 2, none⟩) hb).trans h.c2⟩
theorem LkAt.lt {w : World} {g : Nat} {win chain : Int} {lazy : Bool} (h : LkAt w g win chain lazy) : g < w.heap.size := World.block_lt_of_cell? w _ h.c0
theorem boxL {w wA : World} {win chain : Int} {lazy : Bool} {ty : TypeId} (hA : wA = w.alloc (.cells #[.int .i64 win, .int .i64 chain, .bool lazy] ty)) : LkAt wA w.heap.size win chain lazy := by
  have h : wA.heap[w.heap.size]? = some (.cells #[.int .i64 win, .int .i64 chain, .bool lazy] ty (0, 0)) := by rw [hA]; exact heap_alloc_new w _
  refine ⟨?_, ?_, ?_⟩ <;> simp [World.cell?, h]
/-- How far the search has come. -/
def BsI (D : List Int) (p W C : Nat) (wA wr : World) (tb td ts tq : Value) : Prop := ∃ d best dist seen : Nat, 1 ≤ d ∧ d ≤ p + 1 ∧ seen < d ∧ tb = .int .i64 (best : Int) ∧ td = .int .i64 (dist : Int) ∧ ts = .int .i64 (seen : Int) ∧ tq = .int .i64 ((p : Int) - (d : Int)) ∧
  best ≤ 258 ∧ bst7 D p W C = bsg7 D p W C (p + 1 - d) d best dist seen ∧ Below wA.heap.size wA wr
end Go.Proofs.YtcifalelnfeggaaGreatDoor

namespace Go.Proofs.YtcifalelnfeggaaGreatDoor
open Go.RowKit
set_option linter.unusedVariables false
set_option linter.unusedSimpArgs false

/-! Rows of tokens of the call's own. -/
def flatT (l : List Tok7) : List Value := l.flatMap fun t => [.int .u8 t.lit, .int .i64 t.len, .int .i64 t.dist]
theorem flatT_app (l r : List Tok7) : flatT (l ++ r) = flatT l ++ flatT r := by unfold flatT; rw [List.flatMap_append]
theorem flatT_get : ∀ (l : List Tok7) (k : Nat) (x : Tok7), l[k]? = some x → (flatT l)[k * 3]? = some (.int .u8 x.lit) ∧ (flatT l)[k * 3 + 1]? = some (.int .i64 x.len) ∧ (flatT l)[k * 3 + 2]? = some (.int .i64 x.dist)
  | [], k, x, h => by simp at h
  | t :: r, 0, x, h => by
    simp at h
    subst h
    simp [flatT]
  | t :: r, k + 1, x, h => by
    have := flatT_get r k x (by simpa using h)
    have e : flatT (t :: r) = .int .u8 t.lit :: .int .i64 t.len :: .int .i64 t.dist :: flatT r := rfl
    rw [e, show (k + 1) * 3 = k * 3 + 1 + 1 + 1 by omega]
    simpa [List.getElem?_cons_succ, show k * 3 + 1 + 1 + 1 + 1 = (k * 3 + 1) + 1 + 1 + 1 by omega] using this
theorem own_shapeT {w : World} {base n : Nat} {e : TypeId} {v : Value} {xs : List Value} (h : w.ownsRow base e 3 v n xs) (hn : 0 < n) : ∃ g cap, v = .slice (some ⟨g, 0, none⟩) n cap ∧ n ≤ cap ∧ base ≤ g ∧ g < w.heap.size := by
  rcases h.2 with ⟨_, h0⟩ | ⟨g, cap, cur, rfl, hg, hh, hc, _⟩
  · omega
  · exact ⟨g, cap, rfl, hc, hg, (Array.getElem?_eq_some_iff.1 hh).1⟩
theorem own_factsT {w : World} {base n cap : Nat} {e : TypeId} {b : Option Addr} {xs : List Value} (h : w.ownsRow base e 3 (.slice b n cap) n xs) : n ≤ cap ∧ (b = none → cap = 0) ∧ ∀ x, b = some x → base ≤ x.block ∧ x.block < w.heap.size := by
  rcases h.2 with ⟨h1, h2⟩ | ⟨g, cp, cur, h1, h2, h3, h4, _⟩
  · simp only [Value.slice.injEq] at h1
    obtain ⟨rfl, _, rfl⟩ := h1
    exact ⟨by omega, (fun _ => rfl), (fun x h => by cases h)⟩
  · simp only [Value.slice.injEq] at h1
    obtain ⟨rfl, _, rfl⟩ := h1
    exact ⟨h4, (fun h => by cases h), (fun x h => by cases h; exact ⟨h2, (Array.getElem?_eq_some_iff.1 h3).1⟩)⟩
theorem own_segT {w : World} {base n cap : Nat} {e : TypeId} {b : Option Addr} {l : List Tok7} (h : w.ownsRow base e 3 (.slice b n cap) n (flatT l)) (hl : l.length = n) (hf : ∀ t ∈ l, t.Fit) : SegT w b l := by
  refine ⟨fun k hk => ?_, hf⟩
  obtain ⟨g, c, hv, _⟩ := own_shapeT h (by omega)
  simp only [Value.slice.injEq] at hv
  obtain ⟨rfl, _, rfl⟩ := hv
  have hc : ∀ j u, (flatT l)[j]? = some u → w.cell? ⟨g, j, none⟩ = some u := by
    intro j u hu
    have := h.cells (g := g) rfl j u hu
    have hadd : (⟨g, 0, none⟩ : Addr).add j = ⟨g, j, none⟩ := by unfold Addr.add; split <;> simp_all
    rwa [hadd] at this
  have hg : l[k]? = some (l.getD k tk0) := by simp [List.getD, show k < l.length by omega]
  obtain ⟨q0, q1, q2⟩ := flatT_get l k _ hg
  exact ⟨g, 0, rfl, by rw [Nat.zero_add]; exact ⟨hc _ _ q0, hc _ _ q1, hc _ _ q2⟩⟩
theorem own_baseT {w : World} {base base' n sz : Nat} {e : TypeId} {v : Value} {xs : List Value} (h : w.ownsRow base e sz v n xs) (hb : base' ≤ base) : w.ownsRow base' e sz v n xs := by
  refine ⟨h.1, ?_⟩
  rcases h.2 with h | ⟨g, cap, cur, h1, h2, h3⟩
  · exact .inl h
  · exact .inr ⟨g, cap, cur, h1, Nat.le_trans hb h2, h3⟩
theorem own_belowT {w w' : World} {base n sz : Nat} {e : TypeId} {v : Value} {xs : List Value} (h : w.ownsRow base e sz v n xs) (hb : Below w.heap.size w w') : w'.ownsRow base e sz v n xs := by
  refine ⟨h.1, ?_⟩
  rcases h.2 with h | ⟨g, cap, cur, h1, h2, h3, h4⟩
  · exact .inl h
  · exact .inr ⟨g, cap, cur, h1, h2, (hb.block g (Array.getElem?_eq_some_iff.1 h3).1).trans h3, h4⟩
/-- A token behind a row of the call's own. -/
theorem wpList_appT {P : Program} {ops : Array Oper} {rest : List Oper} {o : Oper} {a : Act} {Q : Exit → Act → World → Prop} (hgd : o.guard = none) (s x : Operand) (t : TypeId)
    (ho : o.op = .call { callee := .builtin .append, args := #[s, x], argTypes := #[t, t] })
    (base : Nat) (e : TypeId) (i : TypeInfo) (z : Value) (bytes : Nat) (ht : P.underlying t = some (.slice e)) (hi : P.info? e = some i) (hz : i.zero = some z)
    (hsize : i.size = 3) (hby : i.bytes = bytes) (hzs : z.cells.size = 3) (w0 : World) (y : Tok7)
    {ra : Option Addr} {n rc : Nat} {l : List Tok7} (hown : w0.ownsRow base e 3 (.slice ra n rc) n (flatT l)) (hs : a.eval s = .slice ra n rc) (hx : a.eval x = .slice (some ⟨w0.heap.size, 0, none⟩) 1 1)
    (h63 : n + 1 ≤ 140737488355328) (hbytes : (n + 1) * bytes ≤ 140737488355328) (hbase : base ≤ w0.heap.size)
    (h : ∀ (b : Option Addr) (c : Nat) (w' : World), w'.ownsRow base e 3 (.slice b (n + 1) c) (n + 1) (flatT (l ++ [y])) → Below base w0 w' → wpList P ops Q rest (a.put o.dst (.slice b (n + 1) c)) w') : wpList P ops Q (o :: rest) a (w0.alloc (.cells #[.int .u8 y.lit, .int .i64 y.len, .int .i64 y.dist] e)) := by
  have hnew : ∀ j u, ([.int .u8 y.lit, .int .i64 y.len, .int .i64 y.dist] : List Value)[j]? = some u → (w0.alloc (.cells #[.int .u8 y.lit, .int .i64 y.len, .int .i64 y.dist] e)).cell? ((⟨w0.heap.size, 0, none⟩ : Addr).add j) = some u := by
    intro j u hu
    have hadd : (⟨w0.heap.size, 0, none⟩ : Addr).add j = ⟨w0.heap.size, j, none⟩ := by unfold Addr.add; split <;> simp_all
    rw [hadd]
    have hh := heap_alloc_new w0 (.cells #[.int .u8 y.lit, .int .i64 y.len, .int .i64 y.dist] e)
    simp only [World.cell?, hh]
    simpa using hu
  refine wpList_append_own _ hgd s x t ho base e i z 3 bytes ht hi hz hsize hby hzs (by decide) _ n (flatT l) hs (hown.alloc _) ⟨w0.heap.size, 0, none⟩ 1 1 [.int .u8 y.lit, .int .i64 y.len, .int .i64 y.dist] hx rfl hnew (by intro u hu; simp only [List.mem_cons, List.not_mem_nil, or_false] at hu; rcases hu with rfl | rfl | rfl <;> rfl) (by unfold maxLen; omega) hbytes (by simp; omega) ?_
  intro v' w' h1 h2 _
  obtain ⟨b, c, rfl⟩ : ∃ b c, v' = .slice b (n + 1) c := by
    rcases h1.2 with ⟨rfl, h0⟩ | ⟨g, cp, cur, rfl, _⟩
    · exact ⟨none, 0, by rw [h0]⟩
    · exact ⟨_, _, rfl⟩
  refine h b c w' (by rw [flatT_app]; exact h1) ?_
  have b1 : Below base w0 (w0.alloc (.cells #[.int .u8 y.lit, .int .i64 y.len, .int .i64 y.dist] e)) := (Below.refl _ _).alloc hbase _
  exact b1.trans ((Below.refl _ _).grown h2 (Nat.le_trans hbase b1.size) (fun k hk => (hown.lt k hk).1))
theorem info_tok7 : (Tryz.prog.info? 98).map (fun i => (i.zero, i.size, i.bytes)) = some (some (.agg #[.int .u8 0, .int .i64 0, .int .i64 0]), 3, 24) := by kernel_rfl

/-! Parse. -/
theorem parg7_fuel (D : List Int) (W C : Nat) (lz : Bool) : ∀ f g p, D.length ≤ p + f → D.length ≤ p + g → parg7 D W C lz f p = parg7 D W C lz g p
  | 0, 0, p, _, _ => rfl
  | 0, g + 1, p, h, _ => by rw [parg7, parg7, if_neg (by omega)]
  | f + 1, 0, p, _, h => by rw [parg7, parg7, if_neg (by omega)]
  | f + 1, g + 1, p, h1, h2 => by
    rw [parg7, parg7]
    by_cases hp : p < D.length
    · rw [if_pos hp, if_pos hp]
      by_cases h0 : pick7 D W C lz p = 0
      · rw [if_pos h0, if_pos h0, parg7_fuel D W C lz f g (p + 1) (by omega) (by omega)]
      · rw [if_neg h0, if_neg h0, parg7_fuel D W C lz f g (p + pick7 D W C lz p) (by omega) (by omega)]
    · rw [if_neg hp, if_neg hp]
theorem parg7_lit {D : List Int} {W C : Nat} {lz : Bool} {p : Nat} (hp : p < D.length) (h0 : pick7 D W C lz p = 0) : parg7 D W C lz (D.length - p) p = ⟨D.getD p 0, 0, 0⟩ :: parg7 D W C lz (D.length - (p + 1)) (p + 1) := by
  rw [show D.length - p = D.length - (p + 1) + 1 by omega, parg7, if_pos hp, if_pos h0]
theorem parg7_mat {D : List Int} {W C : Nat} {lz : Bool} {p b : Nat} (hp : p < D.length) (hb : pick7 D W C lz p = b) (h0 : b ≠ 0) : parg7 D W C lz (D.length - p) p = ⟨0, (b : Int), ((bst7 D p W C).2 : Int)⟩ :: parg7 D W C lz (D.length - (p + b)) (p + b) := by
  rw [show D.length - p = D.length - (p + 1) + 1 by omega, parg7, if_pos hp, hb, if_neg h0, parg7_fuel D W C lz _ (D.length - (p + b)) (p + b) (by omega) (by omega)]
/-- What Parse answers: a row of its own. -/
def TokQ (w : World) (ty : TypeId) (T : List Tok7) (e : Ending) (w' : World) : Prop := ∃ oa oc, e = .returned (.tuple #[.slice oa T.length oc, .int .i64 0]) ∧ w'.ownsRow w.heap.size ty 3 (.slice oa T.length oc) T.length (flatT T) ∧ Below w.heap.size w w'
/-- How far Parse has come. -/
def PaI (D : List Int) (W C : Nat) (lz : Bool) (wA wr : World) (ty : TypeId) (tl tp : Value) : Prop := ∃ (p m oc : Nat) (oa : Option Addr) (T : List Tok7), p ≤ D.length ∧ m ≤ p ∧ tp = .int .i64 (p : Int) ∧ tl = .slice oa m oc ∧ T.length = m ∧ par7 D W C lz = T ++ parg7 D W C lz (D.length - p) p ∧
  wr.ownsRow wA.heap.size ty 3 (.slice oa m oc) m (flatT T) ∧ Below wA.heap.size wA wr
end Go.Proofs.YtcifalelnfeggaaGreatDoor

namespace Go.Proofs.YtcifalelnfeggaaGreatDoor
open Go.RowKit
set_option linter.unusedVariables false

/-! What the calls of package lz answer, in one form for the program and the document. -/
def xpd7 (win : Int) (l : List Tok7) : List Int := if (check7 win l).2 = 0 then exp7 [] l else []
def ExpQ (w : World) (R : List Int) (er : Int) (e : Ending) (w' : World) : Prop := ∃ oa oc, e = .returned (.tuple #[.slice oa R.length oc, .int .i64 er]) ∧ w'.ownsRow w.heap.size 5 1 (.slice oa R.length oc) R.length (R.map (Value.int .u8)) ∧ Below w.heap.size w w'
theorem rxpd7 (win : Int) (l : List Tok7) (a : Option Addr) (n cap : Nat) (hn : Hid (l.length = n)) (w : World) (hs : SegT w a l) (hl : n ≤ 1073741824) :
    Calls Tryz.prog 31 #[.int .i64 win, .slice a n cap] w (ExpQ w (xpd7 win l) (check7 win l).2) := by
  refine (rexp7 win l a n cap hn w hs hl).mono ?_
  rintro e w' (⟨h, rfl, hb⟩ | ⟨h, oa, oc, rfl, ho, hb⟩)
  · unfold ExpQ xpd7
    rw [if_neg h]
    exact ⟨none, 0, rfl, World.ownsRow_nil _ _ _ _, hb⟩
  · unfold ExpQ xpd7
    rw [if_pos h, h]
    exact ⟨oa, oc, rfl, ho, hb⟩
def best7 (D : List Int) (p win chain : Int) : Int × Int × Int :=
  if opt7 win chain ≠ 0 then (0, 0, 72) else if p < 0 ∨ (D.length : Int) ≤ p then (0, 0, 1) else (((bst7 D p.toNat win.toNat chain.toNat).1 : Int), ((bst7 D p.toNat win.toNat chain.toNat).2 : Int), 0)
def parse7 (D : List Int) (win chain : Int) (lazy : Bool) : List Tok7 := if opt7 win chain = 0 then par7 D win.toNat chain.toNat lazy else []
def ParQ (w : World) (ty : TypeId) (T : List Tok7) (er : Int) (e : Ending) (w' : World) : Prop := ∃ oa oc, e = .returned (.tuple #[.slice oa T.length oc, .int .i64 er]) ∧ w'.ownsRow w.heap.size ty 3 (.slice oa T.length oc) T.length (flatT T) ∧ Below w.heap.size w w'
theorem parg7_fit (D : List Int) (W C : Nat) (lz : Bool) (hD : ∀ z ∈ D, 0 ≤ z ∧ z ≤ 255) (hl : D.length ≤ 1152921504606846976) : ∀ f p, ∀ t ∈ parg7 D W C lz f p, t.Fit
  | 0, p, t, h => by simp [parg7] at h
  | f + 1, p, t, h => by
    rw [parg7] at h
    by_cases hp : p < D.length
    · rw [if_pos hp] at h
      by_cases h0 : pick7 D W C lz p = 0
      · rw [if_pos h0] at h
        rcases List.mem_cons.1 h with rfl | h
        · have := getD_bd7 hD p
          exact ⟨this, by simp, by simp⟩
        · exact parg7_fit D W C lz hD hl f _ t h
      · rw [if_neg h0] at h
        rcases List.mem_cons.1 h with rfl | h
        · rcases pick7_mt D W C lz p with e | e
          · exact absurd e h0
          · have h1 := e.n258
            have h2 := e.dp
            refine ⟨by simp, ?_, ?_⟩ <;> simp only <;> omega
        · exact parg7_fit D W C lz hD hl f _ t h
    · rw [if_neg hp] at h
      simp at h
theorem parse7_fit {D : List Int} {win chain : Int} {lazy : Bool} (hD : ∀ z ∈ D, 0 ≤ z ∧ z ≤ 255) (hl : D.length ≤ 1152921504606846976) : ∀ t ∈ parse7 D win chain lazy, t.Fit := by
  unfold parse7
  split
  · exact parg7_fit D _ _ _ hD hl _ _
  · simp
theorem parse7_len {D : List Int} {win chain : Int} {lazy : Bool} : (parse7 D win chain lazy).length ≤ D.length := by
  unfold parse7
  split
  · rename_i h
    have h1 := opt7_ok h
    have := (Tz7.all (by omega) _ _ (par7_tz D win.toNat chain.toNat lazy)).2.2.2
    simpa using this
  · simp
end Go.Proofs.YtcifalelnfeggaaGreatDoor

namespace Go.Proofs.YtcifalelnfeggaaGreatDoor
open Go.RowKit
set_option linter.unusedVariables false

/-! The landed lz: length, Check, Size, Expand, Options. -/
theorem boxK {w wA : World} {t : Tok7} (hA : wA = w.alloc (.cells #[.int .u8 t.lit, .int .i64 t.len, .int .i64 t.dist] 97)) : TkAt wA w.heap.size 0 t := by
  have h : wA.heap[w.heap.size]? = some (.cells #[.int .u8 t.lit, .int .i64 t.len, .int .i64 t.dist] 97 (0, 0)) := by rw [hA]; exact heap_alloc_new w _
  refine ⟨?_, ?_, ?_⟩ <;> simp [World.cell?, h]
set_option maxRecDepth 100000 in
set_option maxHeartbeats 2000000 in
theorem plen7 (t : Tok7) (w : World) : Calls Tryz.prog 91 #[t.val] w fun e w' => e = .returned (.int .i64 (wid7 t : Int)) ∧ Below w.heap.size w w' := by
  obtain ⟨z, n, d⟩ := t
  unfold Tok7.val
  simp only
  by_cases h0 : n = 0
  · subst h0
    by_cases h1 : d = 0
    · have HM : Hid (wid7 ⟨z, 0, d⟩ = 1) := by show _ = _; simp [wid7, may7, h1]
      rw [HM.out]
      subst h1
      go_enter Tryz.func91, Tryz.ntmps91
      go_wp2_with fail
      go_ret
      exact ⟨rfl, below_box _ _⟩
    · have HM : Hid (wid7 ⟨z, 0, d⟩ = 0) := by show _ = _; simp [wid7, may7, h1]
      rw [HM.out]
      go_enter Tryz.func91, Tryz.ntmps91
      go_wp2_with fail
      go_ret
      exact ⟨rfl, below_box _ _⟩
  · have hm : may7 ⟨z, n, d⟩ ↔ (3 ≤ n ∧ n ≤ 258 ∧ 1 ≤ d ∧ d ≤ 32768 ∧ z = 0) := by unfold may7; simp only; rw [if_neg h0]
    have hno : ¬ may7 ⟨z, n, d⟩ → wid7 ⟨z, n, d⟩ = 0 := fun h => by unfold wid7; rw [if_neg h]
    have hF : may7 ⟨z, n, d⟩ → (wid7 ⟨z, n, d⟩ : Int) = n := fun h1 => by
      unfold wid7
      simp only
      rw [if_pos h1, if_neg h0]
      have := hm.1 h1
      omega
    by_cases h1 : 3 ≤ n
    · by_cases h2 : n ≤ 258
      · by_cases h3 : 1 ≤ d
        · by_cases h4 : d ≤ 32768
          · by_cases h5 : z = 0
            · have HM : Hid ((wid7 ⟨z, n, d⟩ : Int) = n) := hF (hm.2 ⟨h1, h2, h3, h4, h5⟩)
              rw [HM.out]
              subst h5
              clear hm hno hF HM
              go_enter Tryz.func91, Tryz.ntmps91
              go_wp2_with fail
              go_ret
              exact ⟨rfl, below_box _ _⟩
            · have HM : Hid (wid7 ⟨z, n, d⟩ = 0) := hno (by simp [hm, h5])
              rw [HM.out]
              clear hm hno hF HM
              have hz9 : (z != 0) = true := by simp [h5]
              go_enter Tryz.func91, Tryz.ntmps91
              go_wp2_with fail
              go_ret
              exact ⟨rfl, below_box _ _⟩
          · have HM : Hid (wid7 ⟨z, n, d⟩ = 0) := hno (by simp [hm, h4])
            rw [HM.out]
            clear hm hno hF HM
            go_enter Tryz.func91, Tryz.ntmps91
            go_wp2_with fail
            go_ret
            exact ⟨rfl, below_box _ _⟩
        · have HM : Hid (wid7 ⟨z, n, d⟩ = 0) := hno (by simp [hm, h3])
          rw [HM.out]
          clear hm hno hF HM
          go_enter Tryz.func91, Tryz.ntmps91
          go_wp2_with fail
          go_ret
          exact ⟨rfl, below_box _ _⟩
      · have HM : Hid (wid7 ⟨z, n, d⟩ = 0) := hno (by simp [hm, h2])
        rw [HM.out]
        clear hm hno hF HM
        go_enter Tryz.func91, Tryz.ntmps91
        go_wp2_with fail
        go_ret
        exact ⟨rfl, below_box _ _⟩
    · have HM : Hid (wid7 ⟨z, n, d⟩ = 0) := hno (by simp [hm, h1])
      rw [HM.out]
      clear hm hno hF HM
      go_enter Tryz.func91, Tryz.ntmps91
      go_wp2_with fail
      go_ret
      exact ⟨rfl, below_box _ _⟩
theorem wid7_zero {t : Tok7} (h : wid7 t = 0) : ¬ may7 t := by
  intro hm
  unfold wid7 at h
  rw [if_pos hm] at h
  split at h
  · omega
  · rename_i h0
    unfold may7 at hm
    rw [if_neg h0] at hm
    omega
theorem wid7_pos {t : Tok7} (h : wid7 t ≠ 0) : may7 t := by
  unfold wid7 at h
  by_cases hm : may7 t
  · exact hm
  · rw [if_neg hm] at h; exact absurd rfl h
theorem far7_iff {win : Int} {tot : Nat} {t : Tok7} (h : may7 t) (hw : 1 ≤ win) : far7 win tot t ↔ (win < t.dist ∨ (tot : Int) < t.dist) := by
  unfold far7
  unfold may7 at h
  by_cases h0 : t.len = 0
  · rw [if_pos h0] at h; omega
  · rw [if_neg h0] at h; omega
end Go.Proofs.YtcifalelnfeggaaGreatDoor

namespace Go.Proofs.YtcifalelnfeggaaGreatDoor
open Go.RowKit
set_option linter.unusedVariables false

set_option maxRecDepth 100000 in
set_option maxHeartbeats 1000000 in
theorem psiz7 (l : List Tok7) (a : Option Addr) (n cap : Nat) (hn : Hid (l.length = n)) (w : World) (hs : SegT w a l) (hcap : n ≤ cap) (hnil : a = none → cap = 0) (hl : n ≤ 1073741824) :
    Calls Tryz.prog 66 #[.slice a n cap] w fun e w' => e = .returned (.int .i64 (siz7 l : Int)) ∧ Below w.heap.size w w' := by
  go_enter Tryz.func66, Tryz.ntmps66
  go_wp2_with fail
  go_loopw [3, 8] (fun tt ti wr => ∃ i tot : Nat, i ≤ n ∧ ti = .int .i64 (i : Int) ∧ tt = .int .i64 (tot : Int) ∧ tot ≤ 258 * i ∧ Hid (siz7 l = tot + siz7 (l.drop i)) ∧ Below w.heap.size w wr) (fun _ ti _ => n - (intOf ti).toNat)
  case atStart => exact ⟨0, 0, by omega, rfl, rfl, by omega, (show _ = _ by simp), Below.refl _ _⟩
  case round =>
    obtain ⟨i, tot, hi, rfl, rfl, htot, HC, BR⟩ := hrel
    by_cases hin : i < n
    · have hii : (i : Int) < (n : Int) := by omega
      have hil : i < l.length := by rw [hn.out]; exact hin
      have hD : l.drop i = l.getD i tk0 :: l.drop (i + 1) := dropT hil
      obtain ⟨b, off, rfl, hT⟩ := (hs.old BR).at_ i hil
      rw [hD, siz7] at HC
      have hw := wid7_le (l.getD i tk0)
      have CW := plen7 (l.getD i tk0)
      generalize l.getD i tk0 = t at *
      obtain ⟨wA, hwA⟩ : ∃ wA, wA = wr.alloc (.cells #[.int .u8 t.lit, .int .i64 t.len, .int .i64 t.dist] 97) := ⟨_, rfl⟩
      have bA : Below wr.heap.size wr wA := by rw [hwA]; exact below_box _ _
      have HWA : Hid (wA = wr.alloc (.cells #[.int .u8 t.lit, .int .i64 t.len, .int .i64 t.dist] 97)) := hwA
      have BA : Below w.heap.size w wA := BR.trans (bA.mono BR.size)
      have hc0 := hT.c0
      have hc1 := hT.c1
      have hc2 := hT.c2
      have CWA : Hid (∀ W, Calls Tryz.prog 91 #[t.val] W fun e w' => e = .returned (.int .i64 (wid7 t : Int)) ∧ Below W.heap.size W w') := CW
      obtain ⟨t2, ht2⟩ : ∃ t2, t2 = tot + wid7 t := ⟨_, rfl⟩
      have hwt : IntKind.i64.wrap ((tot : Int) + (wid7 t : Int)) = (t2 : Int) := by rw [IntWalk.i64_in _ (by omega)]; omega
      have HC2 : Hid (siz7 l = t2 + siz7 (l.drop (i + 1))) := by have := HC.out; show _ = _; omega
      have ht3 : t2 ≤ 258 * (i + 1) := by omega
      clear hwA hD CW hT ht2 HC
      obtain ⟨z, ln, ds⟩ := t
      unfold Tok7.val at CWA
      simp only at hc0 hc1 hc2 CWA HWA
      generalize wid7 ⟨z, ln, ds⟩ = W at *
      go_wp2_with fail
      rw [← HWA.out]
      refine (CWA.out wA).mono ?_
      rintro e w2 ⟨rfl, b2⟩
      have B2 := BA.trans (b2.mono BA.size)
      go_wp2_with fail
      go_roundw
      case rel => exact ⟨i + 1, t2, by omega, by go_num, rfl, ht3, HC2, B2⟩
      case measure => simp [intOf]; omega
    · have hge : ¬ (i : Int) < (n : Int) := by omega
      have HE : Hid (siz7 l = tot) := by
        show _ = _
        rw [HC.out, List.drop_of_length_le (by rw [hn.out]; omega)]
        rfl
      clear HC
      go_wp2_with fail
      go_ret
      exact ⟨by rw [HE.out]; rfl, BR⟩
end Go.Proofs.YtcifalelnfeggaaGreatDoor

namespace Go.Proofs.YtcifalelnfeggaaGreatDoor
open Go.RowKit
set_option linter.unusedVariables false

/-! The landed block: a tally. -/
/-- A tally in memory: its size, its more bits, how often each symbol stands there. -/
structure Ta9 (w : World) (b : Nat) (X : List Int) : Prop where
  len : X.length = 318
  hp : w.heap[b]? = some (.cells (arr X) 120 (0, 0))
  bd : ∀ z ∈ X, 0 ≤ z ∧ z ≤ 1125899906842624
theorem Ta9.lt {w : World} {b : Nat} {X : List Int} (h : Ta9 w b X) : b < w.heap.size := (Array.getElem?_eq_some_iff.1 h.hp).1
theorem Ta9.keep {w w' : World} {b : Nat} {X : List Int} (h : Ta9 w b X) (hb : w'.heap[b]? = w.heap[b]?) : Ta9 w' b X := ⟨h.len, hb.trans h.hp, h.bd⟩
theorem Ta9.cell {w : World} {b : Nat} {X : List Int} (h : Ta9 w b X) {i : Nat} (hi : i < 318) : w.cell? ⟨b, i, none⟩ = some (.int .i64 (X.getD i 0)) := by
  refine (cell_of_row w b i _ _ _ h.hp).trans ?_
  have : i < X.length := by rw [h.len]; exact hi
  simp [arr, List.getD, this]
theorem Ta9.free {w : World} {b : Nat} {X : List Int} (h : Ta9 w b X) (i : Nat) : w.frozen? ⟨b, i, none⟩ = false := frozen_of_row w b i _ _ h.hp
theorem Ta9.get {w : World} {b : Nat} {X : List Int} (h : Ta9 w b X) (i : Nat) : 0 ≤ X.getD i 0 ∧ X.getD i 0 ≤ 1125899906842624 := by
  by_cases hi : i < X.length
  · have hm : X.getD i 0 ∈ X := by simp only [List.getD, List.getElem?_eq_getElem hi, Option.getD_some]; exact List.getElem_mem hi
    exact h.bd _ hm
  · simp only [List.getD, List.getElem?_eq_none (Nat.le_of_not_lt hi), Option.getD_none]; omega
theorem Ta9.set {w : World} {b : Nat} {X : List Int} (h : Ta9 w b X) {i : Nat} (hi : i < 318) (v : Int) (hv : 0 ≤ v ∧ v ≤ 1125899906842624) : Ta9 (w.setCell ⟨b, i, none⟩ (.int .i64 v)) b (X.set i v) := by
  refine ⟨by rw [List.length_set]; exact h.len, ?_, fun z hz => ?_⟩
  · rw [heap_setCell_same w b i _ _ _ h.hp]
    simp [arr, List.map_set]
  · rcases List.mem_or_eq_of_mem_set hz with h1 | rfl
    · exact h.bd z h1
    · exact hv
/-- One more at a place. -/
def inc9 (X : List Int) (i : Nat) (v : Int) : List Int := X.set i (X.getD i 0 + v)
set_option maxRecDepth 100000 in
set_option maxHeartbeats 2000000 in
theorem padd9_lit (b : Nat) (X : List Int) (l : Nat) (d : Int) (w : World) (h : Ta9 w b X) (hl : l ≤ 255) (hb : X.getD (2 + l) 0 < 1125899906842624) :
    Calls Tryz.prog 67 #[.pointer (some ⟨b, 0, none⟩), .agg #[.int .u8 (l : Int), .int .i64 0, .int .i64 d]] w fun e w' => e = .returned (.tuple #[]) ∧ Ta9 w' b (inc9 X (2 + l) 1) ∧ Kp (fun k => k = b) w w' := by
  have hlt := h.lt
  have g0 := heap_alloc_new w (.cells #[.int .u8 (l : Int), .int .i64 0, .int .i64 d] 97)
  have B0 := below_box8 w (.cells #[.int .u8 (l : Int), .int .i64 0, .int .i64 d] 97)
  go_enter Tryz.func67, Tryz.ntmps67
  go_wp2_with fail
  obtain ⟨P, hP⟩ : ∃ P, P = w.heap.size := ⟨_, rfl⟩
  rw [← hP] at g0
  rw [← hP]
  have hPb : P ≠ b := by omega
  have hTA := h.keep (B0.block b hlt)
  have K0 : Kp (fun k => k = b) w (w.alloc (.cells #[.int .u8 (l : Int), .int .i64 0, .int .i64 d] 97)) := Kp.of_below B0
  clear B0 hP hlt h
  generalize w.alloc (.cells #[.int .u8 (l : Int), .int .i64 0, .int .i64 d] 97) = w1 at *
  have e0 : w1.cell? ⟨P, 0, none⟩ = some (.int .u8 (l : Int)) := (cell_of_row w1 _ 0 _ _ _ g0).trans rfl
  have c0 := hTA.cell (i := 2 + l) (by omega)
  have f0 := hTA.free (2 + l)
  have bb := hTA.get (2 + l)
  have HT : Hid (Ta9 w1 b X) := hTA
  have HK : Hid (Kp (fun k => k = b) w w1) := K0
  obtain ⟨z, hz⟩ : ∃ z, z = X.getD (2 + l) 0 := ⟨_, rfl⟩
  have HZ : Hid (z = X.getD (2 + l) 0) := hz
  rw [← hz] at c0 bb hb
  have hli : (l : Int) < 286 := by omega
  have i1 : IntKind.i64.wrap (z + 1) = z + 1 := IntWalk.i64_in _ (by omega)
  have RS : Ta9 (w1.setCell ⟨b, 2 + l, none⟩ (.int .i64 (z + 1))).drew b (inc9 X (2 + l) 1) := by
    have := hTA.set (i := 2 + l) (by omega) (z + 1) (by omega)
    unfold inc9
    rw [← HZ.out]
    exact this.keep rfl
  have HRS : Hid (Ta9 (w1.setCell ⟨b, 2 + l, none⟩ (.int .i64 (z + 1))).drew b (inc9 X (2 + l) 1)) := RS
  clear hTA K0 hz g0 RS
  go_region
  go_wp2
  refine bodyPost_ret (results_none rfl _ _ _) rfl ?_
  exact ⟨rfl, HRS.out, (HK.out.trans (Kp.set (S := fun k => k = b) rfl _) (fun _ _ e => e)).drew⟩
/-- The place of a number among spans. -/
def ixo9 (S : List Int) (n : Nat) (x : Int) : Nat := (List.range n).countP (fun k => decide (S.getD (k * 2) 0 ≤ x)) - 1
theorem cnt_le9 (i : Nat) : ∀ n, (List.range n).countP (fun k => decide (k ≤ i)) = min n (i + 1)
  | 0 => rfl
  | n + 1 => by
    rw [List.range_succ, List.countP_append, cnt_le9 i n]
    by_cases h : n ≤ i
    · simp [h]; omega
    · simp [h]; omega
theorem ixo9_eq {S : List Int} {n : Nat} {x : Int} {i : Nat} (hm : ∀ a b, a ≤ b → b < n → S.getD (a * 2) 0 ≤ S.getD (b * 2) 0) (hi : i < n) (h1 : S.getD (i * 2) 0 ≤ x) (h2 : ∀ k, i < k → k < n → x < S.getD (k * 2) 0) : ixo9 S n x = i := by
  unfold ixo9
  have e : (List.range n).countP (fun k => decide (S.getD (k * 2) 0 ≤ x)) = (List.range n).countP (fun k => decide (k ≤ i)) := by
    refine List.countP_congr fun k hk => ?_
    rw [List.mem_range] at hk
    simp only [decide_eq_true_eq]
    constructor
    · intro h
      by_cases q : k ≤ i
      · exact q
      · have := h2 k (by omega) hk; omega
    · intro h
      have := hm k i h hi
      omega
  rw [e, cnt_le9]
  omega
def lix9 (x : Int) : Nat := ixo9 lnS9 29 x
def dix9 (x : Int) : Nat := ixo9 dsS9 30 x
end Go.Proofs.YtcifalelnfeggaaGreatDoor

namespace Go.Proofs.YtcifalelnfeggaaGreatDoor
open Go.RowKit
set_option linter.unusedVariables false

/-! The landed block: a match comes to a tally. -/
theorem inc_bd9 {X : List Int} {i : Nat} {v B : Int} (h : ∀ z ∈ X, 0 ≤ z ∧ z ≤ B) (hv : 0 ≤ v) (hB : 0 ≤ B) : ∀ z ∈ inc9 X i v, 0 ≤ z ∧ z ≤ B + v := by
  intro z hz
  unfold inc9 at hz
  rcases List.mem_or_eq_of_mem_set hz with h1 | rfl
  · have := h z h1; omega
  · by_cases hi : i < X.length
    · have hm : X.getD i 0 ∈ X := by simp only [List.getD, List.getElem?_eq_getElem hi, Option.getD_some]; exact List.getElem_mem hi
      have := h _ hm
      omega
    · have : X.getD i 0 = 0 := by simp only [List.getD, List.getElem?_eq_none (Nat.le_of_not_lt hi), Option.getD_none]
      omega
theorem Ta9.inc {w : World} {b : Nat} {X : List Int} (h : Ta9 w b X) {i : Nat} (hi : i < 318) (v : Int) (hv : 0 ≤ X.getD i 0 + v ∧ X.getD i 0 + v ≤ 1125899906842624) : Ta9 (w.setCell ⟨b, i, none⟩ (.int .i64 (X.getD i 0 + v))) b (inc9 X i v) := h.set hi _ hv
set_option maxRecDepth 100000 in
set_option maxHeartbeats 4000000 in
theorem padd9_mat (b : Nat) (X : List Int) (l n d : Int) (w : World) (h : Ta9 w b X) (hb : ∀ z ∈ X, 0 ≤ z ∧ z ≤ 1125899906800000) (hn : 3 ≤ n ∧ n ≤ 258) (hd : 1 ≤ d ∧ d ≤ 32768) :
    Calls Tryz.prog 67 #[.pointer (some ⟨b, 0, none⟩), .agg #[.int .u8 l, .int .i64 n, .int .i64 d]] w fun e w' => e = .returned (.tuple #[]) ∧ Ta9 w' b (inc9 (inc9 (inc9 (inc9 X (259 + lix9 n) 1) 1 (lnS9.getD (lix9 n * 2 + 1) 0)) (288 + dix9 d) 1) 1 (dsS9.getD (dix9 d * 2 + 1) 0)) ∧ Kp (fun k => k = b) w w' := by
  have hlt := h.lt
  have g0 := heap_alloc_new w (.cells #[.int .u8 l, .int .i64 n, .int .i64 d] 97)
  have B0 := below_box8 w (.cells #[.int .u8 l, .int .i64 n, .int .i64 d] 97)
  have hn0 : ¬ n = 0 := by omega
  go_enter Tryz.func67, Tryz.ntmps67
  go_wp2_with fail
  obtain ⟨P, hP⟩ : ∃ P, P = w.heap.size := ⟨_, rfl⟩
  rw [← hP] at g0
  have hPb : P ≠ b := by omega
  have hTA := h.keep (B0.block b hlt)
  have HK : Hid (Kp (fun k => k = b) w (w.alloc (.cells #[.int .u8 l, .int .i64 n, .int .i64 d] 97))) := Kp.of_below B0
  clear B0 hlt h
  generalize w.alloc (.cells #[.int .u8 l, .int .i64 n, .int .i64 d] 97) = w1 at *
  have HPS : Hid (P = w.heap.size) := hP
  clear hP
  refine (plsy9_ok n hn.1 hn.2 w1).mono ?_
  rintro e w2 ⟨i, hi, s1, s2, rfl, b2⟩
  have HI : Hid (lix9 n = i) := ixo9_eq (fun a b h1 h2 => mono_plsy9 ⟨b, h2⟩ ⟨a, by omega⟩ h1) hi s1 s2
  have bl := (bd_plsy9 ⟨i, hi⟩).2
  simp only at bl
  generalize lnS9.getD (i * 2) 0 = zz at s1 ⊢
  obtain ⟨m1, hm1⟩ : ∃ m, lnS9.getD (i * 2 + 1) 0 = m := ⟨_, rfl⟩
  have HM1 : Hid (lnS9.getD (i * 2 + 1) 0 = m1) := hm1
  rw [hm1] at bl ⊢
  clear hm1
  obtain ⟨y, hy⟩ : ∃ y : Nat, y = 257 + i := ⟨_, rfl⟩
  rw [show 257 + (i : Int) = (y : Int) by omega]
  have hyi : (y : Int) < 286 := by omega
  have T2 := hTA.keep (b2.block b hTA.lt)
  have g2 := (b2.block P (Array.getElem?_eq_some_iff.1 g0).1).trans g0
  have K2 : Hid (Kp (fun k => k = b) w w2) := HK.out.trans (Kp.of_below (S := fun _ => False) b2) (fun _ _ e => e.elim)
  have c0 := T2.cell (i := 2 + y) (by omega)
  have f0 := T2.free (2 + y)
  have bb := T2.get (2 + y)
  obtain ⟨z, hz⟩ : ∃ z, z = X.getD (2 + y) 0 := ⟨_, rfl⟩
  rw [← hz] at c0 bb
  have hzb : 0 ≤ z ∧ z ≤ 1125899906800000 := by
    rw [hz]
    have hl : 2 + y < X.length := by rw [T2.len]; omega
    have hm : X.getD (2 + y) 0 ∈ X := by simp only [List.getD, List.getElem?_eq_getElem hl, Option.getD_some]; exact List.getElem_mem hl
    exact hb _ hm
  have i1 : IntKind.i64.wrap (z + 1) = z + 1 := IntWalk.i64_in _ (by omega)
  have T3 : Ta9 (w2.setCell ⟨b, 2 + y, none⟩ (.int .i64 (z + 1))).drew b (inc9 X (2 + y) 1) := by
    have := T2.inc (i := 2 + y) (by omega) 1 (by rw [← hz]; omega)
    rw [← hz] at this
    exact this.keep rfl
  have HG2 : Hid (w2.heap[P]? = some (.cells #[.int .u8 l, .int .i64 n, .int .i64 d] 97 (0, 0))) := g2
  have HT3 : Hid (Ta9 (w2.setCell ⟨b, 2 + y, none⟩ (.int .i64 (z + 1))).drew b (inc9 X (2 + y) 1)) := T3
  have HX : Hid (∀ q ∈ inc9 X (2 + y) 1, 0 ≤ q ∧ q ≤ 1125899906800001) := inc_bd9 hb (by omega) (by omega)
  have HY : Hid (2 + y = 259 + i) := by show _ = _; omega
  have HK3 : Hid (Kp (fun k => k = b) w (w2.setCell ⟨b, 2 + y, none⟩ (.int .i64 (z + 1))).drew) := (K2.out.trans (Kp.set (S := fun k => k = b) rfl _) (fun _ _ e => e)).drew
  have HG3 : Hid ((w2.setCell ⟨b, 2 + y, none⟩ (.int .i64 (z + 1))).drew.heap[P]? = some (.cells #[.int .u8 l, .int .i64 n, .int .i64 d] 97 (0, 0))) := ((set_grown w2 b (2 + y) (.int .i64 (z + 1))).block P (Array.getElem?_eq_some_iff.1 g2).1 (by simp; exact fun e => hPb e)).trans g2
  clear g0 g2 T3 hz T2 hTA HK b2 s1 s2 hb hy K2 HG2
  go_wp2_with fail
  go_region
  generalize (w2.setCell ⟨b, 2 + y, none⟩ (.int .i64 (z + 1))).drew = w3 at *
  obtain ⟨Y, hY⟩ : ∃ Y, Y = inc9 X (2 + y) 1 := ⟨_, rfl⟩
  have HYY : Hid (Y = inc9 X (2 + y) 1) := hY
  rw [← hY] at HT3 HX
  clear hY i1 hzb bb c0 f0 hyi
  have T3 := HT3.out
  have c1 := T3.cell (i := 1) (by omega)
  have f1 := T3.free 1
  have hq : 0 ≤ Y.getD 1 0 ∧ Y.getD 1 0 ≤ 1125899906800001 := by
    have hl : 1 < Y.length := by rw [T3.len]; omega
    have hm : Y.getD 1 0 ∈ Y := by simp only [List.getD, List.getElem?_eq_getElem hl, Option.getD_some]; exact List.getElem_mem hl
    exact HX.out _ hm
  have T4 := T3.inc (i := 1) (by omega) m1 (by omega)
  have HX4 : Hid (∀ q ∈ inc9 Y 1 m1, 0 ≤ q ∧ q ≤ 1125899906800001 + m1) := inc_bd9 HX.out (by omega) (by omega)
  obtain ⟨z1, hz1⟩ : ∃ z1, z1 = Y.getD 1 0 := ⟨_, rfl⟩
  rw [← hz1] at c1 hq T4
  have i2 : IntKind.i64.wrap (z1 + m1) = z1 + m1 := IntWalk.i64_in _ (by omega)
  have HT4 : Hid (Ta9 (w3.setCell ⟨b, 1, none⟩ (.int .i64 (z1 + m1))) b (inc9 Y 1 m1)) := T4
  have HK4 : Hid (Kp (fun k => k = b) w (w3.setCell ⟨b, 1, none⟩ (.int .i64 (z1 + m1)))) := HK3.out.trans (Kp.set (S := fun k => k = b) rfl _) (fun _ _ e => e)
  have g4 : (w3.setCell ⟨b, 1, none⟩ (.int .i64 (z1 + m1))).heap[P]? = some (.cells #[.int .u8 l, .int .i64 n, .int .i64 d] 97 (0, 0)) := ((set_grown w3 b 1 (.int .i64 (z1 + m1))).block P (Array.getElem?_eq_some_iff.1 HG3.out).1 (by simp; exact fun e => hPb e)).trans HG3.out
  have d2 : (w3.setCell ⟨b, 1, none⟩ (.int .i64 (z1 + m1))).cell? ⟨w.heap.size, 2, none⟩ = some (.int .i64 d) := by rw [← HPS.out]; exact (cell_of_row _ P 2 _ _ _ g4).trans rfl
  have HG4 : Hid ((w3.setCell ⟨b, 1, none⟩ (.int .i64 (z1 + m1))).heap[P]? = some (.cells #[.int .u8 l, .int .i64 n, .int .i64 d] 97 (0, 0))) := g4
  have d2' : w3.cell? ⟨w.heap.size, 2, none⟩ = some (.int .i64 d) := by rw [← HPS.out]; exact (cell_of_row _ P 2 _ _ _ HG3.out).trans rfl
  have hbw : b ≠ w.heap.size := by have := HPS.out; omega
  clear T3 T4 hz1 HT3 HK3 HG3 HX g4
  go_wp2_with fail
  generalize w3.setCell ⟨b, 1, none⟩ (.int .i64 (z1 + m1)) = w4 at *
  refine (pdsy9_ok d hd.1 hd.2 w4).mono ?_
  rintro e w5 ⟨j, hj, s1, s2, rfl, b5⟩
  have HJ : Hid (dix9 d = j) := ixo9_eq (fun a b h1 h2 => mono_pdsy9 ⟨b, h2⟩ ⟨a, by omega⟩ h1) hj s1 s2
  have bm := (bd_pdsy9 ⟨j, hj⟩).2
  simp only at bm
  generalize dsS9.getD (j * 2) 0 = zq at s1 ⊢
  obtain ⟨m2, hm2⟩ : ∃ m, dsS9.getD (j * 2 + 1) 0 = m := ⟨_, rfl⟩
  have HM2 : Hid (dsS9.getD (j * 2 + 1) 0 = m2) := hm2
  rw [hm2] at bm ⊢
  clear hm2
  have hji : (j : Int) < 30 := by omega
  obtain ⟨Y2, hY2⟩ : ∃ Y2, Y2 = inc9 Y 1 m1 := ⟨_, rfl⟩
  have HY2 : Hid (Y2 = inc9 Y 1 m1) := hY2
  rw [← hY2] at HT4 HX4
  have T5 := HT4.out.keep (b5.block b HT4.out.lt)
  have c5 := T5.cell (i := 288 + j) (by omega)
  have f5 := T5.free (288 + j)
  have hq5 : 0 ≤ Y2.getD (288 + j) 0 ∧ Y2.getD (288 + j) 0 ≤ 1125899906800001 + m1 := by
    have hl : 288 + j < Y2.length := by rw [T5.len]; omega
    have hm : Y2.getD (288 + j) 0 ∈ Y2 := by simp only [List.getD, List.getElem?_eq_getElem hl, Option.getD_some]; exact List.getElem_mem hl
    exact HX4.out _ hm
  have T6' := T5.inc (i := 288 + j) (by omega) 1 (by omega)
  have HX6 : Hid (∀ q ∈ inc9 Y2 (288 + j) 1, 0 ≤ q ∧ q ≤ 1125899906800001 + m1 + 1) := inc_bd9 HX4.out (by omega) (by omega)
  obtain ⟨z5, hz5⟩ : ∃ z5, z5 = Y2.getD (288 + j) 0 := ⟨_, rfl⟩
  rw [← hz5] at c5 hq5 T6'
  have i5 : IntKind.i64.wrap (z5 + 1) = z5 + 1 := IntWalk.i64_in _ (by omega)
  have HT6 : Hid (Ta9 (w5.setCell ⟨b, 288 + j, none⟩ (.int .i64 (z5 + 1))).drew b (inc9 Y2 (288 + j) 1)) := T6'.keep rfl
  have HK6 : Hid (Kp (fun k => k = b) w (w5.setCell ⟨b, 288 + j, none⟩ (.int .i64 (z5 + 1))).drew) := ((HK4.out.trans (Kp.of_below (S := fun _ => False) b5) (fun _ _ e => e.elim)).trans (Kp.set (S := fun k => k = b) rfl _) (fun _ _ e => e)).drew
  clear T5 T6' hz5 HT4 HK4 HX4 HG4 hY2 s1 s2 b5 c1 f1 i2 hq d2 d2'
  go_wp2_with fail
  go_region
  generalize (w5.setCell ⟨b, 288 + j, none⟩ (.int .i64 (z5 + 1))).drew = w6 at *
  obtain ⟨Y3, hY3⟩ : ∃ Y3, Y3 = inc9 Y2 (288 + j) 1 := ⟨_, rfl⟩
  have HY3 : Hid (Y3 = inc9 Y2 (288 + j) 1) := hY3
  rw [← hY3] at HT6 HX6
  have T6 := HT6.out
  have c6 := T6.cell (i := 1) (by omega)
  have f6 := T6.free 1
  have hq6 : 0 ≤ Y3.getD 1 0 ∧ Y3.getD 1 0 ≤ 1125899906800001 + m1 + 1 := by
    have hl : 1 < Y3.length := by rw [T6.len]; omega
    have hm : Y3.getD 1 0 ∈ Y3 := by simp only [List.getD, List.getElem?_eq_getElem hl, Option.getD_some]; exact List.getElem_mem hl
    exact HX6.out _ hm
  have T7 := T6.inc (i := 1) (by omega) m2 (by omega)
  obtain ⟨z6, hz6⟩ : ∃ z6, z6 = Y3.getD 1 0 := ⟨_, rfl⟩
  rw [← hz6] at c6 hq6 T7
  have i6 : IntKind.i64.wrap (z6 + m2) = z6 + m2 := IntWalk.i64_in _ (by omega)
  have HT7 : Hid (Ta9 (w6.setCell ⟨b, 1, none⟩ (.int .i64 (z6 + m2))) b (inc9 Y3 1 m2)) := T7
  have HK7 : Hid (Kp (fun k => k = b) w (w6.setCell ⟨b, 1, none⟩ (.int .i64 (z6 + m2)))) := HK6.out.trans (Kp.set (S := fun k => k = b) rfl _) (fun _ _ e => e)
  clear T6 T7 hz6 HT6 HK6 HX6 hY3 c5 f5 i5 hq5
  go_wp2_with fail
  refine bodyPost_end (results_none rfl _ _ _) rfl ?_
  refine ⟨rfl, ?_, HK7.out⟩
  rw [HI.out, HM1.out, HJ.out, HM2.out, ← HY.out, ← HYY.out, ← HY2.out, ← HY3.out]
  exact HT7.out
end Go.Proofs.YtcifalelnfeggaaGreatDoor

namespace Go.Proofs.YtcifalelnfeggaaGreatDoor
open Go.RowKit
set_option linter.unusedVariables false

/-! The landed block: tallied. -/
def tst9 (X : List Int) (t : Tok7) : List Int :=
  if t.len = 0 then inc9 (inc9 X 0 (wid7 t)) (2 + t.lit.toNat) 1 else inc9 (inc9 (inc9 (inc9 (inc9 X 0 (wid7 t)) (259 + lix9 t.len) 1) 1 (lnS9.getD (lix9 t.len * 2 + 1) 0)) (288 + dix9 t.dist) 1) 1 (dsS9.getD (dix9 t.dist * 2 + 1) 0)
def tal09 : List Int := List.replicate 318 0
def tals9 (l : List Tok7) : List Int := l.foldl tst9 tal09
def tal9 (l : List Tok7) : List Int := (tals9 l).set 258 1
theorem built_tal9 : (Tryz.prog.built 120 []).getD #[] = arr tal09 := by kernel_rfl
theorem tals9_snoc (l : List Tok7) (t : Tok7) : tals9 (l ++ [t]) = tst9 (tals9 l) t := by unfold tals9; rw [List.foldl_append]; rfl
set_option maxRecDepth 100000 in
theorem lnb9 (i : Nat) : 0 ≤ lnS9.getD (i * 2 + 1) 0 ∧ lnS9.getD (i * 2 + 1) 0 ≤ 13 := by
  by_cases h : i < 29
  · exact (bd_plsy9 ⟨i, h⟩).2
  · simp only [List.getD, List.getElem?_eq_none (show lnS9.length ≤ i * 2 + 1 by show 58 ≤ _; omega), Option.getD_none]; omega
set_option maxRecDepth 100000 in
theorem dsb9 (i : Nat) : 0 ≤ dsS9.getD (i * 2 + 1) 0 ∧ dsS9.getD (i * 2 + 1) 0 ≤ 13 := by
  by_cases h : i < 30
  · exact (bd_pdsy9 ⟨i, h⟩).2
  · simp only [List.getD, List.getElem?_eq_none (show dsS9.length ≤ i * 2 + 1 by show 60 ≤ _; omega), Option.getD_none]; omega
set_option maxRecDepth 100000 in
set_option maxHeartbeats 4000000 in
theorem ptal9_long (l : List Tok7) (a : Option Addr) (n cap : Nat) (w : World) (hl : 65536 < n) :
    Calls Tryz.prog 46 #[.slice a n cap] w fun e w' => e = .returned (.tuple #[.pointer none, .int .i64 90]) ∧ w' = w := by
  have hli : (65536 : Int) < (n : Int) := by omega
  go_enter Tryz.func46, Tryz.ntmps46
  go_wp2_with fail
  go_ret2
  exact ⟨rfl, rfl⟩
set_option maxRecDepth 100000 in
set_option maxHeartbeats 4000000 in
theorem ptal9 (l : List Tok7) (a : Option Addr) (n cap : Nat) (hn : Hid (l.length = n)) (w : World) (hs : SegT w a l) (hl : n ≤ 65536) :
    Calls Tryz.prog 46 #[.slice a n cap] w fun e w' => ((∀ t ∈ l, may7 t) ∧ ∃ b, w.heap.size ≤ b ∧ e = .returned (.tuple #[.pointer (some ⟨b, 0, none⟩), .int .i64 0]) ∧ Ta9 w' b (tal9 l) ∧ Below w.heap.size w w') ∨ (¬ (∀ t ∈ l, may7 t) ∧ e = .returned (.tuple #[.pointer none, .int .i64 91]) ∧ Below w.heap.size w w') := by
  have hli : ¬ (65536 : Int) < (n : Int) := by omega
  have HS : Hid (SegT w a l) := hs
  clear hs
  go_enter Tryz.func46, Tryz.ntmps46
  go_wp2_with (refine wpList_build rfl 120 _ rfl (by kernel_rfl) ?_)
  rw [built_tal9]
  have q0 := heap_alloc_new w (.cells (arr tal09) 120)
  have B0 := below_box8 w (.cells (arr tal09) 120)
  generalize w.alloc (.cells (arr tal09) 120) = w0 at *
  obtain ⟨b, hb⟩ : ∃ b, b = w.heap.size := ⟨_, rfl⟩
  rw [← hb] at q0
  rw [← hb]
  have HB : Hid (w.heap.size ≤ b) := by show _ ≤ _; omega
  have T0 : Ta9 w0 b tal09 := ⟨by unfold tal09; exact List.length_replicate .., q0, fun z hz => by rw [List.eq_of_mem_replicate hz]; omega⟩
  have HT0 : Hid (Ta9 w0 b tal09 ∧ Below w.heap.size w w0) := ⟨T0, B0⟩
  clear q0 B0 T0 hb
  go_loopw [15] (fun ti wr => ∃ i : Nat, i ≤ n ∧ ti = .int .i64 (i : Int) ∧ Hid (∀ t ∈ l.take i, may7 t) ∧ Ta9 wr b (tals9 (l.take i)) ∧ Hid (∀ z ∈ tals9 (l.take i), 0 ≤ z ∧ z ≤ 300 * (i : Int)) ∧ Below w.heap.size w wr) (fun ti _ => n - (intOf ti).toNat)
  case atStart => exact ⟨0, by omega, rfl, (by rw [List.take_zero]; intro t h; cases h), (by rw [List.take_zero]; exact HT0.out.1), (by rw [List.take_zero]; intro z hz; have : z = 0 := List.eq_of_mem_replicate hz; omega), HT0.out.2⟩
  case round =>
    obtain ⟨i, hin, rfl, HM, TA, HBD, BR⟩ := hrel
    clear HT0
    by_cases hlt : i < n
    · have hlti : (i : Int) < (n : Int) := by omega
      have hil : i < l.length := by rw [hn.out]; exact hlt
      obtain ⟨g, o, rfl, tk⟩ := (HS.out.old BR).at_ i hil
      have hfit := HS.out.fit (l.getD i tk0) (by simp only [List.getD, List.getElem?_eq_getElem hil, Option.getD_some]; exact List.getElem_mem hil)
      have HTK : Hid (l.take (i + 1) = l.take i ++ [l.getD i tk0]) := by
        show _ = _
        rw [List.take_succ_eq_append_getElem hil]
        simp only [List.getD, List.getElem?_eq_getElem hil, Option.getD_some]
      have HMEM : Hid (l.getD i tk0 ∈ l) := by
        show _ ∈ _
        simp only [List.getD, List.getElem?_eq_getElem hil, Option.getD_some]; exact List.getElem_mem hil
      generalize l.getD i tk0 = t at *
      obtain ⟨lit, len, dist⟩ := t
      obtain ⟨x0, x1, x2⟩ := tk
      simp only at x0 x1 x2
      have HTA : Hid (Ta9 wr b (tals9 (l.take i))) := TA
      have HBR : Hid (Below w.heap.size w wr) := BR
      clear TA BR
      go_wp2_with fail
      have hW1 : (wr.alloc (.cells #[.int .u8 lit, .int .i64 len, .int .i64 dist] 97)).heap.size = wr.heap.size + 1 := by simp
      have y0 := heap_alloc_new wr (.cells #[.int .u8 lit, .int .i64 len, .int .i64 dist] 97)
      have b0 := below_box8 wr (.cells #[.int .u8 lit, .int .i64 len, .int .i64 dist] 97)
      generalize wr.alloc (.cells #[.int .u8 lit, .int .i64 len, .int .i64 dist] 97) = wa at *
      have y1 := heap_alloc_new wa (.cells #[.int .u8 lit, .int .i64 len, .int .i64 dist] 97)
      have b1 := below_box8 wa (.cells #[.int .u8 lit, .int .i64 len, .int .i64 dist] 97)
      generalize wa.alloc (.cells #[.int .u8 lit, .int .i64 len, .int .i64 dist] 97) = wb at *
      rw [hW1] at y1
      have y2 := (b1.block wr.heap.size (by omega)).trans y0
      have sg : SegT wb (some ⟨wr.heap.size + 1, 0, none⟩) [⟨lit, len, dist⟩] := by
        refine ⟨fun j hj => ?_, fun t ht => by rw [List.mem_singleton.1 ht]; exact hfit⟩
        have hj0 : j = 0 := by simpa using hj
        subst hj0
        exact ⟨_, _, rfl, ⟨(cell_of_row wb _ 0 _ _ _ y1).trans rfl, (cell_of_row wb _ 1 _ _ _ y1).trans rfl, (cell_of_row wb _ 2 _ _ _ y1).trans rfl⟩⟩
      have CS := psiz7 [⟨lit, len, dist⟩] (some ⟨wr.heap.size + 1, 0, none⟩) 1 1 rfl wb sg (by omega) (by intro h; cases h) (by omega)
      rw [show siz7 [⟨lit, len, dist⟩] = wid7 ⟨lit, len, dist⟩ from Nat.add_zero _] at CS
      have bwb : Below wr.heap.size wr wb := b0.trans (b1.mono (by omega))
      have HY2 : Hid (wb.heap[wr.heap.size]? = some (.cells #[.int .u8 lit, .int .i64 len, .int .i64 dist] 97 (0, 0))) := y2
      have hwb : wr.heap.size < wb.heap.size := (Array.getElem?_eq_some_iff.1 y2).1
      clear y0 y1 y2 b0 b1 sg
      refine CS.mono ?_
      rintro e wc ⟨rfl, bc⟩
      have TC := HTA.out.keep (((bwb.trans (bc.mono bwb.size))).block b HTA.out.lt)
      have BC : Below w.heap.size w wc := HBR.out.trans ((bwb.trans (bc.mono bwb.size)).mono HBR.out.size)
      have yc := (bc.block wr.heap.size hwb).trans HY2.out
      by_cases hmay : may7 ⟨lit, len, dist⟩
      · have hwid : wid7 ⟨lit, len, dist⟩ = if len = 0 then 1 else len.toNat := by unfold wid7; rw [if_pos hmay]
        have hmm := hmay
        unfold may7 at hmm
        simp only at hmm
        obtain ⟨v, hv⟩ : ∃ v, v = wid7 ⟨lit, len, dist⟩ := ⟨_, rfl⟩
        have HV : Hid (v = wid7 ⟨lit, len, dist⟩) := hv
        rw [← hv] at hwid
        rw [← hv]
        have hv1 : 1 ≤ v ∧ v ≤ 258 := by
          rw [hwid]
          split
          · omega
          · rename_i h; rw [if_neg h] at hmm; omega
        have hv0 : ¬ (v : Int) = 0 := by omega
        obtain ⟨X, hX⟩ : ∃ X, X = tals9 (l.take i) := ⟨_, rfl⟩
        have HXX : Hid (X = tals9 (l.take i)) := hX
        rw [← hX] at TC HBD
        have c0 := TC.cell (i := 0) (by omega)
        have f0 := TC.free 0
        have hz0 : 0 ≤ X.getD 0 0 ∧ X.getD 0 0 ≤ 300 * (i : Int) := by
          have hl2 : 0 < X.length := by rw [TC.len]; omega
          have hm : X.getD 0 0 ∈ X := by simp only [List.getD, List.getElem?_eq_getElem hl2, Option.getD_some]; exact List.getElem_mem hl2
          exact HBD.out _ hm
        have T1 := TC.inc (i := 0) (by omega) (v : Int) (by omega)
        have HX1 : Hid (∀ q ∈ inc9 X 0 (v : Int), 0 ≤ q ∧ q ≤ 300 * (i : Int) + (v : Int)) := inc_bd9 HBD.out (by omega) (by omega)
        obtain ⟨z, hz⟩ : ∃ z, z = X.getD 0 0 := ⟨_, rfl⟩
        rw [← hz] at c0 hz0 T1
        have i1 : IntKind.i64.wrap (z + (v : Int)) = z + (v : Int) := IntWalk.i64_in _ (by omega)
        have hbP : b ≠ wr.heap.size := by have := HTA.out.lt; omega
        have y1 : (wc.setCell ⟨b, 0, none⟩ (.int .i64 (z + (v : Int)))).heap[wr.heap.size]? = some (.cells #[.int .u8 lit, .int .i64 len, .int .i64 dist] 97 (0, 0)) := ((set_grown wc b 0 (.int .i64 (z + (v : Int)))).block wr.heap.size (Array.getElem?_eq_some_iff.1 yc).1 (by simp; omega)).trans yc
        have B1 : Below w.heap.size w (wc.setCell ⟨b, 0, none⟩ (.int .i64 (z + (v : Int)))) := BC.trans ((Below.refl _ _).grown (set_grown wc b 0 (.int .i64 (z + (v : Int)))) BC.size (fun k e => by cases e; exact HB.out))
        have d0 : (wc.setCell ⟨b, 0, none⟩ (.int .i64 (z + (v : Int)))).cell? ⟨wr.heap.size, 0, none⟩ = some (.int .u8 lit) := (cell_of_row _ _ 0 _ _ _ y1).trans rfl
        have d1 : (wc.setCell ⟨b, 0, none⟩ (.int .i64 (z + (v : Int)))).cell? ⟨wr.heap.size, 1, none⟩ = some (.int .i64 len) := (cell_of_row _ _ 1 _ _ _ y1).trans rfl
        have d2 : (wc.setCell ⟨b, 0, none⟩ (.int .i64 (z + (v : Int)))).cell? ⟨wr.heap.size, 2, none⟩ = some (.int .i64 dist) := (cell_of_row _ _ 2 _ _ _ y1).trans rfl
        have e0 : wc.cell? ⟨wr.heap.size, 0, none⟩ = some (.int .u8 lit) := (cell_of_row _ _ 0 _ _ _ yc).trans rfl
        have e1 : wc.cell? ⟨wr.heap.size, 1, none⟩ = some (.int .i64 len) := (cell_of_row _ _ 1 _ _ _ yc).trans rfl
        have e2 : wc.cell? ⟨wr.heap.size, 2, none⟩ = some (.int .i64 dist) := (cell_of_row _ _ 2 _ _ _ yc).trans rfl
        have HT1 : Hid (Ta9 (wc.setCell ⟨b, 0, none⟩ (.int .i64 (z + (v : Int)))) b (inc9 X 0 (v : Int))) := T1
        have HB1 : Hid (Below w.heap.size w (wc.setCell ⟨b, 0, none⟩ (.int .i64 (z + (v : Int))))) := B1
        have HMS : Hid (∀ t ∈ l.take (i + 1), may7 t) := by
          show ∀ t ∈ l.take (i + 1), may7 t
          rw [HTK.out]
          intro t ht
          rcases List.mem_append.1 ht with h | h
          · exact HM.out t h
          · rw [List.mem_singleton.1 h]; exact hmay
        have HTS : Hid (tals9 (l.take (i + 1)) = tst9 X ⟨lit, len, dist⟩) := by show _ = _; rw [HTK.out, tals9_snoc, HXX.out]
        have i7 : IntKind.i64.wrap ((i : Int) + 1) = (i : Int) + 1 := IntWalk.i64_in _ (by omega)
        clear T1 B1 hz TC BC y1 yc CS bc bwb hX hv hwid hmay
        go_wp2_with fail
        generalize wc.setCell ⟨b, 0, none⟩ (.int .i64 (z + (v : Int))) = w8 at *
        by_cases hlen : len = 0
        · subst hlen
          obtain ⟨k, hk⟩ : ∃ k : Nat, lit = (k : Int) := ⟨lit.toNat, by have := hfit.1; simp only at this; omega⟩
          have hk255 : k ≤ 255 := by have := hfit.1; simp only at this; omega
          have hkX : (inc9 X 0 (v : Int)).getD (2 + k) 0 < 1125899906842624 := by
            have hl2 : 2 + k < (inc9 X 0 (v : Int)).length := by rw [HT1.out.len]; omega
            have hm : (inc9 X 0 (v : Int)).getD (2 + k) 0 ∈ inc9 X 0 (v : Int) := by simp only [List.getD, List.getElem?_eq_getElem hl2, Option.getD_some]; exact List.getElem_mem hl2
            have := HX1.out _ hm
            omega
          have CA := padd9_lit b (inc9 X 0 (v : Int)) k dist w8 HT1.out hk255 hkX
          rw [← hk] at CA
          have HTE : Hid (tst9 X ⟨lit, 0, dist⟩ = inc9 (inc9 X 0 (v : Int)) (2 + k) 1) := by
            show _ = _
            unfold tst9
            rw [if_pos rfl, ← HV.out, show (⟨lit, 0, dist⟩ : Tok7).lit.toNat = k by simp only; omega]
          have HBD2 : Hid (∀ q ∈ inc9 (inc9 X 0 (v : Int)) (2 + k) 1, 0 ≤ q ∧ q ≤ 300 * (i : Int) + (v : Int) + 1) := inc_bd9 HX1.out (by omega) (by omega)
          refine CA.mono ?_
          rintro e w9 ⟨rfl, T9, k9⟩
          have B9 : Below w.heap.size w w9 := HB1.out.trans (k9.below (fun q e => by rw [e]; exact HB.out) HB1.out.size)
          have HR : Hid (Ta9 w9 b (tals9 (l.take (i + 1))) ∧ ∀ q ∈ tals9 (l.take (i + 1)), 0 ≤ q ∧ q ≤ 300 * ((i + 1 : Nat) : Int)) := by
            rw [HTS.out, HTE.out]
            exact ⟨T9, fun q hq => by have := HBD2.out q hq; omega⟩
          clear CA T9 k9 hk
          go_wp2_with fail
          go_roundw
          case rel => exact ⟨i + 1, by omega, by go_num, HMS, HR.out.1, HR.out.2, B9⟩
          case measure => simp [intOf]; omega
        · rw [if_neg hlen] at hmm
          have CA := padd9_mat b (inc9 X 0 (v : Int)) lit len dist w8 HT1.out (fun q hq => by have := HX1.out q hq; omega) ⟨hmm.1, hmm.2.1⟩ ⟨hmm.2.2.1, hmm.2.2.2.1⟩
          have HTE : Hid (tst9 X ⟨lit, len, dist⟩ = inc9 (inc9 (inc9 (inc9 (inc9 X 0 (v : Int)) (259 + lix9 len) 1) 1 (lnS9.getD (lix9 len * 2 + 1) 0)) (288 + dix9 dist) 1) 1 (dsS9.getD (dix9 dist * 2 + 1) 0)) := by
            show _ = _
            unfold tst9
            rw [if_neg hlen, ← HV.out]
          have hm1 : 0 ≤ lnS9.getD (lix9 len * 2 + 1) 0 ∧ lnS9.getD (lix9 len * 2 + 1) 0 ≤ 13 := lnb9 _
          have hm2 : 0 ≤ dsS9.getD (dix9 dist * 2 + 1) 0 ∧ dsS9.getD (dix9 dist * 2 + 1) 0 ≤ 13 := dsb9 _
          have HBD2 := inc_bd9 (i := 1) (v := dsS9.getD (dix9 dist * 2 + 1) 0) (inc_bd9 (i := 288 + dix9 dist) (v := 1) (inc_bd9 (i := 1) (v := lnS9.getD (lix9 len * 2 + 1) 0) (inc_bd9 (i := 259 + lix9 len) (v := 1) HX1.out (by omega) (by omega)) hm1.1 (by omega)) (by omega) (by omega)) hm2.1 (by omega)
          refine CA.mono ?_
          rintro e w9 ⟨rfl, T9, k9⟩
          have B9 : Below w.heap.size w w9 := HB1.out.trans (k9.below (fun q e => by rw [e]; exact HB.out) HB1.out.size)
          have HR : Hid (Ta9 w9 b (tals9 (l.take (i + 1))) ∧ ∀ q ∈ tals9 (l.take (i + 1)), 0 ≤ q ∧ q ≤ 300 * ((i + 1 : Nat) : Int)) := by
            rw [HTS.out, HTE.out]
            exact ⟨T9, fun q hq => by have := HBD2 q hq; omega⟩
          clear CA T9 k9 HBD2
          go_wp2_with fail
          go_roundw
          case rel => exact ⟨i + 1, by omega, by go_num, HMS, HR.out.1, HR.out.2, B9⟩
          case measure => simp [intOf]; omega
      · have hw0 : wid7 ⟨lit, len, dist⟩ = 0 := by unfold wid7; rw [if_neg hmay]
        rw [hw0]
        have HNO : Hid (¬ ∀ t ∈ l, may7 t) := fun h => hmay (h _ HMEM.out)
        clear hmay hw0 TC yc CS bc bwb
        go_wp2_with fail
        go_ret2
        exact .inr ⟨HNO.out, rfl, BC⟩
    · obtain rfl : i = n := by omega
      have hta : l.take i = l := List.take_of_length_le (by rw [hn.out]; exact Nat.le_refl _)
      rw [hta] at HM TA HBD
      have c0 := TA.cell (i := 258) (by omega)
      have f0 := TA.free 258
      generalize (tals9 l).getD 258 0 = z at c0
      have TF : Ta9 (wr.setCell ⟨b, 258, none⟩ (.int .i64 1)) b (tal9 l) := TA.set (i := 258) (by omega) 1 (by omega)
      have BF : Below w.heap.size w (wr.setCell ⟨b, 258, none⟩ (.int .i64 1)) := BR.trans ((Below.refl _ _).grown (set_grown wr b 258 (.int .i64 1)) BR.size (fun k e => by cases e; exact HB.out))
      have HTF : Hid (Ta9 (wr.setCell ⟨b, 258, none⟩ (.int .i64 1)) b (tal9 l) ∧ Below w.heap.size w (wr.setCell ⟨b, 258, none⟩ (.int .i64 1))) := ⟨TF, BF⟩
      clear TF BF TA BR hta
      go_wp2_with fail
      go_ret2
      exact .inl ⟨HM.out, b, HB.out, rfl, HTF.out.1, HTF.out.2⟩
end Go.Proofs.YtcifalelnfeggaaGreatDoor

namespace Go.Proofs.YtcifalelnfeggaaGreatDoor
open Go.RowKit
set_option linter.unusedVariables false

/-! The landed block: forms. -/
def fnv9 (n : Nat) : Value := .func (.func n) #[] #[]
def frm9 : Array Value := #[.int .i64 65535, fnv9 74, fnv9 75, fnv9 76, .int .i64 16908288, fnv9 77, fnv9 78, fnv9 79, .int .i64 16908288, fnv9 80, fnv9 81, fnv9 82]
theorem info_frm9 : (Tryz.prog.info? 115).map (·.size) = some frm9.size := by kernel_rfl
set_option maxRecDepth 100000 in
set_option maxHeartbeats 4000000 in
theorem pforms9 (w : World) :
    Calls Tryz.prog 53 #[] w fun e w' => e = .returned (.agg frm9) ∧ Below w.heap.size w w' := by
  go_enter Tryz.func53, Tryz.ntmps53
  go_wp2_with (first
    | (refine wpList_store_row rfl 115 (.tmp 0) (.tmp 4) rfl w.heap.size frm9 rfl (by kernel_rfl) _ _ (heap_alloc_new w _) (by kernel_rfl) (by kernel_rfl) (by kernel_rfl) ?_)
    | (refine wpList_build rfl 115 _ rfl (by kernel_rfl) ?_)
    | (refine wpList_build rfl 111 _ rfl (by kernel_rfl) ?_))
  refine bodyPost_ret (v := .agg frm9) (results_cell_row rfl _ _ w.heap.size _ _ _ _ rfl (setRow_heap _ _ _ _ _ _ (heap_alloc_new w _)) Tryz.underlying115 rfl info_frm9) rfl ⟨rfl, ?_⟩
  exact ((Below.refl w.heap.size w).alloc (Nat.le_refl _) _).grown (grown_setRow _ _ _) (by simp) (fun j e => by cases e; exact Nat.le_refl _)
end Go.Proofs.YtcifalelnfeggaaGreatDoor
