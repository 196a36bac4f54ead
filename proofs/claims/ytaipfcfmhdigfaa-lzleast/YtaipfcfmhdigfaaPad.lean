import Derived.Test.YtaipfcfmhdigfaaProg
import Derived.WalkKit
import Derived.WalkSpells
import Derived.Test.YtaipfcfmhdigfaaPab
import Derived.Test.YtaipfcfmhdigfaaPaa
import Derived.Deep.QuietTactic
import Derived.BigQuiet
import Derived.Deep.RegionHeld3
import Derived.Test.YtaipfcfmhdigfaaPac
namespace Go.Proofs.Ytaipfcfmhdigfaa
open Go.RowKit
set_option linter.unusedVariables false

/-! Tokens in memory: three cells each. -/
def Tok7.val (t : Tok7) : Value := .agg #[.int .u8 t.lit, .int .i64 t.len, .int .i64 t.dist]
structure TkAt (w : World) (g o : Nat) (t : Tok7) : Prop where
  c0 : w.cell? ⟨g, o, none⟩ = some (.int .u8 t.lit)
  c1 : w.cell? ⟨g, o + 1, none⟩ = some (.int .i64 t.len)
  c2 : w.cell? ⟨g, o + 2, none⟩ = some (.int .i64 t.dist)
theorem TkAt.of_block {w w' : World} {g o : Nat} {x : Tok7} (h : TkAt w g o x) (hb : w'.heap[g]? = w.heap[g]?) : TkAt w' g o x :=
  ⟨(World.cell?_of_block (a := ⟨g, o, none⟩) hb).trans h.c0, (World.cell?_of_block (a := ⟨g, o + 1, none⟩) hb).trans h.c1, (World.cell?_of_block (a := ⟨g, o + 2, none⟩) hb).trans h.c2⟩
theorem TkAt.lt {w : World} {g o : Nat} {x : Tok7} (h : TkAt w g o x) : g < w.heap.size := World.block_lt_of_cell? w _ h.c0
abbrev tk0 : Tok7 := ⟨0, 0, 0⟩
def Tok7.Fit (t : Tok7) : Prop := (0 ≤ t.lit ∧ t.lit ≤ 255) ∧ (-9223372036854775808 ≤ t.len ∧ t.len ≤ 9223372036854775807) ∧ (-9223372036854775808 ≤ t.dist ∧ t.dist ≤ 9223372036854775807)
structure SegT (w : World) (a : Option Addr) (l : List Tok7) : Prop where
  at_ : ∀ i, i < l.length → ∃ b off, a = some ⟨b, off, none⟩ ∧ TkAt w b (off + i * 3) (l.getD i tk0)
  fit : ∀ t ∈ l, t.Fit
theorem SegT.nil (w : World) (a : Option Addr) : SegT w a [] := ⟨fun i h => by simp at h, fun t h => by simp at h⟩
theorem SegT.kp {w w' : World} {S : Nat → Prop} {a : Option Addr} {l : List Tok7} (h : SegT w a l) (hb : Kp S w w') (hn : ∀ b off, a = some ⟨b, off, none⟩ → 0 < l.length → ¬ S b) : SegT w' a l := by
  refine ⟨fun i hi => ?_, h.fit⟩
  obtain ⟨b, off, ha, ht⟩ := h.at_ i hi
  exact ⟨b, off, ha, ht.of_block (hb.block b ht.lt (hn b off ha (by omega)))⟩
theorem SegT.old {w w' : World} {a : Option Addr} {l : List Tok7} (h : SegT w a l) (hb : Below w.heap.size w w') : SegT w' a l := h.kp (S := fun _ => False) (Kp.of_below hb) (fun _ _ _ _ e => e)
theorem SegT.lt {w : World} {a : Option Addr} {l : List Tok7} (h : SegT w a l) : ∀ b off, a = some ⟨b, off, none⟩ → 0 < l.length → b < w.heap.size := by
  intro b off e hl
  obtain ⟨b', off', ha, ht⟩ := h.at_ 0 hl
  rw [e] at ha
  cases ha
  exact ht.lt
theorem SegT.take {w : World} {a : Option Addr} {l : List Tok7} (h : SegT w a l) (n : Nat) : SegT w a (l.take n) := by
  refine ⟨fun i hi => ?_, fun t ht => h.fit t (List.mem_of_mem_take ht)⟩
  rw [List.length_take] at hi
  obtain ⟨b, off, ha, ht⟩ := h.at_ i (by omega)
  refine ⟨b, off, ha, ?_⟩
  have : (l.take n).getD i tk0 = l.getD i tk0 := by simp [List.getD, show i < n by omega]
  rw [this]
  exact ht
theorem getD_memT {l : List Tok7} {i : Nat} (h : i < l.length) : l.getD i tk0 ∈ l := by simp [List.getD, h]
theorem dropT {l : List Tok7} {i : Nat} (h : i < l.length) : l.drop i = l.getD i tk0 :: l.drop (i + 1) := by
  rw [List.drop_eq_getElem_cons h]
  simp [List.getD, h]
theorem takeT {l : List Tok7} {i : Nat} (h : i < l.length) : l.take (i + 1) = l.take i ++ [l.getD i tk0] := by
  rw [List.take_succ_eq_append_getElem h]; simp [List.getD, h]
theorem below_box {w : World} (cs : Array Value) (t : TypeId) : Below w.heap.size w (w.alloc (.cells cs t)) := (Below.refl _ _).alloc (Nat.le_refl _) _

/-! The document's May, Width, Check, Size. -/
set_option maxRecDepth 100000 in
set_option maxHeartbeats 1000000 in
theorem rmay7 (t : Tok7) (w : World) : Calls Try.prog 35 #[t.val] w fun e w' => e = .returned (.bool (decide (may7 t))) ∧ Below w.heap.size w w' := by
  obtain ⟨z, n, d⟩ := t
  unfold Tok7.val
  simp only
  by_cases h0 : n = 0
  · subst h0
    by_cases h1 : d = 0
    · have HM : Hid (decide (may7 ⟨z, 0, d⟩) = true) := by show _ = _; simp [may7, h1]
      rw [HM.out]
      subst h1
      go_enter Try.func35, Try.ntmps35
      go_wp2_with fail
      go_ret
      exact ⟨rfl, below_box _ _⟩
    · have HM : Hid (decide (may7 ⟨z, 0, d⟩) = false) := by show _ = _; simp [may7, h1]
      rw [HM.out]
      go_enter Try.func35, Try.ntmps35
      go_wp2_with fail
      go_ret
      exact ⟨by simp [h1], below_box _ _⟩
  · have hm : may7 ⟨z, n, d⟩ ↔ (3 ≤ n ∧ n ≤ 258 ∧ 1 ≤ d ∧ d ≤ 32768 ∧ z = 0) := by unfold may7; simp only; rw [if_neg h0]
    by_cases h1 : 3 ≤ n
    · by_cases h2 : n ≤ 258
      · by_cases h3 : 1 ≤ d
        · by_cases h4 : d ≤ 32768
          · by_cases h5 : z = 0
            · have HM : Hid (decide (may7 ⟨z, n, d⟩) = true) := decide_eq_true (hm.2 ⟨h1, h2, h3, h4, h5⟩)
              rw [HM.out]
              subst h5
              clear hm
              go_enter Try.func35, Try.ntmps35
              go_wp2_with fail
              go_ret
              exact ⟨rfl, below_box _ _⟩
            · have HM : Hid (decide (may7 ⟨z, n, d⟩) = false) := by show _ = _; simp [hm, h5]
              rw [HM.out]
              clear hm
              go_enter Try.func35, Try.ntmps35
              go_wp2_with fail
              go_ret
              exact ⟨by simp [h5], below_box _ _⟩
          · have HM : Hid (decide (may7 ⟨z, n, d⟩) = false) := by show _ = _; simp [hm, h4]
            rw [HM.out]
            clear hm
            go_enter Try.func35, Try.ntmps35
            go_wp2_with fail
            go_ret
            exact ⟨rfl, below_box _ _⟩
        · have HM : Hid (decide (may7 ⟨z, n, d⟩) = false) := by show _ = _; simp [hm, h3]
          rw [HM.out]
          clear hm
          go_enter Try.func35, Try.ntmps35
          go_wp2_with fail
          go_ret
          exact ⟨rfl, below_box _ _⟩
      · have HM : Hid (decide (may7 ⟨z, n, d⟩) = false) := by show _ = _; simp [hm, h2]
        rw [HM.out]
        clear hm
        go_enter Try.func35, Try.ntmps35
        go_wp2_with fail
        go_ret
        exact ⟨rfl, below_box _ _⟩
    · have HM : Hid (decide (may7 ⟨z, n, d⟩) = false) := by show _ = _; simp [hm, h1]
      rw [HM.out]
      clear hm
      go_enter Try.func35, Try.ntmps35
      go_wp2_with fail
      go_ret
      exact ⟨rfl, below_box _ _⟩
set_option maxRecDepth 100000 in
set_option maxHeartbeats 1000000 in
theorem rwidth7 (t : Tok7) (w : World) : Calls Try.prog 36 #[t.val] w fun e w' => e = .returned (.int .i64 (wid7 t : Int)) ∧ Below w.heap.size w w' := by
  have CM := rmay7 t
  obtain ⟨wA, hwA⟩ : ∃ wA, wA = w.alloc (.cells #[.int .u8 t.lit, .int .i64 t.len, .int .i64 t.dist] 73) := ⟨_, rfl⟩
  have bA : Below w.heap.size w wA := by rw [hwA]; exact below_box _ _
  have hA : TkAt wA w.heap.size 0 t := by
    have h : wA.heap[w.heap.size]? = some (.cells #[.int .u8 t.lit, .int .i64 t.len, .int .i64 t.dist] 73 (0, 0)) := by rw [hwA]; exact heap_alloc_new w _
    refine ⟨?_, ?_, ?_⟩ <;> simp [World.cell?, h]
  have hAl := hA.lt
  have CMA := CM wA
  have hF : may7 t → ¬ t.len = 0 → (wid7 t : Int) = t.len := fun h1 h2 => by
    unfold wid7
    rw [if_pos h1, if_neg h2]
    unfold may7 at h1
    rw [if_neg h2] at h1
    omega
  have hZ : ¬ may7 t → wid7 t = 0 := fun h => by unfold wid7; rw [if_neg h]
  have hO : may7 t → t.len = 0 → wid7 t = 1 := fun h1 h2 => by unfold wid7; rw [if_pos h1, if_pos h2]
  have HWA : Hid (wA = w.alloc (.cells #[.int .u8 t.lit, .int .i64 t.len, .int .i64 t.dist] 73)) := hwA
  have hB : ∀ w', Below wA.heap.size wA w' → w'.cell? ⟨w.heap.size, 1, none⟩ = some (.int .i64 t.len) := fun w' hb => (hb.cell (p := ⟨w.heap.size, 1, none⟩) hAl).trans hA.c1
  have HB : Hid _ := hB
  clear hwA hA hB CM
  obtain ⟨z, n, d⟩ := t
  unfold Tok7.val at CMA ⊢
  simp only at CMA hF hZ hO HWA HB ⊢
  by_cases hm : may7 ⟨z, n, d⟩
  · rw [decide_eq_true hm] at CMA
    by_cases h0 : n = 0
    · have HE : Hid (wid7 ⟨z, n, d⟩ = 1) := hO hm h0
      clear hF hZ hO
      generalize wid7 ⟨z, n, d⟩ = W at *
      subst h0
      go_enter Try.func36, Try.ntmps36
      go_wp2_with fail
      rw [← HWA.out]
      refine CMA.mono ?_
      rintro e w1 ⟨rfl, b1⟩
      have c1 := HB.out w1 b1
      go_wp2_with fail
      go_ret
      exact ⟨by rw [HE.out]; rfl, bA.trans (b1.mono bA.size)⟩
    · have HE : Hid ((wid7 ⟨z, n, d⟩ : Int) = n) := hF hm h0
      clear hF hZ hO
      generalize wid7 ⟨z, n, d⟩ = W at *
      go_enter Try.func36, Try.ntmps36
      go_wp2_with fail
      rw [← HWA.out]
      refine CMA.mono ?_
      rintro e w1 ⟨rfl, b1⟩
      have c1 := HB.out w1 b1
      go_wp2_with fail
      go_ret
      exact ⟨by rw [HE.out]; rfl, bA.trans (b1.mono bA.size)⟩
  · rw [decide_eq_false hm] at CMA
    have HE : Hid (wid7 ⟨z, n, d⟩ = 0) := hZ hm
    clear hF hZ hO
    generalize wid7 ⟨z, n, d⟩ = W at *
    go_enter Try.func36, Try.ntmps36
    go_wp2_with fail
    rw [← HWA.out]
    refine CMA.mono ?_
    rintro e w1 ⟨rfl, b1⟩
    go_wp2_with fail
    go_ret
    exact ⟨by rw [HE.out]; rfl, bA.trans (b1.mono bA.size)⟩
end Go.Proofs.Ytaipfcfmhdigfaa

namespace Go.Proofs.Ytaipfcfmhdigfaa
open Go.RowKit
set_option linter.unusedVariables false

theorem wid7_le (t : Tok7) : wid7 t ≤ 258 := by
  have := siz7_le [t]
  simpa [siz7] using this
theorem boxT {w wA : World} {t : Tok7} (hA : wA = w.alloc (.cells #[.int .u8 t.lit, .int .i64 t.len, .int .i64 t.dist] 73)) : TkAt wA w.heap.size 0 t := by
  have h : wA.heap[w.heap.size]? = some (.cells #[.int .u8 t.lit, .int .i64 t.len, .int .i64 t.dist] 73 (0, 0)) := by rw [hA]; exact heap_alloc_new w _
  refine ⟨?_, ?_, ?_⟩ <;> simp [World.cell?, h]
set_option maxRecDepth 100000 in
set_option maxHeartbeats 2000000 in
theorem rcheck7 (win : Int) (l : List Tok7) (a : Option Addr) (n cap : Nat) (hn : Hid (l.length = n)) (w : World) (hs : SegT w a l) (hl : n ≤ 1073741824) :
    Calls Try.prog 12 #[.int .i64 win, .slice a n cap] w fun e w' => e = .returned (.tuple #[.int .i64 ((check7 win l).1 : Int), .int .i64 (check7 win l).2]) ∧ Below w.heap.size w w' := by
  unfold check7
  by_cases h1 : win < 1
  · rw [if_pos (.inl h1)]
    go_enter Try.func12, Try.ntmps12
    go_wp2_with fail
    go_ret2
    exact ⟨rfl, Below.refl _ _⟩
  · by_cases h2 : 32768 < win
    · rw [if_pos (.inr h2)]
      go_enter Try.func12, Try.ntmps12
      go_wp2_with fail
      go_ret2
      exact ⟨rfl, Below.refl _ _⟩
    · rw [if_neg (by omega)]
      go_enter Try.func12, Try.ntmps12
      go_wp2_with fail
      go_loopw [6, 17] (fun tt ti wr => ∃ i tot : Nat, i ≤ n ∧ ti = .int .i64 (i : Int) ∧ tt = .int .i64 (tot : Int) ∧ tot ≤ 258 * i ∧ Hid (chk7 win l 0 0 = chk7 win (l.drop i) tot i) ∧ Below w.heap.size w wr) (fun _ ti _ => n - (intOf ti).toNat)
      case atStart => exact ⟨0, 0, by omega, rfl, rfl, by omega, (show _ = _ by simp), Below.refl _ _⟩
      case round =>
        obtain ⟨i, tot, hi, rfl, rfl, htot, HC, BR⟩ := hrel
        by_cases hin : i < n
        · have hii : (i : Int) < (n : Int) := by omega
          have hil : i < l.length := by rw [hn.out]; exact hin
          have hD : l.drop i = l.getD i tk0 :: l.drop (i + 1) := dropT hil
          obtain ⟨b, off, rfl, hT⟩ := (hs.old BR).at_ i hil
          rw [hD, chk7] at HC
          have hw := wid7_le (l.getD i tk0)
          have CM := rmay7 (l.getD i tk0)
          have CW := rwidth7 (l.getD i tk0)
          generalize l.getD i tk0 = t at *
          obtain ⟨wA, hwA⟩ : ∃ wA, wA = wr.alloc (.cells #[.int .u8 t.lit, .int .i64 t.len, .int .i64 t.dist] 73) := ⟨_, rfl⟩
          have bA : Below wr.heap.size wr wA := by rw [hwA]; exact below_box _ _
          have tA : TkAt wA wr.heap.size 0 t := boxT hwA
          have HWA : Hid (wA = wr.alloc (.cells #[.int .u8 t.lit, .int .i64 t.len, .int .i64 t.dist] 73)) := hwA
          have BA : Below w.heap.size w wA := BR.trans (bA.mono BR.size)
          obtain ⟨ob, hob⟩ : ∃ ob, ob = wr.heap.size := ⟨_, rfl⟩
          have HOB : Hid (ob = wr.heap.size) := hob
          rw [← hob] at tA
          have hol := tA.lt
          have hc0 := hT.c0
          have hc1 := hT.c1
          have hc2 := hT.c2
          have CMA : Hid (∀ W, Calls Try.prog 35 #[t.val] W fun e w' => e = .returned (.bool (decide (may7 t))) ∧ Below W.heap.size W w') := CM
          have CWA : Hid (∀ W, Calls Try.prog 36 #[t.val] W fun e w' => e = .returned (.int .i64 (wid7 t : Int)) ∧ Below W.heap.size W w') := CW
          have HTA : Hid (∀ W, Below wA.heap.size wA W → TkAt W ob 0 t) := fun W hW => tA.of_block (hW.block ob hol)
          have HFAR : Hid (far7 win tot t ↔ 0 < t.len ∧ (win < t.dist ∨ (tot : Int) < t.dist)) := Iff.rfl
          have a0 := tA.c0
          have a1 := tA.c1
          have a2 := tA.c2
          clear hwA hob hD CM CW hT tA
          obtain ⟨z, ln, ds⟩ := t
          unfold Tok7.val at CMA CWA
          simp only at hc0 hc1 hc2 a0 a1 a2 CMA CWA HWA HFAR
          by_cases hm : may7 ⟨z, ln, ds⟩
          · rw [if_neg (by simpa using hm)] at HC
            rw [decide_eq_true hm] at CMA
            by_cases hf : far7 win tot ⟨z, ln, ds⟩
            · rw [if_pos hf] at HC
              obtain ⟨f1, f2⟩ := HFAR.out.1 hf
              by_cases f3 : win < ds
              · clear f2
                go_wp2_with fail
                rw [← HWA.out, ← HOB.out]
                refine (CMA.out wA).mono ?_
                rintro e w1 ⟨rfl, b1⟩
                obtain ⟨e0, e1, e2⟩ := HTA.out w1 b1
                simp only at e0 e1 e2
                go_wp2_with fail
                go_ret2
                exact ⟨by rw [HC.out]; rfl, BA.trans (b1.mono BA.size)⟩
              · have f4 : (tot : Int) < ds := by rcases f2 with e | e; exact absurd e f3; exact e
                clear f2
                go_wp2_with fail
                rw [← HWA.out, ← HOB.out]
                refine (CMA.out wA).mono ?_
                rintro e w1 ⟨rfl, b1⟩
                obtain ⟨e0, e1, e2⟩ := HTA.out w1 b1
                simp only at e0 e1 e2
                go_wp2_with fail
                go_ret2
                exact ⟨by rw [HC.out]; rfl, BA.trans (b1.mono BA.size)⟩
            · rw [if_neg hf] at HC
              have hnf : ¬ (0 < ln ∧ (win < ds ∨ (tot : Int) < ds)) := fun e => hf (HFAR.out.2 e)
              obtain ⟨t2, ht2⟩ : ∃ t2, t2 = tot + wid7 ⟨z, ln, ds⟩ := ⟨_, rfl⟩
              have hwt : IntKind.i64.wrap ((tot : Int) + (wid7 ⟨z, ln, ds⟩ : Int)) = (t2 : Int) := by rw [IntWalk.i64_in _ (by omega)]; omega
              rw [← ht2] at HC
              have ht3 : t2 ≤ 258 * (i + 1) := by omega
              clear hf HFAR ht2
              generalize wid7 ⟨z, ln, ds⟩ = W at *
              by_cases f1 : 0 < ln
              · have f2 : ¬ win < ds := fun e => hnf ⟨f1, .inl e⟩
                have f3 : ¬ (tot : Int) < ds := fun e => hnf ⟨f1, .inr e⟩
                clear hnf
                go_wp2_with fail
                rw [← HWA.out, ← HOB.out]
                refine (CMA.out wA).mono ?_
                rintro e w1 ⟨rfl, b1⟩
                obtain ⟨e0, e1, e2⟩ := HTA.out w1 b1
                simp only at e0 e1 e2
                go_wp2_with fail
                refine (CWA.out w1).mono ?_
                rintro e w2 ⟨rfl, b2⟩
                have B2 := (BA.trans (b1.mono BA.size)).trans (b2.mono (Nat.le_trans BA.size b1.size))
                go_wp2_with fail
                go_roundw
                case rel => exact ⟨i + 1, t2, by omega, by go_num, rfl, ht3, HC, B2⟩
                case measure => simp [intOf]; omega
              · clear hnf
                go_wp2_with fail
                rw [← HWA.out, ← HOB.out]
                refine (CMA.out wA).mono ?_
                rintro e w1 ⟨rfl, b1⟩
                obtain ⟨e0, e1, e2⟩ := HTA.out w1 b1
                simp only at e0 e1 e2
                go_wp2_with fail
                refine (CWA.out w1).mono ?_
                rintro e w2 ⟨rfl, b2⟩
                have B2 := (BA.trans (b1.mono BA.size)).trans (b2.mono (Nat.le_trans BA.size b1.size))
                go_wp2_with fail
                go_roundw
                case rel => exact ⟨i + 1, t2, by omega, by go_num, rfl, ht3, HC, B2⟩
                case measure => simp [intOf]; omega
          · rw [if_pos hm] at HC
            rw [decide_eq_false hm] at CMA
            go_wp2_with fail
            rw [← HWA.out, ← HOB.out]
            refine (CMA.out wA).mono ?_
            rintro e w1 ⟨rfl, b1⟩
            go_wp2_with fail
            go_ret2
            exact ⟨by rw [HC.out]; rfl, BA.trans (b1.mono BA.size)⟩
        · have hge : ¬ (i : Int) < (n : Int) := by omega
          have HE : Hid (chk7 win l 0 0 = (0, 0)) := by
            show _ = _
            rw [HC.out, List.drop_of_length_le (by rw [hn.out]; omega)]
            rfl
          clear HC
          go_wp2_with fail
          go_ret2
          exact ⟨by rw [HE.out]; rfl, BR⟩
set_option maxRecDepth 100000 in
set_option maxHeartbeats 1000000 in
theorem rsize7 (l : List Tok7) (a : Option Addr) (n cap : Nat) (hn : Hid (l.length = n)) (w : World) (hs : SegT w a l) (hl : n ≤ 1073741824) :
    Calls Try.prog 17 #[.slice a n cap] w fun e w' => e = .returned (.int .i64 (siz7 l : Int)) ∧ Below w.heap.size w w' := by
  go_enter Try.func17, Try.ntmps17
  go_wp2_with fail
  go_loopw [3, 8] (fun tt ti wr => ∃ i tot : Nat, i ≤ n ∧ ti = .int .i64 (i : Int) ∧ tt = .int .i64 (tot : Int) ∧ tot ≤ 258 * i ∧ Hid (siz7 l = tot + siz7 (l.drop i)) ∧ Below w.heap.size w wr) (fun _ ti _ => n - (intOf ti).toNat)
  case atStart => exact ⟨0, 0, by omega, rfl, rfl, by omega, (show _ = _ by simp), Below.refl _ _⟩
  case round =>
    obtain ⟨i, tot, hi, rfl, rfl, htot, HC, BR⟩ := hrel
    by_cases hin : i < n
    · have hii : (i : Int) < (n : Int) := by omega
      have hil : i < l.length := by rw [hn.out]; exact hin
      have hD : l.drop i = l.getD i tk0 :: l.drop (i + 1) := dropT hil
      obtain ⟨b, off, rfl, hT⟩ := (hs.old BR).at_ i hil
      rw [hD, siz7] at HC
      have hw := wid7_le (l.getD i tk0)
      have CW := rwidth7 (l.getD i tk0)
      generalize l.getD i tk0 = t at *
      obtain ⟨wA, hwA⟩ : ∃ wA, wA = wr.alloc (.cells #[.int .u8 t.lit, .int .i64 t.len, .int .i64 t.dist] 73) := ⟨_, rfl⟩
      have bA : Below wr.heap.size wr wA := by rw [hwA]; exact below_box _ _
      have HWA : Hid (wA = wr.alloc (.cells #[.int .u8 t.lit, .int .i64 t.len, .int .i64 t.dist] 73)) := hwA
      have BA : Below w.heap.size w wA := BR.trans (bA.mono BR.size)
      have hc0 := hT.c0
      have hc1 := hT.c1
      have hc2 := hT.c2
      have CWA : Hid (∀ W, Calls Try.prog 36 #[t.val] W fun e w' => e = .returned (.int .i64 (wid7 t : Int)) ∧ Below W.heap.size W w') := CW
      obtain ⟨t2, ht2⟩ : ∃ t2, t2 = tot + wid7 t := ⟨_, rfl⟩
      have hwt : IntKind.i64.wrap ((tot : Int) + (wid7 t : Int)) = (t2 : Int) := by rw [IntWalk.i64_in _ (by omega)]; omega
      have HC2 : Hid (siz7 l = t2 + siz7 (l.drop (i + 1))) := by have := HC.out; show _ = _; omega
      have ht3 : t2 ≤ 258 * (i + 1) := by omega
      clear hwA hD CW hT ht2 HC
      obtain ⟨z, ln, ds⟩ := t
      unfold Tok7.val at CWA
      simp only at hc0 hc1 hc2 CWA HWA
      generalize wid7 ⟨z, ln, ds⟩ = W at *
      go_wp2_with fail
      rw [← HWA.out]
      refine (CWA.out wA).mono ?_
      rintro e w2 ⟨rfl, b2⟩
      have B2 := BA.trans (b2.mono BA.size)
      go_wp2_with fail
      go_roundw
      case rel => exact ⟨i + 1, t2, by omega, by go_num, rfl, ht3, HC2, B2⟩
      case measure => simp [intOf]; omega
    · have hge : ¬ (i : Int) < (n : Int) := by omega
      have HE : Hid (siz7 l = tot) := by
        show _ = _
        rw [HC.out, List.drop_of_length_le (by rw [hn.out]; omega)]
        rfl
      clear HC
      go_wp2_with fail
      go_ret
      exact ⟨by rw [HE.out]; rfl, BR⟩
end Go.Proofs.Ytaipfcfmhdigfaa
