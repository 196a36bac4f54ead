import Derived.Test.YtiankbopnjhhaaaGreatDoorPk
import Derived.Laws.MakeOwn
import Derived.Test.YtiankbopnjhhaaaGreatDoorPj
namespace Go.Proofs.YtiankbopnjhhaaaGreatDoor
open Go.RowKit
set_option linter.unusedVariables false

/-! The landed lz: length, Check, Size, Expand, Options. -/
theorem boxK {w wA : World} {t : Tok7} (hA : wA = w.alloc (.cells #[.int .u8 t.lit, .int .i64 t.len, .int .i64 t.dist] 97)) : TkAt wA w.heap.size 0 t := by
  have h : wA.heap[w.heap.size]? = some (.cells #[.int .u8 t.lit, .int .i64 t.len, .int .i64 t.dist] 97 (0, 0)) := by rw [hA]; exact heap_alloc_new w _
  refine ⟨?_, ?_, ?_⟩ <;> simp [World.cell?, h]
set_option maxRecDepth 100000 in
set_option maxHeartbeats 2000000 in
theorem plen7 (t : Tok7) (w : World) : Calls Tryz.prog 91 #[t.val] w fun e w' => e = .returned (.int .i64 (wid7 t : Int)) ∧ Below w.heap.size w w' := by
  obtain ⟨z, n, d⟩ := t
  unfold Tok7.val
  simp only
  by_cases h0 : n = 0
  · subst h0
    by_cases h1 : d = 0
    · have HM : Hid (wid7 ⟨z, 0, d⟩ = 1) := by show _ = _; simp [wid7, may7, h1]
      rw [HM.out]
      subst h1
      go_enter Tryz.func91, Tryz.ntmps91
      go_wp2_with fail
      go_ret
      exact ⟨rfl, below_box _ _⟩
    · have HM : Hid (wid7 ⟨z, 0, d⟩ = 0) := by show _ = _; simp [wid7, may7, h1]
      rw [HM.out]
      go_enter Tryz.func91, Tryz.ntmps91
      go_wp2_with fail
      go_ret
      exact ⟨rfl, below_box _ _⟩
  · have hm : may7 ⟨z, n, d⟩ ↔ (3 ≤ n ∧ n ≤ 258 ∧ 1 ≤ d ∧ d ≤ 32768 ∧ z = 0) := by unfold may7; simp only; rw [if_neg h0]
    have hno : ¬ may7 ⟨z, n, d⟩ → wid7 ⟨z, n, d⟩ = 0 := fun h => by unfold wid7; rw [if_neg h]
    have hF : may7 ⟨z, n, d⟩ → (wid7 ⟨z, n, d⟩ : Int) = n := fun h1 => by
      unfold wid7
      simp only
      rw [if_pos h1, if_neg h0]
      have := hm.1 h1
      omega
    by_cases h1 : 3 ≤ n
    · by_cases h2 : n ≤ 258
      · by_cases h3 : 1 ≤ d
        · by_cases h4 : d ≤ 32768
          · by_cases h5 : z = 0
            · have HM : Hid ((wid7 ⟨z, n, d⟩ : Int) = n) := hF (hm.2 ⟨h1, h2, h3, h4, h5⟩)
              rw [HM.out]
              subst h5
              clear hm hno hF HM
              go_enter Tryz.func91, Tryz.ntmps91
              go_wp2_with fail
              go_ret
              exact ⟨rfl, below_box _ _⟩
            · have HM : Hid (wid7 ⟨z, n, d⟩ = 0) := hno (by simp [hm, h5])
              rw [HM.out]
              clear hm hno hF HM
              have hz9 : (z != 0) = true := by simp [h5]
              go_enter Tryz.func91, Tryz.ntmps91
              go_wp2_with fail
              go_ret
              exact ⟨rfl, below_box _ _⟩
          · have HM : Hid (wid7 ⟨z, n, d⟩ = 0) := hno (by simp [hm, h4])
            rw [HM.out]
            clear hm hno hF HM
            go_enter Tryz.func91, Tryz.ntmps91
            go_wp2_with fail
            go_ret
            exact ⟨rfl, below_box _ _⟩
        · have HM : Hid (wid7 ⟨z, n, d⟩ = 0) := hno (by simp [hm, h3])
          rw [HM.out]
          clear hm hno hF HM
          go_enter Tryz.func91, Tryz.ntmps91
          go_wp2_with fail
          go_ret
          exact ⟨rfl, below_box _ _⟩
      · have HM : Hid (wid7 ⟨z, n, d⟩ = 0) := hno (by simp [hm, h2])
        rw [HM.out]
        clear hm hno hF HM
        go_enter Tryz.func91, Tryz.ntmps91
        go_wp2_with fail
        go_ret
        exact ⟨rfl, below_box _ _⟩
    · have HM : Hid (wid7 ⟨z, n, d⟩ = 0) := hno (by simp [hm, h1])
      rw [HM.out]
      clear hm hno hF HM
      go_enter Tryz.func91, Tryz.ntmps91
      go_wp2_with fail
      go_ret
      exact ⟨rfl, below_box _ _⟩
theorem wid7_zero {t : Tok7} (h : wid7 t = 0) : ¬ may7 t := by
  intro hm
  unfold wid7 at h
  rw [if_pos hm] at h
  split at h
  · omega
  · rename_i h0
    unfold may7 at hm
    rw [if_neg h0] at hm
    omega
theorem wid7_pos {t : Tok7} (h : wid7 t ≠ 0) : may7 t := by
  unfold wid7 at h
  by_cases hm : may7 t
  · exact hm
  · rw [if_neg hm] at h; exact absurd rfl h
theorem far7_iff {win : Int} {tot : Nat} {t : Tok7} (h : may7 t) (hw : 1 ≤ win) : far7 win tot t ↔ (win < t.dist ∨ (tot : Int) < t.dist) := by
  unfold far7
  unfold may7 at h
  by_cases h0 : t.len = 0
  · rw [if_pos h0] at h; omega
  · rw [if_neg h0] at h; omega
end Go.Proofs.YtiankbopnjhhaaaGreatDoor

namespace Go.Proofs.YtiankbopnjhhaaaGreatDoor
open Go.RowKit
set_option linter.unusedVariables false

set_option maxRecDepth 100000 in
set_option maxHeartbeats 1000000 in
theorem psiz7 (l : List Tok7) (a : Option Addr) (n cap : Nat) (hn : Hid (l.length = n)) (w : World) (hs : SegT w a l) (hcap : n ≤ cap) (hnil : a = none → cap = 0) (hl : n ≤ 1073741824) :
    Calls Tryz.prog 66 #[.slice a n cap] w fun e w' => e = .returned (.int .i64 (siz7 l : Int)) ∧ Below w.heap.size w w' := by
  go_enter Tryz.func66, Tryz.ntmps66
  go_wp2_with fail
  go_loopw [3, 8] (fun tt ti wr => ∃ i tot : Nat, i ≤ n ∧ ti = .int .i64 (i : Int) ∧ tt = .int .i64 (tot : Int) ∧ tot ≤ 258 * i ∧ Hid (siz7 l = tot + siz7 (l.drop i)) ∧ Below w.heap.size w wr) (fun _ ti _ => n - (intOf ti).toNat)
  case atStart => exact ⟨0, 0, by omega, rfl, rfl, by omega, (show _ = _ by simp), Below.refl _ _⟩
  case round =>
    obtain ⟨i, tot, hi, rfl, rfl, htot, HC, BR⟩ := hrel
    by_cases hin : i < n
    · have hii : (i : Int) < (n : Int) := by omega
      have hil : i < l.length := by rw [hn.out]; exact hin
      have hD : l.drop i = l.getD i tk0 :: l.drop (i + 1) := dropT hil
      obtain ⟨b, off, rfl, hT⟩ := (hs.old BR).at_ i hil
      rw [hD, siz7] at HC
      have hw := wid7_le (l.getD i tk0)
      have CW := plen7 (l.getD i tk0)
      generalize l.getD i tk0 = t at *
      obtain ⟨wA, hwA⟩ : ∃ wA, wA = wr.alloc (.cells #[.int .u8 t.lit, .int .i64 t.len, .int .i64 t.dist] 97) := ⟨_, rfl⟩
      have bA : Below wr.heap.size wr wA := by rw [hwA]; exact below_box _ _
      have HWA : Hid (wA = wr.alloc (.cells #[.int .u8 t.lit, .int .i64 t.len, .int .i64 t.dist] 97)) := hwA
      have BA : Below w.heap.size w wA := BR.trans (bA.mono BR.size)
      have hc0 := hT.c0
      have hc1 := hT.c1
      have hc2 := hT.c2
      have CWA : Hid (∀ W, Calls Tryz.prog 91 #[t.val] W fun e w' => e = .returned (.int .i64 (wid7 t : Int)) ∧ Below W.heap.size W w') := CW
      obtain ⟨t2, ht2⟩ : ∃ t2, t2 = tot + wid7 t := ⟨_, rfl⟩
      have hwt : IntKind.i64.wrap ((tot : Int) + (wid7 t : Int)) = (t2 : Int) := by rw [IntWalk.i64_in _ (by omega)]; omega
      have HC2 : Hid (siz7 l = t2 + siz7 (l.drop (i + 1))) := by have := HC.out; show _ = _; omega
      have ht3 : t2 ≤ 258 * (i + 1) := by omega
      clear hwA hD CW hT ht2 HC
      obtain ⟨z, ln, ds⟩ := t
      unfold Tok7.val at CWA
      simp only at hc0 hc1 hc2 CWA HWA
      generalize wid7 ⟨z, ln, ds⟩ = W at *
      go_wp2_with fail
      rw [← HWA.out]
      refine (CWA.out wA).mono ?_
      rintro e w2 ⟨rfl, b2⟩
      have B2 := BA.trans (b2.mono BA.size)
      go_wp2_with fail
      go_roundw
      case rel => exact ⟨i + 1, t2, by omega, by go_num, rfl, ht3, HC2, B2⟩
      case measure => simp [intOf]; omega
    · have hge : ¬ (i : Int) < (n : Int) := by omega
      have HE : Hid (siz7 l = tot) := by
        show _ = _
        rw [HC.out, List.drop_of_length_le (by rw [hn.out]; omega)]
        rfl
      clear HC
      go_wp2_with fail
      go_ret
      exact ⟨by rw [HE.out]; rfl, BR⟩
end Go.Proofs.YtiankbopnjhhaaaGreatDoor

namespace Go.Proofs.YtiankbopnjhhaaaGreatDoor
open Go.RowKit
set_option linter.unusedVariables false

/-! The landed block: a tally. -/
/-- A tally in memory: its size, its more bits, how often each symbol stands there. -/
structure Ta9 (w : World) (b : Nat) (X : List Int) : Prop where
  len : X.length = 318
  hp : w.heap[b]? = some (.cells (arr X) 120 (0, 0))
  bd : ∀ z ∈ X, 0 ≤ z ∧ z ≤ 1125899906842624
theorem Ta9.lt {w : World} {b : Nat} {X : List Int} (h : Ta9 w b X) : b < w.heap.size := (Array.getElem?_eq_some_iff.1 h.hp).1
theorem Ta9.keep {w w' : World} {b : Nat} {X : List Int} (h : Ta9 w b X) (hb : w'.heap[b]? = w.heap[b]?) : Ta9 w' b X := ⟨h.len, hb.trans h.hp, h.bd⟩
theorem Ta9.cell {w : World} {b : Nat} {X : List Int} (h : Ta9 w b X) {i : Nat} (hi : i < 318) : w.cell? ⟨b, i, none⟩ = some (.int .i64 (X.getD i 0)) := by
  refine (cell_of_row w b i _ _ _ h.hp).trans ?_
  have : i < X.length := by rw [h.len]; exact hi
  simp [arr, List.getD, this]
theorem Ta9.free {w : World} {b : Nat} {X : List Int} (h : Ta9 w b X) (i : Nat) : w.frozen? ⟨b, i, none⟩ = false := frozen_of_row w b i _ _ h.hp
theorem Ta9.get {w : World} {b : Nat} {X : List Int} (h : Ta9 w b X) (i : Nat) : 0 ≤ X.getD i 0 ∧ X.getD i 0 ≤ 1125899906842624 := by
  by_cases hi : i < X.length
  · have hm : X.getD i 0 ∈ X := by simp only [List.getD, List.getElem?_eq_getElem hi, Option.getD_some]; exact List.getElem_mem hi
    exact h.bd _ hm
  · simp only [List.getD, List.getElem?_eq_none (Nat.le_of_not_lt hi), Option.getD_none]; omega
theorem Ta9.set {w : World} {b : Nat} {X : List Int} (h : Ta9 w b X) {i : Nat} (hi : i < 318) (v : Int) (hv : 0 ≤ v ∧ v ≤ 1125899906842624) : Ta9 (w.setCell ⟨b, i, none⟩ (.int .i64 v)) b (X.set i v) := by
  refine ⟨by rw [List.length_set]; exact h.len, ?_, fun z hz => ?_⟩
  · rw [heap_setCell_same w b i _ _ _ h.hp]
    simp [arr, List.map_set]
  · rcases List.mem_or_eq_of_mem_set hz with h1 | rfl
    · exact h.bd z h1
    · exact hv
/-- One more at a place. -/
def inc9 (X : List Int) (i : Nat) (v : Int) : List Int := X.set i (X.getD i 0 + v)
set_option maxRecDepth 100000 in
set_option maxHeartbeats 2000000 in
theorem padd9_lit (b : Nat) (X : List Int) (l : Nat) (d : Int) (w : World) (h : Ta9 w b X) (hl : l ≤ 255) (hb : X.getD (2 + l) 0 < 1125899906842624) :
    Calls Tryz.prog 67 #[.pointer (some ⟨b, 0, none⟩), .agg #[.int .u8 (l : Int), .int .i64 0, .int .i64 d]] w fun e w' => e = .returned (.tuple #[]) ∧ Ta9 w' b (inc9 X (2 + l) 1) ∧ Kp (fun k => k = b) w w' := by
  have hlt := h.lt
  have g0 := heap_alloc_new w (.cells #[.int .u8 (l : Int), .int .i64 0, .int .i64 d] 97)
  have B0 := below_box8 w (.cells #[.int .u8 (l : Int), .int .i64 0, .int .i64 d] 97)
  go_enter Tryz.func67, Tryz.ntmps67
  go_wp2_with fail
  obtain ⟨P, hP⟩ : ∃ P, P = w.heap.size := ⟨_, rfl⟩
  rw [← hP] at g0
  rw [← hP]
  have hPb : P ≠ b := by omega
  have hTA := h.keep (B0.block b hlt)
  have K0 : Kp (fun k => k = b) w (w.alloc (.cells #[.int .u8 (l : Int), .int .i64 0, .int .i64 d] 97)) := Kp.of_below B0
  clear B0 hP hlt h
  generalize w.alloc (.cells #[.int .u8 (l : Int), .int .i64 0, .int .i64 d] 97) = w1 at *
  have e0 : w1.cell? ⟨P, 0, none⟩ = some (.int .u8 (l : Int)) := (cell_of_row w1 _ 0 _ _ _ g0).trans rfl
  have c0 := hTA.cell (i := 2 + l) (by omega)
  have f0 := hTA.free (2 + l)
  have bb := hTA.get (2 + l)
  have HT : Hid (Ta9 w1 b X) := hTA
  have HK : Hid (Kp (fun k => k = b) w w1) := K0
  obtain ⟨z, hz⟩ : ∃ z, z = X.getD (2 + l) 0 := ⟨_, rfl⟩
  have HZ : Hid (z = X.getD (2 + l) 0) := hz
  rw [← hz] at c0 bb hb
  have hli : (l : Int) < 286 := by omega
  have i1 : IntKind.i64.wrap (z + 1) = z + 1 := IntWalk.i64_in _ (by omega)
  have RS : Ta9 (w1.setCell ⟨b, 2 + l, none⟩ (.int .i64 (z + 1))).drew b (inc9 X (2 + l) 1) := by
    have := hTA.set (i := 2 + l) (by omega) (z + 1) (by omega)
    unfold inc9
    rw [← HZ.out]
    exact this.keep rfl
  have HRS : Hid (Ta9 (w1.setCell ⟨b, 2 + l, none⟩ (.int .i64 (z + 1))).drew b (inc9 X (2 + l) 1)) := RS
  clear hTA K0 hz g0 RS
  go_region
  go_wp2
  refine bodyPost_ret (results_none rfl _ _ _) rfl ?_
  exact ⟨rfl, HRS.out, (HK.out.trans (Kp.set (S := fun k => k = b) rfl _) (fun _ _ e => e)).drew⟩
/-- The place of a number among spans. -/
def ixo9 (S : List Int) (n : Nat) (x : Int) : Nat := (List.range n).countP (fun k => decide (S.getD (k * 2) 0 ≤ x)) - 1
theorem cnt_le9 (i : Nat) : ∀ n, (List.range n).countP (fun k => decide (k ≤ i)) = min n (i + 1)
  | 0 => rfl
  | n + 1 => by
    rw [List.range_succ, List.countP_append, cnt_le9 i n]
    by_cases h : n ≤ i
    · simp [h]; omega
    · simp [h]; omega
theorem ixo9_eq {S : List Int} {n : Nat} {x : Int} {i : Nat} (hm : ∀ a b, a ≤ b → b < n → S.getD (a * 2) 0 ≤ S.getD (b * 2) 0) (hi : i < n) (h1 : S.getD (i * 2) 0 ≤ x) (h2 : ∀ k, i < k → k < n → x < S.getD (k * 2) 0) : ixo9 S n x = i := by
  unfold ixo9
  have e : (List.range n).countP (fun k => decide (S.getD (k * 2) 0 ≤ x)) = (List.range n).countP (fun k => decide (k ≤ i)) := by
    refine List.countP_congr fun k hk => ?_
    rw [List.mem_range] at hk
    simp only [decide_eq_true_eq]
    constructor
    · intro h
      by_cases q : k ≤ i
      · exact q
      · have := h2 k (by omega) hk; omega
    · intro h
      have := hm k i h hi
      omega
  rw [e, cnt_le9]
  omega
def lix9 (x : Int) : Nat := ixo9 lnS9 29 x
def dix9 (x : Int) : Nat := ixo9 dsS9 30 x
end Go.Proofs.YtiankbopnjhhaaaGreatDoor

namespace Go.Proofs.YtiankbopnjhhaaaGreatDoor
open Go.RowKit
set_option linter.unusedVariables false

/-! The landed block: a match comes to a tally. -/
theorem inc_bd9 {X : List Int} {i : Nat} {v B : Int} (h : ∀ z ∈ X, 0 ≤ z ∧ z ≤ B) (hv : 0 ≤ v) (hB : 0 ≤ B) : ∀ z ∈ inc9 X i v, 0 ≤ z ∧ z ≤ B + v := by
  intro z hz
  unfold inc9 at hz
  rcases List.mem_or_eq_of_mem_set hz with h1 | rfl
  · have := h z h1; omega
  · by_cases hi : i < X.length
    · have hm : X.getD i 0 ∈ X := by simp only [List.getD, List.getElem?_eq_getElem hi, Option.getD_some]; exact List.getElem_mem hi
      have := h _ hm
      omega
    · have : X.getD i 0 = 0 := by simp only [List.getD, List.getElem?_eq_none (Nat.le_of_not_lt hi), Option.getD_none]
      omega
theorem Ta9.inc {w : World} {b : Nat} {X : List Int} (h : Ta9 w b X) {i : Nat} (hi : i < 318) (v : Int) (hv : 0 ≤ X.getD i 0 + v ∧ X.getD i 0 + v ≤ 1125899906842624) : Ta9 (w.setCell ⟨b, i, none⟩ (.int .i64 (X.getD i 0 + v))) b (inc9 X i v) := h.set hi _ hv
set_option maxRecDepth 100000 in
set_option maxHeartbeats 4000000 in
theorem padd9_mat (b : Nat) (X : List Int) (l n d : Int) (w : World) (h : Ta9 w b X) (hb : ∀ z ∈ X, 0 ≤ z ∧ z ≤ 1125899906800000) (hn : 3 ≤ n ∧ n ≤ 258) (hd : 1 ≤ d ∧ d ≤ 32768) :
    Calls Tryz.prog 67 #[.pointer (some ⟨b, 0, none⟩), .agg #[.int .u8 l, .int .i64 n, .int .i64 d]] w fun e w' => e = .returned (.tuple #[]) ∧ Ta9 w' b (inc9 (inc9 (inc9 (inc9 X (259 + lix9 n) 1) 1 (lnS9.getD (lix9 n * 2 + 1) 0)) (288 + dix9 d) 1) 1 (dsS9.getD (dix9 d * 2 + 1) 0)) ∧ Kp (fun k => k = b) w w' := by
  have hlt := h.lt
  have g0 := heap_alloc_new w (.cells #[.int .u8 l, .int .i64 n, .int .i64 d] 97)
  have B0 := below_box8 w (.cells #[.int .u8 l, .int .i64 n, .int .i64 d] 97)
  have hn0 : ¬ n = 0 := by omega
  go_enter Tryz.func67, Tryz.ntmps67
  go_wp2_with fail
  obtain ⟨P, hP⟩ : ∃ P, P = w.heap.size := ⟨_, rfl⟩
  rw [← hP] at g0
  have hPb : P ≠ b := by omega
  have hTA := h.keep (B0.block b hlt)
  have HK : Hid (Kp (fun k => k = b) w (w.alloc (.cells #[.int .u8 l, .int .i64 n, .int .i64 d] 97))) := Kp.of_below B0
  clear B0 hlt h
  generalize w.alloc (.cells #[.int .u8 l, .int .i64 n, .int .i64 d] 97) = w1 at *
  have HPS : Hid (P = w.heap.size) := hP
  clear hP
  refine (plsy9_ok n hn.1 hn.2 w1).mono ?_
  rintro e w2 ⟨i, hi, s1, s2, rfl, b2⟩
  have HI : Hid (lix9 n = i) := ixo9_eq (fun a b h1 h2 => mono_plsy9 ⟨b, h2⟩ ⟨a, by omega⟩ h1) hi s1 s2
  have bl := (bd_plsy9 ⟨i, hi⟩).2
  simp only at bl
  generalize lnS9.getD (i * 2) 0 = zz at s1 ⊢
  obtain ⟨m1, hm1⟩ : ∃ m, lnS9.getD (i * 2 + 1) 0 = m := ⟨_, rfl⟩
  have HM1 : Hid (lnS9.getD (i * 2 + 1) 0 = m1) := hm1
  rw [hm1] at bl ⊢
  clear hm1
  obtain ⟨y, hy⟩ : ∃ y : Nat, y = 257 + i := ⟨_, rfl⟩
  rw [show 257 + (i : Int) = (y : Int) by omega]
  have hyi : (y : Int) < 286 := by omega
  have T2 := hTA.keep (b2.block b hTA.lt)
  have g2 := (b2.block P (Array.getElem?_eq_some_iff.1 g0).1).trans g0
  have K2 : Hid (Kp (fun k => k = b) w w2) := HK.out.trans (Kp.of_below (S := fun _ => False) b2) (fun _ _ e => e.elim)
  have c0 := T2.cell (i := 2 + y) (by omega)
  have f0 := T2.free (2 + y)
  have bb := T2.get (2 + y)
  obtain ⟨z, hz⟩ : ∃ z, z = X.getD (2 + y) 0 := ⟨_, rfl⟩
  rw [← hz] at c0 bb
  have hzb : 0 ≤ z ∧ z ≤ 1125899906800000 := by
    rw [hz]
    have hl : 2 + y < X.length := by rw [T2.len]; omega
    have hm : X.getD (2 + y) 0 ∈ X := by simp only [List.getD, List.getElem?_eq_getElem hl, Option.getD_some]; exact List.getElem_mem hl
    exact hb _ hm
  have i1 : IntKind.i64.wrap (z + 1) = z + 1 := IntWalk.i64_in _ (by omega)
  have T3 : Ta9 (w2.setCell ⟨b, 2 + y, none⟩ (.int .i64 (z + 1))).drew b (inc9 X (2 + y) 1) := by
    have := T2.inc (i := 2 + y) (by omega) 1 (by rw [← hz]; omega)
    rw [← hz] at this
    exact this.keep rfl
  have HG2 : Hid (w2.heap[P]? = some (.cells #[.int .u8 l, .int .i64 n, .int .i64 d] 97 (0, 0))) := g2
  have HT3 : Hid (Ta9 (w2.setCell ⟨b, 2 + y, none⟩ (.int .i64 (z + 1))).drew b (inc9 X (2 + y) 1)) := T3
  have HX : Hid (∀ q ∈ inc9 X (2 + y) 1, 0 ≤ q ∧ q ≤ 1125899906800001) := inc_bd9 hb (by omega) (by omega)
  have HY : Hid (2 + y = 259 + i) := by show _ = _; omega
  have HK3 : Hid (Kp (fun k => k = b) w (w2.setCell ⟨b, 2 + y, none⟩ (.int .i64 (z + 1))).drew) := (K2.out.trans (Kp.set (S := fun k => k = b) rfl _) (fun _ _ e => e)).drew
  have HG3 : Hid ((w2.setCell ⟨b, 2 + y, none⟩ (.int .i64 (z + 1))).drew.heap[P]? = some (.cells #[.int .u8 l, .int .i64 n, .int .i64 d] 97 (0, 0))) := ((set_grown w2 b (2 + y) (.int .i64 (z + 1))).block P (Array.getElem?_eq_some_iff.1 g2).1 (by simp; exact fun e => hPb e)).trans g2
  clear g0 g2 T3 hz T2 hTA HK b2 s1 s2 hb hy K2 HG2
  go_wp2_with fail
  go_region
  generalize (w2.setCell ⟨b, 2 + y, none⟩ (.int .i64 (z + 1))).drew = w3 at *
  obtain ⟨Y, hY⟩ : ∃ Y, Y = inc9 X (2 + y) 1 := ⟨_, rfl⟩
  have HYY : Hid (Y = inc9 X (2 + y) 1) := hY
  rw [← hY] at HT3 HX
  clear hY i1 hzb bb c0 f0 hyi
  have T3 := HT3.out
  have c1 := T3.cell (i := 1) (by omega)
  have f1 := T3.free 1
  have hq : 0 ≤ Y.getD 1 0 ∧ Y.getD 1 0 ≤ 1125899906800001 := by
    have hl : 1 < Y.length := by rw [T3.len]; omega
    have hm : Y.getD 1 0 ∈ Y := by simp only [List.getD, List.getElem?_eq_getElem hl, Option.getD_some]; exact List.getElem_mem hl
    exact HX.out _ hm
  have T4 := T3.inc (i := 1) (by omega) m1 (by omega)
  have HX4 : Hid (∀ q ∈ inc9 Y 1 m1, 0 ≤ q ∧ q ≤ 1125899906800001 + m1) := inc_bd9 HX.out (by omega) (by omega)
  obtain ⟨z1, hz1⟩ : ∃ z1, z1 = Y.getD 1 0 := ⟨_, rfl⟩
  rw [← hz1] at c1 hq T4
  have i2 : IntKind.i64.wrap (z1 + m1) = z1 + m1 := IntWalk.i64_in _ (by omega)
  have HT4 : Hid (Ta9 (w3.setCell ⟨b, 1, none⟩ (.int .i64 (z1 + m1))) b (inc9 Y 1 m1)) := T4
  have HK4 : Hid (Kp (fun k => k = b) w (w3.setCell ⟨b, 1, none⟩ (.int .i64 (z1 + m1)))) := HK3.out.trans (Kp.set (S := fun k => k = b) rfl _) (fun _ _ e => e)
  have g4 : (w3.setCell ⟨b, 1, none⟩ (.int .i64 (z1 + m1))).heap[P]? = some (.cells #[.int .u8 l, .int .i64 n, .int .i64 d] 97 (0, 0)) := ((set_grown w3 b 1 (.int .i64 (z1 + m1))).block P (Array.getElem?_eq_some_iff.1 HG3.out).1 (by simp; exact fun e => hPb e)).trans HG3.out
  have d2 : (w3.setCell ⟨b, 1, none⟩ (.int .i64 (z1 + m1))).cell? ⟨w.heap.size, 2, none⟩ = some (.int .i64 d) := by rw [← HPS.out]; exact (cell_of_row _ P 2 _ _ _ g4).trans rfl
  have HG4 : Hid ((w3.setCell ⟨b, 1, none⟩ (.int .i64 (z1 + m1))).heap[P]? = some (.cells #[.int .u8 l, .int .i64 n, .int .i64 d] 97 (0, 0))) := g4
  have d2' : w3.cell? ⟨w.heap.size, 2, none⟩ = some (.int .i64 d) := by rw [← HPS.out]; exact (cell_of_row _ P 2 _ _ _ HG3.out).trans rfl
  have hbw : b ≠ w.heap.size := by have := HPS.out; omega
  clear T3 T4 hz1 HT3 HK3 HG3 HX g4
  go_wp2_with fail
  generalize w3.setCell ⟨b, 1, none⟩ (.int .i64 (z1 + m1)) = w4 at *
  refine (pdsy9_ok d hd.1 hd.2 w4).mono ?_
  rintro e w5 ⟨j, hj, s1, s2, rfl, b5⟩
  have HJ : Hid (dix9 d = j) := ixo9_eq (fun a b h1 h2 => mono_pdsy9 ⟨b, h2⟩ ⟨a, by omega⟩ h1) hj s1 s2
  have bm := (bd_pdsy9 ⟨j, hj⟩).2
  simp only at bm
  generalize dsS9.getD (j * 2) 0 = zq at s1 ⊢
  obtain ⟨m2, hm2⟩ : ∃ m, dsS9.getD (j * 2 + 1) 0 = m := ⟨_, rfl⟩
  have HM2 : Hid (dsS9.getD (j * 2 + 1) 0 = m2) := hm2
  rw [hm2] at bm ⊢
  clear hm2
  have hji : (j : Int) < 30 := by omega
  obtain ⟨Y2, hY2⟩ : ∃ Y2, Y2 = inc9 Y 1 m1 := ⟨_, rfl⟩
  have HY2 : Hid (Y2 = inc9 Y 1 m1) := hY2
  rw [← hY2] at HT4 HX4
  have T5 := HT4.out.keep (b5.block b HT4.out.lt)
  have c5 := T5.cell (i := 288 + j) (by omega)
  have f5 := T5.free (288 + j)
  have hq5 : 0 ≤ Y2.getD (288 + j) 0 ∧ Y2.getD (288 + j) 0 ≤ 1125899906800001 + m1 := by
    have hl : 288 + j < Y2.length := by rw [T5.len]; omega
    have hm : Y2.getD (288 + j) 0 ∈ Y2 := by simp only [List.getD, List.getElem?_eq_getElem hl, Option.getD_some]; exact List.getElem_mem hl
    exact HX4.out _ hm
  have T6' := T5.inc (i := 288 + j) (by omega) 1 (by omega)
  have HX6 : Hid (∀ q ∈ inc9 Y2 (288 + j) 1, 0 ≤ q ∧ q ≤ 1125899906800001 + m1 + 1) := inc_bd9 HX4.out (by omega) (by omega)
  obtain ⟨z5, hz5⟩ : ∃ z5, z5 = Y2.getD (288 + j) 0 := ⟨_, rfl⟩
  rw [← hz5] at c5 hq5 T6'
  have i5 : IntKind.i64.wrap (z5 + 1) = z5 + 1 := IntWalk.i64_in _ (by omega)
  have HT6 : Hid (Ta9 (w5.setCell ⟨b, 288 + j, none⟩ (.int .i64 (z5 + 1))).drew b (inc9 Y2 (288 + j) 1)) := T6'.keep rfl
  have HK6 : Hid (Kp (fun k => k = b) w (w5.setCell ⟨b, 288 + j, none⟩ (.int .i64 (z5 + 1))).drew) := ((HK4.out.trans (Kp.of_below (S := fun _ => False) b5) (fun _ _ e => e.elim)).trans (Kp.set (S := fun k => k = b) rfl _) (fun _ _ e => e)).drew
  clear T5 T6' hz5 HT4 HK4 HX4 HG4 hY2 s1 s2 b5 c1 f1 i2 hq d2 d2'
  go_wp2_with fail
  go_region
  generalize (w5.setCell ⟨b, 288 + j, none⟩ (.int .i64 (z5 + 1))).drew = w6 at *
  obtain ⟨Y3, hY3⟩ : ∃ Y3, Y3 = inc9 Y2 (288 + j) 1 := ⟨_, rfl⟩
  have HY3 : Hid (Y3 = inc9 Y2 (288 + j) 1) := hY3
  rw [← hY3] at HT6 HX6
  have T6 := HT6.out
  have c6 := T6.cell (i := 1) (by omega)
  have f6 := T6.free 1
  have hq6 : 0 ≤ Y3.getD 1 0 ∧ Y3.getD 1 0 ≤ 1125899906800001 + m1 + 1 := by
    have hl : 1 < Y3.length := by rw [T6.len]; omega
    have hm : Y3.getD 1 0 ∈ Y3 := by simp only [List.getD, List.getElem?_eq_getElem hl, Option.getD_some]; exact List.getElem_mem hl
    exact HX6.out _ hm
  have T7 := T6.inc (i := 1) (by omega) m2 (by omega)
  obtain ⟨z6, hz6⟩ : ∃ z6, z6 = Y3.getD 1 0 := ⟨_, rfl⟩
  rw [← hz6] at c6 hq6 T7
  have i6 : IntKind.i64.wrap (z6 + m2) = z6 + m2 := IntWalk.i64_in _ (by omega)
  have HT7 : Hid (Ta9 (w6.setCell ⟨b, 1, none⟩ (.int .i64 (z6 + m2))) b (inc9 Y3 1 m2)) := T7
  have HK7 : Hid (Kp (fun k => k = b) w (w6.setCell ⟨b, 1, none⟩ (.int .i64 (z6 + m2)))) := HK6.out.trans (Kp.set (S := fun k => k = b) rfl _) (fun _ _ e => e)
  clear T6 T7 hz6 HT6 HK6 HX6 hY3 c5 f5 i5 hq5
  go_wp2_with fail
  refine bodyPost_end (results_none rfl _ _ _) rfl ?_
  refine ⟨rfl, ?_, HK7.out⟩
  rw [HI.out, HM1.out, HJ.out, HM2.out, ← HY.out, ← HYY.out, ← HY2.out, ← HY3.out]
  exact HT7.out
end Go.Proofs.YtiankbopnjhhaaaGreatDoor

namespace Go.Proofs.YtiankbopnjhhaaaGreatDoor
open Go.RowKit
set_option linter.unusedVariables false

/-! The landed block: tallied. -/
def tst9 (X : List Int) (t : Tok7) : List Int :=
  if t.len = 0 then inc9 (inc9 X 0 (wid7 t)) (2 + t.lit.toNat) 1 else inc9 (inc9 (inc9 (inc9 (inc9 X 0 (wid7 t)) (259 + lix9 t.len) 1) 1 (lnS9.getD (lix9 t.len * 2 + 1) 0)) (288 + dix9 t.dist) 1) 1 (dsS9.getD (dix9 t.dist * 2 + 1) 0)
def tal09 : List Int := List.replicate 318 0
def tals9 (l : List Tok7) : List Int := l.foldl tst9 tal09
def tal9 (l : List Tok7) : List Int := (tals9 l).set 258 1
theorem built_tal9 : (Tryz.prog.built 120 []).getD #[] = arr tal09 := by kernel_rfl
theorem tals9_snoc (l : List Tok7) (t : Tok7) : tals9 (l ++ [t]) = tst9 (tals9 l) t := by unfold tals9; rw [List.foldl_append]; rfl
set_option maxRecDepth 100000 in
theorem lnb9 (i : Nat) : 0 ≤ lnS9.getD (i * 2 + 1) 0 ∧ lnS9.getD (i * 2 + 1) 0 ≤ 13 := by
  by_cases h : i < 29
  · exact (bd_plsy9 ⟨i, h⟩).2
  · simp only [List.getD, List.getElem?_eq_none (show lnS9.length ≤ i * 2 + 1 by show 58 ≤ _; omega), Option.getD_none]; omega
set_option maxRecDepth 100000 in
theorem dsb9 (i : Nat) : 0 ≤ dsS9.getD (i * 2 + 1) 0 ∧ dsS9.getD (i * 2 + 1) 0 ≤ 13 := by
  by_cases h : i < 30
  · exact (bd_pdsy9 ⟨i, h⟩).2
  · simp only [List.getD, List.getElem?_eq_none (show dsS9.length ≤ i * 2 + 1 by show 60 ≤ _; omega), Option.getD_none]; omega
set_option maxRecDepth 100000 in
set_option maxHeartbeats 4000000 in
theorem ptal9_long (l : List Tok7) (a : Option Addr) (n cap : Nat) (w : World) (hl : 65536 < n) :
    Calls Tryz.prog 46 #[.slice a n cap] w fun e w' => e = .returned (.tuple #[.pointer none, .int .i64 90]) ∧ w' = w := by
  have hli : (65536 : Int) < (n : Int) := by omega
  go_enter Tryz.func46, Tryz.ntmps46
  go_wp2_with fail
  go_ret2
  exact ⟨rfl, rfl⟩
set_option maxRecDepth 100000 in
set_option maxHeartbeats 4000000 in
theorem ptal9 (l : List Tok7) (a : Option Addr) (n cap : Nat) (hn : Hid (l.length = n)) (w : World) (hs : SegT w a l) (hl : n ≤ 65536) :
    Calls Tryz.prog 46 #[.slice a n cap] w fun e w' => ((∀ t ∈ l, may7 t) ∧ ∃ b, w.heap.size ≤ b ∧ e = .returned (.tuple #[.pointer (some ⟨b, 0, none⟩), .int .i64 0]) ∧ Ta9 w' b (tal9 l) ∧ Below w.heap.size w w') ∨ (¬ (∀ t ∈ l, may7 t) ∧ e = .returned (.tuple #[.pointer none, .int .i64 91]) ∧ Below w.heap.size w w') := by
  have hli : ¬ (65536 : Int) < (n : Int) := by omega
  have HS : Hid (SegT w a l) := hs
  clear hs
  go_enter Tryz.func46, Tryz.ntmps46
  go_wp2_with (refine wpList_build rfl 120 _ rfl (by kernel_rfl) ?_)
  rw [built_tal9]
  have q0 := heap_alloc_new w (.cells (arr tal09) 120)
  have B0 := below_box8 w (.cells (arr tal09) 120)
  generalize w.alloc (.cells (arr tal09) 120) = w0 at *
  obtain ⟨b, hb⟩ : ∃ b, b = w.heap.size := ⟨_, rfl⟩
  rw [← hb] at q0
  rw [← hb]
  have HB : Hid (w.heap.size ≤ b) := by show _ ≤ _; omega
  have T0 : Ta9 w0 b tal09 := ⟨by unfold tal09; exact List.length_replicate .., q0, fun z hz => by rw [List.eq_of_mem_replicate hz]; omega⟩
  have HT0 : Hid (Ta9 w0 b tal09 ∧ Below w.heap.size w w0) := ⟨T0, B0⟩
  clear q0 B0 T0 hb
  go_loopw [15] (fun ti wr => ∃ i : Nat, i ≤ n ∧ ti = .int .i64 (i : Int) ∧ Hid (∀ t ∈ l.take i, may7 t) ∧ Ta9 wr b (tals9 (l.take i)) ∧ Hid (∀ z ∈ tals9 (l.take i), 0 ≤ z ∧ z ≤ 300 * (i : Int)) ∧ Below w.heap.size w wr) (fun ti _ => n - (intOf ti).toNat)
  case atStart => exact ⟨0, by omega, rfl, (by rw [List.take_zero]; intro t h; cases h), (by rw [List.take_zero]; exact HT0.out.1), (by rw [List.take_zero]; intro z hz; have : z = 0 := List.eq_of_mem_replicate hz; omega), HT0.out.2⟩
  case round =>
    obtain ⟨i, hin, rfl, HM, TA, HBD, BR⟩ := hrel
    clear HT0
    by_cases hlt : i < n
    · have hlti : (i : Int) < (n : Int) := by omega
      have hil : i < l.length := by rw [hn.out]; exact hlt
      obtain ⟨g, o, rfl, tk⟩ := (HS.out.old BR).at_ i hil
      have hfit := HS.out.fit (l.getD i tk0) (by simp only [List.getD, List.getElem?_eq_getElem hil, Option.getD_some]; exact List.getElem_mem hil)
      have HTK : Hid (l.take (i + 1) = l.take i ++ [l.getD i tk0]) := by
        show _ = _
        rw [List.take_succ_eq_append_getElem hil]
        simp only [List.getD, List.getElem?_eq_getElem hil, Option.getD_some]
      have HMEM : Hid (l.getD i tk0 ∈ l) := by
        show _ ∈ _
        simp only [List.getD, List.getElem?_eq_getElem hil, Option.getD_some]; exact List.getElem_mem hil
      generalize l.getD i tk0 = t at *
      obtain ⟨lit, len, dist⟩ := t
      obtain ⟨x0, x1, x2⟩ := tk
      simp only at x0 x1 x2
      have HTA : Hid (Ta9 wr b (tals9 (l.take i))) := TA
      have HBR : Hid (Below w.heap.size w wr) := BR
      clear TA BR
      go_wp2_with fail
      have hW1 : (wr.alloc (.cells #[.int .u8 lit, .int .i64 len, .int .i64 dist] 97)).heap.size = wr.heap.size + 1 := by simp
      have y0 := heap_alloc_new wr (.cells #[.int .u8 lit, .int .i64 len, .int .i64 dist] 97)
      have b0 := below_box8 wr (.cells #[.int .u8 lit, .int .i64 len, .int .i64 dist] 97)
      generalize wr.alloc (.cells #[.int .u8 lit, .int .i64 len, .int .i64 dist] 97) = wa at *
      have y1 := heap_alloc_new wa (.cells #[.int .u8 lit, .int .i64 len, .int .i64 dist] 97)
      have b1 := below_box8 wa (.cells #[.int .u8 lit, .int .i64 len, .int .i64 dist] 97)
      generalize wa.alloc (.cells #[.int .u8 lit, .int .i64 len, .int .i64 dist] 97) = wb at *
      rw [hW1] at y1
      have y2 := (b1.block wr.heap.size (by omega)).trans y0
      have sg : SegT wb (some ⟨wr.heap.size + 1, 0, none⟩) [⟨lit, len, dist⟩] := by
        refine ⟨fun j hj => ?_, fun t ht => by rw [List.mem_singleton.1 ht]; exact hfit⟩
        have hj0 : j = 0 := by simpa using hj
        subst hj0
        exact ⟨_, _, rfl, ⟨(cell_of_row wb _ 0 _ _ _ y1).trans rfl, (cell_of_row wb _ 1 _ _ _ y1).trans rfl, (cell_of_row wb _ 2 _ _ _ y1).trans rfl⟩⟩
      have CS := psiz7 [⟨lit, len, dist⟩] (some ⟨wr.heap.size + 1, 0, none⟩) 1 1 rfl wb sg (by omega) (by intro h; cases h) (by omega)
      rw [show siz7 [⟨lit, len, dist⟩] = wid7 ⟨lit, len, dist⟩ from Nat.add_zero _] at CS
      have bwb : Below wr.heap.size wr wb := b0.trans (b1.mono (by omega))
      have HY2 : Hid (wb.heap[wr.heap.size]? = some (.cells #[.int .u8 lit, .int .i64 len, .int .i64 dist] 97 (0, 0))) := y2
      have hwb : wr.heap.size < wb.heap.size := (Array.getElem?_eq_some_iff.1 y2).1
      clear y0 y1 y2 b0 b1 sg
      refine CS.mono ?_
      rintro e wc ⟨rfl, bc⟩
      have TC := HTA.out.keep (((bwb.trans (bc.mono bwb.size))).block b HTA.out.lt)
      have BC : Below w.heap.size w wc := HBR.out.trans ((bwb.trans (bc.mono bwb.size)).mono HBR.out.size)
      have yc := (bc.block wr.heap.size hwb).trans HY2.out
      by_cases hmay : may7 ⟨lit, len, dist⟩
      · have hwid : wid7 ⟨lit, len, dist⟩ = if len = 0 then 1 else len.toNat := by unfold wid7; rw [if_pos hmay]
        have hmm := hmay
        unfold may7 at hmm
        simp only at hmm
        obtain ⟨v, hv⟩ : ∃ v, v = wid7 ⟨lit, len, dist⟩ := ⟨_, rfl⟩
        have HV : Hid (v = wid7 ⟨lit, len, dist⟩) := hv
        rw [← hv] at hwid
        rw [← hv]
        have hv1 : 1 ≤ v ∧ v ≤ 258 := by
          rw [hwid]
          split
          · omega
          · rename_i h; rw [if_neg h] at hmm; omega
        have hv0 : ¬ (v : Int) = 0 := by omega
        obtain ⟨X, hX⟩ : ∃ X, X = tals9 (l.take i) := ⟨_, rfl⟩
        have HXX : Hid (X = tals9 (l.take i)) := hX
        rw [← hX] at TC HBD
        have c0 := TC.cell (i := 0) (by omega)
        have f0 := TC.free 0
        have hz0 : 0 ≤ X.getD 0 0 ∧ X.getD 0 0 ≤ 300 * (i : Int) := by
          have hl2 : 0 < X.length := by rw [TC.len]; omega
          have hm : X.getD 0 0 ∈ X := by simp only [List.getD, List.getElem?_eq_getElem hl2, Option.getD_some]; exact List.getElem_mem hl2
          exact HBD.out _ hm
        have T1 := TC.inc (i := 0) (by omega) (v : Int) (by omega)
        have HX1 : Hid (∀ q ∈ inc9 X 0 (v : Int), 0 ≤ q ∧ q ≤ 300 * (i : Int) + (v : Int)) := inc_bd9 HBD.out (by omega) (by omega)
        obtain ⟨z, hz⟩ : ∃ z, z = X.getD 0 0 := ⟨_, rfl⟩
        rw [← hz] at c0 hz0 T1
        have i1 : IntKind.i64.wrap (z + (v : Int)) = z + (v : Int) := IntWalk.i64_in _ (by omega)
        have hbP : b ≠ wr.heap.size := by have := HTA.out.lt; omega
        have y1 : (wc.setCell ⟨b, 0, none⟩ (.int .i64 (z + (v : Int)))).heap[wr.heap.size]? = some (.cells #[.int .u8 lit, .int .i64 len, .int .i64 dist] 97 (0, 0)) := ((set_grown wc b 0 (.int .i64 (z + (v : Int)))).block wr.heap.size (Array.getElem?_eq_some_iff.1 yc).1 (by simp; omega)).trans yc
        have B1 : Below w.heap.size w (wc.setCell ⟨b, 0, none⟩ (.int .i64 (z + (v : Int)))) := BC.trans ((Below.refl _ _).grown (set_grown wc b 0 (.int .i64 (z + (v : Int)))) BC.size (fun k e => by cases e; exact HB.out))
        have d0 : (wc.setCell ⟨b, 0, none⟩ (.int .i64 (z + (v : Int)))).cell? ⟨wr.heap.size, 0, none⟩ = some (.int .u8 lit) := (cell_of_row _ _ 0 _ _ _ y1).trans rfl
        have d1 : (wc.setCell ⟨b, 0, none⟩ (.int .i64 (z + (v : Int)))).cell? ⟨wr.heap.size, 1, none⟩ = some (.int .i64 len) := (cell_of_row _ _ 1 _ _ _ y1).trans rfl
        have d2 : (wc.setCell ⟨b, 0, none⟩ (.int .i64 (z + (v : Int)))).cell? ⟨wr.heap.size, 2, none⟩ = some (.int .i64 dist) := (cell_of_row _ _ 2 _ _ _ y1).trans rfl
        have e0 : wc.cell? ⟨wr.heap.size, 0, none⟩ = some (.int .u8 lit) := (cell_of_row _ _ 0 _ _ _ yc).trans rfl
        have e1 : wc.cell? ⟨wr.heap.size, 1, none⟩ = some (.int .i64 len) := (cell_of_row _ _ 1 _ _ _ yc).trans rfl
        have e2 : wc.cell? ⟨wr.heap.size, 2, none⟩ = some (.int .i64 dist) := (cell_of_row _ _ 2 _ _ _ yc).trans rfl
        have HT1 : Hid (Ta9 (wc.setCell ⟨b, 0, none⟩ (.int .i64 (z + (v : Int)))) b (inc9 X 0 (v : Int))) := T1
        have HB1 : Hid (Below w.heap.size w (wc.setCell ⟨b, 0, none⟩ (.int .i64 (z + (v : Int))))) := B1
        have HMS : Hid (∀ t ∈ l.take (i + 1), may7 t) := by
          show ∀ t ∈ l.take (i + 1), may7 t
          rw [HTK.out]
          intro t ht
          rcases List.mem_append.1 ht with h | h
          · exact HM.out t h
          · rw [List.mem_singleton.1 h]; exact hmay
        have HTS : Hid (tals9 (l.take (i + 1)) = tst9 X ⟨lit, len, dist⟩) := by show _ = _; rw [HTK.out, tals9_snoc, HXX.out]
        have i7 : IntKind.i64.wrap ((i : Int) + 1) = (i : Int) + 1 := IntWalk.i64_in _ (by omega)
        clear T1 B1 hz TC BC y1 yc CS bc bwb hX hv hwid hmay
        go_wp2_with fail
        generalize wc.setCell ⟨b, 0, none⟩ (.int .i64 (z + (v : Int))) = w8 at *
        by_cases hlen : len = 0
        · subst hlen
          obtain ⟨k, hk⟩ : ∃ k : Nat, lit = (k : Int) := ⟨lit.toNat, by have := hfit.1; simp only at this; omega⟩
          have hk255 : k ≤ 255 := by have := hfit.1; simp only at this; omega
          have hkX : (inc9 X 0 (v : Int)).getD (2 + k) 0 < 1125899906842624 := by
            have hl2 : 2 + k < (inc9 X 0 (v : Int)).length := by rw [HT1.out.len]; omega
            have hm : (inc9 X 0 (v : Int)).getD (2 + k) 0 ∈ inc9 X 0 (v : Int) := by simp only [List.getD, List.getElem?_eq_getElem hl2, Option.getD_some]; exact List.getElem_mem hl2
            have := HX1.out _ hm
            omega
          have CA := padd9_lit b (inc9 X 0 (v : Int)) k dist w8 HT1.out hk255 hkX
          rw [← hk] at CA
          have HTE : Hid (tst9 X ⟨lit, 0, dist⟩ = inc9 (inc9 X 0 (v : Int)) (2 + k) 1) := by
            show _ = _
            unfold tst9
            rw [if_pos rfl, ← HV.out, show (⟨lit, 0, dist⟩ : Tok7).lit.toNat = k by simp only; omega]
          have HBD2 : Hid (∀ q ∈ inc9 (inc9 X 0 (v : Int)) (2 + k) 1, 0 ≤ q ∧ q ≤ 300 * (i : Int) + (v : Int) + 1) := inc_bd9 HX1.out (by omega) (by omega)
          refine CA.mono ?_
          rintro e w9 ⟨rfl, T9, k9⟩
          have B9 : Below w.heap.size w w9 := HB1.out.trans (k9.below (fun q e => by rw [e]; exact HB.out) HB1.out.size)
          have HR : Hid (Ta9 w9 b (tals9 (l.take (i + 1))) ∧ ∀ q ∈ tals9 (l.take (i + 1)), 0 ≤ q ∧ q ≤ 300 * ((i + 1 : Nat) : Int)) := by
            rw [HTS.out, HTE.out]
            exact ⟨T9, fun q hq => by have := HBD2.out q hq; omega⟩
          clear CA T9 k9 hk
          go_wp2_with fail
          go_roundw
          case rel => exact ⟨i + 1, by omega, by go_num, HMS, HR.out.1, HR.out.2, B9⟩
          case measure => simp [intOf]; omega
        · rw [if_neg hlen] at hmm
          have CA := padd9_mat b (inc9 X 0 (v : Int)) lit len dist w8 HT1.out (fun q hq => by have := HX1.out q hq; omega) ⟨hmm.1, hmm.2.1⟩ ⟨hmm.2.2.1, hmm.2.2.2.1⟩
          have HTE : Hid (tst9 X ⟨lit, len, dist⟩ = inc9 (inc9 (inc9 (inc9 (inc9 X 0 (v : Int)) (259 + lix9 len) 1) 1 (lnS9.getD (lix9 len * 2 + 1) 0)) (288 + dix9 dist) 1) 1 (dsS9.getD (dix9 dist * 2 + 1) 0)) := by
            show _ = _
            unfold tst9
            rw [if_neg hlen, ← HV.out]
          have hm1 : 0 ≤ lnS9.getD (lix9 len * 2 + 1) 0 ∧ lnS9.getD (lix9 len * 2 + 1) 0 ≤ 13 := lnb9 _
          have hm2 : 0 ≤ dsS9.getD (dix9 dist * 2 + 1) 0 ∧ dsS9.getD (dix9 dist * 2 + 1) 0 ≤ 13 := dsb9 _
          have HBD2 := inc_bd9 (i := 1) (v := dsS9.getD (dix9 dist * 2 + 1) 0) (inc_bd9 (i := 288 + dix9 dist) (v := 1) (inc_bd9 (i := 1) (v := lnS9.getD (lix9 len * 2 + 1) 0) (inc_bd9 (i := 259 + lix9 len) (v := 1) HX1.out (by omega) (by omega)) hm1.1 (by omega)) (by omega) (by omega)) hm2.1 (by omega)
          refine CA.mono ?_
          rintro e w9 ⟨rfl, T9, k9⟩
          have B9 : Below w.heap.size w w9 := HB1.out.trans (k9.below (fun q e => by rw [e]; exact HB.out) HB1.out.size)
          have HR : Hid (Ta9 w9 b (tals9 (l.take (i + 1))) ∧ ∀ q ∈ tals9 (l.take (i + 1)), 0 ≤ q ∧ q ≤ 300 * ((i + 1 : Nat) : Int)) := by
            rw [HTS.out, HTE.out]
            exact ⟨T9, fun q hq => by have := HBD2 q hq; omega⟩
          clear CA T9 k9 HBD2
          go_wp2_with fail
          go_roundw
          case rel => exact ⟨i + 1, by omega, by go_num, HMS, HR.out.1, HR.out.2, B9⟩
          case measure => simp [intOf]; omega
      · have hw0 : wid7 ⟨lit, len, dist⟩ = 0 := by unfold wid7; rw [if_neg hmay]
        rw [hw0]
        have HNO : Hid (¬ ∀ t ∈ l, may7 t) := fun h => hmay (h _ HMEM.out)
        clear hmay hw0 TC yc CS bc bwb
        go_wp2_with fail
        go_ret2
        exact .inr ⟨HNO.out, rfl, BC⟩
    · obtain rfl : i = n := by omega
      have hta : l.take i = l := List.take_of_length_le (by rw [hn.out]; exact Nat.le_refl _)
      rw [hta] at HM TA HBD
      have c0 := TA.cell (i := 258) (by omega)
      have f0 := TA.free 258
      generalize (tals9 l).getD 258 0 = z at c0
      have TF : Ta9 (wr.setCell ⟨b, 258, none⟩ (.int .i64 1)) b (tal9 l) := TA.set (i := 258) (by omega) 1 (by omega)
      have BF : Below w.heap.size w (wr.setCell ⟨b, 258, none⟩ (.int .i64 1)) := BR.trans ((Below.refl _ _).grown (set_grown wr b 258 (.int .i64 1)) BR.size (fun k e => by cases e; exact HB.out))
      have HTF : Hid (Ta9 (wr.setCell ⟨b, 258, none⟩ (.int .i64 1)) b (tal9 l) ∧ Below w.heap.size w (wr.setCell ⟨b, 258, none⟩ (.int .i64 1))) := ⟨TF, BF⟩
      clear TF BF TA BR hta
      go_wp2_with fail
      go_ret2
      exact .inl ⟨HM.out, b, HB.out, rfl, HTF.out.1, HTF.out.2⟩
end Go.Proofs.YtiankbopnjhhaaaGreatDoor

namespace Go.Proofs.YtiankbopnjhhaaaGreatDoor
open Go.RowKit
set_option linter.unusedVariables false

/-! The landed block: forms. -/
def fnv9 (n : Nat) : Value := .func (.func n) #[] #[]
def frm9 : Array Value := #[.int .i64 65535, fnv9 74, fnv9 75, fnv9 76, .int .i64 16908288, fnv9 77, fnv9 78, fnv9 79, .int .i64 16908288, fnv9 80, fnv9 81, fnv9 82]
theorem info_frm9 : (Tryz.prog.info? 115).map (·.size) = some frm9.size := by kernel_rfl
set_option maxRecDepth 100000 in
set_option maxHeartbeats 4000000 in
theorem pforms9 (w : World) :
    Calls Tryz.prog 53 #[] w fun e w' => e = .returned (.agg frm9) ∧ Below w.heap.size w w' := by
  go_enter Tryz.func53, Tryz.ntmps53
  go_wp2_with (first
    | (refine wpList_store_row rfl 115 (.tmp 0) (.tmp 4) rfl w.heap.size frm9 rfl (by kernel_rfl) _ _ (heap_alloc_new w _) (by kernel_rfl) (by kernel_rfl) (by kernel_rfl) ?_)
    | (refine wpList_build rfl 115 _ rfl (by kernel_rfl) ?_)
    | (refine wpList_build rfl 111 _ rfl (by kernel_rfl) ?_))
  refine bodyPost_ret (v := .agg frm9) (results_cell_row rfl _ _ w.heap.size _ _ _ _ rfl (setRow_heap _ _ _ _ _ _ (heap_alloc_new w _)) Tryz.underlying115 rfl info_frm9) rfl ⟨rfl, ?_⟩
  exact ((Below.refl w.heap.size w).alloc (Nat.le_refl _) _).grown (grown_setRow _ _ _) (by simp) (fun j e => by cases e; exact Nat.le_refl _)
end Go.Proofs.YtiankbopnjhhaaaGreatDoor

namespace Go.Proofs.YtiankbopnjhhaaaGreatDoor
open Go.RowKit
set_option linter.unusedVariables false

/-! The landed block: planned. -/
theorem results_ctt9 {P : Program} {fn : Func} {p u v : Tmp} {ty : TypeId} (h : fn.results = #[.cell p ty, .tmp u, .tmp v]) (tmps : Array Value) (w : World) (g : Nat) (t : TypeId) (cs : Array Value) (fr : Nat × Nat) (d : TypeDesc)
    (hp : tmps.getD p undef = .pointer (some ⟨g, 0, none⟩)) (hg : w.heap[g]? = some (.cells cs t fr))
    (hu : P.underlying ty = some d) (hd : (match d with | .struct _ | .array _ _ => true | _ => false) = true) (hi : (P.info? ty).map (·.size) = some cs.size) :
    (results fn tmps).run P w = .ok (.tuple #[.agg cs, tmps.getD u undef, tmps.getD v undef]) w := by
  have e : (results fn tmps).run P w = ((asAddr (tmps.getD p undef)).run P w).andThen fun a w₁ => ((loadVar ty a).run P w₁).andThen fun x w₂ => .ok (.tuple #[x, tmps.getD u undef, tmps.getD v undef]) w₂ := by
    simp only [results, h]
    simp [Sem.run_bind, Result.andThen]
  rw [e, hp]
  simp [asAddr, Result.andThen, run_loadVar_row w g t ty cs fr d hg hu hd hi]
set_option maxRecDepth 100000 in
theorem pinb9 (x : Int) (h : 0 ≤ x ∧ x < 8) (w : World) : Calls Tryz.prog 52 #[.int .i64 x] w fun e w' => e = .returned (.bool true) ∧ w' = w := by
  have h1 := h.1
  have h2 := h.2
  go_enter Tryz.func52, Tryz.ntmps52
  go_wp2_with fail
  go_ret
  exact ⟨rfl, rfl⟩
/-- How a block of a kind is written, and read. -/
def fk9 (k : Nat) : Array Value := frm9.extract (k * 4) (k * 4 + 4)
def mst9 (k : Nat) : Int := if k = 0 then 65535 else 16908288
theorem fk9_facts (k : Nat) (hk : k < 3) : (Tryz.prog.info? 111).map (·.size) = some (fk9 k).size ∧ (#[.int .i64 0, .nilFunc, .nilFunc, .nilFunc] : Array Value).size = (fk9 k).size ∧ (fk9 k).all (·.oneCell') = true ∧ (fk9 k)[0]? = some (.int .i64 (mst9 k)) := by
  obtain rfl | rfl | rfl : k = 0 ∨ k = 1 ∨ k = 2 := by omega
  · exact ⟨by kernel_rfl, by kernel_rfl, by kernel_rfl, by kernel_rfl⟩
  · exact ⟨by kernel_rfl, by kernel_rfl, by kernel_rfl, by kernel_rfl⟩
  · exact ⟨by kernel_rfl, by kernel_rfl, by kernel_rfl, by kernel_rfl⟩
set_option maxRecDepth 100000 in
set_option maxHeartbeats 4000000 in
theorem pplan9_ok (l : List Tok7) (a : Option Addr) (n cap : Nat) (hn : Hid (l.length = n)) (k : Nat) (hk : k < 3) (x : Int) (hx : 0 ≤ x ∧ x < 8) (w : World) (hs : SegT w a l) (hl : n ≤ 65536) (hm : ∀ t ∈ l, may7 t) (hsz : (tal9 l).getD 0 0 ≤ mst9 k) :
    Calls Tryz.prog 51 #[.int .i64 (k : Int), .int .i64 x, .slice a n cap] w fun e w' => ∃ b, w.heap.size ≤ b ∧ e = .returned (.tuple #[.agg (fk9 k), .pointer (some ⟨b, 0, none⟩), .int .i64 0]) ∧ Ta9 w' b (tal9 l) ∧ Below w.heap.size w w' := by
  have hix : ∀ W, (Instr.index 115 (.agg frm9) (.int .i64 (k : Int))).run Tryz.prog W = .ok (.agg (fk9 k)) W := fun W => run_index9 W 115 111 3 4 _ _ k .i64 hk Tryz.underlying115 Tryz.underlying111 (by kernel_rfl)
  have hst : ∀ (W : World) (a : Addr) (f : Fn) (x y : Array Value), (store a (.func f x y)).run Tryz.prog W = stored Tryz.prog W a (.func f x y) .plain := fun W a f x y => run_store Tryz.prog W a _ _ rfl
  have HM : Hid (∀ t ∈ l, may7 t) := hm
  have HS : Hid (SegT w a l) := hs
  have HSZ : Hid ((tal9 l).getD 0 0 ≤ mst9 k) := hsz
  clear hm hs hsz
  have k0 : ¬ (k : Int) < 0 := by omega
  have k3 : ¬ (3 : Int) ≤ (k : Int) := by omega
  go_enter Tryz.func51, Tryz.ntmps51
  go_wp2_with fail
  have q0 := heap_alloc_new w (.cells #[.int .i64 0, .nilFunc, .nilFunc, .nilFunc] 111)
  have B0 := below_box8 w (.cells #[.int .i64 0, .nilFunc, .nilFunc, .nilFunc] 111)
  generalize w.alloc (.cells #[.int .i64 0, .nilFunc, .nilFunc, .nilFunc] 111) = w0 at *
  refine (pinb9 x hx w0).mono ?_
  rintro e w0' ⟨rfl, hw0⟩
  rw [hw0]
  clear hw0 w0'
  go_wp2_with fail
  refine (ptal9 l a n cap hn w0 (HS.out.old B0) hl).mono ?_
  rintro e w1 hq
  rcases hq with ⟨_, b, hb, rfl, TA, b1⟩ | ⟨hno, _, _⟩
  · go_wp2_with fail
    refine (pforms9 w1).mono ?_
    rintro e w2 ⟨rfl, b2⟩
    have TB := TA.keep (b2.block b TA.lt)
    have q2 := (b2.block w.heap.size (by have := (Array.getElem?_eq_some_iff.1 q0).1; have := b1.size; omega)).trans ((b1.block w.heap.size (Array.getElem?_eq_some_iff.1 q0).1).trans q0)
    have B2 : Below w.heap.size w w2 := (B0.trans (b1.mono B0.size)).trans (b2.mono (by have := B0.size; have := b1.size; omega))
    have hwb : w.heap.size ≠ b := by have := (Array.getElem?_eq_some_iff.1 q0).1; omega
    have hww : w.heap.size < w2.heap.size := (Array.getElem?_eq_some_iff.1 q2).1
    obtain ⟨fi, fs, fo, f0⟩ := fk9_facts k hk
    have HSP : Hid (Below w.heap.size w w0) := B0
    have hbb : w0.heap.size ≤ b := hb
    clear TA b1 b2 q0 hb
    go_wp2_with (refine wpList_store_row rfl 111 (.tmp 11) (.tmp 35) rfl w2.heap.size (fk9 k) rfl rfl _ _ (heap_alloc_new w2 _) fi fs fo ?_)
    have q3 := setRow_heap _ w2.heap.size _ (fk9 k) _ _ (heap_alloc_new w2 (.cells #[.int .i64 0, .nilFunc, .nilFunc, .nilFunc] 111))
    have b3 : Below w2.heap.size w2 ((w2.alloc (.cells #[.int .i64 0, .nilFunc, .nilFunc, .nilFunc] 111)).setRow w2.heap.size (fk9 k)) := ((Below.refl w2.heap.size w2).alloc (Nat.le_refl _) _).grown (grown_setRow _ _ _) (by simp) (fun j e => by cases e; exact Nat.le_refl _)
    generalize (w2.alloc (.cells #[.int .i64 0, .nilFunc, .nilFunc, .nilFunc] 111)).setRow w2.heap.size (fk9 k) = w3 at *
    have T3 := TB.keep (b3.block b TB.lt)
    have q33 := (b3.block w.heap.size hww).trans q2
    have B3 : Below w.heap.size w w3 := B2.trans (b3.mono B2.size)
    have c0 := T3.cell (i := 0) (by omega)
    have c1 : w3.cell? ⟨w2.heap.size, 0, none⟩ = some (.int .i64 (mst9 k)) := (cell_of_row w3 _ 0 _ _ _ q3).trans f0
    have hsz := HSZ.out
    obtain ⟨z, hz⟩ : ∃ z, z = (tal9 l).getD 0 0 := ⟨_, rfl⟩
    rw [← hz] at c0 hsz
    generalize mst9 k = M at *
    have hnz : ¬ M < z := by omega
    clear hz TB q2 b3 B2 HSZ f0
    go_region_held3 (fun w' => w'.cell? ⟨b, 0, none⟩ = some (.int .i64 z) ∧ w'.cell? ⟨w2.heap.size, 0, none⟩ = some (.int .i64 M)) (exact ⟨c0, c1⟩) (fail)
    have q4 : w3.drew.heap[w2.heap.size]? = some (.cells (fk9 k) 111 (0, 0)) := q3
    have q5 : w3.drew.heap[w.heap.size]? = some (.cells #[.int .i64 0, .nilFunc, .nilFunc, .nilFunc] 111 (0, 0)) := q33
    have T4 : Ta9 w3.drew b (tal9 l) := T3.keep rfl
    have B4 : Below w.heap.size w w3.drew := B3.drew
    generalize w3.drew = w4 at *
    clear q3 q33 T3 B3 c0 c1
    go_wp2_with (first
      | (refine wpList_load_row rfl 111 (.tmp 11) rfl w2.heap.size rfl _ _ _ _ q4 Tryz.underlying111 rfl fi ?_)
      | (refine wpList_store_row rfl 111 (.tmp 6) (.tmp 44) rfl w.heap.size (fk9 k) rfl rfl _ _ q5 fi fs fo ?_))
    have q6 := setRow_heap w4 w.heap.size _ (fk9 k) _ _ q5
    have g6 := grown_setRow w4 w.heap.size (fk9 k)
    refine bodyPost_ret (v := .tuple #[.agg (fk9 k), .pointer (some ⟨b, 0, none⟩), .int .i64 0]) (results_ctt9 (fn := Tryz.f51) (p := 6) (u := 7) (v := 8) (ty := 111) rfl _ _ w.heap.size _ _ _ _ rfl q6 Tryz.underlying111 rfl fi) rfl ?_
    refine ⟨b, by have := HSP.out.size; omega, rfl, T4.keep (g6.block b T4.lt (by simp; omega)), B4.trans ((Below.refl _ _).grown g6 B4.size (fun j e => by cases e; exact Nat.le_refl _))⟩
  · exact absurd HM.out hno
end Go.Proofs.YtiankbopnjhhaaaGreatDoor
