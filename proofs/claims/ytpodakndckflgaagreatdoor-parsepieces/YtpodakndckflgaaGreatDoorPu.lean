import Derived.Test.YtpodakndckflgaaGreatDoorPj
import Derived.Test.YtpodakndckflgaaGreatDoorPk
import Derived.Test.YtpodakndckflgaaGreatDoorPe
import Derived.Test.YtpodakndckflgaaGreatDoorPa
import Derived.Laws.ResultCell
namespace Go.Proofs.YtpodakndckflgaaGreatDoor
open Go.RowKit Go.Shelf
set_option linter.unusedVariables false
set_option linter.unusedSimpArgs false
def z25 : List Int := [83, 65, 80, 82, 1, 0, 0, 64, 100, 0, 0, 0, 0, 0, 0, 0, 0, 84, 212, 43, 90, 28, 223, 68, 33]
theorem z17_is : hd18 h018 = z25.take 17 := by decide
theorem s17_is : wI (sumW (z25.take 17)) = 1512821844 := by decide +kernel
theorem s21_is : wI (sumW (z25.take 21)) = 558161692 := by decide +kernel
theorem s25_is : wI (sumW (z25.take 25)) = 558161692 := by decide +kernel
theorem z25_is : sum18 (sum18 (hd18 h018)) = z25 := by
  have e : sum18 (hd18 h018) = z25.take 21 := by
    unfold sum18
    rw [z17_is, s17_is]
    decide
  unfold sum18 at *
  rw [e, s21_is]
  decide
theorem sumW_snoc19 (l : List Int) (v : Int) : ad19 (sumW l) v = sumW (l ++ [v]) := by
  unfold ad19 sumW
  rw [not_not, runW_snoc]
noncomputable def dd19 (s : R19) (e : E19) (v : Int) : D19 :=
  if s.nx = 1 then (false, (mg19 s v).1, (mg19 s v).2, e) else if s.nx = 2 then (false, (hn19 s v).1, (hn19 s v).2, e) else if s.nx = 3 then (false, 0, im19 s v, e) else if s.nx = 4 then hs19 s e else es19 s e
def sv25 (S : W32) (k : Nat) (t : Int) : R19 :=
  { sm := S, tv := 0, tc := 0, nx := if k < 5 then 1 else if k < 9 then 2 else if k < 17 then 3 else if k < 21 then 4 else if k < 25 then 7 else 8, cn := if k < 5 then (k : Int) else if k < 9 then (k : Int) - 5 else if k < 17 then (k : Int) - 9 else if k < 21 then (k : Int) - 17 else if k < 25 then (k : Int) - 21 else 0, n0 := 0, n1 := 0, n2 := if 8 ≤ k then 64 else 0, n3 := if 9 ≤ k then 100 else 0, n4 := 0, n5 := 0, n6 := 0, hd := if 9 ≤ k then ⟨0, 0, 0, 0, 64, 100⟩ else ⟨0, 0, 0, 0, 0, 0⟩, wn := 0, l0 := 0, l1 := 0, l2 := 0, tk := t, wr := 0 }
def st25 (k : Nat) (t : Int) : R19 := sv25 (sumW (z25.take k)) k t
def eh25 : E19 := { e019 with kd := 1, hd := ⟨0, 0, 0, 0, 64, 100⟩ }
def ee25 : E19 := { e019 with kd := 4 }
theorem take_snoc25 {k : Nat} (h : k < 25) : z25.take (k + 1) = z25.take k ++ [z25.getD k 0] := by
  rw [List.take_add_one]
  have : k < z25.length := h
  simp [List.getD, this]
theorem am25 {k : Nat} (h : k < 25) (t : Int) : am19 (st25 k t) (z25.getD k 0) = sv25 (sumW (z25.take (k + 1))) k t := by
  rw [take_snoc25 h, ← sumW_snoc19]
  rfl
theorem ok25 : Hd18.Ok ⟨0, 0, 0, 0, 64, 100⟩ := by unfold Hd18.Ok; decide
theorem win25 : win18 ⟨0, 0, 0, 0, 64, 100⟩ = 0 := by
  unfold win18
  rw [if_pos (by unfold Hd18.Ok; decide)]
  rfl
set_option maxRecDepth 100000 in
theorem dstep25 {k : Nat} (h : k < 25) (t : Int) (e : E19) : dd19 (am19 (st25 k t) (z25.getD k 0)) e (z25.getD k 0) = (decide (k = 20 ∨ k = 24), 0, st25 (k + 1) t, if k = 20 then eh25 else if k = 24 then ee25 else e) := by
  rw [am25 h]
  unfold st25
  have h21 := s21_is
  have h25 := s25_is
  obtain ⟨S, hS⟩ : ∃ S, S = sumW (z25.take (k + 1)) := ⟨_, rfl⟩
  rw [← hS]
  rcases (by omega : k = 0 ∨ k = 1 ∨ k = 2 ∨ k = 3 ∨ k = 4 ∨ k = 5 ∨ k = 6 ∨ k = 7 ∨ k = 8 ∨ k = 9 ∨ k = 10 ∨ k = 11 ∨ k = 12 ∨ k = 13 ∨ k = 14 ∨ k = 15 ∨ k = 16 ∨ k = 17 ∨ k = 18 ∨ k = 19 ∨ k = 20 ∨ k = 21 ∨ k = 22 ∨ k = 23 ∨ k = 24) with rfl | rfl | rfl | rfl | rfl | rfl | rfl | rfl | rfl | rfl | rfl | rfl | rfl | rfl | rfl | rfl | rfl | rfl | rfl | rfl | rfl | rfl | rfl | rfl | rfl
  · rfl
  · rfl
  · rfl
  · rfl
  · rfl
  · rfl
  · rfl
  · rfl
  · rfl
  · rfl
  · rfl
  · rfl
  · rfl
  · rfl
  · rfl
  · rfl
  · rfl
  · rfl
  · rfl
  · rfl
  · have h21 : wI S = 558161692 := by rw [hS]; exact h21
    have hw : wd19 (sv25 S 20 t) = (true, 0) := by
      unfold wd19
      rw [if_pos (by rfl), if_pos (by exact h21)]
    have hg : go19 (sv25 S 20 t) = 7 := by unfold go19; rw [if_pos (by exact win25.symm)]
    show hs19 (sv25 S 20 t) e = _
    unfold hs19
    rw [hw, if_pos rfl, if_pos (by exact ok25), hg]
    rfl
  · rfl
  · rfl
  · rfl
  · have h25 : wI S = 558161692 := by rw [hS]; exact h25
    have hw : wd19 (sv25 S 24 t) = (true, 0) := by
      unfold wd19
      rw [if_pos (by rfl), if_pos (by exact h25)]
    show es19 (sv25 S 24 t) e = _
    unfold es19
    rw [hw, if_pos rfl]
    rfl
theorem run25_a : ∀ (n k j : Nat) (t : Int) (e : E19), k + n = 20 → run19 dd19 (st25 k t) e j (z25.drop k) = (0, j + n + 1, st25 21 t, eh25)
  | 0, k, j, t, e, h => by
    obtain rfl : k = 20 := by omega
    have hd : z25.drop 20 = z25.getD 20 0 :: z25.drop 21 := by rfl
    have D := dstep25 (k := 20) (by decide) t e
    rw [hd, run19_wh (by show (4 : Int) ≠ 8; decide) (by rw [D])]
    rw [D]
    rfl
  | n + 1, k, j, t, e, h => by
    have hk : k < 20 := by omega
    have hd : z25.drop k = z25.getD k 0 :: z25.drop (k + 1) := by
      have hk2 : k < z25.length := by show k < 25; omega
      rw [List.drop_eq_getElem_cons hk2]
      simp [List.getD, hk2]
    have D := dstep25 (k := k) (by omega) t e
    rw [hd, run19_wh (by unfold st25 sv25; simp; omega) (by rw [D])]
    rw [D]
    simp only [show decide (k = 20 ∨ k = 24) = false by simp; omega, Bool.false_eq_true, if_false, show ¬ k = 20 by omega, show ¬ k = 24 by omega]
    rw [run25_a n (k + 1) (j + 1) t e (by omega)]
    simp
    omega
theorem run25_b : ∀ (n k j : Nat) (t : Int) (e : E19), 20 < k → k + n = 24 → run19 dd19 (st25 k t) e j (z25.drop k) = (0, j + n + 1, st25 25 t, ee25)
  | 0, k, j, t, e, h0, h => by
    obtain rfl : k = 24 := by omega
    have hd : z25.drop 24 = z25.getD 24 0 :: z25.drop 25 := by rfl
    have D := dstep25 (k := 24) (by decide) t e
    rw [hd, run19_wh (by show (7 : Int) ≠ 8; decide) (by rw [D])]
    rw [D]
    rfl
  | n + 1, k, j, t, e, h0, h => by
    have hk : k < 24 := by omega
    have hd : z25.drop k = z25.getD k 0 :: z25.drop (k + 1) := by
      have hk2 : k < z25.length := by show k < 25; omega
      rw [List.drop_eq_getElem_cons hk2]
      simp [List.getD, hk2]
    have D := dstep25 (k := k) (by omega) t e
    rw [hd, run19_wh (by unfold st25 sv25; simp; omega) (by rw [D])]
    rw [D]
    simp only [show decide (k = 20 ∨ k = 24) = false by simp; omega, Bool.false_eq_true, if_false, show ¬ k = 20 by omega, show ¬ k = 24 by omega]
    rw [run25_b n (k + 1) (j + 1) t e (by omega) (by omega)]
    simp
    omega
/-- The states of this patch, with the bytes that are to come. -/
def I25 (s : R19) (e : E19) (l : List Int) : Prop := ∃ (k : Nat) (t : Int), k ≤ 25 ∧ s = st25 k t ∧ l = z25.drop k
theorem I25.step {s : R19} {e : E19} {v : Int} {r : List Int} (h : I25 s e (v :: r)) : ∃ (k : Nat) (t : Int), k < 25 ∧ s = st25 k t ∧ v = z25.getD k 0 ∧ r = z25.drop (k + 1) := by
  obtain ⟨k, t, hk, hs, hl⟩ := h
  have h2 : k < z25.length := by
    rcases Nat.lt_or_ge k z25.length with x | x
    · exact x
    · rw [List.drop_eq_nil_of_le x] at hl; cases hl
  rw [List.drop_eq_getElem_cons h2] at hl
  injection hl with h3 h4
  exact ⟨k, t, h2, hs, by rw [h3]; simp [List.getD, h2], h4⟩
theorem nx25 {k : Nat} {t : Int} : ((st25 k t).nx = 1 → k < 5) ∧ ((st25 k t).nx = 2 → 5 ≤ k ∧ k < 9) ∧ ((st25 k t).nx = 3 → 9 ≤ k ∧ k < 17) ∧ ((st25 k t).nx = 4 → 17 ≤ k ∧ k < 21) ∧ ¬ (st25 k t).nx = 5 ∧ ¬ (st25 k t).nx = 6 ∧ ((st25 k t).nx = 7 → 21 ≤ k ∧ k < 25) ∧ 1 ≤ (st25 k t).nx ∧ (st25 k t).nx ≤ 8 := by
  unfold st25 sv25
  simp only
  split
  · refine ⟨fun _ => by omega, ?_, ?_, ?_, ?_, ?_, ?_, ?_, ?_⟩ <;> first | decide | (intro h; cases h)
  · split
    · refine ⟨?_, fun _ => by omega, ?_, ?_, ?_, ?_, ?_, ?_, ?_⟩ <;> first | decide | (intro h; cases h)
    · split
      · refine ⟨?_, ?_, fun _ => by omega, ?_, ?_, ?_, ?_, ?_, ?_⟩ <;> first | decide | (intro h; cases h)
      · split
        · refine ⟨?_, ?_, ?_, fun _ => by omega, ?_, ?_, ?_, ?_, ?_⟩ <;> first | decide | (intro h; cases h)
        · split
          · refine ⟨?_, ?_, ?_, ?_, ?_, ?_, fun _ => by omega, ?_, ?_⟩ <;> first | decide | (intro h; cases h)
          · refine ⟨?_, ?_, ?_, ?_, ?_, ?_, ?_, ?_, ?_⟩ <;> first | decide | (intro h; cases h)
theorem Ev19.kb {V V' : World} {bt base b : Nat} {e : E19} (h : Ev19 V bt base e) (hk : Kp (fun k => k = b) V V') (hn : bt ≠ b) (hb : b < base) : Ev19 V' bt base e ∧ Kp (fun k => k = b ∨ k = bt ∨ base ≤ k) V V' := ⟨h.kp hk hn hb, hk.mono (fun _ _ x => .inl x)⟩
theorem dd19_1 {s : R19} (e : E19) (v : Int) (h : s.nx = 1) : dd19 s e v = (false, (mg19 s v).1, (mg19 s v).2, e) := by unfold dd19; rw [if_pos h]
theorem dd19_2 {s : R19} (e : E19) (v : Int) (h : s.nx = 2) : dd19 s e v = (false, (hn19 s v).1, (hn19 s v).2, e) := by unfold dd19; rw [if_neg (by omega), if_pos h]
theorem dd19_3 {s : R19} (e : E19) (v : Int) (h : s.nx = 3) : dd19 s e v = (false, 0, im19 s v, e) := by unfold dd19; rw [if_neg (by omega), if_neg (by omega), if_pos h]
theorem dd19_4 {s : R19} (e : E19) (v : Int) (h : s.nx = 4) : dd19 s e v = hs19 s e := by unfold dd19; rw [if_neg (by omega), if_neg (by omega), if_neg (by omega), if_pos h]
theorem dd19_7 {s : R19} (e : E19) (v : Int) (h : s.nx = 7) : dd19 s e v = es19 s e := by unfold dd19; rw [if_neg (by omega), if_neg (by omega), if_neg (by omega), if_neg (by omega)]
theorem cn25 {k : Nat} {t : Int} : (k < 5 → (st25 k t).cn = (k : Int)) ∧ (5 ≤ k ∧ k < 9 → (st25 k t).cn = (k : Int) - 5) ∧ (9 ≤ k ∧ k < 17 → (st25 k t).cn = (k : Int) - 9 ∧ (st25 k t).hd = ⟨0, 0, 0, 0, 64, 100⟩) ∧ (17 ≤ k ∧ k < 21 → (st25 k t).cn = (k : Int) - 17) ∧ (21 ≤ k ∧ k < 25 → (st25 k t).cn = (k : Int) - 21) := by
  unfold st25 sv25
  simp only
  refine ⟨fun h => ?_, fun h => ?_, fun h => ⟨?_, ?_⟩, fun h => ?_, fun h => ?_⟩
  · rw [if_pos h]
  · rw [if_neg (by omega), if_pos (by omega)]
  · rw [if_neg (by omega), if_neg (by omega), if_pos (by omega)]
  · rw [if_pos (by omega)]
  · rw [if_neg (by omega), if_neg (by omega), if_neg (by omega), if_pos (by omega)]
  · rw [if_neg (by omega), if_neg (by omega), if_neg (by omega), if_neg (by omega), if_pos (by omega)]
theorem dc25 : DC19 dd19 I25 where
  nx := fun s e l h => by
    obtain ⟨k, t, _, rfl, _⟩ := h
    have := nx25 (k := k) (t := t)
    exact ⟨this.2.2.2.2.2.2.2.1, this.2.2.2.2.2.2.2.2⟩
  iv := fun s e v r h _ _ _ _ => by
    obtain ⟨k, t, hk, rfl, rfl, rfl⟩ := h.step
    rw [dstep25 hk]
    exact ⟨k + 1, t, by omega, rfl, rfl⟩
  tk := fun s e v r h _ _ _ => by
    obtain ⟨k, t, hk, rfl, rfl, rfl⟩ := h.step
    rw [dstep25 hk]
    rfl
  c1 := fun V b bt base s e v r h hj h0 h1 ht q hE n1 n2 n3 n4 => by
    obtain ⟨k, t, hk, hs, _, _⟩ := h.step
    have hr := nx25.1 (by rw [← hs]; exact hj)
    have hc := (cn25 (k := k) (t := t)).1 hr
    rw [← hs] at hc
    rw [dd19_1 e v (s := am19 s v) hj]
    refine (pmag19 b _ (am19 s v) v _ V q ⟨h0, h1⟩ (by show 0 ≤ s.cn ∧ s.cn < 5; rw [hc]; omega)).mono ?_
    rintro en w' ⟨rfl, q', k'⟩
    exact ⟨rfl, q', (hE.kb k' n1 n2).1, (hE.kb k' n1 n2).2⟩
  c2 := fun V b bt base s e v r h hj h0 h1 ht q hE n1 n2 n3 n4 => by
    obtain ⟨k, t, hk, hs, _, _⟩ := h.step
    have hr := nx25.2.1 (by rw [← hs]; exact hj)
    have hc := (cn25 (k := k) (t := t)).2.1 hr
    rw [← hs] at hc
    rw [dd19_2 e v (s := am19 s v) hj]
    have hT : Tk19 (am19 s v) := by rw [hs]; exact ⟨Int.le_refl _, by show (0 : Int) < 128 ^ 0; decide, by show 0 ≤ 9; decide⟩
    refine (phnm19 b _ (am19 s v) v _ V q hT ⟨h0, h1⟩ (by show 0 ≤ s.cn ∧ s.cn < 4; rw [hc]; omega)).mono ?_
    rintro en w' ⟨rfl, q', k'⟩
    exact ⟨rfl, q', (hE.kb k' n1 n2).1, (hE.kb k' n1 n2).2⟩
  c3 := fun V b bt base s e v r h hj h0 h1 ht q hE n1 n2 n3 n4 => by
    obtain ⟨k, t, hk, hs, _, _⟩ := h.step
    have hr := nx25.2.2.1 (by rw [← hs]; exact hj)
    have hc := (cn25 (k := k) (t := t)).2.2.1 hr
    rw [← hs] at hc
    rw [dd19_3 e v (s := am19 s v) hj]
    have hI : Im19 (am19 s v) := by
      refine ⟨by show 0 ≤ s.cn; rw [hc.1]; omega, by show s.cn < 8; rw [hc.1]; omega, fun _ => ?_, fun _ => ?_⟩
      · show 0 ≤ s.hd.so ∧ s.hd.so < 2 ^ _
        rw [hc.2]
        exact ⟨Int.le_refl _, Int.pow_pos (by decide)⟩
      · show 0 ≤ s.hd.sn ∧ s.hd.sn < 2 ^ _
        rw [hc.2]
        exact ⟨Int.le_refl _, Int.pow_pos (by decide)⟩
    refine (pimg19 b _ (am19 s v) v _ V q ⟨h0, h1⟩ hI).mono ?_
    rintro en w' ⟨rfl, q', k'⟩
    exact ⟨rfl, q', (hE.kb k' n1 n2).1, (hE.kb k' n1 n2).2⟩
  c4 := fun V b bt base s e v r h hj h0 h1 ht q hE n1 n2 n3 n4 => by
    obtain ⟨k, t, hk, hs, _, _⟩ := h.step
    have hr := nx25.2.2.2.1 (by rw [← hs]; exact hj)
    have hc := (cn25 (k := k) (t := t)).2.2.2.1 hr
    rw [← hs] at hc
    rw [dd19_4 e v (s := am19 s v) hj]
    refine (phsm19 b bt base _ (am19 s v) e _ V q hE n1 n2 (by show 0 ≤ s.cn ∧ s.cn ≤ 1000; rw [hc]; omega)).mono ?_
    rintro en w' ⟨rfl, q', e', k'⟩
    exact ⟨rfl, q', e', k'.mono (fun _ _ x => by rcases x with x | x; exact .inl x; exact .inr (.inl x))⟩
  c5 := fun V b bt base s e v r h hj => by
    obtain ⟨k, t, hk, hs, _, _⟩ := h.step
    rw [hs] at hj
    exact absurd hj nx25.2.2.2.2.1
  c6 := fun V b bt base s e v r h hj => by
    obtain ⟨k, t, hk, hs, _, _⟩ := h.step
    rw [hs] at hj
    exact absurd hj nx25.2.2.2.2.2.1
  c7 := fun V b bt base s e v r h hj h0 h1 ht q hE n1 n2 n3 n4 => by
    obtain ⟨k, t, hk, hs, _, _⟩ := h.step
    have hr := nx25.2.2.2.2.2.2.1 (by rw [← hs]; exact hj)
    have hc := (cn25 (k := k) (t := t)).2.2.2.2 hr
    rw [← hs] at hc
    rw [dd19_7 e v (s := am19 s v) hj]
    refine (pesm19 b bt base _ (am19 s v) e _ V q hE n1 n2 (by show 0 ≤ s.cn ∧ s.cn ≤ 1000; rw [hc]; omega)).mono ?_
    rintro en w' ⟨rfl, q', e', k'⟩
    exact ⟨rfl, q', e', k'.mono (fun _ _ x => by rcases x with x | x; exact .inl x; exact .inr (.inl x))⟩
end Go.Proofs.YtpodakndckflgaaGreatDoor

namespace Go.Proofs.YtpodakndckflgaaGreatDoor
open Go.RowKit Go.Shelf
set_option linter.unusedVariables false
set_option linter.unusedSimpArgs false
set_option maxRecDepth 100000 in
theorem pemp19 (w : World) (ht : Tab w) : Calls Tryz.prog 15 #[] w fun e w' => ∃ g c, e = .returned (.slice (some ⟨g, 0, none⟩) 25 c) ∧ 25 ≤ c ∧ Seg w' (some ⟨g, 0, none⟩) z25 ∧ w.heap.size ≤ g ∧ Below w.heap.size w w' := by
  have EN := penc18 w ht
  rw [z25_is] at EN
  have HEN : Hid (Calls Tryz.prog 19 #[.agg #[.int .i64 0, .int .i64 0, .int .u32 0, .int .u32 0, .int .i64 64, .int .i64 100], .agg #[.int .i64 100, .int .i64 10, .bool false, .int .i64 50], .slice none 0 0] w (HdQ18 w z25 0)) := EN
  clear EN
  go_enter Tryz.func15, Tryz.ntmps15
  go_wp2_with fail
  refine HEN.out.mono ?_
  rintro e1 w1 ⟨p, c, rfl, ow, b1⟩
  obtain ⟨_, a3, c3, hv, sg, hb, hc, _⟩ := own_seg ow (M := 255) (by decide) (by decide)
  cases hv
  obtain ⟨g, gc, hv, _, _, _⟩ := own_shape ow (by decide)
  injection hv with hv1 hv2 hv3
  subst hv1
  have hbg := hb _ rfl
  have HP : Hid (25 ≤ c ∧ Seg w1 (some ⟨g, 0, none⟩) z25 ∧ w.heap.size ≤ g ∧ Below w.heap.size w w1) := ⟨hc, sg, hbg.2.2.1, b1⟩
  clear ow sg hb hc hbg hv2 hv3 b1
  go_wp2
  go_ret
  exact ⟨g, c, rfl, HP.out.1, HP.out.2.1, HP.out.2.2.1, HP.out.2.2.2⟩
theorem s25_0 : s019 1 = st25 0 0 := by
  have : sumW (z25.take 0) = 0#32 := by decide
  unfold st25
  rw [this]
  rfl
theorem run25_1 : run19 dd19 (st25 0 0) e019 0 z25 = (0, 21, st25 21 0, eh25) := run25_a 20 0 0 0 e019 rfl
theorem run25_2 : run19 dd19 (st25 21 21) e019 0 (z25.drop 21) = (0, 4, st25 25 21, ee25) := run25_b 3 21 0 21 e019 (by decide) rfl
set_option maxRecDepth 100000 in
set_option maxHeartbeats 8000000 in
theorem pliv19 (w : World) (ht : Tab w) (h0 : 0 < w.heap.size) : Calls Tryz.prog 9 #[] w fun e w' => e = .returned (.bool true) ∧ Below w.heap.size w w' := by
  have HT : Hid (Tab w ∧ 0 < w.heap.size) := ⟨ht, h0⟩
  obtain ⟨b, hb⟩ : ∃ b, b = w.heap.size := ⟨_, rfl⟩
  have HB : Hid (w.heap.size = b) := hb.symm
  clear ht h0 hb
  go_enter Tryz.func9, Tryz.ntmps9
  go_wp2_with fail
  refine (pnew19 w).mono ?_
  rintro e1 w1 ⟨rfl, q1, b1⟩
  rw [HB.out] at q1
  rw [HB.out]
  rw [s25_0] at q1
  have d0 := q1.c0
  have HQ1 : Hid (St19 w1 b 60 (st25 0 0) ∧ Below w.heap.size w w1) := ⟨q1, b1⟩
  have EM := pemp19 w1 (HT.out.1.old b1)
  clear q1 b1
  go_wp2_with fail
  refine EM.mono ?_
  rintro e2 w2 ⟨g, c, rfl, hc, sg, hg, b2⟩
  have hlt1 := HQ1.out.1.lt
  have HG : Hid (25 ≤ c ∧ b < g ∧ g < w2.heap.size) := ⟨hc, by omega, by obtain ⟨b', o', e, cc⟩ := sg.at_ 0 (by decide); cases e; exact World.block_lt_of_cell? w2 _ cc⟩
  have B2 : Below w.heap.size w w2 := HQ1.out.2.trans (b2.mono HQ1.out.2.size)
  have q2 := HQ1.out.1.old b2
  have S1 := pSt19_ok dc25 b (st25 0 0) (some ⟨g, 0, none⟩) c z25 w2 (HT.out.1.old B2) q2 ⟨0, 0, by decide, rfl, rfl⟩ sg (fun x off e hp => by cases e; have := HG.out; omega) (by decide) (by have := HB.out; have := HT.out.2; omega) (by decide) (by show (1 : Int) ≠ 0; decide) rfl (by rw [run25_1])
  rw [run25_1] at S1
  have HS1 : Hid (Calls Tryz.prog 7 #[.pointer (some ⟨b, 0, none⟩), .slice (some ⟨g, 0, none⟩) 25 c] w2 (StQ19 (0, 21, st25 21 0, eh25) w2 b (st25 0 0))) := S1
  have HB2 : Hid (Below w.heap.size w w2) := B2
  have HSG : Hid (Seg w2 (some ⟨g, 0, none⟩) z25) := sg
  have e0 := q2.c0
  clear S1 EM B2 q2 sg hg b2 hc hlt1 HQ1 d0
  go_wp2_with fail
  refine HS1.out.mono ?_
  rintro e3 w3 ⟨p3, c3, rfl, q3, o3, k3⟩
  have q3 : St19 w3 b 60 (st25 21 21) := q3
  obtain ⟨b3, hb3⟩ : ∃ b3, b3 = w3.heap.size := ⟨_, rfl⟩
  obtain ⟨w4, hw4⟩ : ∃ w4, w4 = w3.alloc (.cells (e019.cs none 0) 39) := ⟨_, rfl⟩
  have c4 := cb16 w3 (e019.cs none 0) 39
  rw [← hw4] at c4
  have q34 : w4.heap[b3]? = some (.cells (e019.cs none 0) 39 (0, 0)) := by rw [hb3]; exact c4.cl
  obtain ⟨w5, hw5⟩ : ∃ w5, w5 = w4.setRow b3 (eh25.cs p3 c3) := ⟨_, rfl⟩
  have k5 : Kp (fun k => k = b3) w4 w5 := by rw [hw5]; exact grow19 _ _ _
  have s3 := k3.size
  have s4 := c4.sz
  have hg := HG.out
  have hbw := HB.out
  have q35 : w5.heap[b3]? = some (.cells (eh25.cs p3 c3) 39 (0, 0)) := by rw [hw5]; exact setRow_heap w4 b3 _ _ _ _ q34
  have q5 : St19 w5 b 60 (st25 21 21) := (q3.old c4.bl).kp k5 (by show ¬ b = b3; omega)
  have K5 : Kp (fun k => k = b ∨ w2.heap.size ≤ k) w2 w5 := ((k3.mono (S' := fun k => k = b ∨ w2.heap.size ≤ k) (fun _ _ x => .inl x)).trans (Kp.of_below (S := fun _ => False) c4.bl) (fun _ _ x => x.elim)).trans k5 (fun k _ x => by have x : k = b3 := x; omega)
  have sg5 : Seg w5 (some ⟨g, 0, none⟩) z25 := HSG.out.kp K5 (fun x off e hp y => by cases e; omega)
  have sg6 := SegK.drop sg5 21
  have B5 : Below w.heap.size w w5 := ((Kp.of_below (S := fun k => w.heap.size ≤ k) HB2.out).trans K5 (fun k _ x => by omega)).below (fun _ x => x) (Nat.le_refl _)
  have S2 := pSt19_ok dc25 b (st25 21 21) (some ⟨g, 0 + 21, none⟩) (c - 21) (z25.drop 21) w5 (HT.out.1.old B5) q5 ⟨21, 21, by decide, rfl, rfl⟩ sg6 (fun x off e hp => by cases e; omega) (by decide) (by have := HT.out.2; omega) (by decide) (by show (7 : Int) ≠ 0; decide) rfl (by rw [run25_2])
  rw [run25_2] at S2
  have HS2 : Hid (Calls Tryz.prog 7 #[.pointer (some ⟨b, 0, none⟩), .slice (some ⟨g, 21, none⟩) 4 (c - 21)] w5 (StQ19 (0, 4, st25 25 21, ee25) w5 b (st25 21 21))) := S2
  have HW4 : Hid (w3.alloc (.cells #[.int .i64 0, .int .i64 0, .int .i64 0, .int .u32 0, .int .u32 0, .int .i64 0, .int .i64 0, .int .i64 0, .int .i64 0, .int .i64 0, .int .i64 0, .int .i64 0, .int .i64 0, .int .i64 0, .int .i64 0, .slice none 0 0] 39) = w4 ∧ w3.heap.size = b3) := ⟨hw4.symm, hb3.symm⟩
  have HW5 : Hid (w4.setRow b3 (eh25.cs p3 c3) = w5) := hw5.symm
  have HQ34 : Hid (w4.heap[b3]? = some (.cells (e019.cs none 0) 39 (0, 0))) := q34
  have HQ35 : Hid (w5.heap[b3]? = some (.cells (eh25.cs p3 c3) 39 (0, 0)) ∧ b3 < w5.heap.size ∧ b < b3) := ⟨q35, (Array.getElem?_eq_some_iff.1 q35).1, by omega⟩
  have HB5 : Hid (Below w.heap.size w w5) := B5
  have hcn : ¬ c = 21 := by omega
  have hcl : (25 : Int) ≤ (c : Int) := by omega
  clear S2 B5 sg5 sg6 K5 q5 q35 q34 k5 s3 s4 hg hbw c4 hw4 hw5 hb3 q3 o3 k3 HS1 HSG HB2 e0
  go_wp2_with (first
    | (rw [HW4.out.1, HW4.out.2]; refine wpList_store_row rfl 39 (.tmp 3) (.tmp 22) rfl b3 (eh25.cs p3 c3) rfl rfl _ _ HQ34.out info_ev19 rfl (evc_all19 eh25 p3 c3) ?_; rw [HW5.out]))
  refine HS2.out.mono ?_
  rintro e6 w6 ⟨p6, c6, rfl, q6, o6, k6⟩
  have q6 : St19 w6 b 60 (st25 25 25) := q6
  obtain ⟨b6, hb6⟩ : ∃ b6, b6 = w6.heap.size := ⟨_, rfl⟩
  obtain ⟨w7, hw7⟩ : ∃ w7, w7 = w6.alloc (.cells (e019.cs none 0) 39) := ⟨_, rfl⟩
  have c7 := cb16 w6 (e019.cs none 0) 39
  rw [← hw7] at c7
  have q67 : w7.heap[b6]? = some (.cells (e019.cs none 0) 39 (0, 0)) := by rw [hb6]; exact c7.cl
  obtain ⟨w8, hw8⟩ : ∃ w8, w8 = w7.setRow b6 (ee25.cs p6 c6) := ⟨_, rfl⟩
  have k8 : Kp (fun k => k = b6) w7 w8 := by rw [hw8]; exact grow19 _ _ _
  have s6 := k6.size
  have s7 := c7.sz
  have h35 := HQ35.out
  have hbw := HB.out
  have q68 : w8.heap[b6]? = some (.cells (ee25.cs p6 c6) 39 (0, 0)) := by rw [hw8]; exact setRow_heap w7 b6 _ _ _ _ q67
  have q8 : St19 w8 b 60 (st25 25 25) := (q6.old c7.bl).kp k8 (by show ¬ b = b6; omega)
  have q38 : w8.heap[b3]? = some (.cells (eh25.cs p3 c3) 39 (0, 0)) := k8.heap ((c7.bl.block _ (by omega)).trans (k6.heap h35.1 (by show ¬ b3 = b; omega))) (by show ¬ b3 = b6; omega)
  have B8 : Below w.heap.size w w8 := ((((Kp.of_below (S := fun k => w.heap.size ≤ k) HB5.out).trans k6 (fun k _ x => by have x : k = b := x; omega)).trans (Kp.of_below (S := fun _ => False) c7.bl) (fun _ _ x => x.elim)).trans k8 (fun k _ x => by have x : k = b6 := x; omega)).below (fun _ x => x) (Nat.le_refl _)
  have m0 : w8.cell? ⟨b3, 0, none⟩ = some (.int .i64 1) := cell18 q38 rfl
  have m5 : w8.cell? ⟨b3, 5, none⟩ = some (.int .i64 64) := cell18 q38 rfl
  have n0 : w8.cell? ⟨b6, 0, none⟩ = some (.int .i64 4) := cell18 q68 rfl
  have DN := pdone19 b _ _ w8 q8 (by show (8 : Int) ≠ 0; decide)
  have HDN : Hid (Calls Tryz.prog 6 #[.pointer (some ⟨b, 0, none⟩)] w8 fun e w' => e = .returned (.bool true) ∧ w' = w8) := DN
  have HED : Hid (Calls Tryz.prog 8 #[.pointer (some ⟨b, 0, none⟩)] w8 fun e w' => e = .returned (.int .i64 0) ∧ w' = w8) := pend19_8 b _ _ w8 q8 rfl rfl
  have HW7 : Hid (w6.alloc (.cells #[.int .i64 0, .int .i64 0, .int .i64 0, .int .u32 0, .int .u32 0, .int .i64 0, .int .i64 0, .int .i64 0, .int .i64 0, .int .i64 0, .int .i64 0, .int .i64 0, .int .i64 0, .int .i64 0, .int .i64 0, .slice none 0 0] 39) = w7 ∧ w6.heap.size = b6) := ⟨hw7.symm, hb6.symm⟩
  have HW8 : Hid (w7.setRow b6 (ee25.cs p6 c6) = w8) := hw8.symm
  have HQ67 : Hid (w7.heap[b6]? = some (.cells (e019.cs none 0) 39 (0, 0))) := q67
  have HB8 : Hid (Below w.heap.size w w8) := B8
  clear DN B8 q38 q8 q68 q67 k8 s6 s7 h35 hbw c7 hw7 hw8 hb6 q6 o6 k6 HS2 hcn hcl
  go_wp2_with (first
    | (rw [HW7.out.1, HW7.out.2]; refine wpList_store_row rfl 39 (.tmp 6) (.tmp 31) rfl b6 (ee25.cs p6 c6) rfl rfl _ _ HQ67.out info_ev19 rfl (evc_all19 ee25 p6 c6) ?_; rw [HW8.out]))
  refine HDN.out.mono ?_
  rintro e9 w9 ⟨rfl, hw9⟩
  subst w9
  go_wp2_with fail
  refine HED.out.mono ?_
  rintro e9 w9 ⟨rfl, hw9⟩
  subst w9
  go_wp2
  go_ret
  exact ⟨rfl, HB8.out⟩
end Go.Proofs.YtpodakndckflgaaGreatDoor
