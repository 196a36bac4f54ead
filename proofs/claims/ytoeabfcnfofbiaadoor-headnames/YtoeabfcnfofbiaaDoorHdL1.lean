
import Derived.Test.YtoeabfcnfofbiaaDoorHdR1
import Derived.Test.YtoeabfcnfofbiaaDoorLnSame
import Derived.Test.YtoeabfcnfofbiaaDoorLnLend
namespace Go.Proofs.YtoeabfcnfofbiaaDoor
open Go.RowKit
set_option linter.unusedVariables false

/-! Layer 8's helpers: Same, lend, alike. -/
theorem below_drewN8 {B : Nat} {w w' : World} (h : Below B w w') (n : Nat) : Below B w (w'.drewN n) := ⟨h.os, h.tape, h.output, h.size, h.block⟩
set_option maxRecDepth 100000 in
set_option maxHeartbeats 400000 in
theorem same8 (a b : Option Addr) (xs ys : List Int) (ca cb : Nat) (w : World) (hx : SegZ w a xs) (hy : SegZ w b ys) (hl : xs.length ≤ 9223372036854775807) (hl2 : ys.length ≤ 9223372036854775807) :
    Calls Tryd.prog 16 #[.slice a xs.length ca, .slice b ys.length cb] w fun e w' => e = .returned (.bool (xs == ys)) ∧ Below w.heap.size w w' := by
  go_enter Tryd.func16, Tryd.ntmps16
  go_wp2
  go_loopw [5] (fun ti wr => ∃ k : Nat, k ≤ xs.length ∧ k ≤ ys.length ∧ ti = .int .i64 k ∧ Hid (xs.take k = ys.take k) ∧ Below w.heap.size w wr) (fun ti _ => xs.length - (intOf ti).toNat)
  case atStart => exact ⟨0, Nat.zero_le _, Nat.zero_le _, rfl, (by simp : _ = _), Below.refl _ _⟩
  case round =>
    obtain ⟨k, hk, hk2, rfl, HE, hb⟩ := hrel
    have hx := hx.old hb
    have hy := hy.old hb
    by_cases h1 : k < xs.length
    · have h1i : (k : Int) < (xs.length : Int) := by omega
      by_cases h2 : k < ys.length
      · have h2i : (k : Int) < (ys.length : Int) := by omega
        obtain ⟨b1, o1, rfl, c1⟩ := hx.at_ k h1
        obtain ⟨b2, o2, rfl, c2⟩ := hy.at_ k h2
        have b1 := hx.bd k
        have b2 := hy.bd k
        have HT : Hid (xs.take (k + 1) = xs.take k ++ [xs.getD k 0] ∧ ys.take (k + 1) = ys.take k ++ [ys.getD k 0]) := ⟨take_snocZ h1, take_snocZ h2⟩
        have HN : Hid (xs.getD k 0 ≠ ys.getD k 0 → xs ≠ ys) := by
          intro hne e; rw [e] at hne; exact hne rfl
        generalize xs.getD k 0 = z1 at *
        generalize ys.getD k 0 = z2 at *
        by_cases hz : z1 = z2
        · subst hz
          go_wp2
          go_region
          go_wp2
          go_roundw
          case rel => exact ⟨k + 1, by omega, by omega, by go_num, (by rw [HT.out.1, HT.out.2, HE.out] : _ = _), hb.drew⟩
          case measure => simp [intOf]; omega
        · go_wp2
          go_region
          go_wp2
          go_ret
          exact ⟨by have := HN.out hz; simp [this], hb.drew⟩
      · have h2i : ¬ (k : Int) < (ys.length : Int) := by omega
        obtain rfl : k = ys.length := by omega
        have hlen : ¬ xs.length = ys.length := by omega
        have hne : xs ≠ ys := by intro e; rw [e] at hlen; exact hlen rfl
        go_wp2
        go_ret
        refine ⟨?_, hb⟩
        have : (xs == ys) = false := by simp [hne]
        rw [this]
        have : ¬ (xs.length : Int) = (ys.length : Int) := by omega
        simp [this]
    · have h1i : ¬ (k : Int) < (xs.length : Int) := by omega
      obtain rfl : k = xs.length := by omega
      go_wp2
      go_ret
      refine ⟨?_, hb⟩
      by_cases hlen : xs.length = ys.length
      · have : xs = ys := take_all_eq hlen (.inl rfl) HE.out
        subst this
        simp
      · have hne : xs ≠ ys := by intro e; rw [e] at hlen; exact hlen rfl
        have : (xs == ys) = false := by simp [hne]
        rw [this]
        have : ¬ (xs.length : Int) = (ys.length : Int) := by omega
        simp [this]
set_option maxRecDepth 100000 in
set_option maxHeartbeats 400000 in
theorem lend8 (a : Option Addr) (zs : List Int) (cap : Nat) (w : World) (hs : SegZ w a zs) (hnil : a = none → cap = 0) (hl : zs.length * 8 ≤ 140737488351232) :
    Calls Tryd.prog 13 #[.slice a zs.length cap] w fun e w' => ∃ g cap', e = .returned (.slice (some ⟨g, 0, none⟩) (lentZ zs).length cap') ∧
      w'.ownsRow w.heap.size 3 1 (.slice (some ⟨g, 0, none⟩) (lentZ zs).length cap') (lentZ zs).length ((lentZ zs).map (Value.int .i64)) ∧ (lentZ zs).length ≤ cap' ∧ Below w.heap.size w w' := by
  obtain ⟨i0, hi, hz0, hz1, hz2⟩ := info_parts info_int
  have HL : Hid (zs.length + 4 = (lentZ zs).length) := by show _ = _; simp [lentZ]
  go_enter Tryd.func13, Tryd.ntmps13
  go_wp2_with (first
    | (at_builtin; refine wpList_appZ rfl (.const (.slice none 0 0)) (.tmp 3) 22 rfl w.heap.size 3 i0 (.int .i64 0) 8 Tryd.underlying22 hi hz0 hz1 hz2 rfl (World.ownsRow_nil _ _ _ _) hs hnil rfl rfl (by omega) (by omega) (Nat.le_refl _) ?_; intro a1 c1 w1 hown1 hg1 hf1 hn1; have hb1 := below_own (World.ownsRow_nil w w.heap.size 3 1) hg1 (Nat.le_refl _); clear hf1 hn1 hg1; rw [Nat.zero_add, List.nil_append] at hown1)
    | (at_builtin; refine wpList_appZ rfl (.tmp 4) (.tmp 5) 22 rfl w.heap.size 3 i0 (.int .i64 0) 8 Tryd.underlying22 hi hz0 hz1 hz2 rfl (hown1.alloc _) (seg_four w1) (by intro h; cases h) rfl rfl (by simp; omega) (by simp; omega) (by have := hb1.size; simp; omega) ?_; intro a2 c2 w2 hown2 hg2 hf2 hn2))
  go_ret
  clear hf2 hn2
  have hb0 := hb1.trans ((Below.refl w.heap.size w1).alloc hb1.size (.cells #[.int .i64 71, .int .i64 72, .int .i64 73, .int .i64 74] 3))
  have hb2 := hb0.trans (below_own (hown1.alloc _) hg2 (by have := hb0.size; simpa using this))
  have el : zs.length + ([71, 72, 73, 74] : List Int).length = (lentZ zs).length := by simp [lentZ]
  have ev : zs.map (Value.int .i64) ++ ([71, 72, 73, 74] : List Int).map (Value.int .i64) = (lentZ zs).map (Value.int .i64) := by simp [lentZ]
  rw [el, ev] at hown2
  obtain ⟨g, cap', hv, hc2, hg, hgs⟩ := own_shape hown2 (by have := HL.out; omega)
  refine ⟨g, cap', ?_, by rw [← hv]; exact hown2, hc2, hb2⟩
  rw [← hv, ← el]
  rfl
theorem snocR {R : List Rn8} {x : Nat} (h : x < R.length) : R.take (x + 1) = R.take x ++ [R.getD x ⟨0, 0⟩] := by
  rw [List.take_succ_eq_append_getElem h]; simp [List.getD, h]
def AlQ (xs ys : List Rn8) (w : World) (e : Ending) (w' : World) : Prop := ∃ r, e = .returned (.bool r) ∧ (r = true ↔ xs = ys) ∧ Below w.heap.size w w'
set_option maxRecDepth 100000 in
set_option maxHeartbeats 4000000 in
theorem alike8 (a b : Option Addr) (xs ys : List Rn8) (n m ca cb : Nat) (hn : Hid (xs.length = n)) (hm : Hid (ys.length = m)) (w : World) (hx : SegN w a xs) (hy : SegN w b ys) (hl : n ≤ 1152921504606846976) (hl2 : m ≤ 1152921504606846976) :
    Calls Tryd.prog 15 #[.slice a n ca, .slice b m cb] w (AlQ xs ys w) := by
  have HX : Hid (SegN w a xs) := hx
  have HY : Hid (SegN w b ys) := hy
  clear hx hy
  go_enter Tryd.func15, Tryd.ntmps15
  go_wp2
  go_loopw [5] (fun ti wr => ∃ k : Nat, k ≤ n ∧ k ≤ m ∧ ti = .int .i64 (k : Int) ∧ Hid (xs.take k = ys.take k) ∧ Below w.heap.size w wr) (fun ti _ => n - (intOf ti).toNat)
  case atStart => exact ⟨0, Nat.zero_le _, Nat.zero_le _, rfl, (by simp : _ = _), Below.refl _ _⟩
  case round =>
    obtain ⟨k, hk, hk2, rfl, HE, hb⟩ := hrel
    by_cases h1 : k < n
    · have h1i : (k : Int) < (n : Int) := by omega
      by_cases h2 : k < m
      · have h2i : (k : Int) < (m : Int) := by omega
        have h1l : k < xs.length := by rw [hn.out]; exact h1
        have h2l : k < ys.length := by rw [hm.out]; exact h2
        obtain ⟨b1, o1, rfl, c1, e1⟩ := ((show SegN w a xs from HX.out).old hb).at_ k h1l
        obtain ⟨b2, o2, rfl, c2, e2⟩ := ((show SegN w b ys from HY.out).old hb).at_ k h2l
        have HT : Hid (xs.take (k + 1) = xs.take k ++ [xs.getD k ⟨0, 0⟩] ∧ ys.take (k + 1) = ys.take k ++ [ys.getD k ⟨0, 0⟩]) := ⟨snocR h1l, snocR h2l⟩
        have HN : Hid (xs.getD k ⟨0, 0⟩ ≠ ys.getD k ⟨0, 0⟩ → xs ≠ ys) := by
          intro hne e; rw [e] at hne; exact hne rfl
        generalize xs.getD k ⟨0, 0⟩ = r1 at *
        generalize ys.getD k ⟨0, 0⟩ = r2 at *
        obtain ⟨s1, t1⟩ := r1
        obtain ⟨s2, t2⟩ := r2
        simp only at c1 e1 c2 e2
        by_cases hz : s1 = s2
        · subst hz
          by_cases hy : t1 = t2
          · subst hy
            go_wp2_with fail
            go_quiet (fail)
            go_wp2_with fail
            go_roundw
            case rel => exact ⟨k + 1, by omega, by omega, by go_num, (by rw [HT.out.1, HT.out.2, HE.out] : _ = _), below_drewN8 hb _⟩
            case measure => simp [intOf]; omega
          · have hyb : (t1 == t2) = false := by simp [hy]
            have HF : Hid (xs ≠ ys) := HN.out (by intro e; cases e; exact hy rfl)
            go_wp2_with fail
            go_quiet (fail)
            go_wp2_with fail
            go_ret
            exact ⟨false, rfl, by simp [HF.out], below_drewN8 hb _⟩
        · have hzb : (s1 == s2) = false := by simp [hz]
          have HF : Hid (xs ≠ ys) := HN.out (by intro e; cases e; exact hz rfl)
          go_wp2_with fail
          go_quiet (fail)
          go_wp2_with fail
          go_ret
          exact ⟨false, rfl, by simp [HF.out], below_drewN8 hb _⟩
      · have h2i : ¬ (k : Int) < (m : Int) := by omega
        obtain rfl : k = m := by omega
        have hnb : ((n : Int) == (k : Int)) = false := by simp; omega
        have HF : Hid (xs ≠ ys) := by
          intro e
          have h3 := hn.out
          rw [e, hm.out] at h3
          omega
        go_wp2_with fail
        go_ret
        exact ⟨_, rfl, by simp [HF.out], hb⟩
    · have h1i : ¬ (k : Int) < (n : Int) := by omega
      obtain rfl : k = n := by omega
      have HI : Hid ((k : Int) = (m : Int) ↔ xs = ys) := by
        constructor
        · intro e
          have e' : k = m := by omega
          have h3 := HE.out
          rw [List.take_of_length_le (by rw [hn.out]; omega), List.take_of_length_le (by rw [hm.out]; omega)] at h3
          exact h3
        · intro e
          have h3 := hn.out
          rw [e, hm.out] at h3
          omega
      go_wp2_with fail
      go_ret
      exact ⟨_, rfl, by simpa using HI.out, hb⟩
end Go.Proofs.YtoeabfcnfofbiaaDoor
