
import Derived.Test.YtoeabfcnfofbiaaDoorHdR1
namespace Go.Proofs.YtoeabfcnfofbiaaDoor
open Go.RowKit
set_option linter.unusedVariables false

/-! The document's row, Runs. -/
theorem rep8_fuel : ∀ (f g k : Nat), k ≤ f → k ≤ g → rep8 f k = rep8 g k
  | 0, 0, k, _, _ => rfl
  | 0, g + 1, k, h, _ => by rw [rep8, rep8, if_neg (by omega)]
  | f + 1, 0, k, _, h => by rw [rep8, rep8, if_neg (by omega)]
  | f + 1, g + 1, k, h1, h2 => by
    rw [rep8, rep8]
    split
    · rw [rep8_fuel f g (k - min k 6) (by omega) (by omega)]
    · rfl
theorem rep8_step {k : Nat} (h : 3 ≤ k) : rep8 k k = ⟨16, (min k 6 : Nat)⟩ :: rep8 (k - min k 6) (k - min k 6) := by
  rw [show k = (k - 1) + 1 by omega, rep8, if_pos (by omega), rep8_fuel (k - 1) (k - 1 + 1 - min (k - 1 + 1) 6) _ (by omega) (by omega)]
theorem rep8_stop {k : Nat} (h : ¬ 3 ≤ k) : rep8 k k = [] := by
  cases k with
  | zero => rfl
  | succ k => rw [rep8, if_neg h]
def NQ (w : World) (ty : TypeId) (R : List Rn8) (e : Ending) (w' : World) : Prop := ∃ oa oc, e = .returned (.slice oa R.length oc) ∧ w'.ownsRow w.heap.size ty 2 (.slice oa R.length oc) R.length (flatN R) ∧ Below w.heap.size w w'
set_option maxRecDepth 100000 in
set_option maxHeartbeats 2000000 in
theorem rrow8 (v : Int) (k : Nat) (hk : 1 ≤ k) (hkb : k ≤ 1048576) (w : World) : Calls Tryd.prog 36 #[.int .i64 v, .int .i64 (k : Int)] w (NQ w 40 (row8 v k)) := by
  obtain ⟨i0, hi, hz0, hz1, hz2⟩ := info_parts info_run8
  have hone : ∀ x : Rn8, ∀ W, W = w.alloc (.cells #[.int .i64 x.sy, .int .i64 x.ct] 40) → NQ w 40 [x] (.returned (.slice (some ⟨w.heap.size, 0, none⟩) 1 1)) W := fun x W e => by
    subst e
    exact ⟨_, 1, rfl, own_oneN w _ x, (Below.refl _ _).alloc (Nat.le_refl _) _⟩
  have HONE : Hid (∀ x : Rn8, ∀ W, W = w.alloc (.cells #[.int .i64 x.sy, .int .i64 x.ct] 40) → NQ w 40 [x] (.returned (.slice (some ⟨w.heap.size, 0, none⟩) 1 1)) W) := hone
  clear hone
  unfold row8
  by_cases h0 : v = 0
  · rw [if_pos h0]
    subst h0
    by_cases h1 : 11 ≤ k
    · rw [if_pos h1]
      have h1i : 11 ≤ (k : Int) := by omega
      by_cases h2 : 138 < k
      · have h2i : 138 < (k : Int) := by omega
        have hm : min k 138 = 138 := by omega
        rw [hm]
        go_enter Tryd.func36, Tryd.ntmps36
        go_wp2_with fail
        go_ret
        exact HONE.out ⟨18, 138⟩ _ rfl
      · have h2i : ¬ 138 < (k : Int) := by omega
        have hm : min k 138 = k := by omega
        rw [hm]
        go_enter Tryd.func36, Tryd.ntmps36
        go_wp2_with fail
        go_ret
        exact HONE.out ⟨18, k⟩ _ rfl
    · rw [if_neg h1]
      have h1i : ¬ 11 ≤ (k : Int) := by omega
      by_cases h2 : 3 ≤ k
      · rw [if_pos h2]
        have h2i : 3 ≤ (k : Int) := by omega
        go_enter Tryd.func36, Tryd.ntmps36
        go_wp2_with fail
        go_ret
        exact HONE.out ⟨17, k⟩ _ rfl
      · rw [if_neg h2]
        have h2i : ¬ 3 ≤ (k : Int) := by omega
        go_enter Tryd.func36, Tryd.ntmps36
        go_wp2_with fail
        go_ret
        exact HONE.out ⟨0, 1⟩ _ rfl
  · rw [if_neg h0]
    have hb0 : (v == 0) = false := by simp [h0]
    have hw1 : IntKind.i64.wrap ((k : Int) - 1) = ((k - 1 : Nat) : Int) := by rw [IntWalk.i64_in _ (by omega)]; omega
    obtain ⟨k1, hk1⟩ : ∃ k1, k1 = k - 1 := ⟨_, rfl⟩
    rw [← hk1] at hw1 ⊢
    have hki : (k : Int) - 1 = (k1 : Int) := by omega
    have own0 := own_oneN w 40 ⟨v, 1⟩
    have b0 : Below w.heap.size w (w.alloc (.cells #[.int .i64 v, .int .i64 1] 40)) := (Below.refl _ _).alloc (Nat.le_refl _) _
    have HO : Hid ((w.alloc (.cells #[.int .i64 v, .int .i64 1] 40)).ownsRow w.heap.size 40 2 (.slice (some ⟨w.heap.size, 0, none⟩) 1 1) 1 (flatN [⟨v, 1⟩])) := own0
    clear hk1 own0 HONE
    go_enter Tryd.func36, Tryd.ntmps36
    go_wp2_with fail
    go_loopw [1, 5] (fun t1 t5 wr => ∃ (j m oc : Nat) (oa : Option Addr) (R : List Rn8), j ≤ k1 ∧ t1 = .int .i64 (j : Int) ∧ t5 = .slice oa m oc ∧ R.length = m ∧ m + j ≤ k1 + 1 ∧ ⟨v, 1⟩ :: rep8 k1 k1 = R ++ rep8 j j ∧ wr.ownsRow w.heap.size 40 2 (.slice oa m oc) m (flatN R) ∧ Below w.heap.size w wr) (fun t1 _ _ => (intOf t1).toNat)
    case atStart => exact ⟨k1, 1, 1, _, [⟨v, 1⟩], by omega, rfl, rfl, rfl, by omega, rfl, HO.out, b0⟩
    case round =>
      clear HO b0
      obtain ⟨j, m, oc, oa, R, hjk, rfl, rfl, hRl, hmj, hrep, OO, BR⟩ := hrel
      have HRL : Hid (R.length = m) := hRl
      have HRP : Hid (⟨v, 1⟩ :: rep8 k1 k1 = R ++ rep8 j j) := hrep
      clear hRl hrep
      by_cases h3 : 3 ≤ j
      · have h3i : 3 ≤ (j : Int) := by omega
        obtain ⟨q, hq⟩ : ∃ q, q = min j 6 := ⟨_, rfl⟩
        have HST : Hid (rep8 j j = ⟨16, q⟩ :: rep8 (j - q) (j - q)) := by show _ = _; rw [rep8_step h3, ← hq]
        have hw2 : IntKind.i64.wrap ((j : Int) - (q : Int)) = ((j - q : Nat) : Int) := by rw [IntWalk.i64_in _ (by omega)]; omega
        obtain ⟨jq, hjq⟩ : ∃ jq, jq = j - q := ⟨_, rfl⟩
        rw [← hjq] at hw2 HST
        have hji : (j : Int) - (q : Int) = (jq : Int) := by omega
        have hsz := BR.size
        by_cases h6 : 6 < j
        · have h6i : 6 < (j : Int) := by omega
          obtain rfl : q = 6 := by omega
          have hjl : jq < j ∧ m + 1 + jq ≤ k1 + 1 := by omega
          have hw6 : IntKind.i64.wrap ((j : Int) - 6) = (jq : Int) := hw2
          have hj6 : (j : Int) - 6 = (jq : Int) := by omega
          clear hq hjq
          go_wp2_with (first | (at_builtin; refine wpList_appN rfl (.tmp 33) (.tmp 36) 28 rfl w.heap.size 40 i0 _ 16 Tryd.underlying28 hi hz0 hz1 hz2 rfl wr ⟨16, 6⟩ OO rfl rfl (by omega) (by omega) hsz ?_; intro ga gc w3 own3 hk3 hat3))
          have B3 : Below w.heap.size w w3 := BR.trans (hk3.below (fun q e => (OO.lt q e).1) hsz)
          have HR3 : Hid (⟨v, 1⟩ :: rep8 k1 k1 = (R ++ [⟨16, 6⟩]) ++ rep8 jq jq) := by show _ = _; rw [HRP.out, HST.out, List.append_assoc]; rfl
          have HL3 : Hid ((R ++ [(⟨16, 6⟩ : Rn8)]).length = m + 1) := by show _ = _; rw [List.length_append, HRL.out]; rfl
          clear HRP HST hk3 hat3
          go_wp2_with fail
          go_roundw
          case rel => exact ⟨jq, m + 1, gc, _, R ++ [⟨16, 6⟩], by omega, rfl, rfl, HL3.out, by omega, HR3.out, own3, B3⟩
          case measure => simp [intOf]; omega
        · have h6i : ¬ 6 < (j : Int) := by omega
          obtain rfl : q = j := by omega
          obtain rfl : jq = 0 := by omega
          clear hq hjq
          go_wp2_with (first | (at_builtin; refine wpList_appN rfl (.tmp 33) (.tmp 36) 28 rfl w.heap.size 40 i0 _ 16 Tryd.underlying28 hi hz0 hz1 hz2 rfl wr ⟨16, q⟩ OO rfl rfl (by omega) (by omega) hsz ?_; intro ga gc w3 own3 hk3 hat3))
          have B3 : Below w.heap.size w w3 := BR.trans (hk3.below (fun q e => (OO.lt q e).1) hsz)
          have HR3 : Hid (⟨v, 1⟩ :: rep8 k1 k1 = (R ++ [⟨16, q⟩]) ++ rep8 0 0) := by show _ = _; rw [HRP.out, HST.out, List.append_assoc]; rfl
          have HL3 : Hid ((R ++ [(⟨16, q⟩ : Rn8)]).length = m + 1) := by show _ = _; rw [List.length_append, HRL.out]; rfl
          clear HRP HST hk3 hat3
          go_wp2_with fail
          go_roundw
          case rel => exact ⟨0, m + 1, gc, _, R ++ [⟨16, q⟩], by omega, by simp, rfl, HL3.out, by omega, HR3.out, own3, B3⟩
          case measure => simp [intOf]; omega
      · have h3i : ¬ 3 ≤ (j : Int) := by omega
        have HE : Hid (⟨v, 1⟩ :: rep8 k1 k1 = R) := by show _ = _; rw [HRP.out, rep8_stop h3, List.append_nil]
        clear HRP
        go_wp2_with fail
        go_ret
        refine ⟨oa, oc, ?_, ?_, BR⟩
        · rw [HE.out, HRL.out]; rfl
        · rw [HE.out, HRL.out]; exact OO
end Go.Proofs.YtoeabfcnfofbiaaDoor
