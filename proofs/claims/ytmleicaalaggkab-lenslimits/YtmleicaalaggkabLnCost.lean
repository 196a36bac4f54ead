import Derived.Test.YtmleicaalaggkabLnRef
namespace Go.Proofs.Ytmleicaalaggkab
open Go.RowKit
set_option linter.unusedVariables false

/-- A length that may be. -/
def okL (z : Int) : Bool := decide (0 ≤ z ∧ z ≤ 15)
/-- The cost of lengths, of the first so many. -/
def sumC (xs ys : List Int) : Nat → Int
  | 0 => 0
  | k + 1 => sumC xs ys k + xs.getD k 0 * ys.getD k 0
theorem sumC_bd {xs ys : List Int} (hx : ∀ i, 0 ≤ xs.getD i 0 ∧ xs.getD i 0 ≤ 1099511627776) : ∀ k, (∀ i, i < k → 0 ≤ ys.getD i 0 ∧ ys.getD i 0 ≤ 15) → 0 ≤ sumC xs ys k ∧ sumC xs ys k ≤ k * 16492674416640
  | 0, _ => by simp [sumC]
  | k + 1, h => by
    have h1 := sumC_bd hx k (fun i hi => h i (by omega))
    have h2 := h k (by omega)
    have h3 := hx k
    have h4 : 0 ≤ xs.getD k 0 * ys.getD k 0 := Int.mul_nonneg h3.1 h2.1
    have h5 : xs.getD k 0 * ys.getD k 0 ≤ 1099511627776 * 15 := Int.mul_le_mul h3.2 h2.2 h2.1 (by decide)
    unfold sumC
    generalize xs.getD k 0 * ys.getD k 0 = q at *
    push_cast
    omega
def errC (xs ys : List Int) : Int := if xs.length ≠ ys.length then 1 else if errOf xs ≠ 0 then errOf xs else if ys.all okL then 0 else 41
def costOf (xs ys : List Int) : Int := if errC xs ys = 0 then sumC xs ys ys.length else 0
theorem errC_bad {xs ys : List Int} (h : xs.length = ys.length) (he : errOf xs = 0) {k : Nat} (hk : k < ys.length) (hb : ¬ (0 ≤ ys.getD k 0 ∧ ys.getD k 0 ≤ 15)) : errC xs ys = 41 ∧ costOf xs ys = 0 := by
  have : ys.all okL = false := by
    rw [List.all_eq_false]
    refine ⟨ys.getD k 0, ?_, by simp only [okL, hb]; decide⟩
    simp [List.getD, hk]
  have h1 : errC xs ys = 41 := by simp [errC, h, he, this]
  exact ⟨h1, by simp [costOf, h1]⟩
theorem errC_ok {xs ys : List Int} (h : xs.length = ys.length) (he : errOf xs = 0) (hb : ∀ i, i < ys.length → 0 ≤ ys.getD i 0 ∧ ys.getD i 0 ≤ 15) : errC xs ys = 0 ∧ costOf xs ys = sumC xs ys ys.length := by
  have : ys.all okL = true := by
    rw [List.all_eq_true]
    intro z hz
    obtain ⟨i, hi, rfl⟩ := List.mem_iff_getElem.1 hz
    have := hb i hi
    simp only [List.getD, List.getElem?_eq_getElem hi, Option.getD_some] at this
    simp only [okL, this]
    decide
  have h1 : errC xs ys = 0 := by simp [errC, h, he, this]
  exact ⟨h1, by simp [costOf, h1]⟩
theorem errC_arg {xs ys : List Int} (h : ¬ xs.length = ys.length) : errC xs ys = 1 ∧ costOf xs ys = 0 := by
  have h1 : errC xs ys = 1 := by simp [errC, h]
  exact ⟨h1, by simp [costOf, h1]⟩
theorem errC_err {xs ys : List Int} (h : xs.length = ys.length) (he : ¬ errOf xs = 0) : errC xs ys = errOf xs ∧ costOf xs ys = 0 := by
  have h1 : errC xs ys = errOf xs := by simp [errC, h, he]
  exact ⟨h1, by simp [costOf, h1, he]⟩

theorem refusal_n {a : Option Addr} {zs : List Int} {n : Nat} (hn : Hid (zs.length = n)) (cap : Nat) (w : World) (hs : SegZ w a zs) (hl : n ≤ 9223372036854775807) :
    Calls Try.prog 12 #[.slice a n cap] w fun e w' => e = .returned (.int .i64 (errOf zs)) ∧ w' = w := by
  have hn := hn.out
  subst hn
  exact refusal_any a zs cap w hs hl
set_option maxHeartbeats 400000 in
theorem cost_same (a b : Option Addr) (xs ys : List Int) (n ca cb : Nat) (hx : Hid (xs.length = n)) (hy : Hid (ys.length = n)) (w : World) (hs : SegZ w a xs) (ht : SegZ w b ys) (hl : n ≤ 9223372036854775807) :
    Calls Try.prog 9 #[.slice a n ca, .slice b n cb] w fun e w' => e = .returned (.tuple #[.int .i64 (costOf xs ys), .int .i64 (errC xs ys)]) ∧ Below w.heap.size w w' := by
  have hlen : Hid (xs.length = ys.length) := hx.out.trans hy.out.symm
  by_cases he : errOf xs = 0
  · obtain ⟨h288, hbx⟩ := errOf_zero he
    have hn288 : n ≤ 288 := by have := hx.out; omega
    clear h288
    have HB0 : Hid (∀ k, k < n → ¬ (0 ≤ ys.getD k 0 ∧ ys.getD k 0 ≤ 15) → errC xs ys = 41 ∧ costOf xs ys = 0) := fun k hk => errC_bad hlen.out he (by have := hy.out; omega)
    have HK0 : Hid ((∀ i, i < n → 0 ≤ ys.getD i 0 ∧ ys.getD i 0 ≤ 15) → errC xs ys = 0 ∧ costOf xs ys = sumC xs ys n) := fun h => by have := hy.out; subst this; exact errC_ok hlen.out he h
    have HC : Hid (∀ W, SegZ W a xs → Calls Try.prog 12 #[.slice a n ca] W fun e w' => e = .returned (.int .i64 0) ∧ w' = W) := fun W hW => by
      have := refusal_n hx ca W hW hl
      rw [he] at this
      exact this
    clear he
    go_enter Try.func9, Try.ntmps9
    go_wp2_with (go_at_call 12; refine (HC.out _ hs).mono ?_; rintro e w1 ⟨rfl, hw1⟩; subst w1)
    go_loopw [7, 22] (fun tt ti wr => ∃ (k : Nat) (S : Int), k ≤ n ∧ ti = .int .i64 k ∧ tt = .int .i64 S ∧ Hid (S = sumC xs ys k) ∧ Hid (∀ i, i < k → 0 ≤ ys.getD i 0 ∧ ys.getD i 0 ≤ 15) ∧ Below w.heap.size w wr) (fun _ ti _ => n - (intOf ti).toNat)
    case atStart => exact ⟨0, 0, Nat.zero_le _, rfl, rfl, (rfl : _ = _), (fun i h => by omega : ∀ i, _), Below.refl _ _⟩
    case round =>
      obtain ⟨k, S, hk, rfl, rfl, HS, HY, hb⟩ := hrel
      have hs := hs.old hb
      have ht := ht.old hb
      by_cases h1 : k < n
      · have h1i : (k : Int) < (n : Int) := by omega
        obtain ⟨b1, o1, rfl, c1⟩ := hs.at_ k (by have := hx.out; omega)
        obtain ⟨b2, o2, rfl, c2⟩ := ht.at_ k (by have := hy.out; omega)
        have d1 := hbx k
        have d2 := ht.bd k
        have HB : Hid _ := HB0.out k h1
        have d3 := sumC_bd hbx k HY.out
        rw [← HS.out] at d3
        have HS2 : Hid (sumC xs ys (k + 1) = S + xs.getD k 0 * ys.getD k 0) := by show _ = _; rw [HS.out]; rfl
        have HY2 : Hid ((0 ≤ ys.getD k 0 ∧ ys.getD k 0 ≤ 15) → ∀ i, i < k + 1 → 0 ≤ ys.getD i 0 ∧ ys.getD i 0 ≤ 15) := by
          intro h i hi
          by_cases e : i = k
          · subst e; exact h
          · exact HY.out i (by omega)
        generalize xs.getD k 0 = z1 at *
        generalize ys.getD k 0 = z2 at *
        by_cases h0 : z2 < 0
        · go_wp2
          go_ret2
          obtain ⟨e1, e2⟩ := HB.out (by omega)
          exact ⟨by rw [e1, e2] <;> rfl, hb⟩
        · by_cases h4 : 15 < z2
          · go_wp2
            go_ret2
            obtain ⟨e1, e2⟩ := HB.out (by omega)
            exact ⟨by rw [e1, e2] <;> rfl, hb⟩
          · have m1 : 0 ≤ z1 * z2 := Int.mul_nonneg d1.1 (by omega)
            have m2 : z1 * z2 ≤ 1099511627776 * 15 := Int.mul_le_mul d1.2 (by omega) (by omega) (by decide)
            have hm3 : IntKind.i64.wrap (z1 * z2) = z1 * z2 := IntWalk.i64_in _ (by omega)
            have hm4 : IntKind.i64.wrap (S + z1 * z2) = S + z1 * z2 := IntWalk.i64_in _ (by omega)
            have hm5 : RowKit.wrap64 (z1 * z2) = z1 * z2 := by rw [← IntWalk.i64_left]; exact hm3
            have hm6 : RowKit.wrap64 (S + z1 * z2) = S + z1 * z2 := by rw [← IntWalk.i64_left]; exact hm4
            go_wp2
            go_roundw
            case rel => exact ⟨k + 1, S + z1 * z2, by omega, by go_num, rfl, (HS2.out.symm : _ = _), HY2.out (by omega), hb⟩
            case measure => simp [intOf]; omega
      · obtain rfl : k = n := by omega
        obtain ⟨e1, e2⟩ := HK0.out HY.out
        have HR : Hid _ := And.intro e1 e2
        clear e1 e2 h1
        go_wp2
        go_ret2
        exact ⟨by rw [HR.out.1, HR.out.2, HS.out] <;> rfl, hb⟩
  · have HE : Hid _ := errC_err hlen.out he
    have HC := refusal_n hx ca w hs hl
    generalize errOf xs = E at *
    go_enter Try.func9, Try.ntmps9
    go_wp2_with (go_at_call 12; refine HC.mono ?_; rintro e w1 ⟨rfl, hw1⟩; subst w1)
    go_ret2
    exact ⟨by rw [HE.out.1, HE.out.2] <;> rfl, Below.refl _ _⟩
set_option maxHeartbeats 400000 in
theorem cost_any (a b : Option Addr) (xs ys : List Int) (ca cb : Nat) (w : World) (hs : SegZ w a xs) (ht : SegZ w b ys) (hl : xs.length ≤ 9223372036854775807) (hl2 : ys.length ≤ 9223372036854775807) :
    Calls Try.prog 9 #[.slice a xs.length ca, .slice b ys.length cb] w fun e w' => e = .returned (.tuple #[.int .i64 (costOf xs ys), .int .i64 (errC xs ys)]) ∧ Below w.heap.size w w' := by
  by_cases hlen : xs.length = ys.length
  · rw [hlen]
    exact cost_same a b xs ys ys.length ca cb hlen rfl w hs ht hl2
  · have hleni : ¬ (xs.length : Int) = (ys.length : Int) := by omega
    have HE : Hid _ := errC_arg hlen
    go_enter Try.func9, Try.ntmps9
    go_wp2
    go_ret2
    exact ⟨by rw [HE.out.1, HE.out.2] <;> rfl, Below.refl _ _⟩
end Go.Proofs.Ytmleicaalaggkab
