
import Derived.Test.YtoeabfcnfofbiaaDoorHdR6
namespace Go.Proofs.YtoeabfcnfofbiaaDoor
open Go.RowKit
set_option linter.unusedVariables false

/-! The document's Told, over any reckoning of Check (ck: errC of CdC, by rcheck5_any of CdR). -/
def tld8 (ck : List Int → Int) (lit dist : List Int) : Prop := 257 ≤ lit.length ∧ lit.length ≤ 286 ∧ dist.length ≤ 30 ∧ ck lit = 0 ∧ ck dist = 0 ∧ lit.getD 256 0 ≠ 0
instance (ck : List Int → Int) (lit dist : List Int) : Decidable (tld8 ck lit dist) := by unfold tld8; infer_instance
/-- What Check answers at one list. -/
structure Chk8 (w : World) (a : Option Addr) (n ca : Nat) (v : Int) : Prop where
  out : Calls Tryd.prog 74 #[.slice a n ca] w fun e w' => e = .returned (.int .i64 v) ∧ w' = w
set_option maxRecDepth 100000 in
set_option maxHeartbeats 4000000 in
theorem rtold8 (ck : List Int → Int) (HCK : Hid (∀ (a : Option Addr) (zs : List Int) (n cap : Nat) (w : World), zs.length = n → SegZ w a zs → n ≤ 288 → Calls Tryd.prog 74 #[.slice a n cap] w fun e w' => e = .returned (.int .i64 (ck zs)) ∧ w' = w))
    (xs ys : List Int) (a b : Option Addr) (n m ca cb : Nat) (hn : Hid (xs.length = n)) (hm : Hid (ys.length = m)) (w : World) (hx : SegZ w a xs) (hy : SegZ w b ys) :
    Calls Tryd.prog 46 #[.slice a n ca, .slice b m cb] w fun e w' => e = .returned (.bool (decide (tld8 ck xs ys))) ∧ w' = w := by
  have HX : Hid (SegZ w a xs) := hx
  have HY : Hid (SegZ w b ys) := hy
  have HT : Hid (tld8 ck xs ys ↔ 257 ≤ n ∧ n ≤ 286 ∧ m ≤ 30 ∧ ck xs = 0 ∧ ck ys = 0 ∧ xs.getD 256 0 ≠ 0) := by
    unfold tld8
    rw [hn.out, hm.out]
    exact Iff.rfl
  clear hx hy
  by_cases h1 : n ≤ 256
  · have h1i : (n : Int) ≤ 256 := by omega
    have HF : Hid (decide (tld8 ck xs ys) = false) := by
      show _ = _
      simp only [decide_eq_false_iff_not]
      intro h
      have := HT.out.1 h
      omega
    go_enter Tryd.func46, Tryd.ntmps46
    go_wp2_with fail
    go_ret
    exact ⟨by rw [HF.out]; rfl, rfl⟩
  have h1i : ¬ (n : Int) ≤ 256 := by omega
  by_cases h2 : 286 < n
  · have h2i : 286 < (n : Int) := by omega
    have HF : Hid (decide (tld8 ck xs ys) = false) := by
      show _ = _
      simp only [decide_eq_false_iff_not]
      intro h
      have := HT.out.1 h
      omega
    go_enter Tryd.func46, Tryd.ntmps46
    go_wp2_with fail
    go_ret
    exact ⟨by rw [HF.out]; rfl, rfl⟩
  have h2i : ¬ 286 < (n : Int) := by omega
  by_cases h3 : 30 < m
  · have h3i : 30 < (m : Int) := by omega
    have HF : Hid (decide (tld8 ck xs ys) = false) := by
      show _ = _
      simp only [decide_eq_false_iff_not]
      intro h
      have := HT.out.1 h
      omega
    go_enter Tryd.func46, Tryd.ntmps46
    go_wp2_with fail
    go_ret
    exact ⟨by rw [HF.out]; rfl, rfl⟩
  have h3i : ¬ 30 < (m : Int) := by omega
  have HC1 : Chk8 w a n ca (ck xs) := ⟨HCK.out a xs n ca w hn.out HX.out (by omega)⟩
  have HC2 : Chk8 w b m cb (ck ys) := ⟨HCK.out b ys m cb w hm.out HY.out (by omega)⟩
  have HCA : Hid (∀ a n ca v, Chk8 w a n ca v → Calls Tryd.prog 74 #[.slice a n ca] w fun e w' => e = .returned (.int .i64 v) ∧ w' = w) := fun _ _ _ _ h => h.out
  clear HCK
  obtain ⟨bx, ox, rfl, c0⟩ := (show SegZ w a xs from HX.out).at_ 256 (by rw [hn.out]; omega)
  generalize xs.getD 256 0 = z at *
  have HR : Hid (decide (tld8 ck xs ys) = (decide (ck xs = 0) && decide (ck ys = 0) && decide (z ≠ 0))) := by
    show _ = _
    rw [Bool.eq_iff_iff]
    simp only [decide_eq_true_eq, Bool.and_eq_true]
    rw [HT.out]
    constructor
    · rintro ⟨_, _, _, g1, g2, g3⟩; exact ⟨⟨g1, g2⟩, g3⟩
    · rintro ⟨⟨g1, g2⟩, g3⟩; exact ⟨by omega, by omega, by omega, g1, g2, g3⟩
  clear HT
  generalize ck xs = e1 at *
  generalize ck ys = e2 at *
  by_cases g1 : e1 = 0
  · subst g1
    by_cases g2 : e2 = 0
    · subst g2
      by_cases g3 : z = 0
      · subst g3
        go_enter Tryd.func46, Tryd.ntmps46
        go_wp2_with (first | (go_at_call 74; refine (HCA.out _ _ _ _ (by assumption)).mono ?_; rintro e w1 ⟨rfl, hw1⟩; subst w1))
        go_ret
        exact ⟨by rw [HR.out]; rfl, rfl⟩
      · have g3b : (z == 0) = false := by simp [g3]
        go_enter Tryd.func46, Tryd.ntmps46
        go_wp2_with (first | (go_at_call 74; refine (HCA.out _ _ _ _ (by assumption)).mono ?_; rintro e w1 ⟨rfl, hw1⟩; subst w1))
        go_ret
        exact ⟨by rw [HR.out]; simp [g3], rfl⟩
    · have g2b : (e2 == 0) = false := by simp [g2]
      go_enter Tryd.func46, Tryd.ntmps46
      go_wp2_with (first | (go_at_call 74; refine (HCA.out _ _ _ _ (by assumption)).mono ?_; rintro e w1 ⟨rfl, hw1⟩; subst w1))
      go_ret
      exact ⟨by rw [HR.out]; simp [g2], rfl⟩
  · have g1b : (e1 == 0) = false := by simp [g1]
    go_enter Tryd.func46, Tryd.ntmps46
    go_wp2_with (first | (go_at_call 74; refine (HCA.out _ _ _ _ (by assumption)).mono ?_; rintro e w1 ⟨rfl, hw1⟩; subst w1))
    go_ret
    exact ⟨by rw [HR.out]; simp [g1], rfl⟩
end Go.Proofs.YtoeabfcnfofbiaaDoor
