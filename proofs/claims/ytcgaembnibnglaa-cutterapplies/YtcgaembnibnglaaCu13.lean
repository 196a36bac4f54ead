
import Derived.Test.YtcgaembnibnglaaCu3
namespace Go.Proofs.Ytcgaembnibnglaa
open Go.RowKit Go.Shelf
set_option linter.unusedVariables false

/-! The document's in, Sums. -/
set_option maxRecDepth 100000 in
theorem rin17 (x lo hi : Int) (w : World) : Calls Try.prog 41 #[.int .i64 x, .int .i64 lo, .int .i64 hi] w fun e w' => e = .returned (.bool (decide (lo ≤ x ∧ x ≤ hi))) ∧ w' = w := by
  by_cases h1 : lo ≤ x
  · by_cases h2 : x ≤ hi
    · rw [decide_eq_true ⟨h1, h2⟩]
      go_enter Try.func41, Try.ntmps41
      go_wp2
      go_ret
      exact ⟨rfl, rfl⟩
    · rw [decide_eq_false (by omega)]
      go_enter Try.func41, Try.ntmps41
      go_wp2
      go_ret
      exact ⟨rfl, rfl⟩
  · rw [decide_eq_false (by omega)]
    go_enter Try.func41, Try.ntmps41
    go_wp2
    go_ret
    exact ⟨rfl, rfl⟩
/-- The i-th step's numbers may be summed up. -/
def M17 (S : List St16) (i : Nat) : Prop := 0 ≤ (S.getD i z16).1 ∧ (S.getD i z16).1 ≤ 16777216 ∧ 0 ≤ (S.getD i z16).2.1 ∧ (S.getD i z16).2.1 ≤ 16777216 ∧ sa16 S (i + 1) ≤ 16777216 ∧ sc16 S (i + 1) ≤ 16777216
open Classical in
noncomputable def sms17 (S : List St16) (n : Nat) : Value := if (∀ i, i < n → M17 S i) then .tuple #[.int .i64 (sa16 S n : Int), .int .i64 (sc16 S n : Int), .bool true] else .tuple #[.int .i64 0, .int .i64 0, .bool false]
theorem sms17_ok {S : List St16} {n : Nat} (h : ∀ i, i < n → M17 S i) : sms17 S n = .tuple #[.int .i64 (sa16 S n : Int), .int .i64 (sc16 S n : Int), .bool true] := by unfold sms17; rw [if_pos h]
theorem sms17_no {S : List St16} {n : Nat} (h : ¬ ∀ i, i < n → M17 S i) : sms17 S n = .tuple #[.int .i64 0, .int .i64 0, .bool false] := by unfold sms17; rw [if_neg h]
set_option maxRecDepth 100000 in
set_option maxHeartbeats 4000000 in
theorem rsum17 (a : Option Addr) (n cap : Nat) (S : List St16) (w : World) (hs : SegS w a S) (hn : Hid (S.length = n)) (hl : n ≤ 5864062014805) :
    Calls Try.prog 46 #[.slice a n cap] w fun e w' => e = .returned (sms17 S n) ∧ Below w.heap.size w w' := by
  go_enter Try.func46, Try.ntmps46
  go_wp2_with fail
  go_loopw [5, 6, 11] (fun ta tc ti wr => ∃ i : Nat, i ≤ n ∧ ti = .int .i64 (i : Int) ∧ ta = .int .i64 (sa16 S i : Int) ∧ tc = .int .i64 (sc16 S i : Int) ∧ Hid (∀ j, j < i → M17 S j) ∧ (sa16 S i ≤ 16777216 ∧ sc16 S i ≤ 16777216) ∧ Below w.heap.size w wr) (fun _ _ ti _ => n - (intOf ti).toNat)
  case atStart => exact ⟨0, by omega, rfl, rfl, rfl, fun j hj => by omega, by simp [sa16, sc16], Below.refl _ _⟩
  case round =>
    obtain ⟨i, hi, rfl, rfl, rfl, HM, hb, BR⟩ := hrel
    by_cases hin : i < n
    · have hii : (i : Int) < (n : Int) := by omega
      have hi0 : (0 : Int) ≤ (i : Int) := by omega
      have hil : i < S.length := by rw [hn.out]; exact hin
      obtain ⟨b, off, rfl, hT⟩ := (hs.old BR).at_ i hil
      have c0 := hT.c0
      have c1 := hT.c1
      have c2 := hT.c2
      have HNO : Hid (¬ M17 S i → sms17 S n = .tuple #[.int .i64 0, .int .i64 0, .bool false]) := fun h => sms17_no (fun x => h (x i hin))
      have HME : Hid (M17 S i ↔ (0 ≤ (S.getD i z16).1 ∧ (S.getD i z16).1 ≤ 16777216 ∧ 0 ≤ (S.getD i z16).2.1 ∧ (S.getD i z16).2.1 ≤ 16777216 ∧ (sa16 S i : Int) + (S.getD i z16).1 ≤ 16777216 ∧ (sc16 S i : Int) + (S.getD i z16).2.1 ≤ 16777216)) := by
        unfold Hid M17
        simp only [sa16, sc16, ad16, cp16]
        constructor
        · rintro ⟨y1, y2, y3, y4, y5, y6⟩; exact ⟨y1, y2, y3, y4, by omega, by omega⟩
        · rintro ⟨y1, y2, y3, y4, y5, y6⟩; exact ⟨y1, y2, y3, y4, by omega, by omega⟩
      have HSU : Hid (M17 S i → ((sa16 S (i + 1) : Int) = (sa16 S i : Int) + (S.getD i z16).1 ∧ (sc16 S (i + 1) : Int) = (sc16 S i : Int) + (S.getD i z16).2.1) ∧ (sa16 S (i + 1) ≤ 16777216 ∧ sc16 S (i + 1) ≤ 16777216) ∧ (∀ j, j < i + 1 → M17 S j)) := fun h => by
        have h0 := h
        obtain ⟨y1, y2, y3, y4, y5, y6⟩ := h
        refine ⟨by simp only [sa16, sc16, ad16, cp16]; omega, ⟨y5, y6⟩, fun j hj => ?_⟩
        rcases Nat.lt_or_ge j i with z | z
        · exact HM.out j z
        · have : j = i := by omega
          subst this; exact h0
      generalize S.getD i z16 = s at *
      obtain ⟨A, C, K⟩ := s
      simp only at c0 c1 c2 HME HSU
      have hA0 : (0 : Int) ≤ (sa16 S i : Int) ∧ (sa16 S i : Int) ≤ 16777216 ∧ (0 : Int) ≤ (sc16 S i : Int) ∧ (sc16 S i : Int) ≤ 16777216 := by omega
      generalize (sa16 S i : Int) = d at *
      generalize (sc16 S i : Int) = x at *
      have hi1 := rin17 A 0 16777216
      have hi2 := rin17 C 0 16777216
      clear hT HM hb
      obtain ⟨wB, hwB⟩ : ∃ wB, wB = wr.alloc (.cells #[.int .i64 A, .int .i64 C, .int .i64 K] 95) := ⟨_, rfl⟩
      have HWB : Hid (wr.alloc (.cells #[.int .i64 A, .int .i64 C, .int .i64 K] 95) = wB) := hwB.symm
      have BB : Below w.heap.size w wB := by rw [hwB]; exact BR.trans ((below_box16 _ _).mono BR.size)
      rw [hwB] at BB
      clear hwB
      by_cases k1 : 0 ≤ A ∧ A ≤ 16777216
      · rw [decide_eq_true k1] at hi1
        by_cases k2 : 0 ≤ C ∧ C ≤ 16777216
        · rw [decide_eq_true k2] at hi2
          have w1 : IntKind.i64.wrap (d + A) = d + A := IntWalk.i64_in _ (by omega)
          have w2 : IntKind.i64.wrap (x + C) = x + C := IntWalk.i64_in _ (by omega)
          by_cases k3 : 16777216 < d + A
          · have HN : Hid (sms17 S n = .tuple #[.int .i64 0, .int .i64 0, .bool false]) := HNO.out (fun h => by have := HME.out.1 h; omega)
            go_wp2_with (first | (go_at_call 41; refine (hi1 _).mono ?_; rintro e1 w1 ⟨rfl, rfl⟩; clear hi1) | (go_at_call 41; refine (hi2 _).mono ?_; rintro e1 w1 ⟨rfl, rfl⟩; clear hi2))
            go_ret3
            exact ⟨by rw [HN.out]; rfl, BB⟩
          · by_cases k4 : 16777216 < x + C
            · have HN : Hid (sms17 S n = .tuple #[.int .i64 0, .int .i64 0, .bool false]) := HNO.out (fun h => by have := HME.out.1 h; omega)
              go_wp2_with (first | (go_at_call 41; refine (hi1 _).mono ?_; rintro e1 w1 ⟨rfl, rfl⟩; clear hi1) | (go_at_call 41; refine (hi2 _).mono ?_; rintro e1 w1 ⟨rfl, rfl⟩; clear hi2))
              go_ret3
              exact ⟨by rw [HN.out]; rfl, BB⟩
            · have HY : Hid (M17 S i) := HME.out.2 (by omega)
              go_wp2_with (first | (go_at_call 41; refine (hi1 _).mono ?_; rintro e1 w1 ⟨rfl, rfl⟩; clear hi1) | (go_at_call 41; refine (hi2 _).mono ?_; rintro e1 w1 ⟨rfl, rfl⟩; clear hi2))
              go_roundw
              case rel =>
                obtain ⟨y1, y2, y3⟩ := HSU.out HY.out
                exact ⟨i + 1, by omega, by simp, by rw [y1.1], by rw [y1.2], y3, y2, BB⟩
              case measure => simp [intOf]; omega
        · rw [decide_eq_false k2] at hi2
          have HN : Hid (sms17 S n = .tuple #[.int .i64 0, .int .i64 0, .bool false]) := HNO.out (fun h => by have := HME.out.1 h; omega)
          go_wp2_with (first | (go_at_call 41; refine (hi1 _).mono ?_; rintro e1 w1 ⟨rfl, rfl⟩; clear hi1) | (go_at_call 41; refine (hi2 _).mono ?_; rintro e1 w1 ⟨rfl, rfl⟩; clear hi2))
          go_ret3
          exact ⟨by rw [HN.out]; rfl, BB⟩
      · rw [decide_eq_false k1] at hi1
        have HN : Hid (sms17 S n = .tuple #[.int .i64 0, .int .i64 0, .bool false]) := HNO.out (fun h => by have := HME.out.1 h; omega)
        go_wp2_with (first | (go_at_call 41; refine (hi1 _).mono ?_; rintro e1 w1 ⟨rfl, rfl⟩; clear hi1))
        go_ret3
        exact ⟨by rw [HN.out]; rfl, BB⟩
    · have hk2 : i = n := by omega
      subst hk2
      have hneg : ¬ (i : Int) < (i : Int) := by omega
      have HY : Hid (sms17 S i = .tuple #[.int .i64 (sa16 S i : Int), .int .i64 (sc16 S i : Int), .bool true]) := sms17_ok HM.out
      clear HM hb
      go_wp2_with fail
      go_ret3
      exact ⟨by rw [HY.out]; rfl, BR⟩
end Go.Proofs.Ytcgaembnibnglaa
