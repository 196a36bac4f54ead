
import Derived.Test.YtgbpejnafgllpaaEd20
import Derived.Test.YtgbpejnafgllpaaEd14
namespace Go.Proofs.Ytgbpejnafgllpaa
open Go.RowKit Go.Shelf
set_option linter.unusedVariables false

/-! Lists of steps that are alike. -/
theorem SpAt.drewN16 {w : World} {b off : Nat} {t : St16} (h : SpAt w b off t) (d : Nat) : SpAt (w.drewN d) b off t := ⟨h.c0, h.c1, h.c2⟩
set_option maxRecDepth 100000 in
set_option maxHeartbeats 2000000 in
theorem peqs16 (a b : Option Addr) (n ca cb : Nat) (S : List St16) (w : World) (hx : SegS w a S) (hy : SegS w b S) (hn : Hid (S.length = n)) (hl : n ≤ 1073741824) :
    Calls Try.prog 33 #[.slice a n ca, .slice b n cb] w fun e w' => e = .returned (.bool true) ∧ Below w.heap.size w w' := by
  have KEY : Hid (∀ wr, (∃ d, wr = w.drewN d) → SegS wr a S ∧ SegS wr b S) := by
    rintro wr ⟨d, rfl⟩
    exact ⟨hx.old (below_drewN16 (Below.refl _ _) d), hy.old (below_drewN16 (Below.refl _ _) d)⟩
  clear hx hy
  go_enter Try.func33, Try.ntmps33
  go_wp2_with fail
  go_loopw [13] (fun ti wr => ∃ k : Nat, k ≤ n ∧ ti = .int .i64 k ∧ ∃ d, wr = w.drewN d) (fun ti _ => n - (intOf ti).toNat)
  case atStart => exact ⟨0, Nat.zero_le _, rfl, 0, rfl⟩
  case round =>
    obtain ⟨k, hk, rfl, hd⟩ := hrel
    obtain ⟨sx, sy⟩ := KEY.out wr hd
    obtain ⟨d, hd⟩ := hd
    have HD : Hid (wr = w.drewN d) := hd
    clear hd
    by_cases h1 : k < n
    · have h1i : (k : Int) < (n : Int) := by omega
      obtain ⟨b1, o1, rfl, t1⟩ := sx.at_ k (by rw [hn.out]; exact h1)
      obtain ⟨b2, o2, rfl, t2⟩ := sy.at_ k (by rw [hn.out]; exact h1)
      have c0 := t1.c0
      have c1 := t1.c1
      have c2 := t1.c2
      have d0 := t2.c0
      have d1 := t2.c1
      have d2 := t2.c2
      clear sx sy t1 t2
      generalize S.getD k z16 = t at *
      obtain ⟨ta, tc, tk⟩ := t
      simp only at c0 c1 c2 d0 d1 d2
      go_wp2_with fail
      go_quiet (fail)
      go_wp2_with fail
      go_roundw
      case rel => exact ⟨k + 1, by omega, by go_num, d + nq, by rw [HD.out]; simp [World.drewN]; try omega⟩
      case measure => simp [intOf]; omega
    · have h1i : ¬ (k : Int) < (n : Int) := by omega
      go_wp2_with fail
      go_ret
      exact ⟨by first | rfl | simp, by rw [HD.out]; exact below_drewN16 (Below.refl _ _) d⟩
end Go.Proofs.Ytgbpejnafgllpaa
