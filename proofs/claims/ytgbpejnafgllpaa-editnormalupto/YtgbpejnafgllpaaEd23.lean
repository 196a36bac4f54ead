
import Derived.Test.YtgbpejnafgllpaaEd22
namespace Go.Proofs.Ytgbpejnafgllpaa
open Go.RowKit Go.Shelf
set_option linter.unusedVariables false

/-! The law's own count of steps. -/
variable {w : World} {sa da xa : Option Addr} {n sc m dc k xc : Nat} {S : List St16} {D X : List Int}
def bs16v (S : List St16) : Int := ((bn16 S S.length).n : Int) + (if (bn16 S S.length).an = true then 1 else 0)
set_option maxRecDepth 100000 in
set_option maxHeartbeats 8000000 in
theorem pbnd16 (h : Ed16 w sa n S da m D xa k X) (hok : Ok16 S S.length) :
    Calls Try.prog 19 #[ev16 sa n sc da m dc xa k xc] w fun e w' => e = .returned (.int .i64 (bs16v S)) ∧ Below w.heap.size w w' := by
  have hn : Hid (S.length = n) := h.hn
  have hln := h.ln
  have HS : Hid (SegS w sa S) := h.ss
  have HOK : Hid (Ok16 S n) := by show Ok16 S n; rw [← hn.out]; exact hok
  clear h hok
  unfold ev16
  go_enter Try.func19, Try.ntmps19
  go_wp2_with fail
  go_loopw [3, 4, 5, 6, 7, 13] (fun t3 t4 t5 t6 t7 t13 wr => ∃ i : Nat, i ≤ n ∧ t13 = .int .i64 (i : Int) ∧ t3 = .int .i64 ((bn16 S i).n : Int) ∧ t4 = .int .i64 (pl16 S i) ∧ t5 = .int .i64 (bn16 S i).x ∧ t6 = .bool (bn16 S i).op ∧ t7 = .bool (bn16 S i).an ∧ Below w.heap.size w wr) (fun _ _ _ _ _ t13 _ => n - (intOf t13).toNat)
  case atStart => exact ⟨0, by omega, rfl, rfl, rfl, rfl, rfl, rfl, (Below.refl w.heap.size w).alloc (Nat.le_refl _) _⟩
  case round =>
    obtain ⟨i, hi, rfl, rfl, rfl, rfl, rfl, rfl, BR⟩ := hrel
    have hle := (bn16_le (S := S) i).1
    by_cases hin : i < n
    · have hii : (i : Int) < (n : Int) := by omega
      have hil : i < S.length := by rw [hn.out]; exact hin
      obtain ⟨b, off, rfl, hT⟩ := (HS.out.old BR).at_ i hil
      have hsl := sa16_le i (HOK.out.mono (by omega))
      have hb2 := ad16_le HOK.out hin
      have hc0 := hT.c0
      have hc1 := hT.c1
      have hc2 := hT.c2
      have E0 : Hid (bn16 S (i + 1) = ⟨if 0 < ad16 S i ∧ ¬ (pl16 S i = (bn16 S i).x ∧ (bn16 S i).op = true) then (bn16 S i).n + 1 else (bn16 S i).n, if 0 < ad16 S i then pl16 S i + (ad16 S i : Int) else (bn16 S i).x, if 0 < cp16 S i then false else if 0 < ad16 S i then true else (bn16 S i).op, (bn16 S i).an || decide (0 < ad16 S i) || decide (0 < cp16 S i)⟩) := rfl
      have E1 : Hid (pl16 S (i + 1) = pl16 S i + (ad16 S i : Int) + sk16 S i) := rfl
      have hnn : (bn16 S i).n ≤ i := by omega
      unfold sk16 at hb2 E1
      obtain ⟨g1, g2, g3, g4, g5, g6⟩ := hb2
      have hp1 : -36028797018963968 ≤ pl16 S i := by omega
      have hp2 : pl16 S i ≤ 36028797018963968 := by omega
      clear hT hsl hle
      generalize pl16 S i = P at *
      generalize bn16 S i = B at *
      obtain ⟨nn, xx, oo, aa⟩ := B
      simp only at E0 hnn
      generalize S.getD i z16 = s at *
      obtain ⟨va, vc, vk⟩ := s
      simp only at hc0 hc1 hc2 g3 g4 g5 g6 E1
      generalize ad16 S i = A at *
      generalize cp16 S i = C at *
      subst g3
      subst g4
      have w1 : IntKind.i64.wrap (P + (A : Int)) = P + (A : Int) := IntWalk.i64_in _ (by omega)
      have w2 : IntKind.i64.wrap (P + (A : Int) + vk) = P + (A : Int) + vk := IntWalk.i64_in _ (by omega)
      have w3 : IntKind.i64.wrap ((nn : Int) + 1) = ((nn + 1 : Nat) : Int) := by rw [IntWalk.i64_in _ (by omega)]; omega
      have BA : ∀ o, Below w.heap.size w (wr.alloc o) := fun o => BR.trans ((Below.refl wr.heap.size wr).alloc (Nat.le_refl _) o |>.mono BR.size)
      have HBA : Hid (∀ o, Below w.heap.size w (wr.alloc o)) := BA
      clear BA
      by_cases hA : 0 < A
      · by_cases hC : 0 < C
        · cases oo with
          | true =>
            by_cases hq : P = xx
            · subst hq
              have E2 : Hid (bn16 S (i + 1) = ⟨nn, P + (A : Int), false, true⟩) := by
                show _ = _; rw [E0.out]; simp [hA, hC]
              have hAi : (0 : Int) < (A : Int) := by omega
              have hCi : (0 : Int) < (C : Int) := by omega
              go_wp2_with fail
              go_roundw
              case rel => exact ⟨i + 1, by omega, by go_num, by rw [E2.out] <;> simp, by rw [E1.out], by rw [E2.out] <;> simp, by rw [E2.out], by rw [E2.out], HBA.out _⟩
              case measure => simp [intOf]; omega
            · have E2 : Hid (bn16 S (i + 1) = ⟨nn + 1, P + (A : Int), false, true⟩) := by
                show _ = _; rw [E0.out]; simp [hA, hC, hq]
              have hAi : (0 : Int) < (A : Int) := by omega
              have hCi : (0 : Int) < (C : Int) := by omega
              go_wp2_with fail
              go_roundw
              case rel => exact ⟨i + 1, by omega, by go_num, by rw [E2.out] <;> simp, by rw [E1.out], by rw [E2.out] <;> simp, by rw [E2.out], by rw [E2.out], HBA.out _⟩
              case measure => simp [intOf]; omega
          | false =>
            have E2 : Hid (bn16 S (i + 1) = ⟨nn + 1, P + (A : Int), false, true⟩) := by
              show _ = _; rw [E0.out]; simp [hA, hC]
            have hAi : (0 : Int) < (A : Int) := by omega
            have hCi : (0 : Int) < (C : Int) := by omega
            go_wp2_with fail
            go_roundw
            case rel => exact ⟨i + 1, by omega, by go_num, by rw [E2.out] <;> simp, by rw [E1.out], by rw [E2.out] <;> simp, by rw [E2.out], by rw [E2.out], HBA.out _⟩
            case measure => simp [intOf]; omega
        · cases oo with
          | true =>
            by_cases hq : P = xx
            · subst hq
              have E2 : Hid (bn16 S (i + 1) = ⟨nn, P + (A : Int), true, true⟩) := by
                show _ = _; rw [E0.out]; simp [hA, hC]
              have hAi : (0 : Int) < (A : Int) := by omega
              have hCi : ¬ (0 : Int) < (C : Int) := by omega
              go_wp2_with fail
              go_roundw
              case rel => exact ⟨i + 1, by omega, by go_num, by rw [E2.out] <;> simp, by rw [E1.out], by rw [E2.out] <;> simp, by rw [E2.out], by rw [E2.out], HBA.out _⟩
              case measure => simp [intOf]; omega
            · have E2 : Hid (bn16 S (i + 1) = ⟨nn + 1, P + (A : Int), true, true⟩) := by
                show _ = _; rw [E0.out]; simp [hA, hC, hq]
              have hAi : (0 : Int) < (A : Int) := by omega
              have hCi : ¬ (0 : Int) < (C : Int) := by omega
              go_wp2_with fail
              go_roundw
              case rel => exact ⟨i + 1, by omega, by go_num, by rw [E2.out] <;> simp, by rw [E1.out], by rw [E2.out] <;> simp, by rw [E2.out], by rw [E2.out], HBA.out _⟩
              case measure => simp [intOf]; omega
          | false =>
            have E2 : Hid (bn16 S (i + 1) = ⟨nn + 1, P + (A : Int), true, true⟩) := by
              show _ = _; rw [E0.out]; simp [hA, hC]
            have hAi : (0 : Int) < (A : Int) := by omega
            have hCi : ¬ (0 : Int) < (C : Int) := by omega
            go_wp2_with fail
            go_roundw
            case rel => exact ⟨i + 1, by omega, by go_num, by rw [E2.out] <;> simp, by rw [E1.out], by rw [E2.out] <;> simp, by rw [E2.out], by rw [E2.out], HBA.out _⟩
            case measure => simp [intOf]; omega
      · by_cases hC : 0 < C
        · have E2 : Hid (bn16 S (i + 1) = ⟨nn, xx, false, true⟩) := by
            show _ = _; rw [E0.out]; simp [hA, hC]
          have hAi : ¬ (0 : Int) < (A : Int) := by omega
          have hCi : (0 : Int) < (C : Int) := by omega
          go_wp2_with fail
          go_roundw
          case rel => exact ⟨i + 1, by omega, by go_num, by rw [E2.out] <;> simp, by rw [E1.out], by rw [E2.out] <;> simp, by rw [E2.out], by rw [E2.out], HBA.out _⟩
          case measure => simp [intOf]; omega
        · have E2 : Hid (bn16 S (i + 1) = ⟨nn, xx, oo, aa⟩) := by
            show _ = _; rw [E0.out]; simp [hA, hC]
          have hAi : ¬ (0 : Int) < (A : Int) := by omega
          have hCi : ¬ (0 : Int) < (C : Int) := by omega
          go_wp2_with fail
          go_roundw
          case rel => exact ⟨i + 1, by omega, by go_num, by rw [E2.out] <;> simp, by rw [E1.out], by rw [E2.out] <;> simp, by rw [E2.out], by rw [E2.out], HBA.out _⟩
          case measure => simp [intOf]; omega
    · have hii : ¬ (i : Int) < (n : Int) := by omega
      have hie : i = n := by omega
      subst hie
      have HV : Hid (bs16v S = ((bn16 S i).n : Int) + (if (bn16 S i).an = true then 1 else 0)) := by show _ = _; unfold bs16v; rw [hn.out]
      have hnn : (bn16 S i).n ≤ i := by omega
      have w3 : IntKind.i64.wrap (((bn16 S i).n : Int) + 1) = ((bn16 S i).n : Int) + 1 := IntWalk.i64_in _ (by omega)
      cases han : (bn16 S i).an
      · rw [han] at HV
        go_wp2_with fail
        go_ret
        exact ⟨by rw [HV.out]; simp, BR⟩
      · rw [han] at HV
        go_wp2_with fail
        go_ret
        exact ⟨by rw [HV.out]; simp, BR⟩
end Go.Proofs.Ytgbpejnafgllpaa
