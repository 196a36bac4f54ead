
import Derived.Test.YtoeabfcnfofbiabDoorHdL2
import Derived.Test.YtoeabfcnfofbiabDoorHdP7
import Derived.Test.YtoeabfcnfofbiabDoorHdM2
namespace Go.Proofs.YtoeabfcnfofbiabDoor
open Go.RowKit
set_option linter.unusedVariables false

/-! HeadBack. -/
set_option maxRecDepth 100000 in
set_option maxHeartbeats 8000000 in
theorem headBack_walk (w : World) (T : TabS w) (a : Option Addr) (zs : List Int) (cap : Nat) (hs : SegZ w a zs) (hc : zs.length ≤ cap) (hnil : a = none → cap = 0) (hl : zs.length * 8 ≤ 140737488351232) :
    Calls Tryd.prog 3 #[.slice a zs.length cap] w fun e w' => e = .returned (.bool true) ∧ Below w.heap.size w w' := by
  obtain ⟨n, hnn⟩ : ∃ n, n = zs.length := ⟨_, rfl⟩
  have HN : Hid (zs.length = n) := hnn.symm
  rw [← hnn] at hl hc ⊢
  clear hnn
  have hR320 := (rns8_ok zs).2
  obtain ⟨R, hR⟩ : ∃ R, R = rns8 zs := ⟨_, rfl⟩
  obtain ⟨E, hE⟩ : ∃ E, E = rer8 zs := ⟨_, rfl⟩
  have HRR : Hid (rns8 zs = R) := hR.symm
  have HEE : Hid (rer8 zs = E) := hE.symm
  obtain ⟨nR, hnR⟩ : ∃ nR, nR = R.length := ⟨_, rfl⟩
  have HNR : Hid (R.length = nR) := hnR.symm
  rw [← hR, ← hnR] at hR320
  clear hR hE hnR
  have HS : Hid (SegZ w a zs) := hs
  go_enter Tryd.func3, Tryd.ntmps3
  go_wp2_with fail
  refine (pruns8 zs a n cap HN hc w hs T).mono ?_
  rintro e w1 ⟨ba, ca, rfl, OA, B1⟩
  rw [HRR.out, HNR.out] at OA
  rw [HRR.out, HEE.out, HNR.out]
  have SA : SegN w1 ba R := own_segN OA HNR.out
  have HS1 : Hid (SegZ w1 a zs) := hs.old B1
  have T1 : TabS w1 := SegZ.old T B1
  clear hs T OA
  obtain ⟨B0, hB0⟩ : ∃ B0, decide ((n : Int) ≤ 320) = B0 := ⟨_, rfl⟩
  have HB0 : Hid (B0 = true ↔ n ≤ 320) := by
    show _ ↔ _
    rw [← hB0]
    simp
    omega
  have hbb : (B0 = true ∧ (n : Int) ≤ 320) ∨ (B0 = false ∧ ¬ (n : Int) ≤ 320) := by
    by_cases h : (n : Int) ≤ 320
    · exact .inl ⟨by rw [← hB0]; simpa using h, h⟩
    · exact .inr ⟨by rw [← hB0]; simpa using h, h⟩
  clear hB0
  rcases hbb with ⟨rfl, hni⟩ | ⟨rfl, hni⟩
  all_goals
    go_wp2_with fail
    go_loopw [5, 6] (fun tm ti wr => ∃ (i : Nat) (B : Bool), i ≤ n ∧ ti = .int .i64 (i : Int) ∧ tm = .bool B ∧ Hid (B = true ↔ n ≤ 320 ∧ ∀ j, j < i → 0 ≤ zs.getD j 0 ∧ zs.getD j 0 ≤ 15) ∧ wr = w1) (fun _ ti _ => n - (intOf ti).toNat)
    case atStart => exact ⟨0, _, by omega, rfl, rfl, (by show _ ↔ _; simp; omega), rfl⟩
    case round =>
      obtain ⟨i, B, hin, rfl, rfl, HBI, hwr⟩ := hrel
      have hwr2 : w1 = wr := hwr.symm
      subst hwr2
      clear hwr
      by_cases hlt : i < n
      · have hlti : (i : Int) < (n : Int) := by omega
        have hiz : i < zs.length := by rw [HN.out]; exact hlt
        obtain ⟨b, off, rfl, c0⟩ := (show SegZ w1 a zs from HS1.out).at_ i hiz
        have HX : Hid (∀ B' : Bool, (B' = true ↔ B = true ∧ 0 ≤ zs.getD i 0 ∧ zs.getD i 0 ≤ 15) → (B' = true ↔ n ≤ 320 ∧ ∀ j, j < i + 1 → 0 ≤ zs.getD j 0 ∧ zs.getD j 0 ≤ 15)) := fun B' h => by
          rw [h, HBI.out]
          constructor
          · rintro ⟨⟨h1, h2⟩, h3⟩
            refine ⟨h1, fun j hj => ?_⟩
            by_cases e : j = i
            · subst e; exact h3
            · exact h2 j (by omega)
          · rintro ⟨h1, h2⟩
            exact ⟨⟨h1, fun j hj => h2 j (by omega)⟩, h2 i (by omega)⟩
        generalize zs.getD i 0 = z at *
        by_cases hBt : B = true
        · subst hBt
          by_cases g1 : 0 ≤ z
          · by_cases g2 : z ≤ 15
            · have HX2 : Hid (true = true ↔ n ≤ 320 ∧ ∀ j, j < i + 1 → 0 ≤ zs.getD j 0 ∧ zs.getD j 0 ≤ 15) := HX.out true (by simp [g1, g2])
              clear HX HBI
              go_wp2_with fail
              go_roundw
              case rel => exact ⟨i + 1, _, by omega, by go_num, rfl, HX2, trivial⟩
              case measure => simp [intOf]; omega
            · have HX2 : Hid (false = true ↔ n ≤ 320 ∧ ∀ j, j < i + 1 → 0 ≤ zs.getD j 0 ∧ zs.getD j 0 ≤ 15) := HX.out false (by simp [g1]; omega)
              clear HX HBI
              go_wp2_with fail
              go_roundw
              case rel => exact ⟨i + 1, _, by omega, by go_num, rfl, HX2, trivial⟩
              case measure => simp [intOf]; omega
          · have HX2 : Hid (false = true ↔ n ≤ 320 ∧ ∀ j, j < i + 1 → 0 ≤ zs.getD j 0 ∧ zs.getD j 0 ≤ 15) := HX.out false (by simp; omega)
            clear HX HBI
            go_wp2_with fail
            go_roundw
            case rel => exact ⟨i + 1, _, by omega, by go_num, rfl, HX2, trivial⟩
            case measure => simp [intOf]; omega
        · have hBF : B = false := by cases B; rfl; exact absurd rfl hBt
          subst hBF
          have HX2 : Hid (false = true ↔ n ≤ 320 ∧ ∀ j, j < i + 1 → 0 ≤ zs.getD j 0 ∧ zs.getD j 0 ≤ 15) := HX.out false (by simp)
          clear HX HBI
          go_wp2_with fail
          go_roundw
          case rel => exact ⟨i + 1, _, by omega, by go_num, rfl, HX2, trivial⟩
          case measure => simp [intOf]; omega
      · have hge : ¬ (i : Int) < (n : Int) := by omega
        have hin2 : i = n := by omega
        have hM : B = true ↔ may8 zs := by
          rw [HBI.out]
          constructor
          · rintro ⟨h1, h2⟩
            exact may8_all (by rw [HN.out]; exact h1) (fun j hj => h2 j (by rw [HN.out] at hj; omega))
          · intro h
            exact ⟨by have := h.1; rw [HN.out] at this; exact this, fun j hj => may8_at (by rw [HN.out]; omega) h⟩
        clear HBI
        by_cases hBt : B = true
        · subst hBt
          have hm := hM.1 rfl
          have hE0 : E = 0 := by rw [← HEE.out]; unfold rer8; rw [if_pos hm]
          have hL : lens8 R = some zs := by
            rw [← HRR.out]
            unfold rns8
            rw [if_pos hm]
            exact lens8_runs8 hm.2 hm.1
          have CL := plens8 R ba nR ca HNR w1 SA (by omega) T1
          rw [(lzs8_some hL).1, (lzs8_some hL).2] at CL
          subst hE0
          have hz9 : zs.length ≤ 9223372036854775807 := by rw [HN.out]; omega
          clear hM hm hL
          go_wp2_with fail
          refine CL.mono ?_
          rintro e w2 ⟨oa, oc, rfl, OO, B2⟩
          have SO : SegZ w2 oa zs := own_segZ OO (show SegZ w1 a zs from HS1.out).mem
          have x2 : Below w.heap.size w w2 := B1.trans (B2.mono B1.size)
          have CS := same8 oa a zs zs oc cap w2 SO ((show SegZ w1 a zs from HS1.out).old B2) hz9 hz9
          rw [show (zs == zs) = true by simp, HN.out] at CS
          rw [HN.out]
          clear OO CL
          go_wp2_with fail
          refine CS.mono ?_
          rintro e w3 ⟨rfl, B3⟩
          have x3 : Below w.heap.size w w3 := x2.trans (B3.mono x2.size)
          go_wp2_with fail
          refine (awake8 w3 (SegZ.old (SegZ.old T1 B2) B3)).mono ?_
          rintro e w4 ⟨rfl, B4⟩
          go_wp2_with fail
          go_ret
          exact ⟨rfl, x3.trans (B4.mono x3.size)⟩
        · have hBF : B = false := by cases B; rfl; exact absurd rfl hBt
          subst hBF
          have hm : ¬ may8 zs := fun h => by have := hM.2 h; cases this
          have hE0 : E = 80 := by rw [← HEE.out]; unfold rer8; rw [if_neg hm]
          have hR0 : nR = 0 := by
            rw [← HNR.out, ← HRR.out]
            unfold rns8
            rw [if_neg hm]
            rfl
          subst hE0
          subst hR0
          clear hM hm
          go_wp2_with fail
          refine (awake8 w1 T1).mono ?_
          rintro e w4 ⟨rfl, B4⟩
          go_wp2_with fail
          go_ret
          exact ⟨rfl, B1.trans (B4.mono B1.size)⟩
end Go.Proofs.YtoeabfcnfofbiabDoor
