
import Derived.Test.YtoeabfcnfofbiaaDoorHdP5
import Derived.Test.YtoeabfcnfofbiaaDoorHdR7
import Derived.Test.YtoeabfcnfofbiaaDoorCdF
namespace Go.Proofs.YtoeabfcnfofbiaaDoor
open Go.RowKit
set_option linter.unusedVariables false

/-! The landed head: tellable. -/
set_option maxRecDepth 100000 in
set_option maxHeartbeats 4000000 in
theorem ptell8 (xs ys : List Int) (a b : Option Addr) (n m ca cb : Nat) (hn : Hid (xs.length = n)) (hm : Hid (ys.length = m)) (w : World) (hx : SegZ w a xs) (hy : SegZ w b ys) :
    Calls Tryd.prog 63 #[.slice a n ca, .slice b m cb] w fun e w' => e = .returned (.bool (decide (tld8 errC xs ys))) ∧ Below w.heap.size w w' := by
  have HX : Hid (SegZ w a xs) := hx
  have HY : Hid (SegZ w b ys) := hy
  have HT : Hid (tld8 errC xs ys ↔ 257 ≤ n ∧ n ≤ 286 ∧ m ≤ 30 ∧ errC xs = 0 ∧ errC ys = 0 ∧ xs.getD 256 0 ≠ 0) := by
    unfold tld8
    rw [hn.out, hm.out]
    exact Iff.rfl
  have HF : Hid (¬ (257 ≤ n ∧ n ≤ 286 ∧ m ≤ 30 ∧ errC xs = 0 ∧ errC ys = 0 ∧ xs.getD 256 0 ≠ 0) → decide (tld8 errC xs ys) = false) := fun h => by
    simp only [decide_eq_false_iff_not]
    exact fun h' => h (HT.out.1 h')
  clear hx hy
  by_cases h1 : n < 257
  · have h1i : (n : Int) < 257 := by omega
    have HE : Hid (decide (tld8 errC xs ys) = false) := HF.out (by omega)
    clear HT HF
    go_enter Tryd.func63, Tryd.ntmps63
    go_wp2_with fail
    go_ret
    exact ⟨by rw [HE.out]; rfl, Below.refl _ _⟩
  have h1i : ¬ (n : Int) < 257 := by omega
  by_cases h2 : 286 < n
  · have h2i : 286 < (n : Int) := by omega
    have HE : Hid (decide (tld8 errC xs ys) = false) := HF.out (by omega)
    clear HT HF
    go_enter Tryd.func63, Tryd.ntmps63
    go_wp2_with fail
    go_ret
    exact ⟨by rw [HE.out]; rfl, Below.refl _ _⟩
  have h2i : ¬ 286 < (n : Int) := by omega
  by_cases h3 : 30 < m
  · have h3i : 30 < (m : Int) := by omega
    have HE : Hid (decide (tld8 errC xs ys) = false) := HF.out (by omega)
    clear HT HF
    go_enter Tryd.func63, Tryd.ntmps63
    go_wp2_with fail
    go_ret
    exact ⟨by rw [HE.out]; rfl, Below.refl _ _⟩
  have h3i : ¬ 30 < (m : Int) := by omega
  have C1 := check_any a xs n ca hn w HX.out (by omega)
  by_cases h4 : errC xs = 0
  · have C2 : Hid (∀ W, Below w.heap.size w W → Calls Tryd.prog 87 #[.slice b m cb] W fun e w' => e = .returned (.int .i64 (errC ys)) ∧ Below W.heap.size W w') := fun W hW => check_any b ys m cb hm W ((show SegZ w b ys from HY.out).old hW) (by omega)
    rw [h4] at C1
    by_cases h5 : errC ys = 0
    · have hg : 256 < xs.length := by rw [hn.out]; omega
      obtain ⟨g, off, rfl, c0⟩ := (show SegZ w a xs from HX.out).at_ 256 hg
      have HG : Hid (∀ W, Below w.heap.size w W → W.cell? ⟨g, off + 256, none⟩ = some (.int .i64 (xs.getD 256 0))) := fun W hW => (hW.cell (p := ⟨g, off + 256, none⟩) (World.block_lt_of_cell? w _ c0)).trans c0
      have HE : Hid (decide (tld8 errC xs ys) = decide (xs.getD 256 0 ≠ 0)) := by
        show _ = _
        rw [decide_eq_decide, HT.out]
        constructor
        · exact fun h => h.2.2.2.2.2
        · exact fun h => ⟨by omega, by omega, by omega, h4, h5, h⟩
      rw [h5] at C2
      generalize xs.getD 256 0 = z at *
      have h256 : (256 : Int) < (n : Int) := by omega
      clear HT HF
      go_enter Tryd.func63, Tryd.ntmps63
      go_wp2_with fail
      refine C1.mono ?_
      rintro e w1 ⟨rfl, B1⟩
      go_wp2_with fail
      refine (C2.out w1 B1).mono ?_
      rintro e w2 ⟨rfl, B2⟩
      have B3 := B1.trans (B2.mono B1.size)
      have c2 := HG.out w2 B3
      by_cases hz : z = 0
      · subst hz
        go_wp2_with fail
        go_ret
        exact ⟨by rw [HE.out]; rfl, B3⟩
      · have hzb : (z == 0) = false := by simpa using hz
        go_wp2_with fail
        go_ret
        refine ⟨?_, B3⟩
        rw [HE.out, decide_eq_true hz]
        have hzn : (z != 0) = true := by simpa using hz
        show Ending.returned (Value.bool (z != 0)) = _
        rw [hzn]
    · have HE : Hid (decide (tld8 errC xs ys) = false) := HF.out (fun h => h5 h.2.2.2.2.1)
      have h5b : (errC ys == 0) = false := by simpa using h5
      clear HT HF
      generalize errC ys = z at *
      go_enter Tryd.func63, Tryd.ntmps63
      go_wp2_with fail
      refine C1.mono ?_
      rintro e w1 ⟨rfl, B1⟩
      go_wp2_with fail
      refine (C2.out w1 B1).mono ?_
      rintro e w2 ⟨rfl, B2⟩
      have B3 := B1.trans (B2.mono B1.size)
      go_wp2_with fail
      go_ret
      exact ⟨by rw [HE.out]; rfl, B3⟩
  · have HE : Hid (decide (tld8 errC xs ys) = false) := HF.out (fun h => h4 h.2.2.2.1)
    have h4b : (errC xs == 0) = false := by simpa using h4
    clear HT HF
    generalize errC xs = z at *
    go_enter Tryd.func63, Tryd.ntmps63
    go_wp2_with fail
    refine C1.mono ?_
    rintro e w1 ⟨rfl, B1⟩
    go_wp2_with fail
    go_ret
    exact ⟨by rw [HE.out]; rfl, B1⟩
end Go.Proofs.YtoeabfcnfofbiaaDoor
