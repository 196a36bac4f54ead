
import Derived.Test.YtoeabfcnfofbiaaDoorHdP2
import Derived.Test.YtoeabfcnfofbiaaDoorHdR4
namespace Go.Proofs.YtoeabfcnfofbiaaDoor
open Go.RowKit
set_option linter.unusedVariables false

/-! The landed head: stretch, spread. -/
theorem info_arun8 : (Tryd.prog.info? 38).map (fun i => (i.zero, i.size, i.bytes)) = some (some (.agg #[.int .i64 0, .int .i64 0]), 2, 16) := by kernel_rfl
set_option maxRecDepth 100000 in
set_option maxHeartbeats 2000000 in
theorem pstretch8 (zs : List Int) (a : Option Addr) (n cap : Nat) (hn : Hid (zs.length = n)) (w : World) (hs : SegZ w a zs) (h1 : 1 ≤ n) (hl : n ≤ 1000000) :
    Calls Tryd.prog 37 #[.slice a n cap] w fun e w' => e = .returned (.int .i64 (pre8 (zs.getD 0 0) zs : Int)) ∧ Below w.heap.size w w' := by
  have hpre0 : 1 ≤ pre8 (zs.getD 0 0) zs := by
    rw [pre8_iff]
    refine ⟨by rw [hn.out]; omega, fun j hj => ?_⟩
    obtain rfl : j = 0 := by omega
    rfl
  have hprl := pre8_le (zs.getD 0 0) zs
  rw [hn.out] at hprl
  have HGO : Hid (∀ k, k ≤ pre8 (zs.getD 0 0) zs → k < n → zs.getD k 0 = zs.getD 0 0 → k + 1 ≤ pre8 (zs.getD 0 0) zs) := fun k h1 h2 h3 => by
    rw [pre8_iff] at h1 ⊢
    refine ⟨by rw [hn.out]; omega, fun j hj => ?_⟩
    by_cases e : j = k
    · subst e; exact h3
    · exact h1.2 j (by omega)
  have HST : Hid (∀ k, k ≤ pre8 (zs.getD 0 0) zs → (n ≤ k ∨ zs.getD k 0 ≠ zs.getD 0 0) → k = pre8 (zs.getD 0 0) zs) := fun k h1 h2 => by
    by_cases e : k + 1 ≤ pre8 (zs.getD 0 0) zs
    · have h3 := (pre8_iff _ _ _).1 e
      have h4 := h3.2 k (by omega)
      rw [hn.out] at h3
      rcases h2 with h2 | h2
      · omega
      · exact absurd h4 h2
    · omega
  obtain ⟨b, off, rfl, c0⟩ := hs.at_ 0 (by rw [hn.out]; omega)
  have HS : Hid (SegZ w (some ⟨b, off, none⟩) zs) := hs
  clear hs
  generalize zs.getD 0 0 = v at *
  generalize pre8 v zs = K at *
  go_enter Tryd.func37, Tryd.ntmps37
  go_wp2_with fail
  go_loopw [3] (fun tk wr => ∃ k : Nat, 1 ≤ k ∧ k ≤ K ∧ tk = .int .i64 (k : Int) ∧ Below w.heap.size w wr) (fun tk _ => K - (intOf tk).toNat)
  case atStart => exact ⟨1, by omega, hpre0, rfl, Below.refl _ _⟩
  case round =>
    obtain ⟨k, hk1, hkK, rfl, BR⟩ := hrel
    have c00 := ((show SegZ w (some ⟨b, off, none⟩) zs from HS.out).old BR).at_
    have cz : wr.cell? ⟨b, off, none⟩ = some (.int .i64 v) := (BR.cell (p := ⟨b, off, none⟩) (World.block_lt_of_cell? w _ c0)).trans (by simpa using c0)
    by_cases hkn : k < n
    · have hki : (k : Int) < (n : Int) := by omega
      obtain ⟨b', off', e, cc⟩ := c00 k (by rw [hn.out]; exact hkn)
      cases e
      by_cases hzv : zs.getD k 0 = v
      · have HK2 := HGO.out k hkK hkn hzv
        rw [hzv] at cc
        clear HGO HST c00
        go_wp2_with fail
        go_region
        go_wp2_with fail
        go_roundw
        case rel => exact ⟨k + 1, by omega, HK2, by go_num, BR.drew⟩
        case measure => simp [intOf]; omega
      · have hkE := HST.out k hkK (.inr hzv)
        have hzb : (zs.getD k 0 == v) = false := by rw [beq_eq_false_iff_ne]; exact hzv
        generalize zs.getD k 0 = z at *
        clear HGO HST c00
        subst hkE
        go_wp2_with fail
        go_region
        go_wp2_with fail
        go_ret
        exact ⟨rfl, BR.drew⟩
    · have hki : ¬ (k : Int) < (n : Int) := by omega
      have hkE := HST.out k hkK (.inl (by omega))
      clear HGO HST c00
      subst hkE
      go_wp2_with fail
      go_region
      go_wp2_with fail
      go_ret
      exact ⟨rfl, BR.drew⟩
end Go.Proofs.YtoeabfcnfofbiaaDoor
