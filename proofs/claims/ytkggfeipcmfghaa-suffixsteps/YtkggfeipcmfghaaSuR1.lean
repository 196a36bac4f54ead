
import Derived.Test.YtkggfeipcmfghaaSuL1
import Derived.Test.YtkggfeipcmfghaaSuM2
import Derived.Test.YtkggfeipcmfghaaSame
namespace Go.Proofs.Ytkggfeipcmfghaa
open Go.RowKit
set_option linter.unusedVariables false

/-! The document's Array. -/
theorem drewN13 (w : World) (a b : Nat) : (w.drewN a).drewN b = w.drewN (a + b) := by simp [World.drewN, Nat.add_assoc]
theorem nz13 (A : List Nat) : A.map (fun j : Nat => (j : Int)) = nz12 A := rfl
theorem drop_bd13 {z : List Int} (h : ∀ y ∈ z, 0 ≤ y ∧ y ≤ 255) (i : Nat) : ∀ y ∈ z.drop i, 0 ≤ y ∧ y ≤ 255 := fun y hy => h y (List.mem_of_mem_drop hy)
set_option maxRecDepth 100000 in
set_option maxHeartbeats 4000000 in
theorem rarr13 (a : Option Addr) (z : List Int) (n ca : Nat) (A : List Nat) (w : World) (hs : Seg w a z) (hc : n ≤ ca) (hn : Hid (z.length = n)) (hA : Ar12 n (S12 z) A) (hb : n ≤ 16777216) :
    Calls Try.prog 46 #[.slice a n ca] w fun e w' => e = .returned (.slice (some ⟨w.heap.size, 0, none⟩) n n) ∧ Rz12 w' w.heap.size (nz12 A) ∧ Below w.heap.size w w' := by
  have HM := run_make_i12 n (by omega) w
  have hal : Below w.heap.size w (w.alloc (.cells (vi12 (List.replicate n 0)) 3)) := (Below.refl _ _).alloc (Nat.le_refl _) _
  have hr0 := Rz12.new w (List.replicate n 0)
  rw [← ap13_zero n A] at hal hr0 HM
  have HAL : Hid (ap13 n A n = nz12 A) := ap13_all hA
  have HAR : Hid (Ar12 n (S12 z) A) := hA
  have HAZ : Hid (Ar12 z.length (S12 z) A) := by show Ar12 _ _ _; rw [hn.out]; exact hA
  have HSD : Hid (∀ w', Below w.heap.size w w' → Seg w' a z) := fun w' b => hs.old b
  have HV : Hid (∀ y ∈ z, 0 ≤ y ∧ y ≤ 255) := seg_bd13 hs
  clear hs hA
  generalize hg : w.heap.size = g at *
  generalize hw1 : w.alloc (.cells (vi12 (ap13 n A 0)) 3) = w1 at *
  have HG : Hid (w.heap.size = g) := hg
  clear hg hw1
  go_enter Try.func46, Try.ntmps46
  go_wp2_with fail
  go_loopw [12] (fun ti wr => ∃ i : Nat, i ≤ n ∧ ti = .int .i64 i ∧ Rz12 wr g (ap13 n A i) ∧ Below g w wr) (fun ti _ => n - (intOf ti).toNat)
  case atStart => exact ⟨0, Nat.zero_le _, rfl, hr0, hal⟩
  case round =>
    obtain ⟨i, hi, rfl, hR, hb2⟩ := hrel
    rename World => wo
    by_cases h1 : i < n
    · have h1i : (i : Int) < (n : Int) := by omega
      obtain ⟨xb, off, rfl, -⟩ := (HSD.out wo hb2).at_ i (by rw [hn.out]; exact h1)
      have hs := HSD.out wo hb2
      have hrk := (HAR.out.rk h1).1
      have HCT : Hid (ct13 z i n = rk13 A i) := by
        show _ = _
        rw [← hn.out]
        exact ct13_rk HAZ.out (by rw [hn.out]; exact h1)
      have HCB : Hid (∀ k, ct13 z i k ≤ k) := ct13_le z i
      have HC0 : Hid (ct13 z i 0 = 0) := rfl
      have k1 := hR.cell (i := rk13 A i) (by rw [ap13_len]; exact hrk)
      have k2 := hR.free (rk13 A i)
      have HS1 : Hid (∀ d, Rz12 ((wo.drewN d).setCell ⟨g, rk13 A i, none⟩ (.int .i64 (i : Int))) g (ap13 n A (i + 1)) ∧ Below g w ((wo.drewN d).setCell ⟨g, rk13 A i, none⟩ (.int .i64 (i : Int)))) := by
        intro d
        have h5 := (hR.drewN d).set (rk13 A i) (i : Int)
        rw [ap13_set HAR.out h1] at h5
        have hbd : Below g w (wo.drewN d) := ⟨hb2.os, hb2.tape, hb2.output, hb2.size, hb2.block⟩
        exact ⟨h5, hbd.trans ((Kp.set (S := fun q => q = g) rfl _).below (fun q h => by omega) (by have h7 := hR.lt; show g ≤ wo.heap.size; omega))⟩
      have HCV : Hid (∀ j d, (convert 36 9 (.slice (some ⟨xb, off + j, none⟩) (n - j) (ca - j))).run Try.prog (wo.drewN d) = .ok (.string (strOfNums (z.drop j))) (wo.drewN d)) := by
        intro j d
        have h8 := run_conv_segS (P := Try.prog) (ca - j) ((hs.drewN d).drop j) 36 5 9 Try.underlying36 Try.underlying5 Try.underlying9
        rw [List.length_drop, hn.out] at h8
        exact h8
      generalize (ap13 n A i).getD (rk13 A i) 0 = y at *
      clear hs hR
      have HWR : Hid (∀ d, (wo.drewN d).cell? ⟨g, rk13 A i, none⟩ = some (.int .i64 y) ∧ (wo.drewN d).frozen? ⟨g, rk13 A i, none⟩ = false) := fun d => ⟨k1, k2⟩
      go_wp2_with fail
      go_loopw [5, 17] (fun tc tk wr => ∃ k c : Nat, k ≤ n ∧ tc = .int .i64 c ∧ tk = .int .i64 k ∧ Hid (c = ct13 z i k) ∧ ∃ d, wr = wo.drewN d) (fun _ tk _ => n - (intOf tk).toNat)
      case atStart => exact ⟨0, 0, Nat.zero_le _, rfl, rfl, HC0.out.symm, 0, rfl⟩
      case round =>
        obtain ⟨k, c, hk, rfl, rfl, HC, d, hd⟩ := hrel
        have hcb : c ≤ k := by rw [HC.out]; exact HCB.out k
        by_cases hk1 : k < n
        · have hk1i : (k : Int) < (n : Int) := by omega
          have HCW : Hid (∀ j d2, (convert 36 9 (.slice (some ⟨xb, off + j, none⟩) (n - j) (ca - j))).run Try.prog (wr.drewN d2) = .ok (.string (strOfNums (z.drop j))) (wr.drewN d2)) := by
            intro j d2
            rw [hd]
            rw [drewN13]
            exact HCV.out j (d + d2)
          have y1 := HCW.out k
          have y2 := HCW.out i
          have HD : Hid (∀ d2, ∃ d3, wr.drewN d2 = wo.drewN d3) := fun d2 => ⟨d + d2, by rw [hd, drewN13]⟩
          clear hd
          have l1 : k ≤ n := by omega
          have l2 : i ≤ n := by omega
          have l3 : ¬ ca = k := by omega
          have l4 : ¬ ca = i := by omega
          by_cases hll : LL12 (z.drop k) (z.drop i)
          · have hbl := sl13 (drop_bd13 HV.out k) (drop_bd13 HV.out i) hll
            have HN2 : Hid (c + 1 = ct13 z i (k + 1)) := by show _ = _; rw [ct13_yes hll, HC.out]
            clear hll
            generalize strOfNums (z.drop k) = s1 at *
            generalize strOfNums (z.drop i) = s2 at *
            go_wp2_with fail
            go_quiet (fail)
            go_wp2_with fail
            go_roundw
            case rel => exact ⟨k + 1, c + 1, by omega, by go_num, by go_num, HN2, HD.out _⟩
            case measure => simp [intOf]; omega
          · have hbl := sln13 (drop_bd13 HV.out k) (drop_bd13 HV.out i) hll
            have HN2 : Hid (c = ct13 z i (k + 1)) := by show _ = _; rw [ct13_no hll, HC.out]
            clear hll
            generalize strOfNums (z.drop k) = s1 at *
            generalize strOfNums (z.drop i) = s2 at *
            go_wp2_with fail
            go_quiet (fail)
            go_wp2_with fail
            go_roundw
            case rel => exact ⟨k + 1, c, by omega, by go_num, by go_num, HN2, HD.out _⟩
            case measure => simp [intOf]; omega
        · have hk1i : ¬ (k : Int) < (n : Int) := by omega
          obtain rfl : k = n := by omega
          have HE : Hid (c = rk13 A i) := by show _ = _; rw [HC.out, HCT.out]
          have hcn : (c : Int) < (k : Int) := by have := HE.out; omega
          obtain ⟨k3, k4⟩ := HWR.out d
          have HS2 := HS1.out d
          rw [← HE.out] at k3 k4 HS2
          rw [← hd] at k3 k4 HS2
          have HS3 : Hid (Rz12 (wr.setCell ⟨g, c, none⟩ (.int .i64 (i : Int))) g (ap13 k A (i + 1)) ∧ Below g w (wr.setCell ⟨g, c, none⟩ (.int .i64 (i : Int)))) := HS2
          clear HS2 hd HE HC HCT HS1 k1 k2
          go_wp2_with fail
          go_roundw
          case rel => exact ⟨i + 1, by omega, by go_num, HS3.out.1, HS3.out.2⟩
          case measure => simp [intOf]; omega
    · have h1i : ¬ (i : Int) < (n : Int) := by omega
      obtain rfl : i = n := by omega
      rw [HAL.out] at hR
      go_wp2_with fail
      go_ret
      exact ⟨rfl, hR, hb2⟩
end Go.Proofs.Ytkggfeipcmfghaa
