
import Derived.Test.YtbgnlbgoeogbaaaSaL1
namespace Go.Proofs.Ytbgnlbgoeogbaaa
open Go.RowKit
set_option linter.unusedVariables false

/-! The law's words and less. -/
def wds12 (z : List Int) (k : Nat) : List Int := (z.take k) ++ List.replicate (z.length - k) 0
theorem wds12_len (z : List Int) (k : Nat) (h : k ≤ z.length) : (wds12 z k).length = z.length := by simp [wds12]; omega
theorem wds12_zero (z : List Int) : wds12 z 0 = List.replicate z.length 0 := by simp [wds12]
theorem wds12_all (z : List Int) : wds12 z z.length = z := by simp [wds12]
theorem wds12_set (z : List Int) (k : Nat) (h : k < z.length) : (wds12 z k).set k (z.getD k 0) = wds12 z (k + 1) := by
  unfold wds12
  have e : z.length - k = (z.length - (k + 1)) + 1 := by omega
  rw [e, List.replicate_succ, List.set_append_right _ _ (by simp; omega), take_snocZ h]
  have : k - (z.take k).length = 0 := by simp; omega
  rw [this, List.set_cons_zero, List.append_assoc]
  rfl
set_option maxRecDepth 100000 in
set_option maxHeartbeats 2000000 in
theorem pwds12 (a : Option Addr) (z : List Int) (n cap : Nat) (w : World) (hs : Seg w a z) (hn : Hid (z.length = n)) (hb : n ≤ 16777216000) :
    Calls Try.prog 18 #[.slice a n cap] w fun e w' => e = .returned (.tuple #[.int .i64 ((mx12 z : Nat) : Int), .slice (some ⟨w.heap.size, 0, none⟩) n n]) ∧ Rz12 w' w.heap.size z ∧ Below w.heap.size w w' := by
  have HM := run_make_i12 n (by omega) w
  have hal : Below w.heap.size w (w.alloc (.cells (vi12 (List.replicate n 0)) 3)) := (Below.refl _ _).alloc (Nat.le_refl _) _
  have hr0 := Rz12.new w (List.replicate n 0)
  have HZ : Hid (List.replicate n (0 : Int) = wds12 z 0) := by show _ = _; rw [wds12_zero, hn.out]
  have HWA : Hid (wds12 z n = z ∧ mx12 (z.take n) = mx12 z) := ⟨by rw [← hn.out]; exact wds12_all z, by rw [← hn.out, List.take_length]⟩
  rw [HZ.out] at hal hr0 HM
  have HL : Hid (∀ i, i < n → mx12 (z.take (i + 1)) = max (mx12 (z.take i)) (z.getD i 0 + 1).toNat) := by
    intro i hi
    rw [take_snocZ (by rw [hn.out]; exact hi), mx12_snoc]
  have HSD : Hid (∀ w', Below w.heap.size w w' → Seg w' a z) := fun w' b => hs.old b
  have HVB : Hid (∀ i, 0 ≤ z.getD i 0 ∧ z.getD i 0 ≤ 255) := hs.bd
  have HKB : Hid (∀ i, mx12 (z.take i) ≤ 256) := fun i => mx12_le (fun y hy => by
    obtain ⟨q, hq, rfl⟩ := List.mem_iff_getElem.1 (List.mem_of_mem_take hy)
    have := hs.bd q
    have e : z.getD q 0 = z[q] := by simp [List.getD, hq]
    rw [e] at this
    omega)
  clear hs
  generalize hg : w.heap.size = g at *
  generalize hw1 : w.alloc (.cells (vi12 (wds12 z 0)) 3) = w1 at *
  have HG : Hid (w.heap.size = g) := hg
  clear hg hw1
  go_enter Try.func18, Try.ntmps18
  go_wp2_with fail
  go_loopw [4, 6] (fun tk ti wr => ∃ i k : Nat, i ≤ n ∧ ti = .int .i64 i ∧ tk = .int .i64 k ∧ Hid (k = mx12 (z.take i)) ∧ Rz12 wr g (wds12 z i) ∧ Below g w wr) (fun _ ti _ => n - (intOf ti).toNat)
  case atStart => exact ⟨0, 0, Nat.zero_le _, rfl, rfl, (by simp [mx12] : _ = _), hr0, hal⟩
  case round =>
    obtain ⟨i, k, hi, rfl, rfl, HI, hR, hb2⟩ := hrel
    by_cases h1 : i < n
    · have h1i : (i : Int) < (n : Int) := by omega
      obtain ⟨bb, off, rfl, c1⟩ := (HSD.out wr hb2).at_ i (by rw [hn.out]; exact h1)
      have hv := HVB.out i
      have HI3 : Hid (mx12 (z.take (i + 1)) = max k (z.getD i 0 + 1).toNat) := by show _ = _; rw [HL.out i h1, HI.out]
      have hk2 : (k : Int) ≤ 256 := by have := HKB.out i; have := HI.out; omega
      have k1 := hR.cell (i := i) (by rw [wds12_len z i (by rw [hn.out]; omega), hn.out]; exact h1)
      have k2 := hR.free i
      have HS1 : Hid (Rz12 (wr.setCell ⟨g, i, none⟩ (.int .i64 (z.getD i 0))) g (wds12 z (i + 1))) := by
        have := hR.set i (z.getD i 0)
        rw [wds12_set z i (by rw [hn.out]; exact h1)] at this
        exact this
      have HS4 : Hid (Below g w (wr.setCell ⟨g, i, none⟩ (.int .i64 (z.getD i 0)))) := hb2.trans ((Kp.set (S := fun j => j = g) rfl _).below (fun j h => by omega) (by have := hR.lt; omega))
      clear hR
      generalize (wds12 z i).getD i 0 = y at *
      generalize z.getD i 0 = v at *
      by_cases hkv : (k : Int) < v + 1
      · go_wp2_with fail
        go_roundw
        case rel => exact ⟨i + 1, (v + 1).toNat, by omega, by go_num, by go_num, (by rw [HI3.out]; omega : _ = _), HS1.out, HS4.out⟩
        case measure => simp [intOf]; omega
      · go_wp2_with fail
        go_roundw
        case rel => exact ⟨i + 1, k, by omega, by go_num, by go_num, (by rw [HI3.out]; omega : _ = _), HS1.out, HS4.out⟩
        case measure => simp [intOf]; omega
    · have h1i : ¬ (i : Int) < (n : Int) := by omega
      obtain rfl : i = n := by omega
      rw [HWA.out.1] at hR
      have HKE : Hid (k = mx12 z) := by show _ = _; rw [HI.out, HWA.out.2]
      go_wp2_with fail
      refine bodyPost_ret (results_tmp2 rfl _ _ _) rfl ?_
      refine ⟨?_, hR, hb2⟩
      rw [← HKE.out]
      rfl
def LsQ12 (w : World) (P : Prop) (e : Ending) (w' : World) : Prop := ∃ B : Bool, e = .returned (.bool B) ∧ (B = true ↔ P) ∧ ∃ d, w' = w.drewN d
theorem ref12_words {z : List Int} {n : Nat} (hn : z.length = n) (hv : ∀ y ∈ z, 0 ≤ y ∧ y ≤ 255) : ref12 ((mx12 z : Nat) : Int) z = if 16777216 < n then 120 else 0 := by
  have h1 : mx12 z ≤ 256 := mx12_le (fun y hy => by have := hv y hy; omega)
  unfold ref12
  rw [if_neg (by omega), hn]
  have h2 : vals12 ((mx12 z : Nat) : Int) z = true := by
    unfold vals12
    rw [List.all_eq_true]
    intro y hy
    have := hv y hy
    have := mx12_gt y hy
    simp only [Bool.and_eq_true, decide_eq_true_eq]
    omega
  unfold rv12
  rw [h2]
  rfl
end Go.Proofs.Ytbgnlbgoeogbaaa
