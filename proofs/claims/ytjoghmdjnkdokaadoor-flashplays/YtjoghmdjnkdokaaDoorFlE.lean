
import Derived.Test.YtjoghmdjnkdokaaDoorFlD
namespace Go.Proofs.YtjoghmdjnkdokaaDoor
open Go.RowKit
set_option linter.unusedVariables false
set_option linter.unusedSimpArgs false

/-! bytes.Repeat of one byte: the whole. -/
/-- Block g begins with the bytes zs. -/
def Rw21 (w : World) (g : Nat) (zs : List Int) : Prop := ∃ X : List Int, w.heap[g]? = some (.cells ((zs ++ X).map (Value.int .u8)).toArray 5 (0, 0))
theorem sp21_app (zs X : List Int) (off : Nat) (cs : List Int) (h : off + cs.length ≤ zs.length) : sp21 (zs ++ X) off cs = sp21 zs off cs ++ X := by
  unfold sp21
  rw [List.take_append_of_le_length (by omega), List.drop_append_of_le_length (by omega)]
  simp
theorem sp21_rep (k m : Nat) (x : Int) (Y : List Int) (h : m ≤ Y.length) : sp21 (List.replicate k x ++ Y) k (List.replicate m x) = List.replicate (k + m) x ++ Y.drop m := by
  unfold sp21
  have e1 : (List.replicate k x ++ Y).take k = List.replicate k x := by rw [List.take_append_of_le_length (by simp)]; simp
  have e2 : (List.replicate k x ++ Y).drop (k + (List.replicate m x).length) = Y.drop m := by
    rw [List.drop_append]
    simp
  rw [e1, e2, ← List.replicate_append_replicate]
theorem seg_rep21 {w : World} {g : Nat} {x : Int} {k m : Nat} {Y : List Int} (hg : w.heap[g]? = some (.cells ((List.replicate k x ++ Y).map (Value.int .u8)).toArray 5 (0, 0))) (hx : 0 ≤ x ∧ x ≤ 255) (hm : m ≤ k) : Seg w (some ⟨g, 0, none⟩) (List.replicate m x) := by
  refine ⟨fun i hi => ⟨g, 0, rfl, ?_⟩, by decide, getD_bd (by decide) (fun y hy => by rw [List.eq_of_mem_replicate hy]; exact hx)⟩
  have hi' : i < m := by simpa using hi
  have hk : i < k := by omega
  simp [World.cell?, hg, List.getD, hi', List.getElem?_append, hk]
def RpI21 (g n T : Nat) (x : Int) (w0 w : World) (k : Nat) : Prop := ∃ Y : List Int, k + Y.length = T ∧ w.heap[g]? = some (.cells ((List.replicate k x ++ Y).map (Value.int .u8)).toArray 5 (0, 0)) ∧ Below g w0 w
theorem RpI21.step {g n T k m : Nat} {x : Int} {w0 w w' : World} {Y : List Int} (hY : k + Y.length = T) (hB : Below g w0 w) (hm : m ≤ Y.length) (h1 : w'.heap[g]? = some (.cells ((sp21 (List.replicate k x ++ Y) k (List.replicate m x)).map (Value.int .u8)).toArray 5 (0, 0))) (h2 : Kp (fun j => j = g) w w') (hg : g ≤ w.heap.size) : RpI21 g n T x w0 w' (k + m) := by
  rw [sp21_rep k m x Y hm] at h1
  exact ⟨Y.drop m, by simp; omega, h1, hB.trans (h2.below (fun i e => by omega) hg)⟩
set_option maxRecDepth 100000 in
set_option maxHeartbeats 4000000 in
theorem prep21 (a : Option Addr) (c n : Nat) (x : Int) (w : World) (hs : Seg w a [x]) (hn : n ≤ 16777216) :
    Calls Tryd.prog 57 #[.slice a 1 c, .int .i64 (n : Int)] w fun e w' => e = .returned (.slice (some ⟨w.heap.size, 0, none⟩) n n) ∧ Rw21 w' w.heap.size (List.replicate n x) ∧ Below w.heap.size w w' := by
  by_cases h0 : n = 0
  · subst h0
    have HB : Below w.heap.size w (w.alloc (.cells #[] 5)) := (Below.refl _ _).alloc (Nat.le_refl _) _
    have HH : (w.alloc (.cells #[] 5)).heap[w.heap.size]? = some (.cells #[] 5 (0, 0)) := heap_alloc_new w _
    go_enter Tryd.func57, Tryd.ntmps57
    go_wp2_with fail
    go_ret
    exact ⟨rfl, ⟨[], by simpa using HH⟩, HB⟩
  · have hx : 0 ≤ x ∧ x ≤ 255 := hs.mem x (by simp)
    obtain ⟨X, hXn, hrun⟩ := run_mnz21 n (by omega) w
    obtain ⟨g, hg⟩ : ∃ g, g = w.heap.size := ⟨_, rfl⟩
    obtain ⟨w1, hw1⟩ : ∃ w1, w1 = (w.alloc (.cells (X.map (Value.int .u8)).toArray 5)).drewN 2 := ⟨_, rfl⟩
    have hh1 : w1.heap[g]? = some (.cells (X.map (Value.int .u8)).toArray 5 (0, 0)) := by rw [hw1, hg]; exact heap_alloc_new w _
    have hb1 : Below g w w1 := by rw [hw1, hg]; exact below_drewN21 ((Below.refl _ _).alloc (Nat.le_refl _) _) _
    have hs1 : Seg w1 a [x] := by rw [hw1]; exact (hs.alloc _).drewN _
    have hsz : g ≤ w1.heap.size := by rw [hg]; exact hb1.size
    rw [← hw1, ← hg] at hrun
    rw [← hg]
    have HM := pmul21 n (by omega)
    have wn : IntKind.u64.wrap (n : Int) = (n : Int) := IntWalk.u64_in _ (by omega)
    have wi : IntKind.i64.wrap (n : Int) = (n : Int) := IntWalk.i64_in _ (by omega)
    have n0 : ¬ (n : Int) = 0 := by omega
    have n0' : ((n : Int) == 0) = false := by simp; omega
    have n1 : ¬ (n : Int) < 0 := by omega
    have n2 : ¬ (9223372036854775807 : Int) < (n : Int) := by omega
    have n3 : (n : Int) ≤ (X.length : Int) := by omega
    have hHg : Hid (g = w.heap.size) := hg
    have hHX : Hid (n ≤ X.length) := hXn
    obtain ⟨XL, hXL⟩ : ∃ XL, XL = X.length := ⟨_, rfl⟩
    rw [← hXL] at hrun n3
    clear hs hg hw1
    go_enter Tryd.func57, Tryd.ntmps57
    go_wp2_with fail
    refine (HM _).mono ?_
    rintro e w2 ⟨rfl, hw⟩
    subst hw
    by_cases hbig : 8192 < n
    · have hb8 : (8192 : Int) < (n : Int) := by omega
      go_wp2_with (first
        | (refine wpList_copy21 rfl (.tmp 58) (.tmp 59) 22 22 rfl 5 Tryd.underlying22 size_y21 rfl rfl g 0 X 5 hh1 [x] 1 rfl (by show 1 = min _ _; omega) (fun _ => ⟨rfl, hs1⟩) (by omega) ?_; intro w3 h3 k3))
      have HI : RpI21 g n X.length x w2 w3 1 := ⟨X.drop 1, by simp; omega, by have e : sp21 X 0 [x] = List.replicate 1 x ++ X.drop 1 := by simp [sp21]
                                                                              rw [← e]; exact h3.out, hb1.trans (k3.below (fun i e => by omega) hsz)⟩
      clear h3 k3 hrun hh1 hs1 hb1 hsz n0' n3 wn wi
      go_loopw [10] (fun tb wr => ∃ k : Nat, 1 ≤ k ∧ k ≤ n ∧ tb = .int .i64 (k : Int) ∧ RpI21 g n X.length x w2 wr k) (fun tb _ => n - (intOf tb).toNat)
      case atStart => exact ⟨1, by omega, by omega, rfl, HI⟩
      case round =>
        obtain ⟨k, hk1, hkn, rfl, hI⟩ := hrel
        obtain ⟨Y, hY, hh, hB⟩ := hI
        have hgs : g ≤ wr.heap.size := Nat.le_of_lt (Array.getElem?_eq_some_iff.1 hh).1
        by_cases hlt : k < n
        · have hlti : (k : Int) < (n : Int) := by omega
          obtain ⟨m, hm⟩ : ∃ m, m = min k 8192 := ⟨_, rfl⟩
          have hmin : (if (8192 : Int) < (k : Int) then (8192 : Int) else (k : Int)) = (m : Int) := by split <;> omega
          have hmn : m ≤ n := by omega
          have hmni : (m : Int) ≤ (n : Int) := by omega
          obtain ⟨q, hq⟩ : ∃ q, q = min m (n - k) := ⟨_, rfl⟩
          have hkq : IntKind.i64.wrap ((k : Int) + (q : Int)) = ((k + q : Nat) : Int) := by rw [IntWalk.i64_in _ (by omega)]; omega
          have hkm : ¬ n = k := by omega
          have HQ : Hid (q = min m (n - k)) := hq
          have HM2 : Hid (m = min k 8192) := hm
          have HY : Hid (k + Y.length = X.length) := hY
          have hqY : q ≤ Y.length := by omega
          have hmk : m ≤ k := by omega
          have hqk : q ≤ k := by omega
          have hq0 : 1 ≤ q := by omega
          have hqn : k + q ≤ n := by omega
          clear hq hm hY HI hXL n1 n2
          go_wp2_with fail
          go_region_held3 (fun _ => True) (trivial)
            (first | (refine step_copy21 rfl (.tmp 70) (.tmp 73) 22 22 rfl 5 Tryd.underlying22 size_y21 rfl rfl g k (List.replicate k x ++ Y) 5 (by exact hh) (List.replicate q x) q (by simp) (by have h1 := HQ.out; have h2 := HM2.out; show q = min _ _; omega) (fun _ => ⟨by first | rfl | (simp; done) | (rw [if_neg hkm]; simp), (seg_rep21 hh hx hqk).drew⟩) (by simp; omega) ?_; intro w4 h4 k4))
          all_goals
            go_wp2_with fail
            go_roundw
            case rel => exact ⟨k + q, by omega, hqn, by go_num, RpI21.step HY.out hB hqY h4.out ⟨k4.os, k4.tape, k4.output, k4.size, k4.block⟩ hgs⟩
            case measure => simp [intOf]; omega
        · obtain rfl : k = n := by omega
          have hlti : ¬ (k : Int) < (k : Int) := by omega
          clear HI hlt
          go_wp2_with fail
          go_ret
          exact ⟨rfl, ⟨Y, hh⟩, hHg.out ▸ hB⟩
    · have hb8 : ¬ (8192 : Int) < (n : Int) := by omega
      go_wp2_with (first
        | (refine wpList_copy21 rfl (.tmp 58) (.tmp 59) 22 22 rfl 5 Tryd.underlying22 size_y21 rfl rfl g 0 X 5 hh1 [x] 1 rfl (by show 1 = min _ _; omega) (fun _ => ⟨rfl, hs1⟩) (by omega) ?_; intro w3 h3 k3))
      have HI : RpI21 g n X.length x w2 w3 1 := ⟨X.drop 1, by simp; omega, by have e : sp21 X 0 [x] = List.replicate 1 x ++ X.drop 1 := by simp [sp21]
                                                                              rw [← e]; exact h3.out, hb1.trans (k3.below (fun i e => by omega) hsz)⟩
      clear h3 k3 hrun hh1 hs1 hb1 hsz n0' n3 wn wi
      go_loopw [10] (fun tb wr => ∃ k : Nat, 1 ≤ k ∧ k ≤ n ∧ tb = .int .i64 (k : Int) ∧ RpI21 g n X.length x w2 wr k) (fun tb _ => n - (intOf tb).toNat)
      case atStart => exact ⟨1, by omega, by omega, rfl, HI⟩
      case round =>
        obtain ⟨k, hk1, hkn, rfl, hI⟩ := hrel
        obtain ⟨Y, hY, hh, hB⟩ := hI
        have hgs : g ≤ wr.heap.size := Nat.le_of_lt (Array.getElem?_eq_some_iff.1 hh).1
        by_cases hlt : k < n
        · have hlti : (k : Int) < (n : Int) := by omega
          obtain ⟨m, hm⟩ : ∃ m, m = min k n := ⟨_, rfl⟩
          have hmin : (if (n : Int) < (k : Int) then (n : Int) else (k : Int)) = (m : Int) := by split <;> omega
          have hmn : m ≤ n := by omega
          have hmni : (m : Int) ≤ (n : Int) := by omega
          obtain ⟨q, hq⟩ : ∃ q, q = min m (n - k) := ⟨_, rfl⟩
          have hkq : IntKind.i64.wrap ((k : Int) + (q : Int)) = ((k + q : Nat) : Int) := by rw [IntWalk.i64_in _ (by omega)]; omega
          have hkm : ¬ n = k := by omega
          have HQ : Hid (q = min m (n - k)) := hq
          have HM2 : Hid (m = min k n) := hm
          have HY : Hid (k + Y.length = X.length) := hY
          have hqY : q ≤ Y.length := by omega
          have hmk : m ≤ k := by omega
          have hqk : q ≤ k := by omega
          have hq0 : 1 ≤ q := by omega
          have hqn : k + q ≤ n := by omega
          clear hq hm hY HI hXL n1 n2
          go_wp2_with fail
          go_region_held3 (fun _ => True) (trivial)
            (first | (refine step_copy21 rfl (.tmp 70) (.tmp 73) 22 22 rfl 5 Tryd.underlying22 size_y21 rfl rfl g k (List.replicate k x ++ Y) 5 (by exact hh) (List.replicate q x) q (by simp) (by have h1 := HQ.out; have h2 := HM2.out; show q = min _ _; omega) (fun _ => ⟨by first | rfl | (simp; done) | (rw [if_neg hkm]; simp), (seg_rep21 hh hx hqk).drew⟩) (by simp; omega) ?_; intro w4 h4 k4))
          all_goals
            go_wp2_with fail
            go_roundw
            case rel => exact ⟨k + q, by omega, hqn, by go_num, RpI21.step HY.out hB hqY h4.out ⟨k4.os, k4.tape, k4.output, k4.size, k4.block⟩ hgs⟩
            case measure => simp [intOf]; omega
        · obtain rfl : k = n := by omega
          have hlti : ¬ (k : Int) < (k : Int) := by omega
          clear HI hlt
          go_wp2_with fail
          go_ret
          exact ⟨rfl, ⟨Y, hh⟩, hHg.out ▸ hB⟩
end Go.Proofs.YtjoghmdjnkdokaaDoor
