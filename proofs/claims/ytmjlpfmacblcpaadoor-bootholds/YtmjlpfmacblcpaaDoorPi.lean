import Derived.Test.YtmjlpfmacblcpaaDoorPh
namespace Go.Proofs.YtmjlpfmacblcpaaDoor
open Go.RowKit
set_option linter.unusedVariables false
set_option linter.unusedSimpArgs false
/-- Block g begins with the bytes zs. -/
def Rw21 (w : World) (g : Nat) (zs : List Int) : Prop := ∃ X : List Int, w.heap[g]? = some (.cells ((zs ++ X).map (Value.int .u8)).toArray 5 (0, 0))
theorem sp21_app (zs X : List Int) (off : Nat) (cs : List Int) (h : off + cs.length ≤ zs.length) : sp21 (zs ++ X) off cs = sp21 zs off cs ++ X := by
  unfold sp21
  rw [List.take_append_of_le_length (by omega), List.drop_append_of_le_length (by omega)]
  simp
theorem sp21_rep (k m : Nat) (x : Int) (Y : List Int) (h : m ≤ Y.length) : sp21 (List.replicate k x ++ Y) k (List.replicate m x) = List.replicate (k + m) x ++ Y.drop m := by
  unfold sp21
  have e1 : (List.replicate k x ++ Y).take k = List.replicate k x := by rw [List.take_append_of_le_length (by simp)]; simp
  have e2 : (List.replicate k x ++ Y).drop (k + (List.replicate m x).length) = Y.drop m := by
    rw [List.drop_append]
    simp
  rw [e1, e2, ← List.replicate_append_replicate]
theorem seg_rep21 {w : World} {g : Nat} {x : Int} {k m : Nat} {Y : List Int} (hg : w.heap[g]? = some (.cells ((List.replicate k x ++ Y).map (Value.int .u8)).toArray 5 (0, 0))) (hx : 0 ≤ x ∧ x ≤ 255) (hm : m ≤ k) : Seg w (some ⟨g, 0, none⟩) (List.replicate m x) := by
  refine ⟨fun i hi => ⟨g, 0, rfl, ?_⟩, by decide, getD_bd (by decide) (fun y hy => by rw [List.eq_of_mem_replicate hy]; exact hx)⟩
  have hi' : i < m := by simpa using hi
  have hk : i < k := by omega
  simp [World.cell?, hg, List.getD, hi', List.getElem?_append, hk]
def RpI21 (g n T : Nat) (x : Int) (w0 w : World) (k : Nat) : Prop := ∃ Y : List Int, k + Y.length = T ∧ w.heap[g]? = some (.cells ((List.replicate k x ++ Y).map (Value.int .u8)).toArray 5 (0, 0)) ∧ Below g w0 w
theorem RpI21.step {g n T k m : Nat} {x : Int} {w0 w w' : World} {Y : List Int} (hY : k + Y.length = T) (hB : Below g w0 w) (hm : m ≤ Y.length) (h1 : w'.heap[g]? = some (.cells ((sp21 (List.replicate k x ++ Y) k (List.replicate m x)).map (Value.int .u8)).toArray 5 (0, 0))) (h2 : Kp (fun j => j = g) w w') (hg : g ≤ w.heap.size) : RpI21 g n T x w0 w' (k + m) := by
  rw [sp21_rep k m x Y hm] at h1
  exact ⟨Y.drop m, by simp; omega, h1, hB.trans (h2.below (fun i e => by omega) hg)⟩
set_option maxRecDepth 100000 in
set_option maxHeartbeats 4000000 in
theorem prep21 (a : Option Addr) (c n : Nat) (x : Int) (w : World) (hs : Seg w a [x]) (hn : n ≤ 16777216) :
    Calls Tryd.prog 72 #[.slice a 1 c, .int .i64 (n : Int)] w fun e w' => e = .returned (.slice (some ⟨w.heap.size, 0, none⟩) n n) ∧ Rw21 w' w.heap.size (List.replicate n x) ∧ Below w.heap.size w w' := by
  by_cases h0 : n = 0
  · subst h0
    have HB : Below w.heap.size w (w.alloc (.cells #[] 5)) := (Below.refl _ _).alloc (Nat.le_refl _) _
    have HH : (w.alloc (.cells #[] 5)).heap[w.heap.size]? = some (.cells #[] 5 (0, 0)) := heap_alloc_new w _
    go_enter Tryd.func72, Tryd.ntmps72
    go_wp2_with fail
    go_ret
    exact ⟨rfl, ⟨[], by simpa using HH⟩, HB⟩
  · have hx : 0 ≤ x ∧ x ≤ 255 := hs.mem x (by simp)
    obtain ⟨X, hXn, hrun⟩ := run_mnz21 n (by omega) w
    obtain ⟨g, hg⟩ : ∃ g, g = w.heap.size := ⟨_, rfl⟩
    obtain ⟨w1, hw1⟩ : ∃ w1, w1 = (w.alloc (.cells (X.map (Value.int .u8)).toArray 5)).drewN 2 := ⟨_, rfl⟩
    have hh1 : w1.heap[g]? = some (.cells (X.map (Value.int .u8)).toArray 5 (0, 0)) := by rw [hw1, hg]; exact heap_alloc_new w _
    have hb1 : Below g w w1 := by rw [hw1, hg]; exact below_drewN21 ((Below.refl _ _).alloc (Nat.le_refl _) _) _
    have hs1 : Seg w1 a [x] := by rw [hw1]; exact (hs.alloc _).drewN _
    have hsz : g ≤ w1.heap.size := by rw [hg]; exact hb1.size
    rw [← hw1, ← hg] at hrun
    rw [← hg]
    have HM := pmul21 n (by omega)
    have wn : IntKind.u64.wrap (n : Int) = (n : Int) := IntWalk.u64_in _ (by omega)
    have wi : IntKind.i64.wrap (n : Int) = (n : Int) := IntWalk.i64_in _ (by omega)
    have n0 : ¬ (n : Int) = 0 := by omega
    have n0' : ((n : Int) == 0) = false := by simp; omega
    have n1 : ¬ (n : Int) < 0 := by omega
    have n2 : ¬ (9223372036854775807 : Int) < (n : Int) := by omega
    have n3 : (n : Int) ≤ (X.length : Int) := by omega
    have hHg : Hid (g = w.heap.size) := hg
    have hHX : Hid (n ≤ X.length) := hXn
    obtain ⟨XL, hXL⟩ : ∃ XL, XL = X.length := ⟨_, rfl⟩
    rw [← hXL] at hrun n3
    clear hs hg hw1
    go_enter Tryd.func72, Tryd.ntmps72
    go_wp2_with fail
    refine (HM _).mono ?_
    rintro e w2 ⟨rfl, hw⟩
    subst hw
    by_cases hbig : 8192 < n
    · have hb8 : (8192 : Int) < (n : Int) := by omega
      go_wp2_with (first
        | (refine wpList_copy21 rfl (.tmp 58) (.tmp 59) 22 22 rfl 5 Tryd.underlying22 size_y21 rfl rfl g 0 X 5 hh1 [x] 1 rfl (by show 1 = min _ _; omega) (fun _ => ⟨rfl, hs1⟩) (by omega) ?_; intro w3 h3 k3))
      have HI : RpI21 g n X.length x w2 w3 1 := ⟨X.drop 1, by simp; omega, by have e : sp21 X 0 [x] = List.replicate 1 x ++ X.drop 1 := by simp [sp21]
                                                                              rw [← e]; exact h3.out, hb1.trans (k3.below (fun i e => by omega) hsz)⟩
      clear h3 k3 hrun hh1 hs1 hb1 hsz n0' n3 wn wi
      go_loopw [10] (fun tb wr => ∃ k : Nat, 1 ≤ k ∧ k ≤ n ∧ tb = .int .i64 (k : Int) ∧ RpI21 g n X.length x w2 wr k) (fun tb _ => n - (intOf tb).toNat)
      case atStart => exact ⟨1, by omega, by omega, rfl, HI⟩
      case round =>
        obtain ⟨k, hk1, hkn, rfl, hI⟩ := hrel
        obtain ⟨Y, hY, hh, hB⟩ := hI
        have hgs : g ≤ wr.heap.size := Nat.le_of_lt (Array.getElem?_eq_some_iff.1 hh).1
        by_cases hlt : k < n
        · have hlti : (k : Int) < (n : Int) := by omega
          obtain ⟨m, hm⟩ : ∃ m, m = min k 8192 := ⟨_, rfl⟩
          have hmin : (if (8192 : Int) < (k : Int) then (8192 : Int) else (k : Int)) = (m : Int) := by split <;> omega
          have hmn : m ≤ n := by omega
          have hmni : (m : Int) ≤ (n : Int) := by omega
          obtain ⟨q, hq⟩ : ∃ q, q = min m (n - k) := ⟨_, rfl⟩
          have hkq : IntKind.i64.wrap ((k : Int) + (q : Int)) = ((k + q : Nat) : Int) := by rw [IntWalk.i64_in _ (by omega)]; omega
          have hkm : ¬ n = k := by omega
          have HQ : Hid (q = min m (n - k)) := hq
          have HM2 : Hid (m = min k 8192) := hm
          have HY : Hid (k + Y.length = X.length) := hY
          have hqY : q ≤ Y.length := by omega
          have hmk : m ≤ k := by omega
          have hqk : q ≤ k := by omega
          have hq0 : 1 ≤ q := by omega
          have hqn : k + q ≤ n := by omega
          clear hq hm hY HI hXL n1 n2
          go_wp2_with fail
          go_region_held3 (fun _ => True) (trivial)
            (first | (refine step_copy21 rfl (.tmp 70) (.tmp 73) 22 22 rfl 5 Tryd.underlying22 size_y21 rfl rfl g k (List.replicate k x ++ Y) 5 (by exact hh) (List.replicate q x) q (by simp) (by have h1 := HQ.out; have h2 := HM2.out; show q = min _ _; omega) (fun _ => ⟨by first | rfl | (simp; done) | (rw [if_neg hkm]; simp), (seg_rep21 hh hx hqk).drew⟩) (by simp; omega) ?_; intro w4 h4 k4))
          all_goals
            go_wp2_with fail
            go_roundw
            case rel => exact ⟨k + q, by omega, hqn, by go_num, RpI21.step HY.out hB hqY h4.out ⟨k4.os, k4.tape, k4.output, k4.size, k4.block⟩ hgs⟩
            case measure => simp [intOf]; omega
        · obtain rfl : k = n := by omega
          have hlti : ¬ (k : Int) < (k : Int) := by omega
          clear HI hlt
          go_wp2_with fail
          go_ret
          exact ⟨rfl, ⟨Y, hh⟩, hHg.out ▸ hB⟩
    · have hb8 : ¬ (8192 : Int) < (n : Int) := by omega
      go_wp2_with (first
        | (refine wpList_copy21 rfl (.tmp 58) (.tmp 59) 22 22 rfl 5 Tryd.underlying22 size_y21 rfl rfl g 0 X 5 hh1 [x] 1 rfl (by show 1 = min _ _; omega) (fun _ => ⟨rfl, hs1⟩) (by omega) ?_; intro w3 h3 k3))
      have HI : RpI21 g n X.length x w2 w3 1 := ⟨X.drop 1, by simp; omega, by have e : sp21 X 0 [x] = List.replicate 1 x ++ X.drop 1 := by simp [sp21]
                                                                              rw [← e]; exact h3.out, hb1.trans (k3.below (fun i e => by omega) hsz)⟩
      clear h3 k3 hrun hh1 hs1 hb1 hsz n0' n3 wn wi
      go_loopw [10] (fun tb wr => ∃ k : Nat, 1 ≤ k ∧ k ≤ n ∧ tb = .int .i64 (k : Int) ∧ RpI21 g n X.length x w2 wr k) (fun tb _ => n - (intOf tb).toNat)
      case atStart => exact ⟨1, by omega, by omega, rfl, HI⟩
      case round =>
        obtain ⟨k, hk1, hkn, rfl, hI⟩ := hrel
        obtain ⟨Y, hY, hh, hB⟩ := hI
        have hgs : g ≤ wr.heap.size := Nat.le_of_lt (Array.getElem?_eq_some_iff.1 hh).1
        by_cases hlt : k < n
        · have hlti : (k : Int) < (n : Int) := by omega
          obtain ⟨m, hm⟩ : ∃ m, m = min k n := ⟨_, rfl⟩
          have hmin : (if (n : Int) < (k : Int) then (n : Int) else (k : Int)) = (m : Int) := by split <;> omega
          have hmn : m ≤ n := by omega
          have hmni : (m : Int) ≤ (n : Int) := by omega
          obtain ⟨q, hq⟩ : ∃ q, q = min m (n - k) := ⟨_, rfl⟩
          have hkq : IntKind.i64.wrap ((k : Int) + (q : Int)) = ((k + q : Nat) : Int) := by rw [IntWalk.i64_in _ (by omega)]; omega
          have hkm : ¬ n = k := by omega
          have HQ : Hid (q = min m (n - k)) := hq
          have HM2 : Hid (m = min k n) := hm
          have HY : Hid (k + Y.length = X.length) := hY
          have hqY : q ≤ Y.length := by omega
          have hmk : m ≤ k := by omega
          have hqk : q ≤ k := by omega
          have hq0 : 1 ≤ q := by omega
          have hqn : k + q ≤ n := by omega
          clear hq hm hY HI hXL n1 n2
          go_wp2_with fail
          go_region_held3 (fun _ => True) (trivial)
            (first | (refine step_copy21 rfl (.tmp 70) (.tmp 73) 22 22 rfl 5 Tryd.underlying22 size_y21 rfl rfl g k (List.replicate k x ++ Y) 5 (by exact hh) (List.replicate q x) q (by simp) (by have h1 := HQ.out; have h2 := HM2.out; show q = min _ _; omega) (fun _ => ⟨by first | rfl | (simp; done) | (rw [if_neg hkm]; simp), (seg_rep21 hh hx hqk).drew⟩) (by simp; omega) ?_; intro w4 h4 k4))
          all_goals
            go_wp2_with fail
            go_roundw
            case rel => exact ⟨k + q, by omega, hqn, by go_num, RpI21.step HY.out hB hqY h4.out ⟨k4.os, k4.tape, k4.output, k4.size, k4.block⟩ hgs⟩
            case measure => simp [intOf]; omega
        · obtain rfl : k = n := by omega
          have hlti : ¬ (k : Int) < (k : Int) := by omega
          clear HI hlt
          go_wp2_with fail
          go_ret
          exact ⟨rfl, ⟨Y, hh⟩, hHg.out ▸ hB⟩
end Go.Proofs.YtmjlpfmacblcpaaDoor

namespace Go.Proofs.YtmjlpfmacblcpaaDoor
open Go.RowKit Go.Shelf
set_option linter.unusedVariables false
set_option linter.unusedSimpArgs false
theorem kp_set3_21 (w : World) (g : Nat) (x y z : Value) : Kp (fun k => k = g) w (((w.setCell ⟨g, 0, none⟩ x).setCell ⟨g, 1, none⟩ y).setCell ⟨g, 2, none⟩ z) :=
  ((Kp.set (S := fun k => k = g) rfl _).trans (Kp.set (S := fun k => k = g) rfl _) (fun _ _ e => e)).trans (Kp.set (S := fun k => k = g) rfl _) (fun _ _ e => e)
def shv21 (v : Option Value) (x : Int) : Value := v.getD (.agg #[.slice none 0 0, .bool (x == 2), .int .i64 0])
set_option maxRecDepth 100000 in
set_option maxHeartbeats 4000000 in
theorem psht21 (b m c : Nat) (f : Int → Int → Option Value) (x y : Int) (hx : In21 x) (hy : In21 y) (w : World) (c5 : w.cell? ⟨b, 5, none⟩ = some (.map (some m))) (hm : Mv21 w m c f)
    (hv : ∀ v, f x y = some v → ∃ a n cap er wr, v = .agg #[.slice a n cap, .bool er, .int .i64 wr]) :
    Calls Tryd.prog 50 #[.pointer (some ⟨b, 0, none⟩), .agg #[.int .i64 x, .int .i64 y]] w fun e w' => e = .returned (shv21 (f x y) x) ∧ Below w.heap.size w w' := by
  have hlt : b < w.heap.size := World.block_lt_of_cell? w _ c5
  have HL : Hid (∀ W : World, Below w.heap.size w W → (Instr.lookup 91 (.map (some m)) (.agg #[.int .i64 x, .int .i64 y]) true).run Tryd.prog W = .ok (.tuple #[(f x y).getD zs21, .bool (f x y).isSome]) W) := fun W h => (hm.block (h.block m hm.lt)).look hx hy
  have hb1 : Below w.heap.size w ((w.alloc (.cells #[.int .i64 x, .int .i64 y] 98)).alloc (.cells #[.slice none 0 0, .bool false, .int .i64 0] 89)) := ((Below.refl _ _).alloc (Nat.le_refl _) _).alloc (by simp) _
  have HLV : ∃ A N C E R, (f x y).getD zs21 = .agg #[.slice A N C, .bool E, .int .i64 R] := by
    cases hfx : f x y with
    | none => exact ⟨_, _, _, _, _, rfl⟩
    | some v => obtain ⟨a, n, cap, er, wr, rfl⟩ := hv v hfx; exact ⟨_, _, _, _, _, rfl⟩
  obtain ⟨A, N, C, E, R, hA⟩ := HLV
  have HQ : Hid (shv21 (f x y) x = if (f x y).isSome then .agg #[.slice A N C, .bool E, .int .i64 R] else .agg #[.slice none 0 0, .bool (x == 2), .int .i64 0]) := by
    show shv21 (f x y) x = _
    cases hfx : f x y with
    | none => rfl
    | some v => rw [hfx] at hA; simpa [shv21] using hA
  rw [hA] at HL
  rw [HQ.out]
  generalize (f x y).isSome = T at *
  have HX : Hid (∀ W : World, Below w.heap.size w W → (Instr.lookup 91 (.map (some m)) (.agg #[.int .i64 x, .int .i64 y]) true).run Tryd.prog W = .ok (.tuple #[.agg #[.slice A N C, .bool E, .int .i64 R], .bool T]) W) := HL
  clear HL HQ hA hv hm hx hy
  obtain ⟨g, hg⟩ : ∃ g, g = w.heap.size := ⟨_, rfl⟩
  obtain ⟨w1, hw1⟩ : ∃ w1, w1 = (w.alloc (.cells #[.int .i64 x, .int .i64 y] 98)).alloc (.cells #[.slice none 0 0, .bool false, .int .i64 0] 89) := ⟨_, rfl⟩
  have HW : Hid ((w.alloc (.cells #[.int .i64 x, .int .i64 y] 98)).alloc (.cells #[.slice none 0 0, .bool false, .int .i64 0] 89) = w1 ∧ w.heap.size = g) := ⟨hw1.symm, hg.symm⟩
  obtain ⟨u, hu⟩ : ∃ u, u = w1.drew := ⟨_, rfl⟩
  have HU : Hid (w1.drew = u) := hu.symm
  have q0 : w1.heap[g]? = some (.cells #[.int .i64 x, .int .i64 y] 98 (0, 0)) := by rw [hw1, hg, heap_alloc_old _ _ (by simp)]; exact heap_alloc_new w _
  have q1 : w1.heap[g + 1]? = some (.cells #[.slice none 0 0, .bool false, .int .i64 0] 89 (0, 0)) := by
    have e : (w.alloc (.cells #[.int .i64 x, .int .i64 y] 98)).heap.size = g + 1 := by rw [hg]; simp
    rw [hw1, ← e]; exact heap_alloc_new _ _
  have hbu : Below g w u := by rw [hu, hg, hw1]; exact hb1.drew
  have hsz : u.heap.size = g + 2 := by rw [hu, hw1, hg]; simp [World.drew]
  have HX1 : ∀ V : World, Below g w V → V.heap[g]? = some (.cells #[.int .i64 x, .int .i64 y] 98 (0, 0)) → Hid (V.cell? ⟨b, 5, none⟩ = some (.map (some m)) ∧ V.cell? ⟨g, 0, none⟩ = some (.int .i64 x) ∧ V.cell? ⟨g, 1, none⟩ = some (.int .i64 y) ∧ (Instr.lookup 91 (.map (some m)) (.agg #[.int .i64 x, .int .i64 y]) true).run Tryd.prog V = .ok (.tuple #[.agg #[.slice A N C, .bool E, .int .i64 R], .bool T]) V) := fun V hV hq => ⟨(hV.cell (p := ⟨b, 5, none⟩) (by show b < g; omega)).trans c5, two_cell0 hq, two_cell1 hq, HX.out V (by rw [← hg]; exact hV)⟩
  have H1 := HX1 u hbu (by rw [hu]; exact q0)
  obtain ⟨u2, hu2⟩ : ∃ u2, u2 = u.alloc (.cells #[.slice none 0 0, .bool false, .int .i64 0] 89) := ⟨_, rfl⟩
  have hb2 : Below g w u2 := by rw [hu2]; exact hbu.alloc (by omega) _
  have H2 := HX1 u2 hb2 (by rw [hu2, heap_alloc_old _ _ (by omega), hu]; exact q0)
  have HU2 : Hid (u.alloc (.cells #[.slice none 0 0, .bool false, .int .i64 0] 89) = u2) := hu2.symm
  have p2 : u2.heap[g + 2]? = some (.cells #[.slice none 0 0, .bool false, .int .i64 0] 89 (0, 0)) := by rw [hu2, ← hsz]; exact heap_alloc_new _ _
  have c20 := three_cell0 p2
  have c21 := three_cell1 p2
  have c22 := three_cell2 p2
  have f20 := three_free p2 0
  have f21 := three_free p2 1
  have f22 := three_free p2 2
  obtain ⟨g2, hg2⟩ : ∃ g2, g2 = u.heap.size := ⟨_, rfl⟩
  have HG2 : Hid (u.heap.size = g2 ∧ g2 = g + 2) := ⟨hg2.symm, by omega⟩
  rw [← HG2.out.2] at c20 c21 c22 f20 f21 f22 p2
  obtain ⟨u3, hu3⟩ : ∃ u3, u3 = ((u2.setCell ⟨g2, 0, none⟩ (.slice A N C)).setCell ⟨g2, 1, none⟩ (.bool E)).setCell ⟨g2, 2, none⟩ (.int .i64 R) := ⟨_, rfl⟩
  have HU3 : Hid (((u2.setCell ⟨g2, 0, none⟩ (.slice A N C)).setCell ⟨g2, 1, none⟩ (.bool E)).setCell ⟨g2, 2, none⟩ (.int .i64 R) = u3) := hu3.symm
  have p3 : u3.heap[g2]? = some (.cells #[.slice A N C, .bool E, .int .i64 R] 89 (0, 0)) := by rw [hu3]; exact three_set2 (three_set1 (three_set0 p2 _) _) _
  have k3 : Kp (fun k => k = g2) u2 u3 := by
    rw [hu3]
    exact ((Kp.set (S := fun k => k = g2) rfl _).trans (Kp.set (S := fun k => k = g2) rfl _) (fun _ _ e => e)).trans (Kp.set (S := fun k => k = g2) rfl _) (fun _ _ e => e)
  have hb3 : Below g w u3 := hb2.trans (k3.below (fun i e => by have := HG2.out.2; omega) (by have := hb2.size; have := HW.out.2; omega))
  have H3 := HX1 u3 hb3 (by rw [k3.block g (by have := HG2.out.2; have := (Array.getElem?_eq_some_iff.1 p2).1; omega) (by have := HG2.out.2; show ¬ g = g2; omega), ← HU2.out, heap_alloc_old _ _ (by rw [HG2.out.1]; have := HG2.out.2; omega), ← HU.out]; exact q0)
  have q3 : u3.heap[g + 1]? = some (.cells #[.slice none 0 0, .bool false, .int .i64 0] 89 (0, 0)) := by
    rw [k3.block (g + 1) (by have := HG2.out.2; have := (Array.getElem?_eq_some_iff.1 p2).1; omega) (by have := HG2.out.2; show ¬ g + 1 = g2; omega), ← HU2.out, heap_alloc_old _ _ (by rw [HG2.out.1]; have := HG2.out.2; omega), ← HU.out]; exact q1
  have d30 := three_cell0 p3
  have d31 := three_cell1 p3
  have d32 := three_cell2 p3
  have d40 := three_cell0 q3
  have d41 := three_cell1 q3
  have d42 := three_cell2 q3
  have f40 := three_free q3 0
  have f41 := three_free q3 1
  have f42 := three_free q3 2
  have e30 := H3.out.2.1
  clear hw1 hu hg hu2 hg2 HX HX1 hsz hu3 q0 q1
  cases T
  · go_enter Tryd.func50, Tryd.ntmps50
    go_wp2_with fail
    (try rw [HW.out.1])
    (try rw [HW.out.2])
    refine plain_region16 (fun V => V.cell? ⟨b, 5, none⟩ = some (.map (some m)) ∧ V.cell? ⟨g, 0, none⟩ = some (.int .i64 x) ∧ V.cell? ⟨g, 1, none⟩ = some (.int .i64 y) ∧ (Instr.lookup 91 (.map (some m)) (.agg #[.int .i64 x, .int .i64 y]) true).run Tryd.prog V = .ok (.tuple #[.agg #[.slice A N C, .bool E, .int .i64 R], .bool false]) V) 12 (by kernel_rfl) (by rw [HU.out]; exact H1.out) (fun hHeld => ?_)
    rw [HU.out] at hHeld ⊢
    refine wpAnyK_take (i := 0) (v := .pointer (some ⟨b, 0, none⟩)) rfl (by kernel_rfl) (by kernel_rfl) (by kernel_rfl) (by kernel_rfl) (fun _ _ _ h => h) (Or.inl ⟨by rfl, fun w hSw => by go_simp⟩) hHeld ?_
    simp only [List.getElem_toArray, List.getElem_cons_zero, Act.put, List.setIfInBounds_toArray, List.set_cons_zero, List.set_cons_succ]
    refine wpAnyK_take (i := 1) (v := .pointer (some ⟨b, 0, none⟩)) rfl (by kernel_rfl) (by kernel_rfl) (by kernel_rfl) (by kernel_rfl) (fun _ _ _ h => h) (Or.inl ⟨by rfl, fun w hSw => by go_simp⟩) hHeld ?_
    simp only [List.getElem_toArray, List.getElem_cons_zero, List.getElem_cons_succ, Act.put, List.setIfInBounds_toArray, List.set_cons_zero, List.set_cons_succ]
    refine wpAnyK_take (i := 2) (v := .pointer (some ⟨b, 5, none⟩)) rfl (by kernel_rfl) (by kernel_rfl) (by kernel_rfl) (by kernel_rfl) (fun _ _ _ h => h) (Or.inl ⟨by rfl, fun w hSw => by go_simp⟩) hHeld ?_
    simp only [List.getElem_toArray, List.getElem_cons_zero, List.getElem_cons_succ, Act.put, List.setIfInBounds_toArray, List.set_cons_zero, List.set_cons_succ]
    refine wpAnyK_take (i := 3) (v := .map (some m)) rfl (by kernel_rfl) (by kernel_rfl) (by kernel_rfl) (by kernel_rfl) (fun _ _ _ h => h) (Or.inl ⟨by rfl, fun w hSw => by go_simp⟩) hHeld ?_
    simp only [List.getElem_toArray, List.getElem_cons_zero, List.getElem_cons_succ, Act.put, List.setIfInBounds_toArray, List.set_cons_zero, List.set_cons_succ]
    refine wpAnyK_take (i := 4) (v := .agg #[.int .i64 x, .int .i64 y]) rfl (by kernel_rfl) (by kernel_rfl) (by kernel_rfl) (by kernel_rfl) (fun _ _ _ h => h) (Or.inl ⟨by rfl, fun w hSw => by go_simp⟩) hHeld ?_
    simp only [List.getElem_toArray, List.getElem_cons_zero, List.getElem_cons_succ, Act.put, List.setIfInBounds_toArray, List.set_cons_zero, List.set_cons_succ]
    refine wpAnyK_take (i := 5) (v := .tuple #[.agg #[.slice A N C, .bool E, .int .i64 R], .bool false]) rfl (by kernel_rfl) (by kernel_rfl) (by kernel_rfl) (by kernel_rfl) (fun _ _ _ h => h) (Or.inl ⟨by rfl, fun w hSw => by go_simp⟩) hHeld ?_
    simp only [List.getElem_toArray, List.getElem_cons_zero, List.getElem_cons_succ, Act.put, List.setIfInBounds_toArray, List.set_cons_zero, List.set_cons_succ]
    refine wpAnyK_take (i := 6) (v := .tuple #[.agg #[.slice A N C, .bool E, .int .i64 R], .bool false]) rfl (by kernel_rfl) (by kernel_rfl) (by kernel_rfl) (by kernel_rfl) (fun _ _ _ h => h) (Or.inl ⟨by rfl, fun w hSw => by go_simp⟩) hHeld ?_
    simp only [List.getElem_toArray, List.getElem_cons_zero, List.getElem_cons_succ, Act.put, List.setIfInBounds_toArray, List.set_cons_zero, List.set_cons_succ]
    refine wpAnyK_take (i := 7) (v := .agg #[.slice A N C, .bool E, .int .i64 R]) rfl (by kernel_rfl) (by kernel_rfl) (by kernel_rfl) (by kernel_rfl) (fun _ _ _ h => h) (Or.inl ⟨by rfl, fun w hSw => by go_simp⟩) hHeld ?_
    simp only [List.getElem_toArray, List.getElem_cons_zero, List.getElem_cons_succ, Act.put, List.setIfInBounds_toArray, List.set_cons_zero, List.set_cons_succ]
    refine wpAnyK_take (i := 8) (v := .bool false) rfl (by kernel_rfl) (by kernel_rfl) (by kernel_rfl) (by kernel_rfl) (fun _ _ _ h => h) (Or.inl ⟨by rfl, fun w hSw => by go_simp⟩) hHeld ?_
    simp only [List.getElem_toArray, List.getElem_cons_zero, List.getElem_cons_succ, Act.put, List.setIfInBounds_toArray, List.set_cons_zero, List.set_cons_succ]
    refine wpAnyK_one (i := 9) (by kernel_rfl) rfl (fun K hK => ?_)
    (try simp only [List.getElem_toArray, List.getElem_cons_zero, List.getElem_cons_succ, Act.put, List.setIfInBounds_toArray, List.set_cons_zero, List.set_cons_succ])
    go_simp
    rw [HU2.out, HG2.out.1]
    refine hK.out _ _ (fun _ => H2.out) (fun hHeld0 => ?_)
    have hHeld := hHeld0 (by decide)
    clear hHeld0 hK K
    (try simp only [List.getElem_toArray, List.getElem_cons_zero, List.getElem_cons_succ, Act.put, List.setIfInBounds_toArray, List.set_cons_zero, List.set_cons_succ])
    refine wpAnyK_one (i := 10) (by kernel_rfl) rfl (fun K hK => ?_)
    (try simp only [List.getElem_toArray, List.getElem_cons_zero, List.getElem_cons_succ, Act.put, List.setIfInBounds_toArray, List.set_cons_zero, List.set_cons_succ])
    go_simp
    rw [HU3.out]
    refine hK.out _ _ (fun _ => H3.out) (fun hHeld0 => ?_)
    have hHeld := hHeld0 (by decide)
    clear hHeld0 hK K
    (try simp only [List.getElem_toArray, List.getElem_cons_zero, List.getElem_cons_succ, Act.put, List.setIfInBounds_toArray, List.set_cons_zero, List.set_cons_succ])
    refine wpAnyK_take (i := 11) (v := .bool false) rfl (by kernel_rfl) (by kernel_rfl) (by kernel_rfl) (by kernel_rfl) (fun _ _ _ h => h) (Or.inl ⟨by rfl, fun w hSw => by go_simp⟩) hHeld ?_
    simp only [List.getElem_toArray, List.getElem_cons_zero, List.getElem_cons_succ, Act.put, List.setIfInBounds_toArray, List.set_cons_zero, List.set_cons_succ]
    refine wpAnyK_done (by kernel_rfl) ?_ _
    go_wp2_with fail
    have hq := three_set2 (three_set1 (three_set0 q3 (.slice none 0 0)) (.bool (x == 2))) (.int .i64 0)
    refine bodyPost_ret (v := .agg #[.slice none 0 0, .bool (x == 2), .int .i64 0]) (results_cell_row (fn := Tryd.f50) (p := 4) (ty := 89) rfl _ _ (g + 1) _ _ _ _ rfl hq Tryd.underlying89 rfl (by kernel_rfl)) rfl ?_
    refine ⟨rfl, ?_⟩
    rw [HW.out.2]
    exact hb3.trans ((kp_set3_21 u3 (g + 1) _ _ _).below (fun i e => by omega) (by have := hb3.size; have := HW.out.2; omega))
  · go_enter Tryd.func50, Tryd.ntmps50
    go_wp2_with fail
    (try rw [HW.out.1])
    (try rw [HW.out.2])
    refine plain_region16 (fun V => V.cell? ⟨b, 5, none⟩ = some (.map (some m)) ∧ V.cell? ⟨g, 0, none⟩ = some (.int .i64 x) ∧ V.cell? ⟨g, 1, none⟩ = some (.int .i64 y) ∧ (Instr.lookup 91 (.map (some m)) (.agg #[.int .i64 x, .int .i64 y]) true).run Tryd.prog V = .ok (.tuple #[.agg #[.slice A N C, .bool E, .int .i64 R], .bool true]) V) 12 (by kernel_rfl) (by rw [HU.out]; exact H1.out) (fun hHeld => ?_)
    rw [HU.out] at hHeld ⊢
    refine wpAnyK_take (i := 0) (v := .pointer (some ⟨b, 0, none⟩)) rfl (by kernel_rfl) (by kernel_rfl) (by kernel_rfl) (by kernel_rfl) (fun _ _ _ h => h) (Or.inl ⟨by rfl, fun w hSw => by go_simp⟩) hHeld ?_
    simp only [List.getElem_toArray, List.getElem_cons_zero, Act.put, List.setIfInBounds_toArray, List.set_cons_zero, List.set_cons_succ]
    refine wpAnyK_take (i := 1) (v := .pointer (some ⟨b, 0, none⟩)) rfl (by kernel_rfl) (by kernel_rfl) (by kernel_rfl) (by kernel_rfl) (fun _ _ _ h => h) (Or.inl ⟨by rfl, fun w hSw => by go_simp⟩) hHeld ?_
    simp only [List.getElem_toArray, List.getElem_cons_zero, List.getElem_cons_succ, Act.put, List.setIfInBounds_toArray, List.set_cons_zero, List.set_cons_succ]
    refine wpAnyK_take (i := 2) (v := .pointer (some ⟨b, 5, none⟩)) rfl (by kernel_rfl) (by kernel_rfl) (by kernel_rfl) (by kernel_rfl) (fun _ _ _ h => h) (Or.inl ⟨by rfl, fun w hSw => by go_simp⟩) hHeld ?_
    simp only [List.getElem_toArray, List.getElem_cons_zero, List.getElem_cons_succ, Act.put, List.setIfInBounds_toArray, List.set_cons_zero, List.set_cons_succ]
    refine wpAnyK_take (i := 3) (v := .map (some m)) rfl (by kernel_rfl) (by kernel_rfl) (by kernel_rfl) (by kernel_rfl) (fun _ _ _ h => h) (Or.inl ⟨by rfl, fun w hSw => by go_simp⟩) hHeld ?_
    simp only [List.getElem_toArray, List.getElem_cons_zero, List.getElem_cons_succ, Act.put, List.setIfInBounds_toArray, List.set_cons_zero, List.set_cons_succ]
    refine wpAnyK_take (i := 4) (v := .agg #[.int .i64 x, .int .i64 y]) rfl (by kernel_rfl) (by kernel_rfl) (by kernel_rfl) (by kernel_rfl) (fun _ _ _ h => h) (Or.inl ⟨by rfl, fun w hSw => by go_simp⟩) hHeld ?_
    simp only [List.getElem_toArray, List.getElem_cons_zero, List.getElem_cons_succ, Act.put, List.setIfInBounds_toArray, List.set_cons_zero, List.set_cons_succ]
    refine wpAnyK_take (i := 5) (v := .tuple #[.agg #[.slice A N C, .bool E, .int .i64 R], .bool true]) rfl (by kernel_rfl) (by kernel_rfl) (by kernel_rfl) (by kernel_rfl) (fun _ _ _ h => h) (Or.inl ⟨by rfl, fun w hSw => by go_simp⟩) hHeld ?_
    simp only [List.getElem_toArray, List.getElem_cons_zero, List.getElem_cons_succ, Act.put, List.setIfInBounds_toArray, List.set_cons_zero, List.set_cons_succ]
    refine wpAnyK_take (i := 6) (v := .tuple #[.agg #[.slice A N C, .bool E, .int .i64 R], .bool true]) rfl (by kernel_rfl) (by kernel_rfl) (by kernel_rfl) (by kernel_rfl) (fun _ _ _ h => h) (Or.inl ⟨by rfl, fun w hSw => by go_simp⟩) hHeld ?_
    simp only [List.getElem_toArray, List.getElem_cons_zero, List.getElem_cons_succ, Act.put, List.setIfInBounds_toArray, List.set_cons_zero, List.set_cons_succ]
    refine wpAnyK_take (i := 7) (v := .agg #[.slice A N C, .bool E, .int .i64 R]) rfl (by kernel_rfl) (by kernel_rfl) (by kernel_rfl) (by kernel_rfl) (fun _ _ _ h => h) (Or.inl ⟨by rfl, fun w hSw => by go_simp⟩) hHeld ?_
    simp only [List.getElem_toArray, List.getElem_cons_zero, List.getElem_cons_succ, Act.put, List.setIfInBounds_toArray, List.set_cons_zero, List.set_cons_succ]
    refine wpAnyK_take (i := 8) (v := .bool true) rfl (by kernel_rfl) (by kernel_rfl) (by kernel_rfl) (by kernel_rfl) (fun _ _ _ h => h) (Or.inl ⟨by rfl, fun w hSw => by go_simp⟩) hHeld ?_
    simp only [List.getElem_toArray, List.getElem_cons_zero, List.getElem_cons_succ, Act.put, List.setIfInBounds_toArray, List.set_cons_zero, List.set_cons_succ]
    refine wpAnyK_one (i := 9) (by kernel_rfl) rfl (fun K hK => ?_)
    (try simp only [List.getElem_toArray, List.getElem_cons_zero, List.getElem_cons_succ, Act.put, List.setIfInBounds_toArray, List.set_cons_zero, List.set_cons_succ])
    go_simp
    rw [HU2.out, HG2.out.1]
    refine hK.out _ _ (fun _ => H2.out) (fun hHeld0 => ?_)
    have hHeld := hHeld0 (by decide)
    clear hHeld0 hK K
    (try simp only [List.getElem_toArray, List.getElem_cons_zero, List.getElem_cons_succ, Act.put, List.setIfInBounds_toArray, List.set_cons_zero, List.set_cons_succ])
    refine wpAnyK_one (i := 10) (by kernel_rfl) rfl (fun K hK => ?_)
    (try simp only [List.getElem_toArray, List.getElem_cons_zero, List.getElem_cons_succ, Act.put, List.setIfInBounds_toArray, List.set_cons_zero, List.set_cons_succ])
    go_simp
    rw [HU3.out]
    refine hK.out _ _ (fun _ => H3.out) (fun hHeld0 => ?_)
    have hHeld := hHeld0 (by decide)
    clear hHeld0 hK K
    (try simp only [List.getElem_toArray, List.getElem_cons_zero, List.getElem_cons_succ, Act.put, List.setIfInBounds_toArray, List.set_cons_zero, List.set_cons_succ])
    refine wpAnyK_take (i := 11) (v := .bool true) rfl (by kernel_rfl) (by kernel_rfl) (by kernel_rfl) (by kernel_rfl) (fun _ _ _ h => h) (Or.inl ⟨by rfl, fun w hSw => by go_simp⟩) hHeld ?_
    simp only [List.getElem_toArray, List.getElem_cons_zero, List.getElem_cons_succ, Act.put, List.setIfInBounds_toArray, List.set_cons_zero, List.set_cons_succ]
    refine wpAnyK_done (by kernel_rfl) ?_ _
    go_wp2_with fail
    have hq := three_set2 (three_set1 (three_set0 q3 (.slice A N C)) (.bool E)) (.int .i64 R)
    refine bodyPost_ret (v := .agg #[.slice A N C, .bool E, .int .i64 R]) (results_cell_row (fn := Tryd.f50) (p := 4) (ty := 89) rfl _ _ (g + 1) _ _ _ _ rfl hq Tryd.underlying89 rfl (by kernel_rfl)) rfl ?_
    refine ⟨rfl, ?_⟩
    rw [HW.out.2]
    exact hb3.trans ((kp_set3_21 u3 (g + 1) _ _ _).below (fun i e => by omega) (by have := hb3.size; have := HW.out.2; omega))
end Go.Proofs.YtmjlpfmacblcpaaDoor
