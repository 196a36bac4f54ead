
import Derived.Test.YtlbledagpoimaaaSuL1
import Derived.Deep.RegionHeld3
namespace Go.Proofs.Ytlbledagpoimaaa
open Go.RowKit
set_option linter.unusedVariables false

/-! SuffixMade: indexes that no call made. -/
structure NoI13 (w : World) (v : Value) : Prop where
  md : ∀ W, Below w.heap.size w W → Calls Try.prog 37 #[v] W fun e w' => e = .returned (.bool false) ∧ w' = W
theorem NoI13.nil (w : World) : NoI13 w (.pointer none) := ⟨fun W _ => pmaden13 W⟩
theorem NoI13.zero {w : World} {b : Nat} (h : w.cell? ⟨b, 2, none⟩ = some .nilFunc) : NoI13 w (.pointer (some ⟨b, 0, none⟩)) :=
  ⟨fun W hW => pmadez13 b W ((hW.cell (p := ⟨b, 2, none⟩) (World.block_lt_of_cell? w _ h)).trans h)⟩
theorem NoI13.old {w w' : World} {v : Value} (h : NoI13 w v) (hb : Below w.heap.size w w') : NoI13 w' v := ⟨fun W hW => h.md W (hb.trans (hW.mono hb.size))⟩
set_option maxRecDepth 100000 in
theorem nref13 (v : Value) (pa : Option Addr) (m pc : Nat) (w : World) (h : NoI13 w v) :
    Calls Try.prog 33 #[v, .slice pa m pc] w fun e w' => e = .returned (.int .i64 2) ∧ w' = w := by
  have HMD := h.md w (Below.refl _ _)
  clear h
  go_enter Try.func33, Try.ntmps33
  go_wp2_with (first
    | (go_at_call 37; refine HMD.mono ?_; rintro e1 w1 ⟨rfl, hw1⟩; subst hw1))
  go_ret
  exact ⟨rfl, rfl⟩
set_option maxRecDepth 100000 in
theorem nat13 (v : Value) (i : Int) (w : World) (h : NoI13 w v) :
    Calls Try.prog 24 #[v, .int .i64 i] w fun e w' => e = .returned (.tuple #[.int .i64 0, .int .i64 2]) ∧ Below w.heap.size w w' := by
  have B1 : Below w.heap.size w (w.alloc (.cells #[.int .i64 i] 3)) := (Below.refl _ _).alloc (Nat.le_refl _) _
  have HR := nref13 v (some ⟨w.heap.size, 0, none⟩) 1 1 _ (h.old B1)
  clear h
  go_enter Try.func24, Try.ntmps24
  go_wp2_with (first
    | (go_at_call 33; refine HR.mono ?_; rintro e1 w2 ⟨rfl, hw1⟩; rw [← hw1] at B1; clear hw1 HR))
  refine bodyPost_ret (results_tmp2 rfl _ _ _) rfl ?_
  exact ⟨rfl, B1⟩
set_option maxRecDepth 100000 in
theorem nrank13 (v : Value) (i : Int) (w : World) (h : NoI13 w v) :
    Calls Try.prog 25 #[v, .int .i64 i] w fun e w' => e = .returned (.tuple #[.int .i64 0, .int .i64 2]) ∧ Below w.heap.size w w' := by
  have B1 : Below w.heap.size w (w.alloc (.cells #[.int .i64 i] 3)) := (Below.refl _ _).alloc (Nat.le_refl _) _
  have HR := nref13 v (some ⟨w.heap.size, 0, none⟩) 1 1 _ (h.old B1)
  clear h
  go_enter Try.func25, Try.ntmps25
  go_wp2_with (first
    | (go_at_call 33; refine HR.mono ?_; rintro e1 w2 ⟨rfl, hw1⟩; rw [← hw1] at B1; clear hw1 HR))
  refine bodyPost_ret (results_tmp2 rfl _ _ _) rfl ?_
  exact ⟨rfl, B1⟩
set_option maxRecDepth 100000 in
theorem ncom13 (v : Value) (i k : Int) (w : World) (h : NoI13 w v) :
    Calls Try.prog 11 #[v, .int .i64 i, .int .i64 k] w fun e w' => e = .returned (.tuple #[.int .i64 0, .int .i64 2]) ∧ Below w.heap.size w w' := by
  have B1 : Below w.heap.size w (w.alloc (.cells #[.int .i64 i, .int .i64 k] 3)) := (Below.refl _ _).alloc (Nat.le_refl _) _
  have HR := nref13 v (some ⟨w.heap.size, 0, none⟩) 2 2 _ (h.old B1)
  clear h
  go_enter Try.func11, Try.ntmps11
  go_wp2_with (first
    | (go_at_call 33; refine HR.mono ?_; rintro e1 w2 ⟨rfl, hw1⟩; rw [← hw1] at B1; clear hw1 HR))
  refine bodyPost_ret (results_tmp2 rfl _ _ _) rfl ?_
  exact ⟨rfl, B1⟩
set_option maxRecDepth 100000 in
theorem ncmp13 (v : Value) (i : Int) (pa : Option Addr) (m pc : Nat) (w : World) (h : NoI13 w v) :
    Calls Try.prog 26 #[v, .int .i64 i, .slice pa m pc] w fun e w' => e = .returned (.tuple #[.int .i64 0, .int .i64 0, .int .i64 2]) ∧ Below w.heap.size w w' := by
  have B1 : Below w.heap.size w (w.alloc (.cells #[.int .i64 i] 3)) := (Below.refl _ _).alloc (Nat.le_refl _) _
  have HR := nref13 v (some ⟨w.heap.size, 0, none⟩) 1 1 _ (h.old B1)
  clear h
  go_enter Try.func26, Try.ntmps26
  go_wp2_with (first
    | (go_at_call 33; refine HR.mono ?_; rintro e1 w2 ⟨rfl, hw1⟩; rw [← hw1] at B1; clear hw1 HR))
  go_ret3
  exact ⟨rfl, B1⟩
set_option maxRecDepth 100000 in
theorem nlen13 (v : Value) (w : World) (h : NoI13 w v) : Calls Try.prog 23 #[v] w fun e w' => e = .returned (.int .i64 0) ∧ w' = w := by
  have HMD := h.md w (Below.refl _ _)
  clear h
  go_enter Try.func23, Try.ntmps23
  go_wp2_with (first
    | (go_at_call 37; refine HMD.mono ?_; rintro e1 w1 ⟨rfl, hw1⟩; subst hw1))
  go_ret
  exact ⟨rfl, rfl⟩
set_option maxRecDepth 100000 in
theorem ndat13 (v : Value) (w : World) (h : NoI13 w v) : Calls Try.prog 30 #[v] w fun e w' => e = .returned (.slice none 0 0) ∧ w' = w := by
  have HMD := h.md w (Below.refl _ _)
  clear h
  go_enter Try.func30, Try.ntmps30
  go_wp2_with (first
    | (go_at_call 37; refine HMD.mono ?_; rintro e1 w1 ⟨rfl, hw1⟩; subst hw1))
  go_ret
  exact ⟨rfl, rfl⟩
set_option maxRecDepth 100000 in
theorem narr13 (v : Value) (w : World) (h : NoI13 w v) : Calls Try.prog 19 #[v] w fun e w' => e = .returned (.slice none 0 0) ∧ w' = w := by
  have HMD := h.md w (Below.refl _ _)
  clear h
  go_enter Try.func19, Try.ntmps19
  go_wp2_with (first
    | (go_at_call 37; refine HMD.mono ?_; rintro e1 w1 ⟨rfl, hw1⟩; subst hw1))
  go_ret
  exact ⟨rfl, rfl⟩
set_option maxRecDepth 100000 in
theorem nlcp13 (v : Value) (w : World) (h : NoI13 w v) : Calls Try.prog 21 #[v] w fun e w' => e = .returned (.slice none 0 0) ∧ w' = w := by
  have HMD := h.md w (Below.refl _ _)
  clear h
  go_enter Try.func21, Try.ntmps21
  go_wp2_with (first
    | (go_at_call 37; refine HMD.mono ?_; rintro e1 w1 ⟨rfl, hw1⟩; subst hw1))
  go_ret
  exact ⟨rfl, rfl⟩
set_option maxRecDepth 100000 in
theorem nkth13 (v : Value) (k : Int) (w : World) (h : NoI13 w v) : Calls Try.prog 28 #[v, .int .i64 k] w fun e w' => e = .returned (.tuple #[.slice none 0 0, .int .i64 2]) ∧ w' = w := by
  have HMD := h.md w (Below.refl _ _)
  clear h
  go_enter Try.func28, Try.ntmps28
  go_wp2_with (first
    | (go_at_call 37; refine HMD.mono ?_; rintro e1 w1 ⟨rfl, hw1⟩; subst hw1))
  refine bodyPost_ret (results_tmp2 rfl _ _ _) rfl ?_
  exact ⟨rfl, rfl⟩
set_option maxRecDepth 100000 in
theorem nreps13 (v : Value) (k : Int) (w : World) (h : NoI13 w v) : Calls Try.prog 29 #[v, .int .i64 k] w fun e w' => e = .returned (.tuple #[.slice none 0 0, .int .i64 2]) ∧ w' = w := by
  have HMD := h.md w (Below.refl _ _)
  clear h
  go_enter Try.func29, Try.ntmps29
  go_wp2_with (first
    | (go_at_call 37; refine HMD.mono ?_; rintro e1 w1 ⟨rfl, hw1⟩; subst hw1))
  refine bodyPost_ret (results_tmp2 rfl _ _ _) rfl ?_
  exact ⟨rfl, rfl⟩
set_option maxRecDepth 100000 in
theorem nrep13 (v : Value) (w : World) (h : NoI13 w v) : Calls Try.prog 27 #[v] w fun e w' => e = .returned (.tuple #[.int .i64 0, .int .i64 0]) ∧ w' = w := by
  have HL := nlcp13 v w h
  clear h
  go_enter Try.func27, Try.ntmps27
  go_wp2_with (first
    | (go_at_call 21; refine HL.mono ?_; rintro e1 w1 ⟨rfl, hw1⟩; subst hw1))
  refine wp_loop_rounds 1 ?_
  rw [rounds_succ]
  go_wp2_with fail
  refine bodyPost_ret (results_tmp2 rfl _ _ _) rfl ?_
  exact ⟨rfl, rfl⟩
set_option maxRecDepth 100000 in
set_option maxHeartbeats 4000000 in
theorem suffixMade_walk (w : World) (i : Int) (hi0 : -9223372036854775808 ≤ i) (hi1 : i ≤ 9223372036854775807) (a : Option Addr) (z : List Int) (ca : Nat) (hs : Seg w a z) (hc : z.length ≤ ca) (hnil : a = none → ca = 0) (hl : z.length ≤ 140737488351232) :
    Calls Try.prog 8 #[.int .i64 i, .slice a z.length ca] w fun e w' => e = .returned (.bool true) ∧ Below w.heap.size w w' := by
  generalize z.length = n at *
  clear hs hnil
  have b1 : Below w.heap.size w (w.alloc (.cells #[.slice none 0 0, .slice none 0 0, .nilFunc] 49)) := (Below.refl _ _).alloc (Nat.le_refl _) _
  have hx1 := heap_alloc_new w (.cells #[.slice none 0 0, .slice none 0 0, .nilFunc] 49)
  have z1 : (w.alloc (.cells #[.slice none 0 0, .slice none 0 0, .nilFunc] 49)).heap.size = w.heap.size + 1 := by simp
  go_enter Try.func8, Try.ntmps8
  go_wp2_with fail
  generalize w.alloc (.cells #[.slice none 0 0, .slice none 0 0, .nilFunc] 49) = w1 at *
  obtain ⟨bx, ex⟩ : ∃ bx, bx = w.heap.size := ⟨_, rfl⟩
  obtain ⟨by_, ey⟩ : ∃ by_, by_ = bx + 1 := ⟨_, rfl⟩
  rw [← ex] at hx1
  rw [← ex, ← ey] at z1
  rw [← ex, ← ey]
  have hn1 : NoI13 w1 (.pointer (some ⟨bx, 0, none⟩)) := NoI13.zero (three_cell2 hx1)
  have b2 : Below w1.heap.size w1 (w1.alloc (.cells #[.pointer none, .pointer (some ⟨bx, 0, none⟩)] 24)) := (Below.refl _ _).alloc (Nat.le_refl _) _
  have q0 : (w1.alloc (.cells #[.pointer none, .pointer (some ⟨bx, 0, none⟩)] 24)).cell? ⟨by_, 0, none⟩ = some (.pointer none) := by rw [← z1, World.cell?_alloc_mark]; rfl
  have q1 : (w1.alloc (.cells #[.pointer none, .pointer (some ⟨bx, 0, none⟩)] 24)).cell? ⟨by_, 1, none⟩ = some (.pointer (some ⟨bx, 0, none⟩)) := by rw [← z1, World.cell?_alloc_mark]; rfl
  generalize w1.alloc (.cells #[.pointer none, .pointer (some ⟨bx, 0, none⟩)] 24) = w3 at *
  have hz3 : NoI13 w3 (.pointer (some ⟨bx, 0, none⟩)) := hn1.old b2
  have hn3 : NoI13 w3 (.pointer none) := NoI13.nil w3
  have HB3 : Hid (Below w.heap.size w w3) := b1.trans (b2.mono b1.size)
  have HQ1 : Hid (∀ W, Below w3.heap.size w3 W → W.cell? ⟨by_, 1, none⟩ = some (.pointer (some ⟨bx, 0, none⟩))) := fun W hW => (hW.cell (p := ⟨by_, 1, none⟩) (World.block_lt_of_cell? w3 _ q1)).trans q1
  clear q1 hn1 hx1 z1 ex ey b1 b2
  have B0 : Below w3.heap.size w3 w3 := Below.refl _ _
  have HAt : Hid (∀ v, NoI13 w3 v → ∀ W, Below w3.heap.size w3 W → Calls Try.prog 24 #[v, .int .i64 i] W fun e w' => e = .returned (.tuple #[.int .i64 0, .int .i64 2]) ∧ Below w3.heap.size w3 w') := fun v hv W hb => (nat13 v i W (hv.old hb)).mono fun e w' ⟨he, hB⟩ => ⟨he, hb.trans (hB.mono hb.size)⟩
  have HRa : Hid (∀ v, NoI13 w3 v → ∀ W, Below w3.heap.size w3 W → Calls Try.prog 25 #[v, .int .i64 i] W fun e w' => e = .returned (.tuple #[.int .i64 0, .int .i64 2]) ∧ Below w3.heap.size w3 w') := fun v hv W hb => (nrank13 v i W (hv.old hb)).mono fun e w' ⟨he, hB⟩ => ⟨he, hb.trans (hB.mono hb.size)⟩
  have HCo : Hid (∀ v, NoI13 w3 v → ∀ W, Below w3.heap.size w3 W → Calls Try.prog 11 #[v, .int .i64 i, .int .i64 i] W fun e w' => e = .returned (.tuple #[.int .i64 0, .int .i64 2]) ∧ Below w3.heap.size w3 w') := fun v hv W hb => (ncom13 v i i W (hv.old hb)).mono fun e w' ⟨he, hB⟩ => ⟨he, hb.trans (hB.mono hb.size)⟩
  have HCm : Hid (∀ v, NoI13 w3 v → ∀ W, Below w3.heap.size w3 W → Calls Try.prog 26 #[v, .int .i64 i, .slice a n ca] W fun e w' => e = .returned (.tuple #[.int .i64 0, .int .i64 0, .int .i64 2]) ∧ Below w3.heap.size w3 w') := fun v hv W hb => (ncmp13 v i a n ca W (hv.old hb)).mono fun e w' ⟨he, hB⟩ => ⟨he, hb.trans (hB.mono hb.size)⟩
  have HRe : Hid (∀ v, NoI13 w3 v → ∀ W, Below w3.heap.size w3 W → Calls Try.prog 27 #[v] W fun e w' => e = .returned (.tuple #[.int .i64 0, .int .i64 0]) ∧ Below w3.heap.size w3 w') := fun v hv W hb => (nrep13 v W (hv.old hb)).mono fun e w' ⟨he, hB⟩ => ⟨he, by rw [hB]; exact hb⟩
  have HKt : Hid (∀ v, NoI13 w3 v → ∀ W, Below w3.heap.size w3 W → Calls Try.prog 28 #[v, .int .i64 i] W fun e w' => e = .returned (.tuple #[.slice none 0 0, .int .i64 2]) ∧ Below w3.heap.size w3 w') := fun v hv W hb => (nkth13 v i W (hv.old hb)).mono fun e w' ⟨he, hB⟩ => ⟨he, by rw [hB]; exact hb⟩
  have HRs : Hid (∀ v, NoI13 w3 v → ∀ W, Below w3.heap.size w3 W → Calls Try.prog 29 #[v, .int .i64 1] W fun e w' => e = .returned (.tuple #[.slice none 0 0, .int .i64 2]) ∧ Below w3.heap.size w3 w') := fun v hv W hb => (nreps13 v 1 W (hv.old hb)).mono fun e w' ⟨he, hB⟩ => ⟨he, by rw [hB]; exact hb⟩
  have HLe : Hid (∀ v, NoI13 w3 v → ∀ W, Below w3.heap.size w3 W → Calls Try.prog 23 #[v] W fun e w' => e = .returned (.int .i64 0) ∧ Below w3.heap.size w3 w') := fun v hv W hb => (nlen13 v W (hv.old hb)).mono fun e w' ⟨he, hB⟩ => ⟨he, by rw [hB]; exact hb⟩
  have HDa : Hid (∀ v, NoI13 w3 v → ∀ W, Below w3.heap.size w3 W → Calls Try.prog 30 #[v] W fun e w' => e = .returned (.slice none 0 0) ∧ Below w3.heap.size w3 w') := fun v hv W hb => (ndat13 v W (hv.old hb)).mono fun e w' ⟨he, hB⟩ => ⟨he, by rw [hB]; exact hb⟩
  have HAr : Hid (∀ v, NoI13 w3 v → ∀ W, Below w3.heap.size w3 W → Calls Try.prog 19 #[v] W fun e w' => e = .returned (.slice none 0 0) ∧ Below w3.heap.size w3 w') := fun v hv W hb => (narr13 v W (hv.old hb)).mono fun e w' ⟨he, hB⟩ => ⟨he, by rw [hB]; exact hb⟩
  have HLc : Hid (∀ v, NoI13 w3 v → ∀ W, Below w3.heap.size w3 W → Calls Try.prog 21 #[v] W fun e w' => e = .returned (.slice none 0 0) ∧ Below w3.heap.size w3 w') := fun v hv W hb => (nlcp13 v W (hv.old hb)).mono fun e w' ⟨he, hB⟩ => ⟨he, by rw [hB]; exact hb⟩
  refine wp_loop_rounds 3 ?_
  rw [rounds_succ]
  go_wp2_with (first
    | (go_at_call 24; refine (HAt.out _ (by assumption) _ (by assumption)).mono ?_; rintro e1 W1 ⟨rfl, B1⟩)
    | (go_at_call 25; refine (HRa.out _ (by assumption) _ (by assumption)).mono ?_; rintro e2 W2 ⟨rfl, B2⟩)
    | (go_at_call 11; refine (HCo.out _ (by assumption) _ (by assumption)).mono ?_; rintro e3 W3 ⟨rfl, B3⟩)
    | (go_at_call 26; refine (HCm.out _ (by assumption) _ (by assumption)).mono ?_; rintro e4 W4 ⟨rfl, B4⟩)
    | (go_at_call 27; refine (HRe.out _ (by assumption) _ (by assumption)).mono ?_; rintro e5 W5 ⟨rfl, B5⟩)
    | (go_at_call 28; refine (HKt.out _ (by assumption) _ (by assumption)).mono ?_; rintro e6 W6 ⟨rfl, B6⟩)
    | (go_at_call 29; refine (HRs.out _ (by assumption) _ (by assumption)).mono ?_; rintro e7 W7 ⟨rfl, B7⟩)
    | (go_at_call 23; refine (HLe.out _ (by assumption) _ (by assumption)).mono ?_; rintro e8 W8 ⟨rfl, B8⟩)
    | (go_at_call 30; refine (HDa.out _ (by assumption) _ (by assumption)).mono ?_; rintro e9 W9 ⟨rfl, B9⟩)
    | (go_at_call 19; refine (HAr.out _ (by assumption) _ (by assumption)).mono ?_; rintro e10 W10 ⟨rfl, B10⟩)
    | (go_at_call 21; refine (HLc.out _ (by assumption) _ (by assumption)).mono ?_; rintro e11 W11 ⟨rfl, B11⟩))
  have q1 := HQ1.out W11 B11
  clear B0 B1 B2 B3 B4 B5 B6 B7 B8 B9 B10
  rw [rounds_succ]
  go_wp2_with (first
    | (go_at_call 24; refine (HAt.out _ (by assumption) _ (by assumption)).mono ?_; rintro e1 X1 ⟨rfl, C1⟩)
    | (go_at_call 25; refine (HRa.out _ (by assumption) _ (by assumption)).mono ?_; rintro e2 X2 ⟨rfl, C2⟩)
    | (go_at_call 11; refine (HCo.out _ (by assumption) _ (by assumption)).mono ?_; rintro e3 X3 ⟨rfl, C3⟩)
    | (go_at_call 26; refine (HCm.out _ (by assumption) _ (by assumption)).mono ?_; rintro e4 X4 ⟨rfl, C4⟩)
    | (go_at_call 27; refine (HRe.out _ (by assumption) _ (by assumption)).mono ?_; rintro e5 X5 ⟨rfl, C5⟩)
    | (go_at_call 28; refine (HKt.out _ (by assumption) _ (by assumption)).mono ?_; rintro e6 X6 ⟨rfl, C6⟩)
    | (go_at_call 29; refine (HRs.out _ (by assumption) _ (by assumption)).mono ?_; rintro e7 X7 ⟨rfl, C7⟩)
    | (go_at_call 23; refine (HLe.out _ (by assumption) _ (by assumption)).mono ?_; rintro e8 X8 ⟨rfl, C8⟩)
    | (go_at_call 30; refine (HDa.out _ (by assumption) _ (by assumption)).mono ?_; rintro e9 X9 ⟨rfl, C9⟩)
    | (go_at_call 19; refine (HAr.out _ (by assumption) _ (by assumption)).mono ?_; rintro e10 X10 ⟨rfl, C10⟩)
    | (go_at_call 21; refine (HLc.out _ (by assumption) _ (by assumption)).mono ?_; rintro e11 X11 ⟨rfl, C11⟩))
  rw [rounds_succ]
  go_wp2_with (first
    | (go_at_call 9; refine (plives13 _).mono ?_; rintro e5 w5 ⟨rfl, B5⟩))
  go_ret
  exact ⟨rfl, HB3.out.trans ((C11.trans (B5.mono C11.size)).mono HB3.out.size)⟩
end Go.Proofs.Ytlbledagpoimaaa
