
import Derived.Test.YtidcdbdlaonoeaaGreatFd2
namespace Go.Proofs.YtidcdbdlaonoeaaGreat
open Go.RowKit
set_option linter.unusedVariables false

/-! FindNone: indexes that no call made. -/
structure NoI14 (w : World) (v : Value) : Prop where
  md : ∀ W, Below w.heap.size w W → Calls Tryz.prog 35 #[v] W fun e w' => e = .returned (.bool false) ∧ w' = W
theorem NoI14.nil (w : World) : NoI14 w (.pointer none) := ⟨fun W _ => pmaden13 W⟩
theorem NoI14.zero {w : World} {b : Nat} (h : w.cell? ⟨b, 2, none⟩ = some .nilFunc) : NoI14 w (.pointer (some ⟨b, 0, none⟩)) :=
  ⟨fun W hW => pmadez13 b W ((hW.cell (p := ⟨b, 2, none⟩) (World.block_lt_of_cell? w _ h)).trans h)⟩
theorem NoI14.old {w w' : World} {v : Value} (h : NoI14 w v) (hb : Below w.heap.size w w') : NoI14 w' v := ⟨fun W hW => h.md W (hb.trans (hW.mono hb.size))⟩
set_option maxRecDepth 100000 in
theorem nref14 (v : Value) (pa : Option Addr) (m pc : Nat) (w : World) (h : NoI14 w v) :
    Calls Tryz.prog 37 #[v, .slice pa m pc] w fun e w' => e = .returned (.int .i64 2) ∧ w' = w := by
  have HMD := h.md w (Below.refl _ _)
  clear h
  go_enter Tryz.func37, Tryz.ntmps37
  go_wp2_with (first
    | (go_at_call 35; refine HMD.mono ?_; rintro e1 w1 ⟨rfl, hw1⟩; subst hw1))
  go_ret
  exact ⟨rfl, rfl⟩
set_option maxRecDepth 100000 in
theorem nat14 (v : Value) (i : Int) (w : World) (h : NoI14 w v) :
    Calls Tryz.prog 17 #[v, .int .i64 i] w fun e w' => e = .returned (.tuple #[.int .i64 0, .int .i64 2]) ∧ Below w.heap.size w w' := by
  have B1 : Below w.heap.size w (w.alloc (.cells #[.int .i64 i] 3)) := (Below.refl _ _).alloc (Nat.le_refl _) _
  have HR := nref14 v (some ⟨w.heap.size, 0, none⟩) 1 1 _ (h.old B1)
  clear h
  go_enter Tryz.func17, Tryz.ntmps17
  go_wp2_with (first
    | (go_at_call 37; refine HR.mono ?_; rintro e1 w2 ⟨rfl, hw1⟩; rw [← hw1] at B1; clear hw1 HR))
  refine bodyPost_ret (results_tmp2 rfl _ _ _) rfl ?_
  exact ⟨rfl, B1⟩
set_option maxRecDepth 100000 in
theorem nmd14 (v : Value) (w : World) (h : NoI14 w v) :
    Calls Tryz.prog 13 #[v] w fun e w' => e = .returned (.bool false) ∧ Below w.heap.size w w' := by
  have HA := nat14 v 0 w h
  clear h
  go_enter Tryz.func13, Tryz.ntmps13
  go_wp2_with (first
    | (go_at_call 17; refine HA.mono ?_; rintro e1 w1 ⟨rfl, B1⟩))
  go_ret
  exact ⟨rfl, B1⟩
theorem results_cc14 {P : Program} {fn : Func} {p q : Tmp} {t u : TypeId} (h : fn.results = #[.cell p t, .cell q u]) (tmps : Array Value) (w : World) (a b : Addr) (x y : Value) (hp : tmps.getD p undef = .pointer (some a)) (hq : tmps.getD q undef = .pointer (some b)) (h1 : (loadVar t a).run P w = .ok x w) (h2 : (loadVar u b).run P w = .ok y w) :
    (results fn tmps).run P w = .ok (.tuple #[x, y]) w := by
  rw [Array.getD_eq_getD_getElem?] at hp hq
  simp only [results, h]
  simp [Sem.run_bind, hp, hq, asAddr, h1, h2]
theorem load_one14 {P : Program} {W : World} {T : TypeId} {a : Addr} {x : Value} (ha : ∀ w, (isAgg T).run P w = .ok false w) (hc : W.cell? a = some x) : (loadVar T a).run P W = .ok x W := by
  simp [loadVar, Sem.run_bind, ha, hc]
theorem below_set14' {B r i : Nat} {w0 w : World} {x : Value} (hb : Below B w0 w) (hr : B ≤ r) : Below B w0 (w.setCell ⟨r, i, none⟩ x) :=
  ⟨hb.os, hb.tape, hb.output, by simpa using hb.size, fun k hk => by rw [heap_setCell_other _ ⟨r, i, none⟩ k x (by simp; omega)]; exact hb.block k hk⟩
set_option maxRecDepth 100000 in
set_option maxHeartbeats 1000000 in
theorem nmat14 (v : Value) (pa : Option Addr) (m pc : Nat) (w : World) (h : NoI14 w v) :
    Calls Tryz.prog 10 #[v, .slice pa m pc, .int .i64 1, .int .i64 1] w fun e w' => e = .returned (.tuple #[.slice none 0 0, .int .i64 2]) ∧ Below w.heap.size w w' := by
  obtain ⟨w0, hw0⟩ : ∃ w0, w0 = ((((w.alloc (.cells #[.slice pa m pc] 22)).alloc (.cells #[.int .i64 1] 3)).alloc (.cells #[.int .i64 1] 3)).alloc (.cells #[.slice none 0 0] 37)).alloc (.cells #[.int .i64 0] 29) := ⟨_, rfl⟩
  have BW : Below w.heap.size w w0 := by rw [hw0]; exact ((((((Below.refl _ _).alloc (Nat.le_refl _) _).alloc (by simp <;> omega) _).alloc (by simp <;> omega) _).alloc (by simp <;> omega) _).alloc (by simp <;> omega) _)
  have HM := nmd14 v w0 (h.old BW)
  have g3 : w0.heap[w.heap.size + 3]? = some (.cells #[.slice none 0 0] 37 (0, 0)) := by
    rw [hw0, heap_alloc_old _ _ (by simp)]
    have := heap_alloc_new (((w.alloc (.cells #[.slice pa m pc] 22)).alloc (.cells #[.int .i64 1] 3)).alloc (.cells #[.int .i64 1] 3)) (.cells #[.slice none 0 0] 37)
    simpa using this
  have g4 : w0.heap[w.heap.size + 4]? = some (.cells #[.int .i64 0] 29 (0, 0)) := by
    have := heap_alloc_new ((((w.alloc (.cells #[.slice pa m pc] 22)).alloc (.cells #[.int .i64 1] 3)).alloc (.cells #[.int .i64 1] 3)).alloc (.cells #[.slice none 0 0] 37)) (.cells #[.int .i64 0] 29)
    rw [hw0]
    simpa using this
  have HW0 : Hid (w0 = ((((w.alloc (.cells #[.slice pa m pc] 22)).alloc (.cells #[.int .i64 1] 3)).alloc (.cells #[.int .i64 1] 3)).alloc (.cells #[.slice none 0 0] 37)).alloc (.cells #[.int .i64 0] 29)) := hw0
  have hq3 := (Array.getElem?_eq_some_iff.1 g3).1
  have hq4 := (Array.getElem?_eq_some_iff.1 g4).1
  clear h hw0
  go_enter Tryz.func10, Tryz.ntmps10
  go_wp2_with (first
    | (go_at_call 13; fail))
  rw [← HW0.out]
  obtain ⟨q3, e3⟩ : ∃ q3, q3 = w.heap.size + 3 := ⟨_, rfl⟩
  obtain ⟨q4, e4⟩ : ∃ q4, q4 = w.heap.size + 4 := ⟨_, rfl⟩
  refine HM.mono ?_
  rintro e1 w1 ⟨rfl, B1⟩
  have k3 := (B1.block _ hq3).trans g3
  have k4 := (B1.block _ hq4).trans g4
  have c3 : w1.cell? ⟨w.heap.size + 3, 0, none⟩ = some (.slice none 0 0) := by simp [World.cell?, k3]
  have c4 : w1.cell? ⟨w.heap.size + 4, 0, none⟩ = some (.int .i64 0) := by simp [World.cell?, k4]
  have f3 : w1.frozen? ⟨w.heap.size + 3, 0, none⟩ = false := by simp [World.frozen?, k3]
  have f4 : w1.frozen? ⟨w.heap.size + 4, 0, none⟩ = false := by simp [World.frozen?, k4]
  have BF := BW.trans (B1.mono BW.size)
  clear e3 e4
  go_wp2_with fail
  have m3 := heap_setCell_same w1 (w.heap.size + 3) 0 _ _ (.slice none 0 0) k3
  have m4 : (w1.setCell ⟨w.heap.size + 3, 0, none⟩ (.slice none 0 0)).heap[w.heap.size + 4]? = some (.cells #[.int .i64 0] 29 (0, 0)) := by
    rw [heap_setCell_other _ ⟨w.heap.size + 3, 0, none⟩ _ _ (by simp)]
    exact k4
  have n4 := heap_setCell_same _ (w.heap.size + 4) 0 _ _ (.int .i64 2) m4
  have n3 := (heap_setCell_other (w1.setCell ⟨w.heap.size + 3, 0, none⟩ (.slice none 0 0)) ⟨w.heap.size + 4, 0, none⟩ (w.heap.size + 3) (.int .i64 2) (by simp)).trans m3
  have x3 : ((w1.setCell ⟨w.heap.size + 3, 0, none⟩ (.slice none 0 0)).setCell ⟨w.heap.size + 4, 0, none⟩ (.int .i64 2)).cell? ⟨w.heap.size + 3, 0, none⟩ = some (.slice none 0 0) := by simp [World.cell?, n3]
  have x4 : ((w1.setCell ⟨w.heap.size + 3, 0, none⟩ (.slice none 0 0)).setCell ⟨w.heap.size + 4, 0, none⟩ (.int .i64 2)).cell? ⟨w.heap.size + 4, 0, none⟩ = some (.int .i64 2) := by simp [World.cell?, n4]
  refine bodyPost_ret (results_cc14 rfl _ _ ⟨w.heap.size + 3, 0, none⟩ ⟨w.heap.size + 4, 0, none⟩ (.slice none 0 0) (.int .i64 2) rfl rfl (load_one14 Tryz.isAgg37 x3) (load_one14 Tryz.isAgg29 x4)) rfl ?_
  exact ⟨rfl, below_set14' (below_set14' BF (by omega)) (by omega)⟩
set_option maxRecDepth 100000 in
theorem nrng14 (v : Value) (pa : Option Addr) (m pc : Nat) (w : World) (h : NoI14 w v) :
    Calls Tryz.prog 4 #[v, .slice pa m pc] w fun e w' => e = .returned (.tuple #[.int .i64 0, .int .i64 0, .int .i64 2]) ∧ Below w.heap.size w w' := by
  have HM := nmd14 v w h
  clear h
  go_enter Tryz.func4, Tryz.ntmps4
  go_wp2_with (first
    | (go_at_call 13; refine HM.mono ?_; rintro e1 w1 ⟨rfl, B1⟩))
  go_ret3
  exact ⟨rfl, B1⟩
set_option maxRecDepth 100000 in
theorem ncnt14 (v : Value) (pa : Option Addr) (m pc : Nat) (w : World) (h : NoI14 w v) :
    Calls Tryz.prog 5 #[v, .slice pa m pc] w fun e w' => e = .returned (.tuple #[.int .i64 0, .int .i64 2]) ∧ Below w.heap.size w w' := by
  have HM := nrng14 v pa m pc w h
  clear h
  go_enter Tryz.func5, Tryz.ntmps5
  go_wp2_with (first
    | (go_at_call 4; refine HM.mono ?_; rintro e1 w1 ⟨rfl, B1⟩))
  refine bodyPost_ret (results_tmp2 rfl _ _ _) rfl ?_
  exact ⟨rfl, B1⟩
set_option maxRecDepth 100000 in
theorem nall14 (v : Value) (pa : Option Addr) (m pc : Nat) (w : World) (h : NoI14 w v) :
    Calls Tryz.prog 6 #[v, .slice pa m pc] w fun e w' => e = .returned (.tuple #[.slice none 0 0, .int .i64 2]) ∧ Below w.heap.size w w' := by
  have HM := nrng14 v pa m pc w h
  clear h
  go_enter Tryz.func6, Tryz.ntmps6
  go_wp2_with (first
    | (go_at_call 4; refine HM.mono ?_; rintro e1 w1 ⟨rfl, B1⟩))
  refine bodyPost_ret (results_tmp2 rfl _ _ _) rfl ?_
  exact ⟨rfl, B1⟩
set_option maxRecDepth 100000 in
theorem nlng14 (v : Value) (pa : Option Addr) (m pc : Nat) (w : World) (h : NoI14 w v) :
    Calls Tryz.prog 7 #[v, .slice pa m pc] w fun e w' => e = .returned (.tuple #[.int .i64 0, .int .i64 0, .int .i64 2]) ∧ Below w.heap.size w w' := by
  have HM := nmd14 v w h
  clear h
  go_enter Tryz.func7, Tryz.ntmps7
  go_wp2_with (first
    | (go_at_call 13; refine HM.mono ?_; rintro e1 w1 ⟨rfl, B1⟩))
  go_ret3
  exact ⟨rfl, B1⟩
set_option maxRecDepth 100000 in
theorem nsta14 (v : Value) (pa : Option Addr) (m pc : Nat) (w : World) (h : NoI14 w v) :
    Calls Tryz.prog 8 #[v, .slice pa m pc] w fun e w' => e = .returned (.tuple #[.slice none 0 0, .int .i64 2]) ∧ Below w.heap.size w w' := by
  have HM := nmd14 v w h
  clear h
  go_enter Tryz.func8, Tryz.ntmps8
  go_wp2_with (first
    | (go_at_call 13; refine HM.mono ?_; rintro e1 w1 ⟨rfl, B1⟩))
  refine bodyPost_ret (results_tmp2 rfl _ _ _) rfl ?_
  exact ⟨rfl, B1⟩
set_option maxRecDepth 100000 in
theorem ndis14 (v : Value) (pa : Option Addr) (m pc : Nat) (w : World) (h : NoI14 w v) :
    Calls Tryz.prog 9 #[v] w fun e w' => e = .returned (.tuple #[.int .i64 0, .int .i64 2]) ∧ Below w.heap.size w w' := by
  have HM := nmd14 v w h
  clear h
  go_enter Tryz.func9, Tryz.ntmps9
  go_wp2_with (first
    | (go_at_call 13; refine HM.mono ?_; rintro e1 w1 ⟨rfl, B1⟩))
  refine bodyPost_ret (results_tmp2 rfl _ _ _) rfl ?_
  exact ⟨rfl, B1⟩
set_option maxRecDepth 100000 in
theorem nfac14 (v : Value) (pa : Option Addr) (m pc : Nat) (w : World) (h : NoI14 w v) :
    Calls Tryz.prog 11 #[v, .slice pa m pc] w fun e w' => e = .returned (.tuple #[.slice none 0 0, .int .i64 2]) ∧ Below w.heap.size w w' := by
  have HM := nmd14 v w h
  clear h
  go_enter Tryz.func11, Tryz.ntmps11
  go_wp2_with (first
    | (go_at_call 13; refine HM.mono ?_; rintro e1 w1 ⟨rfl, B1⟩))
  refine bodyPost_ret (results_tmp2 rfl _ _ _) rfl ?_
  exact ⟨rfl, B1⟩
set_option maxRecDepth 100000 in
set_option maxHeartbeats 8000000 in
theorem findNone_walk (w : World) (a : Option Addr) (z : List Int) (ca : Nat) (hs : Seg w a z) (hc : z.length ≤ ca) (hnil : a = none → ca = 0) (hl : z.length ≤ 140737488351232) :
    Calls Tryz.prog 3 #[.slice a z.length ca] w fun e w' => e = .returned (.bool true) ∧ Below w.heap.size w w' := by
  generalize z.length = n at *
  clear hs hnil
  have b1 : Below w.heap.size w (w.alloc (.cells #[.slice none 0 0, .slice none 0 0, .nilFunc] 27)) := (Below.refl _ _).alloc (Nat.le_refl _) _
  have hx1 := heap_alloc_new w (.cells #[.slice none 0 0, .slice none 0 0, .nilFunc] 27)
  have z1 : (w.alloc (.cells #[.slice none 0 0, .slice none 0 0, .nilFunc] 27)).heap.size = w.heap.size + 1 := by simp
  go_enter Tryz.func3, Tryz.ntmps3
  go_wp2_with fail
  generalize w.alloc (.cells #[.slice none 0 0, .slice none 0 0, .nilFunc] 27) = w1 at *
  obtain ⟨bx, ex⟩ : ∃ bx, bx = w.heap.size := ⟨_, rfl⟩
  obtain ⟨by_, ey⟩ : ∃ by_, by_ = bx + 1 := ⟨_, rfl⟩
  rw [← ex] at hx1
  rw [← ex, ← ey] at z1
  rw [← ex, ← ey]
  have hn1 : NoI14 w1 (.pointer (some ⟨bx, 0, none⟩)) := NoI14.zero (three_cell2 hx1)
  have b2 : Below w1.heap.size w1 (w1.alloc (.cells #[.pointer none, .pointer (some ⟨bx, 0, none⟩)] 23)) := (Below.refl _ _).alloc (Nat.le_refl _) _
  have q0 : (w1.alloc (.cells #[.pointer none, .pointer (some ⟨bx, 0, none⟩)] 23)).cell? ⟨by_, 0, none⟩ = some (.pointer none) := by rw [← z1, World.cell?_alloc_mark]; rfl
  have q1 : (w1.alloc (.cells #[.pointer none, .pointer (some ⟨bx, 0, none⟩)] 23)).cell? ⟨by_, 1, none⟩ = some (.pointer (some ⟨bx, 0, none⟩)) := by rw [← z1, World.cell?_alloc_mark]; rfl
  generalize w1.alloc (.cells #[.pointer none, .pointer (some ⟨bx, 0, none⟩)] 23) = w3 at *
  have hz3 : NoI14 w3 (.pointer (some ⟨bx, 0, none⟩)) := hn1.old b2
  have hn3 : NoI14 w3 (.pointer none) := NoI14.nil w3
  have HB3 : Hid (Below w.heap.size w w3) := b1.trans (b2.mono b1.size)
  have HQ1 : Hid (∀ W, Below w3.heap.size w3 W → W.cell? ⟨by_, 1, none⟩ = some (.pointer (some ⟨bx, 0, none⟩))) := fun W hW => (hW.cell (p := ⟨by_, 1, none⟩) (World.block_lt_of_cell? w3 _ q1)).trans q1
  clear q1 hn1 hx1 z1 ex ey b1 b2
  have B0' : Below w3.heap.size w3 w3 := Below.refl _ _
  have H0 : Hid (∀ v, NoI14 w3 v → ∀ W, Below w3.heap.size w3 W → Calls Tryz.prog 4 #[v, .slice a n ca] W fun e w' => e = .returned (.tuple #[.int .i64 0, .int .i64 0, .int .i64 2]) ∧ Below w3.heap.size w3 w') := fun v hv W hb => (nrng14 v a n ca W (hv.old hb)).mono fun e w' ⟨he, hB⟩ => ⟨he, hb.trans (hB.mono hb.size)⟩
  have H1 : Hid (∀ v, NoI14 w3 v → ∀ W, Below w3.heap.size w3 W → Calls Tryz.prog 5 #[v, .slice a n ca] W fun e w' => e = .returned (.tuple #[.int .i64 0, .int .i64 2]) ∧ Below w3.heap.size w3 w') := fun v hv W hb => (ncnt14 v a n ca W (hv.old hb)).mono fun e w' ⟨he, hB⟩ => ⟨he, hb.trans (hB.mono hb.size)⟩
  have H2 : Hid (∀ v, NoI14 w3 v → ∀ W, Below w3.heap.size w3 W → Calls Tryz.prog 6 #[v, .slice a n ca] W fun e w' => e = .returned (.tuple #[.slice none 0 0, .int .i64 2]) ∧ Below w3.heap.size w3 w') := fun v hv W hb => (nall14 v a n ca W (hv.old hb)).mono fun e w' ⟨he, hB⟩ => ⟨he, hb.trans (hB.mono hb.size)⟩
  have H3 : Hid (∀ v, NoI14 w3 v → ∀ W, Below w3.heap.size w3 W → Calls Tryz.prog 7 #[v, .slice a n ca] W fun e w' => e = .returned (.tuple #[.int .i64 0, .int .i64 0, .int .i64 2]) ∧ Below w3.heap.size w3 w') := fun v hv W hb => (nlng14 v a n ca W (hv.old hb)).mono fun e w' ⟨he, hB⟩ => ⟨he, hb.trans (hB.mono hb.size)⟩
  have H4 : Hid (∀ v, NoI14 w3 v → ∀ W, Below w3.heap.size w3 W → Calls Tryz.prog 8 #[v, .slice a n ca] W fun e w' => e = .returned (.tuple #[.slice none 0 0, .int .i64 2]) ∧ Below w3.heap.size w3 w') := fun v hv W hb => (nsta14 v a n ca W (hv.old hb)).mono fun e w' ⟨he, hB⟩ => ⟨he, hb.trans (hB.mono hb.size)⟩
  have H5 : Hid (∀ v, NoI14 w3 v → ∀ W, Below w3.heap.size w3 W → Calls Tryz.prog 9 #[v] W fun e w' => e = .returned (.tuple #[.int .i64 0, .int .i64 2]) ∧ Below w3.heap.size w3 w') := fun v hv W hb => (ndis14 v a n ca W (hv.old hb)).mono fun e w' ⟨he, hB⟩ => ⟨he, hb.trans (hB.mono hb.size)⟩
  have H6 : Hid (∀ v, NoI14 w3 v → ∀ W, Below w3.heap.size w3 W → Calls Tryz.prog 10 #[v, .slice a n ca, .int .i64 1, .int .i64 1] W fun e w' => e = .returned (.tuple #[.slice none 0 0, .int .i64 2]) ∧ Below w3.heap.size w3 w') := fun v hv W hb => (nmat14 v a n ca W (hv.old hb)).mono fun e w' ⟨he, hB⟩ => ⟨he, hb.trans (hB.mono hb.size)⟩
  have H7 : Hid (∀ v, NoI14 w3 v → ∀ W, Below w3.heap.size w3 W → Calls Tryz.prog 11 #[v, .slice a n ca] W fun e w' => e = .returned (.tuple #[.slice none 0 0, .int .i64 2]) ∧ Below w3.heap.size w3 w') := fun v hv W hb => (nfac14 v a n ca W (hv.old hb)).mono fun e w' ⟨he, hB⟩ => ⟨he, hb.trans (hB.mono hb.size)⟩
  refine wp_loop_rounds 3 ?_
  rw [rounds_succ]
  go_wp2_with (first
    | (go_at_call 4; refine (H0.out _ (by assumption) _ (by assumption)).mono ?_; rintro e0 W0 ⟨rfl, B0⟩)
    | (go_at_call 5; refine (H1.out _ (by assumption) _ (by assumption)).mono ?_; rintro e1 W1 ⟨rfl, B1⟩)
    | (go_at_call 6; refine (H2.out _ (by assumption) _ (by assumption)).mono ?_; rintro e2 W2 ⟨rfl, B2⟩)
    | (go_at_call 7; refine (H3.out _ (by assumption) _ (by assumption)).mono ?_; rintro e3 W3 ⟨rfl, B3⟩)
    | (go_at_call 8; refine (H4.out _ (by assumption) _ (by assumption)).mono ?_; rintro e4 W4 ⟨rfl, B4⟩)
    | (go_at_call 9; refine (H5.out _ (by assumption) _ (by assumption)).mono ?_; rintro e5 W5 ⟨rfl, B5⟩)
    | (go_at_call 10; refine (H6.out _ (by assumption) _ (by assumption)).mono ?_; rintro e6 W6 ⟨rfl, B6⟩)
    | (go_at_call 11; refine (H7.out _ (by assumption) _ (by assumption)).mono ?_; rintro e7 W7 ⟨rfl, B7⟩))
  have A1 : Below W7.heap.size W7 (W7.alloc (.cells #[.int .i64 2, .int .i64 2, .int .i64 2, .int .i64 2, .int .i64 2, .int .i64 2] 29)) := (Below.refl _ _).alloc (Nat.le_refl _) _
  have B8 := B7.trans (A1.mono B7.size)
  refine wp_loop_rounds 7 ?_
  rw [rounds_succ]
  go_wp2_with fail
  rw [rounds_succ]
  go_wp2_with fail
  rw [rounds_succ]
  go_wp2_with fail
  rw [rounds_succ]
  go_wp2_with fail
  rw [rounds_succ]
  go_wp2_with fail
  rw [rounds_succ]
  go_wp2_with fail
  rw [rounds_succ]
  go_wp2_with fail
  have q1 := HQ1.out _ B8
  clear B0' B0 B1 B2 B3 B4 B5 B6 B7
  rw [rounds_succ]
  go_wp2_with (first
    | (go_at_call 4; refine (H0.out _ (by assumption) _ (by assumption)).mono ?_; rintro e0 X0 ⟨rfl, C0⟩)
    | (go_at_call 5; refine (H1.out _ (by assumption) _ (by assumption)).mono ?_; rintro e1 X1 ⟨rfl, C1⟩)
    | (go_at_call 6; refine (H2.out _ (by assumption) _ (by assumption)).mono ?_; rintro e2 X2 ⟨rfl, C2⟩)
    | (go_at_call 7; refine (H3.out _ (by assumption) _ (by assumption)).mono ?_; rintro e3 X3 ⟨rfl, C3⟩)
    | (go_at_call 8; refine (H4.out _ (by assumption) _ (by assumption)).mono ?_; rintro e4 X4 ⟨rfl, C4⟩)
    | (go_at_call 9; refine (H5.out _ (by assumption) _ (by assumption)).mono ?_; rintro e5 X5 ⟨rfl, C5⟩)
    | (go_at_call 10; refine (H6.out _ (by assumption) _ (by assumption)).mono ?_; rintro e6 X6 ⟨rfl, C6⟩)
    | (go_at_call 11; refine (H7.out _ (by assumption) _ (by assumption)).mono ?_; rintro e7 X7 ⟨rfl, C7⟩))
  have A2 : Below X7.heap.size X7 (X7.alloc (.cells #[.int .i64 2, .int .i64 2, .int .i64 2, .int .i64 2, .int .i64 2, .int .i64 2] 29)) := (Below.refl _ _).alloc (Nat.le_refl _) _
  have C8 := C7.trans (A2.mono C7.size)
  refine wp_loop_rounds 7 ?_
  rw [rounds_succ]
  go_wp2_with fail
  rw [rounds_succ]
  go_wp2_with fail
  rw [rounds_succ]
  go_wp2_with fail
  rw [rounds_succ]
  go_wp2_with fail
  rw [rounds_succ]
  go_wp2_with fail
  rw [rounds_succ]
  go_wp2_with fail
  rw [rounds_succ]
  go_wp2_with fail
  rw [rounds_succ]
  go_wp2_with (first
    | (go_at_call 12; refine (pawk14 _).mono ?_; rintro e9 w9 ⟨rfl, B9⟩))
  go_ret
  exact ⟨rfl, HB3.out.trans ((C8.trans (B9.mono C8.size)).mono HB3.out.size)⟩
end Go.Proofs.YtidcdbdlaonoeaaGreat
