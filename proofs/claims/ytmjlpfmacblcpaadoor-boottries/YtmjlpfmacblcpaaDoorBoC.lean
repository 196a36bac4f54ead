import Derived.Test.YtmjlpfmacblcpaaDoorBoB
import Derived.Deep.CutRange
namespace Go.Proofs.YtmjlpfmacblcpaaDoor
open Go.RowKit
set_option linter.unusedVariables false
set_option linter.unusedSimpArgs false
theorem heap_alloc3_25 (w : World) (A B C : Obj) : (((w.alloc A).alloc B).alloc C).heap[w.heap.size + 2]? = some C := by
  have h := heap_alloc_new ((w.alloc A).alloc B) C
  have e : ((w.alloc A).alloc B).heap.size = w.heap.size + 2 := by simp
  rw [e] at h
  exact h
set_option maxRecDepth 100000 in
set_option maxHeartbeats 4000000 in
theorem pfirst25 (i : Im25) (w : World) : Calls Tryd.prog 31 #[.agg i.cs] w fun e w' => e = .returned (.tuple #[.agg (cd25 ⟨1, i, no25, 0⟩).cs, .int .i64 (ck25 ⟨1, i, no25, 0⟩)]) ∧ Below w.heap.size w w' := by
  have HC : Hid (∀ W, Calls Tryd.prog 81 #[.agg (⟨1, i, no25, 0⟩ : Rc25).cs] W fun e w' => e = .returned (.tuple #[.agg (cd25 ⟨1, i, no25, 0⟩).cs, .int .i64 (ck25 ⟨1, i, no25, 0⟩)]) ∧ Below W.heap.size W w') := fun W => pchk25 _ W
  obtain ⟨is, iv, iz, im⟩ := i
  unfold Im25.cs
  simp only
  generalize cd25 ⟨1, ⟨is, iv, iz, im⟩, no25, 0⟩ = D at *
  generalize ck25 ⟨1, ⟨is, iv, iz, im⟩, no25, 0⟩ = E at *
  obtain ⟨wB, hwB⟩ : ∃ wB, wB = (w.alloc (.cells #[.int .i64 is, .int .i64 iv, .int .i64 iz, .int .u32 im] 61)).alloc (.cells #[.int .i64 0, .int .i64 0, .int .i64 0, .int .i64 0, .int .u32 0, .int .i64 0, .int .i64 0, .int .i64 0, .int .u32 0, .int .i64 0] 63) := ⟨_, rfl⟩
  have bB : Below w.heap.size w wB := by rw [hwB]; exact (((Below.refl _ _).alloc (by simp <;> omega) _).alloc (by simp <;> omega) _)
  have q1 : wB.heap[w.heap.size]? = some (.cells #[.int .i64 is, .int .i64 iv, .int .i64 iz, .int .u32 im] 61 (0, 0)) := by rw [hwB, heap_alloc_old _ _ (by simp <;> omega)]; exact heap_alloc_new _ _
  have q2 : wB.heap[w.heap.size + 1]? = some (.cells #[.int .i64 0, .int .i64 0, .int .i64 0, .int .i64 0, .int .u32 0, .int .i64 0, .int .i64 0, .int .i64 0, .int .u32 0, .int .i64 0] 63 (0, 0)) := by rw [hwB]; exact heap_alloc2_new _ _ _
  have HQ : Hid (∀ V, Below wB.heap.size wB V → Below w.heap.size w V ∧ V.heap[w.heap.size]? = some (.cells #[.int .i64 is, .int .i64 iv, .int .i64 iz, .int .u32 im] 61 (0, 0)) ∧ V.heap[w.heap.size + 1]? = some (.cells #[.int .i64 0, .int .i64 0, .int .i64 0, .int .i64 0, .int .u32 0, .int .i64 0, .int .i64 0, .int .i64 0, .int .u32 0, .int .i64 0] 63 (0, 0))) := fun V hV => ⟨bB.trans (hV.mono bB.size), (hV.block _ (Array.getElem?_eq_some_iff.1 q1).1).trans q1, (hV.block _ (Array.getElem?_eq_some_iff.1 q2).1).trans q2⟩
  have HWB : Hid ((w.alloc (.cells #[.int .i64 is, .int .i64 iv, .int .i64 iz, .int .u32 im] 61)).alloc (.cells #[.int .i64 0, .int .i64 0, .int .i64 0, .int .i64 0, .int .u32 0, .int .i64 0, .int .i64 0, .int .i64 0, .int .u32 0, .int .i64 0] 63) = wB) := hwB.symm
  clear bB hwB q1 q2
  go_enter Tryd.func31, Tryd.ntmps31
  go_wp2_with fail
  rw [HWB.out]
  refine (HC.out wB).mono ?_
  rintro e1 w1 ⟨rfl, b1⟩
  have HX := (HQ.out w1 b1)
  have HX : Hid (w1.heap[w.heap.size + 1]? = some (.cells #[.int .i64 0, .int .i64 0, .int .i64 0, .int .i64 0, .int .u32 0, .int .i64 0, .int .i64 0, .int .i64 0, .int .u32 0, .int .i64 0] 63 (0, 0)) ∧ Below w.heap.size w w1) := ⟨HX.2.2, HX.1⟩
  clear b1
  go_wp2_with (refine wpList_store_row rfl 63 (.tmp 2) (.tmp 7) rfl (w.heap.size + 1) D.cs rfl rfl _ _ HX.out.1 info_rc25 rfl (row_rc25 D) ?_)
  refine bodyPost_ret (v := .tuple #[.agg D.cs, .int .i64 E]) (results_ct25 (fn := Tryd.f31) (p := 2) (u := 3) (ty := 63) rfl _ _ (w.heap.size + 1) _ D.cs _ _ rfl (set_row25 HX.out.1) Tryd.underlying63 rfl info_rc25) rfl ?_
  exact ⟨rfl, below_row25 HX.out.2 (by omega) _⟩
set_option maxRecDepth 100000 in
set_option maxHeartbeats 8000000 in
theorem poffer25 (r : Rc25) (i : Im25) (k : Int) (w : World) : Calls Tryd.prog 33 #[.agg r.cs, .agg i.cs, .int .i64 k] w fun e w' => e = .returned (.tuple #[.agg (of25 r i k).1.cs, .int .i64 (of25 r i k).2]) ∧ Below w.heap.size w w' := by
  have HC : Hid (∀ W, Calls Tryd.prog 36 #[.agg r.cs] W fun e w' => e = .returned (.int .i64 (ck25 r)) ∧ Below W.heap.size W w') := fun W => pcheck25 r W
  have HK : Hid (∀ W, Calls Tryd.prog 81 #[.agg (⟨r.q, r.g, i, k⟩ : Rc25).cs] W fun e w' => e = .returned (.tuple #[.agg (cd25 ⟨r.q, r.g, i, k⟩).cs, .int .i64 (ck25 ⟨r.q, r.g, i, k⟩)]) ∧ Below W.heap.size W w') := fun W => pchk25 _ W
  have HE : Hid (of25 r i k = if r.may then (if 1 ≤ k ∧ k ≤ 15 then (if i.v < r.g.v then (zr25, 252) else (cd25 ⟨r.q, r.g, i, k⟩, ck25 ⟨r.q, r.g, i, k⟩)) else (zr25, 1)) else (zr25, 250)) := rfl
  have HM : Hid (ck25 r = if r.may then 0 else 250) := rfl
  obtain ⟨q, ⟨gs, gv, gz, gm⟩, ⟨ns, nv, nz, nm⟩, t⟩ := r
  obtain ⟨is, iv, iz, im⟩ := i
  generalize of25 (⟨q, ⟨gs, gv, gz, gm⟩, ⟨ns, nv, nz, nm⟩, t⟩ : Rc25) ⟨is, iv, iz, im⟩ k = R at *
  generalize hD : cd25 (⟨q, ⟨gs, gv, gz, gm⟩, ⟨is, iv, iz, im⟩, k⟩ : Rc25) = D at *
  generalize hN : ck25 (⟨q, ⟨gs, gv, gz, gm⟩, ⟨is, iv, iz, im⟩, k⟩ : Rc25) = N at *
  generalize hE : ck25 (⟨q, ⟨gs, gv, gz, gm⟩, ⟨ns, nv, nz, nm⟩, t⟩ : Rc25) = E at *
  unfold Rc25.cs at HC HK
  unfold Im25.cs
  rw [show (Rc25.cs (⟨q, ⟨gs, gv, gz, gm⟩, ⟨ns, nv, nz, nm⟩, t⟩ : Rc25)) = #[.int .i64 q, .int .i64 gs, .int .i64 gv, .int .i64 gz, .int .u32 gm, .int .i64 ns, .int .i64 nv, .int .i64 nz, .int .u32 nm, .int .i64 t] from rfl]
  simp only at HC HK HE HM ⊢
  clear hD hN hE
  obtain ⟨wB, hwB⟩ : ∃ wB, wB = ((w.alloc (.cells #[.int .i64 q, .int .i64 gs, .int .i64 gv, .int .i64 gz, .int .u32 gm, .int .i64 ns, .int .i64 nv, .int .i64 nz, .int .u32 nm, .int .i64 t] 63)).alloc (.cells #[.int .i64 is, .int .i64 iv, .int .i64 iz, .int .u32 im] 61)).alloc (.cells #[.int .i64 0, .int .i64 0, .int .i64 0, .int .i64 0, .int .u32 0, .int .i64 0, .int .i64 0, .int .i64 0, .int .u32 0, .int .i64 0] 63) := ⟨_, rfl⟩
  have bB : Below w.heap.size w wB := by rw [hwB]; exact ((((Below.refl _ _).alloc (by simp <;> omega) _).alloc (by simp <;> omega) _).alloc (by simp <;> omega) _)
  have q1 : wB.heap[w.heap.size]? = some (.cells #[.int .i64 q, .int .i64 gs, .int .i64 gv, .int .i64 gz, .int .u32 gm, .int .i64 ns, .int .i64 nv, .int .i64 nz, .int .u32 nm, .int .i64 t] 63 (0, 0)) := by rw [hwB, heap_alloc_old _ _ (by simp <;> omega), heap_alloc_old _ _ (by simp <;> omega)]; exact heap_alloc_new _ _
  have q2 : wB.heap[w.heap.size + 1]? = some (.cells #[.int .i64 is, .int .i64 iv, .int .i64 iz, .int .u32 im] 61 (0, 0)) := by rw [hwB, heap_alloc_old _ _ (by simp <;> omega)]; exact heap_alloc2_new _ _ _
  have q3 : wB.heap[w.heap.size + 2]? = some (.cells #[.int .i64 0, .int .i64 0, .int .i64 0, .int .i64 0, .int .u32 0, .int .i64 0, .int .i64 0, .int .i64 0, .int .u32 0, .int .i64 0] 63 (0, 0)) := by rw [hwB]; exact heap_alloc3_25 _ _ _ _
  have HQ : Hid (∀ V, Below wB.heap.size wB V → Below w.heap.size w V ∧ V.heap[w.heap.size]? = some (.cells #[.int .i64 q, .int .i64 gs, .int .i64 gv, .int .i64 gz, .int .u32 gm, .int .i64 ns, .int .i64 nv, .int .i64 nz, .int .u32 nm, .int .i64 t] 63 (0, 0)) ∧ V.heap[w.heap.size + 1]? = some (.cells #[.int .i64 is, .int .i64 iv, .int .i64 iz, .int .u32 im] 61 (0, 0)) ∧ V.heap[w.heap.size + 2]? = some (.cells #[.int .i64 0, .int .i64 0, .int .i64 0, .int .i64 0, .int .u32 0, .int .i64 0, .int .i64 0, .int .i64 0, .int .u32 0, .int .i64 0] 63 (0, 0))) := fun V hV => ⟨bB.trans (hV.mono bB.size), (hV.block _ (Array.getElem?_eq_some_iff.1 q1).1).trans q1, (hV.block _ (Array.getElem?_eq_some_iff.1 q2).1).trans q2, (hV.block _ (Array.getElem?_eq_some_iff.1 q3).1).trans q3⟩
  have HWB : Hid (((w.alloc (.cells #[.int .i64 q, .int .i64 gs, .int .i64 gv, .int .i64 gz, .int .u32 gm, .int .i64 ns, .int .i64 nv, .int .i64 nz, .int .u32 nm, .int .i64 t] 63)).alloc (.cells #[.int .i64 is, .int .i64 iv, .int .i64 iz, .int .u32 im] 61)).alloc (.cells #[.int .i64 0, .int .i64 0, .int .i64 0, .int .i64 0, .int .u32 0, .int .i64 0, .int .i64 0, .int .i64 0, .int .u32 0, .int .i64 0] 63) = wB) := hwB.symm
  clear bB hwB q1 q2 q3
  go_enter Tryd.func33, Tryd.ntmps33
  go_wp2_with fail
  rw [HWB.out]
  refine (HC.out wB).mono ?_
  rintro e1 w1 ⟨rfl, b1⟩
  obtain ⟨B1, x1, x2, x3⟩ := HQ.out w1 b1
  obtain ⟨c0, c1, c2, c3, c4, c5, c6, c7, c8, c9⟩ := cells25 (g := ⟨gs, gv, gz, gm⟩) (n := ⟨ns, nv, nz, nm⟩) x1
  have d0 : w1.cell? ⟨w.heap.size + 1, 0, none⟩ = some (.int .i64 is) := cell25 x2 rfl
  have d1 : w1.cell? ⟨w.heap.size + 1, 1, none⟩ = some (.int .i64 iv) := cell25 x2 rfl
  have d2 : w1.cell? ⟨w.heap.size + 1, 2, none⟩ = some (.int .i64 iz) := cell25 x2 rfl
  have d3 : w1.cell? ⟨w.heap.size + 1, 3, none⟩ = some (.int .u32 im) := cell25 x2 rfl
  have HX : Hid (w1.heap[w.heap.size]? = some (.cells #[.int .i64 q, .int .i64 gs, .int .i64 gv, .int .i64 gz, .int .u32 gm, .int .i64 ns, .int .i64 nv, .int .i64 nz, .int .u32 nm, .int .i64 t] 63 (0, 0)) ∧ w1.heap[w.heap.size + 2]? = some (.cells #[.int .i64 0, .int .i64 0, .int .i64 0, .int .i64 0, .int .u32 0, .int .i64 0, .int .i64 0, .int .i64 0, .int .u32 0, .int .i64 0] 63 (0, 0)) ∧ Below w.heap.size w w1) := ⟨x1, x3, B1⟩
  clear x1 x2 x3 B1 b1
  by_cases hm : (⟨q, ⟨gs, gv, gz, gm⟩, ⟨ns, nv, nz, nm⟩, t⟩ : Rc25).may
  rotate_left
  · have hr : R = (zr25, 250) := by rw [HE.out, if_neg hm]
    have he : E = 250 := by rw [HM.out, if_neg hm]
    clear hm HM HE
    subst hr he
    go_wp2_with (refine wpList_store_row rfl 63 (.tmp 6) (.tmp 13) rfl (w.heap.size + 2) #[.int .i64 0, .int .i64 0, .int .i64 0, .int .i64 0, .int .u32 0, .int .i64 0, .int .i64 0, .int .i64 0, .int .u32 0, .int .i64 0] rfl rfl _ _ HX.out.2.1 info_rc25 rfl (row_rc25 zr25) ?_)
    refine bodyPost_ret (v := .tuple #[.agg #[.int .i64 0, .int .i64 0, .int .i64 0, .int .i64 0, .int .u32 0, .int .i64 0, .int .i64 0, .int .i64 0, .int .u32 0, .int .i64 0], .int .i64 250]) (results_ct25 (fn := Tryd.f33) (p := 6) (u := 7) (ty := 63) rfl _ _ (w.heap.size + 2) _ #[.int .i64 0, .int .i64 0, .int .i64 0, .int .i64 0, .int .u32 0, .int .i64 0, .int .i64 0, .int .i64 0, .int .u32 0, .int .i64 0] _ _ rfl (set_row25 HX.out.2.1) Tryd.underlying63 rfl info_rc25) rfl ?_
    exact ⟨rfl, below_row25 HX.out.2.2 (by omega) _⟩
  have he : E = 0 := by rw [HM.out, if_pos hm]
  subst he
  by_cases hk : k < 1
  · have hr : R = (zr25, 1) := by rw [HE.out, if_pos hm, if_neg (by omega)]
    clear hm HM HE
    subst hr
    go_wp2_with (refine wpList_store_row rfl 63 (.tmp 6) (.tmp 21) rfl (w.heap.size + 2) #[.int .i64 0, .int .i64 0, .int .i64 0, .int .i64 0, .int .u32 0, .int .i64 0, .int .i64 0, .int .i64 0, .int .u32 0, .int .i64 0] rfl rfl _ _ HX.out.2.1 info_rc25 rfl (row_rc25 zr25) ?_)
    refine bodyPost_ret (v := .tuple #[.agg #[.int .i64 0, .int .i64 0, .int .i64 0, .int .i64 0, .int .u32 0, .int .i64 0, .int .i64 0, .int .i64 0, .int .u32 0, .int .i64 0], .int .i64 1]) (results_ct25 (fn := Tryd.f33) (p := 6) (u := 7) (ty := 63) rfl _ _ (w.heap.size + 2) _ #[.int .i64 0, .int .i64 0, .int .i64 0, .int .i64 0, .int .u32 0, .int .i64 0, .int .i64 0, .int .i64 0, .int .u32 0, .int .i64 0] _ _ rfl (set_row25 HX.out.2.1) Tryd.underlying63 rfl info_rc25) rfl ?_
    exact ⟨rfl, below_row25 HX.out.2.2 (by omega) _⟩
  by_cases hk2 : 15 < k
  · have hr : R = (zr25, 1) := by rw [HE.out, if_pos hm, if_neg (by omega)]
    clear hm HM HE
    subst hr
    go_wp2_with (refine wpList_store_row rfl 63 (.tmp 6) (.tmp 21) rfl (w.heap.size + 2) #[.int .i64 0, .int .i64 0, .int .i64 0, .int .i64 0, .int .u32 0, .int .i64 0, .int .i64 0, .int .i64 0, .int .u32 0, .int .i64 0] rfl rfl _ _ HX.out.2.1 info_rc25 rfl (row_rc25 zr25) ?_)
    refine bodyPost_ret (v := .tuple #[.agg #[.int .i64 0, .int .i64 0, .int .i64 0, .int .i64 0, .int .u32 0, .int .i64 0, .int .i64 0, .int .i64 0, .int .u32 0, .int .i64 0], .int .i64 1]) (results_ct25 (fn := Tryd.f33) (p := 6) (u := 7) (ty := 63) rfl _ _ (w.heap.size + 2) _ #[.int .i64 0, .int .i64 0, .int .i64 0, .int .i64 0, .int .u32 0, .int .i64 0, .int .i64 0, .int .i64 0, .int .u32 0, .int .i64 0] _ _ rfl (set_row25 HX.out.2.1) Tryd.underlying63 rfl info_rc25) rfl ?_
    exact ⟨rfl, below_row25 HX.out.2.2 (by omega) _⟩
  by_cases hv : iv < gv
  · have hr : R = (zr25, 252) := by rw [HE.out, if_pos hm, if_pos (by omega), if_pos hv]
    clear hm HM HE
    subst hr
    go_wp2_with (refine wpList_store_row rfl 63 (.tmp 6) (.tmp 28) rfl (w.heap.size + 2) #[.int .i64 0, .int .i64 0, .int .i64 0, .int .i64 0, .int .u32 0, .int .i64 0, .int .i64 0, .int .i64 0, .int .u32 0, .int .i64 0] rfl rfl _ _ HX.out.2.1 info_rc25 rfl (row_rc25 zr25) ?_)
    refine bodyPost_ret (v := .tuple #[.agg #[.int .i64 0, .int .i64 0, .int .i64 0, .int .i64 0, .int .u32 0, .int .i64 0, .int .i64 0, .int .i64 0, .int .u32 0, .int .i64 0], .int .i64 252]) (results_ct25 (fn := Tryd.f33) (p := 6) (u := 7) (ty := 63) rfl _ _ (w.heap.size + 2) _ #[.int .i64 0, .int .i64 0, .int .i64 0, .int .i64 0, .int .u32 0, .int .i64 0, .int .i64 0, .int .i64 0, .int .u32 0, .int .i64 0] _ _ rfl (set_row25 HX.out.2.1) Tryd.underlying63 rfl info_rc25) rfl ?_
    exact ⟨rfl, below_row25 HX.out.2.2 (by omega) _⟩
  have hr : R = (D, N) := by rw [HE.out, if_pos hm, if_pos (by omega), if_neg hv]
  clear hm HM HE
  subst hr
  have f5 := free_row25 HX.out.1 5
  have f6 := free_row25 HX.out.1 6
  have f7 := free_row25 HX.out.1 7
  have f8 := free_row25 HX.out.1 8
  have f9 := free_row25 HX.out.1 9
  obtain ⟨wS, hwS⟩ : ∃ wS, wS = ((((w1.setCell ⟨w.heap.size, 5, none⟩ (.int .i64 is)).setCell ⟨w.heap.size, 6, none⟩ (.int .i64 iv)).setCell ⟨w.heap.size, 7, none⟩ (.int .i64 iz)).setCell ⟨w.heap.size, 8, none⟩ (.int .u32 im)).setCell ⟨w.heap.size, 9, none⟩ (.int .i64 k) := ⟨_, rfl⟩
  have s1 : wS.heap[w.heap.size]? = some (.cells #[.int .i64 q, .int .i64 gs, .int .i64 gv, .int .i64 gz, .int .u32 gm, .int .i64 is, .int .i64 iv, .int .i64 iz, .int .u32 im, .int .i64 k] 63 (0, 0)) := by rw [hwS]; exact set_trial25 (set_next25 HX.out.1)
  have s2 : wS.heap[w.heap.size + 2]? = some (.cells #[.int .i64 0, .int .i64 0, .int .i64 0, .int .i64 0, .int .u32 0, .int .i64 0, .int .i64 0, .int .i64 0, .int .u32 0, .int .i64 0] 63 (0, 0)) := by rw [hwS]; (repeat rw [old_cell25 (by omega)]); exact HX.out.2.1
  have s3 : Below w.heap.size w wS := by rw [hwS]; exact below_cell25 (below_cell25 (below_cell25 (below_cell25 (below_cell25 HX.out.2.2 (Nat.le_refl _)) (Nat.le_refl _)) (Nat.le_refl _)) (Nat.le_refl _)) (Nat.le_refl _)
  have HWS : Hid (((((w1.setCell ⟨w.heap.size, 5, none⟩ (.int .i64 is)).setCell ⟨w.heap.size, 6, none⟩ (.int .i64 iv)).setCell ⟨w.heap.size, 7, none⟩ (.int .i64 iz)).setCell ⟨w.heap.size, 8, none⟩ (.int .u32 im)).setCell ⟨w.heap.size, 9, none⟩ (.int .i64 k) = wS) := hwS.symm
  have HS : Hid (∀ V, Below wS.heap.size wS V → V.heap[w.heap.size + 2]? = some (.cells #[.int .i64 0, .int .i64 0, .int .i64 0, .int .i64 0, .int .u32 0, .int .i64 0, .int .i64 0, .int .i64 0, .int .u32 0, .int .i64 0] 63 (0, 0)) ∧ Below w.heap.size w V) := fun V hV => ⟨(hV.block _ (Array.getElem?_eq_some_iff.1 s2).1).trans s2, s3.trans (hV.mono s3.size)⟩
  clear hwS s1 s2 s3
  go_wp2_with fail
  rw [HWS.out]
  refine (HK.out wS).mono ?_
  rintro e2 w2 ⟨rfl, b2⟩
  have HY : Hid _ := HS.out w2 b2
  clear b2
  go_wp2_with (refine wpList_store_row rfl 63 (.tmp 6) (.tmp 35) rfl (w.heap.size + 2) D.cs rfl rfl _ _ HY.out.1 info_rc25 rfl (row_rc25 D) ?_)
  refine bodyPost_ret (v := .tuple #[.agg D.cs, .int .i64 N]) (results_ct25 (fn := Tryd.f33) (p := 6) (u := 7) (ty := 63) rfl _ _ (w.heap.size + 2) _ D.cs _ _ rfl (set_row25 HY.out.1) Tryd.underlying63 rfl info_rc25) rfl ?_
  exact ⟨rfl, below_row25 HY.out.2 (by omega) _⟩
end Go.Proofs.YtmjlpfmacblcpaaDoor
