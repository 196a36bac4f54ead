import Derived.Test.YtmjlpfmacblcpaaDoorBoC
import Derived.Deep.CutRange
namespace Go.Proofs.YtmjlpfmacblcpaaDoor
open Go.RowKit
set_option linter.unusedVariables false
set_option linter.unusedSimpArgs false
set_option maxRecDepth 100000 in
set_option maxHeartbeats 8000000 in
theorem pconfirm25 (r : Rc25) (w : World) : Calls Tryd.prog 35 #[.agg r.cs] w fun e w' => e = .returned (.tuple #[.agg (cf25 r).1.cs, .int .i64 (cf25 r).2]) ∧ Below w.heap.size w w' := by
  have HC : Hid (∀ W, Calls Tryd.prog 36 #[.agg r.cs] W fun e w' => e = .returned (.int .i64 (ck25 r)) ∧ Below W.heap.size W w') := fun W => pcheck25 r W
  have HQE : Hid (∀ W, (binOp .eql 61 (.agg r.n.cs) (.agg no25.cs)).run Tryd.prog W = .ok (.bool (decide (r.n = no25))) W) := fun W => bei25 _ _ W
  have HE : Hid (cf25 r = if r.may then (if r.n = no25 then (zr25, 253) else (⟨r.q, r.n, no25, 0⟩, 0)) else (zr25, 250)) := rfl
  have HM : Hid (ck25 r = if r.may then 0 else 250) := rfl
  have HMY : Hid (r.may → (0 ≤ r.t ∧ r.t ≤ 15) ∧ (r.n = no25 → r.t = 0) ∧ (r.n ≠ no25 → 1 ≤ r.n.v)) := fun h => ⟨h.2.1, fun e => h.2.2.2.elim (fun x => x.2) (fun x => absurd e x.1), fun e => h.2.2.2.elim (fun x => absurd x.1 e) (fun x => Int.le_trans h.2.2.1.2.1 x.2.1.2.1)⟩
  obtain ⟨q, ⟨gs, gv, gz, gm⟩, ⟨ns, nv, nz, nm⟩, t⟩ := r
  generalize cf25 (⟨q, ⟨gs, gv, gz, gm⟩, ⟨ns, nv, nz, nm⟩, t⟩ : Rc25) = R at *
  generalize hE : ck25 (⟨q, ⟨gs, gv, gz, gm⟩, ⟨ns, nv, nz, nm⟩, t⟩ : Rc25) = E at *
  unfold Rc25.cs at HC
  rw [show (Rc25.cs (⟨q, ⟨gs, gv, gz, gm⟩, ⟨ns, nv, nz, nm⟩, t⟩ : Rc25)) = #[.int .i64 q, .int .i64 gs, .int .i64 gv, .int .i64 gz, .int .u32 gm, .int .i64 ns, .int .i64 nv, .int .i64 nz, .int .u32 nm, .int .i64 t] from rfl]
  simp only at HC HE HM HMY ⊢
  clear hE
  obtain ⟨wB, hwB⟩ : ∃ wB, wB = (w.alloc (.cells #[.int .i64 q, .int .i64 gs, .int .i64 gv, .int .i64 gz, .int .u32 gm, .int .i64 ns, .int .i64 nv, .int .i64 nz, .int .u32 nm, .int .i64 t] 63)).alloc (.cells #[.int .i64 0, .int .i64 0, .int .i64 0, .int .i64 0, .int .u32 0, .int .i64 0, .int .i64 0, .int .i64 0, .int .u32 0, .int .i64 0] 63) := ⟨_, rfl⟩
  have bB : Below w.heap.size w wB := by rw [hwB]; exact (((Below.refl _ _).alloc (by simp <;> omega) _).alloc (by simp <;> omega) _)
  have q1 : wB.heap[w.heap.size]? = some (.cells #[.int .i64 q, .int .i64 gs, .int .i64 gv, .int .i64 gz, .int .u32 gm, .int .i64 ns, .int .i64 nv, .int .i64 nz, .int .u32 nm, .int .i64 t] 63 (0, 0)) := by rw [hwB, heap_alloc_old _ _ (by simp <;> omega)]; exact heap_alloc_new _ _
  have q2 : wB.heap[w.heap.size + 1]? = some (.cells #[.int .i64 0, .int .i64 0, .int .i64 0, .int .i64 0, .int .u32 0, .int .i64 0, .int .i64 0, .int .i64 0, .int .u32 0, .int .i64 0] 63 (0, 0)) := by rw [hwB]; exact heap_alloc2_new _ _ _
  have HQ : Hid (∀ V, Below wB.heap.size wB V → Below w.heap.size w V ∧ V.heap[w.heap.size]? = some (.cells #[.int .i64 q, .int .i64 gs, .int .i64 gv, .int .i64 gz, .int .u32 gm, .int .i64 ns, .int .i64 nv, .int .i64 nz, .int .u32 nm, .int .i64 t] 63 (0, 0)) ∧ V.heap[w.heap.size + 1]? = some (.cells #[.int .i64 0, .int .i64 0, .int .i64 0, .int .i64 0, .int .u32 0, .int .i64 0, .int .i64 0, .int .i64 0, .int .u32 0, .int .i64 0] 63 (0, 0))) := fun V hV => ⟨bB.trans (hV.mono bB.size), (hV.block _ (Array.getElem?_eq_some_iff.1 q1).1).trans q1, (hV.block _ (Array.getElem?_eq_some_iff.1 q2).1).trans q2⟩
  have HWB : Hid ((w.alloc (.cells #[.int .i64 q, .int .i64 gs, .int .i64 gv, .int .i64 gz, .int .u32 gm, .int .i64 ns, .int .i64 nv, .int .i64 nz, .int .u32 nm, .int .i64 t] 63)).alloc (.cells #[.int .i64 0, .int .i64 0, .int .i64 0, .int .i64 0, .int .u32 0, .int .i64 0, .int .i64 0, .int .i64 0, .int .u32 0, .int .i64 0] 63) = wB) := hwB.symm
  clear bB hwB q1 q2
  go_enter Tryd.func35, Tryd.ntmps35
  go_wp2_with fail
  rw [HWB.out]
  refine (HC.out wB).mono ?_
  rintro e1 w1 ⟨rfl, b1⟩
  obtain ⟨B1, x1, x2⟩ := HQ.out w1 b1
  obtain ⟨c0, c1, c2, c3, c4, c5, c6, c7, c8, c9⟩ := cells25 (g := ⟨gs, gv, gz, gm⟩) (n := ⟨ns, nv, nz, nm⟩) x1
  have HX : Hid (w1.heap[w.heap.size]? = some (.cells #[.int .i64 q, .int .i64 gs, .int .i64 gv, .int .i64 gz, .int .u32 gm, .int .i64 ns, .int .i64 nv, .int .i64 nz, .int .u32 nm, .int .i64 t] 63 (0, 0)) ∧ w1.heap[w.heap.size + 1]? = some (.cells #[.int .i64 0, .int .i64 0, .int .i64 0, .int .i64 0, .int .u32 0, .int .i64 0, .int .i64 0, .int .i64 0, .int .u32 0, .int .i64 0] 63 (0, 0)) ∧ Below w.heap.size w w1) := ⟨x1, x2, B1⟩
  clear x1 x2 B1 b1
  by_cases hm : (⟨q, ⟨gs, gv, gz, gm⟩, ⟨ns, nv, nz, nm⟩, t⟩ : Rc25).may
  rotate_left
  · have hr : R = (zr25, 250) := by rw [HE.out, if_neg hm]
    have he : E = 250 := by rw [HM.out, if_neg hm]
    clear hm HM HE HMY
    subst hr he
    go_wp2_with (refine wpList_store_row rfl 63 (.tmp 2) (.tmp 9) rfl (w.heap.size + 1) #[.int .i64 0, .int .i64 0, .int .i64 0, .int .i64 0, .int .u32 0, .int .i64 0, .int .i64 0, .int .i64 0, .int .u32 0, .int .i64 0] rfl rfl _ _ HX.out.2.1 info_rc25 rfl (row_rc25 zr25) ?_)
    refine bodyPost_ret (v := .tuple #[.agg #[.int .i64 0, .int .i64 0, .int .i64 0, .int .i64 0, .int .u32 0, .int .i64 0, .int .i64 0, .int .i64 0, .int .u32 0, .int .i64 0], .int .i64 250]) (results_ct25 (fn := Tryd.f35) (p := 2) (u := 3) (ty := 63) rfl _ _ (w.heap.size + 1) _ #[.int .i64 0, .int .i64 0, .int .i64 0, .int .i64 0, .int .u32 0, .int .i64 0, .int .i64 0, .int .i64 0, .int .u32 0, .int .i64 0] _ _ rfl (set_row25 HX.out.2.1) Tryd.underlying63 rfl info_rc25) rfl ?_
    exact ⟨rfl, below_row25 HX.out.2.2 (by omega) _⟩
  have he : E = 0 := by rw [HM.out, if_pos hm]
  subst he
  have E1 := HQE.out w1
  unfold Im25.cs no25 at E1
  simp only at E1
  rw [show (⟨0, 0, 0, 0⟩ : Im25) = no25 from rfl] at E1
  by_cases hn : (⟨ns, nv, nz, nm⟩ : Im25) = no25
  · have hr : R = (zr25, 253) := by rw [HE.out, if_pos hm, if_pos hn]
    rw [decide_eq_true hn] at E1
    clear hm HM HE HMY hn
    subst hr
    go_wp2_with (first | refine wpList_bin25 rfl .eql 61 (.tmp 12) (.tmp 13) 61 rfl rfl rfl egi25 E1 ?_ | refine wpList_store_row rfl 63 (.tmp 2) (.tmp 15) rfl (w.heap.size + 1) #[.int .i64 0, .int .i64 0, .int .i64 0, .int .i64 0, .int .u32 0, .int .i64 0, .int .i64 0, .int .i64 0, .int .u32 0, .int .i64 0] rfl rfl _ _ HX.out.2.1 info_rc25 rfl (row_rc25 zr25) ?_)
    refine bodyPost_ret (v := .tuple #[.agg #[.int .i64 0, .int .i64 0, .int .i64 0, .int .i64 0, .int .u32 0, .int .i64 0, .int .i64 0, .int .i64 0, .int .u32 0, .int .i64 0], .int .i64 253]) (results_ct25 (fn := Tryd.f35) (p := 2) (u := 3) (ty := 63) rfl _ _ (w.heap.size + 1) _ #[.int .i64 0, .int .i64 0, .int .i64 0, .int .i64 0, .int .u32 0, .int .i64 0, .int .i64 0, .int .i64 0, .int .u32 0, .int .i64 0] _ _ rfl (set_row25 HX.out.2.1) Tryd.underlying63 rfl info_rc25) rfl ?_
    exact ⟨rfl, below_row25 HX.out.2.2 (by omega) _⟩
  have hr : R = ((⟨q, ⟨ns, nv, nz, nm⟩, ⟨0, 0, 0, 0⟩, 0⟩ : Rc25), 0) := by rw [HE.out, if_pos hm, if_neg hn]; rfl
  rw [decide_eq_false hn] at E1
  clear hm HM HE HMY hn
  subst hr
  have k1 : (w1.setRow w.heap.size #[.int .i64 q, .int .i64 ns, .int .i64 nv, .int .i64 nz, .int .u32 nm, .int .i64 ns, .int .i64 nv, .int .i64 nz, .int .u32 nm, .int .i64 t]).heap[w.heap.size]? = some (.cells #[.int .i64 q, .int .i64 ns, .int .i64 nv, .int .i64 nz, .int .u32 nm, .int .i64 ns, .int .i64 nv, .int .i64 nz, .int .u32 nm, .int .i64 t] 63 (0, 0)) := set_row25 HX.out.1
  have k2 : ((w1.setRow w.heap.size #[.int .i64 q, .int .i64 ns, .int .i64 nv, .int .i64 nz, .int .u32 nm, .int .i64 ns, .int .i64 nv, .int .i64 nz, .int .u32 nm, .int .i64 t]).setRow w.heap.size #[.int .i64 q, .int .i64 ns, .int .i64 nv, .int .i64 nz, .int .u32 nm, .int .i64 0, .int .i64 0, .int .i64 0, .int .u32 0, .int .i64 t]).heap[w.heap.size]? = some (.cells #[.int .i64 q, .int .i64 ns, .int .i64 nv, .int .i64 nz, .int .u32 nm, .int .i64 0, .int .i64 0, .int .i64 0, .int .u32 0, .int .i64 t] 63 (0, 0)) := set_row25 k1
  have k3 : (((w1.setRow w.heap.size #[.int .i64 q, .int .i64 ns, .int .i64 nv, .int .i64 nz, .int .u32 nm, .int .i64 ns, .int .i64 nv, .int .i64 nz, .int .u32 nm, .int .i64 t]).setRow w.heap.size #[.int .i64 q, .int .i64 ns, .int .i64 nv, .int .i64 nz, .int .u32 nm, .int .i64 0, .int .i64 0, .int .i64 0, .int .u32 0, .int .i64 t]).setRow w.heap.size #[.int .i64 q, .int .i64 ns, .int .i64 nv, .int .i64 nz, .int .u32 nm, .int .i64 0, .int .i64 0, .int .i64 0, .int .u32 0, .int .i64 0]).heap[w.heap.size]? = some (.cells #[.int .i64 q, .int .i64 ns, .int .i64 nv, .int .i64 nz, .int .u32 nm, .int .i64 0, .int .i64 0, .int .i64 0, .int .u32 0, .int .i64 0] 63 (0, 0)) := set_row25 k2
  have k4 : (((w1.setRow w.heap.size #[.int .i64 q, .int .i64 ns, .int .i64 nv, .int .i64 nz, .int .u32 nm, .int .i64 ns, .int .i64 nv, .int .i64 nz, .int .u32 nm, .int .i64 t]).setRow w.heap.size #[.int .i64 q, .int .i64 ns, .int .i64 nv, .int .i64 nz, .int .u32 nm, .int .i64 0, .int .i64 0, .int .i64 0, .int .u32 0, .int .i64 t]).setRow w.heap.size #[.int .i64 q, .int .i64 ns, .int .i64 nv, .int .i64 nz, .int .u32 nm, .int .i64 0, .int .i64 0, .int .i64 0, .int .u32 0, .int .i64 0]).heap[w.heap.size + 1]? = some (.cells #[.int .i64 0, .int .i64 0, .int .i64 0, .int .i64 0, .int .u32 0, .int .i64 0, .int .i64 0, .int .i64 0, .int .u32 0, .int .i64 0] 63 (0, 0)) := by rw [old_row25 _ (by omega), old_row25 _ (by omega), old_row25 _ (by omega)]; exact HX.out.2.1
  have k5 : Below w.heap.size w (((w1.setRow w.heap.size #[.int .i64 q, .int .i64 ns, .int .i64 nv, .int .i64 nz, .int .u32 nm, .int .i64 ns, .int .i64 nv, .int .i64 nz, .int .u32 nm, .int .i64 t]).setRow w.heap.size #[.int .i64 q, .int .i64 ns, .int .i64 nv, .int .i64 nz, .int .u32 nm, .int .i64 0, .int .i64 0, .int .i64 0, .int .u32 0, .int .i64 t]).setRow w.heap.size #[.int .i64 q, .int .i64 ns, .int .i64 nv, .int .i64 nz, .int .u32 nm, .int .i64 0, .int .i64 0, .int .i64 0, .int .u32 0, .int .i64 0]) := below_row25 (below_row25 (below_row25 HX.out.2.2 (Nat.le_refl _) _) (Nat.le_refl _) _) (Nat.le_refl _) _
  have HK : Hid _ := And.intro k1 (And.intro k2 (And.intro k3 (And.intro k4 k5)))
  clear k1 k2 k3 k4 k5
  go_wp2_with (first
    | (refine wpList_bin25 rfl .eql 61 (.tmp 12) (.tmp 13) 61 rfl rfl rfl egi25 E1 ?_)
    | (refine wpList_part25 rfl 61 (.tmp 19) (.tmp 17) rfl w.heap.size 1 [.int .i64 ns, .int .i64 nv, .int .i64 nz, .int .u32 nm] rfl rfl HX.out.1 info_im25 (row_im25 ⟨ns, nv, nz, nm⟩) (by simp) #[.int .i64 q, .int .i64 ns, .int .i64 nv, .int .i64 nz, .int .u32 nm, .int .i64 ns, .int .i64 nv, .int .i64 nz, .int .u32 nm, .int .i64 t] rfl ?_)
    | (refine wpList_part25 rfl 61 (.tmp 20) (.tmp 18) rfl w.heap.size 5 [.int .i64 0, .int .i64 0, .int .i64 0, .int .u32 0] rfl rfl HK.out.1 info_im25 (row_im25 no25) (by simp) #[.int .i64 q, .int .i64 ns, .int .i64 nv, .int .i64 nz, .int .u32 nm, .int .i64 0, .int .i64 0, .int .i64 0, .int .u32 0, .int .i64 t] rfl ?_)
    | (refine wpList_cell25 rfl 3 (.tmp 21) (.const (.int .i64 0)) rfl w.heap.size 9 .i64 0 rfl rfl HK.out.2.1 info_int25 (by simp) #[.int .i64 q, .int .i64 ns, .int .i64 nv, .int .i64 nz, .int .u32 nm, .int .i64 0, .int .i64 0, .int .i64 0, .int .u32 0, .int .i64 0] rfl ?_)
    | (refine wpList_load_row rfl 63 (.tmp 1) rfl w.heap.size rfl _ #[.int .i64 q, .int .i64 ns, .int .i64 nv, .int .i64 nz, .int .u32 nm, .int .i64 0, .int .i64 0, .int .i64 0, .int .u32 0, .int .i64 0] _ _ HK.out.2.2.1 Tryd.underlying63 rfl info_rc25 ?_)
    | (refine wpList_store_row rfl 63 (.tmp 2) (.tmp 22) rfl (w.heap.size + 1) #[.int .i64 q, .int .i64 ns, .int .i64 nv, .int .i64 nz, .int .u32 nm, .int .i64 0, .int .i64 0, .int .i64 0, .int .u32 0, .int .i64 0] rfl rfl _ _ HK.out.2.2.2.1 info_rc25 rfl (row_rc25 (⟨q, ⟨ns, nv, nz, nm⟩, ⟨0, 0, 0, 0⟩, 0⟩ : Rc25)) ?_))
  refine bodyPost_ret (v := .tuple #[.agg #[.int .i64 q, .int .i64 ns, .int .i64 nv, .int .i64 nz, .int .u32 nm, .int .i64 0, .int .i64 0, .int .i64 0, .int .u32 0, .int .i64 0], .int .i64 0]) (results_ct25 (fn := Tryd.f35) (p := 2) (u := 3) (ty := 63) rfl _ _ (w.heap.size + 1) _ #[.int .i64 q, .int .i64 ns, .int .i64 nv, .int .i64 nz, .int .u32 nm, .int .i64 0, .int .i64 0, .int .i64 0, .int .u32 0, .int .i64 0] _ _ rfl (set_row25 HK.out.2.2.2.1) Tryd.underlying63 rfl info_rc25) rfl ?_
  exact ⟨rfl, below_row25 HK.out.2.2.2.2 (by omega) _⟩
end Go.Proofs.YtmjlpfmacblcpaaDoor
