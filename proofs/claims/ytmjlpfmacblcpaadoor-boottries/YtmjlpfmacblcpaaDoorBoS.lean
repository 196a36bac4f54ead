import Derived.Test.YtmjlpfmacblcpaaDoorBoC
import Derived.Deep.CutRange
import Derived.Test.YtmjlpfmacblcpaaDoorEdK
namespace Go.Proofs.YtmjlpfmacblcpaaDoor
open Go.RowKit
set_option linter.unusedVariables false
set_option linter.unusedSimpArgs false
set_option maxRecDepth 100000 in
set_option maxHeartbeats 16000000 in
theorem pstart25 (r : Rc25) (w : World) : Calls Tryd.prog 34 #[.agg r.cs] w fun e w' => e = .returned (.tuple #[.agg (st25 r).1.cs, .agg (st25 r).2.1.cs, .int .i64 (st25 r).2.2]) ∧ Below w.heap.size w w' := by
  have HC : Hid (∀ W, Calls Tryd.prog 36 #[.agg r.cs] W fun e w' => e = .returned (.int .i64 (ck25 r)) ∧ Below W.heap.size W w') := fun W => pcheck25 r W
  have HE : Hid (st25 r = if r.may then (if 0 < r.t then (⟨r.q, r.g, r.n, r.t - 1⟩, r.n, 0) else (⟨r.q, r.g, no25, r.t⟩, r.g, 0)) else (zr25, no25, 250)) := rfl
  have HM : Hid (ck25 r = if r.may then 0 else 250) := rfl
  have HMY : Hid (r.may → (0 ≤ r.t ∧ r.t ≤ 15) ∧ (r.n = no25 → r.t = 0) ∧ (r.n ≠ no25 → 1 ≤ r.n.v)) := fun h => ⟨h.2.1, fun e => h.2.2.2.elim (fun x => x.2) (fun x => absurd e x.1), fun e => h.2.2.2.elim (fun x => absurd x.1 e) (fun x => Int.le_trans h.2.2.1.2.1 x.2.1.2.1)⟩
  obtain ⟨q, ⟨gs, gv, gz, gm⟩, ⟨ns, nv, nz, nm⟩, t⟩ := r
  generalize st25 (⟨q, ⟨gs, gv, gz, gm⟩, ⟨ns, nv, nz, nm⟩, t⟩ : Rc25) = R at *
  generalize hE : ck25 (⟨q, ⟨gs, gv, gz, gm⟩, ⟨ns, nv, nz, nm⟩, t⟩ : Rc25) = E at *
  unfold Rc25.cs at HC
  rw [show (Rc25.cs (⟨q, ⟨gs, gv, gz, gm⟩, ⟨ns, nv, nz, nm⟩, t⟩ : Rc25)) = #[.int .i64 q, .int .i64 gs, .int .i64 gv, .int .i64 gz, .int .u32 gm, .int .i64 ns, .int .i64 nv, .int .i64 nz, .int .u32 nm, .int .i64 t] from rfl]
  simp only at HC HE HM HMY ⊢
  clear hE
  obtain ⟨wB, hwB⟩ : ∃ wB, wB = ((w.alloc (.cells #[.int .i64 q, .int .i64 gs, .int .i64 gv, .int .i64 gz, .int .u32 gm, .int .i64 ns, .int .i64 nv, .int .i64 nz, .int .u32 nm, .int .i64 t] 63)).alloc (.cells #[.int .i64 0, .int .i64 0, .int .i64 0, .int .i64 0, .int .u32 0, .int .i64 0, .int .i64 0, .int .i64 0, .int .u32 0, .int .i64 0] 63)).alloc (.cells #[.int .i64 0, .int .i64 0, .int .i64 0, .int .u32 0] 61) := ⟨_, rfl⟩
  have bB : Below w.heap.size w wB := by rw [hwB]; exact ((((Below.refl _ _).alloc (by simp <;> omega) _).alloc (by simp <;> omega) _).alloc (by simp <;> omega) _)
  have q1 : wB.heap[w.heap.size]? = some (.cells #[.int .i64 q, .int .i64 gs, .int .i64 gv, .int .i64 gz, .int .u32 gm, .int .i64 ns, .int .i64 nv, .int .i64 nz, .int .u32 nm, .int .i64 t] 63 (0, 0)) := by rw [hwB, heap_alloc_old _ _ (by simp <;> omega), heap_alloc_old _ _ (by simp <;> omega)]; exact heap_alloc_new _ _
  have q2 : wB.heap[w.heap.size + 1]? = some (.cells #[.int .i64 0, .int .i64 0, .int .i64 0, .int .i64 0, .int .u32 0, .int .i64 0, .int .i64 0, .int .i64 0, .int .u32 0, .int .i64 0] 63 (0, 0)) := by rw [hwB, heap_alloc_old _ _ (by simp <;> omega)]; exact heap_alloc2_new _ _ _
  have q3 : wB.heap[w.heap.size + 2]? = some (.cells #[.int .i64 0, .int .i64 0, .int .i64 0, .int .u32 0] 61 (0, 0)) := by rw [hwB]; exact heap_alloc3_25 _ _ _ _
  have HQ : Hid (∀ V, Below wB.heap.size wB V → Below w.heap.size w V ∧ V.heap[w.heap.size]? = some (.cells #[.int .i64 q, .int .i64 gs, .int .i64 gv, .int .i64 gz, .int .u32 gm, .int .i64 ns, .int .i64 nv, .int .i64 nz, .int .u32 nm, .int .i64 t] 63 (0, 0)) ∧ V.heap[w.heap.size + 1]? = some (.cells #[.int .i64 0, .int .i64 0, .int .i64 0, .int .i64 0, .int .u32 0, .int .i64 0, .int .i64 0, .int .i64 0, .int .u32 0, .int .i64 0] 63 (0, 0)) ∧ V.heap[w.heap.size + 2]? = some (.cells #[.int .i64 0, .int .i64 0, .int .i64 0, .int .u32 0] 61 (0, 0))) := fun V hV => ⟨bB.trans (hV.mono bB.size), (hV.block _ (Array.getElem?_eq_some_iff.1 q1).1).trans q1, (hV.block _ (Array.getElem?_eq_some_iff.1 q2).1).trans q2, (hV.block _ (Array.getElem?_eq_some_iff.1 q3).1).trans q3⟩
  have HWB : Hid (((w.alloc (.cells #[.int .i64 q, .int .i64 gs, .int .i64 gv, .int .i64 gz, .int .u32 gm, .int .i64 ns, .int .i64 nv, .int .i64 nz, .int .u32 nm, .int .i64 t] 63)).alloc (.cells #[.int .i64 0, .int .i64 0, .int .i64 0, .int .i64 0, .int .u32 0, .int .i64 0, .int .i64 0, .int .i64 0, .int .u32 0, .int .i64 0] 63)).alloc (.cells #[.int .i64 0, .int .i64 0, .int .i64 0, .int .u32 0] 61) = wB) := hwB.symm
  clear bB hwB q1 q2 q3
  go_enter Tryd.func34, Tryd.ntmps34
  go_wp2_with fail
  rw [HWB.out]
  refine (HC.out wB).mono ?_
  rintro e1 w1 ⟨rfl, b1⟩
  obtain ⟨B1, x1, x2, x3⟩ := HQ.out w1 b1
  obtain ⟨c0, c1, c2, c3, c4, c5, c6, c7, c8, c9⟩ := cells25 (g := ⟨gs, gv, gz, gm⟩) (n := ⟨ns, nv, nz, nm⟩) x1
  have HX : Hid (w1.heap[w.heap.size]? = some (.cells #[.int .i64 q, .int .i64 gs, .int .i64 gv, .int .i64 gz, .int .u32 gm, .int .i64 ns, .int .i64 nv, .int .i64 nz, .int .u32 nm, .int .i64 t] 63 (0, 0)) ∧ w1.heap[w.heap.size + 1]? = some (.cells #[.int .i64 0, .int .i64 0, .int .i64 0, .int .i64 0, .int .u32 0, .int .i64 0, .int .i64 0, .int .i64 0, .int .u32 0, .int .i64 0] 63 (0, 0)) ∧ w1.heap[w.heap.size + 2]? = some (.cells #[.int .i64 0, .int .i64 0, .int .i64 0, .int .u32 0] 61 (0, 0)) ∧ Below w.heap.size w w1) := ⟨x1, x2, x3, B1⟩
  clear x1 x2 x3 B1 b1
  by_cases hm : (⟨q, ⟨gs, gv, gz, gm⟩, ⟨ns, nv, nz, nm⟩, t⟩ : Rc25).may
  rotate_left
  · have hr : R = (zr25, no25, 250) := by rw [HE.out, if_neg hm]
    have he : E = 250 := by rw [HM.out, if_neg hm]
    clear hm HM HE HMY
    subst hr he
    have k1 : (w1.setRow (w.heap.size + 1) #[.int .i64 0, .int .i64 0, .int .i64 0, .int .i64 0, .int .u32 0, .int .i64 0, .int .i64 0, .int .i64 0, .int .u32 0, .int .i64 0]).heap[w.heap.size + 2]? = some (.cells #[.int .i64 0, .int .i64 0, .int .i64 0, .int .u32 0] 61 (0, 0)) := by rw [old_row25 _ (by omega)]; exact HX.out.2.2.1
    have k2 : Below w.heap.size w (w1.setRow (w.heap.size + 1) #[.int .i64 0, .int .i64 0, .int .i64 0, .int .i64 0, .int .u32 0, .int .i64 0, .int .i64 0, .int .i64 0, .int .u32 0, .int .i64 0]) := below_row25 HX.out.2.2.2 (by omega) _
    have k3 : ((w1.setRow (w.heap.size + 1) #[.int .i64 0, .int .i64 0, .int .i64 0, .int .i64 0, .int .u32 0, .int .i64 0, .int .i64 0, .int .i64 0, .int .u32 0, .int .i64 0]).setRow (w.heap.size + 2) #[.int .i64 0, .int .i64 0, .int .i64 0, .int .u32 0]).heap[w.heap.size + 1]? = some (.cells #[.int .i64 0, .int .i64 0, .int .i64 0, .int .i64 0, .int .u32 0, .int .i64 0, .int .i64 0, .int .i64 0, .int .u32 0, .int .i64 0] 63 (0, 0)) := by rw [old_row25 _ (by omega)]; exact set_row25 HX.out.2.1
    have HK : Hid _ := And.intro k1 (And.intro k2 k3)
    clear k1 k2 k3
    go_wp2_with (first | refine wpList_store_row rfl 63 (.tmp 2) (.tmp 10) rfl (w.heap.size + 1) #[.int .i64 0, .int .i64 0, .int .i64 0, .int .i64 0, .int .u32 0, .int .i64 0, .int .i64 0, .int .i64 0, .int .u32 0, .int .i64 0] rfl rfl _ _ HX.out.2.1 info_rc25 rfl (row_rc25 zr25) ?_ | refine wpList_store_row rfl 61 (.tmp 3) (.tmp 11) rfl (w.heap.size + 2) #[.int .i64 0, .int .i64 0, .int .i64 0, .int .u32 0] rfl rfl _ _ HK.out.1 info_im25 rfl (row_im25 no25) ?_)
    refine bodyPost_ret (v := .tuple #[.agg #[.int .i64 0, .int .i64 0, .int .i64 0, .int .i64 0, .int .u32 0, .int .i64 0, .int .i64 0, .int .i64 0, .int .u32 0, .int .i64 0], .agg #[.int .i64 0, .int .i64 0, .int .i64 0, .int .u32 0], .int .i64 250]) (results_cct25 (fn := Tryd.f34) (p := 2) (q := 3) (u := 4) (ty := 63) (ty2 := 61) rfl _ _ (w.heap.size + 1) (w.heap.size + 2) _ _ #[.int .i64 0, .int .i64 0, .int .i64 0, .int .i64 0, .int .u32 0, .int .i64 0, .int .i64 0, .int .i64 0, .int .u32 0, .int .i64 0] #[.int .i64 0, .int .i64 0, .int .i64 0, .int .u32 0] _ _ _ _ rfl HK.out.2.2 rfl (set_row25 HK.out.1) Tryd.underlying63 rfl info_rc25 Tryd.underlying61 rfl info_im25) rfl ?_
    exact ⟨rfl, below_row25 HK.out.2.1 (by omega) _⟩
  have he : E = 0 := by rw [HM.out, if_pos hm]
  subst he
  have my := HMY.out hm
  (try simp only at my)
  by_cases ht : 0 < t
  · have hr : R = ((⟨q, ⟨gs, gv, gz, gm⟩, ⟨ns, nv, nz, nm⟩, t - 1⟩ : Rc25), ⟨ns, nv, nz, nm⟩, 0) := by rw [HE.out, if_pos hm, if_pos ht]
    have hnn : ¬ nv = 0 := by
      have h1 : (⟨ns, nv, nz, nm⟩ : Im25) ≠ no25 := fun e => by have := my.2.1 e; omega
      have := my.2.2 h1
      omega
    have hwt : IntKind.i64.wrap (t - 1) = t - 1 := IntWalk.i64_in _ (by have := my.1; omega)
    clear hm HM HE HMY my
    subst hr
    obtain ⟨w2, hw2⟩ : ∃ v, v = w1.setRow w.heap.size #[.int .i64 q, .int .i64 gs, .int .i64 gv, .int .i64 gz, .int .u32 gm, .int .i64 ns, .int .i64 nv, .int .i64 nz, .int .u32 nm, .int .i64 (t - 1)] := ⟨_, rfl⟩
    have k1 : w2.heap[w.heap.size]? = some (.cells #[.int .i64 q, .int .i64 gs, .int .i64 gv, .int .i64 gz, .int .u32 gm, .int .i64 ns, .int .i64 nv, .int .i64 nz, .int .u32 nm, .int .i64 (t - 1)] 63 (0, 0)) := by rw [hw2]; exact set_row25 HX.out.1
    have k2 : w2.heap[w.heap.size + 1]? = some (.cells #[.int .i64 0, .int .i64 0, .int .i64 0, .int .i64 0, .int .u32 0, .int .i64 0, .int .i64 0, .int .i64 0, .int .u32 0, .int .i64 0] 63 (0, 0)) := by rw [hw2, old_row25 _ (by omega)]; exact HX.out.2.1
    have k3 : w2.heap[w.heap.size + 2]? = some (.cells #[.int .i64 0, .int .i64 0, .int .i64 0, .int .u32 0] 61 (0, 0)) := by rw [hw2, old_row25 _ (by omega)]; exact HX.out.2.2.1
    have k4 : Below w.heap.size w w2 := by rw [hw2]; exact below_row25 HX.out.2.2.2 (Nat.le_refl _) _
    have HK : Hid _ := And.intro k1 (And.intro k2 (And.intro k3 k4))
    have HW2 : Hid (w1.setRow w.heap.size #[.int .i64 q, .int .i64 gs, .int .i64 gv, .int .i64 gz, .int .u32 gm, .int .i64 ns, .int .i64 nv, .int .i64 nz, .int .u32 nm, .int .i64 (t - 1)] = w2) := hw2.symm
    clear hw2 k1 k2 k3 k4
    go_upto_region 6 with (refine wpList_cell25 rfl 3 (.tmp 19) (.tmp 18) rfl w.heap.size 9 .i64 (t - 1) rfl rfl HX.out.1 info_int25 (by simp) #[.int .i64 q, .int .i64 gs, .int .i64 gv, .int .i64 gz, .int .u32 gm, .int .i64 ns, .int .i64 nv, .int .i64 nz, .int .u32 nm, .int .i64 (t - 1)] rfl ?_)
    rw [HW2.out]
    clear c0 c1 c2 c3 c4 c5 c6 c7 c8 c9
    obtain ⟨v0, hv0⟩ : ∃ v, v = w2.drew := ⟨_, rfl⟩
    have HV0 : Hid (w2.drew = v0) := hv0.symm
    have J0 : Hid (v0.heap[w.heap.size]? = some (.cells #[.int .i64 q, .int .i64 gs, .int .i64 gv, .int .i64 gz, .int .u32 gm, .int .i64 ns, .int .i64 nv, .int .i64 nz, .int .u32 nm, .int .i64 (t - 1)] 63 (0, 0)) ∧ v0.heap[w.heap.size + 1]? = some (.cells #[.int .i64 0, .int .i64 0, .int .i64 0, .int .i64 0, .int .u32 0, .int .i64 0, .int .i64 0, .int .i64 0, .int .u32 0, .int .i64 0] 63 (0, 0)) ∧ v0.heap[w.heap.size + 2]? = some (.cells #[.int .i64 0, .int .i64 0, .int .i64 0, .int .u32 0] 61 (0, 0)) ∧ Below w.heap.size w v0) := by rw [hv0]; exact ⟨HK.out.1, HK.out.2.1, HK.out.2.2.1, (HK.out.2.2.2).drew⟩
    have HS : Hid (∀ V : World, V.heap[w.heap.size]? = some (.cells #[.int .i64 q, .int .i64 gs, .int .i64 gv, .int .i64 gz, .int .u32 gm, .int .i64 ns, .int .i64 nv, .int .i64 nz, .int .u32 nm, .int .i64 (t - 1)] 63 (0, 0)) → V.cell? ⟨w.heap.size, 0, none⟩ = some (.int .i64 q) ∧ V.cell? ⟨w.heap.size, 1, none⟩ = some (.int .i64 gs) ∧ V.cell? ⟨w.heap.size, 2, none⟩ = some (.int .i64 gv) ∧ V.cell? ⟨w.heap.size, 3, none⟩ = some (.int .i64 gz) ∧ V.cell? ⟨w.heap.size, 4, none⟩ = some (.int .u32 gm) ∧ V.cell? ⟨w.heap.size, 5, none⟩ = some (.int .i64 ns) ∧ V.cell? ⟨w.heap.size, 6, none⟩ = some (.int .i64 nv) ∧ V.cell? ⟨w.heap.size, 7, none⟩ = some (.int .i64 nz) ∧ V.cell? ⟨w.heap.size, 8, none⟩ = some (.int .u32 nm) ∧ V.cell? ⟨w.heap.size, 9, none⟩ = some (.int .i64 (t - 1))) := fun V hV => cells25 (g := ⟨gs, gv, gz, gm⟩) (n := ⟨ns, nv, nz, nm⟩) hV
    clear hv0
    refine plain_region16 (fun V => V.cell? ⟨w.heap.size, 0, none⟩ = some (.int .i64 q) ∧ V.cell? ⟨w.heap.size, 1, none⟩ = some (.int .i64 gs) ∧ V.cell? ⟨w.heap.size, 2, none⟩ = some (.int .i64 gv) ∧ V.cell? ⟨w.heap.size, 3, none⟩ = some (.int .i64 gz) ∧ V.cell? ⟨w.heap.size, 4, none⟩ = some (.int .u32 gm) ∧ V.cell? ⟨w.heap.size, 5, none⟩ = some (.int .i64 ns) ∧ V.cell? ⟨w.heap.size, 6, none⟩ = some (.int .i64 nv) ∧ V.cell? ⟨w.heap.size, 7, none⟩ = some (.int .i64 nz) ∧ V.cell? ⟨w.heap.size, 8, none⟩ = some (.int .u32 nm) ∧ V.cell? ⟨w.heap.size, 9, none⟩ = some (.int .i64 (t - 1))) 5 (by kernel_rfl) (by rw [HV0.out]; exact HS.out v0 J0.out.1) (fun hHeld => ?_)
    rw [HV0.out] at hHeld ⊢
    refine wpAnyK_take (i := 0) (v := .agg #[.int .i64 q, .int .i64 gs, .int .i64 gv, .int .i64 gz, .int .u32 gm, .int .i64 ns, .int .i64 nv, .int .i64 nz, .int .u32 nm, .int .i64 (t - 1)]) rfl (by kernel_rfl) (by kernel_rfl) (by kernel_rfl) (by kernel_rfl) (fun _ _ _ h => h) (Or.inl ⟨by rfl, fun w hSw => by go_simp⟩) hHeld ?_
    simp only [List.getElem_toArray, List.getElem_cons_zero, Act.put, List.setIfInBounds_toArray, List.set_cons_zero, List.set_cons_succ]
    refine wpAnyK_take (i := 1) (v := .pointer (some ⟨w.heap.size, 5, none⟩)) rfl (by kernel_rfl) (by kernel_rfl) (by kernel_rfl) (by kernel_rfl) (fun _ _ _ h => h) (Or.inl ⟨by rfl, fun w hSw => by go_simp⟩) hHeld ?_
    simp only [List.getElem_toArray, List.getElem_cons_zero, List.getElem_cons_succ, Act.put, List.setIfInBounds_toArray, List.set_cons_zero, List.set_cons_succ]
    refine wpAnyK_take (i := 2) (v := .agg #[.int .i64 ns, .int .i64 nv, .int .i64 nz, .int .u32 nm]) rfl (by kernel_rfl) (by kernel_rfl) (by kernel_rfl) (by kernel_rfl) (fun _ _ _ h => h) (Or.inl ⟨by rfl, fun w hSw => by go_simp⟩) hHeld ?_
    simp only [List.getElem_toArray, List.getElem_cons_zero, List.getElem_cons_succ, Act.put, List.setIfInBounds_toArray, List.set_cons_zero, List.set_cons_succ]
    refine wpAnyK_one (i := 3) (by kernel_rfl) rfl (fun K hK => ?_)
    (try simp only [List.getElem_toArray, List.getElem_cons_zero, List.getElem_cons_succ, Act.put, List.setIfInBounds_toArray, List.set_cons_zero, List.set_cons_succ])
    rw [if_pos (by rfl)]
    refine wp_store_row 63 (.tmp 2) (.tmp 20) rfl (w.heap.size + 1) #[.int .i64 q, .int .i64 gs, .int .i64 gv, .int .i64 gz, .int .u32 gm, .int .i64 ns, .int .i64 nv, .int .i64 nz, .int .u32 nm, .int .i64 (t - 1)] rfl rfl _ _ J0.out.2.1 info_rc25 rfl (row_rc25 (⟨q, ⟨gs, gv, gz, gm⟩, ⟨ns, nv, nz, nm⟩, (t - 1)⟩ : Rc25)) ?_
    have k1 : (v0.setRow (w.heap.size + 1) #[.int .i64 q, .int .i64 gs, .int .i64 gv, .int .i64 gz, .int .u32 gm, .int .i64 ns, .int .i64 nv, .int .i64 nz, .int .u32 nm, .int .i64 (t - 1)]).heap[w.heap.size]? = some (.cells #[.int .i64 q, .int .i64 gs, .int .i64 gv, .int .i64 gz, .int .u32 gm, .int .i64 ns, .int .i64 nv, .int .i64 nz, .int .u32 nm, .int .i64 (t - 1)] 63 (0, 0)) := by rw [old_row25 _ (by omega)]; exact J0.out.1
    have k2 : (v0.setRow (w.heap.size + 1) #[.int .i64 q, .int .i64 gs, .int .i64 gv, .int .i64 gz, .int .u32 gm, .int .i64 ns, .int .i64 nv, .int .i64 nz, .int .u32 nm, .int .i64 (t - 1)]).heap[w.heap.size + 2]? = some (.cells #[.int .i64 0, .int .i64 0, .int .i64 0, .int .u32 0] 61 (0, 0)) := by rw [old_row25 _ (by omega)]; exact J0.out.2.2.1
    have k3 : (v0.setRow (w.heap.size + 1) #[.int .i64 q, .int .i64 gs, .int .i64 gv, .int .i64 gz, .int .u32 gm, .int .i64 ns, .int .i64 nv, .int .i64 nz, .int .u32 nm, .int .i64 (t - 1)]).heap[w.heap.size + 1]? = some (.cells #[.int .i64 q, .int .i64 gs, .int .i64 gv, .int .i64 gz, .int .u32 gm, .int .i64 ns, .int .i64 nv, .int .i64 nz, .int .u32 nm, .int .i64 (t - 1)] 63 (0, 0)) := set_row25 J0.out.2.1
    have k4 : Below w.heap.size w (v0.setRow (w.heap.size + 1) #[.int .i64 q, .int .i64 gs, .int .i64 gv, .int .i64 gz, .int .u32 gm, .int .i64 ns, .int .i64 nv, .int .i64 nz, .int .u32 nm, .int .i64 (t - 1)]) := below_row25 J0.out.2.2.2 (by omega) _
    obtain ⟨v1, hv1⟩ : ∃ v, v = v0.setRow (w.heap.size + 1) #[.int .i64 q, .int .i64 gs, .int .i64 gv, .int .i64 gz, .int .u32 gm, .int .i64 ns, .int .i64 nv, .int .i64 nz, .int .u32 nm, .int .i64 (t - 1)] := ⟨_, rfl⟩
    rw [← hv1] at k1 k2 k3 k4 ⊢
    have J1 : Hid _ := And.intro k1 (And.intro k2 (And.intro k3 k4))
    clear hv1 k1 k2 k3 k4
    refine hK.out _ _ (fun _ => (HS.out v1 J1.out.1)) (fun hHeld0 => ?_)
    have hHeld := hHeld0 (by decide)
    clear hHeld0 hK K
    simp only [Act.put, List.setIfInBounds_toArray, List.set_cons_zero, List.set_cons_succ]
    refine wpAnyK_one (i := 4) (by kernel_rfl) rfl (fun K hK => ?_)
    (try simp only [List.getElem_toArray, List.getElem_cons_zero, List.getElem_cons_succ, Act.put, List.setIfInBounds_toArray, List.set_cons_zero, List.set_cons_succ])
    rw [if_pos (by rfl)]
    refine wp_store_row 61 (.tmp 3) (.tmp 22) rfl (w.heap.size + 2) #[.int .i64 ns, .int .i64 nv, .int .i64 nz, .int .u32 nm] rfl rfl _ _ J1.out.2.1 info_im25 rfl (row_im25 (⟨ns, nv, nz, nm⟩ : Im25)) ?_
    have k1 : (v1.setRow (w.heap.size + 2) #[.int .i64 ns, .int .i64 nv, .int .i64 nz, .int .u32 nm]).heap[w.heap.size]? = some (.cells #[.int .i64 q, .int .i64 gs, .int .i64 gv, .int .i64 gz, .int .u32 gm, .int .i64 ns, .int .i64 nv, .int .i64 nz, .int .u32 nm, .int .i64 (t - 1)] 63 (0, 0)) := by rw [old_row25 _ (by omega)]; exact J1.out.1
    have k2 : (v1.setRow (w.heap.size + 2) #[.int .i64 ns, .int .i64 nv, .int .i64 nz, .int .u32 nm]).heap[w.heap.size + 2]? = some (.cells #[.int .i64 ns, .int .i64 nv, .int .i64 nz, .int .u32 nm] 61 (0, 0)) := set_row25 J1.out.2.1
    have k3 : (v1.setRow (w.heap.size + 2) #[.int .i64 ns, .int .i64 nv, .int .i64 nz, .int .u32 nm]).heap[w.heap.size + 1]? = some (.cells #[.int .i64 q, .int .i64 gs, .int .i64 gv, .int .i64 gz, .int .u32 gm, .int .i64 ns, .int .i64 nv, .int .i64 nz, .int .u32 nm, .int .i64 (t - 1)] 63 (0, 0)) := by rw [old_row25 _ (by omega)]; exact J1.out.2.2.1
    have k4 : Below w.heap.size w (v1.setRow (w.heap.size + 2) #[.int .i64 ns, .int .i64 nv, .int .i64 nz, .int .u32 nm]) := below_row25 J1.out.2.2.2 (by omega) _
    obtain ⟨v2, hv2⟩ : ∃ v, v = v1.setRow (w.heap.size + 2) #[.int .i64 ns, .int .i64 nv, .int .i64 nz, .int .u32 nm] := ⟨_, rfl⟩
    rw [← hv2] at k1 k2 k3 k4 ⊢
    have J2 : Hid _ := And.intro k1 (And.intro k2 (And.intro k3 k4))
    clear hv2 k1 k2 k3 k4
    refine hK.out _ _ (fun _ => (HS.out v2 J2.out.1)) (fun hHeld0 => ?_)
    have hHeld := hHeld0 (by decide)
    clear hHeld0 hK K
    simp only [Act.put, List.setIfInBounds_toArray, List.set_cons_zero, List.set_cons_succ]
    refine wpAnyK_one (i := 5) (by kernel_rfl) rfl (fun K hK => ?_)
    (try simp only [List.getElem_toArray, List.getElem_cons_zero, List.getElem_cons_succ, Act.put, List.setIfInBounds_toArray, List.set_cons_zero, List.set_cons_succ])
    go_simp
    refine hK.out _ _ (fun h => absurd rfl h) (fun _ => ?_)
    clear hK K
    refine wpAnyK_done (by kernel_rfl) ?_ _
    go_wp2_with fail
    refine bodyPost_ret (v := .tuple #[.agg #[.int .i64 q, .int .i64 gs, .int .i64 gv, .int .i64 gz, .int .u32 gm, .int .i64 ns, .int .i64 nv, .int .i64 nz, .int .u32 nm, .int .i64 (t - 1)], .agg #[.int .i64 ns, .int .i64 nv, .int .i64 nz, .int .u32 nm], .int .i64 0]) (results_cct25 (fn := Tryd.f34) (p := 2) (q := 3) (u := 4) (ty := 63) (ty2 := 61) rfl _ _ (w.heap.size + 1) (w.heap.size + 2) _ _ #[.int .i64 q, .int .i64 gs, .int .i64 gv, .int .i64 gz, .int .u32 gm, .int .i64 ns, .int .i64 nv, .int .i64 nz, .int .u32 nm, .int .i64 (t - 1)] #[.int .i64 ns, .int .i64 nv, .int .i64 nz, .int .u32 nm] _ _ _ _ rfl J2.out.2.2.1 rfl J2.out.2.1 Tryd.underlying63 rfl info_rc25 Tryd.underlying61 rfl info_im25) rfl ?_
    exact ⟨rfl, J2.out.2.2.2⟩
  have ht0 : t = 0 := by have := my.1; omega
  subst ht0
  have hr : R = ((⟨q, ⟨gs, gv, gz, gm⟩, ⟨0, 0, 0, 0⟩, 0⟩ : Rc25), ⟨gs, gv, gz, gm⟩, 0) := by rw [HE.out, if_pos hm, if_neg ht]; rfl
  clear hm HM HE HMY my ht
  subst hr
  have HP1 : Hid ((w1.setRow w.heap.size #[.int .i64 q, .int .i64 gs, .int .i64 gv, .int .i64 gz, .int .u32 gm, .int .i64 0, .int .i64 0, .int .i64 0, .int .u32 0, .int .i64 0]).heap[w.heap.size]? = some (.cells #[.int .i64 q, .int .i64 gs, .int .i64 gv, .int .i64 gz, .int .u32 gm, .int .i64 0, .int .i64 0, .int .i64 0, .int .u32 0, .int .i64 0] 63 (0, 0))) := set_row25 HX.out.1
  obtain ⟨w2, hw2⟩ : ∃ v, v = w1.setRow w.heap.size #[.int .i64 q, .int .i64 gs, .int .i64 gv, .int .i64 gz, .int .u32 gm, .int .i64 0, .int .i64 0, .int .i64 0, .int .u32 0, .int .i64 0] := ⟨_, rfl⟩
  have k1 : w2.heap[w.heap.size]? = some (.cells #[.int .i64 q, .int .i64 gs, .int .i64 gv, .int .i64 gz, .int .u32 gm, .int .i64 0, .int .i64 0, .int .i64 0, .int .u32 0, .int .i64 0] 63 (0, 0)) := by rw [hw2]; exact HP1.out
  have k2 : w2.heap[w.heap.size + 1]? = some (.cells #[.int .i64 0, .int .i64 0, .int .i64 0, .int .i64 0, .int .u32 0, .int .i64 0, .int .i64 0, .int .i64 0, .int .u32 0, .int .i64 0] 63 (0, 0)) := by rw [hw2]; (repeat rw [old_row25 _ (by omega)]); exact HX.out.2.1
  have k3 : w2.heap[w.heap.size + 2]? = some (.cells #[.int .i64 0, .int .i64 0, .int .i64 0, .int .u32 0] 61 (0, 0)) := by rw [hw2]; (repeat rw [old_row25 _ (by omega)]); exact HX.out.2.2.1
  have k4 : Below w.heap.size w w2 := by rw [hw2]; exact below_row25 HX.out.2.2.2 (Nat.le_refl _) _
  have HK : Hid _ := And.intro k1 (And.intro k2 (And.intro k3 k4))
  have HW2 : Hid (w1.setRow w.heap.size #[.int .i64 q, .int .i64 gs, .int .i64 gv, .int .i64 gz, .int .u32 gm, .int .i64 0, .int .i64 0, .int .i64 0, .int .u32 0, .int .i64 0] = w2) := hw2.symm
  clear hw2 k1 k2 k3 k4
  go_upto_region 8 with (refine wpList_part25 rfl 61 (.tmp 24) (.tmp 23) rfl w.heap.size 5 [.int .i64 0, .int .i64 0, .int .i64 0, .int .u32 0] rfl rfl HX.out.1 info_im25 (row_im25 no25) (by simp) #[.int .i64 q, .int .i64 gs, .int .i64 gv, .int .i64 gz, .int .u32 gm, .int .i64 0, .int .i64 0, .int .i64 0, .int .u32 0, .int .i64 0] rfl ?_)
  rw [HW2.out]
  clear c0 c1 c2 c3 c4 c5 c6 c7 c8 c9
  obtain ⟨v0, hv0⟩ : ∃ v, v = w2.drew := ⟨_, rfl⟩
  have HV0 : Hid (w2.drew = v0) := hv0.symm
  have J0 : Hid (v0.heap[w.heap.size]? = some (.cells #[.int .i64 q, .int .i64 gs, .int .i64 gv, .int .i64 gz, .int .u32 gm, .int .i64 0, .int .i64 0, .int .i64 0, .int .u32 0, .int .i64 0] 63 (0, 0)) ∧ v0.heap[w.heap.size + 1]? = some (.cells #[.int .i64 0, .int .i64 0, .int .i64 0, .int .i64 0, .int .u32 0, .int .i64 0, .int .i64 0, .int .i64 0, .int .u32 0, .int .i64 0] 63 (0, 0)) ∧ v0.heap[w.heap.size + 2]? = some (.cells #[.int .i64 0, .int .i64 0, .int .i64 0, .int .u32 0] 61 (0, 0)) ∧ Below w.heap.size w v0) := by rw [hv0]; exact ⟨HK.out.1, HK.out.2.1, HK.out.2.2.1, (HK.out.2.2.2).drew⟩
  have HS : Hid (∀ V : World, V.heap[w.heap.size]? = some (.cells #[.int .i64 q, .int .i64 gs, .int .i64 gv, .int .i64 gz, .int .u32 gm, .int .i64 0, .int .i64 0, .int .i64 0, .int .u32 0, .int .i64 0] 63 (0, 0)) → V.cell? ⟨w.heap.size, 0, none⟩ = some (.int .i64 q) ∧ V.cell? ⟨w.heap.size, 1, none⟩ = some (.int .i64 gs) ∧ V.cell? ⟨w.heap.size, 2, none⟩ = some (.int .i64 gv) ∧ V.cell? ⟨w.heap.size, 3, none⟩ = some (.int .i64 gz) ∧ V.cell? ⟨w.heap.size, 4, none⟩ = some (.int .u32 gm) ∧ V.cell? ⟨w.heap.size, 5, none⟩ = some (.int .i64 0) ∧ V.cell? ⟨w.heap.size, 6, none⟩ = some (.int .i64 0) ∧ V.cell? ⟨w.heap.size, 7, none⟩ = some (.int .i64 0) ∧ V.cell? ⟨w.heap.size, 8, none⟩ = some (.int .u32 0) ∧ V.cell? ⟨w.heap.size, 9, none⟩ = some (.int .i64 0)) := fun V hV => cells25 (g := ⟨gs, gv, gz, gm⟩) (n := ⟨0, 0, 0, 0⟩) hV
  clear hv0
  refine plain_region16 (fun V => V.cell? ⟨w.heap.size, 0, none⟩ = some (.int .i64 q) ∧ V.cell? ⟨w.heap.size, 1, none⟩ = some (.int .i64 gs) ∧ V.cell? ⟨w.heap.size, 2, none⟩ = some (.int .i64 gv) ∧ V.cell? ⟨w.heap.size, 3, none⟩ = some (.int .i64 gz) ∧ V.cell? ⟨w.heap.size, 4, none⟩ = some (.int .u32 gm) ∧ V.cell? ⟨w.heap.size, 5, none⟩ = some (.int .i64 0) ∧ V.cell? ⟨w.heap.size, 6, none⟩ = some (.int .i64 0) ∧ V.cell? ⟨w.heap.size, 7, none⟩ = some (.int .i64 0) ∧ V.cell? ⟨w.heap.size, 8, none⟩ = some (.int .u32 0) ∧ V.cell? ⟨w.heap.size, 9, none⟩ = some (.int .i64 0)) 5 (by kernel_rfl) (by rw [HV0.out]; exact HS.out v0 J0.out.1) (fun hHeld => ?_)
  rw [HV0.out] at hHeld ⊢
  refine wpAnyK_take (i := 0) (v := .agg #[.int .i64 q, .int .i64 gs, .int .i64 gv, .int .i64 gz, .int .u32 gm, .int .i64 0, .int .i64 0, .int .i64 0, .int .u32 0, .int .i64 0]) rfl (by kernel_rfl) (by kernel_rfl) (by kernel_rfl) (by kernel_rfl) (fun _ _ _ h => h) (Or.inl ⟨by rfl, fun w hSw => by go_simp⟩) hHeld ?_
  simp only [List.getElem_toArray, List.getElem_cons_zero, Act.put, List.setIfInBounds_toArray, List.set_cons_zero, List.set_cons_succ]
  refine wpAnyK_take (i := 1) (v := .pointer (some ⟨w.heap.size, 1, none⟩)) rfl (by kernel_rfl) (by kernel_rfl) (by kernel_rfl) (by kernel_rfl) (fun _ _ _ h => h) (Or.inl ⟨by rfl, fun w hSw => by go_simp⟩) hHeld ?_
  simp only [List.getElem_toArray, List.getElem_cons_zero, List.getElem_cons_succ, Act.put, List.setIfInBounds_toArray, List.set_cons_zero, List.set_cons_succ]
  refine wpAnyK_take (i := 2) (v := .agg #[.int .i64 gs, .int .i64 gv, .int .i64 gz, .int .u32 gm]) rfl (by kernel_rfl) (by kernel_rfl) (by kernel_rfl) (by kernel_rfl) (fun _ _ _ h => h) (Or.inl ⟨by rfl, fun w hSw => by go_simp⟩) hHeld ?_
  simp only [List.getElem_toArray, List.getElem_cons_zero, List.getElem_cons_succ, Act.put, List.setIfInBounds_toArray, List.set_cons_zero, List.set_cons_succ]
  refine wpAnyK_one (i := 3) (by kernel_rfl) rfl (fun K hK => ?_)
  (try simp only [List.getElem_toArray, List.getElem_cons_zero, List.getElem_cons_succ, Act.put, List.setIfInBounds_toArray, List.set_cons_zero, List.set_cons_succ])
  rw [if_pos (by rfl)]
  refine wp_store_row 63 (.tmp 2) (.tmp 25) rfl (w.heap.size + 1) #[.int .i64 q, .int .i64 gs, .int .i64 gv, .int .i64 gz, .int .u32 gm, .int .i64 0, .int .i64 0, .int .i64 0, .int .u32 0, .int .i64 0] rfl rfl _ _ J0.out.2.1 info_rc25 rfl (row_rc25 (⟨q, ⟨gs, gv, gz, gm⟩, ⟨0, 0, 0, 0⟩, 0⟩ : Rc25)) ?_
  have k1 : (v0.setRow (w.heap.size + 1) #[.int .i64 q, .int .i64 gs, .int .i64 gv, .int .i64 gz, .int .u32 gm, .int .i64 0, .int .i64 0, .int .i64 0, .int .u32 0, .int .i64 0]).heap[w.heap.size]? = some (.cells #[.int .i64 q, .int .i64 gs, .int .i64 gv, .int .i64 gz, .int .u32 gm, .int .i64 0, .int .i64 0, .int .i64 0, .int .u32 0, .int .i64 0] 63 (0, 0)) := by rw [old_row25 _ (by omega)]; exact J0.out.1
  have k2 : (v0.setRow (w.heap.size + 1) #[.int .i64 q, .int .i64 gs, .int .i64 gv, .int .i64 gz, .int .u32 gm, .int .i64 0, .int .i64 0, .int .i64 0, .int .u32 0, .int .i64 0]).heap[w.heap.size + 2]? = some (.cells #[.int .i64 0, .int .i64 0, .int .i64 0, .int .u32 0] 61 (0, 0)) := by rw [old_row25 _ (by omega)]; exact J0.out.2.2.1
  have k3 : (v0.setRow (w.heap.size + 1) #[.int .i64 q, .int .i64 gs, .int .i64 gv, .int .i64 gz, .int .u32 gm, .int .i64 0, .int .i64 0, .int .i64 0, .int .u32 0, .int .i64 0]).heap[w.heap.size + 1]? = some (.cells #[.int .i64 q, .int .i64 gs, .int .i64 gv, .int .i64 gz, .int .u32 gm, .int .i64 0, .int .i64 0, .int .i64 0, .int .u32 0, .int .i64 0] 63 (0, 0)) := set_row25 J0.out.2.1
  have k4 : Below w.heap.size w (v0.setRow (w.heap.size + 1) #[.int .i64 q, .int .i64 gs, .int .i64 gv, .int .i64 gz, .int .u32 gm, .int .i64 0, .int .i64 0, .int .i64 0, .int .u32 0, .int .i64 0]) := below_row25 J0.out.2.2.2 (by omega) _
  obtain ⟨v1, hv1⟩ : ∃ v, v = v0.setRow (w.heap.size + 1) #[.int .i64 q, .int .i64 gs, .int .i64 gv, .int .i64 gz, .int .u32 gm, .int .i64 0, .int .i64 0, .int .i64 0, .int .u32 0, .int .i64 0] := ⟨_, rfl⟩
  rw [← hv1] at k1 k2 k3 k4 ⊢
  have J1 : Hid _ := And.intro k1 (And.intro k2 (And.intro k3 k4))
  clear hv1 k1 k2 k3 k4
  refine hK.out _ _ (fun _ => (HS.out v1 J1.out.1)) (fun hHeld0 => ?_)
  have hHeld := hHeld0 (by decide)
  clear hHeld0 hK K
  simp only [Act.put, List.setIfInBounds_toArray, List.set_cons_zero, List.set_cons_succ]
  refine wpAnyK_one (i := 4) (by kernel_rfl) rfl (fun K hK => ?_)
  (try simp only [List.getElem_toArray, List.getElem_cons_zero, List.getElem_cons_succ, Act.put, List.setIfInBounds_toArray, List.set_cons_zero, List.set_cons_succ])
  rw [if_pos (by rfl)]
  refine wp_store_row 61 (.tmp 3) (.tmp 27) rfl (w.heap.size + 2) #[.int .i64 gs, .int .i64 gv, .int .i64 gz, .int .u32 gm] rfl rfl _ _ J1.out.2.1 info_im25 rfl (row_im25 (⟨gs, gv, gz, gm⟩ : Im25)) ?_
  have k1 : (v1.setRow (w.heap.size + 2) #[.int .i64 gs, .int .i64 gv, .int .i64 gz, .int .u32 gm]).heap[w.heap.size]? = some (.cells #[.int .i64 q, .int .i64 gs, .int .i64 gv, .int .i64 gz, .int .u32 gm, .int .i64 0, .int .i64 0, .int .i64 0, .int .u32 0, .int .i64 0] 63 (0, 0)) := by rw [old_row25 _ (by omega)]; exact J1.out.1
  have k2 : (v1.setRow (w.heap.size + 2) #[.int .i64 gs, .int .i64 gv, .int .i64 gz, .int .u32 gm]).heap[w.heap.size + 2]? = some (.cells #[.int .i64 gs, .int .i64 gv, .int .i64 gz, .int .u32 gm] 61 (0, 0)) := set_row25 J1.out.2.1
  have k3 : (v1.setRow (w.heap.size + 2) #[.int .i64 gs, .int .i64 gv, .int .i64 gz, .int .u32 gm]).heap[w.heap.size + 1]? = some (.cells #[.int .i64 q, .int .i64 gs, .int .i64 gv, .int .i64 gz, .int .u32 gm, .int .i64 0, .int .i64 0, .int .i64 0, .int .u32 0, .int .i64 0] 63 (0, 0)) := by rw [old_row25 _ (by omega)]; exact J1.out.2.2.1
  have k4 : Below w.heap.size w (v1.setRow (w.heap.size + 2) #[.int .i64 gs, .int .i64 gv, .int .i64 gz, .int .u32 gm]) := below_row25 J1.out.2.2.2 (by omega) _
  obtain ⟨v2, hv2⟩ : ∃ v, v = v1.setRow (w.heap.size + 2) #[.int .i64 gs, .int .i64 gv, .int .i64 gz, .int .u32 gm] := ⟨_, rfl⟩
  rw [← hv2] at k1 k2 k3 k4 ⊢
  have J2 : Hid _ := And.intro k1 (And.intro k2 (And.intro k3 k4))
  clear hv2 k1 k2 k3 k4
  refine hK.out _ _ (fun _ => (HS.out v2 J2.out.1)) (fun hHeld0 => ?_)
  have hHeld := hHeld0 (by decide)
  clear hHeld0 hK K
  simp only [Act.put, List.setIfInBounds_toArray, List.set_cons_zero, List.set_cons_succ]
  refine wpAnyK_one (i := 5) (by kernel_rfl) rfl (fun K hK => ?_)
  (try simp only [List.getElem_toArray, List.getElem_cons_zero, List.getElem_cons_succ, Act.put, List.setIfInBounds_toArray, List.set_cons_zero, List.set_cons_succ])
  go_simp
  refine hK.out _ _ (fun h => absurd rfl h) (fun _ => ?_)
  clear hK K
  refine wpAnyK_done (by kernel_rfl) ?_ _
  go_wp2_with fail
  refine bodyPost_ret (v := .tuple #[.agg #[.int .i64 q, .int .i64 gs, .int .i64 gv, .int .i64 gz, .int .u32 gm, .int .i64 0, .int .i64 0, .int .i64 0, .int .u32 0, .int .i64 0], .agg #[.int .i64 gs, .int .i64 gv, .int .i64 gz, .int .u32 gm], .int .i64 0]) (results_cct25 (fn := Tryd.f34) (p := 2) (q := 3) (u := 4) (ty := 63) (ty2 := 61) rfl _ _ (w.heap.size + 1) (w.heap.size + 2) _ _ #[.int .i64 q, .int .i64 gs, .int .i64 gv, .int .i64 gz, .int .u32 gm, .int .i64 0, .int .i64 0, .int .i64 0, .int .u32 0, .int .i64 0] #[.int .i64 gs, .int .i64 gv, .int .i64 gz, .int .u32 gm] _ _ _ _ rfl J2.out.2.2.1 rfl J2.out.2.1 Tryd.underlying63 rfl info_rc25 Tryd.underlying61 rfl info_im25) rfl ?_
  exact ⟨rfl, J2.out.2.2.2⟩
end Go.Proofs.YtmjlpfmacblcpaaDoor
