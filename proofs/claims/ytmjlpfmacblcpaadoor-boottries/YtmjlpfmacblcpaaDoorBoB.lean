import Derived.Test.YtmjlpfmacblcpaaDoorBoEr
namespace Go.Proofs.YtmjlpfmacblcpaaDoor
open Go.RowKit
set_option linter.unusedVariables false
set_option linter.unusedSimpArgs false
def cd25 (r : Rc25) : Rc25 := if r.may then r else zr25
def of25 (r : Rc25) (n : Im25) (k : Int) : Rc25 × Int := if r.may then (if 1 ≤ k ∧ k ≤ 15 then (if n.v < r.g.v then (zr25, 252) else (cd25 ⟨r.q, r.g, n, k⟩, ck25 ⟨r.q, r.g, n, k⟩)) else (zr25, 1)) else (zr25, 250)
def st25 (r : Rc25) : Rc25 × Im25 × Int := if r.may then (if 0 < r.t then (⟨r.q, r.g, r.n, r.t - 1⟩, r.n, 0) else (⟨r.q, r.g, no25, r.t⟩, r.g, 0)) else (zr25, no25, 250)
def cf25 (r : Rc25) : Rc25 × Int := if r.may then (if r.n = no25 then (zr25, 253) else (⟨r.q, r.n, no25, 0⟩, 0)) else (zr25, 250)
set_option maxRecDepth 100000 in
set_option maxHeartbeats 4000000 in
theorem pchk25 (r : Rc25) (w : World) : Calls Tryd.prog 81 #[.agg r.cs] w fun e w' => e = .returned (.tuple #[.agg (cd25 r).cs, .int .i64 (ck25 r)]) ∧ Below w.heap.size w w' := by
  have HC : Hid (∀ W, Calls Tryd.prog 36 #[.agg r.cs] W fun e w' => e = .returned (.int .i64 (ck25 r)) ∧ Below W.heap.size W w') := fun W => pcheck25 r W
  obtain ⟨wB, hwB⟩ : ∃ wB, wB = (w.alloc (.cells r.cs 63)).alloc (.cells #[.int .i64 0, .int .i64 0, .int .i64 0, .int .i64 0, .int .u32 0, .int .i64 0, .int .i64 0, .int .i64 0, .int .u32 0, .int .i64 0] 63) := ⟨_, rfl⟩
  have bB : Below w.heap.size w wB := by rw [hwB]; exact ((Below.refl _ _).alloc (Nat.le_refl _) _).alloc (by simp) _
  have q1 : wB.heap[w.heap.size]? = some (.cells r.cs 63 (0, 0)) := by rw [hwB, heap_alloc_old _ _ (by simp)]; exact heap_alloc_new _ _
  have q2 : wB.heap[w.heap.size + 1]? = some (.cells #[.int .i64 0, .int .i64 0, .int .i64 0, .int .i64 0, .int .u32 0, .int .i64 0, .int .i64 0, .int .i64 0, .int .u32 0, .int .i64 0] 63 (0, 0)) := by rw [hwB]; exact heap_alloc2_new _ _ _
  have HQ : Hid (∀ V, Below wB.heap.size wB V → Below w.heap.size w V ∧ V.heap[w.heap.size]? = some (.cells r.cs 63 (0, 0)) ∧ V.heap[w.heap.size + 1]? = some (.cells #[.int .i64 0, .int .i64 0, .int .i64 0, .int .i64 0, .int .u32 0, .int .i64 0, .int .i64 0, .int .i64 0, .int .u32 0, .int .i64 0] 63 (0, 0))) := fun V hV => ⟨bB.trans (hV.mono bB.size), (hV.block _ (Array.getElem?_eq_some_iff.1 q1).1).trans q1, (hV.block _ (Array.getElem?_eq_some_iff.1 q2).1).trans q2⟩
  have HE : Hid (cd25 r = (if ck25 r = 0 then r else zr25)) := by
    show _ = _
    unfold cd25 ck25
    by_cases hm : r.may <;> simp [hm]
  clear bB q1 q2
  generalize cd25 r = D at *
  generalize ck25 r = E at *
  obtain ⟨q, ⟨gs, gv, gz, gm⟩, ⟨ns, nv, nz, nm⟩, t⟩ := r
  unfold Rc25.cs at HC hwB HQ ⊢
  simp only at HC hwB HQ ⊢
  have HWB : Hid ((w.alloc (.cells #[.int .i64 q, .int .i64 gs, .int .i64 gv, .int .i64 gz, .int .u32 gm, .int .i64 ns, .int .i64 nv, .int .i64 nz, .int .u32 nm, .int .i64 t] 63)).alloc (.cells #[.int .i64 0, .int .i64 0, .int .i64 0, .int .i64 0, .int .u32 0, .int .i64 0, .int .i64 0, .int .i64 0, .int .u32 0, .int .i64 0] 63) = wB) := hwB.symm
  clear hwB
  go_enter Tryd.func81, Tryd.ntmps81
  go_wp2_with fail
  rw [HWB.out]
  refine (HC.out wB).mono ?_
  rintro e1 w1 ⟨rfl, b1⟩
  have HB : Hid (Below wB.heap.size wB w1) := b1
  obtain ⟨-, x1, x2⟩ := HQ.out w1 b1
  obtain ⟨c0, c1, c2, c3, c4, c5, c6, c7, c8, c9⟩ := cells25 (g := ⟨gs, gv, gz, gm⟩) (n := ⟨ns, nv, nz, nm⟩) x1
  have HX : Hid (w1.heap[w.heap.size + 1]? = some (.cells #[.int .i64 0, .int .i64 0, .int .i64 0, .int .i64 0, .int .u32 0, .int .i64 0, .int .i64 0, .int .i64 0, .int .u32 0, .int .i64 0] 63 (0, 0))) := x2
  clear x1 x2 b1
  by_cases he : E = 0
  · have hd : D = ⟨q, ⟨gs, gv, gz, gm⟩, ⟨ns, nv, nz, nm⟩, t⟩ := by rw [HE.out, if_pos he]
    subst hd
    subst he
    go_wp2_with (refine wpList_store_row rfl 63 (.tmp 2) (.tmp 11) rfl (w.heap.size + 1) #[.int .i64 q, .int .i64 gs, .int .i64 gv, .int .i64 gz, .int .u32 gm, .int .i64 ns, .int .i64 nv, .int .i64 nz, .int .u32 nm, .int .i64 t] rfl rfl _ _ HX.out info_rc25 rfl (row_rc25 ⟨q, ⟨gs, gv, gz, gm⟩, ⟨ns, nv, nz, nm⟩, t⟩) ?_)
    refine bodyPost_ret (v := .tuple #[.agg #[.int .i64 q, .int .i64 gs, .int .i64 gv, .int .i64 gz, .int .u32 gm, .int .i64 ns, .int .i64 nv, .int .i64 nz, .int .u32 nm, .int .i64 t], .int .i64 0]) (results_ct25 (fn := Tryd.f81) (p := 2) (u := 3) (ty := 63) rfl _ _ (w.heap.size + 1) _ #[.int .i64 q, .int .i64 gs, .int .i64 gv, .int .i64 gz, .int .u32 gm, .int .i64 ns, .int .i64 nv, .int .i64 nz, .int .u32 nm, .int .i64 t] _ _ rfl (set_row25 HX.out) Tryd.underlying63 rfl info_rc25) rfl ?_
    exact ⟨rfl, below_row25 (HQ.out _ HB.out).1 (by omega) _⟩
  · have hd : D = zr25 := by rw [HE.out, if_neg he]
    subst hd
    go_wp2_with (refine wpList_store_row rfl 63 (.tmp 2) (.tmp 9) rfl (w.heap.size + 1) #[.int .i64 0, .int .i64 0, .int .i64 0, .int .i64 0, .int .u32 0, .int .i64 0, .int .i64 0, .int .i64 0, .int .u32 0, .int .i64 0] rfl rfl _ _ HX.out info_rc25 rfl (row_rc25 zr25) ?_)
    refine bodyPost_ret (v := .tuple #[.agg #[.int .i64 0, .int .i64 0, .int .i64 0, .int .i64 0, .int .u32 0, .int .i64 0, .int .i64 0, .int .i64 0, .int .u32 0, .int .i64 0], .int .i64 E]) (results_ct25 (fn := Tryd.f81) (p := 2) (u := 3) (ty := 63) rfl _ _ (w.heap.size + 1) _ #[.int .i64 0, .int .i64 0, .int .i64 0, .int .i64 0, .int .u32 0, .int .i64 0, .int .i64 0, .int .i64 0, .int .u32 0, .int .i64 0] _ _ rfl (set_row25 HX.out) Tryd.underlying63 rfl info_rc25) rfl ?_
    exact ⟨rfl, below_row25 (HQ.out _ HB.out).1 (by omega) _⟩
end Go.Proofs.YtmjlpfmacblcpaaDoor
