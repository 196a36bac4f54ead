
import Derived.Test.YteboaolflecibaaDoorBoN
import Derived.Test.YteboaolflecibaaDoorBoF
import Derived.Test.YteboaolflecibaaDoorBoS
import Derived.Test.YteboaolflecibaaDoorBoT
import Derived.Test.YteboaolflecibaaDoorBoW
import Derived.Test.YteboaolflecibaaDoorOpenBo
namespace Go.Proofs.YteboaolflecibaaDoor
open Go.RowKit Go.Shelf
set_option linter.unusedVariables false
set_option linter.unusedSimpArgs false

/-! BootMoves: the walk. -/
theorem yields_row25 {P : Program} {ops : Array Oper} {S : World → Prop} {op : Oper} {a : Act} (hw : Region.wanted op (yielded ops a.tmps) = true) (ty : TypeId) (x : Operand) (ho : op.op = .load ty x) (g : Nat) (hx : a.eval x = .pointer (some ⟨g, 0, none⟩)) (t : TypeId) (cs : Array Value) (fr : Nat × Nat) (d : TypeDesc) (hS : ∀ w, S w → w.heap[g]? = some (.cells cs t fr))
    (hu : P.underlying ty = some d) (hd : (match d with | .struct _ | .array _ _ => true | _ => false) = true) (hi : (P.info? ty).map (·.size) = some cs.size) : YieldsIf P ops S op (.agg cs) a :=
  .inl ⟨hw, fun w hw' => by
    unfold execOp
    simp only [ho, hx, Instr.loadAt, Instr.sureAddr, Sem.run_bind, Sem.run_pure, Result.andThen_ok, run_loadVar_row w g t ty cs fr d (hS w hw') hu hd hi]⟩
set_option maxRecDepth 100000 in
set_option maxHeartbeats 32000000 in
theorem bootMoves_walk (w : World) (ht : Tab w) (r : Rc25) (wr : r.wd) (i : Im25) (wi : i.wd) (k : Int) (hk0 : -9223372036854775808 ≤ k) (hk1 : k ≤ 9223372036854775807) : Calls Tryd.prog 6 #[.agg r.cs, .agg i.cs, .int .i64 k] w fun e w' => e = .returned (.bool true) ∧ Below w.heap.size w w' := by
  have HT : Hid (∀ V, Below w.heap.size w V → Tab V) := fun V hV => ht.old hV
  clear ht wr wi hk0 hk1
  have HFI : Hid (∀ W, Calls Tryd.prog 21 #[.agg i.cs] W fun e w' => e = .returned (.tuple #[.agg (cd25 ⟨1, i, no25, 0⟩).cs, .int .i64 (ck25 ⟨1, i, no25, 0⟩)]) ∧ Below W.heap.size W w') := fun W => pfirst25 i W
  have HFD : Hid (∀ W, Calls Tryd.prog 23 #[.agg i.cs] W fun e w' => e = .returned (.tuple #[.agg (cd25 ⟨1, i, no25, 0⟩).cs, .int .i64 (ck25 ⟨1, i, no25, 0⟩)]) ∧ Below W.heap.size W w') := fun W => pfirst25d i W
  have HOI : Hid (∀ W, Calls Tryd.prog 24 #[.agg r.cs, .agg i.cs, .int .i64 k] W fun e w' => e = .returned (.tuple #[.agg (of25 r i k).1.cs, .int .i64 (of25 r i k).2]) ∧ Below W.heap.size W w') := fun W => poffer25 r i k W
  have HOD : Hid (∀ W, Calls Tryd.prog 25 #[.agg r.cs, .agg i.cs, .int .i64 k] W fun e w' => e = .returned (.tuple #[.agg (of25 r i k).1.cs, .int .i64 (of25 r i k).2]) ∧ Below W.heap.size W w') := fun W => poffer25d r i k W
  have HSI : Hid (∀ W, Calls Tryd.prog 26 #[.agg r.cs] W fun e w' => e = .returned (.tuple #[.agg (st25 r).1.cs, .agg (st25 r).2.1.cs, .int .i64 (st25 r).2.2]) ∧ Below W.heap.size W w') := fun W => pstart25 r W
  have HSD : Hid (∀ W, Calls Tryd.prog 27 #[.agg r.cs] W fun e w' => e = .returned (.tuple #[.agg (st25 r).1.cs, .agg (st25 r).2.1.cs, .int .i64 (st25 r).2.2]) ∧ Below W.heap.size W w') := fun W => pstart25d r W
  have HCI : Hid (∀ W, Calls Tryd.prog 28 #[.agg r.cs] W fun e w' => e = .returned (.tuple #[.agg (cf25 r).1.cs, .int .i64 (cf25 r).2]) ∧ Below W.heap.size W w') := fun W => pconfirm25 r W
  have HCD : Hid (∀ W, Calls Tryd.prog 29 #[.agg r.cs] W fun e w' => e = .returned (.tuple #[.agg (cf25 r).1.cs, .int .i64 (cf25 r).2]) ∧ Below W.heap.size W w') := fun W => pconfirm25d r W
  have HFC : Hid (∀ (x : Rc25) W, Calls Tryd.prog 11 #[.agg x.cs] W fun e w' => e = .returned (.agg x.cs) ∧ Below W.heap.size W w') := fun x W => pfc25 x W
  have HFM : Hid (∀ (x : Im25) W, Calls Tryd.prog 22 #[.agg x.cs] W fun e w' => e = .returned (.agg x.cs) ∧ Below W.heap.size W w') := fun x W => pfi25 x W
  generalize cd25 ⟨1, i, no25, 0⟩ = A1 at *
  generalize ck25 ⟨1, i, no25, 0⟩ = E1 at *
  generalize (of25 r i k).1 = A2 at *
  generalize (of25 r i k).2 = E2 at *
  generalize (st25 r).1 = A3 at *
  generalize (st25 r).2.1 = I3 at *
  generalize (st25 r).2.2 = E3 at *
  generalize (cf25 r).1 = A4 at *
  generalize (cf25 r).2 = E4 at *
  have hbr : Hid (∀ (x : Rc25) W, (binOp .neq 34 (.agg x.cs) (.agg x.cs)).run Tryd.prog W = .ok (.bool false) W) := fun x W => by rw [bnr25, decide_eq_true rfl]; rfl
  have hber : Hid (∀ (x : Rc25) W, (binOp .eql 34 (.agg x.cs) (.agg x.cs)).run Tryd.prog W = .ok (.bool true) W) := fun x W => by rw [ber25, decide_eq_true rfl]
  have hbi : Hid (∀ (x : Im25) W, (binOp .neq 32 (.agg x.cs) (.agg x.cs)).run Tryd.prog W = .ok (.bool false) W) := fun x W => by rw [bni25, decide_eq_true rfl]; rfl
  obtain ⟨wB, hwB⟩ : ∃ wB, wB = (w.alloc (.cells r.cs 27)).alloc (.cells i.cs 25) := ⟨_, rfl⟩
  have bB : Below w.heap.size w wB := by rw [hwB]; exact ((Below.refl _ _).alloc (Nat.le_refl _) _).alloc (by simp) _
  have q1 : wB.heap[w.heap.size]? = some (.cells r.cs 27 (0, 0)) := by rw [hwB, heap_alloc_old _ _ (by simp)]; exact heap_alloc_new _ _
  have q2 : wB.heap[w.heap.size + 1]? = some (.cells i.cs 25 (0, 0)) := by rw [hwB]; exact heap_alloc2_new _ _ _
  have H0 : Hid (wB.heap[w.heap.size]? = some (.cells r.cs 27 (0, 0)) ∧ wB.heap[w.heap.size + 1]? = some (.cells i.cs 25 (0, 0)) ∧ Below w.heap.size w wB) := ⟨q1, q2, bB⟩
  have HWB : Hid ((w.alloc (.cells r.cs 27)).alloc (.cells i.cs 25) = wB) := hwB.symm
  clear hwB bB q1 q2
  go_enter Tryd.func6, Tryd.ntmps6
  go_upto_region 1 with fail
  rw [HWB.out]
  go_wp2_with (refine wpList_load_row rfl 25 (.tmp 4) rfl (w.heap.size + 1) rfl _ i.cs _ _ H0.out.2.1 Tryd.underlying25 rfl info_im25d ?_)
  refine (HFM.out i wB).mono ?_
  rintro e v1 ⟨rfl, b⟩
  have H2 : Hid (v1.heap[w.heap.size]? = some (.cells r.cs 27 (0, 0)) ∧ v1.heap[w.heap.size + 1]? = some (.cells i.cs 25 (0, 0)) ∧ Below w.heap.size w v1) := ⟨(b.block _ (Array.getElem?_eq_some_iff.1 H0.out.1).1).trans H0.out.1, (b.block _ (Array.getElem?_eq_some_iff.1 H0.out.2.1).1).trans H0.out.2.1, H0.out.2.2.trans (b.mono H0.out.2.2.size)⟩
  clear b
  go_wp2_with fail
  refine (HFI.out v1).mono ?_
  rintro e v3 ⟨rfl, b⟩
  have H4 : Hid (v3.heap[w.heap.size]? = some (.cells r.cs 27 (0, 0)) ∧ v3.heap[w.heap.size + 1]? = some (.cells i.cs 25 (0, 0)) ∧ Below w.heap.size w v3) := ⟨(b.block _ (Array.getElem?_eq_some_iff.1 H2.out.1).1).trans H2.out.1, (b.block _ (Array.getElem?_eq_some_iff.1 H2.out.2.1).1).trans H2.out.2.1, H2.out.2.2.trans (b.mono H2.out.2.2.size)⟩
  clear b
  obtain ⟨v5, hv5⟩ : ∃ v, v = ((v3.alloc (.cells #[.int .i64 0, .int .i64 0, .int .i64 0, .int .i64 0, .int .u32 0, .int .i64 0, .int .i64 0, .int .i64 0, .int .u32 0, .int .i64 0] 34)).setRow v3.heap.size A1.cs) := ⟨_, rfl⟩
  obtain ⟨ba, hba⟩ : ∃ b, b = v3.heap.size := ⟨_, rfl⟩
  have b : Below v3.heap.size v3 v5 := by rw [hv5]; exact below_row25 ((Below.refl _ _).alloc (Nat.le_refl _) _) (Nat.le_refl _) _
  have q : v5.heap[ba]? = some (.cells A1.cs 34 (0, 0)) := by rw [hv5, hba]; exact set_row25 (heap_alloc_new _ _)
  have ltba : Hid (w.heap.size + 1 < ba) := by have h := (Array.getElem?_eq_some_iff.1 H4.out.2.1).1; rw [hba]; exact h
  have Wba : Hid (((v3.alloc (.cells #[.int .i64 0, .int .i64 0, .int .i64 0, .int .i64 0, .int .u32 0, .int .i64 0, .int .i64 0, .int .i64 0, .int .u32 0, .int .i64 0] 34)).setRow v3.heap.size A1.cs) = v5 ∧ v3.heap.size = ba) := ⟨hv5.symm, hba.symm⟩
  have H6 : Hid (v5.heap[w.heap.size]? = some (.cells r.cs 27 (0, 0)) ∧ v5.heap[w.heap.size + 1]? = some (.cells i.cs 25 (0, 0)) ∧ v5.heap[ba]? = some (.cells A1.cs 34 (0, 0)) ∧ Below w.heap.size w v5) := ⟨(b.block _ (Array.getElem?_eq_some_iff.1 H4.out.1).1).trans H4.out.1, (b.block _ (Array.getElem?_eq_some_iff.1 H4.out.2.1).1).trans H4.out.2.1, q, H4.out.2.2.trans (b.mono H4.out.2.2.size)⟩
  clear hv5 hba b q
  go_upto_region 2 with (refine wpList_store_row rfl 34 (.tmp 7) (.tmp 17) rfl v3.heap.size A1.cs rfl rfl _ _ (heap_alloc_new v3 _) info_rc25 rfl (row_rc25 A1) ?_)
  rw [Wba.out.1, Wba.out.2]
  go_wp2_with (refine wpList_load_row rfl 25 (.tmp 4) rfl (w.heap.size + 1) rfl _ i.cs _ _ H6.out.2.1 Tryd.underlying25 rfl info_im25d ?_)
  refine (HFD.out v5).mono ?_
  rintro e v7 ⟨rfl, b⟩
  have H8 : Hid (v7.heap[w.heap.size]? = some (.cells r.cs 27 (0, 0)) ∧ v7.heap[w.heap.size + 1]? = some (.cells i.cs 25 (0, 0)) ∧ v7.heap[ba]? = some (.cells A1.cs 34 (0, 0)) ∧ Below w.heap.size w v7) := ⟨(b.block _ (Array.getElem?_eq_some_iff.1 H6.out.1).1).trans H6.out.1, (b.block _ (Array.getElem?_eq_some_iff.1 H6.out.2.1).1).trans H6.out.2.1, (b.block _ (Array.getElem?_eq_some_iff.1 H6.out.2.2.1).1).trans H6.out.2.2.1, H6.out.2.2.2.trans (b.mono H6.out.2.2.2.size)⟩
  clear b
  obtain ⟨v9, hv9⟩ : ∃ v, v = ((v7.alloc (.cells #[.int .i64 0, .int .i64 0, .int .i64 0, .int .i64 0, .int .u32 0, .int .i64 0, .int .i64 0, .int .i64 0, .int .u32 0, .int .i64 0] 27)).setRow v7.heap.size A1.cs) := ⟨_, rfl⟩
  obtain ⟨bb, hbb⟩ : ∃ b, b = v7.heap.size := ⟨_, rfl⟩
  have b : Below v7.heap.size v7 v9 := by rw [hv9]; exact below_row25 ((Below.refl _ _).alloc (Nat.le_refl _) _) (Nat.le_refl _) _
  have q : v9.heap[bb]? = some (.cells A1.cs 27 (0, 0)) := by rw [hv9, hbb]; exact set_row25 (heap_alloc_new _ _)
  have ltbb : Hid (ba < bb) := by have h := (Array.getElem?_eq_some_iff.1 H8.out.2.2.1).1; rw [hbb]; exact h
  have Wbb : Hid (((v7.alloc (.cells #[.int .i64 0, .int .i64 0, .int .i64 0, .int .i64 0, .int .u32 0, .int .i64 0, .int .i64 0, .int .i64 0, .int .u32 0, .int .i64 0] 27)).setRow v7.heap.size A1.cs) = v9 ∧ v7.heap.size = bb) := ⟨hv9.symm, hbb.symm⟩
  have H10 : Hid (v9.heap[w.heap.size]? = some (.cells r.cs 27 (0, 0)) ∧ v9.heap[w.heap.size + 1]? = some (.cells i.cs 25 (0, 0)) ∧ v9.heap[ba]? = some (.cells A1.cs 34 (0, 0)) ∧ v9.heap[bb]? = some (.cells A1.cs 27 (0, 0)) ∧ Below w.heap.size w v9) := ⟨(b.block _ (Array.getElem?_eq_some_iff.1 H8.out.1).1).trans H8.out.1, (b.block _ (Array.getElem?_eq_some_iff.1 H8.out.2.1).1).trans H8.out.2.1, (b.block _ (Array.getElem?_eq_some_iff.1 H8.out.2.2.1).1).trans H8.out.2.2.1, q, H8.out.2.2.2.trans (b.mono H8.out.2.2.2.size)⟩
  clear hv9 hbb b q
  go_upto_region 3 with (refine wpList_store_row rfl 27 (.tmp 9) (.tmp 22) rfl v7.heap.size A1.cs rfl rfl _ _ (heap_alloc_new v7 _) info_rc25d rfl (row_rc25 A1) ?_)
  rw [Wbb.out.1, Wbb.out.2]
  obtain ⟨v11, hv⟩ : ∃ v, v = v9.drew := ⟨_, rfl⟩
  have HV : Hid (v9.drew = v11) := hv.symm
  have b : Below v9.heap.size v9 v11 := by rw [hv]; exact (Below.refl _ _).drew
  have H12 : Hid (v11.heap[w.heap.size]? = some (.cells r.cs 27 (0, 0)) ∧ v11.heap[w.heap.size + 1]? = some (.cells i.cs 25 (0, 0)) ∧ v11.heap[ba]? = some (.cells A1.cs 34 (0, 0)) ∧ v11.heap[bb]? = some (.cells A1.cs 27 (0, 0)) ∧ Below w.heap.size w v11) := ⟨(b.block _ (Array.getElem?_eq_some_iff.1 H10.out.1).1).trans H10.out.1, (b.block _ (Array.getElem?_eq_some_iff.1 H10.out.2.1).1).trans H10.out.2.1, (b.block _ (Array.getElem?_eq_some_iff.1 H10.out.2.2.1).1).trans H10.out.2.2.1, (b.block _ (Array.getElem?_eq_some_iff.1 H10.out.2.2.2.1).1).trans H10.out.2.2.2.1, H10.out.2.2.2.2.trans (b.mono H10.out.2.2.2.2.size)⟩
  clear hv b
  refine plain_region16 (fun V => V.heap[ba]? = some (.cells A1.cs 34 (0, 0)) ∧ V.heap[bb]? = some (.cells A1.cs 27 (0, 0)) ∧ True) 9 (by kernel_rfl) (by rw [HV.out]; exact ⟨H12.out.2.2.1, H12.out.2.2.2.1, trivial⟩) (fun hHeld => ?_)
  rw [HV.out] at hHeld ⊢
  clear HV
  refine wpAnyK_take (i := 0) (v := .agg A1.cs) rfl (by kernel_rfl) (by kernel_rfl) (by kernel_rfl) (by kernel_rfl) (fun _ _ _ h => h) (yields_row25 (by rfl) 34 (.tmp 7) rfl ba rfl _ _ _ _ (fun w h => h.1) Tryd.underlying34 rfl info_rc25) hHeld ?_
  (try simp only [List.getElem_toArray, List.getElem_cons_zero, List.getElem_cons_succ, Act.put, List.setIfInBounds_toArray, List.set_cons_zero, List.set_cons_succ])
  refine wpAnyK_take (i := 1) (v := .agg A1.cs) rfl (by kernel_rfl) (by kernel_rfl) (by kernel_rfl) (by kernel_rfl) (fun _ _ _ h => h) (yields_row25 (by rfl) 27 (.tmp 9) rfl bb rfl _ _ _ _ (fun w h => h.2.1) Tryd.underlying27 rfl info_rc25d) hHeld ?_
  (try simp only [List.getElem_toArray, List.getElem_cons_zero, List.getElem_cons_succ, Act.put, List.setIfInBounds_toArray, List.set_cons_zero, List.set_cons_succ])
  refine wpAnyK_one (i := 2) (by kernel_rfl) rfl (fun K hK => ?_)
  (try simp only [List.getElem_toArray, List.getElem_cons_zero, List.getElem_cons_succ, Act.put, List.setIfInBounds_toArray, List.set_cons_zero, List.set_cons_succ])
  go_simp
  refine (HFC.out A1 v11).mono ?_
  rintro e v13 ⟨rfl, b⟩
  have H14 : Hid (v13.heap[w.heap.size]? = some (.cells r.cs 27 (0, 0)) ∧ v13.heap[w.heap.size + 1]? = some (.cells i.cs 25 (0, 0)) ∧ v13.heap[ba]? = some (.cells A1.cs 34 (0, 0)) ∧ v13.heap[bb]? = some (.cells A1.cs 27 (0, 0)) ∧ Below w.heap.size w v13) := ⟨(b.block _ (Array.getElem?_eq_some_iff.1 H12.out.1).1).trans H12.out.1, (b.block _ (Array.getElem?_eq_some_iff.1 H12.out.2.1).1).trans H12.out.2.1, (b.block _ (Array.getElem?_eq_some_iff.1 H12.out.2.2.1).1).trans H12.out.2.2.1, (b.block _ (Array.getElem?_eq_some_iff.1 H12.out.2.2.2.1).1).trans H12.out.2.2.2.1, H12.out.2.2.2.2.trans (b.mono H12.out.2.2.2.2.size)⟩
  clear b
  refine hK.out _ _ (fun _ => ⟨H14.out.2.2.1, H14.out.2.2.2.1, trivial⟩) (fun hHeld0 => ?_)
  have hHeld := hHeld0 (by decide)
  clear hHeld0 hK K
  (try simp only [List.getElem_toArray, List.getElem_cons_zero, List.getElem_cons_succ, Act.put, List.setIfInBounds_toArray, List.set_cons_zero, List.set_cons_succ])
  refine wpAnyK_one (i := 3) (by kernel_rfl) rfl (fun K hK => ?_)
  (try simp only [List.getElem_toArray, List.getElem_cons_zero, List.getElem_cons_succ, Act.put, List.setIfInBounds_toArray, List.set_cons_zero, List.set_cons_succ])
  rw [if_pos (by rfl)]
  refine wp_bin25 .neq 34 (.tmp 24) (.tmp 26) _ rfl rfl rfl egr25 (hbr.out A1 v13) ?_
  refine hK.out _ _ (fun _ => ⟨H14.out.2.2.1, H14.out.2.2.2.1, trivial⟩) (fun hHeld0 => ?_)
  have hHeld := hHeld0 (by decide)
  clear hHeld0 hK K
  simp only [Act.put, List.setIfInBounds_toArray, List.set_cons_zero, List.set_cons_succ]
  refine wpAnyK_one (i := 4) (by kernel_rfl) rfl (fun K hK => ?_)
  (try simp only [List.getElem_toArray, List.getElem_cons_zero, List.getElem_cons_succ, Act.put, List.setIfInBounds_toArray, List.set_cons_zero, List.set_cons_succ])
  go_simp
  refine hK.out _ _ (fun _ => ⟨H14.out.2.2.1, H14.out.2.2.2.1, trivial⟩) (fun hHeld0 => ?_)
  have hHeld := hHeld0 (by decide)
  clear hHeld0 hK K
  (try simp only [List.getElem_toArray, List.getElem_cons_zero, List.getElem_cons_succ, Act.put, List.setIfInBounds_toArray, List.set_cons_zero, List.set_cons_succ])
  refine wpAnyK_take (i := 5) (v := .int .i64 E1) rfl (by kernel_rfl) (by kernel_rfl) (by kernel_rfl) (by kernel_rfl) (fun _ _ _ h => h) (Or.inl ⟨by rfl, fun w hSw => by go_simp⟩) hHeld ?_
  simp only [List.getElem_toArray, List.getElem_cons_zero, List.getElem_cons_succ, Act.put, List.setIfInBounds_toArray, List.set_cons_zero, List.set_cons_succ]
  refine wpAnyK_take (i := 6) (v := .int .i64 E1) rfl (by kernel_rfl) (by kernel_rfl) (by kernel_rfl) (by kernel_rfl) (fun _ _ _ h => h) (Or.inl ⟨by rfl, fun w hSw => by go_simp⟩) hHeld ?_
  simp only [List.getElem_toArray, List.getElem_cons_zero, List.getElem_cons_succ, Act.put, List.setIfInBounds_toArray, List.set_cons_zero, List.set_cons_succ]
  have hne : (E1 != E1) = false := by simp
  refine wpAnyK_one (i := 7) (by kernel_rfl) rfl (fun K hK => ?_)
  (try simp only [List.getElem_toArray, List.getElem_cons_zero, List.getElem_cons_succ, Act.put, List.setIfInBounds_toArray, List.set_cons_zero, List.set_cons_succ])
  go_simp
  refine hK.out _ _ (fun _ => ⟨H14.out.2.2.1, H14.out.2.2.2.1, trivial⟩) (fun hHeld0 => ?_)
  have hHeld := hHeld0 (by decide)
  clear hHeld0 hK K
  (try simp only [List.getElem_toArray, List.getElem_cons_zero, List.getElem_cons_succ, Act.put, List.setIfInBounds_toArray, List.set_cons_zero, List.set_cons_succ])
  refine wpAnyK_one (i := 8) (by kernel_rfl) rfl (fun K hK => ?_)
  (try simp only [List.getElem_toArray, List.getElem_cons_zero, List.getElem_cons_succ, Act.put, List.setIfInBounds_toArray, List.set_cons_zero, List.set_cons_succ])
  go_simp
  refine hK.out _ _ (fun _ => ⟨H14.out.2.2.1, H14.out.2.2.2.1, trivial⟩) (fun hHeld0 => ?_)
  have hHeld := hHeld0 (by decide)
  clear hHeld0 hK K
  (try simp only [List.getElem_toArray, List.getElem_cons_zero, List.getElem_cons_succ, Act.put, List.setIfInBounds_toArray, List.set_cons_zero, List.set_cons_succ])
  refine wpAnyK_done (by kernel_rfl) ?_ _
  clear hne
  go_upto_region 5 with fail
  obtain ⟨v15, hv⟩ : ∃ v, v = v13.drew := ⟨_, rfl⟩
  have HV : Hid (v13.drew = v15) := hv.symm
  have b : Below v13.heap.size v13 v15 := by rw [hv]; exact (Below.refl _ _).drew
  have H16 : Hid (v15.heap[w.heap.size]? = some (.cells r.cs 27 (0, 0)) ∧ v15.heap[w.heap.size + 1]? = some (.cells i.cs 25 (0, 0)) ∧ v15.heap[ba]? = some (.cells A1.cs 34 (0, 0)) ∧ v15.heap[bb]? = some (.cells A1.cs 27 (0, 0)) ∧ Below w.heap.size w v15) := ⟨(b.block _ (Array.getElem?_eq_some_iff.1 H14.out.1).1).trans H14.out.1, (b.block _ (Array.getElem?_eq_some_iff.1 H14.out.2.1).1).trans H14.out.2.1, (b.block _ (Array.getElem?_eq_some_iff.1 H14.out.2.2.1).1).trans H14.out.2.2.1, (b.block _ (Array.getElem?_eq_some_iff.1 H14.out.2.2.2.1).1).trans H14.out.2.2.2.1, H14.out.2.2.2.2.trans (b.mono H14.out.2.2.2.2.size)⟩
  clear hv b
  refine plain_region16 (fun V => V.heap[w.heap.size]? = some (.cells r.cs 27 (0, 0)) ∧ V.heap[w.heap.size + 1]? = some (.cells i.cs 25 (0, 0)) ∧ True) 10 (by kernel_rfl) (by rw [HV.out]; exact ⟨H16.out.1, H16.out.2.1, trivial⟩) (fun hHeld => ?_)
  rw [HV.out] at hHeld ⊢
  clear HV
  refine wpAnyK_take (i := 0) (v := .agg r.cs) rfl (by kernel_rfl) (by kernel_rfl) (by kernel_rfl) (by kernel_rfl) (fun _ _ _ h => h) (yields_row25 (by rfl) 27 (.tmp 3) rfl w.heap.size rfl _ _ _ _ (fun w h => h.1) Tryd.underlying27 rfl info_rc25d) hHeld ?_
  (try simp only [List.getElem_toArray, List.getElem_cons_zero, List.getElem_cons_succ, Act.put, List.setIfInBounds_toArray, List.set_cons_zero, List.set_cons_succ])
  refine wpAnyK_take (i := 2) (v := .agg i.cs) rfl (by kernel_rfl) (by kernel_rfl) (by kernel_rfl) (by kernel_rfl) (fun _ _ _ h => h) (yields_row25 (by rfl) 25 (.tmp 4) rfl (w.heap.size + 1) rfl _ _ _ _ (fun w h => h.2.1) Tryd.underlying25 rfl info_im25d) hHeld ?_
  (try simp only [List.getElem_toArray, List.getElem_cons_zero, List.getElem_cons_succ, Act.put, List.setIfInBounds_toArray, List.set_cons_zero, List.set_cons_succ])
  refine wpAnyK_take (i := 4) (v := .int .i64 k) rfl (by kernel_rfl) (by kernel_rfl) (by kernel_rfl) (by kernel_rfl) (fun _ _ _ h => h) (Or.inl ⟨by rfl, fun w hSw => by go_simp⟩) hHeld ?_
  simp only [List.getElem_toArray, List.getElem_cons_zero, List.getElem_cons_succ, Act.put, List.setIfInBounds_toArray, List.set_cons_zero, List.set_cons_succ]
  refine wpAnyK_one (i := 1) (by kernel_rfl) rfl (fun K hK => ?_)
  (try simp only [List.getElem_toArray, List.getElem_cons_zero, List.getElem_cons_succ, Act.put, List.setIfInBounds_toArray, List.set_cons_zero, List.set_cons_succ])
  go_simp
  refine (HFC.out r v15).mono ?_
  rintro e v17 ⟨rfl, b⟩
  have H18 : Hid (v17.heap[w.heap.size]? = some (.cells r.cs 27 (0, 0)) ∧ v17.heap[w.heap.size + 1]? = some (.cells i.cs 25 (0, 0)) ∧ v17.heap[ba]? = some (.cells A1.cs 34 (0, 0)) ∧ v17.heap[bb]? = some (.cells A1.cs 27 (0, 0)) ∧ Below w.heap.size w v17) := ⟨(b.block _ (Array.getElem?_eq_some_iff.1 H16.out.1).1).trans H16.out.1, (b.block _ (Array.getElem?_eq_some_iff.1 H16.out.2.1).1).trans H16.out.2.1, (b.block _ (Array.getElem?_eq_some_iff.1 H16.out.2.2.1).1).trans H16.out.2.2.1, (b.block _ (Array.getElem?_eq_some_iff.1 H16.out.2.2.2.1).1).trans H16.out.2.2.2.1, H16.out.2.2.2.2.trans (b.mono H16.out.2.2.2.2.size)⟩
  clear b
  refine hK.out _ _ (fun _ => ⟨H18.out.1, H18.out.2.1, trivial⟩) (fun hHeld0 => ?_)
  have hHeld := hHeld0 (by decide)
  clear hHeld0 hK K
  (try simp only [List.getElem_toArray, List.getElem_cons_zero, List.getElem_cons_succ, Act.put, List.setIfInBounds_toArray, List.set_cons_zero, List.set_cons_succ])
  refine wpAnyK_one (i := 3) (by kernel_rfl) rfl (fun K hK => ?_)
  (try simp only [List.getElem_toArray, List.getElem_cons_zero, List.getElem_cons_succ, Act.put, List.setIfInBounds_toArray, List.set_cons_zero, List.set_cons_succ])
  go_simp
  refine (HFM.out i v17).mono ?_
  rintro e v19 ⟨rfl, b⟩
  have H20 : Hid (v19.heap[w.heap.size]? = some (.cells r.cs 27 (0, 0)) ∧ v19.heap[w.heap.size + 1]? = some (.cells i.cs 25 (0, 0)) ∧ v19.heap[ba]? = some (.cells A1.cs 34 (0, 0)) ∧ v19.heap[bb]? = some (.cells A1.cs 27 (0, 0)) ∧ Below w.heap.size w v19) := ⟨(b.block _ (Array.getElem?_eq_some_iff.1 H18.out.1).1).trans H18.out.1, (b.block _ (Array.getElem?_eq_some_iff.1 H18.out.2.1).1).trans H18.out.2.1, (b.block _ (Array.getElem?_eq_some_iff.1 H18.out.2.2.1).1).trans H18.out.2.2.1, (b.block _ (Array.getElem?_eq_some_iff.1 H18.out.2.2.2.1).1).trans H18.out.2.2.2.1, H18.out.2.2.2.2.trans (b.mono H18.out.2.2.2.2.size)⟩
  clear b
  refine hK.out _ _ (fun _ => ⟨H20.out.1, H20.out.2.1, trivial⟩) (fun hHeld0 => ?_)
  have hHeld := hHeld0 (by decide)
  clear hHeld0 hK K
  (try simp only [List.getElem_toArray, List.getElem_cons_zero, List.getElem_cons_succ, Act.put, List.setIfInBounds_toArray, List.set_cons_zero, List.set_cons_succ])
  refine wpAnyK_one (i := 5) (by kernel_rfl) rfl (fun K hK => ?_)
  (try simp only [List.getElem_toArray, List.getElem_cons_zero, List.getElem_cons_succ, Act.put, List.setIfInBounds_toArray, List.set_cons_zero, List.set_cons_succ])
  go_simp
  refine (HOI.out v19).mono ?_
  rintro e v21 ⟨rfl, b⟩
  have H22 : Hid (v21.heap[w.heap.size]? = some (.cells r.cs 27 (0, 0)) ∧ v21.heap[w.heap.size + 1]? = some (.cells i.cs 25 (0, 0)) ∧ v21.heap[ba]? = some (.cells A1.cs 34 (0, 0)) ∧ v21.heap[bb]? = some (.cells A1.cs 27 (0, 0)) ∧ Below w.heap.size w v21) := ⟨(b.block _ (Array.getElem?_eq_some_iff.1 H20.out.1).1).trans H20.out.1, (b.block _ (Array.getElem?_eq_some_iff.1 H20.out.2.1).1).trans H20.out.2.1, (b.block _ (Array.getElem?_eq_some_iff.1 H20.out.2.2.1).1).trans H20.out.2.2.1, (b.block _ (Array.getElem?_eq_some_iff.1 H20.out.2.2.2.1).1).trans H20.out.2.2.2.1, H20.out.2.2.2.2.trans (b.mono H20.out.2.2.2.2.size)⟩
  clear b
  refine hK.out _ _ (fun _ => ⟨H22.out.1, H22.out.2.1, trivial⟩) (fun hHeld0 => ?_)
  have hHeld := hHeld0 (by decide)
  clear hHeld0 hK K
  (try simp only [List.getElem_toArray, List.getElem_cons_zero, List.getElem_cons_succ, Act.put, List.setIfInBounds_toArray, List.set_cons_zero, List.set_cons_succ])
  refine wpAnyK_one (i := 6) (by kernel_rfl) rfl (fun K hK => ?_)
  (try simp only [List.getElem_toArray, List.getElem_cons_zero, List.getElem_cons_succ, Act.put, List.setIfInBounds_toArray, List.set_cons_zero, List.set_cons_succ])
  go_simp
  refine hK.out _ _ (fun _ => ⟨H22.out.1, H22.out.2.1, trivial⟩) (fun hHeld0 => ?_)
  have hHeld := hHeld0 (by decide)
  clear hHeld0 hK K
  (try simp only [List.getElem_toArray, List.getElem_cons_zero, List.getElem_cons_succ, Act.put, List.setIfInBounds_toArray, List.set_cons_zero, List.set_cons_succ])
  refine wpAnyK_take (i := 7) (v := .agg A2.cs) rfl (by kernel_rfl) (by kernel_rfl) (by kernel_rfl) (by kernel_rfl) (fun _ _ _ h => h) (Or.inl ⟨by rfl, fun w hSw => by go_simp⟩) hHeld ?_
  simp only [List.getElem_toArray, List.getElem_cons_zero, List.getElem_cons_succ, Act.put, List.setIfInBounds_toArray, List.set_cons_zero, List.set_cons_succ]
  refine wpAnyK_take (i := 8) (v := .int .i64 E2) rfl (by kernel_rfl) (by kernel_rfl) (by kernel_rfl) (by kernel_rfl) (fun _ _ _ h => h) (Or.inl ⟨by rfl, fun w hSw => by go_simp⟩) hHeld ?_
  simp only [List.getElem_toArray, List.getElem_cons_zero, List.getElem_cons_succ, Act.put, List.setIfInBounds_toArray, List.set_cons_zero, List.set_cons_succ]
  refine wpAnyK_one (i := 9) (by kernel_rfl) rfl (fun K hK => ?_)
  (try simp only [List.getElem_toArray, List.getElem_cons_zero, List.getElem_cons_succ, Act.put, List.setIfInBounds_toArray, List.set_cons_zero, List.set_cons_succ])
  rw [if_pos (by rfl)]
  refine wp_store_row 34 (.tmp 7) (.tmp 40) rfl ba A2.cs rfl rfl _ _ H22.out.2.2.1 info_rc25 rfl (row_rc25 A2) ?_
  obtain ⟨v23, hv23⟩ : ∃ v, v = v21.setRow ba A2.cs := ⟨_, rfl⟩
  have H24 : Hid (v23.heap[w.heap.size]? = some (.cells r.cs 27 (0, 0)) ∧ v23.heap[w.heap.size + 1]? = some (.cells i.cs 25 (0, 0)) ∧ v23.heap[ba]? = some (.cells A2.cs 34 (0, 0)) ∧ v23.heap[bb]? = some (.cells A1.cs 27 (0, 0)) ∧ Below w.heap.size w v23) := ⟨by rw [hv23, old_row25 _ (by have l0 := ltba.out; have l1 := ltbb.out; omega)]; exact H22.out.1, by rw [hv23, old_row25 _ (by have l0 := ltba.out; have l1 := ltbb.out; omega)]; exact H22.out.2.1, by rw [hv23]; exact set_row25 H22.out.2.2.1, by rw [hv23, old_row25 _ (by have l0 := ltba.out; have l1 := ltbb.out; omega)]; exact H22.out.2.2.2.1, by rw [hv23]; exact below_row25 H22.out.2.2.2.2 (by have l0 := ltba.out; have l1 := ltbb.out; omega) _⟩
  have Wv23 : Hid (v21.setRow ba A2.cs = v23) := hv23.symm
  clear hv23
  rw [Wv23.out]
  refine hK.out _ _ (fun _ => ⟨H24.out.1, H24.out.2.1, trivial⟩) (fun hHeld0 => ?_)
  have hHeld := hHeld0 (by decide)
  clear hHeld0 hK K
  simp only [Act.put, List.setIfInBounds_toArray, List.set_cons_zero, List.set_cons_succ]
  refine wpAnyK_one (i := 10) (by kernel_rfl) rfl (fun K hK => ?_)
  (try simp only [List.getElem_toArray, List.getElem_cons_zero, List.getElem_cons_succ, Act.put, List.setIfInBounds_toArray, List.set_cons_zero, List.set_cons_succ])
  go_simp
  refine hK.out _ _ (fun h => absurd rfl h) (fun _ => ?_)
  clear hK K
  refine wpAnyK_done (by kernel_rfl) ?_ _
  go_wp2_with (first | refine wpList_load_row rfl 27 (.tmp 3) rfl w.heap.size rfl _ r.cs _ _ H24.out.1 Tryd.underlying27 rfl info_rc25d ?_ | refine wpList_load_row rfl 25 (.tmp 4) rfl (w.heap.size + 1) rfl _ i.cs _ _ H24.out.2.1 Tryd.underlying25 rfl info_im25d ?_)
  refine (HOD.out v23).mono ?_
  rintro e v25 ⟨rfl, b⟩
  have H26 : Hid (v25.heap[w.heap.size]? = some (.cells r.cs 27 (0, 0)) ∧ v25.heap[w.heap.size + 1]? = some (.cells i.cs 25 (0, 0)) ∧ v25.heap[ba]? = some (.cells A2.cs 34 (0, 0)) ∧ v25.heap[bb]? = some (.cells A1.cs 27 (0, 0)) ∧ Below w.heap.size w v25) := ⟨(b.block _ (Array.getElem?_eq_some_iff.1 H24.out.1).1).trans H24.out.1, (b.block _ (Array.getElem?_eq_some_iff.1 H24.out.2.1).1).trans H24.out.2.1, (b.block _ (Array.getElem?_eq_some_iff.1 H24.out.2.2.1).1).trans H24.out.2.2.1, (b.block _ (Array.getElem?_eq_some_iff.1 H24.out.2.2.2.1).1).trans H24.out.2.2.2.1, H24.out.2.2.2.2.trans (b.mono H24.out.2.2.2.2.size)⟩
  clear b
  obtain ⟨v27, hv27⟩ : ∃ v, v = v25.setRow bb A2.cs := ⟨_, rfl⟩
  have H28 : Hid (v27.heap[w.heap.size]? = some (.cells r.cs 27 (0, 0)) ∧ v27.heap[w.heap.size + 1]? = some (.cells i.cs 25 (0, 0)) ∧ v27.heap[ba]? = some (.cells A2.cs 34 (0, 0)) ∧ v27.heap[bb]? = some (.cells A2.cs 27 (0, 0)) ∧ Below w.heap.size w v27) := ⟨by rw [hv27, old_row25 _ (by have l0 := ltba.out; have l1 := ltbb.out; omega)]; exact H26.out.1, by rw [hv27, old_row25 _ (by have l0 := ltba.out; have l1 := ltbb.out; omega)]; exact H26.out.2.1, by rw [hv27, old_row25 _ (by have l0 := ltba.out; have l1 := ltbb.out; omega)]; exact H26.out.2.2.1, by rw [hv27]; exact set_row25 H26.out.2.2.2.1, by rw [hv27]; exact below_row25 H26.out.2.2.2.2 (by have l0 := ltba.out; have l1 := ltbb.out; omega) _⟩
  have Wv27 : Hid (v25.setRow bb A2.cs = v27) := hv27.symm
  clear hv27
  go_upto_region 7 with (refine wpList_store_row rfl 27 (.tmp 9) (.tmp 47) rfl bb A2.cs rfl rfl _ _ H26.out.2.2.2.1 info_rc25d rfl (row_rc25 A2) ?_)
  rw [Wv27.out]
  obtain ⟨v29, hv⟩ : ∃ v, v = v27.drew := ⟨_, rfl⟩
  have HV : Hid (v27.drew = v29) := hv.symm
  have b : Below v27.heap.size v27 v29 := by rw [hv]; exact (Below.refl _ _).drew
  have H30 : Hid (v29.heap[w.heap.size]? = some (.cells r.cs 27 (0, 0)) ∧ v29.heap[w.heap.size + 1]? = some (.cells i.cs 25 (0, 0)) ∧ v29.heap[ba]? = some (.cells A2.cs 34 (0, 0)) ∧ v29.heap[bb]? = some (.cells A2.cs 27 (0, 0)) ∧ Below w.heap.size w v29) := ⟨(b.block _ (Array.getElem?_eq_some_iff.1 H28.out.1).1).trans H28.out.1, (b.block _ (Array.getElem?_eq_some_iff.1 H28.out.2.1).1).trans H28.out.2.1, (b.block _ (Array.getElem?_eq_some_iff.1 H28.out.2.2.1).1).trans H28.out.2.2.1, (b.block _ (Array.getElem?_eq_some_iff.1 H28.out.2.2.2.1).1).trans H28.out.2.2.2.1, H28.out.2.2.2.2.trans (b.mono H28.out.2.2.2.2.size)⟩
  clear hv b
  refine plain_region16 (fun V => V.heap[ba]? = some (.cells A2.cs 34 (0, 0)) ∧ V.heap[bb]? = some (.cells A2.cs 27 (0, 0)) ∧ True) 9 (by kernel_rfl) (by rw [HV.out]; exact ⟨H30.out.2.2.1, H30.out.2.2.2.1, trivial⟩) (fun hHeld => ?_)
  rw [HV.out] at hHeld ⊢
  clear HV
  refine wpAnyK_take (i := 0) (v := .agg A2.cs) rfl (by kernel_rfl) (by kernel_rfl) (by kernel_rfl) (by kernel_rfl) (fun _ _ _ h => h) (yields_row25 (by rfl) 34 (.tmp 7) rfl ba rfl _ _ _ _ (fun w h => h.1) Tryd.underlying34 rfl info_rc25) hHeld ?_
  (try simp only [List.getElem_toArray, List.getElem_cons_zero, List.getElem_cons_succ, Act.put, List.setIfInBounds_toArray, List.set_cons_zero, List.set_cons_succ])
  refine wpAnyK_take (i := 1) (v := .agg A2.cs) rfl (by kernel_rfl) (by kernel_rfl) (by kernel_rfl) (by kernel_rfl) (fun _ _ _ h => h) (yields_row25 (by rfl) 27 (.tmp 9) rfl bb rfl _ _ _ _ (fun w h => h.2.1) Tryd.underlying27 rfl info_rc25d) hHeld ?_
  (try simp only [List.getElem_toArray, List.getElem_cons_zero, List.getElem_cons_succ, Act.put, List.setIfInBounds_toArray, List.set_cons_zero, List.set_cons_succ])
  refine wpAnyK_one (i := 2) (by kernel_rfl) rfl (fun K hK => ?_)
  (try simp only [List.getElem_toArray, List.getElem_cons_zero, List.getElem_cons_succ, Act.put, List.setIfInBounds_toArray, List.set_cons_zero, List.set_cons_succ])
  go_simp
  refine (HFC.out A2 v29).mono ?_
  rintro e v31 ⟨rfl, b⟩
  have H32 : Hid (v31.heap[w.heap.size]? = some (.cells r.cs 27 (0, 0)) ∧ v31.heap[w.heap.size + 1]? = some (.cells i.cs 25 (0, 0)) ∧ v31.heap[ba]? = some (.cells A2.cs 34 (0, 0)) ∧ v31.heap[bb]? = some (.cells A2.cs 27 (0, 0)) ∧ Below w.heap.size w v31) := ⟨(b.block _ (Array.getElem?_eq_some_iff.1 H30.out.1).1).trans H30.out.1, (b.block _ (Array.getElem?_eq_some_iff.1 H30.out.2.1).1).trans H30.out.2.1, (b.block _ (Array.getElem?_eq_some_iff.1 H30.out.2.2.1).1).trans H30.out.2.2.1, (b.block _ (Array.getElem?_eq_some_iff.1 H30.out.2.2.2.1).1).trans H30.out.2.2.2.1, H30.out.2.2.2.2.trans (b.mono H30.out.2.2.2.2.size)⟩
  clear b
  refine hK.out _ _ (fun _ => ⟨H32.out.2.2.1, H32.out.2.2.2.1, trivial⟩) (fun hHeld0 => ?_)
  have hHeld := hHeld0 (by decide)
  clear hHeld0 hK K
  (try simp only [List.getElem_toArray, List.getElem_cons_zero, List.getElem_cons_succ, Act.put, List.setIfInBounds_toArray, List.set_cons_zero, List.set_cons_succ])
  refine wpAnyK_one (i := 3) (by kernel_rfl) rfl (fun K hK => ?_)
  (try simp only [List.getElem_toArray, List.getElem_cons_zero, List.getElem_cons_succ, Act.put, List.setIfInBounds_toArray, List.set_cons_zero, List.set_cons_succ])
  rw [if_pos (by rfl)]
  refine wp_bin25 .neq 34 (.tmp 49) (.tmp 51) _ rfl rfl rfl egr25 (hbr.out A2 v31) ?_
  refine hK.out _ _ (fun _ => ⟨H32.out.2.2.1, H32.out.2.2.2.1, trivial⟩) (fun hHeld0 => ?_)
  have hHeld := hHeld0 (by decide)
  clear hHeld0 hK K
  simp only [Act.put, List.setIfInBounds_toArray, List.set_cons_zero, List.set_cons_succ]
  refine wpAnyK_one (i := 4) (by kernel_rfl) rfl (fun K hK => ?_)
  (try simp only [List.getElem_toArray, List.getElem_cons_zero, List.getElem_cons_succ, Act.put, List.setIfInBounds_toArray, List.set_cons_zero, List.set_cons_succ])
  go_simp
  refine hK.out _ _ (fun _ => ⟨H32.out.2.2.1, H32.out.2.2.2.1, trivial⟩) (fun hHeld0 => ?_)
  have hHeld := hHeld0 (by decide)
  clear hHeld0 hK K
  (try simp only [List.getElem_toArray, List.getElem_cons_zero, List.getElem_cons_succ, Act.put, List.setIfInBounds_toArray, List.set_cons_zero, List.set_cons_succ])
  refine wpAnyK_take (i := 5) (v := .int .i64 E2) rfl (by kernel_rfl) (by kernel_rfl) (by kernel_rfl) (by kernel_rfl) (fun _ _ _ h => h) (Or.inl ⟨by rfl, fun w hSw => by go_simp⟩) hHeld ?_
  simp only [List.getElem_toArray, List.getElem_cons_zero, List.getElem_cons_succ, Act.put, List.setIfInBounds_toArray, List.set_cons_zero, List.set_cons_succ]
  refine wpAnyK_take (i := 6) (v := .int .i64 E2) rfl (by kernel_rfl) (by kernel_rfl) (by kernel_rfl) (by kernel_rfl) (fun _ _ _ h => h) (Or.inl ⟨by rfl, fun w hSw => by go_simp⟩) hHeld ?_
  simp only [List.getElem_toArray, List.getElem_cons_zero, List.getElem_cons_succ, Act.put, List.setIfInBounds_toArray, List.set_cons_zero, List.set_cons_succ]
  have hne : (E2 != E2) = false := by simp
  refine wpAnyK_one (i := 7) (by kernel_rfl) rfl (fun K hK => ?_)
  (try simp only [List.getElem_toArray, List.getElem_cons_zero, List.getElem_cons_succ, Act.put, List.setIfInBounds_toArray, List.set_cons_zero, List.set_cons_succ])
  go_simp
  refine hK.out _ _ (fun _ => ⟨H32.out.2.2.1, H32.out.2.2.2.1, trivial⟩) (fun hHeld0 => ?_)
  have hHeld := hHeld0 (by decide)
  clear hHeld0 hK K
  (try simp only [List.getElem_toArray, List.getElem_cons_zero, List.getElem_cons_succ, Act.put, List.setIfInBounds_toArray, List.set_cons_zero, List.set_cons_succ])
  refine wpAnyK_one (i := 8) (by kernel_rfl) rfl (fun K hK => ?_)
  (try simp only [List.getElem_toArray, List.getElem_cons_zero, List.getElem_cons_succ, Act.put, List.setIfInBounds_toArray, List.set_cons_zero, List.set_cons_succ])
  go_simp
  refine hK.out _ _ (fun _ => ⟨H32.out.2.2.1, H32.out.2.2.2.1, trivial⟩) (fun hHeld0 => ?_)
  have hHeld := hHeld0 (by decide)
  clear hHeld0 hK K
  (try simp only [List.getElem_toArray, List.getElem_cons_zero, List.getElem_cons_succ, Act.put, List.setIfInBounds_toArray, List.set_cons_zero, List.set_cons_succ])
  refine wpAnyK_done (by kernel_rfl) ?_ _
  clear hne
  go_upto_region 9 with fail
  go_wp2_with (refine wpList_load_row rfl 27 (.tmp 3) rfl w.heap.size rfl _ r.cs _ _ H32.out.1 Tryd.underlying27 rfl info_rc25d ?_)
  refine (HFC.out r v31).mono ?_
  rintro e v33 ⟨rfl, b⟩
  have H34 : Hid (v33.heap[w.heap.size]? = some (.cells r.cs 27 (0, 0)) ∧ v33.heap[w.heap.size + 1]? = some (.cells i.cs 25 (0, 0)) ∧ v33.heap[ba]? = some (.cells A2.cs 34 (0, 0)) ∧ v33.heap[bb]? = some (.cells A2.cs 27 (0, 0)) ∧ Below w.heap.size w v33) := ⟨(b.block _ (Array.getElem?_eq_some_iff.1 H32.out.1).1).trans H32.out.1, (b.block _ (Array.getElem?_eq_some_iff.1 H32.out.2.1).1).trans H32.out.2.1, (b.block _ (Array.getElem?_eq_some_iff.1 H32.out.2.2.1).1).trans H32.out.2.2.1, (b.block _ (Array.getElem?_eq_some_iff.1 H32.out.2.2.2.1).1).trans H32.out.2.2.2.1, H32.out.2.2.2.2.trans (b.mono H32.out.2.2.2.2.size)⟩
  clear b
  go_wp2_with fail
  refine (HSI.out v33).mono ?_
  rintro e v35 ⟨rfl, b⟩
  have H36 : Hid (v35.heap[w.heap.size]? = some (.cells r.cs 27 (0, 0)) ∧ v35.heap[w.heap.size + 1]? = some (.cells i.cs 25 (0, 0)) ∧ v35.heap[ba]? = some (.cells A2.cs 34 (0, 0)) ∧ v35.heap[bb]? = some (.cells A2.cs 27 (0, 0)) ∧ Below w.heap.size w v35) := ⟨(b.block _ (Array.getElem?_eq_some_iff.1 H34.out.1).1).trans H34.out.1, (b.block _ (Array.getElem?_eq_some_iff.1 H34.out.2.1).1).trans H34.out.2.1, (b.block _ (Array.getElem?_eq_some_iff.1 H34.out.2.2.1).1).trans H34.out.2.2.1, (b.block _ (Array.getElem?_eq_some_iff.1 H34.out.2.2.2.1).1).trans H34.out.2.2.2.1, H34.out.2.2.2.2.trans (b.mono H34.out.2.2.2.2.size)⟩
  clear b
  have fa9 : (v35.alloc (.cells #[.int .i64 0, .int .i64 0, .int .i64 0, .int .u32 0] 32)).heap[ba]? = some (.cells A2.cs 34 (0, 0)) := by rw [heap_alloc_old _ _ (Array.getElem?_eq_some_iff.1 H36.out.2.2.1).1]; exact H36.out.2.2.1
  have fb9 : ((v35.alloc (.cells #[.int .i64 0, .int .i64 0, .int .i64 0, .int .u32 0] 32)).setRow ba A3.cs).heap[v35.heap.size]? = some (.cells #[.int .i64 0, .int .i64 0, .int .i64 0, .int .u32 0] 32 (0, 0)) := by rw [old_row25 _ (by have h := (Array.getElem?_eq_some_iff.1 H36.out.2.2.1).1; omega)]; exact heap_alloc_new _ _
  have HF9 : Hid _ := And.intro fa9 fb9
  clear fa9 fb9
  obtain ⟨v37, hv37⟩ : ∃ v, v = (((v35.alloc (.cells #[.int .i64 0, .int .i64 0, .int .i64 0, .int .u32 0] 32)).setRow ba A3.cs).setRow v35.heap.size I3.cs) := ⟨_, rfl⟩
  obtain ⟨bg, hbg⟩ : ∃ b, b = v35.heap.size := ⟨_, rfl⟩
  have ltbg : Hid (bb < bg) := by have h := (Array.getElem?_eq_some_iff.1 H36.out.2.2.2.1).1; rw [hbg]; exact h
  have Wbg : Hid ((((v35.alloc (.cells #[.int .i64 0, .int .i64 0, .int .i64 0, .int .u32 0] 32)).setRow ba A3.cs).setRow v35.heap.size I3.cs) = v37 ∧ v35.heap.size = bg) := ⟨hv37.symm, hbg.symm⟩
  have H38 : Hid (v37.heap[w.heap.size]? = some (.cells r.cs 27 (0, 0)) ∧ v37.heap[w.heap.size + 1]? = some (.cells i.cs 25 (0, 0)) ∧ v37.heap[ba]? = some (.cells A3.cs 34 (0, 0)) ∧ v37.heap[bb]? = some (.cells A2.cs 27 (0, 0)) ∧ v37.heap[bg]? = some (.cells I3.cs 32 (0, 0)) ∧ Below w.heap.size w v37) := ⟨by rw [hv37, ← hbg, old_row25 _ (by have l0 := ltba.out; have l1 := ltbb.out; have l2 := ltbg.out; omega), old_row25 _ (by have l0 := ltba.out; have l1 := ltbb.out; have l2 := ltbg.out; omega), heap_alloc_old _ _ (by rw [← hbg]; have l0 := ltba.out; have l1 := ltbb.out; have l2 := ltbg.out; omega)]; exact H36.out.1, by rw [hv37, ← hbg, old_row25 _ (by have l0 := ltba.out; have l1 := ltbb.out; have l2 := ltbg.out; omega), old_row25 _ (by have l0 := ltba.out; have l1 := ltbb.out; have l2 := ltbg.out; omega), heap_alloc_old _ _ (by rw [← hbg]; have l0 := ltba.out; have l1 := ltbb.out; have l2 := ltbg.out; omega)]; exact H36.out.2.1, by rw [hv37, ← hbg, old_row25 _ (by have l0 := ltba.out; have l1 := ltbb.out; have l2 := ltbg.out; omega)]; exact set_row25 HF9.out.1, by rw [hv37, ← hbg, old_row25 _ (by have l0 := ltba.out; have l1 := ltbb.out; have l2 := ltbg.out; omega), old_row25 _ (by have l0 := ltba.out; have l1 := ltbb.out; have l2 := ltbg.out; omega), heap_alloc_old _ _ (by rw [← hbg]; have l0 := ltba.out; have l1 := ltbb.out; have l2 := ltbg.out; omega)]; exact H36.out.2.2.2.1, by rw [hv37, hbg]; exact set_row25 HF9.out.2, by rw [hv37]; exact below_row25 (below_row25 (H36.out.2.2.2.2.alloc H36.out.2.2.2.2.size _) (by have l0 := ltba.out; have l1 := ltbb.out; have l2 := ltbg.out; omega) _) H36.out.2.2.2.2.size _⟩
  clear hv37 hbg
  go_upto_region 10 with (first | refine wpList_store_row rfl 34 (.tmp 7) (.tmp 62) rfl ba A3.cs rfl rfl _ _ HF9.out.1 info_rc25 rfl (row_rc25 A3) ?_ | refine wpList_store_row rfl 32 (.tmp 11) (.tmp 63) rfl v35.heap.size I3.cs rfl rfl _ _ HF9.out.2 info_im25 rfl (row_im25 I3) ?_)
  rw [Wbg.out.1, Wbg.out.2]
  go_wp2_with (refine wpList_load_row rfl 27 (.tmp 3) rfl w.heap.size rfl _ r.cs _ _ H38.out.1 Tryd.underlying27 rfl info_rc25d ?_)
  refine (HSD.out v37).mono ?_
  rintro e v39 ⟨rfl, b⟩
  have H40 : Hid (v39.heap[w.heap.size]? = some (.cells r.cs 27 (0, 0)) ∧ v39.heap[w.heap.size + 1]? = some (.cells i.cs 25 (0, 0)) ∧ v39.heap[ba]? = some (.cells A3.cs 34 (0, 0)) ∧ v39.heap[bb]? = some (.cells A2.cs 27 (0, 0)) ∧ v39.heap[bg]? = some (.cells I3.cs 32 (0, 0)) ∧ Below w.heap.size w v39) := ⟨(b.block _ (Array.getElem?_eq_some_iff.1 H38.out.1).1).trans H38.out.1, (b.block _ (Array.getElem?_eq_some_iff.1 H38.out.2.1).1).trans H38.out.2.1, (b.block _ (Array.getElem?_eq_some_iff.1 H38.out.2.2.1).1).trans H38.out.2.2.1, (b.block _ (Array.getElem?_eq_some_iff.1 H38.out.2.2.2.1).1).trans H38.out.2.2.2.1, (b.block _ (Array.getElem?_eq_some_iff.1 H38.out.2.2.2.2.1).1).trans H38.out.2.2.2.2.1, H38.out.2.2.2.2.2.trans (b.mono H38.out.2.2.2.2.2.size)⟩
  clear b
  have fa10 : (v39.alloc (.cells #[.int .i64 0, .int .i64 0, .int .i64 0, .int .u32 0] 25)).heap[bb]? = some (.cells A2.cs 27 (0, 0)) := by rw [heap_alloc_old _ _ (Array.getElem?_eq_some_iff.1 H40.out.2.2.2.1).1]; exact H40.out.2.2.2.1
  have fb10 : ((v39.alloc (.cells #[.int .i64 0, .int .i64 0, .int .i64 0, .int .u32 0] 25)).setRow bb A3.cs).heap[v39.heap.size]? = some (.cells #[.int .i64 0, .int .i64 0, .int .i64 0, .int .u32 0] 25 (0, 0)) := by rw [old_row25 _ (by have h := (Array.getElem?_eq_some_iff.1 H40.out.2.2.2.1).1; omega)]; exact heap_alloc_new _ _
  have HF10 : Hid _ := And.intro fa10 fb10
  clear fa10 fb10
  obtain ⟨v41, hv41⟩ : ∃ v, v = (((v39.alloc (.cells #[.int .i64 0, .int .i64 0, .int .i64 0, .int .u32 0] 25)).setRow bb A3.cs).setRow v39.heap.size I3.cs) := ⟨_, rfl⟩
  obtain ⟨bw, hbw⟩ : ∃ b, b = v39.heap.size := ⟨_, rfl⟩
  have ltbw : Hid (bg < bw) := by have h := (Array.getElem?_eq_some_iff.1 H40.out.2.2.2.2.1).1; rw [hbw]; exact h
  have Wbw : Hid ((((v39.alloc (.cells #[.int .i64 0, .int .i64 0, .int .i64 0, .int .u32 0] 25)).setRow bb A3.cs).setRow v39.heap.size I3.cs) = v41 ∧ v39.heap.size = bw) := ⟨hv41.symm, hbw.symm⟩
  have H42 : Hid (v41.heap[w.heap.size]? = some (.cells r.cs 27 (0, 0)) ∧ v41.heap[w.heap.size + 1]? = some (.cells i.cs 25 (0, 0)) ∧ v41.heap[ba]? = some (.cells A3.cs 34 (0, 0)) ∧ v41.heap[bb]? = some (.cells A3.cs 27 (0, 0)) ∧ v41.heap[bg]? = some (.cells I3.cs 32 (0, 0)) ∧ v41.heap[bw]? = some (.cells I3.cs 25 (0, 0)) ∧ Below w.heap.size w v41) := ⟨by rw [hv41, ← hbw, old_row25 _ (by have l0 := ltba.out; have l1 := ltbb.out; have l2 := ltbg.out; have l3 := ltbw.out; omega), old_row25 _ (by have l0 := ltba.out; have l1 := ltbb.out; have l2 := ltbg.out; have l3 := ltbw.out; omega), heap_alloc_old _ _ (by rw [← hbw]; have l0 := ltba.out; have l1 := ltbb.out; have l2 := ltbg.out; have l3 := ltbw.out; omega)]; exact H40.out.1, by rw [hv41, ← hbw, old_row25 _ (by have l0 := ltba.out; have l1 := ltbb.out; have l2 := ltbg.out; have l3 := ltbw.out; omega), old_row25 _ (by have l0 := ltba.out; have l1 := ltbb.out; have l2 := ltbg.out; have l3 := ltbw.out; omega), heap_alloc_old _ _ (by rw [← hbw]; have l0 := ltba.out; have l1 := ltbb.out; have l2 := ltbg.out; have l3 := ltbw.out; omega)]; exact H40.out.2.1, by rw [hv41, ← hbw, old_row25 _ (by have l0 := ltba.out; have l1 := ltbb.out; have l2 := ltbg.out; have l3 := ltbw.out; omega), old_row25 _ (by have l0 := ltba.out; have l1 := ltbb.out; have l2 := ltbg.out; have l3 := ltbw.out; omega), heap_alloc_old _ _ (by rw [← hbw]; have l0 := ltba.out; have l1 := ltbb.out; have l2 := ltbg.out; have l3 := ltbw.out; omega)]; exact H40.out.2.2.1, by rw [hv41, ← hbw, old_row25 _ (by have l0 := ltba.out; have l1 := ltbb.out; have l2 := ltbg.out; have l3 := ltbw.out; omega)]; exact set_row25 HF10.out.1, by rw [hv41, ← hbw, old_row25 _ (by have l0 := ltba.out; have l1 := ltbb.out; have l2 := ltbg.out; have l3 := ltbw.out; omega), old_row25 _ (by have l0 := ltba.out; have l1 := ltbb.out; have l2 := ltbg.out; have l3 := ltbw.out; omega), heap_alloc_old _ _ (by rw [← hbw]; have l0 := ltba.out; have l1 := ltbb.out; have l2 := ltbg.out; have l3 := ltbw.out; omega)]; exact H40.out.2.2.2.2.1, by rw [hv41, hbw]; exact set_row25 HF10.out.2, by rw [hv41]; exact below_row25 (below_row25 (H40.out.2.2.2.2.2.alloc H40.out.2.2.2.2.2.size _) (by have l0 := ltba.out; have l1 := ltbb.out; have l2 := ltbg.out; have l3 := ltbw.out; omega) _) H40.out.2.2.2.2.2.size _⟩
  clear hv41 hbw
  go_upto_region 11 with (first | refine wpList_store_row rfl 27 (.tmp 9) (.tmp 68) rfl bb A3.cs rfl rfl _ _ HF10.out.1 info_rc25d rfl (row_rc25 A3) ?_ | refine wpList_store_row rfl 25 (.tmp 12) (.tmp 69) rfl v39.heap.size I3.cs rfl rfl _ _ HF10.out.2 info_im25d rfl (row_im25 I3) ?_)
  rw [Wbw.out.1, Wbw.out.2]
  obtain ⟨v43, hv⟩ : ∃ v, v = v41.drew := ⟨_, rfl⟩
  have HV : Hid (v41.drew = v43) := hv.symm
  have b : Below v41.heap.size v41 v43 := by rw [hv]; exact (Below.refl _ _).drew
  have H44 : Hid (v43.heap[w.heap.size]? = some (.cells r.cs 27 (0, 0)) ∧ v43.heap[w.heap.size + 1]? = some (.cells i.cs 25 (0, 0)) ∧ v43.heap[ba]? = some (.cells A3.cs 34 (0, 0)) ∧ v43.heap[bb]? = some (.cells A3.cs 27 (0, 0)) ∧ v43.heap[bg]? = some (.cells I3.cs 32 (0, 0)) ∧ v43.heap[bw]? = some (.cells I3.cs 25 (0, 0)) ∧ Below w.heap.size w v43) := ⟨(b.block _ (Array.getElem?_eq_some_iff.1 H42.out.1).1).trans H42.out.1, (b.block _ (Array.getElem?_eq_some_iff.1 H42.out.2.1).1).trans H42.out.2.1, (b.block _ (Array.getElem?_eq_some_iff.1 H42.out.2.2.1).1).trans H42.out.2.2.1, (b.block _ (Array.getElem?_eq_some_iff.1 H42.out.2.2.2.1).1).trans H42.out.2.2.2.1, (b.block _ (Array.getElem?_eq_some_iff.1 H42.out.2.2.2.2.1).1).trans H42.out.2.2.2.2.1, (b.block _ (Array.getElem?_eq_some_iff.1 H42.out.2.2.2.2.2.1).1).trans H42.out.2.2.2.2.2.1, H42.out.2.2.2.2.2.2.trans (b.mono H42.out.2.2.2.2.2.2.size)⟩
  clear hv b
  refine plain_region16 (fun V => V.heap[ba]? = some (.cells A3.cs 34 (0, 0)) ∧ V.heap[bb]? = some (.cells A3.cs 27 (0, 0)) ∧ V.heap[bg]? = some (.cells I3.cs 32 (0, 0)) ∧ V.heap[bw]? = some (.cells I3.cs 25 (0, 0)) ∧ True) 15 (by kernel_rfl) (by rw [HV.out]; exact ⟨H44.out.2.2.1, H44.out.2.2.2.1, H44.out.2.2.2.2.1, H44.out.2.2.2.2.2.1, trivial⟩) (fun hHeld => ?_)
  rw [HV.out] at hHeld ⊢
  clear HV
  refine wpAnyK_take (i := 0) (v := .agg A3.cs) rfl (by kernel_rfl) (by kernel_rfl) (by kernel_rfl) (by kernel_rfl) (fun _ _ _ h => h) (yields_row25 (by rfl) 34 (.tmp 7) rfl ba rfl _ _ _ _ (fun w h => h.1) Tryd.underlying34 rfl info_rc25) hHeld ?_
  (try simp only [List.getElem_toArray, List.getElem_cons_zero, List.getElem_cons_succ, Act.put, List.setIfInBounds_toArray, List.set_cons_zero, List.set_cons_succ])
  refine wpAnyK_take (i := 1) (v := .agg A3.cs) rfl (by kernel_rfl) (by kernel_rfl) (by kernel_rfl) (by kernel_rfl) (fun _ _ _ h => h) (yields_row25 (by rfl) 27 (.tmp 9) rfl bb rfl _ _ _ _ (fun w h => h.2.1) Tryd.underlying27 rfl info_rc25d) hHeld ?_
  (try simp only [List.getElem_toArray, List.getElem_cons_zero, List.getElem_cons_succ, Act.put, List.setIfInBounds_toArray, List.set_cons_zero, List.set_cons_succ])
  refine wpAnyK_one (i := 2) (by kernel_rfl) rfl (fun K hK => ?_)
  (try simp only [List.getElem_toArray, List.getElem_cons_zero, List.getElem_cons_succ, Act.put, List.setIfInBounds_toArray, List.set_cons_zero, List.set_cons_succ])
  go_simp
  refine (HFC.out A3 v43).mono ?_
  rintro e v45 ⟨rfl, b⟩
  have H46 : Hid (v45.heap[w.heap.size]? = some (.cells r.cs 27 (0, 0)) ∧ v45.heap[w.heap.size + 1]? = some (.cells i.cs 25 (0, 0)) ∧ v45.heap[ba]? = some (.cells A3.cs 34 (0, 0)) ∧ v45.heap[bb]? = some (.cells A3.cs 27 (0, 0)) ∧ v45.heap[bg]? = some (.cells I3.cs 32 (0, 0)) ∧ v45.heap[bw]? = some (.cells I3.cs 25 (0, 0)) ∧ Below w.heap.size w v45) := ⟨(b.block _ (Array.getElem?_eq_some_iff.1 H44.out.1).1).trans H44.out.1, (b.block _ (Array.getElem?_eq_some_iff.1 H44.out.2.1).1).trans H44.out.2.1, (b.block _ (Array.getElem?_eq_some_iff.1 H44.out.2.2.1).1).trans H44.out.2.2.1, (b.block _ (Array.getElem?_eq_some_iff.1 H44.out.2.2.2.1).1).trans H44.out.2.2.2.1, (b.block _ (Array.getElem?_eq_some_iff.1 H44.out.2.2.2.2.1).1).trans H44.out.2.2.2.2.1, (b.block _ (Array.getElem?_eq_some_iff.1 H44.out.2.2.2.2.2.1).1).trans H44.out.2.2.2.2.2.1, H44.out.2.2.2.2.2.2.trans (b.mono H44.out.2.2.2.2.2.2.size)⟩
  clear b
  refine hK.out _ _ (fun _ => ⟨H46.out.2.2.1, H46.out.2.2.2.1, H46.out.2.2.2.2.1, H46.out.2.2.2.2.2.1, trivial⟩) (fun hHeld0 => ?_)
  have hHeld := hHeld0 (by decide)
  clear hHeld0 hK K
  (try simp only [List.getElem_toArray, List.getElem_cons_zero, List.getElem_cons_succ, Act.put, List.setIfInBounds_toArray, List.set_cons_zero, List.set_cons_succ])
  refine wpAnyK_one (i := 3) (by kernel_rfl) rfl (fun K hK => ?_)
  (try simp only [List.getElem_toArray, List.getElem_cons_zero, List.getElem_cons_succ, Act.put, List.setIfInBounds_toArray, List.set_cons_zero, List.set_cons_succ])
  rw [if_pos (by rfl)]
  refine wp_bin25 .neq 34 (.tmp 71) (.tmp 73) _ rfl rfl rfl egr25 (hbr.out A3 v45) ?_
  refine hK.out _ _ (fun _ => ⟨H46.out.2.2.1, H46.out.2.2.2.1, H46.out.2.2.2.2.1, H46.out.2.2.2.2.2.1, trivial⟩) (fun hHeld0 => ?_)
  have hHeld := hHeld0 (by decide)
  clear hHeld0 hK K
  simp only [Act.put, List.setIfInBounds_toArray, List.set_cons_zero, List.set_cons_succ]
  refine wpAnyK_one (i := 4) (by kernel_rfl) rfl (fun K hK => ?_)
  (try simp only [List.getElem_toArray, List.getElem_cons_zero, List.getElem_cons_succ, Act.put, List.setIfInBounds_toArray, List.set_cons_zero, List.set_cons_succ])
  go_simp
  refine hK.out _ _ (fun _ => ⟨H46.out.2.2.1, H46.out.2.2.2.1, H46.out.2.2.2.2.1, H46.out.2.2.2.2.2.1, trivial⟩) (fun hHeld0 => ?_)
  have hHeld := hHeld0 (by decide)
  clear hHeld0 hK K
  (try simp only [List.getElem_toArray, List.getElem_cons_zero, List.getElem_cons_succ, Act.put, List.setIfInBounds_toArray, List.set_cons_zero, List.set_cons_succ])
  refine wpAnyK_take (i := 5) (v := .agg I3.cs) rfl (by kernel_rfl) (by kernel_rfl) (by kernel_rfl) (by kernel_rfl) (fun _ _ _ h => h) (yields_row25 (by rfl) 32 (.tmp 11) rfl bg rfl _ _ _ _ (fun w h => h.2.2.1) Tryd.underlying32 rfl info_im25) hHeld ?_
  (try simp only [List.getElem_toArray, List.getElem_cons_zero, List.getElem_cons_succ, Act.put, List.setIfInBounds_toArray, List.set_cons_zero, List.set_cons_succ])
  refine wpAnyK_take (i := 6) (v := .agg I3.cs) rfl (by kernel_rfl) (by kernel_rfl) (by kernel_rfl) (by kernel_rfl) (fun _ _ _ h => h) (yields_row25 (by rfl) 25 (.tmp 12) rfl bw rfl _ _ _ _ (fun w h => h.2.2.2.1) Tryd.underlying25 rfl info_im25d) hHeld ?_
  (try simp only [List.getElem_toArray, List.getElem_cons_zero, List.getElem_cons_succ, Act.put, List.setIfInBounds_toArray, List.set_cons_zero, List.set_cons_succ])
  refine wpAnyK_one (i := 7) (by kernel_rfl) rfl (fun K hK => ?_)
  (try simp only [List.getElem_toArray, List.getElem_cons_zero, List.getElem_cons_succ, Act.put, List.setIfInBounds_toArray, List.set_cons_zero, List.set_cons_succ])
  go_simp
  refine (HFM.out I3 v45).mono ?_
  rintro e v47 ⟨rfl, b⟩
  have H48 : Hid (v47.heap[w.heap.size]? = some (.cells r.cs 27 (0, 0)) ∧ v47.heap[w.heap.size + 1]? = some (.cells i.cs 25 (0, 0)) ∧ v47.heap[ba]? = some (.cells A3.cs 34 (0, 0)) ∧ v47.heap[bb]? = some (.cells A3.cs 27 (0, 0)) ∧ v47.heap[bg]? = some (.cells I3.cs 32 (0, 0)) ∧ v47.heap[bw]? = some (.cells I3.cs 25 (0, 0)) ∧ Below w.heap.size w v47) := ⟨(b.block _ (Array.getElem?_eq_some_iff.1 H46.out.1).1).trans H46.out.1, (b.block _ (Array.getElem?_eq_some_iff.1 H46.out.2.1).1).trans H46.out.2.1, (b.block _ (Array.getElem?_eq_some_iff.1 H46.out.2.2.1).1).trans H46.out.2.2.1, (b.block _ (Array.getElem?_eq_some_iff.1 H46.out.2.2.2.1).1).trans H46.out.2.2.2.1, (b.block _ (Array.getElem?_eq_some_iff.1 H46.out.2.2.2.2.1).1).trans H46.out.2.2.2.2.1, (b.block _ (Array.getElem?_eq_some_iff.1 H46.out.2.2.2.2.2.1).1).trans H46.out.2.2.2.2.2.1, H46.out.2.2.2.2.2.2.trans (b.mono H46.out.2.2.2.2.2.2.size)⟩
  clear b
  refine hK.out _ _ (fun _ => ⟨H48.out.2.2.1, H48.out.2.2.2.1, H48.out.2.2.2.2.1, H48.out.2.2.2.2.2.1, trivial⟩) (fun hHeld0 => ?_)
  have hHeld := hHeld0 (by decide)
  clear hHeld0 hK K
  (try simp only [List.getElem_toArray, List.getElem_cons_zero, List.getElem_cons_succ, Act.put, List.setIfInBounds_toArray, List.set_cons_zero, List.set_cons_succ])
  refine wpAnyK_one (i := 8) (by kernel_rfl) rfl (fun K hK => ?_)
  (try simp only [List.getElem_toArray, List.getElem_cons_zero, List.getElem_cons_succ, Act.put, List.setIfInBounds_toArray, List.set_cons_zero, List.set_cons_succ])
  rw [if_pos (by rfl)]
  refine wp_bin25 .neq 32 (.tmp 76) (.tmp 78) _ rfl rfl rfl egi25 (hbi.out I3 v47) ?_
  refine hK.out _ _ (fun _ => ⟨H48.out.2.2.1, H48.out.2.2.2.1, H48.out.2.2.2.2.1, H48.out.2.2.2.2.2.1, trivial⟩) (fun hHeld0 => ?_)
  have hHeld := hHeld0 (by decide)
  clear hHeld0 hK K
  simp only [Act.put, List.setIfInBounds_toArray, List.set_cons_zero, List.set_cons_succ]
  refine wpAnyK_one (i := 9) (by kernel_rfl) rfl (fun K hK => ?_)
  (try simp only [List.getElem_toArray, List.getElem_cons_zero, List.getElem_cons_succ, Act.put, List.setIfInBounds_toArray, List.set_cons_zero, List.set_cons_succ])
  go_simp
  refine hK.out _ _ (fun _ => ⟨H48.out.2.2.1, H48.out.2.2.2.1, H48.out.2.2.2.2.1, H48.out.2.2.2.2.2.1, trivial⟩) (fun hHeld0 => ?_)
  have hHeld := hHeld0 (by decide)
  clear hHeld0 hK K
  (try simp only [List.getElem_toArray, List.getElem_cons_zero, List.getElem_cons_succ, Act.put, List.setIfInBounds_toArray, List.set_cons_zero, List.set_cons_succ])
  refine wpAnyK_one (i := 10) (by kernel_rfl) rfl (fun K hK => ?_)
  (try simp only [List.getElem_toArray, List.getElem_cons_zero, List.getElem_cons_succ, Act.put, List.setIfInBounds_toArray, List.set_cons_zero, List.set_cons_succ])
  go_simp
  refine hK.out _ _ (fun _ => ⟨H48.out.2.2.1, H48.out.2.2.2.1, H48.out.2.2.2.2.1, H48.out.2.2.2.2.2.1, trivial⟩) (fun hHeld0 => ?_)
  have hHeld := hHeld0 (by decide)
  clear hHeld0 hK K
  (try simp only [List.getElem_toArray, List.getElem_cons_zero, List.getElem_cons_succ, Act.put, List.setIfInBounds_toArray, List.set_cons_zero, List.set_cons_succ])
  refine wpAnyK_take (i := 11) (v := .int .i64 E3) rfl (by kernel_rfl) (by kernel_rfl) (by kernel_rfl) (by kernel_rfl) (fun _ _ _ h => h) (Or.inl ⟨by rfl, fun w hSw => by go_simp⟩) hHeld ?_
  simp only [List.getElem_toArray, List.getElem_cons_zero, List.getElem_cons_succ, Act.put, List.setIfInBounds_toArray, List.set_cons_zero, List.set_cons_succ]
  refine wpAnyK_take (i := 12) (v := .int .i64 E3) rfl (by kernel_rfl) (by kernel_rfl) (by kernel_rfl) (by kernel_rfl) (fun _ _ _ h => h) (Or.inl ⟨by rfl, fun w hSw => by go_simp⟩) hHeld ?_
  simp only [List.getElem_toArray, List.getElem_cons_zero, List.getElem_cons_succ, Act.put, List.setIfInBounds_toArray, List.set_cons_zero, List.set_cons_succ]
  have hne : (E3 != E3) = false := by simp
  refine wpAnyK_one (i := 13) (by kernel_rfl) rfl (fun K hK => ?_)
  (try simp only [List.getElem_toArray, List.getElem_cons_zero, List.getElem_cons_succ, Act.put, List.setIfInBounds_toArray, List.set_cons_zero, List.set_cons_succ])
  go_simp
  refine hK.out _ _ (fun _ => ⟨H48.out.2.2.1, H48.out.2.2.2.1, H48.out.2.2.2.2.1, H48.out.2.2.2.2.2.1, trivial⟩) (fun hHeld0 => ?_)
  have hHeld := hHeld0 (by decide)
  clear hHeld0 hK K
  (try simp only [List.getElem_toArray, List.getElem_cons_zero, List.getElem_cons_succ, Act.put, List.setIfInBounds_toArray, List.set_cons_zero, List.set_cons_succ])
  refine wpAnyK_one (i := 14) (by kernel_rfl) rfl (fun K hK => ?_)
  (try simp only [List.getElem_toArray, List.getElem_cons_zero, List.getElem_cons_succ, Act.put, List.setIfInBounds_toArray, List.set_cons_zero, List.set_cons_succ])
  go_simp
  refine hK.out _ _ (fun _ => ⟨H48.out.2.2.1, H48.out.2.2.2.1, H48.out.2.2.2.2.1, H48.out.2.2.2.2.2.1, trivial⟩) (fun hHeld0 => ?_)
  have hHeld := hHeld0 (by decide)
  clear hHeld0 hK K
  (try simp only [List.getElem_toArray, List.getElem_cons_zero, List.getElem_cons_succ, Act.put, List.setIfInBounds_toArray, List.set_cons_zero, List.set_cons_succ])
  refine wpAnyK_done (by kernel_rfl) ?_ _
  clear hne
  go_upto_region 13 with fail
  go_wp2_with (refine wpList_load_row rfl 27 (.tmp 3) rfl w.heap.size rfl _ r.cs _ _ H48.out.1 Tryd.underlying27 rfl info_rc25d ?_)
  refine (HFC.out r v47).mono ?_
  rintro e v49 ⟨rfl, b⟩
  have H50 : Hid (v49.heap[w.heap.size]? = some (.cells r.cs 27 (0, 0)) ∧ v49.heap[w.heap.size + 1]? = some (.cells i.cs 25 (0, 0)) ∧ v49.heap[ba]? = some (.cells A3.cs 34 (0, 0)) ∧ v49.heap[bb]? = some (.cells A3.cs 27 (0, 0)) ∧ v49.heap[bg]? = some (.cells I3.cs 32 (0, 0)) ∧ v49.heap[bw]? = some (.cells I3.cs 25 (0, 0)) ∧ Below w.heap.size w v49) := ⟨(b.block _ (Array.getElem?_eq_some_iff.1 H48.out.1).1).trans H48.out.1, (b.block _ (Array.getElem?_eq_some_iff.1 H48.out.2.1).1).trans H48.out.2.1, (b.block _ (Array.getElem?_eq_some_iff.1 H48.out.2.2.1).1).trans H48.out.2.2.1, (b.block _ (Array.getElem?_eq_some_iff.1 H48.out.2.2.2.1).1).trans H48.out.2.2.2.1, (b.block _ (Array.getElem?_eq_some_iff.1 H48.out.2.2.2.2.1).1).trans H48.out.2.2.2.2.1, (b.block _ (Array.getElem?_eq_some_iff.1 H48.out.2.2.2.2.2.1).1).trans H48.out.2.2.2.2.2.1, H48.out.2.2.2.2.2.2.trans (b.mono H48.out.2.2.2.2.2.2.size)⟩
  clear b
  go_wp2_with fail
  refine (HCI.out v49).mono ?_
  rintro e v51 ⟨rfl, b⟩
  have H52 : Hid (v51.heap[w.heap.size]? = some (.cells r.cs 27 (0, 0)) ∧ v51.heap[w.heap.size + 1]? = some (.cells i.cs 25 (0, 0)) ∧ v51.heap[ba]? = some (.cells A3.cs 34 (0, 0)) ∧ v51.heap[bb]? = some (.cells A3.cs 27 (0, 0)) ∧ v51.heap[bg]? = some (.cells I3.cs 32 (0, 0)) ∧ v51.heap[bw]? = some (.cells I3.cs 25 (0, 0)) ∧ Below w.heap.size w v51) := ⟨(b.block _ (Array.getElem?_eq_some_iff.1 H50.out.1).1).trans H50.out.1, (b.block _ (Array.getElem?_eq_some_iff.1 H50.out.2.1).1).trans H50.out.2.1, (b.block _ (Array.getElem?_eq_some_iff.1 H50.out.2.2.1).1).trans H50.out.2.2.1, (b.block _ (Array.getElem?_eq_some_iff.1 H50.out.2.2.2.1).1).trans H50.out.2.2.2.1, (b.block _ (Array.getElem?_eq_some_iff.1 H50.out.2.2.2.2.1).1).trans H50.out.2.2.2.2.1, (b.block _ (Array.getElem?_eq_some_iff.1 H50.out.2.2.2.2.2.1).1).trans H50.out.2.2.2.2.2.1, H50.out.2.2.2.2.2.2.trans (b.mono H50.out.2.2.2.2.2.2.size)⟩
  clear b
  obtain ⟨v53, hv53⟩ : ∃ v, v = v51.setRow ba A4.cs := ⟨_, rfl⟩
  have H54 : Hid (v53.heap[w.heap.size]? = some (.cells r.cs 27 (0, 0)) ∧ v53.heap[w.heap.size + 1]? = some (.cells i.cs 25 (0, 0)) ∧ v53.heap[ba]? = some (.cells A4.cs 34 (0, 0)) ∧ v53.heap[bb]? = some (.cells A3.cs 27 (0, 0)) ∧ v53.heap[bg]? = some (.cells I3.cs 32 (0, 0)) ∧ v53.heap[bw]? = some (.cells I3.cs 25 (0, 0)) ∧ Below w.heap.size w v53) := ⟨by rw [hv53, old_row25 _ (by have l0 := ltba.out; have l1 := ltbb.out; have l2 := ltbg.out; have l3 := ltbw.out; omega)]; exact H52.out.1, by rw [hv53, old_row25 _ (by have l0 := ltba.out; have l1 := ltbb.out; have l2 := ltbg.out; have l3 := ltbw.out; omega)]; exact H52.out.2.1, by rw [hv53]; exact set_row25 H52.out.2.2.1, by rw [hv53, old_row25 _ (by have l0 := ltba.out; have l1 := ltbb.out; have l2 := ltbg.out; have l3 := ltbw.out; omega)]; exact H52.out.2.2.2.1, by rw [hv53, old_row25 _ (by have l0 := ltba.out; have l1 := ltbb.out; have l2 := ltbg.out; have l3 := ltbw.out; omega)]; exact H52.out.2.2.2.2.1, by rw [hv53, old_row25 _ (by have l0 := ltba.out; have l1 := ltbb.out; have l2 := ltbg.out; have l3 := ltbw.out; omega)]; exact H52.out.2.2.2.2.2.1, by rw [hv53]; exact below_row25 H52.out.2.2.2.2.2.2 (by have l0 := ltba.out; have l1 := ltbb.out; have l2 := ltbg.out; have l3 := ltbw.out; omega) _⟩
  have Wv53 : Hid (v51.setRow ba A4.cs = v53) := hv53.symm
  clear hv53
  go_upto_region 14 with (refine wpList_store_row rfl 34 (.tmp 7) (.tmp 90) rfl ba A4.cs rfl rfl _ _ H52.out.2.2.1 info_rc25 rfl (row_rc25 A4) ?_)
  rw [Wv53.out]
  go_wp2_with (refine wpList_load_row rfl 27 (.tmp 3) rfl w.heap.size rfl _ r.cs _ _ H54.out.1 Tryd.underlying27 rfl info_rc25d ?_)
  refine (HCD.out v53).mono ?_
  rintro e v55 ⟨rfl, b⟩
  have H56 : Hid (v55.heap[w.heap.size]? = some (.cells r.cs 27 (0, 0)) ∧ v55.heap[w.heap.size + 1]? = some (.cells i.cs 25 (0, 0)) ∧ v55.heap[ba]? = some (.cells A4.cs 34 (0, 0)) ∧ v55.heap[bb]? = some (.cells A3.cs 27 (0, 0)) ∧ v55.heap[bg]? = some (.cells I3.cs 32 (0, 0)) ∧ v55.heap[bw]? = some (.cells I3.cs 25 (0, 0)) ∧ Below w.heap.size w v55) := ⟨(b.block _ (Array.getElem?_eq_some_iff.1 H54.out.1).1).trans H54.out.1, (b.block _ (Array.getElem?_eq_some_iff.1 H54.out.2.1).1).trans H54.out.2.1, (b.block _ (Array.getElem?_eq_some_iff.1 H54.out.2.2.1).1).trans H54.out.2.2.1, (b.block _ (Array.getElem?_eq_some_iff.1 H54.out.2.2.2.1).1).trans H54.out.2.2.2.1, (b.block _ (Array.getElem?_eq_some_iff.1 H54.out.2.2.2.2.1).1).trans H54.out.2.2.2.2.1, (b.block _ (Array.getElem?_eq_some_iff.1 H54.out.2.2.2.2.2.1).1).trans H54.out.2.2.2.2.2.1, H54.out.2.2.2.2.2.2.trans (b.mono H54.out.2.2.2.2.2.2.size)⟩
  clear b
  obtain ⟨v57, hv57⟩ : ∃ v, v = v55.setRow bb A4.cs := ⟨_, rfl⟩
  have H58 : Hid (v57.heap[w.heap.size]? = some (.cells r.cs 27 (0, 0)) ∧ v57.heap[w.heap.size + 1]? = some (.cells i.cs 25 (0, 0)) ∧ v57.heap[ba]? = some (.cells A4.cs 34 (0, 0)) ∧ v57.heap[bb]? = some (.cells A4.cs 27 (0, 0)) ∧ v57.heap[bg]? = some (.cells I3.cs 32 (0, 0)) ∧ v57.heap[bw]? = some (.cells I3.cs 25 (0, 0)) ∧ Below w.heap.size w v57) := ⟨by rw [hv57, old_row25 _ (by have l0 := ltba.out; have l1 := ltbb.out; have l2 := ltbg.out; have l3 := ltbw.out; omega)]; exact H56.out.1, by rw [hv57, old_row25 _ (by have l0 := ltba.out; have l1 := ltbb.out; have l2 := ltbg.out; have l3 := ltbw.out; omega)]; exact H56.out.2.1, by rw [hv57, old_row25 _ (by have l0 := ltba.out; have l1 := ltbb.out; have l2 := ltbg.out; have l3 := ltbw.out; omega)]; exact H56.out.2.2.1, by rw [hv57]; exact set_row25 H56.out.2.2.2.1, by rw [hv57, old_row25 _ (by have l0 := ltba.out; have l1 := ltbb.out; have l2 := ltbg.out; have l3 := ltbw.out; omega)]; exact H56.out.2.2.2.2.1, by rw [hv57, old_row25 _ (by have l0 := ltba.out; have l1 := ltbb.out; have l2 := ltbg.out; have l3 := ltbw.out; omega)]; exact H56.out.2.2.2.2.2.1, by rw [hv57]; exact below_row25 H56.out.2.2.2.2.2.2 (by have l0 := ltba.out; have l1 := ltbb.out; have l2 := ltbg.out; have l3 := ltbw.out; omega) _⟩
  have Wv57 : Hid (v55.setRow bb A4.cs = v57) := hv57.symm
  clear hv57
  go_upto_region 15 with (refine wpList_store_row rfl 27 (.tmp 9) (.tmp 95) rfl bb A4.cs rfl rfl _ _ H56.out.2.2.2.1 info_rc25d rfl (row_rc25 A4) ?_)
  rw [Wv57.out]
  obtain ⟨v59, hv⟩ : ∃ v, v = v57.drew := ⟨_, rfl⟩
  have HV : Hid (v57.drew = v59) := hv.symm
  have b : Below v57.heap.size v57 v59 := by rw [hv]; exact (Below.refl _ _).drew
  have H60 : Hid (v59.heap[w.heap.size]? = some (.cells r.cs 27 (0, 0)) ∧ v59.heap[w.heap.size + 1]? = some (.cells i.cs 25 (0, 0)) ∧ v59.heap[ba]? = some (.cells A4.cs 34 (0, 0)) ∧ v59.heap[bb]? = some (.cells A4.cs 27 (0, 0)) ∧ v59.heap[bg]? = some (.cells I3.cs 32 (0, 0)) ∧ v59.heap[bw]? = some (.cells I3.cs 25 (0, 0)) ∧ Below w.heap.size w v59) := ⟨(b.block _ (Array.getElem?_eq_some_iff.1 H58.out.1).1).trans H58.out.1, (b.block _ (Array.getElem?_eq_some_iff.1 H58.out.2.1).1).trans H58.out.2.1, (b.block _ (Array.getElem?_eq_some_iff.1 H58.out.2.2.1).1).trans H58.out.2.2.1, (b.block _ (Array.getElem?_eq_some_iff.1 H58.out.2.2.2.1).1).trans H58.out.2.2.2.1, (b.block _ (Array.getElem?_eq_some_iff.1 H58.out.2.2.2.2.1).1).trans H58.out.2.2.2.2.1, (b.block _ (Array.getElem?_eq_some_iff.1 H58.out.2.2.2.2.2.1).1).trans H58.out.2.2.2.2.2.1, H58.out.2.2.2.2.2.2.trans (b.mono H58.out.2.2.2.2.2.2.size)⟩
  clear hv b
  refine plain_region16 (fun V => V.heap[ba]? = some (.cells A4.cs 34 (0, 0)) ∧ V.heap[bb]? = some (.cells A4.cs 27 (0, 0)) ∧ True) 12 (by kernel_rfl) (by rw [HV.out]; exact ⟨H60.out.2.2.1, H60.out.2.2.2.1, trivial⟩) (fun hHeld => ?_)
  rw [HV.out] at hHeld ⊢
  clear HV
  refine wpAnyK_take (i := 0) (v := .agg A4.cs) rfl (by kernel_rfl) (by kernel_rfl) (by kernel_rfl) (by kernel_rfl) (fun _ _ _ h => h) (yields_row25 (by rfl) 34 (.tmp 7) rfl ba rfl _ _ _ _ (fun w h => h.1) Tryd.underlying34 rfl info_rc25) hHeld ?_
  (try simp only [List.getElem_toArray, List.getElem_cons_zero, List.getElem_cons_succ, Act.put, List.setIfInBounds_toArray, List.set_cons_zero, List.set_cons_succ])
  refine wpAnyK_take (i := 1) (v := .agg A4.cs) rfl (by kernel_rfl) (by kernel_rfl) (by kernel_rfl) (by kernel_rfl) (fun _ _ _ h => h) (yields_row25 (by rfl) 27 (.tmp 9) rfl bb rfl _ _ _ _ (fun w h => h.2.1) Tryd.underlying27 rfl info_rc25d) hHeld ?_
  (try simp only [List.getElem_toArray, List.getElem_cons_zero, List.getElem_cons_succ, Act.put, List.setIfInBounds_toArray, List.set_cons_zero, List.set_cons_succ])
  refine wpAnyK_one (i := 2) (by kernel_rfl) rfl (fun K hK => ?_)
  (try simp only [List.getElem_toArray, List.getElem_cons_zero, List.getElem_cons_succ, Act.put, List.setIfInBounds_toArray, List.set_cons_zero, List.set_cons_succ])
  go_simp
  refine (HFC.out A4 v59).mono ?_
  rintro e v61 ⟨rfl, b⟩
  have H62 : Hid (v61.heap[w.heap.size]? = some (.cells r.cs 27 (0, 0)) ∧ v61.heap[w.heap.size + 1]? = some (.cells i.cs 25 (0, 0)) ∧ v61.heap[ba]? = some (.cells A4.cs 34 (0, 0)) ∧ v61.heap[bb]? = some (.cells A4.cs 27 (0, 0)) ∧ v61.heap[bg]? = some (.cells I3.cs 32 (0, 0)) ∧ v61.heap[bw]? = some (.cells I3.cs 25 (0, 0)) ∧ Below w.heap.size w v61) := ⟨(b.block _ (Array.getElem?_eq_some_iff.1 H60.out.1).1).trans H60.out.1, (b.block _ (Array.getElem?_eq_some_iff.1 H60.out.2.1).1).trans H60.out.2.1, (b.block _ (Array.getElem?_eq_some_iff.1 H60.out.2.2.1).1).trans H60.out.2.2.1, (b.block _ (Array.getElem?_eq_some_iff.1 H60.out.2.2.2.1).1).trans H60.out.2.2.2.1, (b.block _ (Array.getElem?_eq_some_iff.1 H60.out.2.2.2.2.1).1).trans H60.out.2.2.2.2.1, (b.block _ (Array.getElem?_eq_some_iff.1 H60.out.2.2.2.2.2.1).1).trans H60.out.2.2.2.2.2.1, H60.out.2.2.2.2.2.2.trans (b.mono H60.out.2.2.2.2.2.2.size)⟩
  clear b
  refine hK.out _ _ (fun _ => ⟨H62.out.2.2.1, H62.out.2.2.2.1, trivial⟩) (fun hHeld0 => ?_)
  have hHeld := hHeld0 (by decide)
  clear hHeld0 hK K
  (try simp only [List.getElem_toArray, List.getElem_cons_zero, List.getElem_cons_succ, Act.put, List.setIfInBounds_toArray, List.set_cons_zero, List.set_cons_succ])
  refine wpAnyK_one (i := 3) (by kernel_rfl) rfl (fun K hK => ?_)
  (try simp only [List.getElem_toArray, List.getElem_cons_zero, List.getElem_cons_succ, Act.put, List.setIfInBounds_toArray, List.set_cons_zero, List.set_cons_succ])
  rw [if_pos (by rfl)]
  refine wp_bin25 .eql 34 (.tmp 97) (.tmp 99) _ rfl rfl rfl egr25 (hber.out A4 v61) ?_
  refine hK.out _ _ (fun _ => ⟨H62.out.2.2.1, H62.out.2.2.2.1, trivial⟩) (fun hHeld0 => ?_)
  have hHeld := hHeld0 (by decide)
  clear hHeld0 hK K
  simp only [Act.put, List.setIfInBounds_toArray, List.set_cons_zero, List.set_cons_succ]
  refine wpAnyK_one (i := 4) (by kernel_rfl) rfl (fun K hK => ?_)
  (try simp only [List.getElem_toArray, List.getElem_cons_zero, List.getElem_cons_succ, Act.put, List.setIfInBounds_toArray, List.set_cons_zero, List.set_cons_succ])
  go_simp
  refine hK.out _ _ (fun _ => ⟨H62.out.2.2.1, H62.out.2.2.2.1, trivial⟩) (fun hHeld0 => ?_)
  have hHeld := hHeld0 (by decide)
  clear hHeld0 hK K
  (try simp only [List.getElem_toArray, List.getElem_cons_zero, List.getElem_cons_succ, Act.put, List.setIfInBounds_toArray, List.set_cons_zero, List.set_cons_succ])
  refine wpAnyK_take (i := 5) (v := .int .i64 E4) rfl (by kernel_rfl) (by kernel_rfl) (by kernel_rfl) (by kernel_rfl) (fun _ _ _ h => h) (Or.inl ⟨by rfl, fun w hSw => by go_simp⟩) hHeld ?_
  simp only [List.getElem_toArray, List.getElem_cons_zero, List.getElem_cons_succ, Act.put, List.setIfInBounds_toArray, List.set_cons_zero, List.set_cons_succ]
  refine wpAnyK_take (i := 6) (v := .int .i64 E4) rfl (by kernel_rfl) (by kernel_rfl) (by kernel_rfl) (by kernel_rfl) (fun _ _ _ h => h) (Or.inl ⟨by rfl, fun w hSw => by go_simp⟩) hHeld ?_
  simp only [List.getElem_toArray, List.getElem_cons_zero, List.getElem_cons_succ, Act.put, List.setIfInBounds_toArray, List.set_cons_zero, List.set_cons_succ]
  have hne : (E4 == E4) = true := by simp
  refine wpAnyK_one (i := 7) (by kernel_rfl) rfl (fun K hK => ?_)
  (try simp only [List.getElem_toArray, List.getElem_cons_zero, List.getElem_cons_succ, Act.put, List.setIfInBounds_toArray, List.set_cons_zero, List.set_cons_succ])
  go_simp
  refine hK.out _ _ (fun _ => ⟨H62.out.2.2.1, H62.out.2.2.2.1, trivial⟩) (fun hHeld0 => ?_)
  have hHeld := hHeld0 (by decide)
  clear hHeld0 hK K
  (try simp only [List.getElem_toArray, List.getElem_cons_zero, List.getElem_cons_succ, Act.put, List.setIfInBounds_toArray, List.set_cons_zero, List.set_cons_succ])
  refine wpAnyK_one (i := 8) (by kernel_rfl) rfl (fun K hK => ?_)
  (try simp only [List.getElem_toArray, List.getElem_cons_zero, List.getElem_cons_succ, Act.put, List.setIfInBounds_toArray, List.set_cons_zero, List.set_cons_succ])
  go_simp
  refine hK.out _ _ (fun _ => ⟨H62.out.2.2.1, H62.out.2.2.2.1, trivial⟩) (fun hHeld0 => ?_)
  have hHeld := hHeld0 (by decide)
  clear hHeld0 hK K
  (try simp only [List.getElem_toArray, List.getElem_cons_zero, List.getElem_cons_succ, Act.put, List.setIfInBounds_toArray, List.set_cons_zero, List.set_cons_succ])
  refine wpAnyK_one (i := 9) (by kernel_rfl) rfl (fun K hK => ?_)
  (try simp only [List.getElem_toArray, List.getElem_cons_zero, List.getElem_cons_succ, Act.put, List.setIfInBounds_toArray, List.set_cons_zero, List.set_cons_succ])
  go_simp
  refine hK.out _ _ (fun _ => ⟨H62.out.2.2.1, H62.out.2.2.2.1, trivial⟩) (fun hHeld0 => ?_)
  have hHeld := hHeld0 (by decide)
  clear hHeld0 hK K
  (try simp only [List.getElem_toArray, List.getElem_cons_zero, List.getElem_cons_succ, Act.put, List.setIfInBounds_toArray, List.set_cons_zero, List.set_cons_succ])
  clear hne
  refine wpAnyK_one (i := 10) (by kernel_rfl) rfl (fun K hK => ?_)
  (try simp only [List.getElem_toArray, List.getElem_cons_zero, List.getElem_cons_succ, Act.put, List.setIfInBounds_toArray, List.set_cons_zero, List.set_cons_succ])
  go_simp
  refine (plives25 v61 (HT.out v61 H62.out.2.2.2.2.2.2)).mono ?_
  rintro e v63 ⟨rfl, b⟩
  have H64 : Hid (v63.heap[w.heap.size]? = some (.cells r.cs 27 (0, 0)) ∧ v63.heap[w.heap.size + 1]? = some (.cells i.cs 25 (0, 0)) ∧ v63.heap[ba]? = some (.cells A4.cs 34 (0, 0)) ∧ v63.heap[bb]? = some (.cells A4.cs 27 (0, 0)) ∧ v63.heap[bg]? = some (.cells I3.cs 32 (0, 0)) ∧ v63.heap[bw]? = some (.cells I3.cs 25 (0, 0)) ∧ Below w.heap.size w v63) := ⟨(b.block _ (Array.getElem?_eq_some_iff.1 H62.out.1).1).trans H62.out.1, (b.block _ (Array.getElem?_eq_some_iff.1 H62.out.2.1).1).trans H62.out.2.1, (b.block _ (Array.getElem?_eq_some_iff.1 H62.out.2.2.1).1).trans H62.out.2.2.1, (b.block _ (Array.getElem?_eq_some_iff.1 H62.out.2.2.2.1).1).trans H62.out.2.2.2.1, (b.block _ (Array.getElem?_eq_some_iff.1 H62.out.2.2.2.2.1).1).trans H62.out.2.2.2.2.1, (b.block _ (Array.getElem?_eq_some_iff.1 H62.out.2.2.2.2.2.1).1).trans H62.out.2.2.2.2.2.1, H62.out.2.2.2.2.2.2.trans (b.mono H62.out.2.2.2.2.2.2.size)⟩
  clear b
  refine hK.out _ _ (fun _ => ⟨H64.out.2.2.1, H64.out.2.2.2.1, trivial⟩) (fun hHeld0 => ?_)
  have hHeld := hHeld0 (by decide)
  clear hHeld0 hK K
  (try simp only [List.getElem_toArray, List.getElem_cons_zero, List.getElem_cons_succ, Act.put, List.setIfInBounds_toArray, List.set_cons_zero, List.set_cons_succ])
  refine wpAnyK_one (i := 11) (by kernel_rfl) rfl (fun K hK => ?_)
  (try simp only [List.getElem_toArray, List.getElem_cons_zero, List.getElem_cons_succ, Act.put, List.setIfInBounds_toArray, List.set_cons_zero, List.set_cons_succ])
  go_simp
  refine hK.out _ _ (fun _ => ⟨H64.out.2.2.1, H64.out.2.2.2.1, trivial⟩) (fun hHeld0 => ?_)
  have hHeld := hHeld0 (by decide)
  clear hHeld0 hK K
  (try simp only [List.getElem_toArray, List.getElem_cons_zero, List.getElem_cons_succ, Act.put, List.setIfInBounds_toArray, List.set_cons_zero, List.set_cons_succ])
  refine wpAnyK_one (i := 12) (by kernel_rfl) rfl (fun K hK => ?_)
  (try simp only [List.getElem_toArray, List.getElem_cons_zero, List.getElem_cons_succ, Act.put, List.setIfInBounds_toArray, List.set_cons_zero, List.set_cons_succ])
  go_simp
  refine hK.out _ _ (fun h => absurd rfl h) (fun _ => ?_)
  clear hK K
  refine wpAnyK_done (by kernel_rfl) ?_ _
  go_wp2_with fail
  go_ret
  exact ⟨rfl, H64.out.2.2.2.2.2.2⟩
end Go.Proofs.YteboaolflecibaaDoor
