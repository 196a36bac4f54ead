import Derived.Test.YtmjlpfmacblcpaaDoorPp
namespace Go.Proofs.YtmjlpfmacblcpaaDoor
open Go.RowKit Go.Shelf
set_option linter.unusedVariables false
set_option linter.unusedSimpArgs false
set_option maxRecDepth 100000 in
theorem pfi25 (i : Im25) (w : World) : Calls Tryd.prog 32 #[.agg i.cs] w fun e w' => e = .returned (.agg i.cs) ∧ Below w.heap.size w w' := by
  obtain ⟨is, iv, iz, im⟩ := i
  unfold Im25.cs
  simp only
  go_enter Tryd.func32, Tryd.ntmps32
  go_wp2_with fail
  refine bodyPost_ret (v := .agg #[.int .i64 is, .int .i64 iv, .int .i64 iz, .int .u32 im]) (results_cell_row (fn := Tryd.f32) (p := 2) (ty := 61) rfl _ _ (w.heap.size + 1) _ #[.int .i64 is, .int .i64 iv, .int .i64 iz, .int .u32 im] _ _ rfl (heap_alloc2_new _ _ _) Tryd.underlying61 rfl info_im25) rfl ?_
  exact ⟨rfl, ((Below.refl _ _).alloc (Nat.le_refl _) _).alloc (by simp) _⟩
set_option maxRecDepth 100000 in
set_option maxHeartbeats 4000000 in
theorem pfc25 (r : Rc25) (w : World) : Calls Tryd.prog 24 #[.agg r.cs] w fun e w' => e = .returned (.agg r.cs) ∧ Below w.heap.size w w' := by
  have HG := fun W => pfi25 r.g W
  have HN := fun W => pfi25 r.n W
  obtain ⟨q, ⟨gs, gv, gz, gm⟩, ⟨ns, nv, nz, nm⟩, t⟩ := r
  unfold Rc25.cs
  unfold Im25.cs at HG HN
  simp only at HG HN ⊢
  obtain ⟨wB, hwB⟩ : ∃ wB, wB = (w.alloc (.cells #[.int .i64 q, .int .i64 gs, .int .i64 gv, .int .i64 gz, .int .u32 gm, .int .i64 ns, .int .i64 nv, .int .i64 nz, .int .u32 nm, .int .i64 t] 52)).alloc (.cells #[.int .i64 0, .int .i64 0, .int .i64 0, .int .i64 0, .int .u32 0, .int .i64 0, .int .i64 0, .int .i64 0, .int .u32 0, .int .i64 0] 63) := ⟨_, rfl⟩
  have bB : Below w.heap.size w wB := by rw [hwB]; exact (((Below.refl _ _).alloc (by simp <;> omega) _).alloc (by simp <;> omega) _)
  have q1 : wB.heap[w.heap.size]? = some (.cells #[.int .i64 q, .int .i64 gs, .int .i64 gv, .int .i64 gz, .int .u32 gm, .int .i64 ns, .int .i64 nv, .int .i64 nz, .int .u32 nm, .int .i64 t] 52 (0, 0)) := by rw [hwB, heap_alloc_old _ _ (by simp <;> omega)]; exact heap_alloc_new _ _
  have q2 : wB.heap[w.heap.size + 1]? = some (.cells #[.int .i64 0, .int .i64 0, .int .i64 0, .int .i64 0, .int .u32 0, .int .i64 0, .int .i64 0, .int .i64 0, .int .u32 0, .int .i64 0] 63 (0, 0)) := by rw [hwB]; exact heap_alloc2_new _ _ _
  have HQ : Hid (∀ V, Below wB.heap.size wB V → Below w.heap.size w V ∧ V.heap[w.heap.size]? = some (.cells #[.int .i64 q, .int .i64 gs, .int .i64 gv, .int .i64 gz, .int .u32 gm, .int .i64 ns, .int .i64 nv, .int .i64 nz, .int .u32 nm, .int .i64 t] 52 (0, 0)) ∧ V.heap[w.heap.size + 1]? = some (.cells #[.int .i64 0, .int .i64 0, .int .i64 0, .int .i64 0, .int .u32 0, .int .i64 0, .int .i64 0, .int .i64 0, .int .u32 0, .int .i64 0] 63 (0, 0))) := fun V hV => ⟨bB.trans (hV.mono bB.size), (hV.block _ (Array.getElem?_eq_some_iff.1 q1).1).trans q1, (hV.block _ (Array.getElem?_eq_some_iff.1 q2).1).trans q2⟩
  have HWB : Hid ((w.alloc (.cells #[.int .i64 q, .int .i64 gs, .int .i64 gv, .int .i64 gz, .int .u32 gm, .int .i64 ns, .int .i64 nv, .int .i64 nz, .int .u32 nm, .int .i64 t] 52)).alloc (.cells #[.int .i64 0, .int .i64 0, .int .i64 0, .int .i64 0, .int .u32 0, .int .i64 0, .int .i64 0, .int .i64 0, .int .u32 0, .int .i64 0] 63) = wB) := hwB.symm
  clear bB hwB q1 q2
  obtain ⟨v0, hv0⟩ : ∃ v, v = wB.drew := ⟨_, rfl⟩
  have HV0 : Hid (wB.drew = v0) := hv0.symm
  have B0 : Hid (Below wB.heap.size wB v0) := by rw [hv0]; exact (Below.refl _ _).drew
  have HS : Hid (∀ V, Below wB.heap.size wB V → V.cell? ⟨w.heap.size, 0, none⟩ = some (.int .i64 q) ∧ V.cell? ⟨w.heap.size, 1, none⟩ = some (.int .i64 gs) ∧ V.cell? ⟨w.heap.size, 2, none⟩ = some (.int .i64 gv) ∧ V.cell? ⟨w.heap.size, 3, none⟩ = some (.int .i64 gz) ∧ V.cell? ⟨w.heap.size, 4, none⟩ = some (.int .u32 gm) ∧ V.cell? ⟨w.heap.size, 5, none⟩ = some (.int .i64 ns) ∧ V.cell? ⟨w.heap.size, 6, none⟩ = some (.int .i64 nv) ∧ V.cell? ⟨w.heap.size, 7, none⟩ = some (.int .i64 nz) ∧ V.cell? ⟨w.heap.size, 8, none⟩ = some (.int .u32 nm) ∧ V.cell? ⟨w.heap.size, 9, none⟩ = some (.int .i64 t)) := fun V hV => cells25 (g := ⟨gs, gv, gz, gm⟩) (n := ⟨ns, nv, nz, nm⟩) (HQ.out V hV).2.1
  clear hv0
  go_enter Tryd.func24, Tryd.ntmps24
  go_wp2_with fail
  rw [HWB.out]
  refine plain_region16 (fun V => V.cell? ⟨w.heap.size, 0, none⟩ = some (.int .i64 q) ∧ V.cell? ⟨w.heap.size, 1, none⟩ = some (.int .i64 gs) ∧ V.cell? ⟨w.heap.size, 2, none⟩ = some (.int .i64 gv) ∧ V.cell? ⟨w.heap.size, 3, none⟩ = some (.int .i64 gz) ∧ V.cell? ⟨w.heap.size, 4, none⟩ = some (.int .u32 gm) ∧ V.cell? ⟨w.heap.size, 5, none⟩ = some (.int .i64 ns) ∧ V.cell? ⟨w.heap.size, 6, none⟩ = some (.int .i64 nv) ∧ V.cell? ⟨w.heap.size, 7, none⟩ = some (.int .i64 nz) ∧ V.cell? ⟨w.heap.size, 8, none⟩ = some (.int .u32 nm) ∧ V.cell? ⟨w.heap.size, 9, none⟩ = some (.int .i64 t)) 11 (by kernel_rfl) (by rw [HV0.out]; exact HS.out v0 B0.out) (fun hHeld => ?_)
  rw [HV0.out] at hHeld ⊢
  refine wpAnyK_take (i := 0) (v := .pointer (some ⟨w.heap.size, 0, none⟩)) rfl (by kernel_rfl) (by kernel_rfl) (by kernel_rfl) (by kernel_rfl) (fun _ _ _ h => h) (Or.inl ⟨by rfl, fun w hSw => by go_simp⟩) hHeld ?_
  simp only [List.getElem_toArray, List.getElem_cons_zero, Act.put, List.setIfInBounds_toArray, List.set_cons_zero, List.set_cons_succ]
  refine wpAnyK_take (i := 1) (v := .int .i64 q) rfl (by kernel_rfl) (by kernel_rfl) (by kernel_rfl) (by kernel_rfl) (fun _ _ _ h => h) (Or.inl ⟨by rfl, fun w hSw => by go_simp⟩) hHeld ?_
  simp only [List.getElem_toArray, List.getElem_cons_zero, List.getElem_cons_succ, Act.put, List.setIfInBounds_toArray, List.set_cons_zero, List.set_cons_succ]
  refine wpAnyK_take (i := 2) (v := .pointer (some ⟨w.heap.size, 1, none⟩)) rfl (by kernel_rfl) (by kernel_rfl) (by kernel_rfl) (by kernel_rfl) (fun _ _ _ h => h) (Or.inl ⟨by rfl, fun w hSw => by go_simp⟩) hHeld ?_
  simp only [List.getElem_toArray, List.getElem_cons_zero, List.getElem_cons_succ, Act.put, List.setIfInBounds_toArray, List.set_cons_zero, List.set_cons_succ]
  refine wpAnyK_take (i := 3) (v := .agg #[.int .i64 gs, .int .i64 gv, .int .i64 gz, .int .u32 gm]) rfl (by kernel_rfl) (by kernel_rfl) (by kernel_rfl) (by kernel_rfl) (fun _ _ _ h => h) (Or.inl ⟨by rfl, fun w hSw => by go_simp⟩) hHeld ?_
  simp only [List.getElem_toArray, List.getElem_cons_zero, List.getElem_cons_succ, Act.put, List.setIfInBounds_toArray, List.set_cons_zero, List.set_cons_succ]
  refine wpAnyK_take (i := 5) (v := .pointer (some ⟨w.heap.size, 5, none⟩)) rfl (by kernel_rfl) (by kernel_rfl) (by kernel_rfl) (by kernel_rfl) (fun _ _ _ h => h) (Or.inl ⟨by rfl, fun w hSw => by go_simp⟩) hHeld ?_
  simp only [List.getElem_toArray, List.getElem_cons_zero, List.getElem_cons_succ, Act.put, List.setIfInBounds_toArray, List.set_cons_zero, List.set_cons_succ]
  refine wpAnyK_take (i := 6) (v := .agg #[.int .i64 ns, .int .i64 nv, .int .i64 nz, .int .u32 nm]) rfl (by kernel_rfl) (by kernel_rfl) (by kernel_rfl) (by kernel_rfl) (fun _ _ _ h => h) (Or.inl ⟨by rfl, fun w hSw => by go_simp⟩) hHeld ?_
  simp only [List.getElem_toArray, List.getElem_cons_zero, List.getElem_cons_succ, Act.put, List.setIfInBounds_toArray, List.set_cons_zero, List.set_cons_succ]
  refine wpAnyK_take (i := 8) (v := .pointer (some ⟨w.heap.size, 9, none⟩)) rfl (by kernel_rfl) (by kernel_rfl) (by kernel_rfl) (by kernel_rfl) (fun _ _ _ h => h) (Or.inl ⟨by rfl, fun w hSw => by go_simp⟩) hHeld ?_
  simp only [List.getElem_toArray, List.getElem_cons_zero, List.getElem_cons_succ, Act.put, List.setIfInBounds_toArray, List.set_cons_zero, List.set_cons_succ]
  refine wpAnyK_take (i := 9) (v := .int .i64 t) rfl (by kernel_rfl) (by kernel_rfl) (by kernel_rfl) (by kernel_rfl) (fun _ _ _ h => h) (Or.inl ⟨by rfl, fun w hSw => by go_simp⟩) hHeld ?_
  simp only [List.getElem_toArray, List.getElem_cons_zero, List.getElem_cons_succ, Act.put, List.setIfInBounds_toArray, List.set_cons_zero, List.set_cons_succ]
  refine wpAnyK_one (i := 4) (by kernel_rfl) rfl (fun K hK => ?_)
  (try simp only [List.getElem_toArray, List.getElem_cons_zero, List.getElem_cons_succ, Act.put, List.setIfInBounds_toArray, List.set_cons_zero, List.set_cons_succ])
  go_simp
  refine (HG v0).mono ?_
  rintro e1 v1 ⟨rfl, b1⟩
  have B1 : Hid (Below wB.heap.size wB v1) := B0.out.trans (b1.mono B0.out.size)
  clear b1
  refine hK.out _ _ (fun _ => (HS.out v1 B1.out)) (fun hHeld0 => ?_)
  have hHeld := hHeld0 (by decide)
  clear hHeld0 hK K
  (try simp only [List.getElem_toArray, List.getElem_cons_zero, List.getElem_cons_succ, Act.put, List.setIfInBounds_toArray, List.set_cons_zero, List.set_cons_succ])
  refine wpAnyK_one (i := 7) (by kernel_rfl) rfl (fun K hK => ?_)
  (try simp only [List.getElem_toArray, List.getElem_cons_zero, List.getElem_cons_succ, Act.put, List.setIfInBounds_toArray, List.set_cons_zero, List.set_cons_succ])
  go_simp
  refine (HN v1).mono ?_
  rintro e2 v2 ⟨rfl, b2⟩
  have B2 : Hid (Below wB.heap.size wB v2) := B1.out.trans (b2.mono B1.out.size)
  clear b2
  refine hK.out _ _ (fun _ => (HS.out v2 B2.out)) (fun hHeld0 => ?_)
  have hHeld := hHeld0 (by decide)
  clear hHeld0 hK K
  (try simp only [List.getElem_toArray, List.getElem_cons_zero, List.getElem_cons_succ, Act.put, List.setIfInBounds_toArray, List.set_cons_zero, List.set_cons_succ])
  refine wpAnyK_one (i := 10) (by kernel_rfl) rfl (fun K hK => ?_)
  (try simp only [List.getElem_toArray, List.getElem_cons_zero, List.getElem_cons_succ, Act.put, List.setIfInBounds_toArray, List.set_cons_zero, List.set_cons_succ])
  go_simp
  refine hK.out _ _ (fun _ => (HS.out v2 B2.out)) (fun hHeld0 => ?_)
  have hHeld := hHeld0 (by decide)
  clear hHeld0 hK K
  (try simp only [List.getElem_toArray, List.getElem_cons_zero, List.getElem_cons_succ, Act.put, List.setIfInBounds_toArray, List.set_cons_zero, List.set_cons_succ])
  refine wpAnyK_one (i := 11) (by kernel_rfl) rfl (fun K hK => ?_)
  simp only [List.getElem_toArray, List.getElem_cons_zero, List.getElem_cons_succ, Act.put]
  rw [if_pos (by rfl)]
  have HZ : Hid _ := (HQ.out v2 B2.out).2.2
  refine wp_store_row 63 (.tmp 2) (.tmp 13) rfl (w.heap.size + 1) #[.int .i64 q, .int .i64 gs, .int .i64 gv, .int .i64 gz, .int .u32 gm, .int .i64 ns, .int .i64 nv, .int .i64 nz, .int .u32 nm, .int .i64 t] rfl rfl _ _ HZ.out info_rc25 rfl (row_rc25 (⟨q, ⟨gs, gv, gz, gm⟩, ⟨ns, nv, nz, nm⟩, t⟩ : Rc25)) ?_
  refine hK.out _ _ (fun h => absurd rfl h) (fun _ => ?_)
  clear hK K
  refine wpAnyK_done (by kernel_rfl) ?_ _
  go_wp2_with fail
  refine bodyPost_ret (v := .agg #[.int .i64 q, .int .i64 gs, .int .i64 gv, .int .i64 gz, .int .u32 gm, .int .i64 ns, .int .i64 nv, .int .i64 nz, .int .u32 nm, .int .i64 t]) (results_cell_row (fn := Tryd.f24) (p := 2) (ty := 63) rfl _ _ (w.heap.size + 1) _ #[.int .i64 q, .int .i64 gs, .int .i64 gv, .int .i64 gz, .int .u32 gm, .int .i64 ns, .int .i64 nv, .int .i64 nz, .int .u32 nm, .int .i64 t] _ _ rfl (set_row25 HZ.out) Tryd.underlying63 rfl info_rc25) rfl ?_
  exact ⟨rfl, below_row25 (HQ.out v2 B2.out).1 (by omega) _⟩
/-- The document's first record. -/
def ex25 : Rc25 := ⟨1, ⟨0, 1, 3, 7⟩, no25, 0⟩
set_option maxRecDepth 100000 in
theorem pfr25 (w : World) : Calls Tryd.prog 28 #[] w fun e w' => e = .returned (.agg ex25.cs) ∧ Below w.heap.size w w' := by
  go_enter Tryd.func28, Tryd.ntmps28
  go_wp2_with fail
  refine bodyPost_ret (v := .agg #[.int .i64 1, .int .i64 0, .int .i64 1, .int .i64 3, .int .u32 7, .int .i64 0, .int .i64 0, .int .i64 0, .int .u32 0, .int .i64 0]) (results_cell_row (fn := Tryd.f28) (p := 0) (ty := 52) rfl _ _ w.heap.size _ #[.int .i64 1, .int .i64 0, .int .i64 1, .int .i64 3, .int .u32 7, .int .i64 0, .int .i64 0, .int .i64 0, .int .u32 0, .int .i64 0] _ _ rfl (heap_alloc_new _ _) Tryd.underlying52 rfl info_rc25d) rfl ?_
  exact ⟨rfl, (Below.refl _ _).alloc (Nat.le_refl _) _⟩
def exb25 : List Int := by25 ex25
theorem ex25_may : ex25.may := by decide
theorem exb25_len : exb25.length = 43 := by decide +kernel
theorem exb25_mg : exb25.take 4 = mg25 := by decide +kernel
theorem exb25_de : de25 exb25 = (ex25, 0) := by decide +kernel
theorem exb25_en : en25 ex25 = exb25 := if_pos ex25_may
theorem exb25_ck : ck25 ex25 = 0 := if_pos ex25_may
theorem exb25_bd : ∀ z ∈ exb25, 0 ≤ z ∧ z ≤ 255 := by decide +kernel
set_option maxRecDepth 100000 in
set_option maxHeartbeats 8000000 in
theorem plives25 (w : World) (ht : Tab w) : Calls Tryd.prog 22 #[] w fun e w' => e = .returned (.bool true) ∧ Below w.heap.size w w' := by
  have HE := fun W h => pencode25 ex25 ⟨by decide, by decide⟩ W h
  rw [exb25_en, exb25_ck] at HE
  have HD := fun a cp W h1 h2 (h3 : 43 ≤ cp) => pdecode25 a exb25 43 cp W h1 h2 exb25_len.symm h3 (by omega)
  rw [exb25_de] at HD
  have HF : Hid (∀ W, Calls Tryd.prog 28 #[] W fun e w' => e = .returned (.agg ex25.cs) ∧ Below W.heap.size W w') := pfr25
  have HFC : Hid (∀ W, Calls Tryd.prog 24 #[.agg ex25.cs] W fun e w' => e = .returned (.agg ex25.cs) ∧ Below W.heap.size W w') := fun W => pfc25 ex25 W
  have HEH : Hid (∀ (W : World) (h : Tab W), Calls Tryd.prog 73 #[.agg ex25.cs] W fun e w' => ∃ p c, e = .returned (.tuple #[.slice p exb25.length c, .int .i64 0]) ∧ w'.ownsRow W.heap.size 5 1 (.slice p exb25.length c) exb25.length (exb25.map (Value.int .u8)) ∧ Below W.heap.size W w') := HE
  rw [exb25_len] at HEH
  have HDH : Hid _ := HD
  have HT : Hid (Tab w) := ht
  have hex : ex25.cs = #[.int .i64 1, .int .i64 0, .int .i64 1, .int .i64 3, .int .u32 7, .int .i64 0, .int .i64 0, .int .i64 0, .int .u32 0, .int .i64 0] := rfl
  rw [hex] at HF HFC HEH
  clear HE HD ht
  go_enter Tryd.func22, Tryd.ntmps22
  go_wp2_with fail
  refine (HF.out w).mono ?_
  rintro e1 w1 ⟨rfl, b1⟩
  have B1 : Hid (Below w.heap.size w w1) := b1
  clear b1
  go_wp2_with fail
  refine (HFC.out w1).mono ?_
  rintro e2 w2 ⟨rfl, b2⟩
  have B2 : Hid (Below w.heap.size w w2) := B1.out.trans (b2.mono B1.out.size)
  clear b2
  go_wp2_with fail
  refine (HEH.out w2 (HT.out.old B2.out)).mono ?_
  rintro e3 w3 ⟨p, c, rfl, o3, b3⟩
  have B3 : Hid (Below w.heap.size w w3) := B2.out.trans (b3.mono B2.out.size)
  obtain ⟨-, p3, c3, hv3, sg3, -, hc3, -⟩ := own_seg (M := 255) o3 (by decide) exb25_bd
  injection hv3 with r1 r2 r3
  subst r1 r3
  have S3 : Hid (Seg w3 p exb25 ∧ 43 ≤ c) := ⟨sg3, hc3⟩
  clear o3 b3 sg3 hc3 r2
  go_wp2_with fail
  refine (HDH.out p c w3 (HT.out.old B3.out) S3.out.1 S3.out.2).mono ?_
  rintro e4 w4 ⟨rfl, b4⟩
  rw [show (ex25, (0 : Int)).1.cs = #[.int .i64 1, .int .i64 0, .int .i64 1, .int .i64 3, .int .u32 7, .int .i64 0, .int .i64 0, .int .i64 0, .int .u32 0, .int .i64 0] from rfl]
  have B4 : Hid (Below w.heap.size w w4 ∧ Seg w4 p exb25) := ⟨B3.out.trans (b4.mono B3.out.size), S3.out.1.old b4⟩
  clear b4
  go_wp2_with fail
  obtain ⟨g, o, rfl, -⟩ := B4.out.2.at_ 0 (by rw [exb25_len]; omega)
  obtain ⟨w5, hw5⟩ : ∃ v, v = w4.alloc (.cells #[.int .i64 1, .int .i64 0, .int .i64 1, .int .i64 3, .int .u32 7, .int .i64 0, .int .i64 0, .int .i64 0, .int .u32 0, .int .i64 0] 63) := ⟨_, rfl⟩
  obtain ⟨rx, hrx⟩ : ∃ b, b = w4.heap.size := ⟨_, rfl⟩
  have b5 : Below w4.heap.size w4 w5 := by rw [hw5]; exact (Below.refl _ _).alloc (Nat.le_refl _) _
  have q5 : w5.heap[rx]? = some (.cells #[.int .i64 1, .int .i64 0, .int .i64 1, .int .i64 3, .int .u32 7, .int .i64 0, .int .i64 0, .int .i64 0, .int .u32 0, .int .i64 0] 63 (0, 0)) := by rw [hw5, hrx]; exact heap_alloc_new _ _
  obtain ⟨v0, hv0⟩ : ∃ v, v = w5.drew := ⟨_, rfl⟩
  have HV0 : Hid (w5.drew = v0) := hv0.symm
  have HW5 : Hid (w4.alloc (.cells #[.int .i64 1, .int .i64 0, .int .i64 1, .int .i64 3, .int .u32 7, .int .i64 0, .int .i64 0, .int .i64 0, .int .u32 0, .int .i64 0] 63) = w5 ∧ w4.heap.size = rx) := ⟨hw5.symm, hrx.symm⟩
  have J0 : Hid (Below w.heap.size w v0 ∧ Seg v0 (some ⟨g, o, none⟩) exb25 ∧ v0.heap[rx]? = some (.cells #[.int .i64 1, .int .i64 0, .int .i64 1, .int .i64 3, .int .u32 7, .int .i64 0, .int .i64 0, .int .i64 0, .int .u32 0, .int .i64 0] 63 (0, 0))) := by rw [hv0]; exact ⟨(B4.out.1.trans (b5.mono B4.out.1.size)).drew, (B4.out.2.old b5).drew, q5⟩
  have HS : Hid (∀ V, Below v0.heap.size v0 V → V.cell? ⟨rx, 0, none⟩ = some (.int .i64 1) ∧ V.cell? ⟨rx, 1, none⟩ = some (.int .i64 0) ∧ V.cell? ⟨rx, 2, none⟩ = some (.int .i64 1) ∧ V.cell? ⟨rx, 3, none⟩ = some (.int .i64 3) ∧ V.cell? ⟨rx, 4, none⟩ = some (.int .u32 7) ∧ V.cell? ⟨rx, 5, none⟩ = some (.int .i64 0) ∧ V.cell? ⟨rx, 6, none⟩ = some (.int .i64 0) ∧ V.cell? ⟨rx, 7, none⟩ = some (.int .i64 0) ∧ V.cell? ⟨rx, 8, none⟩ = some (.int .u32 0) ∧ V.cell? ⟨rx, 9, none⟩ = some (.int .i64 0)) := fun V hV => cells25 (g := ⟨0, 1, 3, 7⟩) (n := no25) ((hV.block _ (Array.getElem?_eq_some_iff.1 J0.out.2.2).1).trans J0.out.2.2)
  rw [HW5.out.1, HW5.out.2]
  clear hw5 hrx b5 q5 hv0
  have hc4 : (4 : Int) ≤ (c : Int) := by have := S3.out.2; omega
  have hcv := run_conv_segS (P := Tryd.prog) c (J0.out.2.1.take 4) 22 5 9 Tryd.underlying22 Tryd.underlying5 Tryd.underlying9
  rw [show (exb25.take 4).length = 4 from by rw [List.length_take, exb25_len]; rfl] at hcv
  have hbe := bytes_eq25 (xs := exb25.take 4) (fun z hz => exb25_bd z (List.mem_of_mem_take hz))
  rw [decide_eq_true exb25_mg] at hbe
  generalize strOfNums (exb25.take 4) = sx at *
  have hber : ∀ W, (binOp .eql 63 (.agg #[.int .i64 1, .int .i64 0, .int .i64 1, .int .i64 3, .int .u32 7, .int .i64 0, .int .i64 0, .int .i64 0, .int .u32 0, .int .i64 0]) (.agg #[.int .i64 1, .int .i64 0, .int .i64 1, .int .i64 3, .int .u32 7, .int .i64 0, .int .i64 0, .int .i64 0, .int .u32 0, .int .i64 0])).run Tryd.prog W = .ok (.bool true) W := fun W => by
    have := ber25 ex25 ex25 W
    rw [decide_eq_true rfl] at this
    exact this
  have egr := egr25
  refine plain_region16 (fun V => V.cell? ⟨rx, 0, none⟩ = some (.int .i64 1) ∧ V.cell? ⟨rx, 1, none⟩ = some (.int .i64 0) ∧ V.cell? ⟨rx, 2, none⟩ = some (.int .i64 1) ∧ V.cell? ⟨rx, 3, none⟩ = some (.int .i64 3) ∧ V.cell? ⟨rx, 4, none⟩ = some (.int .u32 7) ∧ V.cell? ⟨rx, 5, none⟩ = some (.int .i64 0) ∧ V.cell? ⟨rx, 6, none⟩ = some (.int .i64 0) ∧ V.cell? ⟨rx, 7, none⟩ = some (.int .i64 0) ∧ V.cell? ⟨rx, 8, none⟩ = some (.int .u32 0) ∧ V.cell? ⟨rx, 9, none⟩ = some (.int .i64 0)) 23 (by kernel_rfl) (by rw [HV0.out]; exact HS.out v0 (Below.refl _ _)) (fun hHeld => ?_)
  rw [HV0.out] at hHeld ⊢
  refine wpAnyK_take (i := 0) (v := .int .i64 0) rfl (by kernel_rfl) (by kernel_rfl) (by kernel_rfl) (by kernel_rfl) (fun _ _ _ h => h) (Or.inl ⟨by rfl, fun w hSw => by go_simp⟩) hHeld ?_
  simp only [List.getElem_toArray, List.getElem_cons_zero, Act.put, List.setIfInBounds_toArray, List.set_cons_zero, List.set_cons_succ]
  refine wpAnyK_take (i := 1) (v := .bool true) rfl (by kernel_rfl) (by kernel_rfl) (by kernel_rfl) (by kernel_rfl) (fun _ _ _ h => h) (Or.inl ⟨by rfl, fun w hSw => by go_simp⟩) hHeld ?_
  simp only [List.getElem_toArray, List.getElem_cons_zero, List.getElem_cons_succ, Act.put, List.setIfInBounds_toArray, List.set_cons_zero, List.set_cons_succ]
  refine wpAnyK_take (i := 2) (v := .bool true) rfl (by kernel_rfl) (by kernel_rfl) (by kernel_rfl) (by kernel_rfl) (fun _ _ _ h => h) (Or.inl ⟨by rfl, fun w hSw => by go_simp⟩) hHeld ?_
  simp only [List.getElem_toArray, List.getElem_cons_zero, List.getElem_cons_succ, Act.put, List.setIfInBounds_toArray, List.set_cons_zero, List.set_cons_succ]
  refine wpAnyK_take (i := 3) (v := .int .i64 0) rfl (by kernel_rfl) (by kernel_rfl) (by kernel_rfl) (by kernel_rfl) (fun _ _ _ h => h) (Or.inl ⟨by rfl, fun w hSw => by go_simp⟩) hHeld ?_
  simp only [List.getElem_toArray, List.getElem_cons_zero, List.getElem_cons_succ, Act.put, List.setIfInBounds_toArray, List.set_cons_zero, List.set_cons_succ]
  refine wpAnyK_take (i := 4) (v := .bool true) rfl (by kernel_rfl) (by kernel_rfl) (by kernel_rfl) (by kernel_rfl) (fun _ _ _ h => h) (Or.inl ⟨by rfl, fun w hSw => by go_simp⟩) hHeld ?_
  simp only [List.getElem_toArray, List.getElem_cons_zero, List.getElem_cons_succ, Act.put, List.setIfInBounds_toArray, List.set_cons_zero, List.set_cons_succ]
  refine wpAnyK_take (i := 5) (v := .bool true) rfl (by kernel_rfl) (by kernel_rfl) (by kernel_rfl) (by kernel_rfl) (fun _ _ _ h => h) (Or.inl ⟨by rfl, fun w hSw => by go_simp⟩) hHeld ?_
  simp only [List.getElem_toArray, List.getElem_cons_zero, List.getElem_cons_succ, Act.put, List.setIfInBounds_toArray, List.set_cons_zero, List.set_cons_succ]
  refine wpAnyK_take (i := 6) (v := .bool true) rfl (by kernel_rfl) (by kernel_rfl) (by kernel_rfl) (by kernel_rfl) (fun _ _ _ h => h) (Or.inl ⟨by rfl, fun w hSw => by go_simp⟩) hHeld ?_
  simp only [List.getElem_toArray, List.getElem_cons_zero, List.getElem_cons_succ, Act.put, List.setIfInBounds_toArray, List.set_cons_zero, List.set_cons_succ]
  refine wpAnyK_take (i := 7) (v := .slice (some ⟨g, o, none⟩) 43 c) rfl (by kernel_rfl) (by kernel_rfl) (by kernel_rfl) (by kernel_rfl) (fun _ _ _ h => h) (Or.inl ⟨by rfl, fun w hSw => by go_simp⟩) hHeld ?_
  simp only [List.getElem_toArray, List.getElem_cons_zero, List.getElem_cons_succ, Act.put, List.setIfInBounds_toArray, List.set_cons_zero, List.set_cons_succ]
  refine wpAnyK_take (i := 8) (v := .int .i64 43) rfl (by kernel_rfl) (by kernel_rfl) (by kernel_rfl) (by kernel_rfl) (fun _ _ _ h => h) (Or.inl ⟨by rfl, fun w hSw => by go_simp⟩) hHeld ?_
  simp only [List.getElem_toArray, List.getElem_cons_zero, List.getElem_cons_succ, Act.put, List.setIfInBounds_toArray, List.set_cons_zero, List.set_cons_succ]
  refine wpAnyK_take (i := 9) (v := .bool true) rfl (by kernel_rfl) (by kernel_rfl) (by kernel_rfl) (by kernel_rfl) (fun _ _ _ h => h) (Or.inl ⟨by rfl, fun w hSw => by go_simp⟩) hHeld ?_
  simp only [List.getElem_toArray, List.getElem_cons_zero, List.getElem_cons_succ, Act.put, List.setIfInBounds_toArray, List.set_cons_zero, List.set_cons_succ]
  refine wpAnyK_take (i := 10) (v := .bool true) rfl (by kernel_rfl) (by kernel_rfl) (by kernel_rfl) (by kernel_rfl) (fun _ _ _ h => h) (Or.inl ⟨by rfl, fun w hSw => by go_simp⟩) hHeld ?_
  simp only [List.getElem_toArray, List.getElem_cons_zero, List.getElem_cons_succ, Act.put, List.setIfInBounds_toArray, List.set_cons_zero, List.set_cons_succ]
  refine wpAnyK_take (i := 11) (v := .bool true) rfl (by kernel_rfl) (by kernel_rfl) (by kernel_rfl) (by kernel_rfl) (fun _ _ _ h => h) (Or.inl ⟨by rfl, fun w hSw => by go_simp⟩) hHeld ?_
  simp only [List.getElem_toArray, List.getElem_cons_zero, List.getElem_cons_succ, Act.put, List.setIfInBounds_toArray, List.set_cons_zero, List.set_cons_succ]
  refine wpAnyK_take (i := 12) (v := .slice (some ⟨g, o, none⟩) 43 c) rfl (by kernel_rfl) (by kernel_rfl) (by kernel_rfl) (by kernel_rfl) (fun _ _ _ h => h) (Or.inl ⟨by rfl, fun w hSw => by go_simp⟩) hHeld ?_
  simp only [List.getElem_toArray, List.getElem_cons_zero, List.getElem_cons_succ, Act.put, List.setIfInBounds_toArray, List.set_cons_zero, List.set_cons_succ]
  refine wpAnyK_take (i := 13) (v := .slice (some ⟨g, o, none⟩) 4 c) rfl (by kernel_rfl) (by kernel_rfl) (by kernel_rfl) (by kernel_rfl) (fun _ _ _ h => h) (Or.inl ⟨by rfl, fun w hSw => by go_simp⟩) hHeld ?_
  simp only [List.getElem_toArray, List.getElem_cons_zero, List.getElem_cons_succ, Act.put, List.setIfInBounds_toArray, List.set_cons_zero, List.set_cons_succ]
  refine wpAnyK_one (i := 14) (by kernel_rfl) rfl (fun K hK => ?_)
  (try simp only [List.getElem_toArray, List.getElem_cons_zero, List.getElem_cons_succ, Act.put, List.setIfInBounds_toArray, List.set_cons_zero, List.set_cons_succ])
  go_simp
  refine hK.out _ _ (fun _ => (HS.out v0 (Below.refl _ _))) (fun hHeld0 => ?_)
  have hHeld := hHeld0 (by decide)
  clear hHeld0 hK K
  (try simp only [List.getElem_toArray, List.getElem_cons_zero, List.getElem_cons_succ, Act.put, List.setIfInBounds_toArray, List.set_cons_zero, List.set_cons_succ])
  refine wpAnyK_take (i := 15) (v := .bool true) rfl (by kernel_rfl) (by kernel_rfl) (by kernel_rfl) (by kernel_rfl) (fun _ _ _ h => h) (Or.inl ⟨by rfl, fun w hSw => by go_simp⟩) hHeld ?_
  simp only [List.getElem_toArray, List.getElem_cons_zero, List.getElem_cons_succ, Act.put, List.setIfInBounds_toArray, List.set_cons_zero, List.set_cons_succ]
  refine wpAnyK_take (i := 16) (v := .bool true) rfl (by kernel_rfl) (by kernel_rfl) (by kernel_rfl) (by kernel_rfl) (fun _ _ _ h => h) (Or.inl ⟨by rfl, fun w hSw => by go_simp⟩) hHeld ?_
  simp only [List.getElem_toArray, List.getElem_cons_zero, List.getElem_cons_succ, Act.put, List.setIfInBounds_toArray, List.set_cons_zero, List.set_cons_succ]
  refine wpAnyK_take (i := 17) (v := .bool true) rfl (by kernel_rfl) (by kernel_rfl) (by kernel_rfl) (by kernel_rfl) (fun _ _ _ h => h) (Or.inl ⟨by rfl, fun w hSw => by go_simp⟩) hHeld ?_
  simp only [List.getElem_toArray, List.getElem_cons_zero, List.getElem_cons_succ, Act.put, List.setIfInBounds_toArray, List.set_cons_zero, List.set_cons_succ]
  refine wpAnyK_take (i := 18) (v := .agg #[.int .i64 1, .int .i64 0, .int .i64 1, .int .i64 3, .int .u32 7, .int .i64 0, .int .i64 0, .int .i64 0, .int .u32 0, .int .i64 0]) rfl (by kernel_rfl) (by kernel_rfl) (by kernel_rfl) (by kernel_rfl) (fun _ _ _ h => h) (Or.inl ⟨by rfl, fun w hSw => by go_simp⟩) hHeld ?_
  simp only [List.getElem_toArray, List.getElem_cons_zero, List.getElem_cons_succ, Act.put, List.setIfInBounds_toArray, List.set_cons_zero, List.set_cons_succ]
  refine wpAnyK_one (i := 19) (by kernel_rfl) rfl (fun K hK => ?_)
  (try simp only [List.getElem_toArray, List.getElem_cons_zero, List.getElem_cons_succ, Act.put, List.setIfInBounds_toArray, List.set_cons_zero, List.set_cons_succ])
  go_simp
  refine (HF.out v0).mono ?_
  rintro e5 v1 ⟨rfl, b6⟩
  have B6 : Hid (Below v0.heap.size v0 v1) := b6
  clear b6
  refine hK.out _ _ (fun _ => (HS.out v1 B6.out)) (fun hHeld0 => ?_)
  have hHeld := hHeld0 (by decide)
  clear hHeld0 hK K
  (try simp only [List.getElem_toArray, List.getElem_cons_zero, List.getElem_cons_succ, Act.put, List.setIfInBounds_toArray, List.set_cons_zero, List.set_cons_succ])
  refine wpAnyK_one (i := 20) (by kernel_rfl) rfl (fun K hK => ?_)
  (try simp only [List.getElem_toArray, List.getElem_cons_zero, List.getElem_cons_succ, Act.put, List.setIfInBounds_toArray, List.set_cons_zero, List.set_cons_succ])
  go_simp
  refine (HFC.out v1).mono ?_
  rintro e6 v2 ⟨rfl, b7⟩
  have B7 : Hid (Below v0.heap.size v0 v2) := B6.out.trans (b7.mono B6.out.size)
  clear b7
  refine hK.out _ _ (fun _ => (HS.out v2 B7.out)) (fun hHeld0 => ?_)
  have hHeld := hHeld0 (by decide)
  clear hHeld0 hK K
  (try simp only [List.getElem_toArray, List.getElem_cons_zero, List.getElem_cons_succ, Act.put, List.setIfInBounds_toArray, List.set_cons_zero, List.set_cons_succ])
  refine wpAnyK_one (i := 21) (by kernel_rfl) rfl (fun K hK => ?_)
  (try simp only [List.getElem_toArray, List.getElem_cons_zero, List.getElem_cons_succ, Act.put, List.setIfInBounds_toArray, List.set_cons_zero, List.set_cons_succ])
  rw [if_pos (by rfl)]
  refine wp_bin25 .eql 63 (.tmp 34) (.tmp 36) _ rfl rfl rfl egr25 (hber v2) ?_
  refine hK.out _ _ (fun _ => (HS.out v2 B7.out)) (fun hHeld0 => ?_)
  have hHeld := hHeld0 (by decide)
  clear hHeld0 hK K
  simp only [Act.put, List.setIfInBounds_toArray, List.set_cons_zero, List.set_cons_succ]
  refine wpAnyK_one (i := 22) (by kernel_rfl) rfl (fun K hK => ?_)
  (try simp only [List.getElem_toArray, List.getElem_cons_zero, List.getElem_cons_succ, Act.put, List.setIfInBounds_toArray, List.set_cons_zero, List.set_cons_succ])
  go_simp
  refine hK.out _ _ (fun _ => (HS.out v2 B7.out)) (fun hHeld0 => ?_)
  have hHeld := hHeld0 (by decide)
  clear hHeld0 hK K
  (try simp only [List.getElem_toArray, List.getElem_cons_zero, List.getElem_cons_succ, Act.put, List.setIfInBounds_toArray, List.set_cons_zero, List.set_cons_succ])
  refine wpAnyK_one (i := 23) (by kernel_rfl) rfl (fun K hK => ?_)
  (try simp only [List.getElem_toArray, List.getElem_cons_zero, List.getElem_cons_succ, Act.put, List.setIfInBounds_toArray, List.set_cons_zero, List.set_cons_succ])
  go_simp
  refine hK.out _ _ (fun h => absurd rfl h) (fun _ => ?_)
  clear hK K
  refine wpAnyK_done (by kernel_rfl) ?_ _
  go_wp2_with fail
  go_ret
  exact ⟨rfl, J0.out.1.trans (B7.out.mono J0.out.1.size)⟩
end Go.Proofs.YtmjlpfmacblcpaaDoor
