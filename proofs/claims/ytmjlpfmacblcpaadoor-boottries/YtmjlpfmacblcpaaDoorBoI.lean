import Derived.Test.YtmjlpfmacblcpaaDoorBoH
namespace Go.Proofs.YtmjlpfmacblcpaaDoor
open Go.RowKit Go.Shelf
set_option linter.unusedVariables false
set_option linter.unusedSimpArgs false
/-- All but the box ob and rows of bytes is kept. -/
def Ku25 (ob : Nat) (w w' : World) : Prop := w.heap.size ≤ w'.heap.size ∧ ∀ j cs t fr, w.heap[j]? = some (.cells cs t fr) → j ≠ ob → t ≠ 5 → w'.heap[j]? = w.heap[j]?
theorem Ku25.refl (ob : Nat) (w : World) : Ku25 ob w w := ⟨Nat.le_refl _, fun _ _ _ _ _ _ _ => rfl⟩
theorem Ku25.trans {ob : Nat} {a b c : World} (h : Ku25 ob a b) (k : Ku25 ob b c) : Ku25 ob a c := ⟨Nat.le_trans h.1 k.1, fun j cs t fr hj h1 h2 => (k.2 j cs t fr ((h.2 j cs t fr hj h1 h2).trans hj) h1 h2).trans (h.2 j cs t fr hj h1 h2)⟩
theorem Ku25.of_below {ob : Nat} {a b : World} (h : Below a.heap.size a b) : Ku25 ob a b := ⟨h.size, fun j cs t fr hj _ _ => h.block j (Array.getElem?_eq_some_iff.1 hj).1⟩
theorem Ku25.Fb {ob : Nat} {V W : World} {N rb k a s : Nat} (h : Fb25 V N rb k a s) (hk : Ku25 ob V W) (h1 : a ≠ ob) (h2 : s ≠ ob) : Fb25 W N rb k a s :=
  ⟨h.la, h.ls, (hk.2 _ _ _ _ h.ha h1 (by unfold fpt25; cases fu25 k <;> decide)).trans h.ha, (hk.2 _ _ _ _ h.hs h2 (by decide)).trans h.hs⟩
section
variable {w : World} {N rb k a s ob : Nat} {PF : Nat} {cs : Array Value} {x v y y2 : Int}
set_option maxRecDepth 100000 in
set_option maxHeartbeats 4000000 in
theorem pfld25i (hF : Fb25 w N rb k a s) (hk : fu25 k = false) (hr : w.heap[rb]? = some (.cells cs 63 (0, 0))) (hx : cs[k]? = some (.int .i64 x)) (hv : IntKind.u64.wrap x = v) (hy : IntKind.i64.wrap y = y2)
    (hcf : ∀ z W, (callFunc PF z).run Tryd.prog W = .ok (.enter PF z) W) {Post : World → Prop}
    (HP : Calls Tryd.prog PF #[.int .u64 v, .int .i64 (fz25 k), .pointer (some ⟨ob, 0, none⟩)] w.drew fun e W' => e = .returned (.int .u64 y) ∧ Post W' ∧ Ku25 ob w.drew W') (ha : a ≠ ob) (hs : s ≠ ob) (hro : rb ≠ ob) :
    Calls Tryd.prog 125 #[.func (.func PF) #[] #[.pointer (some ⟨ob, 0, none⟩)], .pointer (some ⟨a, 0, none⟩), .pointer (some ⟨s, 0, none⟩)] w fun e W'' => e = .returned (.tuple #[]) ∧ ∃ W', Post W' ∧ Ku25 ob w.drew W' ∧ W'' = W'.setRow rb (cs.setIfInBounds k (.int .i64 y2)) := by
  have e1 : fpt25 k = 194 := by unfold fpt25; rw [hk]; rfl
  have hFa := hF.ha
  rw [e1] at hFa
  have HS : Hid (∀ V : World, V.heap[a]? = w.heap[a]? → V.heap[s]? = w.heap[s]? → V.heap[rb]? = w.heap[rb]? → V.cell? ⟨a, 0, none⟩ = some (.pointer (some ⟨rb, k, none⟩)) ∧ V.cell? ⟨rb, k, none⟩ = some (.int .i64 x) ∧ V.cell? ⟨s, 0, none⟩ = some (.int .i64 (fz25 k))) := fun V h1 h2 h3 => ⟨cell25 (h1.trans hFa) rfl, cell25 (h3.trans hr) hx, cell25 (h2.trans hF.hs) rfl⟩
  have HKU : Hid (∀ V : World, Ku25 ob w.drew V → V.heap[a]? = w.heap[a]? ∧ V.heap[s]? = w.heap[s]? ∧ V.heap[rb]? = w.heap[rb]?) := fun V hV => ⟨hV.2 a _ _ _ hFa ha (by decide), hV.2 s _ _ _ hF.hs hs (by decide), hV.2 rb _ _ _ hr hro (by decide)⟩
  have HRB : Hid (w.heap[rb]? = some (.cells cs 63 (0, 0))) := hr
  obtain ⟨z, hz⟩ : ∃ z, z = fz25 k := ⟨_, rfl⟩
  rw [← hz] at HP HS
  clear hz hF hFa hr hx ha hs hro hk e1
  go_enter Tryd.func125, Tryd.ntmps125
  obtain ⟨v0, hv0⟩ : ∃ v, v = w.drew := ⟨_, rfl⟩
  have HV0 : Hid (w.drew = v0) := hv0.symm
  have S0 : Hid _ := HS.out v0 (by rw [hv0]; rfl) (by rw [hv0]; rfl) (by rw [hv0]; rfl)
  rw [← hv0] at HP HKU
  clear hv0
  go_wp2_with fail
  refine plain_region16 (fun V => V.cell? ⟨a, 0, none⟩ = some (.pointer (some ⟨rb, k, none⟩)) ∧ V.cell? ⟨rb, k, none⟩ = some (.int .i64 x) ∧ V.cell? ⟨s, 0, none⟩ = some (.int .i64 z)) 10 (by kernel_rfl) (by rw [HV0.out]; exact S0.out) (fun hHeld => ?_)
  rw [HV0.out] at hHeld ⊢
  refine wpAnyK_take (i := 0) (v := .pointer (some ⟨rb, k, none⟩)) rfl (by kernel_rfl) (by kernel_rfl) (by kernel_rfl) (by kernel_rfl) (fun _ _ _ h => h) (Or.inl ⟨by rfl, fun w hSw => by go_simp⟩) hHeld ?_
  simp only [List.getElem_toArray, List.getElem_cons_zero, Act.put, List.setIfInBounds_toArray, List.set_cons_zero, List.set_cons_succ]
  refine wpAnyK_take (i := 1) (v := .func (.func PF) #[] #[.pointer (some ⟨ob, 0, none⟩)]) rfl (by kernel_rfl) (by kernel_rfl) (by kernel_rfl) (by kernel_rfl) (fun _ _ _ h => h) (Or.inl ⟨by rfl, fun w hSw => by go_simp⟩) hHeld ?_
  simp only [List.getElem_toArray, List.getElem_cons_zero, List.getElem_cons_succ, Act.put, List.setIfInBounds_toArray, List.set_cons_zero, List.set_cons_succ]
  refine wpAnyK_take (i := 2) (v := .pointer (some ⟨rb, k, none⟩)) rfl (by kernel_rfl) (by kernel_rfl) (by kernel_rfl) (by kernel_rfl) (fun _ _ _ h => h) (Or.inl ⟨by rfl, fun w hSw => by go_simp⟩) hHeld ?_
  simp only [List.getElem_toArray, List.getElem_cons_zero, List.getElem_cons_succ, Act.put, List.setIfInBounds_toArray, List.set_cons_zero, List.set_cons_succ]
  refine wpAnyK_take (i := 3) (v := .pointer (some ⟨rb, k, none⟩)) rfl (by kernel_rfl) (by kernel_rfl) (by kernel_rfl) (by kernel_rfl) (fun _ _ _ h => h) (Or.inl ⟨by rfl, fun w hSw => by go_simp⟩) hHeld ?_
  simp only [List.getElem_toArray, List.getElem_cons_zero, List.getElem_cons_succ, Act.put, List.setIfInBounds_toArray, List.set_cons_zero, List.set_cons_succ]
  refine wpAnyK_take (i := 4) (v := .int .i64 x) rfl (by kernel_rfl) (by kernel_rfl) (by kernel_rfl) (by kernel_rfl) (fun _ _ _ h => h) (Or.inl ⟨by rfl, fun w hSw => by go_simp⟩) hHeld ?_
  simp only [List.getElem_toArray, List.getElem_cons_zero, List.getElem_cons_succ, Act.put, List.setIfInBounds_toArray, List.set_cons_zero, List.set_cons_succ]
  refine wpAnyK_take (i := 5) (v := .int .u64 v) rfl (by kernel_rfl) (by kernel_rfl) (by kernel_rfl) (by kernel_rfl) (fun _ _ _ h => h) (Or.inl ⟨by rfl, fun w hSw => by go_simp⟩) hHeld ?_
  simp only [List.getElem_toArray, List.getElem_cons_zero, List.getElem_cons_succ, Act.put, List.setIfInBounds_toArray, List.set_cons_zero, List.set_cons_succ]
  refine wpAnyK_take (i := 6) (v := .int .i64 z) rfl (by kernel_rfl) (by kernel_rfl) (by kernel_rfl) (by kernel_rfl) (fun _ _ _ h => h) (Or.inl ⟨by rfl, fun w hSw => by go_simp⟩) hHeld ?_
  simp only [List.getElem_toArray, List.getElem_cons_zero, List.getElem_cons_succ, Act.put, List.setIfInBounds_toArray, List.set_cons_zero, List.set_cons_succ]
  refine wpAnyK_one (i := 7) (by kernel_rfl) rfl (fun K hK => ?_)
  (try simp only [List.getElem_toArray, List.getElem_cons_zero, List.getElem_cons_succ, Act.put, List.setIfInBounds_toArray, List.set_cons_zero, List.set_cons_succ])
  go_simp
  refine HP.mono ?_
  rintro e1 v1 ⟨rfl, hP, hK1⟩
  have P1 : Hid (Post v1 ∧ Ku25 ob v0 v1) := ⟨hP, hK1⟩
  have Q1 : Hid _ := HKU.out v1 hK1
  have S1 : Hid _ := HS.out v1 Q1.out.1 Q1.out.2.1 Q1.out.2.2
  clear hP hK1 HP
  refine hK.out _ _ (fun _ => S1.out) (fun hHeld0 => ?_)
  have hHeld := hHeld0 (by decide)
  clear hHeld0 hK K
  (try simp only [List.getElem_toArray, List.getElem_cons_zero, List.getElem_cons_succ, Act.put, List.setIfInBounds_toArray, List.set_cons_zero, List.set_cons_succ])
  refine wpAnyK_one (i := 8) (by kernel_rfl) rfl (fun K hK => ?_)
  (try simp only [List.getElem_toArray, List.getElem_cons_zero, List.getElem_cons_succ, Act.put, List.setIfInBounds_toArray, List.set_cons_zero, List.set_cons_succ])
  go_simp
  refine hK.out _ _ (fun _ => S1.out) (fun hHeld0 => ?_)
  have hHeld := hHeld0 (by decide)
  clear hHeld0 hK K
  (try simp only [List.getElem_toArray, List.getElem_cons_zero, List.getElem_cons_succ, Act.put, List.setIfInBounds_toArray, List.set_cons_zero, List.set_cons_succ])
  refine wpAnyK_one (i := 9) (by kernel_rfl) rfl (fun K hK => ?_)
  (try simp only [List.getElem_toArray, List.getElem_cons_zero, List.getElem_cons_succ, Act.put, List.setIfInBounds_toArray, List.set_cons_zero, List.set_cons_succ])
  go_simp
  refine hK.out _ _ (fun _ => S1.out) (fun hHeld0 => ?_)
  have hHeld := hHeld0 (by decide)
  clear hHeld0 hK K
  (try simp only [List.getElem_toArray, List.getElem_cons_zero, List.getElem_cons_succ, Act.put, List.setIfInBounds_toArray, List.set_cons_zero, List.set_cons_succ])
  obtain ⟨x0, x1, x2⟩ := S1.out
  have xf : v1.frozen? ⟨rb, k, none⟩ = false := free_row25 (Q1.out.2.2.trans HRB.out) k
  refine wpAnyK_one (i := 10) (by kernel_rfl) rfl (fun K hK => ?_)
  simp only [List.getElem_toArray, List.getElem_cons_zero, List.getElem_cons_succ, Act.put]
  go_simp
  refine hK.out _ _ (fun h => absurd rfl h) (fun _ => ?_)
  clear hK K
  refine wpAnyK_done (by kernel_rfl) ?_ _
  go_wp2_with fail
  go_end0
  exact ⟨rfl, v1, P1.out.1, (by rw [HV0.out]; exact P1.out.2), setCell_row25 (Q1.out.2.2.trans HRB.out)⟩
set_option maxRecDepth 100000 in
set_option maxHeartbeats 4000000 in
theorem pfld25u (hF : Fb25 w N rb k a s) (hk : fu25 k = true) (hr : w.heap[rb]? = some (.cells cs 63 (0, 0))) (hx : cs[k]? = some (.int .u32 x)) (hv : IntKind.u64.wrap x = v) (hy : IntKind.u32.wrap y = y2)
    (hcf : ∀ z W, (callFunc PF z).run Tryd.prog W = .ok (.enter PF z) W) {Post : World → Prop}
    (HP : Calls Tryd.prog PF #[.int .u64 v, .int .i64 (fz25 k), .pointer (some ⟨ob, 0, none⟩)] w.drew fun e W' => e = .returned (.int .u64 y) ∧ Post W' ∧ Ku25 ob w.drew W') (ha : a ≠ ob) (hs : s ≠ ob) (hro : rb ≠ ob) :
    Calls Tryd.prog 126 #[.func (.func PF) #[] #[.pointer (some ⟨ob, 0, none⟩)], .pointer (some ⟨a, 0, none⟩), .pointer (some ⟨s, 0, none⟩)] w fun e W'' => e = .returned (.tuple #[]) ∧ ∃ W', Post W' ∧ Ku25 ob w.drew W' ∧ W'' = W'.setRow rb (cs.setIfInBounds k (.int .u32 y2)) := by
  have e1 : fpt25 k = 198 := by unfold fpt25; rw [hk]; rfl
  have hFa := hF.ha
  rw [e1] at hFa
  have HS : Hid (∀ V : World, V.heap[a]? = w.heap[a]? → V.heap[s]? = w.heap[s]? → V.heap[rb]? = w.heap[rb]? → V.cell? ⟨a, 0, none⟩ = some (.pointer (some ⟨rb, k, none⟩)) ∧ V.cell? ⟨rb, k, none⟩ = some (.int .u32 x) ∧ V.cell? ⟨s, 0, none⟩ = some (.int .i64 (fz25 k))) := fun V h1 h2 h3 => ⟨cell25 (h1.trans hFa) rfl, cell25 (h3.trans hr) hx, cell25 (h2.trans hF.hs) rfl⟩
  have HKU : Hid (∀ V : World, Ku25 ob w.drew V → V.heap[a]? = w.heap[a]? ∧ V.heap[s]? = w.heap[s]? ∧ V.heap[rb]? = w.heap[rb]?) := fun V hV => ⟨hV.2 a _ _ _ hFa ha (by decide), hV.2 s _ _ _ hF.hs hs (by decide), hV.2 rb _ _ _ hr hro (by decide)⟩
  have HRB : Hid (w.heap[rb]? = some (.cells cs 63 (0, 0))) := hr
  obtain ⟨z, hz⟩ : ∃ z, z = fz25 k := ⟨_, rfl⟩
  rw [← hz] at HP HS
  clear hz hF hFa hr hx ha hs hro hk e1
  go_enter Tryd.func126, Tryd.ntmps126
  obtain ⟨v0, hv0⟩ : ∃ v, v = w.drew := ⟨_, rfl⟩
  have HV0 : Hid (w.drew = v0) := hv0.symm
  have S0 : Hid _ := HS.out v0 (by rw [hv0]; rfl) (by rw [hv0]; rfl) (by rw [hv0]; rfl)
  rw [← hv0] at HP HKU
  clear hv0
  go_wp2_with fail
  refine plain_region16 (fun V => V.cell? ⟨a, 0, none⟩ = some (.pointer (some ⟨rb, k, none⟩)) ∧ V.cell? ⟨rb, k, none⟩ = some (.int .u32 x) ∧ V.cell? ⟨s, 0, none⟩ = some (.int .i64 z)) 10 (by kernel_rfl) (by rw [HV0.out]; exact S0.out) (fun hHeld => ?_)
  rw [HV0.out] at hHeld ⊢
  refine wpAnyK_take (i := 0) (v := .pointer (some ⟨rb, k, none⟩)) rfl (by kernel_rfl) (by kernel_rfl) (by kernel_rfl) (by kernel_rfl) (fun _ _ _ h => h) (Or.inl ⟨by rfl, fun w hSw => by go_simp⟩) hHeld ?_
  simp only [List.getElem_toArray, List.getElem_cons_zero, Act.put, List.setIfInBounds_toArray, List.set_cons_zero, List.set_cons_succ]
  refine wpAnyK_take (i := 1) (v := .func (.func PF) #[] #[.pointer (some ⟨ob, 0, none⟩)]) rfl (by kernel_rfl) (by kernel_rfl) (by kernel_rfl) (by kernel_rfl) (fun _ _ _ h => h) (Or.inl ⟨by rfl, fun w hSw => by go_simp⟩) hHeld ?_
  simp only [List.getElem_toArray, List.getElem_cons_zero, List.getElem_cons_succ, Act.put, List.setIfInBounds_toArray, List.set_cons_zero, List.set_cons_succ]
  refine wpAnyK_take (i := 2) (v := .pointer (some ⟨rb, k, none⟩)) rfl (by kernel_rfl) (by kernel_rfl) (by kernel_rfl) (by kernel_rfl) (fun _ _ _ h => h) (Or.inl ⟨by rfl, fun w hSw => by go_simp⟩) hHeld ?_
  simp only [List.getElem_toArray, List.getElem_cons_zero, List.getElem_cons_succ, Act.put, List.setIfInBounds_toArray, List.set_cons_zero, List.set_cons_succ]
  refine wpAnyK_take (i := 3) (v := .pointer (some ⟨rb, k, none⟩)) rfl (by kernel_rfl) (by kernel_rfl) (by kernel_rfl) (by kernel_rfl) (fun _ _ _ h => h) (Or.inl ⟨by rfl, fun w hSw => by go_simp⟩) hHeld ?_
  simp only [List.getElem_toArray, List.getElem_cons_zero, List.getElem_cons_succ, Act.put, List.setIfInBounds_toArray, List.set_cons_zero, List.set_cons_succ]
  refine wpAnyK_take (i := 4) (v := .int .u32 x) rfl (by kernel_rfl) (by kernel_rfl) (by kernel_rfl) (by kernel_rfl) (fun _ _ _ h => h) (Or.inl ⟨by rfl, fun w hSw => by go_simp⟩) hHeld ?_
  simp only [List.getElem_toArray, List.getElem_cons_zero, List.getElem_cons_succ, Act.put, List.setIfInBounds_toArray, List.set_cons_zero, List.set_cons_succ]
  refine wpAnyK_take (i := 5) (v := .int .u64 v) rfl (by kernel_rfl) (by kernel_rfl) (by kernel_rfl) (by kernel_rfl) (fun _ _ _ h => h) (Or.inl ⟨by rfl, fun w hSw => by go_simp⟩) hHeld ?_
  simp only [List.getElem_toArray, List.getElem_cons_zero, List.getElem_cons_succ, Act.put, List.setIfInBounds_toArray, List.set_cons_zero, List.set_cons_succ]
  refine wpAnyK_take (i := 6) (v := .int .i64 z) rfl (by kernel_rfl) (by kernel_rfl) (by kernel_rfl) (by kernel_rfl) (fun _ _ _ h => h) (Or.inl ⟨by rfl, fun w hSw => by go_simp⟩) hHeld ?_
  simp only [List.getElem_toArray, List.getElem_cons_zero, List.getElem_cons_succ, Act.put, List.setIfInBounds_toArray, List.set_cons_zero, List.set_cons_succ]
  refine wpAnyK_one (i := 7) (by kernel_rfl) rfl (fun K hK => ?_)
  (try simp only [List.getElem_toArray, List.getElem_cons_zero, List.getElem_cons_succ, Act.put, List.setIfInBounds_toArray, List.set_cons_zero, List.set_cons_succ])
  go_simp
  refine HP.mono ?_
  rintro e1 v1 ⟨rfl, hP, hK1⟩
  have P1 : Hid (Post v1 ∧ Ku25 ob v0 v1) := ⟨hP, hK1⟩
  have Q1 : Hid _ := HKU.out v1 hK1
  have S1 : Hid _ := HS.out v1 Q1.out.1 Q1.out.2.1 Q1.out.2.2
  clear hP hK1 HP
  refine hK.out _ _ (fun _ => S1.out) (fun hHeld0 => ?_)
  have hHeld := hHeld0 (by decide)
  clear hHeld0 hK K
  (try simp only [List.getElem_toArray, List.getElem_cons_zero, List.getElem_cons_succ, Act.put, List.setIfInBounds_toArray, List.set_cons_zero, List.set_cons_succ])
  refine wpAnyK_one (i := 8) (by kernel_rfl) rfl (fun K hK => ?_)
  (try simp only [List.getElem_toArray, List.getElem_cons_zero, List.getElem_cons_succ, Act.put, List.setIfInBounds_toArray, List.set_cons_zero, List.set_cons_succ])
  go_simp
  refine hK.out _ _ (fun _ => S1.out) (fun hHeld0 => ?_)
  have hHeld := hHeld0 (by decide)
  clear hHeld0 hK K
  (try simp only [List.getElem_toArray, List.getElem_cons_zero, List.getElem_cons_succ, Act.put, List.setIfInBounds_toArray, List.set_cons_zero, List.set_cons_succ])
  refine wpAnyK_one (i := 9) (by kernel_rfl) rfl (fun K hK => ?_)
  (try simp only [List.getElem_toArray, List.getElem_cons_zero, List.getElem_cons_succ, Act.put, List.setIfInBounds_toArray, List.set_cons_zero, List.set_cons_succ])
  go_simp
  refine hK.out _ _ (fun _ => S1.out) (fun hHeld0 => ?_)
  have hHeld := hHeld0 (by decide)
  clear hHeld0 hK K
  (try simp only [List.getElem_toArray, List.getElem_cons_zero, List.getElem_cons_succ, Act.put, List.setIfInBounds_toArray, List.set_cons_zero, List.set_cons_succ])
  obtain ⟨x0, x1, x2⟩ := S1.out
  have xf : v1.frozen? ⟨rb, k, none⟩ = false := free_row25 (Q1.out.2.2.trans HRB.out) k
  refine wpAnyK_one (i := 10) (by kernel_rfl) rfl (fun K hK => ?_)
  simp only [List.getElem_toArray, List.getElem_cons_zero, List.getElem_cons_succ, Act.put]
  go_simp
  refine hK.out _ _ (fun h => absurd rfl h) (fun _ => ?_)
  clear hK K
  refine wpAnyK_done (by kernel_rfl) ?_ _
  go_wp2_with fail
  go_end0
  exact ⟨rfl, v1, P1.out.1, (by rw [HV0.out]; exact P1.out.2), setCell_row25 (Q1.out.2.2.trans HRB.out)⟩
end
end Go.Proofs.YtmjlpfmacblcpaaDoor
