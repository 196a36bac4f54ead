import Derived.Test.YtmjlpfmacblcpaaDoorPe
import Derived.Test.YtmjlpfmacblcpaaDoorPb
import Derived.Deep.CutRange
import Derived.Lib.AppendStr
namespace Go.Proofs.YtmjlpfmacblcpaaDoor
open Go.RowKit Go.Shelf
set_option linter.unusedVariables false
set_option linter.unusedSimpArgs false
/-- All but the box ob and rows of bytes is kept. -/
def Ku25 (ob : Nat) (w w' : World) : Prop := w.heap.size ≤ w'.heap.size ∧ ∀ j cs t fr, w.heap[j]? = some (.cells cs t fr) → j ≠ ob → t ≠ 5 → w'.heap[j]? = w.heap[j]?
theorem Ku25.refl (ob : Nat) (w : World) : Ku25 ob w w := ⟨Nat.le_refl _, fun _ _ _ _ _ _ _ => rfl⟩
theorem Ku25.trans {ob : Nat} {a b c : World} (h : Ku25 ob a b) (k : Ku25 ob b c) : Ku25 ob a c := ⟨Nat.le_trans h.1 k.1, fun j cs t fr hj h1 h2 => (k.2 j cs t fr ((h.2 j cs t fr hj h1 h2).trans hj) h1 h2).trans (h.2 j cs t fr hj h1 h2)⟩
theorem Ku25.of_below {ob : Nat} {a b : World} (h : Below a.heap.size a b) : Ku25 ob a b := ⟨h.size, fun j cs t fr hj _ _ => h.block j (Array.getElem?_eq_some_iff.1 hj).1⟩
theorem Ku25.Fb {ob : Nat} {V W : World} {N rb k a s : Nat} (h : Fb25 V N rb k a s) (hk : Ku25 ob V W) (h1 : a ≠ ob) (h2 : s ≠ ob) : Fb25 W N rb k a s :=
  ⟨h.la, h.ls, (hk.2 _ _ _ _ h.ha h1 (by unfold fpt25; cases fu25 k <;> decide)).trans h.ha, (hk.2 _ _ _ _ h.hs h2 (by decide)).trans h.hs⟩
section
variable {w : World} {N rb k a s ob : Nat} {PF : Nat} {cs : Array Value} {x v y y2 : Int}
set_option maxRecDepth 100000 in
set_option maxHeartbeats 4000000 in
theorem pfld25i (hF : Fb25 w N rb k a s) (hk : fu25 k = false) (hr : w.heap[rb]? = some (.cells cs 63 (0, 0))) (hx : cs[k]? = some (.int .i64 x)) (hv : IntKind.u64.wrap x = v) (hy : IntKind.i64.wrap y = y2)
    (hcf : ∀ z W, (callFunc PF z).run Tryd.prog W = .ok (.enter PF z) W) {Post : World → Prop}
    (HP : Calls Tryd.prog PF #[.int .u64 v, .int .i64 (fz25 k), .pointer (some ⟨ob, 0, none⟩)] w.drew fun e W' => e = .returned (.int .u64 y) ∧ Post W' ∧ Ku25 ob w.drew W') (ha : a ≠ ob) (hs : s ≠ ob) (hro : rb ≠ ob) :
    Calls Tryd.prog 125 #[.func (.func PF) #[] #[.pointer (some ⟨ob, 0, none⟩)], .pointer (some ⟨a, 0, none⟩), .pointer (some ⟨s, 0, none⟩)] w fun e W'' => e = .returned (.tuple #[]) ∧ ∃ W', Post W' ∧ Ku25 ob w.drew W' ∧ W'' = W'.setRow rb (cs.setIfInBounds k (.int .i64 y2)) := by
  have e1 : fpt25 k = 194 := by unfold fpt25; rw [hk]; rfl
  have hFa := hF.ha
  rw [e1] at hFa
  have HS : Hid (∀ V : World, V.heap[a]? = w.heap[a]? → V.heap[s]? = w.heap[s]? → V.heap[rb]? = w.heap[rb]? → V.cell? ⟨a, 0, none⟩ = some (.pointer (some ⟨rb, k, none⟩)) ∧ V.cell? ⟨rb, k, none⟩ = some (.int .i64 x) ∧ V.cell? ⟨s, 0, none⟩ = some (.int .i64 (fz25 k))) := fun V h1 h2 h3 => ⟨cell25 (h1.trans hFa) rfl, cell25 (h3.trans hr) hx, cell25 (h2.trans hF.hs) rfl⟩
  have HKU : Hid (∀ V : World, Ku25 ob w.drew V → V.heap[a]? = w.heap[a]? ∧ V.heap[s]? = w.heap[s]? ∧ V.heap[rb]? = w.heap[rb]?) := fun V hV => ⟨hV.2 a _ _ _ hFa ha (by decide), hV.2 s _ _ _ hF.hs hs (by decide), hV.2 rb _ _ _ hr hro (by decide)⟩
  have HRB : Hid (w.heap[rb]? = some (.cells cs 63 (0, 0))) := hr
  obtain ⟨z, hz⟩ : ∃ z, z = fz25 k := ⟨_, rfl⟩
  rw [← hz] at HP HS
  clear hz hF hFa hr hx ha hs hro hk e1
  go_enter Tryd.func125, Tryd.ntmps125
  obtain ⟨v0, hv0⟩ : ∃ v, v = w.drew := ⟨_, rfl⟩
  have HV0 : Hid (w.drew = v0) := hv0.symm
  have S0 : Hid _ := HS.out v0 (by rw [hv0]; rfl) (by rw [hv0]; rfl) (by rw [hv0]; rfl)
  rw [← hv0] at HP HKU
  clear hv0
  go_wp2_with fail
  refine plain_region16 (fun V => V.cell? ⟨a, 0, none⟩ = some (.pointer (some ⟨rb, k, none⟩)) ∧ V.cell? ⟨rb, k, none⟩ = some (.int .i64 x) ∧ V.cell? ⟨s, 0, none⟩ = some (.int .i64 z)) 10 (by kernel_rfl) (by rw [HV0.out]; exact S0.out) (fun hHeld => ?_)
  rw [HV0.out] at hHeld ⊢
  refine wpAnyK_take (i := 0) (v := .pointer (some ⟨rb, k, none⟩)) rfl (by kernel_rfl) (by kernel_rfl) (by kernel_rfl) (by kernel_rfl) (fun _ _ _ h => h) (Or.inl ⟨by rfl, fun w hSw => by go_simp⟩) hHeld ?_
  simp only [List.getElem_toArray, List.getElem_cons_zero, Act.put, List.setIfInBounds_toArray, List.set_cons_zero, List.set_cons_succ]
  refine wpAnyK_take (i := 1) (v := .func (.func PF) #[] #[.pointer (some ⟨ob, 0, none⟩)]) rfl (by kernel_rfl) (by kernel_rfl) (by kernel_rfl) (by kernel_rfl) (fun _ _ _ h => h) (Or.inl ⟨by rfl, fun w hSw => by go_simp⟩) hHeld ?_
  simp only [List.getElem_toArray, List.getElem_cons_zero, List.getElem_cons_succ, Act.put, List.setIfInBounds_toArray, List.set_cons_zero, List.set_cons_succ]
  refine wpAnyK_take (i := 2) (v := .pointer (some ⟨rb, k, none⟩)) rfl (by kernel_rfl) (by kernel_rfl) (by kernel_rfl) (by kernel_rfl) (fun _ _ _ h => h) (Or.inl ⟨by rfl, fun w hSw => by go_simp⟩) hHeld ?_
  simp only [List.getElem_toArray, List.getElem_cons_zero, List.getElem_cons_succ, Act.put, List.setIfInBounds_toArray, List.set_cons_zero, List.set_cons_succ]
  refine wpAnyK_take (i := 3) (v := .pointer (some ⟨rb, k, none⟩)) rfl (by kernel_rfl) (by kernel_rfl) (by kernel_rfl) (by kernel_rfl) (fun _ _ _ h => h) (Or.inl ⟨by rfl, fun w hSw => by go_simp⟩) hHeld ?_
  simp only [List.getElem_toArray, List.getElem_cons_zero, List.getElem_cons_succ, Act.put, List.setIfInBounds_toArray, List.set_cons_zero, List.set_cons_succ]
  refine wpAnyK_take (i := 4) (v := .int .i64 x) rfl (by kernel_rfl) (by kernel_rfl) (by kernel_rfl) (by kernel_rfl) (fun _ _ _ h => h) (Or.inl ⟨by rfl, fun w hSw => by go_simp⟩) hHeld ?_
  simp only [List.getElem_toArray, List.getElem_cons_zero, List.getElem_cons_succ, Act.put, List.setIfInBounds_toArray, List.set_cons_zero, List.set_cons_succ]
  refine wpAnyK_take (i := 5) (v := .int .u64 v) rfl (by kernel_rfl) (by kernel_rfl) (by kernel_rfl) (by kernel_rfl) (fun _ _ _ h => h) (Or.inl ⟨by rfl, fun w hSw => by go_simp⟩) hHeld ?_
  simp only [List.getElem_toArray, List.getElem_cons_zero, List.getElem_cons_succ, Act.put, List.setIfInBounds_toArray, List.set_cons_zero, List.set_cons_succ]
  refine wpAnyK_take (i := 6) (v := .int .i64 z) rfl (by kernel_rfl) (by kernel_rfl) (by kernel_rfl) (by kernel_rfl) (fun _ _ _ h => h) (Or.inl ⟨by rfl, fun w hSw => by go_simp⟩) hHeld ?_
  simp only [List.getElem_toArray, List.getElem_cons_zero, List.getElem_cons_succ, Act.put, List.setIfInBounds_toArray, List.set_cons_zero, List.set_cons_succ]
  refine wpAnyK_one (i := 7) (by kernel_rfl) rfl (fun K hK => ?_)
  (try simp only [List.getElem_toArray, List.getElem_cons_zero, List.getElem_cons_succ, Act.put, List.setIfInBounds_toArray, List.set_cons_zero, List.set_cons_succ])
  go_simp
  refine HP.mono ?_
  rintro e1 v1 ⟨rfl, hP, hK1⟩
  have P1 : Hid (Post v1 ∧ Ku25 ob v0 v1) := ⟨hP, hK1⟩
  have Q1 : Hid _ := HKU.out v1 hK1
  have S1 : Hid _ := HS.out v1 Q1.out.1 Q1.out.2.1 Q1.out.2.2
  clear hP hK1 HP
  refine hK.out _ _ (fun _ => S1.out) (fun hHeld0 => ?_)
  have hHeld := hHeld0 (by decide)
  clear hHeld0 hK K
  (try simp only [List.getElem_toArray, List.getElem_cons_zero, List.getElem_cons_succ, Act.put, List.setIfInBounds_toArray, List.set_cons_zero, List.set_cons_succ])
  refine wpAnyK_one (i := 8) (by kernel_rfl) rfl (fun K hK => ?_)
  (try simp only [List.getElem_toArray, List.getElem_cons_zero, List.getElem_cons_succ, Act.put, List.setIfInBounds_toArray, List.set_cons_zero, List.set_cons_succ])
  go_simp
  refine hK.out _ _ (fun _ => S1.out) (fun hHeld0 => ?_)
  have hHeld := hHeld0 (by decide)
  clear hHeld0 hK K
  (try simp only [List.getElem_toArray, List.getElem_cons_zero, List.getElem_cons_succ, Act.put, List.setIfInBounds_toArray, List.set_cons_zero, List.set_cons_succ])
  refine wpAnyK_one (i := 9) (by kernel_rfl) rfl (fun K hK => ?_)
  (try simp only [List.getElem_toArray, List.getElem_cons_zero, List.getElem_cons_succ, Act.put, List.setIfInBounds_toArray, List.set_cons_zero, List.set_cons_succ])
  go_simp
  refine hK.out _ _ (fun _ => S1.out) (fun hHeld0 => ?_)
  have hHeld := hHeld0 (by decide)
  clear hHeld0 hK K
  (try simp only [List.getElem_toArray, List.getElem_cons_zero, List.getElem_cons_succ, Act.put, List.setIfInBounds_toArray, List.set_cons_zero, List.set_cons_succ])
  obtain ⟨x0, x1, x2⟩ := S1.out
  have xf : v1.frozen? ⟨rb, k, none⟩ = false := free_row25 (Q1.out.2.2.trans HRB.out) k
  refine wpAnyK_one (i := 10) (by kernel_rfl) rfl (fun K hK => ?_)
  simp only [List.getElem_toArray, List.getElem_cons_zero, List.getElem_cons_succ, Act.put]
  go_simp
  refine hK.out _ _ (fun h => absurd rfl h) (fun _ => ?_)
  clear hK K
  refine wpAnyK_done (by kernel_rfl) ?_ _
  go_wp2_with fail
  go_end0
  exact ⟨rfl, v1, P1.out.1, (by rw [HV0.out]; exact P1.out.2), setCell_row25 (Q1.out.2.2.trans HRB.out)⟩
set_option maxRecDepth 100000 in
set_option maxHeartbeats 4000000 in
theorem pfld25u (hF : Fb25 w N rb k a s) (hk : fu25 k = true) (hr : w.heap[rb]? = some (.cells cs 63 (0, 0))) (hx : cs[k]? = some (.int .u32 x)) (hv : IntKind.u64.wrap x = v) (hy : IntKind.u32.wrap y = y2)
    (hcf : ∀ z W, (callFunc PF z).run Tryd.prog W = .ok (.enter PF z) W) {Post : World → Prop}
    (HP : Calls Tryd.prog PF #[.int .u64 v, .int .i64 (fz25 k), .pointer (some ⟨ob, 0, none⟩)] w.drew fun e W' => e = .returned (.int .u64 y) ∧ Post W' ∧ Ku25 ob w.drew W') (ha : a ≠ ob) (hs : s ≠ ob) (hro : rb ≠ ob) :
    Calls Tryd.prog 126 #[.func (.func PF) #[] #[.pointer (some ⟨ob, 0, none⟩)], .pointer (some ⟨a, 0, none⟩), .pointer (some ⟨s, 0, none⟩)] w fun e W'' => e = .returned (.tuple #[]) ∧ ∃ W', Post W' ∧ Ku25 ob w.drew W' ∧ W'' = W'.setRow rb (cs.setIfInBounds k (.int .u32 y2)) := by
  have e1 : fpt25 k = 198 := by unfold fpt25; rw [hk]; rfl
  have hFa := hF.ha
  rw [e1] at hFa
  have HS : Hid (∀ V : World, V.heap[a]? = w.heap[a]? → V.heap[s]? = w.heap[s]? → V.heap[rb]? = w.heap[rb]? → V.cell? ⟨a, 0, none⟩ = some (.pointer (some ⟨rb, k, none⟩)) ∧ V.cell? ⟨rb, k, none⟩ = some (.int .u32 x) ∧ V.cell? ⟨s, 0, none⟩ = some (.int .i64 (fz25 k))) := fun V h1 h2 h3 => ⟨cell25 (h1.trans hFa) rfl, cell25 (h3.trans hr) hx, cell25 (h2.trans hF.hs) rfl⟩
  have HKU : Hid (∀ V : World, Ku25 ob w.drew V → V.heap[a]? = w.heap[a]? ∧ V.heap[s]? = w.heap[s]? ∧ V.heap[rb]? = w.heap[rb]?) := fun V hV => ⟨hV.2 a _ _ _ hFa ha (by decide), hV.2 s _ _ _ hF.hs hs (by decide), hV.2 rb _ _ _ hr hro (by decide)⟩
  have HRB : Hid (w.heap[rb]? = some (.cells cs 63 (0, 0))) := hr
  obtain ⟨z, hz⟩ : ∃ z, z = fz25 k := ⟨_, rfl⟩
  rw [← hz] at HP HS
  clear hz hF hFa hr hx ha hs hro hk e1
  go_enter Tryd.func126, Tryd.ntmps126
  obtain ⟨v0, hv0⟩ : ∃ v, v = w.drew := ⟨_, rfl⟩
  have HV0 : Hid (w.drew = v0) := hv0.symm
  have S0 : Hid _ := HS.out v0 (by rw [hv0]; rfl) (by rw [hv0]; rfl) (by rw [hv0]; rfl)
  rw [← hv0] at HP HKU
  clear hv0
  go_wp2_with fail
  refine plain_region16 (fun V => V.cell? ⟨a, 0, none⟩ = some (.pointer (some ⟨rb, k, none⟩)) ∧ V.cell? ⟨rb, k, none⟩ = some (.int .u32 x) ∧ V.cell? ⟨s, 0, none⟩ = some (.int .i64 z)) 10 (by kernel_rfl) (by rw [HV0.out]; exact S0.out) (fun hHeld => ?_)
  rw [HV0.out] at hHeld ⊢
  refine wpAnyK_take (i := 0) (v := .pointer (some ⟨rb, k, none⟩)) rfl (by kernel_rfl) (by kernel_rfl) (by kernel_rfl) (by kernel_rfl) (fun _ _ _ h => h) (Or.inl ⟨by rfl, fun w hSw => by go_simp⟩) hHeld ?_
  simp only [List.getElem_toArray, List.getElem_cons_zero, Act.put, List.setIfInBounds_toArray, List.set_cons_zero, List.set_cons_succ]
  refine wpAnyK_take (i := 1) (v := .func (.func PF) #[] #[.pointer (some ⟨ob, 0, none⟩)]) rfl (by kernel_rfl) (by kernel_rfl) (by kernel_rfl) (by kernel_rfl) (fun _ _ _ h => h) (Or.inl ⟨by rfl, fun w hSw => by go_simp⟩) hHeld ?_
  simp only [List.getElem_toArray, List.getElem_cons_zero, List.getElem_cons_succ, Act.put, List.setIfInBounds_toArray, List.set_cons_zero, List.set_cons_succ]
  refine wpAnyK_take (i := 2) (v := .pointer (some ⟨rb, k, none⟩)) rfl (by kernel_rfl) (by kernel_rfl) (by kernel_rfl) (by kernel_rfl) (fun _ _ _ h => h) (Or.inl ⟨by rfl, fun w hSw => by go_simp⟩) hHeld ?_
  simp only [List.getElem_toArray, List.getElem_cons_zero, List.getElem_cons_succ, Act.put, List.setIfInBounds_toArray, List.set_cons_zero, List.set_cons_succ]
  refine wpAnyK_take (i := 3) (v := .pointer (some ⟨rb, k, none⟩)) rfl (by kernel_rfl) (by kernel_rfl) (by kernel_rfl) (by kernel_rfl) (fun _ _ _ h => h) (Or.inl ⟨by rfl, fun w hSw => by go_simp⟩) hHeld ?_
  simp only [List.getElem_toArray, List.getElem_cons_zero, List.getElem_cons_succ, Act.put, List.setIfInBounds_toArray, List.set_cons_zero, List.set_cons_succ]
  refine wpAnyK_take (i := 4) (v := .int .u32 x) rfl (by kernel_rfl) (by kernel_rfl) (by kernel_rfl) (by kernel_rfl) (fun _ _ _ h => h) (Or.inl ⟨by rfl, fun w hSw => by go_simp⟩) hHeld ?_
  simp only [List.getElem_toArray, List.getElem_cons_zero, List.getElem_cons_succ, Act.put, List.setIfInBounds_toArray, List.set_cons_zero, List.set_cons_succ]
  refine wpAnyK_take (i := 5) (v := .int .u64 v) rfl (by kernel_rfl) (by kernel_rfl) (by kernel_rfl) (by kernel_rfl) (fun _ _ _ h => h) (Or.inl ⟨by rfl, fun w hSw => by go_simp⟩) hHeld ?_
  simp only [List.getElem_toArray, List.getElem_cons_zero, List.getElem_cons_succ, Act.put, List.setIfInBounds_toArray, List.set_cons_zero, List.set_cons_succ]
  refine wpAnyK_take (i := 6) (v := .int .i64 z) rfl (by kernel_rfl) (by kernel_rfl) (by kernel_rfl) (by kernel_rfl) (fun _ _ _ h => h) (Or.inl ⟨by rfl, fun w hSw => by go_simp⟩) hHeld ?_
  simp only [List.getElem_toArray, List.getElem_cons_zero, List.getElem_cons_succ, Act.put, List.setIfInBounds_toArray, List.set_cons_zero, List.set_cons_succ]
  refine wpAnyK_one (i := 7) (by kernel_rfl) rfl (fun K hK => ?_)
  (try simp only [List.getElem_toArray, List.getElem_cons_zero, List.getElem_cons_succ, Act.put, List.setIfInBounds_toArray, List.set_cons_zero, List.set_cons_succ])
  go_simp
  refine HP.mono ?_
  rintro e1 v1 ⟨rfl, hP, hK1⟩
  have P1 : Hid (Post v1 ∧ Ku25 ob v0 v1) := ⟨hP, hK1⟩
  have Q1 : Hid _ := HKU.out v1 hK1
  have S1 : Hid _ := HS.out v1 Q1.out.1 Q1.out.2.1 Q1.out.2.2
  clear hP hK1 HP
  refine hK.out _ _ (fun _ => S1.out) (fun hHeld0 => ?_)
  have hHeld := hHeld0 (by decide)
  clear hHeld0 hK K
  (try simp only [List.getElem_toArray, List.getElem_cons_zero, List.getElem_cons_succ, Act.put, List.setIfInBounds_toArray, List.set_cons_zero, List.set_cons_succ])
  refine wpAnyK_one (i := 8) (by kernel_rfl) rfl (fun K hK => ?_)
  (try simp only [List.getElem_toArray, List.getElem_cons_zero, List.getElem_cons_succ, Act.put, List.setIfInBounds_toArray, List.set_cons_zero, List.set_cons_succ])
  go_simp
  refine hK.out _ _ (fun _ => S1.out) (fun hHeld0 => ?_)
  have hHeld := hHeld0 (by decide)
  clear hHeld0 hK K
  (try simp only [List.getElem_toArray, List.getElem_cons_zero, List.getElem_cons_succ, Act.put, List.setIfInBounds_toArray, List.set_cons_zero, List.set_cons_succ])
  refine wpAnyK_one (i := 9) (by kernel_rfl) rfl (fun K hK => ?_)
  (try simp only [List.getElem_toArray, List.getElem_cons_zero, List.getElem_cons_succ, Act.put, List.setIfInBounds_toArray, List.set_cons_zero, List.set_cons_succ])
  go_simp
  refine hK.out _ _ (fun _ => S1.out) (fun hHeld0 => ?_)
  have hHeld := hHeld0 (by decide)
  clear hHeld0 hK K
  (try simp only [List.getElem_toArray, List.getElem_cons_zero, List.getElem_cons_succ, Act.put, List.setIfInBounds_toArray, List.set_cons_zero, List.set_cons_succ])
  obtain ⟨x0, x1, x2⟩ := S1.out
  have xf : v1.frozen? ⟨rb, k, none⟩ = false := free_row25 (Q1.out.2.2.trans HRB.out) k
  refine wpAnyK_one (i := 10) (by kernel_rfl) rfl (fun K hK => ?_)
  simp only [List.getElem_toArray, List.getElem_cons_zero, List.getElem_cons_succ, Act.put]
  go_simp
  refine hK.out _ _ (fun h => absurd rfl h) (fun _ => ?_)
  clear hK K
  refine wpAnyK_done (by kernel_rfl) ?_ _
  go_wp2_with fail
  go_end0
  exact ⟨rfl, v1, P1.out.1, (by rw [HV0.out]; exact P1.out.2), setCell_row25 (Q1.out.2.2.trans HRB.out)⟩
end
end Go.Proofs.YtmjlpfmacblcpaaDoor

namespace Go.Proofs.YtmjlpfmacblcpaaDoor
open Go.RowKit
set_option linter.unusedVariables false
set_option linter.unusedSimpArgs false
def cd25 (r : Rc25) : Rc25 := if r.may then r else zr25
set_option maxRecDepth 100000 in
set_option maxHeartbeats 4000000 in
theorem pchk25 (r : Rc25) (w : World) : Calls Tryd.prog 81 #[.agg r.cs] w fun e w' => e = .returned (.tuple #[.agg (cd25 r).cs, .int .i64 (ck25 r)]) ∧ Below w.heap.size w w' := by
  have HC : Hid (∀ W, Calls Tryd.prog 36 #[.agg r.cs] W fun e w' => e = .returned (.int .i64 (ck25 r)) ∧ Below W.heap.size W w') := fun W => pcheck25 r W
  obtain ⟨wB, hwB⟩ : ∃ wB, wB = (w.alloc (.cells r.cs 63)).alloc (.cells #[.int .i64 0, .int .i64 0, .int .i64 0, .int .i64 0, .int .u32 0, .int .i64 0, .int .i64 0, .int .i64 0, .int .u32 0, .int .i64 0] 63) := ⟨_, rfl⟩
  have bB : Below w.heap.size w wB := by rw [hwB]; exact ((Below.refl _ _).alloc (Nat.le_refl _) _).alloc (by simp) _
  have q1 : wB.heap[w.heap.size]? = some (.cells r.cs 63 (0, 0)) := by rw [hwB, heap_alloc_old _ _ (by simp)]; exact heap_alloc_new _ _
  have q2 : wB.heap[w.heap.size + 1]? = some (.cells #[.int .i64 0, .int .i64 0, .int .i64 0, .int .i64 0, .int .u32 0, .int .i64 0, .int .i64 0, .int .i64 0, .int .u32 0, .int .i64 0] 63 (0, 0)) := by rw [hwB]; exact heap_alloc2_new _ _ _
  have HQ : Hid (∀ V, Below wB.heap.size wB V → Below w.heap.size w V ∧ V.heap[w.heap.size]? = some (.cells r.cs 63 (0, 0)) ∧ V.heap[w.heap.size + 1]? = some (.cells #[.int .i64 0, .int .i64 0, .int .i64 0, .int .i64 0, .int .u32 0, .int .i64 0, .int .i64 0, .int .i64 0, .int .u32 0, .int .i64 0] 63 (0, 0))) := fun V hV => ⟨bB.trans (hV.mono bB.size), (hV.block _ (Array.getElem?_eq_some_iff.1 q1).1).trans q1, (hV.block _ (Array.getElem?_eq_some_iff.1 q2).1).trans q2⟩
  have HE : Hid (cd25 r = (if ck25 r = 0 then r else zr25)) := by
    show _ = _
    unfold cd25 ck25
    by_cases hm : r.may <;> simp [hm]
  clear bB q1 q2
  generalize cd25 r = D at *
  generalize ck25 r = E at *
  obtain ⟨q, ⟨gs, gv, gz, gm⟩, ⟨ns, nv, nz, nm⟩, t⟩ := r
  unfold Rc25.cs at HC hwB HQ ⊢
  simp only at HC hwB HQ ⊢
  have HWB : Hid ((w.alloc (.cells #[.int .i64 q, .int .i64 gs, .int .i64 gv, .int .i64 gz, .int .u32 gm, .int .i64 ns, .int .i64 nv, .int .i64 nz, .int .u32 nm, .int .i64 t] 63)).alloc (.cells #[.int .i64 0, .int .i64 0, .int .i64 0, .int .i64 0, .int .u32 0, .int .i64 0, .int .i64 0, .int .i64 0, .int .u32 0, .int .i64 0] 63) = wB) := hwB.symm
  clear hwB
  go_enter Tryd.func81, Tryd.ntmps81
  go_wp2_with fail
  rw [HWB.out]
  refine (HC.out wB).mono ?_
  rintro e1 w1 ⟨rfl, b1⟩
  have HB : Hid (Below wB.heap.size wB w1) := b1
  obtain ⟨-, x1, x2⟩ := HQ.out w1 b1
  obtain ⟨c0, c1, c2, c3, c4, c5, c6, c7, c8, c9⟩ := cells25 (g := ⟨gs, gv, gz, gm⟩) (n := ⟨ns, nv, nz, nm⟩) x1
  have HX : Hid (w1.heap[w.heap.size + 1]? = some (.cells #[.int .i64 0, .int .i64 0, .int .i64 0, .int .i64 0, .int .u32 0, .int .i64 0, .int .i64 0, .int .i64 0, .int .u32 0, .int .i64 0] 63 (0, 0))) := x2
  clear x1 x2 b1
  by_cases he : E = 0
  · have hd : D = ⟨q, ⟨gs, gv, gz, gm⟩, ⟨ns, nv, nz, nm⟩, t⟩ := by rw [HE.out, if_pos he]
    subst hd
    subst he
    go_wp2_with (refine wpList_store_row rfl 63 (.tmp 2) (.tmp 11) rfl (w.heap.size + 1) #[.int .i64 q, .int .i64 gs, .int .i64 gv, .int .i64 gz, .int .u32 gm, .int .i64 ns, .int .i64 nv, .int .i64 nz, .int .u32 nm, .int .i64 t] rfl rfl _ _ HX.out info_rc25 rfl (row_rc25 ⟨q, ⟨gs, gv, gz, gm⟩, ⟨ns, nv, nz, nm⟩, t⟩) ?_)
    refine bodyPost_ret (v := .tuple #[.agg #[.int .i64 q, .int .i64 gs, .int .i64 gv, .int .i64 gz, .int .u32 gm, .int .i64 ns, .int .i64 nv, .int .i64 nz, .int .u32 nm, .int .i64 t], .int .i64 0]) (results_ct25 (fn := Tryd.f81) (p := 2) (u := 3) (ty := 63) rfl _ _ (w.heap.size + 1) _ #[.int .i64 q, .int .i64 gs, .int .i64 gv, .int .i64 gz, .int .u32 gm, .int .i64 ns, .int .i64 nv, .int .i64 nz, .int .u32 nm, .int .i64 t] _ _ rfl (set_row25 HX.out) Tryd.underlying63 rfl info_rc25) rfl ?_
    exact ⟨rfl, below_row25 (HQ.out _ HB.out).1 (by omega) _⟩
  · have hd : D = zr25 := by rw [HE.out, if_neg he]
    subst hd
    go_wp2_with (refine wpList_store_row rfl 63 (.tmp 2) (.tmp 9) rfl (w.heap.size + 1) #[.int .i64 0, .int .i64 0, .int .i64 0, .int .i64 0, .int .u32 0, .int .i64 0, .int .i64 0, .int .i64 0, .int .u32 0, .int .i64 0] rfl rfl _ _ HX.out info_rc25 rfl (row_rc25 zr25) ?_)
    refine bodyPost_ret (v := .tuple #[.agg #[.int .i64 0, .int .i64 0, .int .i64 0, .int .i64 0, .int .u32 0, .int .i64 0, .int .i64 0, .int .i64 0, .int .u32 0, .int .i64 0], .int .i64 E]) (results_ct25 (fn := Tryd.f81) (p := 2) (u := 3) (ty := 63) rfl _ _ (w.heap.size + 1) _ #[.int .i64 0, .int .i64 0, .int .i64 0, .int .i64 0, .int .u32 0, .int .i64 0, .int .i64 0, .int .i64 0, .int .u32 0, .int .i64 0] _ _ rfl (set_row25 HX.out) Tryd.underlying63 rfl info_rc25) rfl ?_
    exact ⟨rfl, below_row25 (HQ.out _ HB.out).1 (by omega) _⟩
end Go.Proofs.YtmjlpfmacblcpaaDoor

namespace Go.Proofs.YtmjlpfmacblcpaaDoor
open Go.RowKit
set_option linter.unusedVariables false
set_option linter.unusedSimpArgs false
theorem heap_alloc3_25 (w : World) (A B C : Obj) : (((w.alloc A).alloc B).alloc C).heap[w.heap.size + 2]? = some C := by
  have h := heap_alloc_new ((w.alloc A).alloc B) C
  have e : ((w.alloc A).alloc B).heap.size = w.heap.size + 2 := by simp
  rw [e] at h
  exact h
end Go.Proofs.YtmjlpfmacblcpaaDoor

namespace Go.Proofs.YtmjlpfmacblcpaaDoor
open Go.RowKit Go.Shelf
set_option linter.unusedVariables false
set_option linter.unusedSimpArgs false
set_option maxRecDepth 100000 in
theorem pfixd25 (v : Int) (s : Nat) (w : World) (h1 : 1 ≤ s) (h8 : s ≤ 8) (hv0 : 0 ≤ v) (hv1 : v ≤ 18446744073709551615) (hr : v / 2 ^ (8 * s) = 0) :
    Calls Tryd.prog 108 #[.int .u64 v, .int .i64 s] w fun e w' => e = .returned (.slice (some ⟨w.heap.size, 0, none⟩) s s) ∧
      w'.ownsRow w.heap.size 5 1 (.slice (some ⟨w.heap.size, 0, none⟩) s s) s ((fixL s v).map (Value.int .u8)) ∧ Below w.heap.size w w' := by
  have HF := fixed_ok v s w h1 h8 hv0 hv1 hr
  clear h1 h8 hv0 hv1 hr
  go_enter Tryd.func108, Tryd.ntmps108
  go_wp2_with fail
  refine HF.mono ?_
  rintro e1 w1 ⟨rfl, o1, b1⟩
  have H1 : Hid _ := And.intro o1 b1
  clear o1 b1 HF
  go_wp2_with fail
  go_ret
  exact ⟨rfl, H1.out.1, H1.out.2⟩
/-- The box ob has a row of bytes of its own. -/
def En25 (V : World) (N ob : Nat) (L : List Int) : Prop := ∃ p c, V.heap[ob]? = some (.cells #[.slice p L.length c] 22 (0, 0)) ∧ V.ownsRow N 5 1 (.slice p L.length c) L.length (L.map (Value.int .u8))
set_option maxRecDepth 100000 in
set_option maxHeartbeats 4000000 in
theorem penc125 {w : World} {N ob : Nat} {L M : List Int} {v z : Int} {s : Nat} (hN : N ≤ ob) (hE : En25 w N ob L) (hz : z = (s : Int)) (h1 : 1 ≤ s) (h8 : s ≤ 8) (hv0 : 0 ≤ v) (hv1 : v ≤ 18446744073709551615) (hr : v / 2 ^ (8 * s) = 0) (hL : L.length ≤ 1000) (hM : M = L ++ fixL s v) :
    Calls Tryd.prog 107 #[.int .u64 v, .int .i64 z, .pointer (some ⟨ob, 0, none⟩)] w fun e w' => e = .returned (.int .u64 v) ∧ En25 w' N ob M ∧ Ku25 ob w w' ∧ Below N w w' := by
  subst hz
  obtain ⟨p, c, hq, ho⟩ := hE
  have hNw : N ≤ w.heap.size := Nat.le_trans hN (Nat.le_of_lt (Array.getElem?_eq_some_iff.1 hq).1)
  obtain ⟨v0, hv0'⟩ : ∃ v, v = w.drew := ⟨_, rfl⟩
  have HV0 : Hid (w.drew = v0) := hv0'.symm
  have H0 : Hid (v0.heap[ob]? = some (.cells #[.slice p L.length c] 22 (0, 0)) ∧ v0.ownsRow N 5 1 (.slice p L.length c) L.length (L.map (Value.int .u8)) ∧ Below w.heap.size w v0 ∧ N ≤ v0.heap.size) := by rw [hv0']; exact ⟨hq, ho, (Below.refl _ _).drew, hNw⟩
  have HF := fun W => pfixd25 v s W h1 h8 hv0 hv1 hr
  have hlen : (fixL s v).length = s := fixL_len _ _
  have HMM : Hid (M = L ++ fixL s v) := hM
  have HLB : Hid (L.length ≤ 1000 ∧ s ≤ 8 ∧ 1 ≤ s ∧ N ≤ ob ∧ (fixL s v).length = s ∧ N ≤ w.heap.size) := ⟨hL, h8, h1, hN, hlen, hNw⟩
  obtain ⟨n, hn⟩ : ∃ n, n = L.length := ⟨_, rfl⟩
  have HNL : Hid (n = L.length) := hn
  rw [← hn] at H0
  clear hq ho hv0' h1 h8 hv0 hv1 hr hlen hM hL hN hNw hn
  go_enter Tryd.func107, Tryd.ntmps107
  go_wp2_with fail
  refine plain_region16 (fun V => V.cell? ⟨ob, 0, none⟩ = some (.slice p n c)) 5 (by kernel_rfl) (by rw [HV0.out]; exact cell25 H0.out.1 rfl) (fun hHeld => ?_)
  rw [HV0.out] at hHeld ⊢
  refine wpAnyK_take (i := 0) (v := .slice p n c) rfl (by kernel_rfl) (by kernel_rfl) (by kernel_rfl) (by kernel_rfl) (fun _ _ _ h => h) (Or.inl ⟨by rfl, fun w hSw => by go_simp⟩) hHeld ?_
  simp only [List.getElem_toArray, List.getElem_cons_zero, Act.put, List.setIfInBounds_toArray, List.set_cons_zero, List.set_cons_succ]
  refine wpAnyK_take (i := 1) (v := .int .u64 v) rfl (by kernel_rfl) (by kernel_rfl) (by kernel_rfl) (by kernel_rfl) (fun _ _ _ h => h) (Or.inl ⟨by rfl, fun w hSw => by go_simp⟩) hHeld ?_
  simp only [List.getElem_toArray, List.getElem_cons_zero, List.getElem_cons_succ, Act.put, List.setIfInBounds_toArray, List.set_cons_zero, List.set_cons_succ]
  refine wpAnyK_take (i := 2) (v := .int .i64 (s : Int)) rfl (by kernel_rfl) (by kernel_rfl) (by kernel_rfl) (by kernel_rfl) (fun _ _ _ h => h) (Or.inl ⟨by rfl, fun w hSw => by go_simp⟩) hHeld ?_
  simp only [List.getElem_toArray, List.getElem_cons_zero, List.getElem_cons_succ, Act.put, List.setIfInBounds_toArray, List.set_cons_zero, List.set_cons_succ]
  refine wpAnyK_one (i := 3) (by kernel_rfl) rfl (fun K hK => ?_)
  (try simp only [List.getElem_toArray, List.getElem_cons_zero, List.getElem_cons_succ, Act.put, List.setIfInBounds_toArray, List.set_cons_zero, List.set_cons_succ])
  go_simp
  refine (HF v0).mono ?_
  rintro e1 v1 ⟨rfl, o1, b1⟩
  have q1 : v1.heap[ob]? = some (.cells #[.slice p n c] 22 (0, 0)) := (b1.block _ (Array.getElem?_eq_some_iff.1 H0.out.1).1).trans H0.out.1
  have o0 := own_below21 H0.out.2.1 b1
  obtain ⟨-, a2, cc2, hvv, sg, -⟩ := own_seg (M := 255) o1 (by decide) (fixL_bd _ _)
  injection hvv with r1 r2 r3
  subst r1
  have H1 : Hid (v1.heap[ob]? = some (.cells #[.slice p n c] 22 (0, 0)) ∧ v1.ownsRow N 5 1 (.slice p n c) n (L.map (Value.int .u8)) ∧ Seg v1 (some ⟨v0.heap.size, 0, none⟩) (fixL s v) ∧ Below v0.heap.size v0 v1) := ⟨q1, o0, sg, b1⟩
  clear q1 o0 sg o1 b1 r2 r3 HF
  refine hK.out _ _ (fun _ => (cell25 H1.out.1 rfl)) (fun hHeld0 => ?_)
  have hHeld := hHeld0 (by decide)
  clear hHeld0 hK K
  (try simp only [List.getElem_toArray, List.getElem_cons_zero, List.getElem_cons_succ, Act.put, List.setIfInBounds_toArray, List.set_cons_zero, List.set_cons_succ])
  refine wpAnyK_one (i := 4) (by kernel_rfl) rfl (fun K hK => ?_)
  (try simp only [List.getElem_toArray, List.getElem_cons_zero, List.getElem_cons_succ, Act.put, List.setIfInBounds_toArray, List.set_cons_zero, List.set_cons_succ])
  rw [if_pos (by rfl)]
  have ob1 := H1.out.2.1
  rw [HNL.out] at ob1
  obtain ⟨g3, c3, v3, hr3, o3, b3, k3⟩ := app21 v1 (m := s) (N := M) (c2 := s) HMM.out ob1 H1.out.2.2.1 HLB.out.2.2.2.2.1 (by have := HLB.out.2.2.1; omega) (by have := HLB.out; omega) (by have := H1.out.2.2.2.size; have := H0.out.2.2.2; omega)
  rw [← HNL.out] at hr3 k3 ob1
  have q3 : v3.heap[ob]? = some (.cells #[.slice p n c] 22 (0, 0)) := k3.heap H1.out.1 (fun e => absurd (own_ty25 ob1 e H1.out.1) (by decide))
  have H3 : Hid (v3.heap[ob]? = some (.cells #[.slice p n c] 22 (0, 0)) ∧ v3.ownsRow N 5 1 (.slice (some ⟨g3, 0, none⟩) M.length c3) M.length (M.map (Value.int .u8)) ∧ Below N v1 v3 ∧ Kp (fun k => (Value.slice p n c).ownBlock = some k) v1 v3) := ⟨q3, o3, b3, k3⟩
  refine operwp_app24 _ _ _ rfl rfl rfl hr3 ?_
  clear hr3 q3 o3 b3 k3 ob1
  refine hK.out _ _ (fun _ => (cell25 H3.out.1 rfl)) (fun hHeld0 => ?_)
  have hHeld := hHeld0 (by decide)
  clear hHeld0 hK K
  simp only [Act.put, List.setIfInBounds_toArray, List.set_cons_zero, List.set_cons_succ]
  have xc : v3.cell? ⟨ob, 0, none⟩ = some (.slice p n c) := cell25 H3.out.1 rfl
  have xf : v3.frozen? ⟨ob, 0, none⟩ = false := free_row25 H3.out.1 0
  refine wpAnyK_one (i := 5) (by kernel_rfl) rfl (fun K hK => ?_)
  simp only [List.getElem_toArray, List.getElem_cons_zero, List.getElem_cons_succ, Act.put]
  go_simp
  refine hK.out _ _ (fun h => absurd rfl h) (fun _ => ?_)
  clear hK K
  refine wpAnyK_done (by kernel_rfl) ?_ _
  go_wp2_with fail
  go_ret
  have hset : v3.setCell ⟨ob, 0, none⟩ (.slice (some ⟨g3, 0, none⟩) M.length c3) = v3.setRow ob #[.slice (some ⟨g3, 0, none⟩) M.length c3] := setCell_row25 H3.out.1
  have kk : Kp (fun k => k = ob) v3 (v3.setCell ⟨ob, 0, none⟩ (.slice (some ⟨g3, 0, none⟩) M.length c3)) := Kp.set (S := fun k => k = ob) rfl _
  refine ⟨rfl, ⟨_, _, by rw [hset]; exact set_row25 H3.out.1, own_kp21 H3.out.2.1 (fun k e => kk.block k (H3.out.2.1.lt k e).2 (fun x => by subst x; exact absurd (own_ty25 H3.out.2.1 e H3.out.1) (by decide)))⟩, ?_, ?_⟩
  · refine ⟨Nat.le_trans H0.out.2.2.1.size (Nat.le_trans H1.out.2.2.2.size (Nat.le_trans H3.out.2.2.2.size kk.size)), fun j cs t fr hj h1 h2 => ?_⟩
    have j0 := (H0.out.2.2.1.block j (Array.getElem?_eq_some_iff.1 hj).1).trans hj
    have j1 := (H1.out.2.2.2.block j (Array.getElem?_eq_some_iff.1 j0).1).trans j0
    have j3 := H3.out.2.2.2.heap j1 (fun e => h2 (own_ty25 H1.out.2.1 e j1))
    exact (kk.heap j3 h1).trans hj.symm
  · have m0 := H0.out.2.2.1.mono HLB.out.2.2.2.2.2
    have m1 := H1.out.2.2.2.mono H0.out.2.2.2
    exact m0.trans (m1.trans (H3.out.2.2.1.trans (kk.below (fun k e => by subst e; exact HLB.out.2.2.2.1) (by have := H0.out.2.2.2; have := H1.out.2.2.2.size; have := H3.out.2.2.2.size; omega))))
end Go.Proofs.YtmjlpfmacblcpaaDoor
