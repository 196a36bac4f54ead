
import Derived.Test.YtjoghmdjnkdokaaDoorFlG
import Derived.Laws.ResultCell
namespace Go.Proofs.YtjoghmdjnkdokaaDoor
open Go.RowKit Go.Shelf
set_option linter.unusedVariables false
set_option linter.unusedSimpArgs false

/-! The landed flash: after, where. -/
theorem mte21 (x y : Int) (w : World) : (method 279 112 (.agg #[.int .i64 x, .int .i64 y]) "sapper/flash.where").run Tryd.prog w = .ok (107, .agg #[.int .i64 x, .int .i64 y]) w := by kernel_rfl
theorem mtp21 (x y : Int) (a : Option Addr) (n c : Nat) (w : World) : (method 279 110 (.agg #[.int .i64 x, .int .i64 y, .slice a n c]) "sapper/flash.where").run Tryd.prog w = .ok (107, .agg #[.int .i64 x, .int .i64 y]) w := by kernel_rfl
theorem ta21 (x y : Int) (W : World) : (Instr.typeAssert (.iface 112 (.agg #[.int .i64 x, .int .i64 y])) 139 112 true).run Tryd.prog W = .ok (.tuple #[.agg #[.int .i64 x, .int .i64 y], .bool true]) W := by kernel_rfl
theorem tb21 (x y : Int) (a : Option Addr) (n c : Nat) (W : World) : (Instr.typeAssert (.iface 110 (.agg #[.int .i64 x, .int .i64 y, .slice a n c])) 139 112 true).run Tryd.prog W = .ok (.tuple #[.agg #[.int .i64 0, .int .i64 0], .bool false]) W := by kernel_rfl
theorem tc21 (x y : Int) (a : Option Addr) (n c : Nat) (W : World) : (Instr.typeAssert (.iface 110 (.agg #[.int .i64 x, .int .i64 y, .slice a n c])) 139 110 true).run Tryd.prog W = .ok (.tuple #[.agg #[.int .i64 x, .int .i64 y, .slice a n c], .bool true]) W := by kernel_rfl
set_option maxRecDepth 100000 in
set_option maxHeartbeats 1000000 in
theorem pwh21 (x y : Int) (w : World) : Calls Tryd.prog 107 #[.agg #[.int .i64 x, .int .i64 y]] w fun e w' => e = .returned (.agg #[.int .i64 x, .int .i64 y]) ∧ Below w.heap.size w w' := by
  go_enter Tryd.func107, Tryd.ntmps107
  go_wp2_with fail
  have e : (w.alloc (.cells #[.int .i64 x, .int .i64 y] 69)).heap.size = w.heap.size + 1 := by simp
  have hq : ((w.alloc (.cells #[.int .i64 x, .int .i64 y] 69)).alloc (.cells #[.int .i64 x, .int .i64 y] 69)).heap[w.heap.size + 1]? = some (.cells #[.int .i64 x, .int .i64 y] 69 (0, 0)) := by rw [← e]; exact heap_alloc_new _ _
  refine bodyPost_ret (v := .agg #[.int .i64 x, .int .i64 y]) (results_cell_row (fn := Tryd.f107) (p := 2) (ty := 69) rfl _ _ (w.heap.size + 1) _ _ _ _ rfl hq Tryd.underlying69 rfl (by kernel_rfl)) rfl ?_
  exact ⟨rfl, ((Below.refl _ _).alloc (Nat.le_refl _) _).alloc (by simp) _⟩
theorem res_ct21 {P : Program} {fn : Func} {p u : Tmp} {ty : TypeId} (h : fn.results = #[.cell p ty, .tmp u]) (tmps : Array Value) (w : World) (g : Nat) (t : TypeId) (cs : Array Value) (fr : Nat × Nat) (d : TypeDesc) (v : Value)
    (hp : tmps.getD p undef = .pointer (some ⟨g, 0, none⟩)) (hv : tmps.getD u undef = v) (hg : w.heap[g]? = some (.cells cs t fr))
    (hu : P.underlying ty = some d) (hd : (match d with | .struct _ | .array _ _ => true | _ => false) = true) (hi : (P.info? ty).map (·.size) = some cs.size) :
    (results fn tmps).run P w = .ok (.tuple #[.agg cs, v]) w := by
  rw [results_cell_tmp h, hp, hv]
  simp [asAddr, run_loadVar_row w g t ty cs fr d hg hu hd hi]
set_option maxRecDepth 100000 in
set_option maxHeartbeats 1000000 in
theorem pafe21 (er : Bool) (wr : Int) (a : Option Addr) (n c : Nat) (x y : Int) (hw : 0 ≤ wr ∧ wr ≤ 1099511627776) (w : World) : Calls Tryd.prog 75 #[.agg #[.slice a n c, .bool er, .int .i64 wr], .iface 112 (.agg #[.int .i64 x, .int .i64 y])] w fun e w' => e = .returned (.tuple #[.agg #[.slice none 0 0, .bool true, .int .i64 (wr + 1)], .int .i64 1]) ∧ Below w.heap.size w w' := by
  have hw1 : IntKind.i64.wrap (wr + 1) = wr + 1 := IntWalk.i64_in _ (by omega)
  have TA := ta21 x y
  go_enter Tryd.func75, Tryd.ntmps75
  go_wp2_with fail
  have hq : (((w.alloc (.cells #[.slice a n c, .bool er, .int .i64 wr] 67)).alloc (.cells #[.slice none 0 0, .bool true, .int .i64 (wr + 1)] 67)).alloc (.cells #[.int .i64 x, .int .i64 y] 112)).heap[w.heap.size + 1]? = some (.cells #[.slice none 0 0, .bool true, .int .i64 (wr + 1)] 67 (0, 0)) := by
    rw [heap_alloc_old _ _ (by simp)]; exact heap_alloc2_new _ _ _
  refine bodyPost_ret (v := .tuple #[.agg #[.slice none 0 0, .bool true, .int .i64 (wr + 1)], .int .i64 1]) (res_ct21 (fn := Tryd.f75) (p := 4) (u := 5) (ty := 67) rfl _ _ (w.heap.size + 1) _ _ _ _ _ rfl rfl hq Tryd.underlying67 rfl (by kernel_rfl)) rfl ?_
  exact ⟨rfl, (((Below.refl _ _).alloc (Nat.le_refl _) _).alloc (by simp) _).alloc (by simp; omega) _⟩
set_option maxRecDepth 100000 in
set_option maxHeartbeats 4000000 in
theorem pafp21 (er : Bool) (wr : Int) (a a2 : Option Addr) (n c n2 c2 : Nat) (x y : Int) (L : List Int) (w : World) (hs : Seg w a2 L) (hn : Hid (L.length = n2)) (hnil : a2 = none → c2 = 0) (hl : n2 ≤ 140737488351232) : Calls Tryd.prog 75 #[.agg #[.slice a n c, .bool er, .int .i64 wr], .iface 110 (.agg #[.int .i64 x, .int .i64 y, .slice a2 n2 c2])] w fun e w' => (∃ ra rc, e = .returned (.tuple #[.agg #[.slice ra n2 rc, .bool false, .int .i64 wr], .int .i64 2]) ∧ Cl21 w' ra L rc w.heap.size) ∧ Below w.heap.size w w' := by
  have TB := tb21 x y a2 n2 c2
  have TC := tc21 x y a2 n2 c2
  obtain ⟨g, hg⟩ : ∃ g, g = w.heap.size := ⟨_, rfl⟩
  obtain ⟨w1, hw1⟩ : ∃ w1, w1 = ((w.alloc (.cells #[.slice a n c, .bool er, .int .i64 wr] 67)).alloc (.cells #[.slice none 0 0, .bool false, .int .i64 0] 67)).alloc (.cells #[.int .i64 x, .int .i64 y, .slice a2 n2 c2] 110) := ⟨_, rfl⟩
  have HW : Hid (((w.alloc (.cells #[.slice a n c, .bool er, .int .i64 wr] 67)).alloc (.cells #[.slice none 0 0, .bool false, .int .i64 0] 67)).alloc (.cells #[.int .i64 x, .int .i64 y, .slice a2 n2 c2] 110) = w1 ∧ w.heap.size = g) := ⟨hw1.symm, hg.symm⟩
  obtain ⟨u, hu⟩ : ∃ u, u = w1.drew := ⟨_, rfl⟩
  have HU : Hid (w1.drew = u) := hu.symm
  have hsz : u.heap.size = g + 3 := by rw [hu, hw1, hg]; simp [World.drew]
  have hbu : Below g w u := by rw [hu, hw1, hg]; exact ((((Below.refl _ _).alloc (Nat.le_refl _) _).alloc (by simp) _).alloc (by simp; omega) _).drew
  have q0 : u.heap[g]? = some (.cells #[.slice a n c, .bool er, .int .i64 wr] 67 (0, 0)) := by
    rw [hu]; show w1.heap[g]? = _
    rw [hw1, hg, heap_alloc_old _ _ (by simp; omega), heap_alloc_old _ _ (by simp)]; exact heap_alloc_new w _
  have q1 : u.heap[g + 1]? = some (.cells #[.slice none 0 0, .bool false, .int .i64 0] 67 (0, 0)) := by
    rw [hu]; show w1.heap[g + 1]? = _
    rw [hw1, hg, heap_alloc_old _ _ (by simp)]; exact heap_alloc2_new w _ _
  have q2 : u.heap[g + 2]? = some (.cells #[.int .i64 x, .int .i64 y, .slice a2 n2 c2] 110 (0, 0)) := by
    have e : ((w.alloc (.cells #[.slice a n c, .bool er, .int .i64 wr] 67)).alloc (.cells #[.slice none 0 0, .bool false, .int .i64 0] 67)).heap.size = g + 2 := by rw [hg]; simp
    rw [hu]; show w1.heap[g + 2]? = _
    rw [hw1, ← e]; exact heap_alloc_new _ _
  have HC := pcl21 a2 L n2 c2 u (hs.old (by rw [hg] at hbu; exact hbu)) hn hnil hl
  have HS : Hid (∀ V, Below (g + 3) u V → V.cell? ⟨g + 2, 2, none⟩ = some (.slice a2 n2 c2) ∧ V.cell? ⟨g, 2, none⟩ = some (.int .i64 wr)) := fun V hV => ⟨three_cell2 ((hV.block _ (by omega)).trans q2), three_cell2 ((hV.block _ (by omega)).trans q0)⟩
  have HQ1 : Hid (∀ V, Below (g + 3) u V → V.heap[g + 1]? = some (.cells #[.slice none 0 0, .bool false, .int .i64 0] 67 (0, 0))) := fun V hV => (hV.block _ (by omega)).trans q1
  have H1 := HS.out u (Below.refl _ _)
  have HH1 : Hid (u.cell? ⟨g + 2, 2, none⟩ = some (.slice a2 n2 c2) ∧ u.cell? ⟨g, 2, none⟩ = some (.int .i64 wr)) := H1
  have HBU : Hid (Below g w u ∧ u.heap.size = g + 3) := ⟨hbu, hsz⟩
  rw [hsz] at HC
  clear hs hnil hw1 hg hu hsz hbu q0 q1 q2 H1
  go_enter Tryd.func75, Tryd.ntmps75
  go_wp2_with fail
  (try rw [HW.out.1])
  (try rw [HW.out.2])
  refine plain_region16 (fun V => V.cell? ⟨g + 2, 2, none⟩ = some (.slice a2 n2 c2) ∧ V.cell? ⟨g, 2, none⟩ = some (.int .i64 wr)) 8 (by kernel_rfl) (by rw [HU.out]; exact HH1.out) (fun hHeld => ?_)
  rw [HU.out] at hHeld ⊢
  refine wpAnyK_take (i := 0) (v := .pointer (some ⟨g + 2, 2, none⟩)) rfl (by kernel_rfl) (by kernel_rfl) (by kernel_rfl) (by kernel_rfl) (fun _ _ _ h => h) (Or.inl ⟨by rfl, fun w hSw => by go_simp⟩) hHeld ?_
  simp only [List.getElem_toArray, List.getElem_cons_zero, Act.put, List.setIfInBounds_toArray, List.set_cons_zero, List.set_cons_succ]
  refine wpAnyK_take (i := 1) (v := .slice a2 n2 c2) rfl (by kernel_rfl) (by kernel_rfl) (by kernel_rfl) (by kernel_rfl) (fun _ _ _ h => h) (Or.inl ⟨by rfl, fun w hSw => by go_simp⟩) hHeld ?_
  simp only [List.getElem_toArray, List.getElem_cons_zero, List.getElem_cons_succ, Act.put, List.setIfInBounds_toArray, List.set_cons_zero, List.set_cons_succ]
  refine wpAnyK_take (i := 3) (v := .pointer (some ⟨g, 2, none⟩)) rfl (by kernel_rfl) (by kernel_rfl) (by kernel_rfl) (by kernel_rfl) (fun _ _ _ h => h) (Or.inl ⟨by rfl, fun w hSw => by go_simp⟩) hHeld ?_
  simp only [List.getElem_toArray, List.getElem_cons_zero, List.getElem_cons_succ, Act.put, List.setIfInBounds_toArray, List.set_cons_zero, List.set_cons_succ]
  refine wpAnyK_take (i := 4) (v := .int .i64 wr) rfl (by kernel_rfl) (by kernel_rfl) (by kernel_rfl) (by kernel_rfl) (fun _ _ _ h => h) (Or.inl ⟨by rfl, fun w hSw => by go_simp⟩) hHeld ?_
  simp only [List.getElem_toArray, List.getElem_cons_zero, List.getElem_cons_succ, Act.put, List.setIfInBounds_toArray, List.set_cons_zero, List.set_cons_succ]
  refine wpAnyK_one (i := 2) (by kernel_rfl) rfl (fun K hK => ?_)
  (try simp only [List.getElem_toArray, List.getElem_cons_zero, List.getElem_cons_succ, Act.put, List.setIfInBounds_toArray, List.set_cons_zero, List.set_cons_succ])
  go_simp
  refine HC.mono ?_
  rintro e w2 ⟨⟨ra, rc, rfl, hcl⟩, b2⟩
  have HB2 : Hid (Below (g + 3) u w2) := b2
  have S2 := HS.out w2 b2
  have p2 := HQ1.out w2 b2
  refine hK.out _ _ (fun _ => S2) (fun hHeld0 => ?_)
  have hHeld := hHeld0 (by decide)
  clear hHeld0 hK K
  (try simp only [List.getElem_toArray, List.getElem_cons_zero, List.getElem_cons_succ, Act.put, List.setIfInBounds_toArray, List.set_cons_zero, List.set_cons_succ])
  refine wpAnyK_take (i := 5) (v := .agg #[.slice ra n2 rc, .bool false, .int .i64 wr]) rfl (by kernel_rfl) (by kernel_rfl) (by kernel_rfl) (by kernel_rfl) (fun _ _ _ h => h) (Or.inl ⟨by rfl, fun w hSw => by go_simp⟩) hHeld ?_
  simp only [List.getElem_toArray, List.getElem_cons_zero, List.getElem_cons_succ, Act.put, List.setIfInBounds_toArray, List.set_cons_zero, List.set_cons_succ]
  have c20 := three_cell0 p2
  have c21 := three_cell1 p2
  have c22 := three_cell2 p2
  have f20 := three_free p2 0
  have f21 := three_free p2 1
  have f22 := three_free p2 2
  obtain ⟨w3, hw3⟩ : ∃ w3, w3 = ((w2.setCell ⟨g + 1, 0, none⟩ (.slice ra n2 rc)).setCell ⟨g + 1, 1, none⟩ (.bool false)).setCell ⟨g + 1, 2, none⟩ (.int .i64 wr) := ⟨_, rfl⟩
  have HW3 : Hid (((w2.setCell ⟨g + 1, 0, none⟩ (.slice ra n2 rc)).setCell ⟨g + 1, 1, none⟩ (.bool false)).setCell ⟨g + 1, 2, none⟩ (.int .i64 wr) = w3) := hw3.symm
  have p3 : w3.heap[g + 1]? = some (.cells #[.slice ra n2 rc, .bool false, .int .i64 wr] 67 (0, 0)) := by rw [hw3]; exact three_set2 (three_set1 (three_set0 p2 _) _) _
  have k3 : Kp (fun k => k = g + 1) w2 w3 := by rw [hw3]; exact kp_set3_21 _ _ _ _ _
  have hlt2 : g + 3 ≤ w2.heap.size := by have := HB2.out.size; have := HBU.out.2; omega
  have S3 : w3.cell? ⟨g + 2, 2, none⟩ = some (.slice a2 n2 c2) ∧ w3.cell? ⟨g, 2, none⟩ = some (.int .i64 wr) := ⟨(World.cell?_of_block (a := ⟨g + 2, 2, none⟩) (k3.block (g + 2) (by omega) (by omega))).trans S2.1, (World.cell?_of_block (a := ⟨g, 2, none⟩) (k3.block g (by omega) (by omega))).trans S2.2⟩
  have HS3 : Hid (w3.cell? ⟨g + 2, 2, none⟩ = some (.slice a2 n2 c2) ∧ w3.cell? ⟨g, 2, none⟩ = some (.int .i64 wr)) := S3
  have HK3 : Hid (Kp (fun k => k = g + 1) w2 w3) := k3
  clear hw3 S3 k3
  refine wpAnyK_one (i := 6) (by kernel_rfl) rfl (fun K hK => ?_)
  (try simp only [List.getElem_toArray, List.getElem_cons_zero, List.getElem_cons_succ, Act.put, List.setIfInBounds_toArray, List.set_cons_zero, List.set_cons_succ])
  go_simp
  rw [HW3.out]
  refine hK.out _ _ (fun _ => HS3.out) (fun hHeld0 => ?_)
  have hHeld := hHeld0 (by decide)
  clear hHeld0 hK K
  (try simp only [List.getElem_toArray, List.getElem_cons_zero, List.getElem_cons_succ, Act.put, List.setIfInBounds_toArray, List.set_cons_zero, List.set_cons_succ])
  refine wpAnyK_take (i := 7) (v := .int .i64 2) rfl (by kernel_rfl) (by kernel_rfl) (by kernel_rfl) (by kernel_rfl) (fun _ _ _ h => h) (Or.inl ⟨by rfl, fun w hSw => by go_simp⟩) hHeld ?_
  simp only [List.getElem_toArray, List.getElem_cons_zero, List.getElem_cons_succ, Act.put, List.setIfInBounds_toArray, List.set_cons_zero, List.set_cons_succ]
  refine wpAnyK_done (by kernel_rfl) ?_ _
  have d30 := three_cell0 p3
  have d31 := three_cell1 p3
  have d32 := three_cell2 p3
  have f30 := three_free p3 0
  have f31 := three_free p3 1
  have f32 := three_free p3 2
  go_wp2_with fail
  have hq := three_set2 (three_set1 (three_set0 p3 (.slice ra n2 rc)) (.bool false)) (.int .i64 wr)
  refine bodyPost_ret (v := .tuple #[.agg #[.slice ra n2 rc, .bool false, .int .i64 wr], .int .i64 2]) (res_ct21 (fn := Tryd.f75) (p := 4) (u := 5) (ty := 67) rfl _ _ (g + 1) _ _ _ _ _ rfl rfl hq Tryd.underlying67 rfl (by kernel_rfl)) rfl ?_
  have kk := HK3.out.trans (kp_set3_21 w3 (g + 1) (.slice ra n2 rc) (.bool false) (.int .i64 wr)) (fun _ _ e => e)
  rw [HW.out.2]
  refine ⟨⟨ra, rc, rfl, ?_⟩, (HBU.out.1.trans (HB2.out.mono (by omega))).trans (kk.below (fun i e => by omega) (by omega))⟩
  obtain ⟨h1, h2, h3, h4⟩ := hcl
  refine ⟨h1.kp kk (fun k off e hl => ?_), ?_, h3, h4⟩
  · rcases h2 with h2 | ⟨j, h2, h5, h6⟩
    · rw [h2] at e; cases e
    · rw [h2] at e; cases e; show ¬ _ = g + 1; omega
  · rcases h2 with h2 | ⟨j, h2, h5, h6⟩
    · exact .inl h2
    · exact .inr ⟨j, h2, by omega, Nat.lt_of_lt_of_le h6 kk.size⟩
end Go.Proofs.YtjoghmdjnkdokaaDoor
