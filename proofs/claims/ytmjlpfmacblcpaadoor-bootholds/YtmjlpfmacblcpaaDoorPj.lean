import Derived.Test.YtmjlpfmacblcpaaDoorPi
import Derived.Laws.ResultCell
import Derived.Deep.AppendLies
namespace Go.Proofs.YtmjlpfmacblcpaaDoor
open Go.RowKit Go.Shelf
set_option linter.unusedVariables false
set_option linter.unusedSimpArgs false
def la21 (pg : Nat) (L1 L2 : List Int) : List Int := sp21 (sp21 (List.replicate pg 255) 0 L2) 0 L1
theorem la21_len (pg : Nat) (L1 L2 : List Int) (h1 : L1.length ≤ pg) (h2 : L2.length ≤ pg) : (la21 pg L1 L2).length = pg := by
  unfold la21
  have e : (sp21 (List.replicate pg 255) 0 L2).length = pg := by rw [sp21_len _ _ _ (by simp; omega)]; simp
  rw [sp21_len _ _ _ (by rw [e]; omega), e]
theorem sp21_mem {X cs : List Int} {off : Nat} {z : Int} (h : z ∈ sp21 X off cs) : z ∈ X ∨ z ∈ cs := by
  unfold sp21 at h
  rcases List.mem_append.1 h with h | h
  · rcases List.mem_append.1 h with h | h
    · exact .inl (List.mem_of_mem_take h)
    · exact .inr h
  · exact .inl (List.mem_of_mem_drop h)
theorem la21_bd (pg : Nat) (L1 L2 : List Int) (h1 : ∀ y ∈ L1, 0 ≤ y ∧ y ≤ 255) (h2 : ∀ y ∈ L2, 0 ≤ y ∧ y ≤ 255) : ∀ y ∈ la21 pg L1 L2, 0 ≤ y ∧ y ≤ 255 := by
  intro y hy
  rcases sp21_mem hy with h | h
  · rcases sp21_mem h with h | h
    · rw [List.eq_of_mem_replicate h]; decide
    · exact h2 y h
  · exact h1 y h
set_option maxRecDepth 100000 in
set_option maxHeartbeats 4000000 in
theorem plaid21 (b pg : Nat) (w : World) (c0 : w.cell? ⟨b, 0, none⟩ = some (.int .i64 (pg : Int))) (hpg : pg ≤ 4096) (a1 a2 : Option Addr) (L1 L2 : List Int) (k1 k2 n1 n2 : Nat) (er : Bool) (wr : Int)
    (s1 : Seg w a1 L1) (s2 : Seg w a2 L2) (e1 : Hid (L1.length = n1)) (e2 : Hid (L2.length = n2)) (l1 : n1 ≤ pg) (l2 : n2 ≤ pg) :
    Calls Tryd.prog 95 #[.pointer (some ⟨b, 0, none⟩), .slice a1 n1 k1, .agg #[.slice a2 n2 k2, .bool er, .int .i64 wr]] w fun e w' => (∃ g, e = .returned (.slice (some ⟨g, 0, none⟩) pg pg) ∧ w.heap.size ≤ g ∧ Rw21 w' g (la21 pg L1 L2)) ∧ Below w.heap.size w w' := by
  have hlt : b < w.heap.size := World.block_lt_of_cell? w _ c0
  obtain ⟨w1, hw1⟩ : ∃ w1, w1 = (w.alloc (.cells #[.slice a2 n2 k2, .bool er, .int .i64 wr] 89)).alloc (.cells #[.int .u8 255] 5) := ⟨_, rfl⟩
  have HW : Hid ((w.alloc (.cells #[.slice a2 n2 k2, .bool er, .int .i64 wr] 89)).alloc (.cells #[.int .u8 255] 5) = w1) := hw1.symm
  have hb1 : Below w.heap.size w w1 := by rw [hw1]; exact ((Below.refl _ _).alloc (Nat.le_refl _) _).alloc (by simp) _
  have hsz : w1.heap.size = w.heap.size + 2 := by rw [hw1]; simp
  have q0 : w1.heap[w.heap.size]? = some (.cells #[.slice a2 n2 k2, .bool er, .int .i64 wr] 89 (0, 0)) := by rw [hw1, heap_alloc_old _ _ (by simp)]; exact heap_alloc_new w _
  have q1 : w1.heap[w.heap.size + 1]? = some (.cells #[.int .u8 255] 5 (0, 0)) := by
    have e : (w.alloc (.cells #[.slice a2 n2 k2, .bool er, .int .i64 wr] 89)).heap.size = w.heap.size + 1 := by simp
    rw [hw1, ← e]; exact heap_alloc_new _ _
  have sq : Seg w1 (some ⟨w.heap.size + 1, 0, none⟩) [255] := seg_row21 (X := [255]) (by simpa using q1) (by simp)
  have HR := prep21 (some ⟨w.heap.size + 1, 0, none⟩) 1 pg 255 w1 sq (by omega)
  obtain ⟨g, hg⟩ : ∃ g, g = w1.heap.size := ⟨_, rfl⟩
  have HG : Hid (g = w.heap.size + 2) := by show g = _; omega
  rw [← hg] at HR
  have s1' := s1.old hb1
  have s2' := s2.old hb1
  have z1 : ∀ V : World, Below g w1 V → Seg V a1 L1 := fun V hV => s1'.old (by rw [← hg]; exact hV)
  have z2 : ∀ V : World, Below g w1 V → Seg V a2 L2 := fun V hV => s2'.old (by rw [← hg]; exact hV)
  have z3 : ∀ V : World, Below g w1 V → V.cell? ⟨w.heap.size, 0, none⟩ = some (.slice a2 n2 k2) := fun V hV => three_cell0 ((hV.block _ (by have := HG.out; omega)).trans q0)
  have HZ1 : Hid (∀ V : World, Below g w1 V → Seg V a1 L1) := z1
  have HZ2 : Hid (∀ V : World, Below g w1 V → Seg V a2 L2) := z2
  have HZ3 : Hid (∀ V : World, Below g w1 V → V.cell? ⟨w.heap.size, 0, none⟩ = some (.slice a2 n2 k2)) := z3
  have HB : Hid (Below w.heap.size w w1) := hb1
  have r1 : (sp21 (List.replicate pg 255) 0 L2).length = pg := by rw [sp21_len _ _ _ (by rw [e2.out]; simp; omega)]; simp
  have HR1 : Hid ((sp21 (List.replicate pg 255) 0 L2).length = pg) := r1
  have HGS : Hid (g = w1.heap.size) := hg
  clear z1 z2 z3 s1 s2 s1' s2' sq q0 q1 hw1 hsz hb1 hg r1
  go_enter Tryd.func95, Tryd.ntmps95
  go_wp2_with fail
  rw [HW.out]
  refine HR.mono ?_
  rintro e w2 ⟨rfl, ⟨X, hX⟩, b2⟩
  have z3 := HZ3.out w2 b2
  have z2 := HZ2.out w2 b2
  have HX : Hid (w2.heap[g]? = some (.cells ((List.replicate pg 255 ++ X).map (Value.int .u8)).toArray 5 (0, 0))) := hX
  clear hX HR
  go_wp2_with (first
    | (refine wpList_copy21 rfl (.tmp 15) (.tmp 17) 22 22 rfl 5 Tryd.underlying22 size_y21 rfl rfl g 0 (List.replicate pg 255 ++ X) 5 HX.out L2 n2 e2.out (by show n2 = min _ _; omega) (fun _ => ⟨rfl, z2⟩) (by simp; omega) ?_; intro w3 h3 k3; have b3 : Below g w1 w3 := b2.trans (k3.below (fun i e => by omega) (by have := b2.size; have := HGS.out; omega)); have z1 := HZ1.out w3 b3)
    | (refine wpList_copy21 rfl (.tmp 19) (.tmp 20) 22 22 rfl 5 Tryd.underlying22 size_y21 rfl rfl g 0 (sp21 (List.replicate pg 255 ++ X) 0 L2) 5 h3.out L1 n1 e1.out (by show n1 = min _ _; omega) (fun _ => ⟨rfl, z1⟩) (by rw [sp21_app _ _ _ _ (by rw [e2.out]; simp; omega), List.length_append, HR1.out]; omega) ?_; intro w4 h4 k4; have b4 : Below g w1 w4 := b3.trans (k4.below (fun i e => by omega) (by have := b3.size; have := HGS.out; omega))))
  go_ret
  refine ⟨⟨g, rfl, by have := HG.out; omega, X, ?_⟩, HB.out.trans (b4.mono (by have := HG.out; omega))⟩
  have e := h4.out
  rw [sp21_app _ _ _ _ (by rw [e2.out]; simp; omega), sp21_app _ _ _ _ (by rw [HR1.out, e1.out]; omega)] at e
  exact e
end Go.Proofs.YtmjlpfmacblcpaaDoor

namespace Go.Proofs.YtmjlpfmacblcpaaDoor
open Go.RowKit Go.Shelf
set_option linter.unusedVariables false
set_option linter.unusedSimpArgs false
theorem mte21 (x y : Int) (w : World) : (method 345 168 (.agg #[.int .i64 x, .int .i64 y]) "sapper/flash.where").run Tryd.prog w = .ok (149, .agg #[.int .i64 x, .int .i64 y]) w := by kernel_rfl
theorem mtp21 (x y : Int) (a : Option Addr) (n c : Nat) (w : World) : (method 345 166 (.agg #[.int .i64 x, .int .i64 y, .slice a n c]) "sapper/flash.where").run Tryd.prog w = .ok (149, .agg #[.int .i64 x, .int .i64 y]) w := by kernel_rfl
theorem ta21 (x y : Int) (W : World) : (Instr.typeAssert (.iface 168 (.agg #[.int .i64 x, .int .i64 y])) 202 168 true).run Tryd.prog W = .ok (.tuple #[.agg #[.int .i64 x, .int .i64 y], .bool true]) W := by kernel_rfl
theorem tb21 (x y : Int) (a : Option Addr) (n c : Nat) (W : World) : (Instr.typeAssert (.iface 166 (.agg #[.int .i64 x, .int .i64 y, .slice a n c])) 202 168 true).run Tryd.prog W = .ok (.tuple #[.agg #[.int .i64 0, .int .i64 0], .bool false]) W := by kernel_rfl
theorem tc21 (x y : Int) (a : Option Addr) (n c : Nat) (W : World) : (Instr.typeAssert (.iface 166 (.agg #[.int .i64 x, .int .i64 y, .slice a n c])) 202 166 true).run Tryd.prog W = .ok (.tuple #[.agg #[.int .i64 x, .int .i64 y, .slice a n c], .bool true]) W := by kernel_rfl
set_option maxRecDepth 100000 in
set_option maxHeartbeats 1000000 in
theorem pwh21 (x y : Int) (w : World) : Calls Tryd.prog 149 #[.agg #[.int .i64 x, .int .i64 y]] w fun e w' => e = .returned (.agg #[.int .i64 x, .int .i64 y]) ∧ Below w.heap.size w w' := by
  go_enter Tryd.func149, Tryd.ntmps149
  go_wp2_with fail
  have e : (w.alloc (.cells #[.int .i64 x, .int .i64 y] 98)).heap.size = w.heap.size + 1 := by simp
  have hq : ((w.alloc (.cells #[.int .i64 x, .int .i64 y] 98)).alloc (.cells #[.int .i64 x, .int .i64 y] 98)).heap[w.heap.size + 1]? = some (.cells #[.int .i64 x, .int .i64 y] 98 (0, 0)) := by rw [← e]; exact heap_alloc_new _ _
  refine bodyPost_ret (v := .agg #[.int .i64 x, .int .i64 y]) (results_cell_row (fn := Tryd.f149) (p := 2) (ty := 98) rfl _ _ (w.heap.size + 1) _ _ _ _ rfl hq Tryd.underlying98 rfl (by kernel_rfl)) rfl ?_
  exact ⟨rfl, ((Below.refl _ _).alloc (Nat.le_refl _) _).alloc (by simp) _⟩
theorem res_ct21 {P : Program} {fn : Func} {p u : Tmp} {ty : TypeId} (h : fn.results = #[.cell p ty, .tmp u]) (tmps : Array Value) (w : World) (g : Nat) (t : TypeId) (cs : Array Value) (fr : Nat × Nat) (d : TypeDesc) (v : Value)
    (hp : tmps.getD p undef = .pointer (some ⟨g, 0, none⟩)) (hv : tmps.getD u undef = v) (hg : w.heap[g]? = some (.cells cs t fr))
    (hu : P.underlying ty = some d) (hd : (match d with | .struct _ | .array _ _ => true | _ => false) = true) (hi : (P.info? ty).map (·.size) = some cs.size) :
    (results fn tmps).run P w = .ok (.tuple #[.agg cs, v]) w := by
  rw [results_cell_tmp h, hp, hv]
  simp [asAddr, run_loadVar_row w g t ty cs fr d hg hu hd hi]
set_option maxRecDepth 100000 in
set_option maxHeartbeats 1000000 in
theorem pafe21 (er : Bool) (wr : Int) (a : Option Addr) (n c : Nat) (x y : Int) (hw : 0 ≤ wr ∧ wr ≤ 1099511627776) (w : World) : Calls Tryd.prog 115 #[.agg #[.slice a n c, .bool er, .int .i64 wr], .iface 168 (.agg #[.int .i64 x, .int .i64 y])] w fun e w' => e = .returned (.tuple #[.agg #[.slice none 0 0, .bool true, .int .i64 (wr + 1)], .int .i64 1]) ∧ Below w.heap.size w w' := by
  have hw1 : IntKind.i64.wrap (wr + 1) = wr + 1 := IntWalk.i64_in _ (by omega)
  have TA := ta21 x y
  go_enter Tryd.func115, Tryd.ntmps115
  go_wp2_with fail
  have hq : (((w.alloc (.cells #[.slice a n c, .bool er, .int .i64 wr] 89)).alloc (.cells #[.slice none 0 0, .bool true, .int .i64 (wr + 1)] 89)).alloc (.cells #[.int .i64 x, .int .i64 y] 168)).heap[w.heap.size + 1]? = some (.cells #[.slice none 0 0, .bool true, .int .i64 (wr + 1)] 89 (0, 0)) := by
    rw [heap_alloc_old _ _ (by simp)]; exact heap_alloc2_new _ _ _
  refine bodyPost_ret (v := .tuple #[.agg #[.slice none 0 0, .bool true, .int .i64 (wr + 1)], .int .i64 1]) (res_ct21 (fn := Tryd.f115) (p := 4) (u := 5) (ty := 89) rfl _ _ (w.heap.size + 1) _ _ _ _ _ rfl rfl hq Tryd.underlying89 rfl (by kernel_rfl)) rfl ?_
  exact ⟨rfl, (((Below.refl _ _).alloc (Nat.le_refl _) _).alloc (by simp) _).alloc (by simp; omega) _⟩
set_option maxRecDepth 100000 in
set_option maxHeartbeats 4000000 in
theorem pafp21 (er : Bool) (wr : Int) (a a2 : Option Addr) (n c n2 c2 : Nat) (x y : Int) (L : List Int) (w : World) (hs : Seg w a2 L) (hn : Hid (L.length = n2)) (hnil : a2 = none → c2 = 0) (hl : n2 ≤ 140737488351232) : Calls Tryd.prog 115 #[.agg #[.slice a n c, .bool er, .int .i64 wr], .iface 166 (.agg #[.int .i64 x, .int .i64 y, .slice a2 n2 c2])] w fun e w' => (∃ ra rc, e = .returned (.tuple #[.agg #[.slice ra n2 rc, .bool false, .int .i64 wr], .int .i64 2]) ∧ Cl21 w' ra L rc w.heap.size) ∧ Below w.heap.size w w' := by
  have TB := tb21 x y a2 n2 c2
  have TC := tc21 x y a2 n2 c2
  obtain ⟨g, hg⟩ : ∃ g, g = w.heap.size := ⟨_, rfl⟩
  obtain ⟨w1, hw1⟩ : ∃ w1, w1 = ((w.alloc (.cells #[.slice a n c, .bool er, .int .i64 wr] 89)).alloc (.cells #[.slice none 0 0, .bool false, .int .i64 0] 89)).alloc (.cells #[.int .i64 x, .int .i64 y, .slice a2 n2 c2] 166) := ⟨_, rfl⟩
  have HW : Hid (((w.alloc (.cells #[.slice a n c, .bool er, .int .i64 wr] 89)).alloc (.cells #[.slice none 0 0, .bool false, .int .i64 0] 89)).alloc (.cells #[.int .i64 x, .int .i64 y, .slice a2 n2 c2] 166) = w1 ∧ w.heap.size = g) := ⟨hw1.symm, hg.symm⟩
  obtain ⟨u, hu⟩ : ∃ u, u = w1.drew := ⟨_, rfl⟩
  have HU : Hid (w1.drew = u) := hu.symm
  have hsz : u.heap.size = g + 3 := by rw [hu, hw1, hg]; simp [World.drew]
  have hbu : Below g w u := by rw [hu, hw1, hg]; exact ((((Below.refl _ _).alloc (Nat.le_refl _) _).alloc (by simp) _).alloc (by simp; omega) _).drew
  have q0 : u.heap[g]? = some (.cells #[.slice a n c, .bool er, .int .i64 wr] 89 (0, 0)) := by
    rw [hu]; show w1.heap[g]? = _
    rw [hw1, hg, heap_alloc_old _ _ (by simp; omega), heap_alloc_old _ _ (by simp)]; exact heap_alloc_new w _
  have q1 : u.heap[g + 1]? = some (.cells #[.slice none 0 0, .bool false, .int .i64 0] 89 (0, 0)) := by
    rw [hu]; show w1.heap[g + 1]? = _
    rw [hw1, hg, heap_alloc_old _ _ (by simp)]; exact heap_alloc2_new w _ _
  have q2 : u.heap[g + 2]? = some (.cells #[.int .i64 x, .int .i64 y, .slice a2 n2 c2] 166 (0, 0)) := by
    have e : ((w.alloc (.cells #[.slice a n c, .bool er, .int .i64 wr] 89)).alloc (.cells #[.slice none 0 0, .bool false, .int .i64 0] 89)).heap.size = g + 2 := by rw [hg]; simp
    rw [hu]; show w1.heap[g + 2]? = _
    rw [hw1, ← e]; exact heap_alloc_new _ _
  have HC := pcl21 a2 L n2 c2 u (hs.old (by rw [hg] at hbu; exact hbu)) hn hnil hl
  have HS : Hid (∀ V, Below (g + 3) u V → V.cell? ⟨g + 2, 2, none⟩ = some (.slice a2 n2 c2) ∧ V.cell? ⟨g, 2, none⟩ = some (.int .i64 wr)) := fun V hV => ⟨three_cell2 ((hV.block _ (by omega)).trans q2), three_cell2 ((hV.block _ (by omega)).trans q0)⟩
  have HQ1 : Hid (∀ V, Below (g + 3) u V → V.heap[g + 1]? = some (.cells #[.slice none 0 0, .bool false, .int .i64 0] 89 (0, 0))) := fun V hV => (hV.block _ (by omega)).trans q1
  have H1 := HS.out u (Below.refl _ _)
  have HH1 : Hid (u.cell? ⟨g + 2, 2, none⟩ = some (.slice a2 n2 c2) ∧ u.cell? ⟨g, 2, none⟩ = some (.int .i64 wr)) := H1
  have HBU : Hid (Below g w u ∧ u.heap.size = g + 3) := ⟨hbu, hsz⟩
  rw [hsz] at HC
  clear hs hnil hw1 hg hu hsz hbu q0 q1 q2 H1
  go_enter Tryd.func115, Tryd.ntmps115
  go_wp2_with fail
  (try rw [HW.out.1])
  (try rw [HW.out.2])
  refine plain_region16 (fun V => V.cell? ⟨g + 2, 2, none⟩ = some (.slice a2 n2 c2) ∧ V.cell? ⟨g, 2, none⟩ = some (.int .i64 wr)) 8 (by kernel_rfl) (by rw [HU.out]; exact HH1.out) (fun hHeld => ?_)
  rw [HU.out] at hHeld ⊢
  refine wpAnyK_take (i := 0) (v := .pointer (some ⟨g + 2, 2, none⟩)) rfl (by kernel_rfl) (by kernel_rfl) (by kernel_rfl) (by kernel_rfl) (fun _ _ _ h => h) (Or.inl ⟨by rfl, fun w hSw => by go_simp⟩) hHeld ?_
  simp only [List.getElem_toArray, List.getElem_cons_zero, Act.put, List.setIfInBounds_toArray, List.set_cons_zero, List.set_cons_succ]
  refine wpAnyK_take (i := 1) (v := .slice a2 n2 c2) rfl (by kernel_rfl) (by kernel_rfl) (by kernel_rfl) (by kernel_rfl) (fun _ _ _ h => h) (Or.inl ⟨by rfl, fun w hSw => by go_simp⟩) hHeld ?_
  simp only [List.getElem_toArray, List.getElem_cons_zero, List.getElem_cons_succ, Act.put, List.setIfInBounds_toArray, List.set_cons_zero, List.set_cons_succ]
  refine wpAnyK_take (i := 3) (v := .pointer (some ⟨g, 2, none⟩)) rfl (by kernel_rfl) (by kernel_rfl) (by kernel_rfl) (by kernel_rfl) (fun _ _ _ h => h) (Or.inl ⟨by rfl, fun w hSw => by go_simp⟩) hHeld ?_
  simp only [List.getElem_toArray, List.getElem_cons_zero, List.getElem_cons_succ, Act.put, List.setIfInBounds_toArray, List.set_cons_zero, List.set_cons_succ]
  refine wpAnyK_take (i := 4) (v := .int .i64 wr) rfl (by kernel_rfl) (by kernel_rfl) (by kernel_rfl) (by kernel_rfl) (fun _ _ _ h => h) (Or.inl ⟨by rfl, fun w hSw => by go_simp⟩) hHeld ?_
  simp only [List.getElem_toArray, List.getElem_cons_zero, List.getElem_cons_succ, Act.put, List.setIfInBounds_toArray, List.set_cons_zero, List.set_cons_succ]
  refine wpAnyK_one (i := 2) (by kernel_rfl) rfl (fun K hK => ?_)
  (try simp only [List.getElem_toArray, List.getElem_cons_zero, List.getElem_cons_succ, Act.put, List.setIfInBounds_toArray, List.set_cons_zero, List.set_cons_succ])
  go_simp
  refine HC.mono ?_
  rintro e w2 ⟨⟨ra, rc, rfl, hcl⟩, b2⟩
  have HB2 : Hid (Below (g + 3) u w2) := b2
  have S2 := HS.out w2 b2
  have p2 := HQ1.out w2 b2
  refine hK.out _ _ (fun _ => S2) (fun hHeld0 => ?_)
  have hHeld := hHeld0 (by decide)
  clear hHeld0 hK K
  (try simp only [List.getElem_toArray, List.getElem_cons_zero, List.getElem_cons_succ, Act.put, List.setIfInBounds_toArray, List.set_cons_zero, List.set_cons_succ])
  refine wpAnyK_take (i := 5) (v := .agg #[.slice ra n2 rc, .bool false, .int .i64 wr]) rfl (by kernel_rfl) (by kernel_rfl) (by kernel_rfl) (by kernel_rfl) (fun _ _ _ h => h) (Or.inl ⟨by rfl, fun w hSw => by go_simp⟩) hHeld ?_
  simp only [List.getElem_toArray, List.getElem_cons_zero, List.getElem_cons_succ, Act.put, List.setIfInBounds_toArray, List.set_cons_zero, List.set_cons_succ]
  have c20 := three_cell0 p2
  have c21 := three_cell1 p2
  have c22 := three_cell2 p2
  have f20 := three_free p2 0
  have f21 := three_free p2 1
  have f22 := three_free p2 2
  obtain ⟨w3, hw3⟩ : ∃ w3, w3 = ((w2.setCell ⟨g + 1, 0, none⟩ (.slice ra n2 rc)).setCell ⟨g + 1, 1, none⟩ (.bool false)).setCell ⟨g + 1, 2, none⟩ (.int .i64 wr) := ⟨_, rfl⟩
  have HW3 : Hid (((w2.setCell ⟨g + 1, 0, none⟩ (.slice ra n2 rc)).setCell ⟨g + 1, 1, none⟩ (.bool false)).setCell ⟨g + 1, 2, none⟩ (.int .i64 wr) = w3) := hw3.symm
  have p3 : w3.heap[g + 1]? = some (.cells #[.slice ra n2 rc, .bool false, .int .i64 wr] 89 (0, 0)) := by rw [hw3]; exact three_set2 (three_set1 (three_set0 p2 _) _) _
  have k3 : Kp (fun k => k = g + 1) w2 w3 := by rw [hw3]; exact kp_set3_21 _ _ _ _ _
  have hlt2 : g + 3 ≤ w2.heap.size := by have := HB2.out.size; have := HBU.out.2; omega
  have S3 : w3.cell? ⟨g + 2, 2, none⟩ = some (.slice a2 n2 c2) ∧ w3.cell? ⟨g, 2, none⟩ = some (.int .i64 wr) := ⟨(World.cell?_of_block (a := ⟨g + 2, 2, none⟩) (k3.block (g + 2) (by omega) (by omega))).trans S2.1, (World.cell?_of_block (a := ⟨g, 2, none⟩) (k3.block g (by omega) (by omega))).trans S2.2⟩
  have HS3 : Hid (w3.cell? ⟨g + 2, 2, none⟩ = some (.slice a2 n2 c2) ∧ w3.cell? ⟨g, 2, none⟩ = some (.int .i64 wr)) := S3
  have HK3 : Hid (Kp (fun k => k = g + 1) w2 w3) := k3
  clear hw3 S3 k3
  refine wpAnyK_one (i := 6) (by kernel_rfl) rfl (fun K hK => ?_)
  (try simp only [List.getElem_toArray, List.getElem_cons_zero, List.getElem_cons_succ, Act.put, List.setIfInBounds_toArray, List.set_cons_zero, List.set_cons_succ])
  go_simp
  rw [HW3.out]
  refine hK.out _ _ (fun _ => HS3.out) (fun hHeld0 => ?_)
  have hHeld := hHeld0 (by decide)
  clear hHeld0 hK K
  (try simp only [List.getElem_toArray, List.getElem_cons_zero, List.getElem_cons_succ, Act.put, List.setIfInBounds_toArray, List.set_cons_zero, List.set_cons_succ])
  refine wpAnyK_take (i := 7) (v := .int .i64 2) rfl (by kernel_rfl) (by kernel_rfl) (by kernel_rfl) (by kernel_rfl) (fun _ _ _ h => h) (Or.inl ⟨by rfl, fun w hSw => by go_simp⟩) hHeld ?_
  simp only [List.getElem_toArray, List.getElem_cons_zero, List.getElem_cons_succ, Act.put, List.setIfInBounds_toArray, List.set_cons_zero, List.set_cons_succ]
  refine wpAnyK_done (by kernel_rfl) ?_ _
  have d30 := three_cell0 p3
  have d31 := three_cell1 p3
  have d32 := three_cell2 p3
  have f30 := three_free p3 0
  have f31 := three_free p3 1
  have f32 := three_free p3 2
  go_wp2_with fail
  have hq := three_set2 (three_set1 (three_set0 p3 (.slice ra n2 rc)) (.bool false)) (.int .i64 wr)
  refine bodyPost_ret (v := .tuple #[.agg #[.slice ra n2 rc, .bool false, .int .i64 wr], .int .i64 2]) (res_ct21 (fn := Tryd.f115) (p := 4) (u := 5) (ty := 89) rfl _ _ (g + 1) _ _ _ _ _ rfl rfl hq Tryd.underlying89 rfl (by kernel_rfl)) rfl ?_
  have kk := HK3.out.trans (kp_set3_21 w3 (g + 1) (.slice ra n2 rc) (.bool false) (.int .i64 wr)) (fun _ _ e => e)
  rw [HW.out.2]
  refine ⟨⟨ra, rc, rfl, ?_⟩, (HBU.out.1.trans (HB2.out.mono (by omega))).trans (kk.below (fun i e => by omega) (by omega))⟩
  obtain ⟨h1, h2, h3, h4⟩ := hcl
  refine ⟨h1.kp kk (fun k off e hl => ?_), ?_, h3, h4⟩
  · rcases h2 with h2 | ⟨j, h2, h5, h6⟩
    · rw [h2] at e; cases e
    · rw [h2] at e; cases e; show ¬ _ = g + 1; omega
  · rcases h2 with h2 | ⟨j, h2, h5, h6⟩
    · exact .inl h2
    · exact .inr ⟨j, h2, by omega, Nat.lt_of_lt_of_le h6 kk.size⟩
end Go.Proofs.YtmjlpfmacblcpaaDoor

namespace Go.Proofs.YtmjlpfmacblcpaaDoor
open Go.RowKit Go.Shelf
set_option linter.unusedVariables false
set_option linter.unusedSimpArgs false
def lgc21 (L : List (Int × Int × Int)) : List Value := L.flatMap fun o => [.int .i64 o.1, .int .i64 o.2.1, .int .i64 o.2.2]
theorem lgc21_app (L : List (Int × Int × Int)) (o : Int × Int × Int) : lgc21 (L ++ [o]) = lgc21 L ++ [.int .i64 o.1, .int .i64 o.2.1, .int .i64 o.2.2] := by simp [lgc21]
def Sl21 (w : World) (V : Nat → Prop) (a : Option Addr) (zs : List Int) (cap : Nat) : Prop := Seg w a zs ∧ (a = none ∨ ∃ k, a = some ⟨k, 0, none⟩ ∧ V k) ∧ (a = none → cap = 0) ∧ zs.length ≤ cap
def Sv21 (w : World) (V : Nat → Prop) (v : Value) (s : Sh21) : Prop := ∃ a cap, v = .agg #[.slice a s.b.length cap, .bool s.er, .int .i64 s.wr] ∧ Sl21 w V a s.b cap
def sh21 (S : Fs21) (x y : Int) : Sh21 := (S.pa x y).getD ⟨[], x == 2, 0⟩
structure Fi21 (w : World) (b m c : Nat) (f : Int → Int → Option Value) (ta : Option Addr) (tc : Nat) (la : Option Addr) (lc : Nat) (V : Nat → Prop) (S : Fs21) : Prop where
  hp : w.heap[b]? = some (.cells #[.int .i64 (S.pg : Int), .int .i64 (S.ps : Int), .int .i64 S.ac, .bool S.on, .int .i64 S.lm, .map (some m), .int .i64 S.lf, .slice ta S.tn.length tc, .slice la S.lg.length lc] 96 (0, 0))
  hm : Mv21 w m c f
  hf : ∀ x y, (S.pa x y = none ∧ f x y = none) ∨ (∃ s v, S.pa x y = some s ∧ f x y = some v ∧ Sv21 w V v s)
  ht : Sl21 w V ta S.tn tc
  hl : w.ownsRow 0 180 3 (.slice la S.lg.length lc) S.lg.length (lgc21 S.lg)
  hc : c ≤ 8200 + S.lg.length
  vb : ¬ V b
  vm : ¬ V m
  vl : ∀ k, (Value.slice la S.lg.length lc).ownBlock = some k → ¬ V k
  vs : ∀ k, V k → k < w.heap.size
structure Ok21 (S : Fs21) : Prop where
  pg : 64 ≤ S.pg ∧ S.pg ≤ 4096
  ps : 1 ≤ S.ps ∧ S.ps ≤ 4096
  ac : S.ac = 0 ∨ S.ac = 1
  lm : 0 ≤ S.lm ∧ S.lm ≤ 1099511627776
  lf : 0 ≤ S.lf ∧ S.lf ≤ 9223372036854775807
  tn : S.tn.length ≤ S.pg
  sh : ∀ x y s, S.pa x y = some s → s.b.length ≤ S.pg ∧ 0 ≤ s.wr ∧ s.wr ≤ 1099511627776 ∧ (s.er = true → s.b = [])
theorem sh21_ok {S : Fs21} (h : Ok21 S) (x y : Int) : (sh21 S x y).b.length ≤ S.pg ∧ 0 ≤ (sh21 S x y).wr ∧ (sh21 S x y).wr ≤ 1099511627776 := by
  unfold sh21
  cases e : S.pa x y with
  | none => simp
  | some s => have := h.sh x y s e; exact ⟨this.1, this.2.1, this.2.2.1⟩
section
variable {w w' : World} {b m c tc lc : Nat} {f : Int → Int → Option Value} {ta la : Option Addr} {V V' : Nat → Prop} {S : Fs21}
theorem Sl21.kp {a : Option Addr} {zs : List Int} {cap : Nat} (h : Sl21 w V a zs cap) (hk : ∀ k, V k → w'.heap[k]? = w.heap[k]?) (hv : ∀ k, V k → V' k) : Sl21 w' V' a zs cap := by
  obtain ⟨h1, h2, h3, h4⟩ := h
  refine ⟨?_, ?_, h3, h4⟩
  · refine h1.of_cells fun g off i v hi ha hcl => ?_
    rcases h2 with h2 | ⟨k, h2, h5⟩
    · rw [h2] at ha; cases ha
    · rw [h2] at ha; cases ha
      rw [World.cell?_of_block (a := ⟨g, 0 + i, none⟩) (hk g h5)]
      exact hcl
  · rcases h2 with h2 | ⟨k, h2, h5⟩
    · exact .inl h2
    · exact .inr ⟨k, h2, hv k h5⟩
theorem Sv21.kp {v : Value} {s : Sh21} (h : Sv21 w V v s) (hk : ∀ k, V k → w'.heap[k]? = w.heap[k]?) (hv : ∀ k, V k → V' k) : Sv21 w' V' v s := by
  obtain ⟨a, cap, h1, h2⟩ := h
  exact ⟨a, cap, h1, h2.kp hk hv⟩
theorem Fi21.bl (h : Fi21 w b m c f ta tc la lc V S) : b < w.heap.size := (Array.getElem?_eq_some_iff.1 h.hp).1
theorem Fi21.bm (h : Fi21 w b m c f ta tc la lc V S) : b ≠ m := fun e => h.hm.no (e ▸ h.hp)
theorem Fi21.lo (h : Fi21 w b m c f ta tc la lc V S) {k : Nat} (hk : (Value.slice la S.lg.length lc).ownBlock = some k) : k < w.heap.size ∧ k ≠ b ∧ k ≠ m := by
  rcases h.hl.2 with ⟨h1, h2⟩ | ⟨g, cap, cur, h1, h2, h3, h4⟩
  · rw [h1] at hk; cases hk
  · rw [h1] at hk
    simp [Value.ownBlock] at hk
    subst hk
    refine ⟨(Array.getElem?_eq_some_iff.1 h3).1, fun e => ?_, fun e => h.hm.no (e ▸ h3)⟩
    have := h.hp
    rw [← e, h3] at this
    simp at this
theorem Fi21.kp (h : Fi21 w b m c f ta tc la lc V S) (h1 : w'.heap[b]? = w.heap[b]?) (h2 : w'.heap[m]? = w.heap[m]?) (h3 : ∀ k, (Value.slice la S.lg.length lc).ownBlock = some k → w'.heap[k]? = w.heap[k]?) (h4 : ∀ k, V k → w'.heap[k]? = w.heap[k]?) (h5 : w.heap.size ≤ w'.heap.size) : Fi21 w' b m c f ta tc la lc V S := by
  refine ⟨h1.trans h.hp, h.hm.block h2, fun x y => ?_, h.ht.kp h4 (fun _ e => e), ?_, h.hc, h.vb, h.vm, h.vl, fun k e => Nat.lt_of_lt_of_le (h.vs k e) h5⟩
  · rcases h.hf x y with h | ⟨s, v, e1, e2, e3⟩
    · exact .inl h
    · exact .inr ⟨s, v, e1, e2, e3.kp h4 (fun _ e => e)⟩
  · refine ⟨h.hl.1, ?_⟩
    rcases h.hl.2 with q | ⟨g, cap, cur, q1, q2, q3, q4⟩
    · exact .inl q
    · exact .inr ⟨g, cap, cur, q1, q2, (h3 g (by rw [q1]; rfl)).trans q3, q4⟩
theorem Fi21.old (h : Fi21 w b m c f ta tc la lc V S) (hb : Below w.heap.size w w') : Fi21 w' b m c f ta tc la lc V S :=
  h.kp (hb.block b h.bl) (hb.block m h.hm.lt) (fun k e => hb.block k (h.lo e).1) (fun k e => hb.block k (h.vs k e)) hb.size
theorem Fi21.cel (h : Fi21 w b m c f ta tc la lc V S) {i : Nat} {v : Value} (hi : (#[.int .i64 (S.pg : Int), .int .i64 (S.ps : Int), .int .i64 S.ac, .bool S.on, .int .i64 S.lm, .map (some m), .int .i64 S.lf, .slice ta S.tn.length tc, .slice la S.lg.length lc] : Array Value)[i]? = some v) : w.cell? ⟨b, i, none⟩ = some v := by
  simp only [World.cell?, h.hp]; exact hi
theorem Fi21.fr (h : Fi21 w b m c f ta tc la lc V S) (i : Nat) : w.frozen? ⟨b, i, none⟩ = false := by simp [World.frozen?, h.hp]
theorem Fi21.sv (h : Fi21 w b m c f ta tc la lc V S) (x y : Int) : ∀ v, f x y = some v → ∃ a n cap er wr, v = .agg #[.slice a n cap, .bool er, .int .i64 wr] := fun v hv => by
  rcases h.hf x y with ⟨_, e⟩ | ⟨s, v', _, e2, a, cap, e3, _⟩
  · rw [e] at hv; cases hv
  · rw [e2] at hv; cases hv; exact ⟨_, _, _, _, _, e3⟩
theorem Fi21.shv (h : Fi21 w b m c f ta tc la lc V S) (x y : Int) : Sv21 w V (shv21 (f x y) x) (sh21 S x y) := by
  unfold sh21 shv21
  rcases h.hf x y with ⟨e1, e2⟩ | ⟨s, v, e1, e2, e3⟩
  · rw [e1, e2]
    exact ⟨none, 0, rfl, SegK.nil (by decide) _ _, .inl rfl, fun _ => rfl, by simp⟩
  · rw [e1, e2]; exact e3
end
theorem info_op21 : (Tryd.prog.info? 180).map (fun i => (i.zero, i.size, i.bytes)) = some (some (.agg #[.int .i64 0, .int .i64 0, .int .i64 0]), 3, 24) := by kernel_rfl
/-- An operation behind the log. -/
theorem run_log21 (w0 : World) (la : Option Addr) (n lc : Nat) (L : List (Int × Int × Int)) (hn : L.length = n) (k x y : Int) (hl : w0.ownsRow 0 180 3 (.slice la n lc) n (lgc21 L)) (hb : n ≤ 5500000002000) (ty : TypeId) :
    ∃ g cap w', (Builtin.append_ #[94, 94] ty #[.slice la n lc, .slice (some ⟨w0.heap.size, 0, none⟩) 1 1]).run Tryd.prog (w0.alloc (.cells #[.int .i64 k, .int .i64 x, .int .i64 y] 180)) = .ok (.slice (some ⟨g, 0, none⟩) (n + 1) cap) w' ∧
      w'.ownsRow 0 180 3 (.slice (some ⟨g, 0, none⟩) (n + 1) cap) (n + 1) (lgc21 (L ++ [(k, x, y)])) ∧ Kp (fun j => (Value.slice la n lc).ownBlock = some j) w0 w' ∧ ((Value.slice la n lc).ownBlock = some g ∨ w0.heap.size ≤ g) := by
  obtain ⟨i0, hi, hz0, hz1, hz2⟩ := info_parts info_op21
  have hnew : ∀ j u, ([.int .i64 k, .int .i64 x, .int .i64 y] : List Value)[j]? = some u → (w0.alloc (.cells #[.int .i64 k, .int .i64 x, .int .i64 y] 180)).cell? ((⟨w0.heap.size, 0, none⟩ : Addr).add j) = some u := by
    intro j u hu
    have hadd : (⟨w0.heap.size, 0, none⟩ : Addr).add j = ⟨w0.heap.size, j, none⟩ := by unfold Addr.add; split <;> simp_all
    rw [hadd]
    have hh := heap_alloc_new w0 (.cells #[.int .i64 k, .int .i64 x, .int .i64 y] 180)
    simp only [World.cell?, hh]
    simpa using hu
  obtain ⟨g, cap, w', h1, h2, h3, h4, h5⟩ := run_append_lies (P := Tryd.prog) (w := w0.alloc (.cells #[.int .i64 k, .int .i64 x, .int .i64 y] 180)) 94 ty 0 180 i0 _ 3 24 Tryd.underlying94 hi hz0 hz1 hz2 rfl (by decide) _ n _ (hl.alloc _) ⟨w0.heap.size, 0, none⟩ 1 1 [.int .i64 k, .int .i64 x, .int .i64 y] rfl hnew (by intro u hu; simp only [List.mem_cons, List.not_mem_nil, or_false] at hu; rcases hu with rfl | rfl | rfl <;> rfl) (by decide) (by unfold maxLen; omega) (by omega) (by omega) (w0.heap.size + 1) (by simp)
  refine ⟨g, cap, w', h1, by rw [lgc21_app]; exact h2, (Kp.alloc w0 _).trans (Kp.grown (S := fun j => (Value.slice la n lc).ownBlock = some j) h3 (fun i e => e)) (fun _ _ e => e), ?_⟩
  rcases h4 with h4 | h4
  · exact .inl h4
  · exact .inr (by omega)
end Go.Proofs.YtmjlpfmacblcpaaDoor
