import Derived.Test.YtmfpdchfofffeaaGreatDoorPh
import Derived.Test.YtmfpdchfofffeaaGreatDoorPj
import Derived.Laws.MakeOwn
import Derived.Laws.ResultCell
namespace Go.Proofs.YtmfpdchfofffeaaGreatDoor
open Go.RowKit Go.Shelf
set_option linter.unusedVariables false
set_option linter.unusedSimpArgs false
structure Mr20 (w : World) (gO b6 ga gx : Nat) (V : World) : Prop where
  o : V.heap[gO]? = some (.cells #[.slice none 0 0, .slice (some ⟨ga, 0, none⟩) 0 0, .slice (some ⟨gx, 0, none⟩) 0 0] 48 (0, 0))
  r : V.heap[b6]? = some (.cells #[.slice none 0 0, .slice none 0 0, .slice none 0 0] 48 (0, 0))
  bl : Below w.heap.size w V
theorem Mr20.kp {w : World} {gO b6 ga gx : Nat} {V V' : World} {E : Nat → Prop} (h : Mr20 w gO b6 ga gx V) (hk : Kp E V V') (h1 : ¬ E gO) (h2 : ¬ E b6) (hE : ∀ k, E k → w.heap.size ≤ k) : Mr20 w gO b6 ga gx V' :=
  ⟨hk.heap h.o h1, hk.heap h.r h2, h.bl.trans (hk.below hE h.bl.size)⟩
theorem results_ct20 {P : Program} {fn : Func} {p u : Tmp} {ty : TypeId} (h : fn.results = #[.cell p ty, .tmp u]) (tmps : Array Value) (w : World) (g : Nat) (t : TypeId) (cs : Array Value) (fr : Nat × Nat) (d : TypeDesc)
    (hp : tmps.getD p undef = .pointer (some ⟨g, 0, none⟩)) (hg : w.heap[g]? = some (.cells cs t fr))
    (hu : P.underlying ty = some d) (hd : (match d with | .struct _ | .array _ _ => true | _ => false) = true) (hi : (P.info? ty).map (·.size) = some cs.size) :
    (results fn tmps).run P w = .ok (.tuple #[.agg cs, tmps.getD u undef]) w := by
  have e : (results fn tmps).run P w = ((asAddr (tmps.getD p undef)).run P w).andThen fun a w₁ => ((loadVar ty a).run P w₁).andThen fun x w₂ => .ok (.tuple #[x, tmps.getD u undef]) w₂ := by
    simp only [results, h]
    simp [Sem.run_bind, Result.andThen]
  rw [e, hp]
  simp [asAddr, Result.andThen, run_loadVar_row w g t ty cs fr d hg hu hd hi]
set_option maxRecDepth 100000 in
theorem pcln20 (w : World) : Calls Tryz.prog 54 #[.slice none 0 0] w fun e w' => e = .returned (.slice none 0 0) ∧ w' = w := by
  have HE := Go.Lib.run_eql_slice_nil (P := Tryz.prog) w 46 108 none 0 0 0 0 Tryz.underlying46
  go_enter Tryz.func54, Tryz.ntmps54
  go_wp2_with fail
  go_ret
  exact ⟨rfl, rfl⟩
theorem mk020 (W : World) : ∃ W', (Instr.makeSlice 36 (.int .i64 0) (.int .i64 0)).run Tryz.prog W = .ok (.slice (some ⟨W.heap.size, 0, none⟩) 0 0) W' ∧ Below W.heap.size W W' := by
  obtain ⟨i0, hi0, hz0, hz1, hz2⟩ := info_parts info_u16
  obtain ⟨w3, hmk3, own3, gr3⟩ := run_make_own (P := Tryz.prog) W W.heap.size 36 5 i0 _ 1 Tryz.underlying36 hi0 hz0 hz1 .i64 .i64 0 (by rw [hz2]; omega) (by unfold maxLen; omega) (Nat.le_refl _)
  exact ⟨w3, hmk3, (Kp.grown (S := fun _ => False) gr3 (fun i e => by cases e)).below (fun _ h => h.elim) (Nat.le_refl _)⟩
section
variable {P : Program} {ops : Array Oper} {Q : Exit → Act → World → Prop} {md : Region.Mode} {S : World → Prop} {fin : Nat}
theorem wpAnyK_pair {i0 i1 : Nat} {fuel : Nat} {listed : Array Bool} {a : Act} {w : World} {o0 o1 : Oper} (hr : Region.ready md ops listed = [i0, i1]) (ho0 : ops[i0]? = some o0) (ho1 : ops[i1]? = some o1)
    (h0 : (∀ K' : Act → World → Prop, Shut (∀ a w, (i0 ≠ fin → S w) → ((i0 ≠ fin → S w) → wpAnyK P md ops Q S fin fuel (listed.setIfInBounds i0 true) a w) → K' a w) → if Region.wanted o0 (yielded ops a.tmps) = true then Oper.wp P o0 a w K' Q else K' (a.put o0.dst undef) w))
    (h1 : (∀ K' : Act → World → Prop, Shut (∀ a w, (i1 ≠ fin → S w) → ((i1 ≠ fin → S w) → wpAnyK P md ops Q S fin fuel (listed.setIfInBounds i1 true) a w) → K' a w) → if Region.wanted o1 (yielded ops a.tmps) = true then Oper.wp P o1 a w K' Q else K' (a.put o1.dst undef) w))
    : wpAnyK P md ops Q S fin (fuel + 1) listed a w :=
  ⟨fun h0 => (by rw [hr] at h0; cases h0), fun k hk => by
    rw [hr] at hk
    have : k = i0 ∨ k = i1 := by simpa using hk
    rcases this with rfl | rfl
    · exact wpOp_step ho0 (fun K' hK => h0 K' (fun a w hS hW => hK a w ⟨hS, hW hS⟩))
    · exact wpOp_step ho1 (fun K' hK => h1 K' (fun a w hS hW => hK a w ⟨hS, hW hS⟩))⟩
theorem wpAnyK_three {i0 i1 i2 : Nat} {fuel : Nat} {listed : Array Bool} {a : Act} {w : World} {o0 o1 o2 : Oper} (hr : Region.ready md ops listed = [i0, i1, i2]) (ho0 : ops[i0]? = some o0) (ho1 : ops[i1]? = some o1) (ho2 : ops[i2]? = some o2)
    (h0 : (∀ K' : Act → World → Prop, Shut (∀ a w, (i0 ≠ fin → S w) → ((i0 ≠ fin → S w) → wpAnyK P md ops Q S fin fuel (listed.setIfInBounds i0 true) a w) → K' a w) → if Region.wanted o0 (yielded ops a.tmps) = true then Oper.wp P o0 a w K' Q else K' (a.put o0.dst undef) w))
    (h1 : (∀ K' : Act → World → Prop, Shut (∀ a w, (i1 ≠ fin → S w) → ((i1 ≠ fin → S w) → wpAnyK P md ops Q S fin fuel (listed.setIfInBounds i1 true) a w) → K' a w) → if Region.wanted o1 (yielded ops a.tmps) = true then Oper.wp P o1 a w K' Q else K' (a.put o1.dst undef) w))
    (h2 : (∀ K' : Act → World → Prop, Shut (∀ a w, (i2 ≠ fin → S w) → ((i2 ≠ fin → S w) → wpAnyK P md ops Q S fin fuel (listed.setIfInBounds i2 true) a w) → K' a w) → if Region.wanted o2 (yielded ops a.tmps) = true then Oper.wp P o2 a w K' Q else K' (a.put o2.dst undef) w))
    : wpAnyK P md ops Q S fin (fuel + 1) listed a w :=
  ⟨fun h0 => (by rw [hr] at h0; cases h0), fun k hk => by
    rw [hr] at hk
    have : k = i0 ∨ k = i1 ∨ k = i2 := by simpa using hk
    rcases this with rfl | rfl | rfl
    · exact wpOp_step ho0 (fun K' hK => h0 K' (fun a w hS hW => hK a w ⟨hS, hW hS⟩))
    · exact wpOp_step ho1 (fun K' hK => h1 K' (fun a w hS hW => hK a w ⟨hS, hW hS⟩))
    · exact wpOp_step ho2 (fun K' hK => h2 K' (fun a w hS hW => hK a w ⟨hS, hW hS⟩))⟩
theorem wpAnyK_four {i0 i1 i2 i3 : Nat} {fuel : Nat} {listed : Array Bool} {a : Act} {w : World} {o0 o1 o2 o3 : Oper} (hr : Region.ready md ops listed = [i0, i1, i2, i3]) (ho0 : ops[i0]? = some o0) (ho1 : ops[i1]? = some o1) (ho2 : ops[i2]? = some o2) (ho3 : ops[i3]? = some o3)
    (h0 : (∀ K' : Act → World → Prop, Shut (∀ a w, (i0 ≠ fin → S w) → ((i0 ≠ fin → S w) → wpAnyK P md ops Q S fin fuel (listed.setIfInBounds i0 true) a w) → K' a w) → if Region.wanted o0 (yielded ops a.tmps) = true then Oper.wp P o0 a w K' Q else K' (a.put o0.dst undef) w))
    (h1 : (∀ K' : Act → World → Prop, Shut (∀ a w, (i1 ≠ fin → S w) → ((i1 ≠ fin → S w) → wpAnyK P md ops Q S fin fuel (listed.setIfInBounds i1 true) a w) → K' a w) → if Region.wanted o1 (yielded ops a.tmps) = true then Oper.wp P o1 a w K' Q else K' (a.put o1.dst undef) w))
    (h2 : (∀ K' : Act → World → Prop, Shut (∀ a w, (i2 ≠ fin → S w) → ((i2 ≠ fin → S w) → wpAnyK P md ops Q S fin fuel (listed.setIfInBounds i2 true) a w) → K' a w) → if Region.wanted o2 (yielded ops a.tmps) = true then Oper.wp P o2 a w K' Q else K' (a.put o2.dst undef) w))
    (h3 : (∀ K' : Act → World → Prop, Shut (∀ a w, (i3 ≠ fin → S w) → ((i3 ≠ fin → S w) → wpAnyK P md ops Q S fin fuel (listed.setIfInBounds i3 true) a w) → K' a w) → if Region.wanted o3 (yielded ops a.tmps) = true then Oper.wp P o3 a w K' Q else K' (a.put o3.dst undef) w))
    : wpAnyK P md ops Q S fin (fuel + 1) listed a w :=
  ⟨fun h0 => (by rw [hr] at h0; cases h0), fun k hk => by
    rw [hr] at hk
    have : k = i0 ∨ k = i1 ∨ k = i2 ∨ k = i3 := by simpa using hk
    rcases this with rfl | rfl | rfl | rfl
    · exact wpOp_step ho0 (fun K' hK => h0 K' (fun a w hS hW => hK a w ⟨hS, hW hS⟩))
    · exact wpOp_step ho1 (fun K' hK => h1 K' (fun a w hS hW => hK a w ⟨hS, hW hS⟩))
    · exact wpOp_step ho2 (fun K' hK => h2 K' (fun a w hS hW => hK a w ⟨hS, hW hS⟩))
    · exact wpOp_step ho3 (fun K' hK => h3 K' (fun a w hS hW => hK a w ⟨hS, hW hS⟩))⟩
end
theorem fin20 {w3 V : World} {g : Nat} {cs : Array Value} (B : Below w3.heap.size w3 V) (h : w3.heap.size ≤ g) : Below w3.heap.size w3 (V.setRow g cs) :=
  ((Kp.of_below (S := fun q => w3.heap.size ≤ q) B).trans (grow20 _ _ _) (fun q _ y => by have y : q = g := y; show w3.heap.size ≤ q; omega)).below (fun _ y => y) (Nat.le_refl _)
set_option maxRecDepth 100000 in
set_option maxHeartbeats 40000000 in
theorem pmake20 (w : World) : Calls Tryz.prog 34 #[.slice none 0 0, .slice none 0 0, .slice none 0 0] w fun e w' => ∃ ga gx, e = .returned (.tuple #[.agg #[.slice none 0 0, .slice (some ⟨ga, 0, none⟩) 0 0, .slice (some ⟨gx, 0, none⟩) 0 0], .int .i64 0]) ∧ Below w.heap.size w w' := by
  obtain ⟨w1, hw1⟩ : ∃ w1, w1 = w.alloc (.cells #[.slice none 0 0] 36) := ⟨_, rfl⟩
  have k1 := cb16 w #[.slice none 0 0] 36
  rw [← hw1] at k1
  obtain ⟨w2, hw2⟩ : ∃ w2, w2 = w1.alloc (.cells #[.slice none 0 0] 36) := ⟨_, rfl⟩
  have k2 := cb16 w1 #[.slice none 0 0] 36
  rw [← hw2] at k2
  obtain ⟨w3, hw3⟩ : ∃ w3, w3 = w2.alloc (.cells #[.slice none 0 0, .slice none 0 0, .slice none 0 0] 48) := ⟨_, rfl⟩
  have k3 := cb16 w2 #[.slice none 0 0, .slice none 0 0, .slice none 0 0] 48
  rw [← hw3] at k3
  obtain ⟨b3, hb3⟩ : ∃ b3, b3 = w.heap.size := ⟨_, rfl⟩
  obtain ⟨b4, hb4⟩ : ∃ b4, b4 = w.heap.size + 1 := ⟨_, rfl⟩
  obtain ⟨b6, hb6⟩ : ∃ b6, b6 = w.heap.size + 2 := ⟨_, rfl⟩
  have s1 := k1.sz
  have s2 := k2.sz
  have s3 := k3.sz
  have B2 : Below w1.heap.size w1 w3 := k2.bl.trans (k3.bl.mono k2.bl.size)
  have B3 : Below w.heap.size w w3 := k1.bl.trans (B2.mono k1.bl.size)
  have q3 : w3.heap[b3]? = some (.cells #[.slice none 0 0] 36 (0, 0)) := (B2.block _ (by omega)).trans (by rw [hb3]; exact k1.cl)
  have q4 : w3.heap[b4]? = some (.cells #[.slice none 0 0] 36 (0, 0)) := (k3.bl.block _ (by omega)).trans (by rw [show b4 = w1.heap.size by omega]; exact k2.cl)
  have q6 : w3.heap[b6]? = some (.cells #[.slice none 0 0, .slice none 0 0, .slice none 0 0] 48 (0, 0)) := by rw [show b6 = w2.heap.size by omega]; exact k3.cl
  have HW : Hid (((w.alloc (.cells #[.slice none 0 0] 36)).alloc (.cells #[.slice none 0 0] 36)).alloc (.cells #[.slice none 0 0, .slice none 0 0, .slice none 0 0] 48) = w3 ∧ w.heap.size = b3 ∧ w.heap.size + 1 = b4 ∧ w.heap.size + 2 = b6) := ⟨by rw [← hw1, ← hw2, ← hw3], hb3.symm, hb4.symm, hb6.symm⟩
  have c3 : w3.cell? ⟨b3, 0, none⟩ = some (.slice none 0 0) := cell18 q3 rfl
  have c4 : w3.cell? ⟨b4, 0, none⟩ = some (.slice none 0 0) := cell18 q4 rfl
  have CS := psum16 none 0 0 [] w3 (SegS.nil w3 none) rfl (by decide)
  rw [show sumR16 [] 0 = .tuple #[.int .i64 0, .int .i64 0, .int .i64 0] from rfl] at CS
  have HCO : Hid (∀ V, Below w3.heap.size w3 V → Calls Tryz.prog 53 #[.slice none 0 0, .int .i64 0] V fun e w' => e = .returned (.bool false) ∧ Below V.heap.size V w') := fun V hV => pout16 none 0 0 [] 0 V (SegS.nil V none) rfl (by decide) (Ok16.zero _)
  have HQ6 : Hid (w3.heap[b6]? = some (.cells #[.slice none 0 0, .slice none 0 0, .slice none 0 0] 48 (0, 0))) := q6
  have HQ4 : Hid (w3.heap[b4]? = some (.cells #[.slice none 0 0] 36 (0, 0)) ∧ w3.heap[b3]? = some (.cells #[.slice none 0 0] 36 (0, 0))) := ⟨q4, q3⟩
  have HB3 : Hid (Below w.heap.size w w3 ∧ w3.heap.size = w.heap.size + 3) := ⟨B3, by omega⟩
  clear hw1 hw2 hw3 k1 k2 k3 s1 s2 s3 B2 B3 q3 q4 q6 hb3 hb4 hb6
  refine callsIn_wide.1 (callsIn_of_fn16 (n := 5) Tryz.func34 rfl ?_)
  simp only [Tryz.ntmps34, List.size_toArray, List.length_cons, List.length_nil, Nat.reduceAdd, Nat.reduceSub, Array.replicate_succ, Array.replicate_zero, List.push_toArray, List.append_toArray, List.nil_append, List.cons_append]
  refine fn16_seq (fn16_ofP ?_)
  go_wp2
  rw [HW.out.1]
  first | rw [HW.out.2.2.2] | rw [show w.heap.size + 1 + 1 = b6 from HW.out.2.2.2]
  rw [HW.out.2.2.1, HW.out.2.1]
  refine fn16_seq (fn16_ofP ?_)
  go_wp2
  refine fn16_seq (fn16_ofP ?_)
  go_wp2_with fail
  refine CS.mono ?_
  rintro e1 w4 ⟨rfl, b4'⟩
  have HB4 : Hid (Below w3.heap.size w3 w4) := b4'
  have d3 : w4.cell? ⟨b3, 0, none⟩ = some (.slice none 0 0) := cell18 ((HB4.out.block _ (Array.getElem?_eq_some_iff.1 HQ4.out.2).1).trans HQ4.out.2) rfl
  have d4 : w4.cell? ⟨b4, 0, none⟩ = some (.slice none 0 0) := cell18 ((HB4.out.block _ (Array.getElem?_eq_some_iff.1 HQ4.out.1).1).trans HQ4.out.1) rfl
  clear CS b4' c3 c4
  go_wp2
  refine fn16_seq (fn16_ofP ?_)
  go_wp2_with fail
  refine (HCO.out w4 HB4.out).mono ?_
  rintro e2 w5 ⟨rfl, b5'⟩
  have HB5 : Hid (Below w3.heap.size w3 w5) := HB4.out.trans (b5'.mono HB4.out.size)
  clear b5' d3 d4 HB4
  go_wp2
  refine fn16_seq (fn16_ofP ?_)
  refine Code.wp_mono (Q := (fun x a V => x = Exit.normal ∧ ∃ ga gx gO : Nat, a = { tmps := #[Value.slice none 0 0, Value.slice none 0 0, Value.slice none 0 0, Value.pointer (some ⟨b3, 0, none⟩), Value.pointer (some ⟨b4, 0, none⟩), undef, Value.pointer (some ⟨b6, 0, none⟩), Value.int .i64 0, Value.int .i64 0, Value.int .i64 0, Value.int .i64 0, Value.pointer (some ⟨gO, 0, none⟩), undef, undef, undef, undef, Value.slice none 0 0, Value.int .i64 0, Value.bool false, Value.bool false, Value.slice none 0 0, Value.int .i64 0, Value.bool false, Value.bool false, undef, Value.tuple #[.int .i64 0, .int .i64 0, .int .i64 0], Value.slice none 0 0, Value.tuple #[.int .i64 0, .int .i64 0, .int .i64 0], Value.int .i64 0, Value.int .i64 0, Value.int .i64 0, Value.bool false, Value.int .i64 0, Value.bool false, undef, undef, Value.bool false, Value.int .i64 0, Value.int .i64 0, Value.int .i64 0, Value.slice none 0 0, Value.int .i64 0, Value.bool false, undef, Value.bool false, Value.slice none 0 0, Value.slice none 0 0, Value.int .i64 0, Value.bool false, undef, Value.slice none 0 0, Value.slice none 0 0, Value.int .i64 0, Value.slice (some ⟨ga, 0, none⟩) 0 0, Value.int .i64 0, Value.slice (some ⟨gx, 0, none⟩) 0 0, Value.agg #[.slice none 0 0, .slice (some ⟨ga, 0, none⟩) 0 0, .slice (some ⟨gx, 0, none⟩) 0 0], undef, undef, undef, undef, undef, undef, undef, undef, undef, undef, undef, undef, undef, undef, undef, undef, undef, undef, undef, undef, undef, undef, undef, undef, undef, undef, undef, undef, undef, undef, undef, undef, undef, undef, undef, undef, undef, undef, undef, undef, undef, undef, undef, undef, undef, undef, undef, undef, undef], defers := [] } ∧ V.heap[gO]? = some (.cells #[.slice none 0 0, .slice (some ⟨ga, 0, none⟩) 0 0, .slice (some ⟨gx, 0, none⟩) 0 0] 48 (0, 0)) ∧ w3.heap.size ≤ gO ∧ Below w3.heap.size w3 V)) ?_ ?_
  rotate_left
  · obtain ⟨W0, hW0⟩ : ∃ W0, W0 = w5.drew := ⟨_, rfl⟩
    have BW0 : Below w3.heap.size w3 W0 := by rw [hW0]; exact HB5.out.drew
    refine plain_region16 (fun V => True) 9 (by kernel_rfl) trivial (fun hHeld => ?_)
    rw [← hW0]
    clear hW0
    refine wpAnyK_take (i := 0) (v := .slice none 0 0) rfl (by kernel_rfl) (by kernel_rfl) (by kernel_rfl) (by kernel_rfl) (fun _ _ _ h => nomatch h.1) (Or.inl ⟨by rfl, fun w hSw => by go_simp⟩) hHeld ?_
    simp only [List.getElem_toArray, List.getElem_cons_zero, Act.put, List.setIfInBounds_toArray, List.set_cons_zero, List.set_cons_succ]
    refine wpAnyK_take (i := 2) (v := .int .i64 0) rfl (by kernel_rfl) (by kernel_rfl) (by kernel_rfl) (by kernel_rfl) (fun _ _ _ h => nomatch h.1) (Or.inl ⟨by rfl, fun w hSw => by go_simp⟩) hHeld ?_
    simp only [List.getElem_toArray, List.getElem_cons_zero, List.getElem_cons_succ, Act.put, List.setIfInBounds_toArray, List.set_cons_zero, List.set_cons_succ]
    refine wpAnyK_take (i := 4) (v := .int .i64 0) rfl (by kernel_rfl) (by kernel_rfl) (by kernel_rfl) (by kernel_rfl) (fun _ _ _ h => nomatch h.1) (Or.inl ⟨by rfl, fun w hSw => by go_simp⟩) hHeld ?_
    simp only [List.getElem_toArray, List.getElem_cons_zero, List.getElem_cons_succ, Act.put, List.setIfInBounds_toArray, List.set_cons_zero, List.set_cons_succ]
    obtain ⟨M1, rm1, bm1⟩ := mk020 W0
    refine wpAnyK_four (i0 := 1) (i1 := 3) (i2 := 5) (i3 := 7) (by kernel_rfl) rfl rfl rfl rfl (fun K hK => ?_) (fun K hK => ?_) (fun K hK => ?_) (fun K hK => ?_)
    · (try simp only [List.getElem_toArray, List.getElem_cons_zero, List.getElem_cons_succ, Act.put, List.setIfInBounds_toArray, List.set_cons_zero, List.set_cons_succ])
      clear rm1 bm1
      go_simp
      refine (pcln20 W0).mono ?_
      rintro e6 w6 ⟨rfl, hw6⟩
      subst w6
      refine hK.out _ _ (fun _ => trivial) (fun hHeld0 => ?_)
      have hHeld := hHeld0 (by decide)
      clear hHeld0 hK K
      (try simp only [List.getElem_toArray, List.getElem_cons_zero, List.getElem_cons_succ, Act.put, List.setIfInBounds_toArray, List.set_cons_zero, List.set_cons_succ])
      obtain ⟨M2, rm2, bm2⟩ := mk020 W0
      refine wpAnyK_three (i0 := 3) (i1 := 5) (i2 := 7) (by kernel_rfl) rfl rfl rfl (fun K hK => ?_) (fun K hK => ?_) (fun K hK => ?_)
      · (try simp only [List.getElem_toArray, List.getElem_cons_zero, List.getElem_cons_succ, Act.put, List.setIfInBounds_toArray, List.set_cons_zero, List.set_cons_succ])
        go_simp
        have BM2 : Below w3.heap.size w3 M2 := BW0.trans (bm2.mono BW0.size)
        clear rm2 bm2
        refine hK.out _ _ (fun _ => trivial) (fun hHeld0 => ?_)
        have hHeld := hHeld0 (by decide)
        clear hHeld0 hK K
        (try simp only [List.getElem_toArray, List.getElem_cons_zero, List.getElem_cons_succ, Act.put, List.setIfInBounds_toArray, List.set_cons_zero, List.set_cons_succ])
        obtain ⟨M3, rm3, bm3⟩ := mk020 M2
        refine wpAnyK_pair (i0 := 5) (i1 := 7) (by kernel_rfl) rfl rfl (fun K hK => ?_) (fun K hK => ?_)
        · (try simp only [List.getElem_toArray, List.getElem_cons_zero, List.getElem_cons_succ, Act.put, List.setIfInBounds_toArray, List.set_cons_zero, List.set_cons_succ])
          go_simp
          have BM3 : Below w3.heap.size w3 M3 := BM2.trans (bm3.mono BM2.size)
          clear rm3 bm3
          refine hK.out _ _ (fun _ => trivial) (fun hHeld0 => ?_)
          have hHeld := hHeld0 (by decide)
          clear hHeld0 hK K
          (try simp only [List.getElem_toArray, List.getElem_cons_zero, List.getElem_cons_succ, Act.put, List.setIfInBounds_toArray, List.set_cons_zero, List.set_cons_succ])
          refine wpAnyK_take (i := 6) (v := .agg #[.slice none 0 0, .slice (some ⟨W0.heap.size, 0, none⟩) 0 0, .slice (some ⟨M2.heap.size, 0, none⟩) 0 0]) rfl (by kernel_rfl) (by kernel_rfl) (by kernel_rfl) (by kernel_rfl) (fun _ _ _ h => nomatch h.1) (Or.inl ⟨by rfl, fun w hSw => by go_simp⟩) hHeld ?_
          simp only [List.getElem_toArray, List.getElem_cons_zero, List.getElem_cons_succ, Act.put, List.setIfInBounds_toArray, List.set_cons_zero, List.set_cons_succ]
          refine wpAnyK_one (i := 7) (by kernel_rfl) rfl (fun K hK => ?_)
          (try simp only [List.getElem_toArray, List.getElem_cons_zero, List.getElem_cons_succ, Act.put, List.setIfInBounds_toArray, List.set_cons_zero, List.set_cons_succ])
          go_simp
          have cb := cb16 M3 #[.slice none 0 0, .slice none 0 0, .slice none 0 0] 48
          obtain ⟨A4, hA4⟩ : ∃ A4, A4 = World.alloc M3 (.cells #[.slice none 0 0, .slice none 0 0, .slice none 0 0] 48) := ⟨_, rfl⟩
          rw [← hA4] at cb
          rw [← hA4]
          have BA4 : Below w3.heap.size w3 A4 := BM3.trans (cb.bl.mono BM3.size)
          have qA4 := cb.cl
          have gA4 : w3.heap.size ≤ M3.heap.size := BM3.size
          clear hA4 cb
          refine hK.out _ _ (fun _ => trivial) (fun hHeld0 => ?_)
          have hHeld := hHeld0 (by decide)
          clear hHeld0 hK K
          (try simp only [List.getElem_toArray, List.getElem_cons_zero, List.getElem_cons_succ, Act.put, List.setIfInBounds_toArray, List.set_cons_zero, List.set_cons_succ])
          refine wpAnyK_one (i := 8) (by kernel_rfl) rfl (fun K hK => ?_)
          rw [if_pos (show Region.wanted _ _ = true from rfl)]
          refine wp_store_row 48 (.tmp 11) (.tmp 56) rfl M3.heap.size #[.slice none 0 0, .slice (some ⟨W0.heap.size, 0, none⟩) 0 0, .slice (some ⟨M2.heap.size, 0, none⟩) 0 0] rfl rfl _ _ qA4 (by kernel_rfl) rfl (by first | kernel_rfl | simp [Value.oneCell']) ?_
          refine hK.out _ _ (fun _ => trivial) (fun _ => ?_)
          clear hK K
          refine wpAnyK_done (by kernel_rfl) ?_ _
          exact ⟨rfl, _, _, _, rfl, setRow_heap _ _ _ _ _ _ qA4, gA4, fin20 BA4 gA4⟩
        · (try simp only [List.getElem_toArray, List.getElem_cons_zero, List.getElem_cons_succ, Act.put, List.setIfInBounds_toArray, List.set_cons_zero, List.set_cons_succ])
          clear rm3 bm3
          go_simp
          have cb := cb16 M2 #[.slice none 0 0, .slice none 0 0, .slice none 0 0] 48
          obtain ⟨A3, hA3⟩ : ∃ A3, A3 = World.alloc M2 (.cells #[.slice none 0 0, .slice none 0 0, .slice none 0 0] 48) := ⟨_, rfl⟩
          rw [← hA3] at cb
          rw [← hA3]
          have BA3 : Below w3.heap.size w3 A3 := BM2.trans (cb.bl.mono BM2.size)
          have qA3 := cb.cl
          have gA3 : w3.heap.size ≤ M2.heap.size := BM2.size
          clear hA3 cb
          refine hK.out _ _ (fun _ => trivial) (fun hHeld0 => ?_)
          have hHeld := hHeld0 (by decide)
          clear hHeld0 hK K
          (try simp only [List.getElem_toArray, List.getElem_cons_zero, List.getElem_cons_succ, Act.put, List.setIfInBounds_toArray, List.set_cons_zero, List.set_cons_succ])
          obtain ⟨M5, rm5, bm5⟩ := mk020 A3
          refine wpAnyK_one (i := 5) (by kernel_rfl) rfl (fun K hK => ?_)
          (try simp only [List.getElem_toArray, List.getElem_cons_zero, List.getElem_cons_succ, Act.put, List.setIfInBounds_toArray, List.set_cons_zero, List.set_cons_succ])
          go_simp
          have BM5 : Below w3.heap.size w3 M5 := BA3.trans (bm5.mono BA3.size)
          have qM5 := (bm5.block _ (Array.getElem?_eq_some_iff.1 qA3).1).trans qA3
          have gM5 := gA3
          clear rm5 bm5
          refine hK.out _ _ (fun _ => trivial) (fun hHeld0 => ?_)
          have hHeld := hHeld0 (by decide)
          clear hHeld0 hK K
          (try simp only [List.getElem_toArray, List.getElem_cons_zero, List.getElem_cons_succ, Act.put, List.setIfInBounds_toArray, List.set_cons_zero, List.set_cons_succ])
          refine wpAnyK_take (i := 6) (v := .agg #[.slice none 0 0, .slice (some ⟨W0.heap.size, 0, none⟩) 0 0, .slice (some ⟨A3.heap.size, 0, none⟩) 0 0]) rfl (by kernel_rfl) (by kernel_rfl) (by kernel_rfl) (by kernel_rfl) (fun _ _ _ h => nomatch h.1) (Or.inl ⟨by rfl, fun w hSw => by go_simp⟩) hHeld ?_
          simp only [List.getElem_toArray, List.getElem_cons_zero, List.getElem_cons_succ, Act.put, List.setIfInBounds_toArray, List.set_cons_zero, List.set_cons_succ]
          refine wpAnyK_one (i := 8) (by kernel_rfl) rfl (fun K hK => ?_)
          rw [if_pos (show Region.wanted _ _ = true from rfl)]
          refine wp_store_row 48 (.tmp 11) (.tmp 56) rfl M2.heap.size #[.slice none 0 0, .slice (some ⟨W0.heap.size, 0, none⟩) 0 0, .slice (some ⟨A3.heap.size, 0, none⟩) 0 0] rfl rfl _ _ qM5 (by kernel_rfl) rfl (by first | kernel_rfl | simp [Value.oneCell']) ?_
          refine hK.out _ _ (fun _ => trivial) (fun _ => ?_)
          clear hK K
          refine wpAnyK_done (by kernel_rfl) ?_ _
          exact ⟨rfl, _, _, _, rfl, setRow_heap _ _ _ _ _ _ qM5, gM5, fin20 BM5 gM5⟩
      · (try simp only [List.getElem_toArray, List.getElem_cons_zero, List.getElem_cons_succ, Act.put, List.setIfInBounds_toArray, List.set_cons_zero, List.set_cons_succ])
        go_simp
        have BM2 : Below w3.heap.size w3 M2 := BW0.trans (bm2.mono BW0.size)
        clear rm2 bm2
        refine hK.out _ _ (fun _ => trivial) (fun hHeld0 => ?_)
        have hHeld := hHeld0 (by decide)
        clear hHeld0 hK K
        (try simp only [List.getElem_toArray, List.getElem_cons_zero, List.getElem_cons_succ, Act.put, List.setIfInBounds_toArray, List.set_cons_zero, List.set_cons_succ])
        obtain ⟨M6, rm6, bm6⟩ := mk020 M2
        refine wpAnyK_pair (i0 := 3) (i1 := 7) (by kernel_rfl) rfl rfl (fun K hK => ?_) (fun K hK => ?_)
        · (try simp only [List.getElem_toArray, List.getElem_cons_zero, List.getElem_cons_succ, Act.put, List.setIfInBounds_toArray, List.set_cons_zero, List.set_cons_succ])
          go_simp
          have BM6 : Below w3.heap.size w3 M6 := BM2.trans (bm6.mono BM2.size)
          clear rm6 bm6
          refine hK.out _ _ (fun _ => trivial) (fun hHeld0 => ?_)
          have hHeld := hHeld0 (by decide)
          clear hHeld0 hK K
          (try simp only [List.getElem_toArray, List.getElem_cons_zero, List.getElem_cons_succ, Act.put, List.setIfInBounds_toArray, List.set_cons_zero, List.set_cons_succ])
          refine wpAnyK_take (i := 6) (v := .agg #[.slice none 0 0, .slice (some ⟨M2.heap.size, 0, none⟩) 0 0, .slice (some ⟨W0.heap.size, 0, none⟩) 0 0]) rfl (by kernel_rfl) (by kernel_rfl) (by kernel_rfl) (by kernel_rfl) (fun _ _ _ h => nomatch h.1) (Or.inl ⟨by rfl, fun w hSw => by go_simp⟩) hHeld ?_
          simp only [List.getElem_toArray, List.getElem_cons_zero, List.getElem_cons_succ, Act.put, List.setIfInBounds_toArray, List.set_cons_zero, List.set_cons_succ]
          refine wpAnyK_one (i := 7) (by kernel_rfl) rfl (fun K hK => ?_)
          (try simp only [List.getElem_toArray, List.getElem_cons_zero, List.getElem_cons_succ, Act.put, List.setIfInBounds_toArray, List.set_cons_zero, List.set_cons_succ])
          go_simp
          have cb := cb16 M6 #[.slice none 0 0, .slice none 0 0, .slice none 0 0] 48
          obtain ⟨A7, hA7⟩ : ∃ A7, A7 = World.alloc M6 (.cells #[.slice none 0 0, .slice none 0 0, .slice none 0 0] 48) := ⟨_, rfl⟩
          rw [← hA7] at cb
          rw [← hA7]
          have BA7 : Below w3.heap.size w3 A7 := BM6.trans (cb.bl.mono BM6.size)
          have qA7 := cb.cl
          have gA7 : w3.heap.size ≤ M6.heap.size := BM6.size
          clear hA7 cb
          refine hK.out _ _ (fun _ => trivial) (fun hHeld0 => ?_)
          have hHeld := hHeld0 (by decide)
          clear hHeld0 hK K
          (try simp only [List.getElem_toArray, List.getElem_cons_zero, List.getElem_cons_succ, Act.put, List.setIfInBounds_toArray, List.set_cons_zero, List.set_cons_succ])
          refine wpAnyK_one (i := 8) (by kernel_rfl) rfl (fun K hK => ?_)
          rw [if_pos (show Region.wanted _ _ = true from rfl)]
          refine wp_store_row 48 (.tmp 11) (.tmp 56) rfl M6.heap.size #[.slice none 0 0, .slice (some ⟨M2.heap.size, 0, none⟩) 0 0, .slice (some ⟨W0.heap.size, 0, none⟩) 0 0] rfl rfl _ _ qA7 (by kernel_rfl) rfl (by first | kernel_rfl | simp [Value.oneCell']) ?_
          refine hK.out _ _ (fun _ => trivial) (fun _ => ?_)
          clear hK K
          refine wpAnyK_done (by kernel_rfl) ?_ _
          exact ⟨rfl, _, _, _, rfl, setRow_heap _ _ _ _ _ _ qA7, gA7, fin20 BA7 gA7⟩
        · (try simp only [List.getElem_toArray, List.getElem_cons_zero, List.getElem_cons_succ, Act.put, List.setIfInBounds_toArray, List.set_cons_zero, List.set_cons_succ])
          clear rm6 bm6
          go_simp
          have cb := cb16 M2 #[.slice none 0 0, .slice none 0 0, .slice none 0 0] 48
          obtain ⟨A6, hA6⟩ : ∃ A6, A6 = World.alloc M2 (.cells #[.slice none 0 0, .slice none 0 0, .slice none 0 0] 48) := ⟨_, rfl⟩
          rw [← hA6] at cb
          rw [← hA6]
          have BA6 : Below w3.heap.size w3 A6 := BM2.trans (cb.bl.mono BM2.size)
          have qA6 := cb.cl
          have gA6 : w3.heap.size ≤ M2.heap.size := BM2.size
          clear hA6 cb
          refine hK.out _ _ (fun _ => trivial) (fun hHeld0 => ?_)
          have hHeld := hHeld0 (by decide)
          clear hHeld0 hK K
          (try simp only [List.getElem_toArray, List.getElem_cons_zero, List.getElem_cons_succ, Act.put, List.setIfInBounds_toArray, List.set_cons_zero, List.set_cons_succ])
          obtain ⟨M8, rm8, bm8⟩ := mk020 A6
          refine wpAnyK_one (i := 3) (by kernel_rfl) rfl (fun K hK => ?_)
          (try simp only [List.getElem_toArray, List.getElem_cons_zero, List.getElem_cons_succ, Act.put, List.setIfInBounds_toArray, List.set_cons_zero, List.set_cons_succ])
          go_simp
          have BM8 : Below w3.heap.size w3 M8 := BA6.trans (bm8.mono BA6.size)
          have qM8 := (bm8.block _ (Array.getElem?_eq_some_iff.1 qA6).1).trans qA6
          have gM8 := gA6
          clear rm8 bm8
          refine hK.out _ _ (fun _ => trivial) (fun hHeld0 => ?_)
          have hHeld := hHeld0 (by decide)
          clear hHeld0 hK K
          (try simp only [List.getElem_toArray, List.getElem_cons_zero, List.getElem_cons_succ, Act.put, List.setIfInBounds_toArray, List.set_cons_zero, List.set_cons_succ])
          refine wpAnyK_take (i := 6) (v := .agg #[.slice none 0 0, .slice (some ⟨A6.heap.size, 0, none⟩) 0 0, .slice (some ⟨W0.heap.size, 0, none⟩) 0 0]) rfl (by kernel_rfl) (by kernel_rfl) (by kernel_rfl) (by kernel_rfl) (fun _ _ _ h => nomatch h.1) (Or.inl ⟨by rfl, fun w hSw => by go_simp⟩) hHeld ?_
          simp only [List.getElem_toArray, List.getElem_cons_zero, List.getElem_cons_succ, Act.put, List.setIfInBounds_toArray, List.set_cons_zero, List.set_cons_succ]
          refine wpAnyK_one (i := 8) (by kernel_rfl) rfl (fun K hK => ?_)
          rw [if_pos (show Region.wanted _ _ = true from rfl)]
          refine wp_store_row 48 (.tmp 11) (.tmp 56) rfl M2.heap.size #[.slice none 0 0, .slice (some ⟨A6.heap.size, 0, none⟩) 0 0, .slice (some ⟨W0.heap.size, 0, none⟩) 0 0] rfl rfl _ _ qM8 (by kernel_rfl) rfl (by first | kernel_rfl | simp [Value.oneCell']) ?_
          refine hK.out _ _ (fun _ => trivial) (fun _ => ?_)
          clear hK K
          refine wpAnyK_done (by kernel_rfl) ?_ _
          exact ⟨rfl, _, _, _, rfl, setRow_heap _ _ _ _ _ _ qM8, gM8, fin20 BM8 gM8⟩
      · (try simp only [List.getElem_toArray, List.getElem_cons_zero, List.getElem_cons_succ, Act.put, List.setIfInBounds_toArray, List.set_cons_zero, List.set_cons_succ])
        clear rm2 bm2
        go_simp
        have cb := cb16 W0 #[.slice none 0 0, .slice none 0 0, .slice none 0 0] 48
        obtain ⟨A2, hA2⟩ : ∃ A2, A2 = World.alloc W0 (.cells #[.slice none 0 0, .slice none 0 0, .slice none 0 0] 48) := ⟨_, rfl⟩
        rw [← hA2] at cb
        rw [← hA2]
        have BA2 : Below w3.heap.size w3 A2 := BW0.trans (cb.bl.mono BW0.size)
        have qA2 := cb.cl
        have gA2 : w3.heap.size ≤ W0.heap.size := BW0.size
        clear hA2 cb
        refine hK.out _ _ (fun _ => trivial) (fun hHeld0 => ?_)
        have hHeld := hHeld0 (by decide)
        clear hHeld0 hK K
        (try simp only [List.getElem_toArray, List.getElem_cons_zero, List.getElem_cons_succ, Act.put, List.setIfInBounds_toArray, List.set_cons_zero, List.set_cons_succ])
        obtain ⟨M9, rm9, bm9⟩ := mk020 A2
        refine wpAnyK_pair (i0 := 3) (i1 := 5) (by kernel_rfl) rfl rfl (fun K hK => ?_) (fun K hK => ?_)
        · (try simp only [List.getElem_toArray, List.getElem_cons_zero, List.getElem_cons_succ, Act.put, List.setIfInBounds_toArray, List.set_cons_zero, List.set_cons_succ])
          go_simp
          have BM9 : Below w3.heap.size w3 M9 := BA2.trans (bm9.mono BA2.size)
          have qM9 := (bm9.block _ (Array.getElem?_eq_some_iff.1 qA2).1).trans qA2
          have gM9 := gA2
          clear rm9 bm9
          refine hK.out _ _ (fun _ => trivial) (fun hHeld0 => ?_)
          have hHeld := hHeld0 (by decide)
          clear hHeld0 hK K
          (try simp only [List.getElem_toArray, List.getElem_cons_zero, List.getElem_cons_succ, Act.put, List.setIfInBounds_toArray, List.set_cons_zero, List.set_cons_succ])
          obtain ⟨M10, rm10, bm10⟩ := mk020 M9
          refine wpAnyK_one (i := 5) (by kernel_rfl) rfl (fun K hK => ?_)
          (try simp only [List.getElem_toArray, List.getElem_cons_zero, List.getElem_cons_succ, Act.put, List.setIfInBounds_toArray, List.set_cons_zero, List.set_cons_succ])
          go_simp
          have BM10 : Below w3.heap.size w3 M10 := BM9.trans (bm10.mono BM9.size)
          have qM10 := (bm10.block _ (Array.getElem?_eq_some_iff.1 qM9).1).trans qM9
          have gM10 := gM9
          clear rm10 bm10
          refine hK.out _ _ (fun _ => trivial) (fun hHeld0 => ?_)
          have hHeld := hHeld0 (by decide)
          clear hHeld0 hK K
          (try simp only [List.getElem_toArray, List.getElem_cons_zero, List.getElem_cons_succ, Act.put, List.setIfInBounds_toArray, List.set_cons_zero, List.set_cons_succ])
          refine wpAnyK_take (i := 6) (v := .agg #[.slice none 0 0, .slice (some ⟨A2.heap.size, 0, none⟩) 0 0, .slice (some ⟨M9.heap.size, 0, none⟩) 0 0]) rfl (by kernel_rfl) (by kernel_rfl) (by kernel_rfl) (by kernel_rfl) (fun _ _ _ h => nomatch h.1) (Or.inl ⟨by rfl, fun w hSw => by go_simp⟩) hHeld ?_
          simp only [List.getElem_toArray, List.getElem_cons_zero, List.getElem_cons_succ, Act.put, List.setIfInBounds_toArray, List.set_cons_zero, List.set_cons_succ]
          refine wpAnyK_one (i := 8) (by kernel_rfl) rfl (fun K hK => ?_)
          rw [if_pos (show Region.wanted _ _ = true from rfl)]
          refine wp_store_row 48 (.tmp 11) (.tmp 56) rfl W0.heap.size #[.slice none 0 0, .slice (some ⟨A2.heap.size, 0, none⟩) 0 0, .slice (some ⟨M9.heap.size, 0, none⟩) 0 0] rfl rfl _ _ qM10 (by kernel_rfl) rfl (by first | kernel_rfl | simp [Value.oneCell']) ?_
          refine hK.out _ _ (fun _ => trivial) (fun _ => ?_)
          clear hK K
          refine wpAnyK_done (by kernel_rfl) ?_ _
          exact ⟨rfl, _, _, _, rfl, setRow_heap _ _ _ _ _ _ qM10, gM10, fin20 BM10 gM10⟩
        · (try simp only [List.getElem_toArray, List.getElem_cons_zero, List.getElem_cons_succ, Act.put, List.setIfInBounds_toArray, List.set_cons_zero, List.set_cons_succ])
          go_simp
          have BM9 : Below w3.heap.size w3 M9 := BA2.trans (bm9.mono BA2.size)
          have qM9 := (bm9.block _ (Array.getElem?_eq_some_iff.1 qA2).1).trans qA2
          have gM9 := gA2
          clear rm9 bm9
          refine hK.out _ _ (fun _ => trivial) (fun hHeld0 => ?_)
          have hHeld := hHeld0 (by decide)
          clear hHeld0 hK K
          (try simp only [List.getElem_toArray, List.getElem_cons_zero, List.getElem_cons_succ, Act.put, List.setIfInBounds_toArray, List.set_cons_zero, List.set_cons_succ])
          obtain ⟨M11, rm11, bm11⟩ := mk020 M9
          refine wpAnyK_one (i := 3) (by kernel_rfl) rfl (fun K hK => ?_)
          (try simp only [List.getElem_toArray, List.getElem_cons_zero, List.getElem_cons_succ, Act.put, List.setIfInBounds_toArray, List.set_cons_zero, List.set_cons_succ])
          go_simp
          have BM11 : Below w3.heap.size w3 M11 := BM9.trans (bm11.mono BM9.size)
          have qM11 := (bm11.block _ (Array.getElem?_eq_some_iff.1 qM9).1).trans qM9
          have gM11 := gM9
          clear rm11 bm11
          refine hK.out _ _ (fun _ => trivial) (fun hHeld0 => ?_)
          have hHeld := hHeld0 (by decide)
          clear hHeld0 hK K
          (try simp only [List.getElem_toArray, List.getElem_cons_zero, List.getElem_cons_succ, Act.put, List.setIfInBounds_toArray, List.set_cons_zero, List.set_cons_succ])
          refine wpAnyK_take (i := 6) (v := .agg #[.slice none 0 0, .slice (some ⟨M9.heap.size, 0, none⟩) 0 0, .slice (some ⟨A2.heap.size, 0, none⟩) 0 0]) rfl (by kernel_rfl) (by kernel_rfl) (by kernel_rfl) (by kernel_rfl) (fun _ _ _ h => nomatch h.1) (Or.inl ⟨by rfl, fun w hSw => by go_simp⟩) hHeld ?_
          simp only [List.getElem_toArray, List.getElem_cons_zero, List.getElem_cons_succ, Act.put, List.setIfInBounds_toArray, List.set_cons_zero, List.set_cons_succ]
          refine wpAnyK_one (i := 8) (by kernel_rfl) rfl (fun K hK => ?_)
          rw [if_pos (show Region.wanted _ _ = true from rfl)]
          refine wp_store_row 48 (.tmp 11) (.tmp 56) rfl W0.heap.size #[.slice none 0 0, .slice (some ⟨M9.heap.size, 0, none⟩) 0 0, .slice (some ⟨A2.heap.size, 0, none⟩) 0 0] rfl rfl _ _ qM11 (by kernel_rfl) rfl (by first | kernel_rfl | simp [Value.oneCell']) ?_
          refine hK.out _ _ (fun _ => trivial) (fun _ => ?_)
          clear hK K
          refine wpAnyK_done (by kernel_rfl) ?_ _
          exact ⟨rfl, _, _, _, rfl, setRow_heap _ _ _ _ _ _ qM11, gM11, fin20 BM11 gM11⟩
    · (try simp only [List.getElem_toArray, List.getElem_cons_zero, List.getElem_cons_succ, Act.put, List.setIfInBounds_toArray, List.set_cons_zero, List.set_cons_succ])
      go_simp
      have BM1 : Below w3.heap.size w3 M1 := BW0.trans (bm1.mono BW0.size)
      clear rm1 bm1
      refine hK.out _ _ (fun _ => trivial) (fun hHeld0 => ?_)
      have hHeld := hHeld0 (by decide)
      clear hHeld0 hK K
      (try simp only [List.getElem_toArray, List.getElem_cons_zero, List.getElem_cons_succ, Act.put, List.setIfInBounds_toArray, List.set_cons_zero, List.set_cons_succ])
      obtain ⟨M12, rm12, bm12⟩ := mk020 M1
      refine wpAnyK_three (i0 := 1) (i1 := 5) (i2 := 7) (by kernel_rfl) rfl rfl rfl (fun K hK => ?_) (fun K hK => ?_) (fun K hK => ?_)
      · (try simp only [List.getElem_toArray, List.getElem_cons_zero, List.getElem_cons_succ, Act.put, List.setIfInBounds_toArray, List.set_cons_zero, List.set_cons_succ])
        clear rm12 bm12
        go_simp
        refine (pcln20 M1).mono ?_
        rintro e6 w6 ⟨rfl, hw6⟩
        subst w6
        refine hK.out _ _ (fun _ => trivial) (fun hHeld0 => ?_)
        have hHeld := hHeld0 (by decide)
        clear hHeld0 hK K
        (try simp only [List.getElem_toArray, List.getElem_cons_zero, List.getElem_cons_succ, Act.put, List.setIfInBounds_toArray, List.set_cons_zero, List.set_cons_succ])
        obtain ⟨M13, rm13, bm13⟩ := mk020 M1
        refine wpAnyK_pair (i0 := 5) (i1 := 7) (by kernel_rfl) rfl rfl (fun K hK => ?_) (fun K hK => ?_)
        · (try simp only [List.getElem_toArray, List.getElem_cons_zero, List.getElem_cons_succ, Act.put, List.setIfInBounds_toArray, List.set_cons_zero, List.set_cons_succ])
          go_simp
          have BM13 : Below w3.heap.size w3 M13 := BM1.trans (bm13.mono BM1.size)
          clear rm13 bm13
          refine hK.out _ _ (fun _ => trivial) (fun hHeld0 => ?_)
          have hHeld := hHeld0 (by decide)
          clear hHeld0 hK K
          (try simp only [List.getElem_toArray, List.getElem_cons_zero, List.getElem_cons_succ, Act.put, List.setIfInBounds_toArray, List.set_cons_zero, List.set_cons_succ])
          refine wpAnyK_take (i := 6) (v := .agg #[.slice none 0 0, .slice (some ⟨W0.heap.size, 0, none⟩) 0 0, .slice (some ⟨M1.heap.size, 0, none⟩) 0 0]) rfl (by kernel_rfl) (by kernel_rfl) (by kernel_rfl) (by kernel_rfl) (fun _ _ _ h => nomatch h.1) (Or.inl ⟨by rfl, fun w hSw => by go_simp⟩) hHeld ?_
          simp only [List.getElem_toArray, List.getElem_cons_zero, List.getElem_cons_succ, Act.put, List.setIfInBounds_toArray, List.set_cons_zero, List.set_cons_succ]
          refine wpAnyK_one (i := 7) (by kernel_rfl) rfl (fun K hK => ?_)
          (try simp only [List.getElem_toArray, List.getElem_cons_zero, List.getElem_cons_succ, Act.put, List.setIfInBounds_toArray, List.set_cons_zero, List.set_cons_succ])
          go_simp
          have cb := cb16 M13 #[.slice none 0 0, .slice none 0 0, .slice none 0 0] 48
          obtain ⟨A14, hA14⟩ : ∃ A14, A14 = World.alloc M13 (.cells #[.slice none 0 0, .slice none 0 0, .slice none 0 0] 48) := ⟨_, rfl⟩
          rw [← hA14] at cb
          rw [← hA14]
          have BA14 : Below w3.heap.size w3 A14 := BM13.trans (cb.bl.mono BM13.size)
          have qA14 := cb.cl
          have gA14 : w3.heap.size ≤ M13.heap.size := BM13.size
          clear hA14 cb
          refine hK.out _ _ (fun _ => trivial) (fun hHeld0 => ?_)
          have hHeld := hHeld0 (by decide)
          clear hHeld0 hK K
          (try simp only [List.getElem_toArray, List.getElem_cons_zero, List.getElem_cons_succ, Act.put, List.setIfInBounds_toArray, List.set_cons_zero, List.set_cons_succ])
          refine wpAnyK_one (i := 8) (by kernel_rfl) rfl (fun K hK => ?_)
          rw [if_pos (show Region.wanted _ _ = true from rfl)]
          refine wp_store_row 48 (.tmp 11) (.tmp 56) rfl M13.heap.size #[.slice none 0 0, .slice (some ⟨W0.heap.size, 0, none⟩) 0 0, .slice (some ⟨M1.heap.size, 0, none⟩) 0 0] rfl rfl _ _ qA14 (by kernel_rfl) rfl (by first | kernel_rfl | simp [Value.oneCell']) ?_
          refine hK.out _ _ (fun _ => trivial) (fun _ => ?_)
          clear hK K
          refine wpAnyK_done (by kernel_rfl) ?_ _
          exact ⟨rfl, _, _, _, rfl, setRow_heap _ _ _ _ _ _ qA14, gA14, fin20 BA14 gA14⟩
        · (try simp only [List.getElem_toArray, List.getElem_cons_zero, List.getElem_cons_succ, Act.put, List.setIfInBounds_toArray, List.set_cons_zero, List.set_cons_succ])
          clear rm13 bm13
          go_simp
          have cb := cb16 M1 #[.slice none 0 0, .slice none 0 0, .slice none 0 0] 48
          obtain ⟨A13, hA13⟩ : ∃ A13, A13 = World.alloc M1 (.cells #[.slice none 0 0, .slice none 0 0, .slice none 0 0] 48) := ⟨_, rfl⟩
          rw [← hA13] at cb
          rw [← hA13]
          have BA13 : Below w3.heap.size w3 A13 := BM1.trans (cb.bl.mono BM1.size)
          have qA13 := cb.cl
          have gA13 : w3.heap.size ≤ M1.heap.size := BM1.size
          clear hA13 cb
          refine hK.out _ _ (fun _ => trivial) (fun hHeld0 => ?_)
          have hHeld := hHeld0 (by decide)
          clear hHeld0 hK K
          (try simp only [List.getElem_toArray, List.getElem_cons_zero, List.getElem_cons_succ, Act.put, List.setIfInBounds_toArray, List.set_cons_zero, List.set_cons_succ])
          obtain ⟨M15, rm15, bm15⟩ := mk020 A13
          refine wpAnyK_one (i := 5) (by kernel_rfl) rfl (fun K hK => ?_)
          (try simp only [List.getElem_toArray, List.getElem_cons_zero, List.getElem_cons_succ, Act.put, List.setIfInBounds_toArray, List.set_cons_zero, List.set_cons_succ])
          go_simp
          have BM15 : Below w3.heap.size w3 M15 := BA13.trans (bm15.mono BA13.size)
          have qM15 := (bm15.block _ (Array.getElem?_eq_some_iff.1 qA13).1).trans qA13
          have gM15 := gA13
          clear rm15 bm15
          refine hK.out _ _ (fun _ => trivial) (fun hHeld0 => ?_)
          have hHeld := hHeld0 (by decide)
          clear hHeld0 hK K
          (try simp only [List.getElem_toArray, List.getElem_cons_zero, List.getElem_cons_succ, Act.put, List.setIfInBounds_toArray, List.set_cons_zero, List.set_cons_succ])
          refine wpAnyK_take (i := 6) (v := .agg #[.slice none 0 0, .slice (some ⟨W0.heap.size, 0, none⟩) 0 0, .slice (some ⟨A13.heap.size, 0, none⟩) 0 0]) rfl (by kernel_rfl) (by kernel_rfl) (by kernel_rfl) (by kernel_rfl) (fun _ _ _ h => nomatch h.1) (Or.inl ⟨by rfl, fun w hSw => by go_simp⟩) hHeld ?_
          simp only [List.getElem_toArray, List.getElem_cons_zero, List.getElem_cons_succ, Act.put, List.setIfInBounds_toArray, List.set_cons_zero, List.set_cons_succ]
          refine wpAnyK_one (i := 8) (by kernel_rfl) rfl (fun K hK => ?_)
          rw [if_pos (show Region.wanted _ _ = true from rfl)]
          refine wp_store_row 48 (.tmp 11) (.tmp 56) rfl M1.heap.size #[.slice none 0 0, .slice (some ⟨W0.heap.size, 0, none⟩) 0 0, .slice (some ⟨A13.heap.size, 0, none⟩) 0 0] rfl rfl _ _ qM15 (by kernel_rfl) rfl (by first | kernel_rfl | simp [Value.oneCell']) ?_
          refine hK.out _ _ (fun _ => trivial) (fun _ => ?_)
          clear hK K
          refine wpAnyK_done (by kernel_rfl) ?_ _
          exact ⟨rfl, _, _, _, rfl, setRow_heap _ _ _ _ _ _ qM15, gM15, fin20 BM15 gM15⟩
      · (try simp only [List.getElem_toArray, List.getElem_cons_zero, List.getElem_cons_succ, Act.put, List.setIfInBounds_toArray, List.set_cons_zero, List.set_cons_succ])
        go_simp
        have BM12 : Below w3.heap.size w3 M12 := BM1.trans (bm12.mono BM1.size)
        clear rm12 bm12
        refine hK.out _ _ (fun _ => trivial) (fun hHeld0 => ?_)
        have hHeld := hHeld0 (by decide)
        clear hHeld0 hK K
        (try simp only [List.getElem_toArray, List.getElem_cons_zero, List.getElem_cons_succ, Act.put, List.setIfInBounds_toArray, List.set_cons_zero, List.set_cons_succ])
        refine wpAnyK_pair (i0 := 1) (i1 := 7) (by kernel_rfl) rfl rfl (fun K hK => ?_) (fun K hK => ?_)
        · (try simp only [List.getElem_toArray, List.getElem_cons_zero, List.getElem_cons_succ, Act.put, List.setIfInBounds_toArray, List.set_cons_zero, List.set_cons_succ])
          go_simp
          refine (pcln20 M12).mono ?_
          rintro e6 w6 ⟨rfl, hw6⟩
          subst w6
          refine hK.out _ _ (fun _ => trivial) (fun hHeld0 => ?_)
          have hHeld := hHeld0 (by decide)
          clear hHeld0 hK K
          (try simp only [List.getElem_toArray, List.getElem_cons_zero, List.getElem_cons_succ, Act.put, List.setIfInBounds_toArray, List.set_cons_zero, List.set_cons_succ])
          refine wpAnyK_take (i := 6) (v := .agg #[.slice none 0 0, .slice (some ⟨W0.heap.size, 0, none⟩) 0 0, .slice (some ⟨M1.heap.size, 0, none⟩) 0 0]) rfl (by kernel_rfl) (by kernel_rfl) (by kernel_rfl) (by kernel_rfl) (fun _ _ _ h => nomatch h.1) (Or.inl ⟨by rfl, fun w hSw => by go_simp⟩) hHeld ?_
          simp only [List.getElem_toArray, List.getElem_cons_zero, List.getElem_cons_succ, Act.put, List.setIfInBounds_toArray, List.set_cons_zero, List.set_cons_succ]
          refine wpAnyK_one (i := 7) (by kernel_rfl) rfl (fun K hK => ?_)
          (try simp only [List.getElem_toArray, List.getElem_cons_zero, List.getElem_cons_succ, Act.put, List.setIfInBounds_toArray, List.set_cons_zero, List.set_cons_succ])
          go_simp
          have cb := cb16 M12 #[.slice none 0 0, .slice none 0 0, .slice none 0 0] 48
          obtain ⟨A17, hA17⟩ : ∃ A17, A17 = World.alloc M12 (.cells #[.slice none 0 0, .slice none 0 0, .slice none 0 0] 48) := ⟨_, rfl⟩
          rw [← hA17] at cb
          rw [← hA17]
          have BA17 : Below w3.heap.size w3 A17 := BM12.trans (cb.bl.mono BM12.size)
          have qA17 := cb.cl
          have gA17 : w3.heap.size ≤ M12.heap.size := BM12.size
          clear hA17 cb
          refine hK.out _ _ (fun _ => trivial) (fun hHeld0 => ?_)
          have hHeld := hHeld0 (by decide)
          clear hHeld0 hK K
          (try simp only [List.getElem_toArray, List.getElem_cons_zero, List.getElem_cons_succ, Act.put, List.setIfInBounds_toArray, List.set_cons_zero, List.set_cons_succ])
          refine wpAnyK_one (i := 8) (by kernel_rfl) rfl (fun K hK => ?_)
          rw [if_pos (show Region.wanted _ _ = true from rfl)]
          refine wp_store_row 48 (.tmp 11) (.tmp 56) rfl M12.heap.size #[.slice none 0 0, .slice (some ⟨W0.heap.size, 0, none⟩) 0 0, .slice (some ⟨M1.heap.size, 0, none⟩) 0 0] rfl rfl _ _ qA17 (by kernel_rfl) rfl (by first | kernel_rfl | simp [Value.oneCell']) ?_
          refine hK.out _ _ (fun _ => trivial) (fun _ => ?_)
          clear hK K
          refine wpAnyK_done (by kernel_rfl) ?_ _
          exact ⟨rfl, _, _, _, rfl, setRow_heap _ _ _ _ _ _ qA17, gA17, fin20 BA17 gA17⟩
        · (try simp only [List.getElem_toArray, List.getElem_cons_zero, List.getElem_cons_succ, Act.put, List.setIfInBounds_toArray, List.set_cons_zero, List.set_cons_succ])
          go_simp
          have cb := cb16 M12 #[.slice none 0 0, .slice none 0 0, .slice none 0 0] 48
          obtain ⟨A16, hA16⟩ : ∃ A16, A16 = World.alloc M12 (.cells #[.slice none 0 0, .slice none 0 0, .slice none 0 0] 48) := ⟨_, rfl⟩
          rw [← hA16] at cb
          rw [← hA16]
          have BA16 : Below w3.heap.size w3 A16 := BM12.trans (cb.bl.mono BM12.size)
          have qA16 := cb.cl
          have gA16 : w3.heap.size ≤ M12.heap.size := BM12.size
          clear hA16 cb
          refine hK.out _ _ (fun _ => trivial) (fun hHeld0 => ?_)
          have hHeld := hHeld0 (by decide)
          clear hHeld0 hK K
          (try simp only [List.getElem_toArray, List.getElem_cons_zero, List.getElem_cons_succ, Act.put, List.setIfInBounds_toArray, List.set_cons_zero, List.set_cons_succ])
          refine wpAnyK_one (i := 1) (by kernel_rfl) rfl (fun K hK => ?_)
          (try simp only [List.getElem_toArray, List.getElem_cons_zero, List.getElem_cons_succ, Act.put, List.setIfInBounds_toArray, List.set_cons_zero, List.set_cons_succ])
          go_simp
          refine (pcln20 A16).mono ?_
          rintro e6 w6 ⟨rfl, hw6⟩
          subst w6
          refine hK.out _ _ (fun _ => trivial) (fun hHeld0 => ?_)
          have hHeld := hHeld0 (by decide)
          clear hHeld0 hK K
          (try simp only [List.getElem_toArray, List.getElem_cons_zero, List.getElem_cons_succ, Act.put, List.setIfInBounds_toArray, List.set_cons_zero, List.set_cons_succ])
          refine wpAnyK_take (i := 6) (v := .agg #[.slice none 0 0, .slice (some ⟨W0.heap.size, 0, none⟩) 0 0, .slice (some ⟨M1.heap.size, 0, none⟩) 0 0]) rfl (by kernel_rfl) (by kernel_rfl) (by kernel_rfl) (by kernel_rfl) (fun _ _ _ h => nomatch h.1) (Or.inl ⟨by rfl, fun w hSw => by go_simp⟩) hHeld ?_
          simp only [List.getElem_toArray, List.getElem_cons_zero, List.getElem_cons_succ, Act.put, List.setIfInBounds_toArray, List.set_cons_zero, List.set_cons_succ]
          refine wpAnyK_one (i := 8) (by kernel_rfl) rfl (fun K hK => ?_)
          rw [if_pos (show Region.wanted _ _ = true from rfl)]
          refine wp_store_row 48 (.tmp 11) (.tmp 56) rfl M12.heap.size #[.slice none 0 0, .slice (some ⟨W0.heap.size, 0, none⟩) 0 0, .slice (some ⟨M1.heap.size, 0, none⟩) 0 0] rfl rfl _ _ qA16 (by kernel_rfl) rfl (by first | kernel_rfl | simp [Value.oneCell']) ?_
          refine hK.out _ _ (fun _ => trivial) (fun _ => ?_)
          clear hK K
          refine wpAnyK_done (by kernel_rfl) ?_ _
          exact ⟨rfl, _, _, _, rfl, setRow_heap _ _ _ _ _ _ qA16, gA16, fin20 BA16 gA16⟩
      · (try simp only [List.getElem_toArray, List.getElem_cons_zero, List.getElem_cons_succ, Act.put, List.setIfInBounds_toArray, List.set_cons_zero, List.set_cons_succ])
        clear rm12 bm12
        go_simp
        have cb := cb16 M1 #[.slice none 0 0, .slice none 0 0, .slice none 0 0] 48
        obtain ⟨A12, hA12⟩ : ∃ A12, A12 = World.alloc M1 (.cells #[.slice none 0 0, .slice none 0 0, .slice none 0 0] 48) := ⟨_, rfl⟩
        rw [← hA12] at cb
        rw [← hA12]
        have BA12 : Below w3.heap.size w3 A12 := BM1.trans (cb.bl.mono BM1.size)
        have qA12 := cb.cl
        have gA12 : w3.heap.size ≤ M1.heap.size := BM1.size
        clear hA12 cb
        refine hK.out _ _ (fun _ => trivial) (fun hHeld0 => ?_)
        have hHeld := hHeld0 (by decide)
        clear hHeld0 hK K
        (try simp only [List.getElem_toArray, List.getElem_cons_zero, List.getElem_cons_succ, Act.put, List.setIfInBounds_toArray, List.set_cons_zero, List.set_cons_succ])
        obtain ⟨M19, rm19, bm19⟩ := mk020 A12
        refine wpAnyK_pair (i0 := 1) (i1 := 5) (by kernel_rfl) rfl rfl (fun K hK => ?_) (fun K hK => ?_)
        · (try simp only [List.getElem_toArray, List.getElem_cons_zero, List.getElem_cons_succ, Act.put, List.setIfInBounds_toArray, List.set_cons_zero, List.set_cons_succ])
          clear rm19 bm19
          go_simp
          refine (pcln20 A12).mono ?_
          rintro e6 w6 ⟨rfl, hw6⟩
          subst w6
          refine hK.out _ _ (fun _ => trivial) (fun hHeld0 => ?_)
          have hHeld := hHeld0 (by decide)
          clear hHeld0 hK K
          (try simp only [List.getElem_toArray, List.getElem_cons_zero, List.getElem_cons_succ, Act.put, List.setIfInBounds_toArray, List.set_cons_zero, List.set_cons_succ])
          obtain ⟨M20, rm20, bm20⟩ := mk020 A12
          refine wpAnyK_one (i := 5) (by kernel_rfl) rfl (fun K hK => ?_)
          (try simp only [List.getElem_toArray, List.getElem_cons_zero, List.getElem_cons_succ, Act.put, List.setIfInBounds_toArray, List.set_cons_zero, List.set_cons_succ])
          go_simp
          have BM20 : Below w3.heap.size w3 M20 := BA12.trans (bm20.mono BA12.size)
          have qM20 := (bm20.block _ (Array.getElem?_eq_some_iff.1 qA12).1).trans qA12
          have gM20 := gA12
          clear rm20 bm20
          refine hK.out _ _ (fun _ => trivial) (fun hHeld0 => ?_)
          have hHeld := hHeld0 (by decide)
          clear hHeld0 hK K
          (try simp only [List.getElem_toArray, List.getElem_cons_zero, List.getElem_cons_succ, Act.put, List.setIfInBounds_toArray, List.set_cons_zero, List.set_cons_succ])
          refine wpAnyK_take (i := 6) (v := .agg #[.slice none 0 0, .slice (some ⟨W0.heap.size, 0, none⟩) 0 0, .slice (some ⟨A12.heap.size, 0, none⟩) 0 0]) rfl (by kernel_rfl) (by kernel_rfl) (by kernel_rfl) (by kernel_rfl) (fun _ _ _ h => nomatch h.1) (Or.inl ⟨by rfl, fun w hSw => by go_simp⟩) hHeld ?_
          simp only [List.getElem_toArray, List.getElem_cons_zero, List.getElem_cons_succ, Act.put, List.setIfInBounds_toArray, List.set_cons_zero, List.set_cons_succ]
          refine wpAnyK_one (i := 8) (by kernel_rfl) rfl (fun K hK => ?_)
          rw [if_pos (show Region.wanted _ _ = true from rfl)]
          refine wp_store_row 48 (.tmp 11) (.tmp 56) rfl M1.heap.size #[.slice none 0 0, .slice (some ⟨W0.heap.size, 0, none⟩) 0 0, .slice (some ⟨A12.heap.size, 0, none⟩) 0 0] rfl rfl _ _ qM20 (by kernel_rfl) rfl (by first | kernel_rfl | simp [Value.oneCell']) ?_
          refine hK.out _ _ (fun _ => trivial) (fun _ => ?_)
          clear hK K
          refine wpAnyK_done (by kernel_rfl) ?_ _
          exact ⟨rfl, _, _, _, rfl, setRow_heap _ _ _ _ _ _ qM20, gM20, fin20 BM20 gM20⟩
        · (try simp only [List.getElem_toArray, List.getElem_cons_zero, List.getElem_cons_succ, Act.put, List.setIfInBounds_toArray, List.set_cons_zero, List.set_cons_succ])
          go_simp
          have BM19 : Below w3.heap.size w3 M19 := BA12.trans (bm19.mono BA12.size)
          have qM19 := (bm19.block _ (Array.getElem?_eq_some_iff.1 qA12).1).trans qA12
          have gM19 := gA12
          clear rm19 bm19
          refine hK.out _ _ (fun _ => trivial) (fun hHeld0 => ?_)
          have hHeld := hHeld0 (by decide)
          clear hHeld0 hK K
          (try simp only [List.getElem_toArray, List.getElem_cons_zero, List.getElem_cons_succ, Act.put, List.setIfInBounds_toArray, List.set_cons_zero, List.set_cons_succ])
          refine wpAnyK_one (i := 1) (by kernel_rfl) rfl (fun K hK => ?_)
          (try simp only [List.getElem_toArray, List.getElem_cons_zero, List.getElem_cons_succ, Act.put, List.setIfInBounds_toArray, List.set_cons_zero, List.set_cons_succ])
          go_simp
          refine (pcln20 M19).mono ?_
          rintro e6 w6 ⟨rfl, hw6⟩
          subst w6
          refine hK.out _ _ (fun _ => trivial) (fun hHeld0 => ?_)
          have hHeld := hHeld0 (by decide)
          clear hHeld0 hK K
          (try simp only [List.getElem_toArray, List.getElem_cons_zero, List.getElem_cons_succ, Act.put, List.setIfInBounds_toArray, List.set_cons_zero, List.set_cons_succ])
          refine wpAnyK_take (i := 6) (v := .agg #[.slice none 0 0, .slice (some ⟨W0.heap.size, 0, none⟩) 0 0, .slice (some ⟨A12.heap.size, 0, none⟩) 0 0]) rfl (by kernel_rfl) (by kernel_rfl) (by kernel_rfl) (by kernel_rfl) (fun _ _ _ h => nomatch h.1) (Or.inl ⟨by rfl, fun w hSw => by go_simp⟩) hHeld ?_
          simp only [List.getElem_toArray, List.getElem_cons_zero, List.getElem_cons_succ, Act.put, List.setIfInBounds_toArray, List.set_cons_zero, List.set_cons_succ]
          refine wpAnyK_one (i := 8) (by kernel_rfl) rfl (fun K hK => ?_)
          rw [if_pos (show Region.wanted _ _ = true from rfl)]
          refine wp_store_row 48 (.tmp 11) (.tmp 56) rfl M1.heap.size #[.slice none 0 0, .slice (some ⟨W0.heap.size, 0, none⟩) 0 0, .slice (some ⟨A12.heap.size, 0, none⟩) 0 0] rfl rfl _ _ qM19 (by kernel_rfl) rfl (by first | kernel_rfl | simp [Value.oneCell']) ?_
          refine hK.out _ _ (fun _ => trivial) (fun _ => ?_)
          clear hK K
          refine wpAnyK_done (by kernel_rfl) ?_ _
          exact ⟨rfl, _, _, _, rfl, setRow_heap _ _ _ _ _ _ qM19, gM19, fin20 BM19 gM19⟩
    · (try simp only [List.getElem_toArray, List.getElem_cons_zero, List.getElem_cons_succ, Act.put, List.setIfInBounds_toArray, List.set_cons_zero, List.set_cons_succ])
      go_simp
      have BM1 : Below w3.heap.size w3 M1 := BW0.trans (bm1.mono BW0.size)
      clear rm1 bm1
      refine hK.out _ _ (fun _ => trivial) (fun hHeld0 => ?_)
      have hHeld := hHeld0 (by decide)
      clear hHeld0 hK K
      (try simp only [List.getElem_toArray, List.getElem_cons_zero, List.getElem_cons_succ, Act.put, List.setIfInBounds_toArray, List.set_cons_zero, List.set_cons_succ])
      obtain ⟨M22, rm22, bm22⟩ := mk020 M1
      refine wpAnyK_three (i0 := 1) (i1 := 3) (i2 := 7) (by kernel_rfl) rfl rfl rfl (fun K hK => ?_) (fun K hK => ?_) (fun K hK => ?_)
      · (try simp only [List.getElem_toArray, List.getElem_cons_zero, List.getElem_cons_succ, Act.put, List.setIfInBounds_toArray, List.set_cons_zero, List.set_cons_succ])
        clear rm22 bm22
        go_simp
        refine (pcln20 M1).mono ?_
        rintro e6 w6 ⟨rfl, hw6⟩
        subst w6
        refine hK.out _ _ (fun _ => trivial) (fun hHeld0 => ?_)
        have hHeld := hHeld0 (by decide)
        clear hHeld0 hK K
        (try simp only [List.getElem_toArray, List.getElem_cons_zero, List.getElem_cons_succ, Act.put, List.setIfInBounds_toArray, List.set_cons_zero, List.set_cons_succ])
        obtain ⟨M23, rm23, bm23⟩ := mk020 M1
        refine wpAnyK_pair (i0 := 3) (i1 := 7) (by kernel_rfl) rfl rfl (fun K hK => ?_) (fun K hK => ?_)
        · (try simp only [List.getElem_toArray, List.getElem_cons_zero, List.getElem_cons_succ, Act.put, List.setIfInBounds_toArray, List.set_cons_zero, List.set_cons_succ])
          go_simp
          have BM23 : Below w3.heap.size w3 M23 := BM1.trans (bm23.mono BM1.size)
          clear rm23 bm23
          refine hK.out _ _ (fun _ => trivial) (fun hHeld0 => ?_)
          have hHeld := hHeld0 (by decide)
          clear hHeld0 hK K
          (try simp only [List.getElem_toArray, List.getElem_cons_zero, List.getElem_cons_succ, Act.put, List.setIfInBounds_toArray, List.set_cons_zero, List.set_cons_succ])
          refine wpAnyK_take (i := 6) (v := .agg #[.slice none 0 0, .slice (some ⟨M1.heap.size, 0, none⟩) 0 0, .slice (some ⟨W0.heap.size, 0, none⟩) 0 0]) rfl (by kernel_rfl) (by kernel_rfl) (by kernel_rfl) (by kernel_rfl) (fun _ _ _ h => nomatch h.1) (Or.inl ⟨by rfl, fun w hSw => by go_simp⟩) hHeld ?_
          simp only [List.getElem_toArray, List.getElem_cons_zero, List.getElem_cons_succ, Act.put, List.setIfInBounds_toArray, List.set_cons_zero, List.set_cons_succ]
          refine wpAnyK_one (i := 7) (by kernel_rfl) rfl (fun K hK => ?_)
          (try simp only [List.getElem_toArray, List.getElem_cons_zero, List.getElem_cons_succ, Act.put, List.setIfInBounds_toArray, List.set_cons_zero, List.set_cons_succ])
          go_simp
          have cb := cb16 M23 #[.slice none 0 0, .slice none 0 0, .slice none 0 0] 48
          obtain ⟨A24, hA24⟩ : ∃ A24, A24 = World.alloc M23 (.cells #[.slice none 0 0, .slice none 0 0, .slice none 0 0] 48) := ⟨_, rfl⟩
          rw [← hA24] at cb
          rw [← hA24]
          have BA24 : Below w3.heap.size w3 A24 := BM23.trans (cb.bl.mono BM23.size)
          have qA24 := cb.cl
          have gA24 : w3.heap.size ≤ M23.heap.size := BM23.size
          clear hA24 cb
          refine hK.out _ _ (fun _ => trivial) (fun hHeld0 => ?_)
          have hHeld := hHeld0 (by decide)
          clear hHeld0 hK K
          (try simp only [List.getElem_toArray, List.getElem_cons_zero, List.getElem_cons_succ, Act.put, List.setIfInBounds_toArray, List.set_cons_zero, List.set_cons_succ])
          refine wpAnyK_one (i := 8) (by kernel_rfl) rfl (fun K hK => ?_)
          rw [if_pos (show Region.wanted _ _ = true from rfl)]
          refine wp_store_row 48 (.tmp 11) (.tmp 56) rfl M23.heap.size #[.slice none 0 0, .slice (some ⟨M1.heap.size, 0, none⟩) 0 0, .slice (some ⟨W0.heap.size, 0, none⟩) 0 0] rfl rfl _ _ qA24 (by kernel_rfl) rfl (by first | kernel_rfl | simp [Value.oneCell']) ?_
          refine hK.out _ _ (fun _ => trivial) (fun _ => ?_)
          clear hK K
          refine wpAnyK_done (by kernel_rfl) ?_ _
          exact ⟨rfl, _, _, _, rfl, setRow_heap _ _ _ _ _ _ qA24, gA24, fin20 BA24 gA24⟩
        · (try simp only [List.getElem_toArray, List.getElem_cons_zero, List.getElem_cons_succ, Act.put, List.setIfInBounds_toArray, List.set_cons_zero, List.set_cons_succ])
          clear rm23 bm23
          go_simp
          have cb := cb16 M1 #[.slice none 0 0, .slice none 0 0, .slice none 0 0] 48
          obtain ⟨A23, hA23⟩ : ∃ A23, A23 = World.alloc M1 (.cells #[.slice none 0 0, .slice none 0 0, .slice none 0 0] 48) := ⟨_, rfl⟩
          rw [← hA23] at cb
          rw [← hA23]
          have BA23 : Below w3.heap.size w3 A23 := BM1.trans (cb.bl.mono BM1.size)
          have qA23 := cb.cl
          have gA23 : w3.heap.size ≤ M1.heap.size := BM1.size
          clear hA23 cb
          refine hK.out _ _ (fun _ => trivial) (fun hHeld0 => ?_)
          have hHeld := hHeld0 (by decide)
          clear hHeld0 hK K
          (try simp only [List.getElem_toArray, List.getElem_cons_zero, List.getElem_cons_succ, Act.put, List.setIfInBounds_toArray, List.set_cons_zero, List.set_cons_succ])
          obtain ⟨M25, rm25, bm25⟩ := mk020 A23
          refine wpAnyK_one (i := 3) (by kernel_rfl) rfl (fun K hK => ?_)
          (try simp only [List.getElem_toArray, List.getElem_cons_zero, List.getElem_cons_succ, Act.put, List.setIfInBounds_toArray, List.set_cons_zero, List.set_cons_succ])
          go_simp
          have BM25 : Below w3.heap.size w3 M25 := BA23.trans (bm25.mono BA23.size)
          have qM25 := (bm25.block _ (Array.getElem?_eq_some_iff.1 qA23).1).trans qA23
          have gM25 := gA23
          clear rm25 bm25
          refine hK.out _ _ (fun _ => trivial) (fun hHeld0 => ?_)
          have hHeld := hHeld0 (by decide)
          clear hHeld0 hK K
          (try simp only [List.getElem_toArray, List.getElem_cons_zero, List.getElem_cons_succ, Act.put, List.setIfInBounds_toArray, List.set_cons_zero, List.set_cons_succ])
          refine wpAnyK_take (i := 6) (v := .agg #[.slice none 0 0, .slice (some ⟨A23.heap.size, 0, none⟩) 0 0, .slice (some ⟨W0.heap.size, 0, none⟩) 0 0]) rfl (by kernel_rfl) (by kernel_rfl) (by kernel_rfl) (by kernel_rfl) (fun _ _ _ h => nomatch h.1) (Or.inl ⟨by rfl, fun w hSw => by go_simp⟩) hHeld ?_
          simp only [List.getElem_toArray, List.getElem_cons_zero, List.getElem_cons_succ, Act.put, List.setIfInBounds_toArray, List.set_cons_zero, List.set_cons_succ]
          refine wpAnyK_one (i := 8) (by kernel_rfl) rfl (fun K hK => ?_)
          rw [if_pos (show Region.wanted _ _ = true from rfl)]
          refine wp_store_row 48 (.tmp 11) (.tmp 56) rfl M1.heap.size #[.slice none 0 0, .slice (some ⟨A23.heap.size, 0, none⟩) 0 0, .slice (some ⟨W0.heap.size, 0, none⟩) 0 0] rfl rfl _ _ qM25 (by kernel_rfl) rfl (by first | kernel_rfl | simp [Value.oneCell']) ?_
          refine hK.out _ _ (fun _ => trivial) (fun _ => ?_)
          clear hK K
          refine wpAnyK_done (by kernel_rfl) ?_ _
          exact ⟨rfl, _, _, _, rfl, setRow_heap _ _ _ _ _ _ qM25, gM25, fin20 BM25 gM25⟩
      · (try simp only [List.getElem_toArray, List.getElem_cons_zero, List.getElem_cons_succ, Act.put, List.setIfInBounds_toArray, List.set_cons_zero, List.set_cons_succ])
        go_simp
        have BM22 : Below w3.heap.size w3 M22 := BM1.trans (bm22.mono BM1.size)
        clear rm22 bm22
        refine hK.out _ _ (fun _ => trivial) (fun hHeld0 => ?_)
        have hHeld := hHeld0 (by decide)
        clear hHeld0 hK K
        (try simp only [List.getElem_toArray, List.getElem_cons_zero, List.getElem_cons_succ, Act.put, List.setIfInBounds_toArray, List.set_cons_zero, List.set_cons_succ])
        refine wpAnyK_pair (i0 := 1) (i1 := 7) (by kernel_rfl) rfl rfl (fun K hK => ?_) (fun K hK => ?_)
        · (try simp only [List.getElem_toArray, List.getElem_cons_zero, List.getElem_cons_succ, Act.put, List.setIfInBounds_toArray, List.set_cons_zero, List.set_cons_succ])
          go_simp
          refine (pcln20 M22).mono ?_
          rintro e6 w6 ⟨rfl, hw6⟩
          subst w6
          refine hK.out _ _ (fun _ => trivial) (fun hHeld0 => ?_)
          have hHeld := hHeld0 (by decide)
          clear hHeld0 hK K
          (try simp only [List.getElem_toArray, List.getElem_cons_zero, List.getElem_cons_succ, Act.put, List.setIfInBounds_toArray, List.set_cons_zero, List.set_cons_succ])
          refine wpAnyK_take (i := 6) (v := .agg #[.slice none 0 0, .slice (some ⟨M1.heap.size, 0, none⟩) 0 0, .slice (some ⟨W0.heap.size, 0, none⟩) 0 0]) rfl (by kernel_rfl) (by kernel_rfl) (by kernel_rfl) (by kernel_rfl) (fun _ _ _ h => nomatch h.1) (Or.inl ⟨by rfl, fun w hSw => by go_simp⟩) hHeld ?_
          simp only [List.getElem_toArray, List.getElem_cons_zero, List.getElem_cons_succ, Act.put, List.setIfInBounds_toArray, List.set_cons_zero, List.set_cons_succ]
          refine wpAnyK_one (i := 7) (by kernel_rfl) rfl (fun K hK => ?_)
          (try simp only [List.getElem_toArray, List.getElem_cons_zero, List.getElem_cons_succ, Act.put, List.setIfInBounds_toArray, List.set_cons_zero, List.set_cons_succ])
          go_simp
          have cb := cb16 M22 #[.slice none 0 0, .slice none 0 0, .slice none 0 0] 48
          obtain ⟨A27, hA27⟩ : ∃ A27, A27 = World.alloc M22 (.cells #[.slice none 0 0, .slice none 0 0, .slice none 0 0] 48) := ⟨_, rfl⟩
          rw [← hA27] at cb
          rw [← hA27]
          have BA27 : Below w3.heap.size w3 A27 := BM22.trans (cb.bl.mono BM22.size)
          have qA27 := cb.cl
          have gA27 : w3.heap.size ≤ M22.heap.size := BM22.size
          clear hA27 cb
          refine hK.out _ _ (fun _ => trivial) (fun hHeld0 => ?_)
          have hHeld := hHeld0 (by decide)
          clear hHeld0 hK K
          (try simp only [List.getElem_toArray, List.getElem_cons_zero, List.getElem_cons_succ, Act.put, List.setIfInBounds_toArray, List.set_cons_zero, List.set_cons_succ])
          refine wpAnyK_one (i := 8) (by kernel_rfl) rfl (fun K hK => ?_)
          rw [if_pos (show Region.wanted _ _ = true from rfl)]
          refine wp_store_row 48 (.tmp 11) (.tmp 56) rfl M22.heap.size #[.slice none 0 0, .slice (some ⟨M1.heap.size, 0, none⟩) 0 0, .slice (some ⟨W0.heap.size, 0, none⟩) 0 0] rfl rfl _ _ qA27 (by kernel_rfl) rfl (by first | kernel_rfl | simp [Value.oneCell']) ?_
          refine hK.out _ _ (fun _ => trivial) (fun _ => ?_)
          clear hK K
          refine wpAnyK_done (by kernel_rfl) ?_ _
          exact ⟨rfl, _, _, _, rfl, setRow_heap _ _ _ _ _ _ qA27, gA27, fin20 BA27 gA27⟩
        · (try simp only [List.getElem_toArray, List.getElem_cons_zero, List.getElem_cons_succ, Act.put, List.setIfInBounds_toArray, List.set_cons_zero, List.set_cons_succ])
          go_simp
          have cb := cb16 M22 #[.slice none 0 0, .slice none 0 0, .slice none 0 0] 48
          obtain ⟨A26, hA26⟩ : ∃ A26, A26 = World.alloc M22 (.cells #[.slice none 0 0, .slice none 0 0, .slice none 0 0] 48) := ⟨_, rfl⟩
          rw [← hA26] at cb
          rw [← hA26]
          have BA26 : Below w3.heap.size w3 A26 := BM22.trans (cb.bl.mono BM22.size)
          have qA26 := cb.cl
          have gA26 : w3.heap.size ≤ M22.heap.size := BM22.size
          clear hA26 cb
          refine hK.out _ _ (fun _ => trivial) (fun hHeld0 => ?_)
          have hHeld := hHeld0 (by decide)
          clear hHeld0 hK K
          (try simp only [List.getElem_toArray, List.getElem_cons_zero, List.getElem_cons_succ, Act.put, List.setIfInBounds_toArray, List.set_cons_zero, List.set_cons_succ])
          refine wpAnyK_one (i := 1) (by kernel_rfl) rfl (fun K hK => ?_)
          (try simp only [List.getElem_toArray, List.getElem_cons_zero, List.getElem_cons_succ, Act.put, List.setIfInBounds_toArray, List.set_cons_zero, List.set_cons_succ])
          go_simp
          refine (pcln20 A26).mono ?_
          rintro e6 w6 ⟨rfl, hw6⟩
          subst w6
          refine hK.out _ _ (fun _ => trivial) (fun hHeld0 => ?_)
          have hHeld := hHeld0 (by decide)
          clear hHeld0 hK K
          (try simp only [List.getElem_toArray, List.getElem_cons_zero, List.getElem_cons_succ, Act.put, List.setIfInBounds_toArray, List.set_cons_zero, List.set_cons_succ])
          refine wpAnyK_take (i := 6) (v := .agg #[.slice none 0 0, .slice (some ⟨M1.heap.size, 0, none⟩) 0 0, .slice (some ⟨W0.heap.size, 0, none⟩) 0 0]) rfl (by kernel_rfl) (by kernel_rfl) (by kernel_rfl) (by kernel_rfl) (fun _ _ _ h => nomatch h.1) (Or.inl ⟨by rfl, fun w hSw => by go_simp⟩) hHeld ?_
          simp only [List.getElem_toArray, List.getElem_cons_zero, List.getElem_cons_succ, Act.put, List.setIfInBounds_toArray, List.set_cons_zero, List.set_cons_succ]
          refine wpAnyK_one (i := 8) (by kernel_rfl) rfl (fun K hK => ?_)
          rw [if_pos (show Region.wanted _ _ = true from rfl)]
          refine wp_store_row 48 (.tmp 11) (.tmp 56) rfl M22.heap.size #[.slice none 0 0, .slice (some ⟨M1.heap.size, 0, none⟩) 0 0, .slice (some ⟨W0.heap.size, 0, none⟩) 0 0] rfl rfl _ _ qA26 (by kernel_rfl) rfl (by first | kernel_rfl | simp [Value.oneCell']) ?_
          refine hK.out _ _ (fun _ => trivial) (fun _ => ?_)
          clear hK K
          refine wpAnyK_done (by kernel_rfl) ?_ _
          exact ⟨rfl, _, _, _, rfl, setRow_heap _ _ _ _ _ _ qA26, gA26, fin20 BA26 gA26⟩
      · (try simp only [List.getElem_toArray, List.getElem_cons_zero, List.getElem_cons_succ, Act.put, List.setIfInBounds_toArray, List.set_cons_zero, List.set_cons_succ])
        clear rm22 bm22
        go_simp
        have cb := cb16 M1 #[.slice none 0 0, .slice none 0 0, .slice none 0 0] 48
        obtain ⟨A22, hA22⟩ : ∃ A22, A22 = World.alloc M1 (.cells #[.slice none 0 0, .slice none 0 0, .slice none 0 0] 48) := ⟨_, rfl⟩
        rw [← hA22] at cb
        rw [← hA22]
        have BA22 : Below w3.heap.size w3 A22 := BM1.trans (cb.bl.mono BM1.size)
        have qA22 := cb.cl
        have gA22 : w3.heap.size ≤ M1.heap.size := BM1.size
        clear hA22 cb
        refine hK.out _ _ (fun _ => trivial) (fun hHeld0 => ?_)
        have hHeld := hHeld0 (by decide)
        clear hHeld0 hK K
        (try simp only [List.getElem_toArray, List.getElem_cons_zero, List.getElem_cons_succ, Act.put, List.setIfInBounds_toArray, List.set_cons_zero, List.set_cons_succ])
        obtain ⟨M29, rm29, bm29⟩ := mk020 A22
        refine wpAnyK_pair (i0 := 1) (i1 := 3) (by kernel_rfl) rfl rfl (fun K hK => ?_) (fun K hK => ?_)
        · (try simp only [List.getElem_toArray, List.getElem_cons_zero, List.getElem_cons_succ, Act.put, List.setIfInBounds_toArray, List.set_cons_zero, List.set_cons_succ])
          clear rm29 bm29
          go_simp
          refine (pcln20 A22).mono ?_
          rintro e6 w6 ⟨rfl, hw6⟩
          subst w6
          refine hK.out _ _ (fun _ => trivial) (fun hHeld0 => ?_)
          have hHeld := hHeld0 (by decide)
          clear hHeld0 hK K
          (try simp only [List.getElem_toArray, List.getElem_cons_zero, List.getElem_cons_succ, Act.put, List.setIfInBounds_toArray, List.set_cons_zero, List.set_cons_succ])
          obtain ⟨M30, rm30, bm30⟩ := mk020 A22
          refine wpAnyK_one (i := 3) (by kernel_rfl) rfl (fun K hK => ?_)
          (try simp only [List.getElem_toArray, List.getElem_cons_zero, List.getElem_cons_succ, Act.put, List.setIfInBounds_toArray, List.set_cons_zero, List.set_cons_succ])
          go_simp
          have BM30 : Below w3.heap.size w3 M30 := BA22.trans (bm30.mono BA22.size)
          have qM30 := (bm30.block _ (Array.getElem?_eq_some_iff.1 qA22).1).trans qA22
          have gM30 := gA22
          clear rm30 bm30
          refine hK.out _ _ (fun _ => trivial) (fun hHeld0 => ?_)
          have hHeld := hHeld0 (by decide)
          clear hHeld0 hK K
          (try simp only [List.getElem_toArray, List.getElem_cons_zero, List.getElem_cons_succ, Act.put, List.setIfInBounds_toArray, List.set_cons_zero, List.set_cons_succ])
          refine wpAnyK_take (i := 6) (v := .agg #[.slice none 0 0, .slice (some ⟨A22.heap.size, 0, none⟩) 0 0, .slice (some ⟨W0.heap.size, 0, none⟩) 0 0]) rfl (by kernel_rfl) (by kernel_rfl) (by kernel_rfl) (by kernel_rfl) (fun _ _ _ h => nomatch h.1) (Or.inl ⟨by rfl, fun w hSw => by go_simp⟩) hHeld ?_
          simp only [List.getElem_toArray, List.getElem_cons_zero, List.getElem_cons_succ, Act.put, List.setIfInBounds_toArray, List.set_cons_zero, List.set_cons_succ]
          refine wpAnyK_one (i := 8) (by kernel_rfl) rfl (fun K hK => ?_)
          rw [if_pos (show Region.wanted _ _ = true from rfl)]
          refine wp_store_row 48 (.tmp 11) (.tmp 56) rfl M1.heap.size #[.slice none 0 0, .slice (some ⟨A22.heap.size, 0, none⟩) 0 0, .slice (some ⟨W0.heap.size, 0, none⟩) 0 0] rfl rfl _ _ qM30 (by kernel_rfl) rfl (by first | kernel_rfl | simp [Value.oneCell']) ?_
          refine hK.out _ _ (fun _ => trivial) (fun _ => ?_)
          clear hK K
          refine wpAnyK_done (by kernel_rfl) ?_ _
          exact ⟨rfl, _, _, _, rfl, setRow_heap _ _ _ _ _ _ qM30, gM30, fin20 BM30 gM30⟩
        · (try simp only [List.getElem_toArray, List.getElem_cons_zero, List.getElem_cons_succ, Act.put, List.setIfInBounds_toArray, List.set_cons_zero, List.set_cons_succ])
          go_simp
          have BM29 : Below w3.heap.size w3 M29 := BA22.trans (bm29.mono BA22.size)
          have qM29 := (bm29.block _ (Array.getElem?_eq_some_iff.1 qA22).1).trans qA22
          have gM29 := gA22
          clear rm29 bm29
          refine hK.out _ _ (fun _ => trivial) (fun hHeld0 => ?_)
          have hHeld := hHeld0 (by decide)
          clear hHeld0 hK K
          (try simp only [List.getElem_toArray, List.getElem_cons_zero, List.getElem_cons_succ, Act.put, List.setIfInBounds_toArray, List.set_cons_zero, List.set_cons_succ])
          refine wpAnyK_one (i := 1) (by kernel_rfl) rfl (fun K hK => ?_)
          (try simp only [List.getElem_toArray, List.getElem_cons_zero, List.getElem_cons_succ, Act.put, List.setIfInBounds_toArray, List.set_cons_zero, List.set_cons_succ])
          go_simp
          refine (pcln20 M29).mono ?_
          rintro e6 w6 ⟨rfl, hw6⟩
          subst w6
          refine hK.out _ _ (fun _ => trivial) (fun hHeld0 => ?_)
          have hHeld := hHeld0 (by decide)
          clear hHeld0 hK K
          (try simp only [List.getElem_toArray, List.getElem_cons_zero, List.getElem_cons_succ, Act.put, List.setIfInBounds_toArray, List.set_cons_zero, List.set_cons_succ])
          refine wpAnyK_take (i := 6) (v := .agg #[.slice none 0 0, .slice (some ⟨A22.heap.size, 0, none⟩) 0 0, .slice (some ⟨W0.heap.size, 0, none⟩) 0 0]) rfl (by kernel_rfl) (by kernel_rfl) (by kernel_rfl) (by kernel_rfl) (fun _ _ _ h => nomatch h.1) (Or.inl ⟨by rfl, fun w hSw => by go_simp⟩) hHeld ?_
          simp only [List.getElem_toArray, List.getElem_cons_zero, List.getElem_cons_succ, Act.put, List.setIfInBounds_toArray, List.set_cons_zero, List.set_cons_succ]
          refine wpAnyK_one (i := 8) (by kernel_rfl) rfl (fun K hK => ?_)
          rw [if_pos (show Region.wanted _ _ = true from rfl)]
          refine wp_store_row 48 (.tmp 11) (.tmp 56) rfl M1.heap.size #[.slice none 0 0, .slice (some ⟨A22.heap.size, 0, none⟩) 0 0, .slice (some ⟨W0.heap.size, 0, none⟩) 0 0] rfl rfl _ _ qM29 (by kernel_rfl) rfl (by first | kernel_rfl | simp [Value.oneCell']) ?_
          refine hK.out _ _ (fun _ => trivial) (fun _ => ?_)
          clear hK K
          refine wpAnyK_done (by kernel_rfl) ?_ _
          exact ⟨rfl, _, _, _, rfl, setRow_heap _ _ _ _ _ _ qM29, gM29, fin20 BM29 gM29⟩
    · (try simp only [List.getElem_toArray, List.getElem_cons_zero, List.getElem_cons_succ, Act.put, List.setIfInBounds_toArray, List.set_cons_zero, List.set_cons_succ])
      clear rm1 bm1
      go_simp
      have cb := cb16 W0 #[.slice none 0 0, .slice none 0 0, .slice none 0 0] 48
      obtain ⟨A1, hA1⟩ : ∃ A1, A1 = World.alloc W0 (.cells #[.slice none 0 0, .slice none 0 0, .slice none 0 0] 48) := ⟨_, rfl⟩
      rw [← hA1] at cb
      rw [← hA1]
      have BA1 : Below w3.heap.size w3 A1 := BW0.trans (cb.bl.mono BW0.size)
      have qA1 := cb.cl
      have gA1 : w3.heap.size ≤ W0.heap.size := BW0.size
      clear hA1 cb
      refine hK.out _ _ (fun _ => trivial) (fun hHeld0 => ?_)
      have hHeld := hHeld0 (by decide)
      clear hHeld0 hK K
      (try simp only [List.getElem_toArray, List.getElem_cons_zero, List.getElem_cons_succ, Act.put, List.setIfInBounds_toArray, List.set_cons_zero, List.set_cons_succ])
      obtain ⟨M32, rm32, bm32⟩ := mk020 A1
      refine wpAnyK_three (i0 := 1) (i1 := 3) (i2 := 5) (by kernel_rfl) rfl rfl rfl (fun K hK => ?_) (fun K hK => ?_) (fun K hK => ?_)
      · (try simp only [List.getElem_toArray, List.getElem_cons_zero, List.getElem_cons_succ, Act.put, List.setIfInBounds_toArray, List.set_cons_zero, List.set_cons_succ])
        clear rm32 bm32
        go_simp
        refine (pcln20 A1).mono ?_
        rintro e6 w6 ⟨rfl, hw6⟩
        subst w6
        refine hK.out _ _ (fun _ => trivial) (fun hHeld0 => ?_)
        have hHeld := hHeld0 (by decide)
        clear hHeld0 hK K
        (try simp only [List.getElem_toArray, List.getElem_cons_zero, List.getElem_cons_succ, Act.put, List.setIfInBounds_toArray, List.set_cons_zero, List.set_cons_succ])
        obtain ⟨M33, rm33, bm33⟩ := mk020 A1
        refine wpAnyK_pair (i0 := 3) (i1 := 5) (by kernel_rfl) rfl rfl (fun K hK => ?_) (fun K hK => ?_)
        · (try simp only [List.getElem_toArray, List.getElem_cons_zero, List.getElem_cons_succ, Act.put, List.setIfInBounds_toArray, List.set_cons_zero, List.set_cons_succ])
          go_simp
          have BM33 : Below w3.heap.size w3 M33 := BA1.trans (bm33.mono BA1.size)
          have qM33 := (bm33.block _ (Array.getElem?_eq_some_iff.1 qA1).1).trans qA1
          have gM33 := gA1
          clear rm33 bm33
          refine hK.out _ _ (fun _ => trivial) (fun hHeld0 => ?_)
          have hHeld := hHeld0 (by decide)
          clear hHeld0 hK K
          (try simp only [List.getElem_toArray, List.getElem_cons_zero, List.getElem_cons_succ, Act.put, List.setIfInBounds_toArray, List.set_cons_zero, List.set_cons_succ])
          obtain ⟨M34, rm34, bm34⟩ := mk020 M33
          refine wpAnyK_one (i := 5) (by kernel_rfl) rfl (fun K hK => ?_)
          (try simp only [List.getElem_toArray, List.getElem_cons_zero, List.getElem_cons_succ, Act.put, List.setIfInBounds_toArray, List.set_cons_zero, List.set_cons_succ])
          go_simp
          have BM34 : Below w3.heap.size w3 M34 := BM33.trans (bm34.mono BM33.size)
          have qM34 := (bm34.block _ (Array.getElem?_eq_some_iff.1 qM33).1).trans qM33
          have gM34 := gM33
          clear rm34 bm34
          refine hK.out _ _ (fun _ => trivial) (fun hHeld0 => ?_)
          have hHeld := hHeld0 (by decide)
          clear hHeld0 hK K
          (try simp only [List.getElem_toArray, List.getElem_cons_zero, List.getElem_cons_succ, Act.put, List.setIfInBounds_toArray, List.set_cons_zero, List.set_cons_succ])
          refine wpAnyK_take (i := 6) (v := .agg #[.slice none 0 0, .slice (some ⟨A1.heap.size, 0, none⟩) 0 0, .slice (some ⟨M33.heap.size, 0, none⟩) 0 0]) rfl (by kernel_rfl) (by kernel_rfl) (by kernel_rfl) (by kernel_rfl) (fun _ _ _ h => nomatch h.1) (Or.inl ⟨by rfl, fun w hSw => by go_simp⟩) hHeld ?_
          simp only [List.getElem_toArray, List.getElem_cons_zero, List.getElem_cons_succ, Act.put, List.setIfInBounds_toArray, List.set_cons_zero, List.set_cons_succ]
          refine wpAnyK_one (i := 8) (by kernel_rfl) rfl (fun K hK => ?_)
          rw [if_pos (show Region.wanted _ _ = true from rfl)]
          refine wp_store_row 48 (.tmp 11) (.tmp 56) rfl W0.heap.size #[.slice none 0 0, .slice (some ⟨A1.heap.size, 0, none⟩) 0 0, .slice (some ⟨M33.heap.size, 0, none⟩) 0 0] rfl rfl _ _ qM34 (by kernel_rfl) rfl (by first | kernel_rfl | simp [Value.oneCell']) ?_
          refine hK.out _ _ (fun _ => trivial) (fun _ => ?_)
          clear hK K
          refine wpAnyK_done (by kernel_rfl) ?_ _
          exact ⟨rfl, _, _, _, rfl, setRow_heap _ _ _ _ _ _ qM34, gM34, fin20 BM34 gM34⟩
        · (try simp only [List.getElem_toArray, List.getElem_cons_zero, List.getElem_cons_succ, Act.put, List.setIfInBounds_toArray, List.set_cons_zero, List.set_cons_succ])
          go_simp
          have BM33 : Below w3.heap.size w3 M33 := BA1.trans (bm33.mono BA1.size)
          have qM33 := (bm33.block _ (Array.getElem?_eq_some_iff.1 qA1).1).trans qA1
          have gM33 := gA1
          clear rm33 bm33
          refine hK.out _ _ (fun _ => trivial) (fun hHeld0 => ?_)
          have hHeld := hHeld0 (by decide)
          clear hHeld0 hK K
          (try simp only [List.getElem_toArray, List.getElem_cons_zero, List.getElem_cons_succ, Act.put, List.setIfInBounds_toArray, List.set_cons_zero, List.set_cons_succ])
          obtain ⟨M35, rm35, bm35⟩ := mk020 M33
          refine wpAnyK_one (i := 3) (by kernel_rfl) rfl (fun K hK => ?_)
          (try simp only [List.getElem_toArray, List.getElem_cons_zero, List.getElem_cons_succ, Act.put, List.setIfInBounds_toArray, List.set_cons_zero, List.set_cons_succ])
          go_simp
          have BM35 : Below w3.heap.size w3 M35 := BM33.trans (bm35.mono BM33.size)
          have qM35 := (bm35.block _ (Array.getElem?_eq_some_iff.1 qM33).1).trans qM33
          have gM35 := gM33
          clear rm35 bm35
          refine hK.out _ _ (fun _ => trivial) (fun hHeld0 => ?_)
          have hHeld := hHeld0 (by decide)
          clear hHeld0 hK K
          (try simp only [List.getElem_toArray, List.getElem_cons_zero, List.getElem_cons_succ, Act.put, List.setIfInBounds_toArray, List.set_cons_zero, List.set_cons_succ])
          refine wpAnyK_take (i := 6) (v := .agg #[.slice none 0 0, .slice (some ⟨M33.heap.size, 0, none⟩) 0 0, .slice (some ⟨A1.heap.size, 0, none⟩) 0 0]) rfl (by kernel_rfl) (by kernel_rfl) (by kernel_rfl) (by kernel_rfl) (fun _ _ _ h => nomatch h.1) (Or.inl ⟨by rfl, fun w hSw => by go_simp⟩) hHeld ?_
          simp only [List.getElem_toArray, List.getElem_cons_zero, List.getElem_cons_succ, Act.put, List.setIfInBounds_toArray, List.set_cons_zero, List.set_cons_succ]
          refine wpAnyK_one (i := 8) (by kernel_rfl) rfl (fun K hK => ?_)
          rw [if_pos (show Region.wanted _ _ = true from rfl)]
          refine wp_store_row 48 (.tmp 11) (.tmp 56) rfl W0.heap.size #[.slice none 0 0, .slice (some ⟨M33.heap.size, 0, none⟩) 0 0, .slice (some ⟨A1.heap.size, 0, none⟩) 0 0] rfl rfl _ _ qM35 (by kernel_rfl) rfl (by first | kernel_rfl | simp [Value.oneCell']) ?_
          refine hK.out _ _ (fun _ => trivial) (fun _ => ?_)
          clear hK K
          refine wpAnyK_done (by kernel_rfl) ?_ _
          exact ⟨rfl, _, _, _, rfl, setRow_heap _ _ _ _ _ _ qM35, gM35, fin20 BM35 gM35⟩
      · (try simp only [List.getElem_toArray, List.getElem_cons_zero, List.getElem_cons_succ, Act.put, List.setIfInBounds_toArray, List.set_cons_zero, List.set_cons_succ])
        go_simp
        have BM32 : Below w3.heap.size w3 M32 := BA1.trans (bm32.mono BA1.size)
        have qM32 := (bm32.block _ (Array.getElem?_eq_some_iff.1 qA1).1).trans qA1
        have gM32 := gA1
        clear rm32 bm32
        refine hK.out _ _ (fun _ => trivial) (fun hHeld0 => ?_)
        have hHeld := hHeld0 (by decide)
        clear hHeld0 hK K
        (try simp only [List.getElem_toArray, List.getElem_cons_zero, List.getElem_cons_succ, Act.put, List.setIfInBounds_toArray, List.set_cons_zero, List.set_cons_succ])
        obtain ⟨M36, rm36, bm36⟩ := mk020 M32
        refine wpAnyK_pair (i0 := 1) (i1 := 5) (by kernel_rfl) rfl rfl (fun K hK => ?_) (fun K hK => ?_)
        · (try simp only [List.getElem_toArray, List.getElem_cons_zero, List.getElem_cons_succ, Act.put, List.setIfInBounds_toArray, List.set_cons_zero, List.set_cons_succ])
          clear rm36 bm36
          go_simp
          refine (pcln20 M32).mono ?_
          rintro e6 w6 ⟨rfl, hw6⟩
          subst w6
          refine hK.out _ _ (fun _ => trivial) (fun hHeld0 => ?_)
          have hHeld := hHeld0 (by decide)
          clear hHeld0 hK K
          (try simp only [List.getElem_toArray, List.getElem_cons_zero, List.getElem_cons_succ, Act.put, List.setIfInBounds_toArray, List.set_cons_zero, List.set_cons_succ])
          obtain ⟨M37, rm37, bm37⟩ := mk020 M32
          refine wpAnyK_one (i := 5) (by kernel_rfl) rfl (fun K hK => ?_)
          (try simp only [List.getElem_toArray, List.getElem_cons_zero, List.getElem_cons_succ, Act.put, List.setIfInBounds_toArray, List.set_cons_zero, List.set_cons_succ])
          go_simp
          have BM37 : Below w3.heap.size w3 M37 := BM32.trans (bm37.mono BM32.size)
          have qM37 := (bm37.block _ (Array.getElem?_eq_some_iff.1 qM32).1).trans qM32
          have gM37 := gM32
          clear rm37 bm37
          refine hK.out _ _ (fun _ => trivial) (fun hHeld0 => ?_)
          have hHeld := hHeld0 (by decide)
          clear hHeld0 hK K
          (try simp only [List.getElem_toArray, List.getElem_cons_zero, List.getElem_cons_succ, Act.put, List.setIfInBounds_toArray, List.set_cons_zero, List.set_cons_succ])
          refine wpAnyK_take (i := 6) (v := .agg #[.slice none 0 0, .slice (some ⟨A1.heap.size, 0, none⟩) 0 0, .slice (some ⟨M32.heap.size, 0, none⟩) 0 0]) rfl (by kernel_rfl) (by kernel_rfl) (by kernel_rfl) (by kernel_rfl) (fun _ _ _ h => nomatch h.1) (Or.inl ⟨by rfl, fun w hSw => by go_simp⟩) hHeld ?_
          simp only [List.getElem_toArray, List.getElem_cons_zero, List.getElem_cons_succ, Act.put, List.setIfInBounds_toArray, List.set_cons_zero, List.set_cons_succ]
          refine wpAnyK_one (i := 8) (by kernel_rfl) rfl (fun K hK => ?_)
          rw [if_pos (show Region.wanted _ _ = true from rfl)]
          refine wp_store_row 48 (.tmp 11) (.tmp 56) rfl W0.heap.size #[.slice none 0 0, .slice (some ⟨A1.heap.size, 0, none⟩) 0 0, .slice (some ⟨M32.heap.size, 0, none⟩) 0 0] rfl rfl _ _ qM37 (by kernel_rfl) rfl (by first | kernel_rfl | simp [Value.oneCell']) ?_
          refine hK.out _ _ (fun _ => trivial) (fun _ => ?_)
          clear hK K
          refine wpAnyK_done (by kernel_rfl) ?_ _
          exact ⟨rfl, _, _, _, rfl, setRow_heap _ _ _ _ _ _ qM37, gM37, fin20 BM37 gM37⟩
        · (try simp only [List.getElem_toArray, List.getElem_cons_zero, List.getElem_cons_succ, Act.put, List.setIfInBounds_toArray, List.set_cons_zero, List.set_cons_succ])
          go_simp
          have BM36 : Below w3.heap.size w3 M36 := BM32.trans (bm36.mono BM32.size)
          have qM36 := (bm36.block _ (Array.getElem?_eq_some_iff.1 qM32).1).trans qM32
          have gM36 := gM32
          clear rm36 bm36
          refine hK.out _ _ (fun _ => trivial) (fun hHeld0 => ?_)
          have hHeld := hHeld0 (by decide)
          clear hHeld0 hK K
          (try simp only [List.getElem_toArray, List.getElem_cons_zero, List.getElem_cons_succ, Act.put, List.setIfInBounds_toArray, List.set_cons_zero, List.set_cons_succ])
          refine wpAnyK_one (i := 1) (by kernel_rfl) rfl (fun K hK => ?_)
          (try simp only [List.getElem_toArray, List.getElem_cons_zero, List.getElem_cons_succ, Act.put, List.setIfInBounds_toArray, List.set_cons_zero, List.set_cons_succ])
          go_simp
          refine (pcln20 M36).mono ?_
          rintro e6 w6 ⟨rfl, hw6⟩
          subst w6
          refine hK.out _ _ (fun _ => trivial) (fun hHeld0 => ?_)
          have hHeld := hHeld0 (by decide)
          clear hHeld0 hK K
          (try simp only [List.getElem_toArray, List.getElem_cons_zero, List.getElem_cons_succ, Act.put, List.setIfInBounds_toArray, List.set_cons_zero, List.set_cons_succ])
          refine wpAnyK_take (i := 6) (v := .agg #[.slice none 0 0, .slice (some ⟨A1.heap.size, 0, none⟩) 0 0, .slice (some ⟨M32.heap.size, 0, none⟩) 0 0]) rfl (by kernel_rfl) (by kernel_rfl) (by kernel_rfl) (by kernel_rfl) (fun _ _ _ h => nomatch h.1) (Or.inl ⟨by rfl, fun w hSw => by go_simp⟩) hHeld ?_
          simp only [List.getElem_toArray, List.getElem_cons_zero, List.getElem_cons_succ, Act.put, List.setIfInBounds_toArray, List.set_cons_zero, List.set_cons_succ]
          refine wpAnyK_one (i := 8) (by kernel_rfl) rfl (fun K hK => ?_)
          rw [if_pos (show Region.wanted _ _ = true from rfl)]
          refine wp_store_row 48 (.tmp 11) (.tmp 56) rfl W0.heap.size #[.slice none 0 0, .slice (some ⟨A1.heap.size, 0, none⟩) 0 0, .slice (some ⟨M32.heap.size, 0, none⟩) 0 0] rfl rfl _ _ qM36 (by kernel_rfl) rfl (by first | kernel_rfl | simp [Value.oneCell']) ?_
          refine hK.out _ _ (fun _ => trivial) (fun _ => ?_)
          clear hK K
          refine wpAnyK_done (by kernel_rfl) ?_ _
          exact ⟨rfl, _, _, _, rfl, setRow_heap _ _ _ _ _ _ qM36, gM36, fin20 BM36 gM36⟩
      · (try simp only [List.getElem_toArray, List.getElem_cons_zero, List.getElem_cons_succ, Act.put, List.setIfInBounds_toArray, List.set_cons_zero, List.set_cons_succ])
        go_simp
        have BM32 : Below w3.heap.size w3 M32 := BA1.trans (bm32.mono BA1.size)
        have qM32 := (bm32.block _ (Array.getElem?_eq_some_iff.1 qA1).1).trans qA1
        have gM32 := gA1
        clear rm32 bm32
        refine hK.out _ _ (fun _ => trivial) (fun hHeld0 => ?_)
        have hHeld := hHeld0 (by decide)
        clear hHeld0 hK K
        (try simp only [List.getElem_toArray, List.getElem_cons_zero, List.getElem_cons_succ, Act.put, List.setIfInBounds_toArray, List.set_cons_zero, List.set_cons_succ])
        obtain ⟨M39, rm39, bm39⟩ := mk020 M32
        refine wpAnyK_pair (i0 := 1) (i1 := 3) (by kernel_rfl) rfl rfl (fun K hK => ?_) (fun K hK => ?_)
        · (try simp only [List.getElem_toArray, List.getElem_cons_zero, List.getElem_cons_succ, Act.put, List.setIfInBounds_toArray, List.set_cons_zero, List.set_cons_succ])
          clear rm39 bm39
          go_simp
          refine (pcln20 M32).mono ?_
          rintro e6 w6 ⟨rfl, hw6⟩
          subst w6
          refine hK.out _ _ (fun _ => trivial) (fun hHeld0 => ?_)
          have hHeld := hHeld0 (by decide)
          clear hHeld0 hK K
          (try simp only [List.getElem_toArray, List.getElem_cons_zero, List.getElem_cons_succ, Act.put, List.setIfInBounds_toArray, List.set_cons_zero, List.set_cons_succ])
          obtain ⟨M40, rm40, bm40⟩ := mk020 M32
          refine wpAnyK_one (i := 3) (by kernel_rfl) rfl (fun K hK => ?_)
          (try simp only [List.getElem_toArray, List.getElem_cons_zero, List.getElem_cons_succ, Act.put, List.setIfInBounds_toArray, List.set_cons_zero, List.set_cons_succ])
          go_simp
          have BM40 : Below w3.heap.size w3 M40 := BM32.trans (bm40.mono BM32.size)
          have qM40 := (bm40.block _ (Array.getElem?_eq_some_iff.1 qM32).1).trans qM32
          have gM40 := gM32
          clear rm40 bm40
          refine hK.out _ _ (fun _ => trivial) (fun hHeld0 => ?_)
          have hHeld := hHeld0 (by decide)
          clear hHeld0 hK K
          (try simp only [List.getElem_toArray, List.getElem_cons_zero, List.getElem_cons_succ, Act.put, List.setIfInBounds_toArray, List.set_cons_zero, List.set_cons_succ])
          refine wpAnyK_take (i := 6) (v := .agg #[.slice none 0 0, .slice (some ⟨M32.heap.size, 0, none⟩) 0 0, .slice (some ⟨A1.heap.size, 0, none⟩) 0 0]) rfl (by kernel_rfl) (by kernel_rfl) (by kernel_rfl) (by kernel_rfl) (fun _ _ _ h => nomatch h.1) (Or.inl ⟨by rfl, fun w hSw => by go_simp⟩) hHeld ?_
          simp only [List.getElem_toArray, List.getElem_cons_zero, List.getElem_cons_succ, Act.put, List.setIfInBounds_toArray, List.set_cons_zero, List.set_cons_succ]
          refine wpAnyK_one (i := 8) (by kernel_rfl) rfl (fun K hK => ?_)
          rw [if_pos (show Region.wanted _ _ = true from rfl)]
          refine wp_store_row 48 (.tmp 11) (.tmp 56) rfl W0.heap.size #[.slice none 0 0, .slice (some ⟨M32.heap.size, 0, none⟩) 0 0, .slice (some ⟨A1.heap.size, 0, none⟩) 0 0] rfl rfl _ _ qM40 (by kernel_rfl) rfl (by first | kernel_rfl | simp [Value.oneCell']) ?_
          refine hK.out _ _ (fun _ => trivial) (fun _ => ?_)
          clear hK K
          refine wpAnyK_done (by kernel_rfl) ?_ _
          exact ⟨rfl, _, _, _, rfl, setRow_heap _ _ _ _ _ _ qM40, gM40, fin20 BM40 gM40⟩
        · (try simp only [List.getElem_toArray, List.getElem_cons_zero, List.getElem_cons_succ, Act.put, List.setIfInBounds_toArray, List.set_cons_zero, List.set_cons_succ])
          go_simp
          have BM39 : Below w3.heap.size w3 M39 := BM32.trans (bm39.mono BM32.size)
          have qM39 := (bm39.block _ (Array.getElem?_eq_some_iff.1 qM32).1).trans qM32
          have gM39 := gM32
          clear rm39 bm39
          refine hK.out _ _ (fun _ => trivial) (fun hHeld0 => ?_)
          have hHeld := hHeld0 (by decide)
          clear hHeld0 hK K
          (try simp only [List.getElem_toArray, List.getElem_cons_zero, List.getElem_cons_succ, Act.put, List.setIfInBounds_toArray, List.set_cons_zero, List.set_cons_succ])
          refine wpAnyK_one (i := 1) (by kernel_rfl) rfl (fun K hK => ?_)
          (try simp only [List.getElem_toArray, List.getElem_cons_zero, List.getElem_cons_succ, Act.put, List.setIfInBounds_toArray, List.set_cons_zero, List.set_cons_succ])
          go_simp
          refine (pcln20 M39).mono ?_
          rintro e6 w6 ⟨rfl, hw6⟩
          subst w6
          refine hK.out _ _ (fun _ => trivial) (fun hHeld0 => ?_)
          have hHeld := hHeld0 (by decide)
          clear hHeld0 hK K
          (try simp only [List.getElem_toArray, List.getElem_cons_zero, List.getElem_cons_succ, Act.put, List.setIfInBounds_toArray, List.set_cons_zero, List.set_cons_succ])
          refine wpAnyK_take (i := 6) (v := .agg #[.slice none 0 0, .slice (some ⟨M32.heap.size, 0, none⟩) 0 0, .slice (some ⟨A1.heap.size, 0, none⟩) 0 0]) rfl (by kernel_rfl) (by kernel_rfl) (by kernel_rfl) (by kernel_rfl) (fun _ _ _ h => nomatch h.1) (Or.inl ⟨by rfl, fun w hSw => by go_simp⟩) hHeld ?_
          simp only [List.getElem_toArray, List.getElem_cons_zero, List.getElem_cons_succ, Act.put, List.setIfInBounds_toArray, List.set_cons_zero, List.set_cons_succ]
          refine wpAnyK_one (i := 8) (by kernel_rfl) rfl (fun K hK => ?_)
          rw [if_pos (show Region.wanted _ _ = true from rfl)]
          refine wp_store_row 48 (.tmp 11) (.tmp 56) rfl W0.heap.size #[.slice none 0 0, .slice (some ⟨M32.heap.size, 0, none⟩) 0 0, .slice (some ⟨A1.heap.size, 0, none⟩) 0 0] rfl rfl _ _ qM39 (by kernel_rfl) rfl (by first | kernel_rfl | simp [Value.oneCell']) ?_
          refine hK.out _ _ (fun _ => trivial) (fun _ => ?_)
          clear hK K
          refine wpAnyK_done (by kernel_rfl) ?_ _
          exact ⟨rfl, _, _, _, rfl, setRow_heap _ _ _ _ _ _ qM39, gM39, fin20 BM39 gM39⟩
  rintro e9 a9 W ⟨rfl, ga, gx, gO, rfl, qO, hgO, BW⟩
  have BW0 : Below w.heap.size w W := HB3.out.1.trans (BW.mono HB3.out.1.size)
  have q6 := (BW.block _ (Array.getElem?_eq_some_iff.1 HQ6.out).1).trans HQ6.out
  have hlO := (Array.getElem?_eq_some_iff.1 qO).1
  have hl6 := (Array.getElem?_eq_some_iff.1 q6).1
  have CW := pwalk16 none 0 0 W
  obtain ⟨ob, hob⟩ : ∃ ob, ob = W.heap.size := ⟨_, rfl⟩
  have HOB : Hid (W.heap.size = ob) := hob.symm
  have HN : Hid (b6 ≠ gO ∧ w.heap.size ≤ gO ∧ w.heap.size ≤ b6) := by
    have h1 := (Array.getElem?_eq_some_iff.1 HQ6.out).1
    have h2 := HB3.out.1.size
    have h3 := HW.out.2.2.2
    exact ⟨by omega, by omega, by omega⟩
  clear HQ4 HQ6 HCO HB5 BW hgO
  refine fn16_seq (fn16_seq (fn16_ofP ?_))
  go_wp2_with fail
  refine CW.mono ?_
  rintro e8 w7 ⟨rfl, cb⟩
  rw [HOB.out]
  clear CW
  go_wp2_with fail
  have q7 := cb.cl
  have SQ := wk16 5 (by omega) ob none 0 0 [] (fun k => k = ob) w7 (one_cell16 (by rw [← HOB.out]; exact q7)) (SegS.nil w7 none) rfl (by decide) (Ok16.zero _) rfl (fun b off e => by cases e)
  have R0 : Mr20 w gO b6 ga gx w7 := ⟨(cb.bl.block _ hlO).trans qO, (cb.bl.block _ hl6).trans q6, BW0.trans (cb.bl.mono BW0.size)⟩
  have sz := cb.sz
  have HS : Hid (gO < w7.heap.size ∧ b6 < w7.heap.size ∧ w.heap.size ≤ w7.heap.size ∧ ob < w7.heap.size) := ⟨by omega, by omega, by have := BW0.size; omega, by have := HOB.out; omega⟩
  clear qO q6 hlO hl6 BW0 q7 cb sz hob
  refine fn16_block ?_
  refine range16 (n := 5) (w := w7) Tryz.func34 (gf := 87) (lb := #[.pointer (some ⟨ob, 0, none⟩)]) ?_ ?_ ?_ SQ ?_
    (fun i E V => Mr20 w gO b6 ga gx V) ?_ (fun _ _ _ => False) ?_ R0 ?_ ?_ ?_
  · go_simp
    exact HOB.out
  · intro _ _; rfl
  · intro k hk
    have hk : k = ob := hk
    have := HS.out
    omega
  · intro v hv
    simp [wl16] at hv
  · intro i E E' A B hA hlo hk _ _ _
    have := HS.out
    exact hA.kp hk (fun h => by have := (hlo _ h).1; omega) (fun h => by have := (hlo _ h).1; omega) (fun k h => by have := (hlo _ h).1; omega)
  · intro _ _ _ _ _ h; exact h.elim
  · intro l i v E V hv
    simp [wl16] at hv
  · intro D E V hED hlo hI hD
    have HDw : Hid (w7.heap.size ≤ D) := (hlo D hED).1
    obtain ⟨i1, i2, i3⟩ := hI
    have c0 : V.cell? ⟨gO, 0, none⟩ = some (.slice none 0 0) := cell18 i1 rfl
    have c1 : V.cell? ⟨gO, 1, none⟩ = some (.slice (some ⟨ga, 0, none⟩) 0 0) := cell18 i1 rfl
    have c2 : V.cell? ⟨gO, 2, none⟩ = some (.slice (some ⟨gx, 0, none⟩) 0 0) := cell18 i1 rfl
    have HI2 : Hid (V.heap[b6]? = some (.cells #[.slice none 0 0, .slice none 0 0, .slice none 0 0] 48 (0, 0)) ∧ Below w.heap.size w V) := ⟨i2, i3⟩
    have HD : Hid (V.heap[D]? = some (.deferred (some []))) := hD
    clear i1 i2 i3 hlo SQ R0 hD hED
    refine fn16_ofP ?_
    go_wp2_with (refine wpList_store_row rfl 48 (.tmp 6) (.tmp 105) rfl b6 #[.slice none 0 0, .slice (some ⟨ga, 0, none⟩) 0 0, .slice (some ⟨gx, 0, none⟩) 0 0] rfl rfl _ _ HI2.out.1 (by kernel_rfl) rfl (by first | kernel_rfl | simp [Value.oneCell']) ?_)
    have hDb : D ≠ b6 := by have := HS.out; have := HDw.out; omega
    refine ⟨by simp, .inl ⟨_, _, rfl, run_takeDeferred (w := V.setRow b6 #[.slice none 0 0, .slice (some ⟨ga, 0, none⟩) 0 0, .slice (some ⟨gx, 0, none⟩) 0 0]) ((setRow_other V b6 D _ hDb).trans HD.out), ?_⟩⟩
    have q9 : (V.setRow b6 #[.slice none 0 0, .slice (some ⟨ga, 0, none⟩) 0 0, .slice (some ⟨gx, 0, none⟩) 0 0]).heap[b6]? = some (.cells #[.slice none 0 0, .slice (some ⟨ga, 0, none⟩) 0 0, .slice (some ⟨gx, 0, none⟩) 0 0] 48 (0, 0)) := setRow_heap _ _ _ _ _ _ HI2.out.1
    have K9 : Kp (fun k => w.heap.size ≤ k) V (V.setRow b6 #[.slice none 0 0, .slice (some ⟨ga, 0, none⟩) 0 0, .slice (some ⟨gx, 0, none⟩) 0 0]) := (grow20 _ _ _).mono (fun k _ y => by have y : k = b6 := y; have := HN.out; show w.heap.size ≤ k; omega)
    have K10 : Kp (fun k => k = D) (V.setRow b6 #[.slice none 0 0, .slice (some ⟨ga, 0, none⟩) 0 0, .slice (some ⟨gx, 0, none⟩) 0 0]) (World.putObj (V.setRow b6 #[.slice none 0 0, .slice (some ⟨ga, 0, none⟩) 0 0, .slice (some ⟨gx, 0, none⟩) 0 0]) D (.deferred none)) := Kp.put16 (S := fun k => k = D) rfl _
    refine ⟨.tuple #[.agg #[.slice none 0 0, .slice (some ⟨ga, 0, none⟩) 0 0, .slice (some ⟨gx, 0, none⟩) 0 0], .int .i64 0], results_ct20 (p := 6) (u := 7) (ty := 48) rfl _ _ b6 _ _ _ _ rfl (K10.heap q9 (fun x => hDb (Eq.symm x))) Tryz.underlying48 rfl (by kernel_rfl), ga, gx, rfl, ?_⟩
    have KK : Kp (fun k => w.heap.size ≤ k) w (World.putObj (V.setRow b6 #[.slice none 0 0, .slice (some ⟨ga, 0, none⟩) 0 0, .slice (some ⟨gx, 0, none⟩) 0 0]) D (.deferred none)) := ((Kp.of_below (S := fun k => w.heap.size ≤ k) HI2.out.2).trans K9 (fun _ _ x => x)).trans K10 (fun k _ x => by have x : k = D := x; have := HDw.out; have := HS.out; show w.heap.size ≤ k; omega)
    rw [← HW.out.2.1]
    exact KK.below (fun _ x => x) (Nat.le_refl _)
  · intro ch D E V _ _ h; exact h.elim
end Go.Proofs.YtmfpdchfofffeaaGreatDoor
