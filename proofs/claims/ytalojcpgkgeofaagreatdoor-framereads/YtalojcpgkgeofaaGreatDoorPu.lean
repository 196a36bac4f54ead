import Derived.Test.YtalojcpgkgeofaaGreatDoorPt
namespace Go.Proofs.YtalojcpgkgeofaaGreatDoor
open Go.RowKit Go.Shelf
set_option linter.unusedVariables false
set_option linter.unusedSimpArgs false

/-! The document's ReadHead. -/
/-- The header as the document reads it, however great its numbers. -/
def hc18 (z : List Int) (p : Nat) : Hd18 := ⟨mi18 (vl18 (z.drop 5) 0 0), mi18 (vl18 (z.drop 5) 0 1), wd18 z (5 + p), wd18 z (5 + p + 4), mi18 (vl18 (z.drop 5) 0 2), mi18 (vl18 (z.drop 5) 0 3)⟩
theorem vl18_drop (z : List Int) (j : Nat) : vl18 (z.drop 5) 0 j = vl18 z 5 j := by
  unfold vl18
  rw [List.drop_drop, ← pl18_drop]
theorem mi18_in {v lo hi : Int} (hh : hi ≤ 16777216) : lo ≤ mi18 v ∧ mi18 v ≤ hi ↔ lo ≤ v ∧ v ≤ hi ∨ (4611686018427387904 < v ∧ lo ≤ 4611686018427387904 ∧ 4611686018427387904 ≤ hi) := by
  unfold mi18
  split <;> omega
theorem nj18_no {z : List Int} (h : ¬ Nk18 (z.drop 5) 4) : ¬ Hf18 z := fun x => h (fun j hj => by
  have := (x.2.1 j hj).1
  rw [List.drop_drop, ← pl18_drop]
  exact this)
theorem nj18_ok {z : List Int} {p : Nat} (h : Nk18 (z.drop 5) 4) (hp : p = pl18 (z.drop 5) 0 4) : Nj18 z 5 4 ↔ (hc18 z p).Ok := by
  have hd : ∀ j, j < 4 → (decL 0 0 (z.drop (pl18 z 5 j))).2.2 = 0 := fun j hj => by
    have := h j hj
    rw [List.drop_drop, ← pl18_drop] at this
    exact this
  have e0 := vl18_drop z 0
  have e1 := vl18_drop z 1
  have e2 := vl18_drop z 2
  have e3 := vl18_drop z 3
  constructor
  · intro x
    have x0 : 0 ≤ vl18 z 5 0 ∧ vl18 z 5 0 ≤ 16777216 := (x 0 (by omega)).2
    have x1 : 0 ≤ vl18 z 5 1 ∧ vl18 z 5 1 ≤ 16777216 := (x 1 (by omega)).2
    have x2 : 64 ≤ vl18 z 5 2 ∧ vl18 z 5 2 ≤ 65536 := (x 2 (by omega)).2
    have x3 : 1 ≤ vl18 z 5 3 ∧ vl18 z 5 3 ≤ 32768 := (x 3 (by omega)).2
    unfold Hd18.Ok hc18
    simp only [e0, e1, e2, e3]
    exact ⟨(mi18_in (by omega)).2 (.inl x0), (mi18_in (by omega)).2 (.inl x1), (mi18_in (by omega)).2 (.inl x2), (mi18_in (by omega)).2 (.inl x3)⟩
  · intro x j hj
    unfold Hd18.Ok hc18 at x
    simp only [e0, e1, e2, e3] at x
    obtain ⟨x0, x1, x2, x3⟩ := x
    have y0 : 0 ≤ vl18 z 5 0 ∧ vl18 z 5 0 ≤ 16777216 := by rcases (mi18_in (by omega)).1 x0 with y | y; exact y; omega
    have y1 : 0 ≤ vl18 z 5 1 ∧ vl18 z 5 1 ≤ 16777216 := by rcases (mi18_in (by omega)).1 x1 with y | y; exact y; omega
    have y2 : 64 ≤ vl18 z 5 2 ∧ vl18 z 5 2 ≤ 65536 := by rcases (mi18_in (by omega)).1 x2 with y | y; exact y; omega
    have y3 : 1 ≤ vl18 z 5 3 ∧ vl18 z 5 3 ≤ 32768 := by rcases (mi18_in (by omega)).1 x3 with y | y; exact y; omega
    refine ⟨hd j hj, ?_⟩
    rcases (by omega : j = 0 ∨ j = 1 ∨ j = 2 ∨ j = 3) with rfl | rfl | rfl | rfl
    · exact y0
    · exact y1
    · exact y2
    · exact y3
theorem hc18_is {z : List Int} {p : Nat} (hj : Nj18 z 5 4) (hp : p = pl18 (z.drop 5) 0 4) : hc18 z p = hr18 z := by
  have hP : pl18 z 5 4 = 5 + p := by rw [hp]; exact pl18_drop z 5 4
  have x0 : 0 ≤ vl18 z 5 0 ∧ vl18 z 5 0 ≤ 16777216 := (hj 0 (by omega)).2
  have x1 : 0 ≤ vl18 z 5 1 ∧ vl18 z 5 1 ≤ 16777216 := (hj 1 (by omega)).2
  have x2 : 64 ≤ vl18 z 5 2 ∧ vl18 z 5 2 ≤ 65536 := (hj 2 (by omega)).2
  have x3 : 1 ≤ vl18 z 5 3 ∧ vl18 z 5 3 ≤ 32768 := (hj 3 (by omega)).2
  unfold hc18 hr18 hp18 mi18
  rw [vl18_drop z 0, vl18_drop z 1, vl18_drop z 2, vl18_drop z 3, hP, if_neg (by omega), if_neg (by omega), if_neg (by omega), if_neg (by omega)]
  rfl
section
variable {P : Program} {ops : Array Oper} {Q : Exit → Act → World → Prop} {md : Region.Mode} {S : World → Prop} {fin : Nat}
/-- Two that may come up. -/
theorem wpAnyK_two {i j : Nat} {fuel : Nat} {listed : Array Bool} {a : Act} {w : World} {o p : Oper} (hr : Region.ready md ops listed = [i, j]) (ho : ops[i]? = some o) (hp : ops[j]? = some p)
    (h : ∀ K' : Act → World → Prop, Shut (∀ a w, (i ≠ fin → S w) → ((i ≠ fin → S w) → wpAnyK P md ops Q S fin fuel (listed.setIfInBounds i true) a w) → K' a w) → if Region.wanted o (yielded ops a.tmps) = true then Oper.wp P o a w K' Q else K' (a.put o.dst undef) w)
    (h2 : ∀ K' : Act → World → Prop, Shut (∀ a w, (j ≠ fin → S w) → ((j ≠ fin → S w) → wpAnyK P md ops Q S fin fuel (listed.setIfInBounds j true) a w) → K' a w) → if Region.wanted p (yielded ops a.tmps) = true then Oper.wp P p a w K' Q else K' (a.put p.dst undef) w) :
    wpAnyK P md ops Q S fin (fuel + 1) listed a w :=
  ⟨fun h0 => (by rw [hr] at h0; cases h0), fun k hk => by
    rw [hr] at hk
    have : k = i ∨ k = j := by simpa using hk
    rcases this with rfl | rfl
    · exact wpOp_step ho (fun K' hK => h K' (fun a w hS hW => hK a w ⟨hS, hW hS⟩))
    · exact wpOp_step hp (fun K' hK => h2 K' (fun a w hS hW => hK a w ⟨hS, hW hS⟩))⟩
end
theorem results_ctt18 {P : Program} {fn : Func} {p u v : Tmp} {ty : TypeId} (h : fn.results = #[.cell p ty, .tmp u, .tmp v]) (tmps : Array Value) (w : World) (g : Nat) (t : TypeId) (cs : Array Value) (fr : Nat × Nat) (d : TypeDesc)
    (hp : tmps.getD p undef = .pointer (some ⟨g, 0, none⟩)) (hg : w.heap[g]? = some (.cells cs t fr))
    (hu : P.underlying ty = some d) (hd : (match d with | .struct _ | .array _ _ => true | _ => false) = true) (hi : (P.info? ty).map (·.size) = some cs.size) :
    (results fn tmps).run P w = .ok (.tuple #[.agg cs, tmps.getD u undef, tmps.getD v undef]) w := by
  have e : (results fn tmps).run P w = ((asAddr (tmps.getD p undef)).run P w).andThen fun a w₁ => ((loadVar ty a).run P w₁).andThen fun x w₂ => .ok (.tuple #[x, tmps.getD u undef, tmps.getD v undef]) w₂ := by
    simp only [results, h]
    simp [Sem.run_bind, Result.andThen]
  rw [e, hp]
  simp [asAddr, Result.andThen, run_loadVar_row w g t ty cs fr d hg hu hd hi]
/-- A header's six cells written. -/
def st18 (V : World) (b : Nat) (H : Hd18) : World := (((((V.setCell ⟨b, 0, none⟩ (.int .i64 H.o)).setCell ⟨b, 1, none⟩ (.int .i64 H.n)).setCell ⟨b, 2, none⟩ (.int .u32 H.so)).setCell ⟨b, 3, none⟩ (.int .u32 H.sn)).setCell ⟨b, 4, none⟩ (.int .i64 H.wi)).setCell ⟨b, 5, none⟩ (.int .i64 H.lo)
theorem st18_q {V : World} {b : Nat} {G H : Hd18} (h : V.heap[b]? = some (.cells G.cs 41 (0, 0))) : (st18 V b H).heap[b]? = some (.cells H.cs 41 (0, 0)) := by
  unfold st18 Hd18.cs at *
  simp [World.setCell, Array.getElem?_modify, h]
theorem st18_k (V : World) (b : Nat) (H : Hd18) : Kp (fun k => k = b) V (st18 V b H) := by
  unfold st18
  exact ((((((Kp.refl _ _).trans (Kp.set (S := fun k => k = b) rfl _) (fun _ _ x => x)).trans (Kp.set (S := fun k => k = b) rfl _) (fun _ _ x => x)).trans (Kp.set (S := fun k => k = b) rfl _) (fun _ _ x => x)).trans (Kp.set (S := fun k => k = b) rfl _) (fun _ _ x => x)).trans (Kp.set (S := fun k => k = b) rfl _) (fun _ _ x => x)).trans (Kp.set (S := fun k => k = b) rfl _) (fun _ _ x => x)
theorem hA18_no {z : List Int} {x : Int} (h : hx18 z = x) (hx : x ≠ 0) : hA18 z = ⟨0, 0, 0, 0, 0, 0⟩ ∧ nA18 z = 0 := by
  unfold hA18 nA18
  rw [if_neg (by rw [h]; exact hx), if_neg (by rw [h]; exact hx)]
  exact ⟨rfl, rfl⟩
/-- Six cells at hand. -/
structure Sx18 (V : World) (b : Nat) (H : Hd18) : Prop where
  q : V.heap[b]? = some (.cells H.cs 41 (0, 0))
  f : ∀ j, V.frozen? ⟨b, j, none⟩ = false
theorem sx18 {V : World} {b : Nat} {H : Hd18} (q : V.heap[b]? = some (.cells H.cs 41 (0, 0))) : Sx18 V b H := ⟨q, fun j => by simp [World.frozen?, q]⟩
set_option maxRecDepth 100000 in
set_option maxHeartbeats 32000000 in
theorem rrh18 (za : Option Addr) (zc : Nat) (z : List Int) (w : World) (hz : Seg w za z) (hl : z.length ≤ 140737488351232) (hc : z.length ≤ zc) :
    Calls Tryz.prog 28 #[.slice za z.length zc] w (RhQ18 w z) := by
  obtain ⟨wA, b4, X⟩ := bx18 w ⟨0, 0, 0, 0, 0, 0⟩
  have HWA : Hid (w.alloc (.cells #[.int .i64 0, .int .i64 0, .int .u32 0, .int .u32 0, .int .i64 0, .int .i64 0] 41) = wA) := X.wa
  have HB : Hid (w.heap.size = b4) := X.b
  have HBL : Hid (Below w.heap.size w wA ∧ wA.heap.size = w.heap.size + 1) := ⟨X.bl, X.sz⟩
  have HQ : Hid (∀ V, Below wA.heap.size wA V → V.heap[b4]? = some (.cells (⟨0, 0, 0, 0, 0, 0⟩ : Hd18).cs 41 (0, 0))) := fun V hV => (hV.block _ (Array.getElem?_eq_some_iff.1 X.q).1).trans X.q
  have HSG : Hid (∀ V, Below wA.heap.size wA V → Seg V za z) := fun V hV => (hz.old X.bl).old hV
  have HL : Hid (z.length ≤ 140737488351232 ∧ z.length ≤ zc) := ⟨hl, hc⟩
  have HZ : Hid (∀ t ∈ z, 0 ≤ t ∧ t ≤ 255) := fun t ht => hz.mem t ht
  have HPOST : Hid (∀ V H x n, Below wA.heap.size wA V → hA18 z = H → nA18 z = n → hx18 z = x → RhQ18 w z (.returned (.tuple #[.agg H.cs, .int .i64 n, .int .i64 x])) (st18 V b4 H)) := fun V H x n hV hA hN hX => by
    refine ⟨by rw [hA, hN, hX], ?_⟩
    have k : Kp (fun k => w.heap.size ≤ k) w (st18 V b4 H) := ((Kp.of_below (S := fun k => w.heap.size ≤ k) X.bl).trans (Kp.of_below (S := fun _ => False) hV) (fun _ _ y => y.elim)).trans (st18_k V b4 H) (fun k _ y => by have y : k = b4 := y; have := X.b; omega)
    exact k.below (fun _ y => y) (Nat.le_refl _)
  have HPOST0 : Hid (∀ x, x ≠ 0 → hx18 z = x → RhQ18 w z (.returned (.tuple #[.agg #[.int .i64 0, .int .i64 0, .int .u32 0, .int .u32 0, .int .i64 0, .int .i64 0], .int .i64 0, .int .i64 x])) wA) := fun x hx hX => by
    obtain ⟨hA, hN⟩ := hA18_no hX hx
    exact ⟨by rw [hA, hN, hX]; rfl, X.bl⟩
  have HQ0 : Hid (wA.heap[b4]? = some (.cells #[.int .i64 0, .int .i64 0, .int .u32 0, .int .u32 0, .int .i64 0, .int .i64 0] 41 (0, 0))) := X.q
  have hzm := hz.mem
  clear X hz hl hc
  by_cases h5 : 5 ≤ z.length
  rotate_left
  · have HNF : Hid (¬ Hf18 z) := fun x => h5 x.1.1
    have h5i : (z.length : Int) < 5 := by omega
    go_enter Tryz.func28, Tryz.ntmps28
    go_wp2_with fail
    rw [HWA.out, HB.out]
    refine bodyPost_ret (v := .tuple #[.agg #[.int .i64 0, .int .i64 0, .int .u32 0, .int .u32 0, .int .i64 0, .int .i64 0], .int .i64 0, .int .i64 182]) (results_ctt18 (fn := Tryz.f28) (p := 2) (u := 3) (v := 4) (ty := 41) rfl _ _ b4 _ _ _ _ rfl HQ0.out Tryz.underlying41 rfl (by kernel_rfl)) rfl ?_
    exact HPOST0.out 182 (by decide) (hx18_no HNF.out)
  have hcm : ((strOfNums (z.take 5)).toList == [83, 65, 80, 82, 1]) = (z.take 5 == mag18) := by
    rw [← mag18_str]
    exact str_injS (fun t ht => hzm t (List.mem_of_mem_take ht)) (by decide)
  have h5i : ¬ (z.length : Int) < 5 := by omega
  have h5j : (5 : Int) ≤ (zc : Int) := by have := HL.out; omega
  have hcv : (convert 26 9 (.slice za 5 zc)).run Tryz.prog wA = .ok (.string (strOfNums (z.take 5))) wA := by
    have s2 := (HSG.out wA (Below.refl _ _)).take 5
    have r := run_conv_segS (P := Tryz.prog) zc s2 26 5 9 Tryz.underlying26 Tryz.underlying5 Tryz.underlying9
    rw [show (z.take 5).length = 5 by rw [List.length_take]; omega] at r
    exact r
  rw [← HWA.out] at hcv
  clear hzm
  by_cases hm : z.take 5 = mag18
  rotate_left
  · have HNF : Hid (¬ Hf18 z) := fun x => hm x.1.2
    rw [show (z.take 5 == mag18) = false by simp [hm]] at hcm
    clear hm
    go_enter Tryz.func28, Tryz.ntmps28
    go_wp2_with fail
    rw [HWA.out, HB.out]
    refine bodyPost_ret (v := .tuple #[.agg #[.int .i64 0, .int .i64 0, .int .u32 0, .int .u32 0, .int .i64 0, .int .i64 0], .int .i64 0, .int .i64 182]) (results_ctt18 (fn := Tryz.f28) (p := 2) (u := 3) (v := 4) (ty := 41) rfl _ _ b4 _ _ _ _ rfl HQ0.out Tryz.underlying41 rfl (by kernel_rfl)) rfl ?_
    exact HPOST0.out 182 (by decide) (hx18_no HNF.out)
  rw [show (z.take 5 == mag18) = true by simp [hm]] at hcm
  have HM : Hid (z.take 5 = mag18 ∧ 5 ≤ z.length) := ⟨hm, h5⟩
  have h5k : (5 : Int) ≤ (z.length : Int) := by omega
  have h5l : (z.length : Int) ≤ (zc : Int) := by have := HL.out; omega
  by_cases hc5 : zc = 5
  · have hz5 : z.drop 5 = [] := List.drop_eq_nil_of_le (by have := HL.out; omega)
    have HNB : Hid (Calls Tryz.prog 43 #[.slice za (z.length - 5) 0, .int .i64 4] wA (NbQ18 wA [])) := rnbs18 za 0 (z.length - 5) [] wA (SegK.nil (by decide) _ _) (by decide) (by decide) (by have := HL.out; simp; omega)
    have HNF : Hid (¬ Hf18 z) := nj18_no (by rw [hz5]; intro x; have := x 0 (by decide); simp [pl18, decL] at this)
    have HNK : Hid (¬ Nk18 [] 4) := by intro x; have := x 0 (by decide); simp [pl18, decL] at this
    clear hm h5 hz5
    subst hc5
    go_enter Tryz.func28, Tryz.ntmps28
    go_wp2_with fail
    rw [HWA.out, HB.out]
    refine HNB.out.mono ?_
    intro e1 w1 hQ
    obtain ⟨hk, -⟩ | ⟨hk, rfl, b1⟩ := hQ
    · exact absurd hk HNK.out
    have HB1 : Hid (Below wA.heap.size wA w1) := b1
    clear hk b1 hcv
    have q := HQ.out w1 HB1.out
    have d0 : w1.cell? ⟨b4, 0, none⟩ = some (.int .i64 0) := cell18 q rfl
    have f0 : w1.frozen? ⟨b4, 0, none⟩ = false := (sx18 q).f 0
    have d1 : w1.cell? ⟨b4, 1, none⟩ = some (.int .i64 0) := cell18 q rfl
    have f1 : w1.frozen? ⟨b4, 1, none⟩ = false := (sx18 q).f 1
    have d2 : w1.cell? ⟨b4, 2, none⟩ = some (.int .u32 0) := cell18 q rfl
    have f2 : w1.frozen? ⟨b4, 2, none⟩ = false := (sx18 q).f 2
    have d3 : w1.cell? ⟨b4, 3, none⟩ = some (.int .u32 0) := cell18 q rfl
    have f3 : w1.frozen? ⟨b4, 3, none⟩ = false := (sx18 q).f 3
    have d4 : w1.cell? ⟨b4, 4, none⟩ = some (.int .i64 0) := cell18 q rfl
    have f4 : w1.frozen? ⟨b4, 4, none⟩ = false := (sx18 q).f 4
    have d5 : w1.cell? ⟨b4, 5, none⟩ = some (.int .i64 0) := cell18 q rfl
    have f5 : w1.frozen? ⟨b4, 5, none⟩ = false := (sx18 q).f 5
    go_wp2_with fail
    refine bodyPost_ret (v := .tuple #[.agg #[.int .i64 0, .int .i64 0, .int .u32 0, .int .u32 0, .int .i64 0, .int .i64 0], .int .i64 0, .int .i64 182]) (results_ctt18 (fn := Tryz.f28) (p := 2) (u := 3) (v := 4) (ty := 41) rfl _ _ b4 _ _ _ _ rfl (st18_q (H := ⟨0, 0, 0, 0, 0, 0⟩) q) Tryz.underlying41 rfl (by kernel_rfl)) rfl ?_
    have hA := hA18_no (z := z) (x := 182) (hx18_no HNF.out) (by decide)
    exact HPOST.out w1 ⟨0, 0, 0, 0, 0, 0⟩ 182 0 HB1.out hA.1 hA.2 (hx18_no HNF.out)
  have sg5 := (seg_rs16 (c := zc) (d := 5) (HSG.out wA (Below.refl _ _)) h5 HL.out.2).1
  unfold rs16 at sg5
  rw [if_neg hc5] at sg5
  have HNB : Hid (Calls Tryz.prog 43 #[.slice (za.map fun x => x.add 5) (z.length - 5) (zc - 5), .int .i64 4] wA (NbQ18 wA (z.drop 5))) := rnbs18 (za.map fun x => x.add 5) (zc - 5) (z.length - 5) (z.drop 5) wA sg5 (by rw [List.length_drop]; have := HL.out; omega) (by rw [List.length_drop]; have := HL.out; omega) (by rw [List.length_drop])
  clear hm h5 sg5
  go_enter Tryz.func28, Tryz.ntmps28
  go_wp2_with fail
  rw [HWA.out, HB.out]
  refine HNB.out.mono ?_
  intro e1 w1 hQ
  obtain ⟨hk, g, gc, rfl, ow, hpl, b1⟩ | ⟨hk, rfl, b1⟩ := hQ
  rotate_left
  · have HNF : Hid (¬ Hf18 z) := nj18_no hk
    have HB1 : Hid (Below wA.heap.size wA w1) := b1
    clear hk b1 hcv
    have q := HQ.out w1 HB1.out
    have d0 : w1.cell? ⟨b4, 0, none⟩ = some (.int .i64 0) := cell18 q rfl
    have f0 : w1.frozen? ⟨b4, 0, none⟩ = false := (sx18 q).f 0
    have d1 : w1.cell? ⟨b4, 1, none⟩ = some (.int .i64 0) := cell18 q rfl
    have f1 : w1.frozen? ⟨b4, 1, none⟩ = false := (sx18 q).f 1
    have d2 : w1.cell? ⟨b4, 2, none⟩ = some (.int .u32 0) := cell18 q rfl
    have f2 : w1.frozen? ⟨b4, 2, none⟩ = false := (sx18 q).f 2
    have d3 : w1.cell? ⟨b4, 3, none⟩ = some (.int .u32 0) := cell18 q rfl
    have f3 : w1.frozen? ⟨b4, 3, none⟩ = false := (sx18 q).f 3
    have d4 : w1.cell? ⟨b4, 4, none⟩ = some (.int .i64 0) := cell18 q rfl
    have f4 : w1.frozen? ⟨b4, 4, none⟩ = false := (sx18 q).f 4
    have d5 : w1.cell? ⟨b4, 5, none⟩ = some (.int .i64 0) := cell18 q rfl
    have f5 : w1.frozen? ⟨b4, 5, none⟩ = false := (sx18 q).f 5
    go_wp2_with fail
    refine bodyPost_ret (v := .tuple #[.agg #[.int .i64 0, .int .i64 0, .int .u32 0, .int .u32 0, .int .i64 0, .int .i64 0], .int .i64 0, .int .i64 182]) (results_ctt18 (fn := Tryz.f28) (p := 2) (u := 3) (v := 4) (ty := 41) rfl _ _ b4 _ _ _ _ rfl (st18_q (H := ⟨0, 0, 0, 0, 0, 0⟩) q) Tryz.underlying41 rfl (by kernel_rfl)) rfl ?_
    have hA := hA18_no (z := z) (x := 182) (hx18_no HNF.out) (by decide)
    exact HPOST.out w1 ⟨0, 0, 0, 0, 0, 0⟩ 182 0 HB1.out hA.1 hA.2 (hx18_no HNF.out)
  have HB1 : Hid (Below wA.heap.size wA w1) := b1
  have HK : Hid (Nk18 (z.drop 5) 4) := hk
  obtain ⟨p, hp⟩ : ∃ p, p = pl18 (z.drop 5) 0 4 := ⟨_, rfl⟩
  have HP : Hid (p = pl18 (z.drop 5) 0 4) := hp
  rw [← hp] at hpl
  rw [← hp]
  rw [List.length_drop] at hpl
  have hpP : pl18 z 5 4 = 5 + p := by rw [hp]; exact pl18_drop z 5 4
  have HPP : Hid (pl18 z 5 4 = 5 + p) := hpP
  obtain ⟨n5, hn5⟩ : ∃ n, n = p + 5 := ⟨_, rfl⟩
  obtain ⟨n9, hn9⟩ : ∃ n, n = p + 9 := ⟨_, rfl⟩
  obtain ⟨n13, hn13⟩ : ∃ n, n = p + 13 := ⟨_, rfl⟩
  obtain ⟨n17, hn17⟩ : ∃ n, n = p + 17 := ⟨_, rfl⟩
  have hw5 : IntKind.i64.wrap ((p : Int) + 5) = (n5 : Int) := by rw [IntWalk.i64_in _ (by have := HL.out; omega)]; omega
  have hw17 : IntKind.i64.wrap ((n5 : Int) + 12) = (n17 : Int) := by rw [IntWalk.i64_in _ (by have := HL.out; omega)]; omega
  by_cases h12 : z.length < p + 17
  · have HNF : Hid (¬ Hf18 z) := fun x => by have := x.2.2; omega
    have h12i : (z.length : Int) < (n17 : Int) := by omega
    clear hp hpP hk b1 hpl ow hcv h12 hn5 hn9 hn13 hn17
    have q := HQ.out w1 HB1.out
    have d0 : w1.cell? ⟨b4, 0, none⟩ = some (.int .i64 0) := cell18 q rfl
    have f0 : w1.frozen? ⟨b4, 0, none⟩ = false := (sx18 q).f 0
    have d1 : w1.cell? ⟨b4, 1, none⟩ = some (.int .i64 0) := cell18 q rfl
    have f1 : w1.frozen? ⟨b4, 1, none⟩ = false := (sx18 q).f 1
    have d2 : w1.cell? ⟨b4, 2, none⟩ = some (.int .u32 0) := cell18 q rfl
    have f2 : w1.frozen? ⟨b4, 2, none⟩ = false := (sx18 q).f 2
    have d3 : w1.cell? ⟨b4, 3, none⟩ = some (.int .u32 0) := cell18 q rfl
    have f3 : w1.frozen? ⟨b4, 3, none⟩ = false := (sx18 q).f 3
    have d4 : w1.cell? ⟨b4, 4, none⟩ = some (.int .i64 0) := cell18 q rfl
    have f4 : w1.frozen? ⟨b4, 4, none⟩ = false := (sx18 q).f 4
    have d5 : w1.cell? ⟨b4, 5, none⟩ = some (.int .i64 0) := cell18 q rfl
    have f5 : w1.frozen? ⟨b4, 5, none⟩ = false := (sx18 q).f 5
    go_wp2_with fail
    refine bodyPost_ret (v := .tuple #[.agg #[.int .i64 0, .int .i64 0, .int .u32 0, .int .u32 0, .int .i64 0, .int .i64 0], .int .i64 0, .int .i64 182]) (results_ctt18 (fn := Tryz.f28) (p := 2) (u := 3) (v := 4) (ty := 41) rfl _ _ b4 _ _ _ _ rfl (st18_q (H := ⟨0, 0, 0, 0, 0, 0⟩) q) Tryz.underlying41 rfl (by kernel_rfl)) rfl ?_
    have hA := hA18_no (z := z) (x := 182) (hx18_no HNF.out) (by decide)
    exact HPOST.out w1 ⟨0, 0, 0, 0, 0, 0⟩ 182 0 HB1.out hA.1 hA.2 (hx18_no HNF.out)
  have h12i : ¬ (z.length : Int) < (n17 : Int) := by omega
  have HL12 : Hid (p + 17 ≤ z.length) := by show _ ≤ _; omega
  have e4 : (nv18 (z.drop 5) 4).map (Value.int .i64) = [.int .i64 (hc18 z p).o, .int .i64 (hc18 z p).n, .int .i64 (hc18 z p).wi, .int .i64 (hc18 z p).lo] := by simp [nv18, hc18]
  rw [e4] at ow
  have HOK : Hid (Nj18 z 5 4 ↔ (hc18 z p).Ok) := nj18_ok hk hp
  have HIS : Hid (Nj18 z 5 4 → hc18 z p = hr18 z) := fun hj => hc18_is hj hp
  have HSO : Hid ((hc18 z p).so = wd18 z (5 + p) ∧ (hc18 z p).sn = wd18 z (5 + p + 4)) := ⟨rfl, rfl⟩
  have HBS : Hid (0 ≤ (hc18 z p).so ∧ (hc18 z p).so ≤ 4294967295) := wd18_bd HZ.out
  have hHc : ∃ H, H = hc18 z p := ⟨_, rfl⟩
  obtain ⟨H, hH⟩ := hHc
  rw [← hH] at HOK HIS HSO HBS ow
  have c0 : ∀ V, Below w1.heap.size w1 V → V.cell? ⟨g, 0, none⟩ = some (.int .i64 H.o) ∧ V.cell? ⟨g, 1, none⟩ = some (.int .i64 H.n) ∧ V.cell? ⟨g, 2, none⟩ = some (.int .i64 H.wi) ∧ V.cell? ⟨g, 3, none⟩ = some (.int .i64 H.lo) := fun V hV => by
    have o0 := ow.cells (g := g) rfl 0 _ rfl
    have o1 := ow.cells (g := g) rfl 1 _ rfl
    have o2 := ow.cells (g := g) rfl 2 _ rfl
    have o3 := ow.cells (g := g) rfl 3 _ rfl
    have hg : g < w1.heap.size := World.block_lt_of_cell? w1 _ o0
    exact ⟨(hV.cell hg).trans o0, (hV.cell hg).trans o1, (hV.cell hg).trans o2, (hV.cell hg).trans o3⟩
  have HC0 : Hid (∀ V, Below w1.heap.size w1 V → V.cell? ⟨g, 0, none⟩ = some (.int .i64 H.o) ∧ V.cell? ⟨g, 1, none⟩ = some (.int .i64 H.n) ∧ V.cell? ⟨g, 2, none⟩ = some (.int .i64 H.wi) ∧ V.cell? ⟨g, 3, none⟩ = some (.int .i64 H.lo)) := c0
  have HSG1 : Hid (∀ V, Below w1.heap.size w1 V → Seg V za z) := fun V hV => HSG.out V (HB1.out.trans (hV.mono HB1.out.size))
  have HWD : Hid (∀ V d q n c x, Below w1.heap.size w1 V → d + 4 ≤ z.length → rs16 za zc d = q → n = z.length - d → c = zc - d → x = wd18 z d → Calls Tryz.prog 44 #[.slice q n c] V fun e w' => e = .returned (.int .u32 x) ∧ w' = V.drew) := fun V d q n c x hV hd hq hn hc hx => by
    have sg := (seg_rs16 (c := zc) (d := d) (HSG1.out V hV) (by omega) HL.out.2).1
    rw [hq] at sg
    rw [hx, hc, hn]
    exact rwd18 q (z.drop d) (z.length - d) (zc - d) V sg (by rw [List.length_drop]; omega) (by rw [List.length_drop])
  have HSM : Hid (∀ V n, Below w1.heap.size w1 V → n = 5 + p + 8 → Calls Tryz.prog 46 #[.slice (some ⟨V.heap.size, 0, none⟩) 1 1] (V.alloc (.cells #[.slice za n zc] 26)) fun e w' => e = .returned (.int .u32 (wI (sumW (z.take (5 + p + 8))))) ∧ w' = V.alloc (.cells #[.slice za n zc] 26)) := fun V n hV hn =>
    rsum_one V V.heap.size n za (z.take (5 + p + 8)) zc 1 26 ((HSG1.out V hV).take _) rfl (by rw [List.length_take, hn]; have := HL12.out; omega) (by rw [List.length_take]; have := HL.out; omega)
  have HSD : Hid (∀ V n, Below w1.heap.size w1 V → n = 5 + p + 8 → Calls Tryz.prog 46 #[.slice (some ⟨V.heap.size, 0, none⟩) 1 1] (V.alloc (.cells #[.slice za n zc] 26)).drew fun e w' => e = .returned (.int .u32 (wI (sumW (z.take (5 + p + 8))))) ∧ w' = (V.alloc (.cells #[.slice za n zc] 26)).drew) := fun V n hV hn =>
    rsum_one V.drew V.heap.size n za (z.take (5 + p + 8)) zc 1 26 ((HSG1.out V hV).take _).drew rfl (by rw [List.length_take, hn]; have := HL12.out; omega) (by rw [List.length_take]; have := HL.out; omega)
  obtain ⟨q1, hq1⟩ : ∃ q, q = rs16 za zc (5 + p) := ⟨_, rfl⟩
  obtain ⟨q2, hq2⟩ : ∃ q, q = rs16 za zc (5 + p + 4) := ⟨_, rfl⟩
  obtain ⟨q3, hq3⟩ : ∃ q, q = rs16 za zc (5 + p + 8) := ⟨_, rfl⟩
  have HW1 : Hid (∀ V, Below w1.heap.size w1 V → Calls Tryz.prog 44 #[.slice q1 (z.length - n5) (zc - n5)] V fun e w' => e = .returned (.int .u32 H.so) ∧ w' = V.drew) := fun V hV => HWD.out V (5 + p) q1 _ _ H.so hV (by have := HL12.out; omega) hq1.symm (by omega) (by omega) HSO.out.1
  have HW2 : Hid (∀ V, Below w1.heap.size w1 V → Calls Tryz.prog 44 #[.slice q2 (z.length - n9) (zc - n9)] V fun e w' => e = .returned (.int .u32 H.sn) ∧ w' = V.drew) := fun V hV => HWD.out V (5 + p + 4) q2 _ _ H.sn hV (by have := HL12.out; omega) hq2.symm (by omega) (by omega) HSO.out.2
  have HW3 : Hid (∀ V, Below w1.heap.size w1 V → Calls Tryz.prog 44 #[.slice q3 (z.length - n13) (zc - n13)] V fun e w' => e = .returned (.int .u32 (wd18 z (5 + p + 8))) ∧ w' = V.drew) := fun V hV => HWD.out V (5 + p + 8) q3 _ _ _ hV (by have := HL12.out; omega) hq3.symm (by omega) (by omega) rfl
  have HRC : Hid (∀ V, Calls Tryz.prog 45 #[.agg #[.int .i64 H.o, .int .i64 H.n, .int .u32 H.so, .int .u32 H.sn, .int .i64 H.wi, .int .i64 H.lo]] V fun e w' => e = .returned (.int .i64 (if H.Ok then 0 else 180)) ∧ Below V.heap.size V w') := fun V => rchk18 H V
  have hi1 : (if zc = n5 then za else za.map (fun y => y.add n5)) = q1 := by rw [hq1, show n5 = 5 + p by omega]; rfl
  have hi2 : (if zc = n9 then za else za.map (fun y => y.add n9)) = q2 := by rw [hq2, show n9 = 5 + p + 4 by omega]; rfl
  have hi3 : (if zc = n13 then za else za.map (fun y => y.add n13)) = q3 := by rw [hq3, show n13 = 5 + p + 8 by omega]; rfl
  have hw9 : IntKind.i64.wrap ((n5 : Int) + 4) = (n9 : Int) := by rw [IntWalk.i64_in _ (by have := HL.out; have := HL12.out; omega)]; omega
  have hw13 : IntKind.i64.wrap ((n5 : Int) + 8) = (n13 : Int) := by rw [IntWalk.i64_in _ (by have := HL.out; have := HL12.out; omega)]; omega
  have z5 : (n5 : Int) ≤ (z.length : Int) := by omega
  have z9 : (n9 : Int) ≤ (z.length : Int) := by omega
  have z13 : (n13 : Int) ≤ (z.length : Int) := by omega
  have z13c : (n13 : Int) ≤ (zc : Int) := by omega
  have HN13 : Hid (n13 = 5 + p + 8 ∧ n17 = p + 17) := ⟨by omega, by omega⟩
  have HTW : Hid (H.Ok ↔ Nj18 z 5 4) := HOK.out.symm
  have HSU : Hid (Su18 z (pl18 z 5 4 + 8) ↔ wd18 z (5 + p + 8) = wI (sumW (z.take (5 + p + 8)))) := by unfold Su18; rw [HPP.out]; exact Iff.rfl
  have HFF : Hid (Nj18 z 5 4 → Hf18 z) := fun hj => ⟨⟨HM.out.2, HM.out.1⟩, hj, by rw [HPP.out]; have := HL12.out; omega⟩
  have HNA : Hid (hx18 z = 0 → hA18 z = hr18 z ∧ nA18 z = (n17 : Int)) := fun h0 => by
    unfold hA18 nA18
    rw [if_pos h0, if_pos h0, HPP.out]
    exact ⟨rfl, by omega⟩
  have HS7 : Hid (w1.drew.cell? ⟨g, 0, none⟩ = some (.int .i64 H.o) ∧ w1.drew.cell? ⟨g, 1, none⟩ = some (.int .i64 H.n) ∧ w1.drew.cell? ⟨g, 2, none⟩ = some (.int .i64 H.wi) ∧ w1.drew.cell? ⟨g, 3, none⟩ = some (.int .i64 H.lo)) := c0 w1.drew ((Below.refl _ _).drew)
  have k3 : (3 : Int) < 4 := by decide
  generalize wd18 z (5 + p + 8) = x8 at *
  generalize wI (sumW (z.take (5 + p + 8))) = y8 at *
  clear hp hpP hk b1 hpl ow hcv h12 e4 hH c0 HWD hq1 hq2 hq3 HOK hn5 hn9 hn13 hn17
  go_wp2_with fail
  refine plain_region16 (fun V => V.cell? ⟨g, 0, none⟩ = some (.int .i64 H.o) ∧ V.cell? ⟨g, 1, none⟩ = some (.int .i64 H.n) ∧ V.cell? ⟨g, 2, none⟩ = some (.int .i64 H.wi) ∧ V.cell? ⟨g, 3, none⟩ = some (.int .i64 H.lo)) 24 (by kernel_rfl) HS7.out (fun hHeld => ?_)
  refine wpAnyK_take (i := 0) (v := .slice (some ⟨g, 0, none⟩) 4 gc) rfl (by kernel_rfl) (by kernel_rfl) (by kernel_rfl) (by kernel_rfl) (fun _ _ _ h => h) (Or.inl ⟨by rfl, fun w hSw => by go_simp⟩) hHeld ?_
  simp only [List.getElem_toArray, List.getElem_cons_zero, Act.put, List.setIfInBounds_toArray, List.set_cons_zero, List.set_cons_succ]
  refine wpAnyK_take (i := 1) (v := .pointer (some ⟨g, 0, none⟩)) rfl (by kernel_rfl) (by kernel_rfl) (by kernel_rfl) (by kernel_rfl) (fun _ _ _ h => h) (Or.inl ⟨by rfl, fun w hSw => by go_simp⟩) hHeld ?_
  simp only [List.getElem_toArray, List.getElem_cons_zero, List.getElem_cons_succ, Act.put, List.setIfInBounds_toArray, List.set_cons_zero, List.set_cons_succ]
  refine wpAnyK_take (i := 2) (v := .int .i64 H.o) rfl (by kernel_rfl) (by kernel_rfl) (by kernel_rfl) (by kernel_rfl) (fun _ _ _ h => h) (Or.inl ⟨by rfl, fun w hSw => by go_simp⟩) hHeld ?_
  simp only [List.getElem_toArray, List.getElem_cons_zero, List.getElem_cons_succ, Act.put, List.setIfInBounds_toArray, List.set_cons_zero, List.set_cons_succ]
  refine wpAnyK_take (i := 3) (v := .slice (some ⟨g, 0, none⟩) 4 gc) rfl (by kernel_rfl) (by kernel_rfl) (by kernel_rfl) (by kernel_rfl) (fun _ _ _ h => h) (Or.inl ⟨by rfl, fun w hSw => by go_simp⟩) hHeld ?_
  simp only [List.getElem_toArray, List.getElem_cons_zero, List.getElem_cons_succ, Act.put, List.setIfInBounds_toArray, List.set_cons_zero, List.set_cons_succ]
  refine wpAnyK_take (i := 4) (v := .pointer (some ⟨g, 1, none⟩)) rfl (by kernel_rfl) (by kernel_rfl) (by kernel_rfl) (by kernel_rfl) (fun _ _ _ h => h) (Or.inl ⟨by rfl, fun w hSw => by go_simp⟩) hHeld ?_
  simp only [List.getElem_toArray, List.getElem_cons_zero, List.getElem_cons_succ, Act.put, List.setIfInBounds_toArray, List.set_cons_zero, List.set_cons_succ]
  refine wpAnyK_take (i := 5) (v := .int .i64 H.n) rfl (by kernel_rfl) (by kernel_rfl) (by kernel_rfl) (by kernel_rfl) (fun _ _ _ h => h) (Or.inl ⟨by rfl, fun w hSw => by go_simp⟩) hHeld ?_
  simp only [List.getElem_toArray, List.getElem_cons_zero, List.getElem_cons_succ, Act.put, List.setIfInBounds_toArray, List.set_cons_zero, List.set_cons_succ]
  refine wpAnyK_take (i := 6) (v := .slice (some ⟨g, 0, none⟩) 4 gc) rfl (by kernel_rfl) (by kernel_rfl) (by kernel_rfl) (by kernel_rfl) (fun _ _ _ h => h) (Or.inl ⟨by rfl, fun w hSw => by go_simp⟩) hHeld ?_
  simp only [List.getElem_toArray, List.getElem_cons_zero, List.getElem_cons_succ, Act.put, List.setIfInBounds_toArray, List.set_cons_zero, List.set_cons_succ]
  refine wpAnyK_take (i := 7) (v := .pointer (some ⟨g, 2, none⟩)) rfl (by kernel_rfl) (by kernel_rfl) (by kernel_rfl) (by kernel_rfl) (fun _ _ _ h => h) (Or.inl ⟨by rfl, fun w hSw => by go_simp⟩) hHeld ?_
  simp only [List.getElem_toArray, List.getElem_cons_zero, List.getElem_cons_succ, Act.put, List.setIfInBounds_toArray, List.set_cons_zero, List.set_cons_succ]
  refine wpAnyK_take (i := 8) (v := .int .i64 H.wi) rfl (by kernel_rfl) (by kernel_rfl) (by kernel_rfl) (by kernel_rfl) (fun _ _ _ h => h) (Or.inl ⟨by rfl, fun w hSw => by go_simp⟩) hHeld ?_
  simp only [List.getElem_toArray, List.getElem_cons_zero, List.getElem_cons_succ, Act.put, List.setIfInBounds_toArray, List.set_cons_zero, List.set_cons_succ]
  refine wpAnyK_take (i := 9) (v := .slice (some ⟨g, 0, none⟩) 4 gc) rfl (by kernel_rfl) (by kernel_rfl) (by kernel_rfl) (by kernel_rfl) (fun _ _ _ h => h) (Or.inl ⟨by rfl, fun w hSw => by go_simp⟩) hHeld ?_
  simp only [List.getElem_toArray, List.getElem_cons_zero, List.getElem_cons_succ, Act.put, List.setIfInBounds_toArray, List.set_cons_zero, List.set_cons_succ]
  refine wpAnyK_take (i := 10) (v := .pointer (some ⟨g, 3, none⟩)) rfl (by kernel_rfl) (by kernel_rfl) (by kernel_rfl) (by kernel_rfl) (fun _ _ _ h => h) (Or.inl ⟨by rfl, fun w hSw => by go_simp⟩) hHeld ?_
  simp only [List.getElem_toArray, List.getElem_cons_zero, List.getElem_cons_succ, Act.put, List.setIfInBounds_toArray, List.set_cons_zero, List.set_cons_succ]
  refine wpAnyK_take (i := 11) (v := .int .i64 H.lo) rfl (by kernel_rfl) (by kernel_rfl) (by kernel_rfl) (by kernel_rfl) (fun _ _ _ h => h) (Or.inl ⟨by rfl, fun w hSw => by go_simp⟩) hHeld ?_
  simp only [List.getElem_toArray, List.getElem_cons_zero, List.getElem_cons_succ, Act.put, List.setIfInBounds_toArray, List.set_cons_zero, List.set_cons_succ]
  refine wpAnyK_take (i := 12) (v := .slice za z.length zc) rfl (by kernel_rfl) (by kernel_rfl) (by kernel_rfl) (by kernel_rfl) (fun _ _ _ h => h) (Or.inl ⟨by rfl, fun w hSw => by go_simp⟩) hHeld ?_
  simp only [List.getElem_toArray, List.getElem_cons_zero, List.getElem_cons_succ, Act.put, List.setIfInBounds_toArray, List.set_cons_zero, List.set_cons_succ]
  refine wpAnyK_take (i := 13) (v := .int .i64 (n5 : Int)) rfl (by kernel_rfl) (by kernel_rfl) (by kernel_rfl) (by kernel_rfl) (fun _ _ _ h => h) (Or.inl ⟨by rfl, fun w hSw => by go_simp⟩) hHeld ?_
  simp only [List.getElem_toArray, List.getElem_cons_zero, List.getElem_cons_succ, Act.put, List.setIfInBounds_toArray, List.set_cons_zero, List.set_cons_succ]
  refine wpAnyK_take (i := 14) (v := .slice q1 (z.length - n5) (zc - n5)) rfl (by kernel_rfl) (by kernel_rfl) (by kernel_rfl) (by kernel_rfl) (fun _ _ _ h => h) (Or.inl ⟨by rfl, fun w hSw => by go_simp⟩) hHeld ?_
  simp only [List.getElem_toArray, List.getElem_cons_zero, List.getElem_cons_succ, Act.put, List.setIfInBounds_toArray, List.set_cons_zero, List.set_cons_succ]
  refine wpAnyK_take (i := 16) (v := .slice za z.length zc) rfl (by kernel_rfl) (by kernel_rfl) (by kernel_rfl) (by kernel_rfl) (fun _ _ _ h => h) (Or.inl ⟨by rfl, fun w hSw => by go_simp⟩) hHeld ?_
  simp only [List.getElem_toArray, List.getElem_cons_zero, List.getElem_cons_succ, Act.put, List.setIfInBounds_toArray, List.set_cons_zero, List.set_cons_succ]
  refine wpAnyK_take (i := 17) (v := .int .i64 (n5 : Int)) rfl (by kernel_rfl) (by kernel_rfl) (by kernel_rfl) (by kernel_rfl) (fun _ _ _ h => h) (Or.inl ⟨by rfl, fun w hSw => by go_simp⟩) hHeld ?_
  simp only [List.getElem_toArray, List.getElem_cons_zero, List.getElem_cons_succ, Act.put, List.setIfInBounds_toArray, List.set_cons_zero, List.set_cons_succ]
  refine wpAnyK_take (i := 18) (v := .int .i64 (n9 : Int)) rfl (by kernel_rfl) (by kernel_rfl) (by kernel_rfl) (by kernel_rfl) (fun _ _ _ h => h) (Or.inl ⟨by rfl, fun w hSw => by go_simp⟩) hHeld ?_
  simp only [List.getElem_toArray, List.getElem_cons_zero, List.getElem_cons_succ, Act.put, List.setIfInBounds_toArray, List.set_cons_zero, List.set_cons_succ]
  refine wpAnyK_take (i := 19) (v := .slice q2 (z.length - n9) (zc - n9)) rfl (by kernel_rfl) (by kernel_rfl) (by kernel_rfl) (by kernel_rfl) (fun _ _ _ h => h) (Or.inl ⟨by rfl, fun w hSw => by go_simp⟩) hHeld ?_
  simp only [List.getElem_toArray, List.getElem_cons_zero, List.getElem_cons_succ, Act.put, List.setIfInBounds_toArray, List.set_cons_zero, List.set_cons_succ]
  have HV0 : Hid (Below w1.heap.size w1 w1.drew) := (Below.refl _ _).drew
  have HZ0 : Hid (w1.drew.heap.size = w1.heap.size) := rfl
  clear HS7
  generalize w1.drew = v0 at *
  refine wpAnyK_two (i := 15) (j := 22) (by kernel_rfl) rfl rfl (fun K hK => ?_) (fun K hK => ?_)
  · (try simp only [List.getElem_toArray, List.getElem_cons_zero, List.getElem_cons_succ, Act.put, List.setIfInBounds_toArray, List.set_cons_zero, List.set_cons_succ])
    go_simp
    refine (HW1.out v0 HV0.out).mono ?_
    rintro e2 v1 ⟨rfl, hv⟩
    have HV1 : Hid (Below w1.heap.size w1 v1) := by rw [hv]; exact HV0.out.drew
    have HZ1 : Hid (v1.heap.size = v0.heap.size) := by rw [hv]; exact rfl
    (try clear hv)
    refine hK.out _ _ (fun _ => HC0.out v1 HV1.out) (fun hHeld0 => ?_)
    have hHeld := hHeld0 (by decide)
    clear hHeld0 hK K
    (try simp only [List.getElem_toArray, List.getElem_cons_zero, List.getElem_cons_succ, Act.put, List.setIfInBounds_toArray, List.set_cons_zero, List.set_cons_succ])
    refine wpAnyK_two (i := 20) (j := 22) (by kernel_rfl) rfl rfl (fun K hK => ?_) (fun K hK => ?_)
    · (try simp only [List.getElem_toArray, List.getElem_cons_zero, List.getElem_cons_succ, Act.put, List.setIfInBounds_toArray, List.set_cons_zero, List.set_cons_succ])
      go_simp
      refine (HW2.out v1 HV1.out).mono ?_
      rintro e2 v2 ⟨rfl, hv⟩
      have HV2 : Hid (Below w1.heap.size w1 v2) := by rw [hv]; exact HV1.out.drew
      have HZ2 : Hid (v2.heap.size = v1.heap.size) := by rw [hv]; exact rfl
      (try clear hv)
      refine hK.out _ _ (fun _ => HC0.out v2 HV2.out) (fun hHeld0 => ?_)
      have hHeld := hHeld0 (by decide)
      clear hHeld0 hK K
      (try simp only [List.getElem_toArray, List.getElem_cons_zero, List.getElem_cons_succ, Act.put, List.setIfInBounds_toArray, List.set_cons_zero, List.set_cons_succ])
      refine wpAnyK_take (i := 21) (v := .agg #[.int .i64 H.o, .int .i64 H.n, .int .u32 H.so, .int .u32 H.sn, .int .i64 H.wi, .int .i64 H.lo]) rfl (by kernel_rfl) (by kernel_rfl) (by kernel_rfl) (by kernel_rfl) (fun _ _ _ h => h) (Or.inl ⟨by rfl, fun w hSw => by go_simp⟩) hHeld ?_
      simp only [List.getElem_toArray, List.getElem_cons_zero, List.getElem_cons_succ, Act.put, List.setIfInBounds_toArray, List.set_cons_zero, List.set_cons_succ]
      refine wpAnyK_one (i := 22) (by kernel_rfl) rfl (fun K hK => ?_)
      (try simp only [List.getElem_toArray, List.getElem_cons_zero, List.getElem_cons_succ, Act.put, List.setIfInBounds_toArray, List.set_cons_zero, List.set_cons_succ])
      go_simp
      obtain ⟨v3, hv⟩ : ∃ v, v = v2.alloc (.cells #[.int .i64 0, .int .i64 0, .int .u32 0, .int .u32 0, .int .i64 0, .int .i64 0] 41) := ⟨_, rfl⟩
      have hsz : v2.heap.size = w1.heap.size := HZ2.out.trans (HZ1.out.trans HZ0.out)
      have HV3 : Hid (Below w1.heap.size w1 v3) := by rw [hv]; exact HV2.out.alloc HV2.out.size _
      have HQ3 : Hid (v3.heap[w1.heap.size]? = some (.cells (⟨0, 0, 0, 0, 0, 0⟩ : Hd18).cs 41 (0, 0))) := by
        have := (cb16 v2 #[.int .i64 0, .int .i64 0, .int .u32 0, .int .u32 0, .int .i64 0, .int .i64 0] 41).cl
        rw [← hv, hsz] at this
        exact this
      (try rw [hsz])
      (try rw [← hv])
      clear hv hsz
      refine hK.out _ _ (fun _ => HC0.out v3 HV3.out) (fun hHeld0 => ?_)
      have hHeld := hHeld0 (by decide)
      clear hHeld0 hK K
      (try simp only [List.getElem_toArray, List.getElem_cons_zero, List.getElem_cons_succ, Act.put, List.setIfInBounds_toArray, List.set_cons_zero, List.set_cons_succ])
      have q := HQ3.out
      have d0 : v3.cell? ⟨w1.heap.size, 0, none⟩ = some (.int .i64 0) := cell18 q rfl
      have f0 : v3.frozen? ⟨w1.heap.size, 0, none⟩ = false := (sx18 q).f 0
      have d1 : v3.cell? ⟨w1.heap.size, 1, none⟩ = some (.int .i64 0) := cell18 q rfl
      have f1 : v3.frozen? ⟨w1.heap.size, 1, none⟩ = false := (sx18 q).f 1
      have d2 : v3.cell? ⟨w1.heap.size, 2, none⟩ = some (.int .u32 0) := cell18 q rfl
      have f2 : v3.frozen? ⟨w1.heap.size, 2, none⟩ = false := (sx18 q).f 2
      have d3 : v3.cell? ⟨w1.heap.size, 3, none⟩ = some (.int .u32 0) := cell18 q rfl
      have f3 : v3.frozen? ⟨w1.heap.size, 3, none⟩ = false := (sx18 q).f 3
      have d4 : v3.cell? ⟨w1.heap.size, 4, none⟩ = some (.int .i64 0) := cell18 q rfl
      have f4 : v3.frozen? ⟨w1.heap.size, 4, none⟩ = false := (sx18 q).f 4
      have d5 : v3.cell? ⟨w1.heap.size, 5, none⟩ = some (.int .i64 0) := cell18 q rfl
      have f5 : v3.frozen? ⟨w1.heap.size, 5, none⟩ = false := (sx18 q).f 5
      refine wpAnyK_one (i := 23) (by kernel_rfl) rfl (fun K hK => ?_)
      simp only [List.getElem_toArray, List.getElem_cons_zero, List.getElem_cons_succ, Act.put]
      go_simp
      have hsv : w1.heap.size ≤ v3.heap.size := HV3.out.size
      obtain ⟨w5, hw5'⟩ : ∃ w5, w5 = st18 v3 w1.heap.size H := ⟨_, rfl⟩
      have HB5 : Hid (Below w1.heap.size w1 w5) := by
        rw [hw5']
        have k : Kp (fun k => w1.heap.size ≤ k) w1 (st18 v3 w1.heap.size H) := (Kp.of_below (S := fun k => w1.heap.size ≤ k) (HV3.out.mono (Nat.le_refl _))).trans (st18_k _ _ _) (fun k _ y => by have y : k = w1.heap.size := y; omega)
        exact k.below (fun _ y => y) (Nat.le_refl _)
      have HQ5 : Hid (w5.heap[w1.heap.size]? = some (.cells H.cs 41 (0, 0))) := by rw [hw5']; exact st18_q q
      unfold st18 at hw5'
      rw [← hw5']
      refine hK.out _ _ (fun _ => HC0.out w5 HB5.out) (fun hHeld0 => ?_)
      clear hHeld0 hK K hw5' q d0 d1 d2 d3 d4 d5 f0 f1 f2 f3 f4 f5
      refine wpAnyK_done (by kernel_rfl) ?_ _
      obtain ⟨b8, hb8⟩ : ∃ b, b = w1.heap.size := ⟨_, rfl⟩
      rw [← hb8] at HQ5
      rw [← hb8]
      have HB8 : Hid (b8 = w1.heap.size) := hb8
      clear hb8
      have rq := HQ5.out
      have rd0 : w5.cell? ⟨b8, 0, none⟩ = some (.int .i64 H.o) := cell18 rq rfl
      have rf0 : w5.frozen? ⟨b8, 0, none⟩ = false := (sx18 rq).f 0
      have rd1 : w5.cell? ⟨b8, 1, none⟩ = some (.int .i64 H.n) := cell18 rq rfl
      have rf1 : w5.frozen? ⟨b8, 1, none⟩ = false := (sx18 rq).f 1
      have rd2 : w5.cell? ⟨b8, 2, none⟩ = some (.int .u32 H.so) := cell18 rq rfl
      have rf2 : w5.frozen? ⟨b8, 2, none⟩ = false := (sx18 rq).f 2
      have rd3 : w5.cell? ⟨b8, 3, none⟩ = some (.int .u32 H.sn) := cell18 rq rfl
      have rf3 : w5.frozen? ⟨b8, 3, none⟩ = false := (sx18 rq).f 3
      have rd4 : w5.cell? ⟨b8, 4, none⟩ = some (.int .i64 H.wi) := cell18 rq rfl
      have rf4 : w5.frozen? ⟨b8, 4, none⟩ = false := (sx18 rq).f 4
      have rd5 : w5.cell? ⟨b8, 5, none⟩ = some (.int .i64 H.lo) := cell18 rq rfl
      have rf5 : w5.frozen? ⟨b8, 5, none⟩ = false := (sx18 rq).f 5
      go_wp2_with fail
      refine (HRC.out w5).mono ?_
      rintro e6 w6 ⟨rfl, b6⟩
      have HB6 : Hid (Below w1.heap.size w1 w6) := HB5.out.trans (b6.mono HB5.out.size)
      have HQ6 : Hid (w6.heap[b8]? = some (.cells H.cs 41 (0, 0))) := (b6.block _ (Array.getElem?_eq_some_iff.1 HQ5.out).1).trans HQ5.out
      have HA6 : Hid (Below wA.heap.size wA w6) := HB1.out.trans (HB6.out.mono HB1.out.size)
      clear b6 rq rd0 rd1 rd2 rd3 rd4 rd5 rf0 rf1 rf2 rf3 rf4 rf5
      by_cases hk : H.Ok
      rotate_left
      · rw [if_neg hk]
        have HNF : Hid (¬ Hf18 z) := fun x => hk (HTW.out.2 x.2.1)
        clear hk
        have q := HQ.out w6 HA6.out
        have d0 : w6.cell? ⟨b4, 0, none⟩ = some (.int .i64 0) := cell18 q rfl
        have f0 : w6.frozen? ⟨b4, 0, none⟩ = false := (sx18 q).f 0
        have d1 : w6.cell? ⟨b4, 1, none⟩ = some (.int .i64 0) := cell18 q rfl
        have f1 : w6.frozen? ⟨b4, 1, none⟩ = false := (sx18 q).f 1
        have d2 : w6.cell? ⟨b4, 2, none⟩ = some (.int .u32 0) := cell18 q rfl
        have f2 : w6.frozen? ⟨b4, 2, none⟩ = false := (sx18 q).f 2
        have d3 : w6.cell? ⟨b4, 3, none⟩ = some (.int .u32 0) := cell18 q rfl
        have f3 : w6.frozen? ⟨b4, 3, none⟩ = false := (sx18 q).f 3
        have d4 : w6.cell? ⟨b4, 4, none⟩ = some (.int .i64 0) := cell18 q rfl
        have f4 : w6.frozen? ⟨b4, 4, none⟩ = false := (sx18 q).f 4
        have d5 : w6.cell? ⟨b4, 5, none⟩ = some (.int .i64 0) := cell18 q rfl
        have f5 : w6.frozen? ⟨b4, 5, none⟩ = false := (sx18 q).f 5
        go_wp2_with fail
        refine bodyPost_ret (v := .tuple #[.agg #[.int .i64 0, .int .i64 0, .int .u32 0, .int .u32 0, .int .i64 0, .int .i64 0], .int .i64 0, .int .i64 182]) (results_ctt18 (fn := Tryz.f28) (p := 2) (u := 3) (v := 4) (ty := 41) rfl _ _ b4 _ _ _ _ rfl (st18_q (H := ⟨0, 0, 0, 0, 0, 0⟩) q) Tryz.underlying41 rfl (by kernel_rfl)) rfl ?_
        have hA := hA18_no (z := z) (x := 182) (hx18_no HNF.out) (by decide)
        exact HPOST.out w6 ⟨0, 0, 0, 0, 0, 0⟩ 182 0 HA6.out hA.1 hA.2 (hx18_no HNF.out)
      rw [if_pos hk]
      have HJ : Hid (Nj18 z 5 4) := HTW.out.1 hk
      clear hk
      by_cases hs : x8 = y8
      · subst hs
        have HX0 : Hid (hx18 z = 0) := hx18_ok (HFF.out HJ.out) (HSU.out.2 rfl)
        have hne : (x8 != x8) = false := by simp
        go_wp2_with fail
        refine plain_region16 (fun _ => True) 12 (by kernel_rfl) trivial (fun hHeld => ?_)
        refine wpAnyK_take (i := 0) (v := .slice za z.length zc) rfl (by kernel_rfl) (by kernel_rfl) (by kernel_rfl) (by kernel_rfl) (fun _ _ _ h => h) (Or.inl ⟨by rfl, fun w hSw => by go_simp⟩) hHeld ?_
        simp only [List.getElem_toArray, List.getElem_cons_zero, Act.put, List.setIfInBounds_toArray, List.set_cons_zero, List.set_cons_succ]
        refine wpAnyK_take (i := 1) (v := .int .i64 (n5 : Int)) rfl (by kernel_rfl) (by kernel_rfl) (by kernel_rfl) (by kernel_rfl) (fun _ _ _ h => h) (Or.inl ⟨by rfl, fun w hSw => by go_simp⟩) hHeld ?_
        simp only [List.getElem_toArray, List.getElem_cons_zero, List.getElem_cons_succ, Act.put, List.setIfInBounds_toArray, List.set_cons_zero, List.set_cons_succ]
        refine wpAnyK_take (i := 2) (v := .int .i64 (n13 : Int)) rfl (by kernel_rfl) (by kernel_rfl) (by kernel_rfl) (by kernel_rfl) (fun _ _ _ h => h) (Or.inl ⟨by rfl, fun w hSw => by go_simp⟩) hHeld ?_
        simp only [List.getElem_toArray, List.getElem_cons_zero, List.getElem_cons_succ, Act.put, List.setIfInBounds_toArray, List.set_cons_zero, List.set_cons_succ]
        refine wpAnyK_take (i := 3) (v := .slice q3 (z.length - n13) (zc - n13)) rfl (by kernel_rfl) (by kernel_rfl) (by kernel_rfl) (by kernel_rfl) (fun _ _ _ h => h) (Or.inl ⟨by rfl, fun w hSw => by go_simp⟩) hHeld ?_
        simp only [List.getElem_toArray, List.getElem_cons_zero, List.getElem_cons_succ, Act.put, List.setIfInBounds_toArray, List.set_cons_zero, List.set_cons_succ]
        refine wpAnyK_take (i := 5) (v := .slice za z.length zc) rfl (by kernel_rfl) (by kernel_rfl) (by kernel_rfl) (by kernel_rfl) (fun _ _ _ h => h) (Or.inl ⟨by rfl, fun w hSw => by go_simp⟩) hHeld ?_
        simp only [List.getElem_toArray, List.getElem_cons_zero, List.getElem_cons_succ, Act.put, List.setIfInBounds_toArray, List.set_cons_zero, List.set_cons_succ]
        refine wpAnyK_take (i := 6) (v := .int .i64 (n5 : Int)) rfl (by kernel_rfl) (by kernel_rfl) (by kernel_rfl) (by kernel_rfl) (fun _ _ _ h => h) (Or.inl ⟨by rfl, fun w hSw => by go_simp⟩) hHeld ?_
        simp only [List.getElem_toArray, List.getElem_cons_zero, List.getElem_cons_succ, Act.put, List.setIfInBounds_toArray, List.set_cons_zero, List.set_cons_succ]
        refine wpAnyK_take (i := 7) (v := .int .i64 (n13 : Int)) rfl (by kernel_rfl) (by kernel_rfl) (by kernel_rfl) (by kernel_rfl) (fun _ _ _ h => h) (Or.inl ⟨by rfl, fun w hSw => by go_simp⟩) hHeld ?_
        simp only [List.getElem_toArray, List.getElem_cons_zero, List.getElem_cons_succ, Act.put, List.setIfInBounds_toArray, List.set_cons_zero, List.set_cons_succ]
        refine wpAnyK_take (i := 8) (v := .slice za n13 zc) rfl (by kernel_rfl) (by kernel_rfl) (by kernel_rfl) (by kernel_rfl) (fun _ _ _ h => h) (Or.inl ⟨by rfl, fun w hSw => by go_simp⟩) hHeld ?_
        simp only [List.getElem_toArray, List.getElem_cons_zero, List.getElem_cons_succ, Act.put, List.setIfInBounds_toArray, List.set_cons_zero, List.set_cons_succ]
        have HU0 : Hid (Below w1.heap.size w1 w6.drew) := HB6.out.drew
        have HQ0' : Hid (w6.drew.heap[b8]? = some (.cells H.cs 41 (0, 0))) := HQ6.out
        generalize w6.drew = u0 at *
        refine wpAnyK_two (i := 4) (j := 9) (by kernel_rfl) rfl rfl (fun K hK => ?_) (fun K hK => ?_)
        · (try simp only [List.getElem_toArray, List.getElem_cons_zero, List.getElem_cons_succ, Act.put, List.setIfInBounds_toArray, List.set_cons_zero, List.set_cons_succ])
          go_simp
          refine (HW3.out u0 HU0.out).mono ?_
          rintro e7 u1 ⟨rfl, hu⟩
          have HU1 : Hid (Below w1.heap.size w1 u1) := by rw [hu]; exact HU0.out.drew
          have HQ1' : Hid (u1.heap[b8]? = some (.cells H.cs 41 (0, 0))) := by rw [hu]; exact HQ0'.out
          clear hu
          refine hK.out _ _ (fun _ => trivial) (fun hHeld0 => ?_)
          have hHeld := hHeld0 (by decide)
          clear hHeld0 hK K
          (try simp only [List.getElem_toArray, List.getElem_cons_zero, List.getElem_cons_succ, Act.put, List.setIfInBounds_toArray, List.set_cons_zero, List.set_cons_succ])
          have SM := HSM.out u1 n13 HU1.out HN13.out.1
          have HU2 : Hid (Below w1.heap.size w1 (u1.alloc (.cells #[.slice za n13 zc] 26))) := HU1.out.alloc HU1.out.size _
          have HQU : Hid ((u1.alloc (.cells #[.slice za n13 zc] 26)).heap[b8]? = some (.cells H.cs 41 (0, 0))) := (((Below.refl u1.heap.size u1).alloc (Nat.le_refl _) (.cells #[.slice za n13 zc] 26)).block _ (Array.getElem?_eq_some_iff.1 HQ1'.out).1).trans HQ1'.out
          obtain ⟨u2, hu2⟩ : ∃ u, u = u1.alloc (.cells #[.slice za n13 zc] 26) := ⟨_, rfl⟩
          rw [← hu2] at SM HU2 HQU
          refine wpAnyK_one (i := 9) (by kernel_rfl) rfl (fun K hK => ?_)
          (try simp only [List.getElem_toArray, List.getElem_cons_zero, List.getElem_cons_succ, Act.put, List.setIfInBounds_toArray, List.set_cons_zero, List.set_cons_succ])
          go_simp
          rw [← hu2]
          clear hu2
          refine hK.out _ _ (fun _ => trivial) (fun hHeld0 => ?_)
          have hHeld := hHeld0 (by decide)
          clear hHeld0 hK K
          (try simp only [List.getElem_toArray, List.getElem_cons_zero, List.getElem_cons_succ, Act.put, List.setIfInBounds_toArray, List.set_cons_zero, List.set_cons_succ])
          refine wpAnyK_one (i := 10) (by kernel_rfl) rfl (fun K hK => ?_)
          (try simp only [List.getElem_toArray, List.getElem_cons_zero, List.getElem_cons_succ, Act.put, List.setIfInBounds_toArray, List.set_cons_zero, List.set_cons_succ])
          go_simp
          refine SM.mono ?_
          rintro e8 u3 ⟨rfl, hu3⟩
          subst u3
          refine hK.out _ _ (fun _ => trivial) (fun hHeld0 => ?_)
          have hHeld := hHeld0 (by decide)
          clear hHeld0 hK K
          (try simp only [List.getElem_toArray, List.getElem_cons_zero, List.getElem_cons_succ, Act.put, List.setIfInBounds_toArray, List.set_cons_zero, List.set_cons_succ])
          refine wpAnyK_take (i := 11) (v := .bool false) rfl (by kernel_rfl) (by kernel_rfl) (by kernel_rfl) (by kernel_rfl) (fun _ _ _ h => h) (Or.inl ⟨by rfl, fun w hSw => by go_simp⟩) hHeld ?_
          simp only [List.getElem_toArray, List.getElem_cons_zero, List.getElem_cons_succ, Act.put, List.setIfInBounds_toArray, List.set_cons_zero, List.set_cons_succ]
          refine wpAnyK_done (by kernel_rfl) ?_ _
          have HA7 : Hid (Below wA.heap.size wA u2) := HB1.out.trans (HU2.out.mono HB1.out.size)
          clear SM
          have rq := HQU.out
          have rd0 : u2.cell? ⟨b8, 0, none⟩ = some (.int .i64 H.o) := cell18 rq rfl
          have rf0 : u2.frozen? ⟨b8, 0, none⟩ = false := (sx18 rq).f 0
          have rd1 : u2.cell? ⟨b8, 1, none⟩ = some (.int .i64 H.n) := cell18 rq rfl
          have rf1 : u2.frozen? ⟨b8, 1, none⟩ = false := (sx18 rq).f 1
          have rd2 : u2.cell? ⟨b8, 2, none⟩ = some (.int .u32 H.so) := cell18 rq rfl
          have rf2 : u2.frozen? ⟨b8, 2, none⟩ = false := (sx18 rq).f 2
          have rd3 : u2.cell? ⟨b8, 3, none⟩ = some (.int .u32 H.sn) := cell18 rq rfl
          have rf3 : u2.frozen? ⟨b8, 3, none⟩ = false := (sx18 rq).f 3
          have rd4 : u2.cell? ⟨b8, 4, none⟩ = some (.int .i64 H.wi) := cell18 rq rfl
          have rf4 : u2.frozen? ⟨b8, 4, none⟩ = false := (sx18 rq).f 4
          have rd5 : u2.cell? ⟨b8, 5, none⟩ = some (.int .i64 H.lo) := cell18 rq rfl
          have rf5 : u2.frozen? ⟨b8, 5, none⟩ = false := (sx18 rq).f 5
          have q := HQ.out u2 HA7.out
          have d0 : u2.cell? ⟨b4, 0, none⟩ = some (.int .i64 0) := cell18 q rfl
          have f0 : u2.frozen? ⟨b4, 0, none⟩ = false := (sx18 q).f 0
          have d1 : u2.cell? ⟨b4, 1, none⟩ = some (.int .i64 0) := cell18 q rfl
          have f1 : u2.frozen? ⟨b4, 1, none⟩ = false := (sx18 q).f 1
          have d2 : u2.cell? ⟨b4, 2, none⟩ = some (.int .u32 0) := cell18 q rfl
          have f2 : u2.frozen? ⟨b4, 2, none⟩ = false := (sx18 q).f 2
          have d3 : u2.cell? ⟨b4, 3, none⟩ = some (.int .u32 0) := cell18 q rfl
          have f3 : u2.frozen? ⟨b4, 3, none⟩ = false := (sx18 q).f 3
          have d4 : u2.cell? ⟨b4, 4, none⟩ = some (.int .i64 0) := cell18 q rfl
          have f4 : u2.frozen? ⟨b4, 4, none⟩ = false := (sx18 q).f 4
          have d5 : u2.cell? ⟨b4, 5, none⟩ = some (.int .i64 0) := cell18 q rfl
          have f5 : u2.frozen? ⟨b4, 5, none⟩ = false := (sx18 q).f 5
          go_wp2_with fail
          refine bodyPost_ret (v := .tuple #[.agg #[.int .i64 H.o, .int .i64 H.n, .int .u32 H.so, .int .u32 H.sn, .int .i64 H.wi, .int .i64 H.lo], .int .i64 (n17 : Int), .int .i64 0]) (results_ctt18 (fn := Tryz.f28) (p := 2) (u := 3) (v := 4) (ty := 41) rfl _ _ b4 _ _ _ _ rfl (st18_q (H := H) q) Tryz.underlying41 rfl (by kernel_rfl)) rfl ?_
          have hA := HNA.out HX0.out
          exact HPOST.out u2 H 0 (n17 : Int) HA7.out (by rw [hA.1, HIS.out HJ.out]) hA.2 HX0.out
        · (try simp only [List.getElem_toArray, List.getElem_cons_zero, List.getElem_cons_succ, Act.put, List.setIfInBounds_toArray, List.set_cons_zero, List.set_cons_succ])
          go_simp
          have SM := HSD.out u0 n13 (HU0.out) HN13.out.1
          have HU1 : Hid (Below w1.heap.size w1 (u0.alloc (.cells #[.slice za n13 zc] 26))) := HU0.out.alloc HU0.out.size _
          have HQU : Hid ((u0.alloc (.cells #[.slice za n13 zc] 26)).drew.heap[b8]? = some (.cells H.cs 41 (0, 0))) := (((Below.refl u0.heap.size u0).alloc (Nat.le_refl _) (.cells #[.slice za n13 zc] 26)).drew.block _ (Array.getElem?_eq_some_iff.1 HQ0'.out).1).trans HQ0'.out
          obtain ⟨u1, hu1⟩ : ∃ u, u = u0.alloc (.cells #[.slice za n13 zc] 26) := ⟨_, rfl⟩
          rw [← hu1] at SM HU1 HQU
          rw [← hu1]
          clear hu1
          refine hK.out _ _ (fun _ => trivial) (fun hHeld0 => ?_)
          have hHeld := hHeld0 (by decide)
          clear hHeld0 hK K
          (try simp only [List.getElem_toArray, List.getElem_cons_zero, List.getElem_cons_succ, Act.put, List.setIfInBounds_toArray, List.set_cons_zero, List.set_cons_succ])
          refine wpAnyK_one (i := 4) (by kernel_rfl) rfl (fun K hK => ?_)
          (try simp only [List.getElem_toArray, List.getElem_cons_zero, List.getElem_cons_succ, Act.put, List.setIfInBounds_toArray, List.set_cons_zero, List.set_cons_succ])
          go_simp
          refine (HW3.out u1 HU1.out).mono ?_
          rintro e7 u2 ⟨rfl, hu4⟩
          have HU2 : Hid (Below w1.heap.size w1 u2) := by rw [hu4]; exact HU1.out.drew
          rw [← hu4] at SM HQU
          clear hu4
          refine hK.out _ _ (fun _ => trivial) (fun hHeld0 => ?_)
          have hHeld := hHeld0 (by decide)
          clear hHeld0 hK K
          (try simp only [List.getElem_toArray, List.getElem_cons_zero, List.getElem_cons_succ, Act.put, List.setIfInBounds_toArray, List.set_cons_zero, List.set_cons_succ])
          refine wpAnyK_one (i := 10) (by kernel_rfl) rfl (fun K hK => ?_)
          (try simp only [List.getElem_toArray, List.getElem_cons_zero, List.getElem_cons_succ, Act.put, List.setIfInBounds_toArray, List.set_cons_zero, List.set_cons_succ])
          go_simp
          refine SM.mono ?_
          rintro e8 u3 ⟨rfl, hu3⟩
          subst u3
          refine hK.out _ _ (fun _ => trivial) (fun hHeld0 => ?_)
          have hHeld := hHeld0 (by decide)
          clear hHeld0 hK K
          (try simp only [List.getElem_toArray, List.getElem_cons_zero, List.getElem_cons_succ, Act.put, List.setIfInBounds_toArray, List.set_cons_zero, List.set_cons_succ])
          refine wpAnyK_take (i := 11) (v := .bool false) rfl (by kernel_rfl) (by kernel_rfl) (by kernel_rfl) (by kernel_rfl) (fun _ _ _ h => h) (Or.inl ⟨by rfl, fun w hSw => by go_simp⟩) hHeld ?_
          simp only [List.getElem_toArray, List.getElem_cons_zero, List.getElem_cons_succ, Act.put, List.setIfInBounds_toArray, List.set_cons_zero, List.set_cons_succ]
          refine wpAnyK_done (by kernel_rfl) ?_ _
          have HA7 : Hid (Below wA.heap.size wA u2) := HB1.out.trans (HU2.out.mono HB1.out.size)
          clear SM
          have rq := HQU.out
          have rd0 : u2.cell? ⟨b8, 0, none⟩ = some (.int .i64 H.o) := cell18 rq rfl
          have rf0 : u2.frozen? ⟨b8, 0, none⟩ = false := (sx18 rq).f 0
          have rd1 : u2.cell? ⟨b8, 1, none⟩ = some (.int .i64 H.n) := cell18 rq rfl
          have rf1 : u2.frozen? ⟨b8, 1, none⟩ = false := (sx18 rq).f 1
          have rd2 : u2.cell? ⟨b8, 2, none⟩ = some (.int .u32 H.so) := cell18 rq rfl
          have rf2 : u2.frozen? ⟨b8, 2, none⟩ = false := (sx18 rq).f 2
          have rd3 : u2.cell? ⟨b8, 3, none⟩ = some (.int .u32 H.sn) := cell18 rq rfl
          have rf3 : u2.frozen? ⟨b8, 3, none⟩ = false := (sx18 rq).f 3
          have rd4 : u2.cell? ⟨b8, 4, none⟩ = some (.int .i64 H.wi) := cell18 rq rfl
          have rf4 : u2.frozen? ⟨b8, 4, none⟩ = false := (sx18 rq).f 4
          have rd5 : u2.cell? ⟨b8, 5, none⟩ = some (.int .i64 H.lo) := cell18 rq rfl
          have rf5 : u2.frozen? ⟨b8, 5, none⟩ = false := (sx18 rq).f 5
          have q := HQ.out u2 HA7.out
          have d0 : u2.cell? ⟨b4, 0, none⟩ = some (.int .i64 0) := cell18 q rfl
          have f0 : u2.frozen? ⟨b4, 0, none⟩ = false := (sx18 q).f 0
          have d1 : u2.cell? ⟨b4, 1, none⟩ = some (.int .i64 0) := cell18 q rfl
          have f1 : u2.frozen? ⟨b4, 1, none⟩ = false := (sx18 q).f 1
          have d2 : u2.cell? ⟨b4, 2, none⟩ = some (.int .u32 0) := cell18 q rfl
          have f2 : u2.frozen? ⟨b4, 2, none⟩ = false := (sx18 q).f 2
          have d3 : u2.cell? ⟨b4, 3, none⟩ = some (.int .u32 0) := cell18 q rfl
          have f3 : u2.frozen? ⟨b4, 3, none⟩ = false := (sx18 q).f 3
          have d4 : u2.cell? ⟨b4, 4, none⟩ = some (.int .i64 0) := cell18 q rfl
          have f4 : u2.frozen? ⟨b4, 4, none⟩ = false := (sx18 q).f 4
          have d5 : u2.cell? ⟨b4, 5, none⟩ = some (.int .i64 0) := cell18 q rfl
          have f5 : u2.frozen? ⟨b4, 5, none⟩ = false := (sx18 q).f 5
          go_wp2_with fail
          refine bodyPost_ret (v := .tuple #[.agg #[.int .i64 H.o, .int .i64 H.n, .int .u32 H.so, .int .u32 H.sn, .int .i64 H.wi, .int .i64 H.lo], .int .i64 (n17 : Int), .int .i64 0]) (results_ctt18 (fn := Tryz.f28) (p := 2) (u := 3) (v := 4) (ty := 41) rfl _ _ b4 _ _ _ _ rfl (st18_q (H := H) q) Tryz.underlying41 rfl (by kernel_rfl)) rfl ?_
          have hA := HNA.out HX0.out
          exact HPOST.out u2 H 0 (n17 : Int) HA7.out (by rw [hA.1, HIS.out HJ.out]) hA.2 HX0.out
      · have HX3 : Hid (hx18 z = 183) := hx18_bad (HFF.out HJ.out) (fun x => hs (HSU.out.1 x))
        have hne : (x8 != y8) = true := by simp [hs]
        clear hs
        go_wp2_with fail
        refine plain_region16 (fun _ => True) 12 (by kernel_rfl) trivial (fun hHeld => ?_)
        refine wpAnyK_take (i := 0) (v := .slice za z.length zc) rfl (by kernel_rfl) (by kernel_rfl) (by kernel_rfl) (by kernel_rfl) (fun _ _ _ h => h) (Or.inl ⟨by rfl, fun w hSw => by go_simp⟩) hHeld ?_
        simp only [List.getElem_toArray, List.getElem_cons_zero, Act.put, List.setIfInBounds_toArray, List.set_cons_zero, List.set_cons_succ]
        refine wpAnyK_take (i := 1) (v := .int .i64 (n5 : Int)) rfl (by kernel_rfl) (by kernel_rfl) (by kernel_rfl) (by kernel_rfl) (fun _ _ _ h => h) (Or.inl ⟨by rfl, fun w hSw => by go_simp⟩) hHeld ?_
        simp only [List.getElem_toArray, List.getElem_cons_zero, List.getElem_cons_succ, Act.put, List.setIfInBounds_toArray, List.set_cons_zero, List.set_cons_succ]
        refine wpAnyK_take (i := 2) (v := .int .i64 (n13 : Int)) rfl (by kernel_rfl) (by kernel_rfl) (by kernel_rfl) (by kernel_rfl) (fun _ _ _ h => h) (Or.inl ⟨by rfl, fun w hSw => by go_simp⟩) hHeld ?_
        simp only [List.getElem_toArray, List.getElem_cons_zero, List.getElem_cons_succ, Act.put, List.setIfInBounds_toArray, List.set_cons_zero, List.set_cons_succ]
        refine wpAnyK_take (i := 3) (v := .slice q3 (z.length - n13) (zc - n13)) rfl (by kernel_rfl) (by kernel_rfl) (by kernel_rfl) (by kernel_rfl) (fun _ _ _ h => h) (Or.inl ⟨by rfl, fun w hSw => by go_simp⟩) hHeld ?_
        simp only [List.getElem_toArray, List.getElem_cons_zero, List.getElem_cons_succ, Act.put, List.setIfInBounds_toArray, List.set_cons_zero, List.set_cons_succ]
        refine wpAnyK_take (i := 5) (v := .slice za z.length zc) rfl (by kernel_rfl) (by kernel_rfl) (by kernel_rfl) (by kernel_rfl) (fun _ _ _ h => h) (Or.inl ⟨by rfl, fun w hSw => by go_simp⟩) hHeld ?_
        simp only [List.getElem_toArray, List.getElem_cons_zero, List.getElem_cons_succ, Act.put, List.setIfInBounds_toArray, List.set_cons_zero, List.set_cons_succ]
        refine wpAnyK_take (i := 6) (v := .int .i64 (n5 : Int)) rfl (by kernel_rfl) (by kernel_rfl) (by kernel_rfl) (by kernel_rfl) (fun _ _ _ h => h) (Or.inl ⟨by rfl, fun w hSw => by go_simp⟩) hHeld ?_
        simp only [List.getElem_toArray, List.getElem_cons_zero, List.getElem_cons_succ, Act.put, List.setIfInBounds_toArray, List.set_cons_zero, List.set_cons_succ]
        refine wpAnyK_take (i := 7) (v := .int .i64 (n13 : Int)) rfl (by kernel_rfl) (by kernel_rfl) (by kernel_rfl) (by kernel_rfl) (fun _ _ _ h => h) (Or.inl ⟨by rfl, fun w hSw => by go_simp⟩) hHeld ?_
        simp only [List.getElem_toArray, List.getElem_cons_zero, List.getElem_cons_succ, Act.put, List.setIfInBounds_toArray, List.set_cons_zero, List.set_cons_succ]
        refine wpAnyK_take (i := 8) (v := .slice za n13 zc) rfl (by kernel_rfl) (by kernel_rfl) (by kernel_rfl) (by kernel_rfl) (fun _ _ _ h => h) (Or.inl ⟨by rfl, fun w hSw => by go_simp⟩) hHeld ?_
        simp only [List.getElem_toArray, List.getElem_cons_zero, List.getElem_cons_succ, Act.put, List.setIfInBounds_toArray, List.set_cons_zero, List.set_cons_succ]
        have HU0 : Hid (Below w1.heap.size w1 w6.drew) := HB6.out.drew
        have HQ0' : Hid (w6.drew.heap[b8]? = some (.cells H.cs 41 (0, 0))) := HQ6.out
        generalize w6.drew = u0 at *
        refine wpAnyK_two (i := 4) (j := 9) (by kernel_rfl) rfl rfl (fun K hK => ?_) (fun K hK => ?_)
        · (try simp only [List.getElem_toArray, List.getElem_cons_zero, List.getElem_cons_succ, Act.put, List.setIfInBounds_toArray, List.set_cons_zero, List.set_cons_succ])
          go_simp
          refine (HW3.out u0 HU0.out).mono ?_
          rintro e7 u1 ⟨rfl, hu⟩
          have HU1 : Hid (Below w1.heap.size w1 u1) := by rw [hu]; exact HU0.out.drew
          have HQ1' : Hid (u1.heap[b8]? = some (.cells H.cs 41 (0, 0))) := by rw [hu]; exact HQ0'.out
          clear hu
          refine hK.out _ _ (fun _ => trivial) (fun hHeld0 => ?_)
          have hHeld := hHeld0 (by decide)
          clear hHeld0 hK K
          (try simp only [List.getElem_toArray, List.getElem_cons_zero, List.getElem_cons_succ, Act.put, List.setIfInBounds_toArray, List.set_cons_zero, List.set_cons_succ])
          have SM := HSM.out u1 n13 HU1.out HN13.out.1
          have HU2 : Hid (Below w1.heap.size w1 (u1.alloc (.cells #[.slice za n13 zc] 26))) := HU1.out.alloc HU1.out.size _
          have HQU : Hid ((u1.alloc (.cells #[.slice za n13 zc] 26)).heap[b8]? = some (.cells H.cs 41 (0, 0))) := (((Below.refl u1.heap.size u1).alloc (Nat.le_refl _) (.cells #[.slice za n13 zc] 26)).block _ (Array.getElem?_eq_some_iff.1 HQ1'.out).1).trans HQ1'.out
          obtain ⟨u2, hu2⟩ : ∃ u, u = u1.alloc (.cells #[.slice za n13 zc] 26) := ⟨_, rfl⟩
          rw [← hu2] at SM HU2 HQU
          refine wpAnyK_one (i := 9) (by kernel_rfl) rfl (fun K hK => ?_)
          (try simp only [List.getElem_toArray, List.getElem_cons_zero, List.getElem_cons_succ, Act.put, List.setIfInBounds_toArray, List.set_cons_zero, List.set_cons_succ])
          go_simp
          rw [← hu2]
          clear hu2
          refine hK.out _ _ (fun _ => trivial) (fun hHeld0 => ?_)
          have hHeld := hHeld0 (by decide)
          clear hHeld0 hK K
          (try simp only [List.getElem_toArray, List.getElem_cons_zero, List.getElem_cons_succ, Act.put, List.setIfInBounds_toArray, List.set_cons_zero, List.set_cons_succ])
          refine wpAnyK_one (i := 10) (by kernel_rfl) rfl (fun K hK => ?_)
          (try simp only [List.getElem_toArray, List.getElem_cons_zero, List.getElem_cons_succ, Act.put, List.setIfInBounds_toArray, List.set_cons_zero, List.set_cons_succ])
          go_simp
          refine SM.mono ?_
          rintro e8 u3 ⟨rfl, hu3⟩
          subst u3
          refine hK.out _ _ (fun _ => trivial) (fun hHeld0 => ?_)
          have hHeld := hHeld0 (by decide)
          clear hHeld0 hK K
          (try simp only [List.getElem_toArray, List.getElem_cons_zero, List.getElem_cons_succ, Act.put, List.setIfInBounds_toArray, List.set_cons_zero, List.set_cons_succ])
          refine wpAnyK_take (i := 11) (v := .bool true) rfl (by kernel_rfl) (by kernel_rfl) (by kernel_rfl) (by kernel_rfl) (fun _ _ _ h => h) (Or.inl ⟨by rfl, fun w hSw => by go_simp⟩) hHeld ?_
          simp only [List.getElem_toArray, List.getElem_cons_zero, List.getElem_cons_succ, Act.put, List.setIfInBounds_toArray, List.set_cons_zero, List.set_cons_succ]
          refine wpAnyK_done (by kernel_rfl) ?_ _
          have HA7 : Hid (Below wA.heap.size wA u2) := HB1.out.trans (HU2.out.mono HB1.out.size)
          clear SM
          have q := HQ.out u2 HA7.out
          have d0 : u2.cell? ⟨b4, 0, none⟩ = some (.int .i64 0) := cell18 q rfl
          have f0 : u2.frozen? ⟨b4, 0, none⟩ = false := (sx18 q).f 0
          have d1 : u2.cell? ⟨b4, 1, none⟩ = some (.int .i64 0) := cell18 q rfl
          have f1 : u2.frozen? ⟨b4, 1, none⟩ = false := (sx18 q).f 1
          have d2 : u2.cell? ⟨b4, 2, none⟩ = some (.int .u32 0) := cell18 q rfl
          have f2 : u2.frozen? ⟨b4, 2, none⟩ = false := (sx18 q).f 2
          have d3 : u2.cell? ⟨b4, 3, none⟩ = some (.int .u32 0) := cell18 q rfl
          have f3 : u2.frozen? ⟨b4, 3, none⟩ = false := (sx18 q).f 3
          have d4 : u2.cell? ⟨b4, 4, none⟩ = some (.int .i64 0) := cell18 q rfl
          have f4 : u2.frozen? ⟨b4, 4, none⟩ = false := (sx18 q).f 4
          have d5 : u2.cell? ⟨b4, 5, none⟩ = some (.int .i64 0) := cell18 q rfl
          have f5 : u2.frozen? ⟨b4, 5, none⟩ = false := (sx18 q).f 5
          go_wp2_with fail
          refine bodyPost_ret (v := .tuple #[.agg #[.int .i64 0, .int .i64 0, .int .u32 0, .int .u32 0, .int .i64 0, .int .i64 0], .int .i64 0, .int .i64 183]) (results_ctt18 (fn := Tryz.f28) (p := 2) (u := 3) (v := 4) (ty := 41) rfl _ _ b4 _ _ _ _ rfl (st18_q (H := ⟨0, 0, 0, 0, 0, 0⟩) q) Tryz.underlying41 rfl (by kernel_rfl)) rfl ?_
          have hA := hA18_no (z := z) (x := 183) (HX3.out) (by decide)
          exact HPOST.out u2 ⟨0, 0, 0, 0, 0, 0⟩ 183 0 HA7.out hA.1 hA.2 (HX3.out)
        · (try simp only [List.getElem_toArray, List.getElem_cons_zero, List.getElem_cons_succ, Act.put, List.setIfInBounds_toArray, List.set_cons_zero, List.set_cons_succ])
          go_simp
          have SM := HSD.out u0 n13 (HU0.out) HN13.out.1
          have HU1 : Hid (Below w1.heap.size w1 (u0.alloc (.cells #[.slice za n13 zc] 26))) := HU0.out.alloc HU0.out.size _
          have HQU : Hid ((u0.alloc (.cells #[.slice za n13 zc] 26)).drew.heap[b8]? = some (.cells H.cs 41 (0, 0))) := (((Below.refl u0.heap.size u0).alloc (Nat.le_refl _) (.cells #[.slice za n13 zc] 26)).drew.block _ (Array.getElem?_eq_some_iff.1 HQ0'.out).1).trans HQ0'.out
          obtain ⟨u1, hu1⟩ : ∃ u, u = u0.alloc (.cells #[.slice za n13 zc] 26) := ⟨_, rfl⟩
          rw [← hu1] at SM HU1 HQU
          rw [← hu1]
          clear hu1
          refine hK.out _ _ (fun _ => trivial) (fun hHeld0 => ?_)
          have hHeld := hHeld0 (by decide)
          clear hHeld0 hK K
          (try simp only [List.getElem_toArray, List.getElem_cons_zero, List.getElem_cons_succ, Act.put, List.setIfInBounds_toArray, List.set_cons_zero, List.set_cons_succ])
          refine wpAnyK_one (i := 4) (by kernel_rfl) rfl (fun K hK => ?_)
          (try simp only [List.getElem_toArray, List.getElem_cons_zero, List.getElem_cons_succ, Act.put, List.setIfInBounds_toArray, List.set_cons_zero, List.set_cons_succ])
          go_simp
          refine (HW3.out u1 HU1.out).mono ?_
          rintro e7 u2 ⟨rfl, hu4⟩
          have HU2 : Hid (Below w1.heap.size w1 u2) := by rw [hu4]; exact HU1.out.drew
          rw [← hu4] at SM HQU
          clear hu4
          refine hK.out _ _ (fun _ => trivial) (fun hHeld0 => ?_)
          have hHeld := hHeld0 (by decide)
          clear hHeld0 hK K
          (try simp only [List.getElem_toArray, List.getElem_cons_zero, List.getElem_cons_succ, Act.put, List.setIfInBounds_toArray, List.set_cons_zero, List.set_cons_succ])
          refine wpAnyK_one (i := 10) (by kernel_rfl) rfl (fun K hK => ?_)
          (try simp only [List.getElem_toArray, List.getElem_cons_zero, List.getElem_cons_succ, Act.put, List.setIfInBounds_toArray, List.set_cons_zero, List.set_cons_succ])
          go_simp
          refine SM.mono ?_
          rintro e8 u3 ⟨rfl, hu3⟩
          subst u3
          refine hK.out _ _ (fun _ => trivial) (fun hHeld0 => ?_)
          have hHeld := hHeld0 (by decide)
          clear hHeld0 hK K
          (try simp only [List.getElem_toArray, List.getElem_cons_zero, List.getElem_cons_succ, Act.put, List.setIfInBounds_toArray, List.set_cons_zero, List.set_cons_succ])
          refine wpAnyK_take (i := 11) (v := .bool true) rfl (by kernel_rfl) (by kernel_rfl) (by kernel_rfl) (by kernel_rfl) (fun _ _ _ h => h) (Or.inl ⟨by rfl, fun w hSw => by go_simp⟩) hHeld ?_
          simp only [List.getElem_toArray, List.getElem_cons_zero, List.getElem_cons_succ, Act.put, List.setIfInBounds_toArray, List.set_cons_zero, List.set_cons_succ]
          refine wpAnyK_done (by kernel_rfl) ?_ _
          have HA7 : Hid (Below wA.heap.size wA u2) := HB1.out.trans (HU2.out.mono HB1.out.size)
          clear SM
          have q := HQ.out u2 HA7.out
          have d0 : u2.cell? ⟨b4, 0, none⟩ = some (.int .i64 0) := cell18 q rfl
          have f0 : u2.frozen? ⟨b4, 0, none⟩ = false := (sx18 q).f 0
          have d1 : u2.cell? ⟨b4, 1, none⟩ = some (.int .i64 0) := cell18 q rfl
          have f1 : u2.frozen? ⟨b4, 1, none⟩ = false := (sx18 q).f 1
          have d2 : u2.cell? ⟨b4, 2, none⟩ = some (.int .u32 0) := cell18 q rfl
          have f2 : u2.frozen? ⟨b4, 2, none⟩ = false := (sx18 q).f 2
          have d3 : u2.cell? ⟨b4, 3, none⟩ = some (.int .u32 0) := cell18 q rfl
          have f3 : u2.frozen? ⟨b4, 3, none⟩ = false := (sx18 q).f 3
          have d4 : u2.cell? ⟨b4, 4, none⟩ = some (.int .i64 0) := cell18 q rfl
          have f4 : u2.frozen? ⟨b4, 4, none⟩ = false := (sx18 q).f 4
          have d5 : u2.cell? ⟨b4, 5, none⟩ = some (.int .i64 0) := cell18 q rfl
          have f5 : u2.frozen? ⟨b4, 5, none⟩ = false := (sx18 q).f 5
          go_wp2_with fail
          refine bodyPost_ret (v := .tuple #[.agg #[.int .i64 0, .int .i64 0, .int .u32 0, .int .u32 0, .int .i64 0, .int .i64 0], .int .i64 0, .int .i64 183]) (results_ctt18 (fn := Tryz.f28) (p := 2) (u := 3) (v := 4) (ty := 41) rfl _ _ b4 _ _ _ _ rfl (st18_q (H := ⟨0, 0, 0, 0, 0, 0⟩) q) Tryz.underlying41 rfl (by kernel_rfl)) rfl ?_
          have hA := hA18_no (z := z) (x := 183) (HX3.out) (by decide)
          exact HPOST.out u2 ⟨0, 0, 0, 0, 0, 0⟩ 183 0 HA7.out hA.1 hA.2 (HX3.out)
    · (try simp only [List.getElem_toArray, List.getElem_cons_zero, List.getElem_cons_succ, Act.put, List.setIfInBounds_toArray, List.set_cons_zero, List.set_cons_succ])
      go_simp
      obtain ⟨v2, hv⟩ : ∃ v, v = v1.alloc (.cells #[.int .i64 0, .int .i64 0, .int .u32 0, .int .u32 0, .int .i64 0, .int .i64 0] 41) := ⟨_, rfl⟩
      have hsz : v1.heap.size = w1.heap.size := HZ1.out.trans HZ0.out
      have HV2 : Hid (Below w1.heap.size w1 v2) := by rw [hv]; exact HV1.out.alloc HV1.out.size _
      have HQ2 : Hid (v2.heap[w1.heap.size]? = some (.cells (⟨0, 0, 0, 0, 0, 0⟩ : Hd18).cs 41 (0, 0))) := by
        have := (cb16 v1 #[.int .i64 0, .int .i64 0, .int .u32 0, .int .u32 0, .int .i64 0, .int .i64 0] 41).cl
        rw [← hv, hsz] at this
        exact this
      (try rw [hsz])
      (try rw [← hv])
      clear hv hsz
      refine hK.out _ _ (fun _ => HC0.out v2 HV2.out) (fun hHeld0 => ?_)
      have hHeld := hHeld0 (by decide)
      clear hHeld0 hK K
      (try simp only [List.getElem_toArray, List.getElem_cons_zero, List.getElem_cons_succ, Act.put, List.setIfInBounds_toArray, List.set_cons_zero, List.set_cons_succ])
      refine wpAnyK_one (i := 20) (by kernel_rfl) rfl (fun K hK => ?_)
      (try simp only [List.getElem_toArray, List.getElem_cons_zero, List.getElem_cons_succ, Act.put, List.setIfInBounds_toArray, List.set_cons_zero, List.set_cons_succ])
      go_simp
      refine (HW2.out v2 HV2.out).mono ?_
      rintro e2 v3 ⟨rfl, hv⟩
      have HV3 : Hid (Below w1.heap.size w1 v3) := by rw [hv]; exact HV2.out.drew
      have HQ3 : Hid (v3.heap[w1.heap.size]? = some (.cells (⟨0, 0, 0, 0, 0, 0⟩ : Hd18).cs 41 (0, 0))) := by rw [hv]; exact HQ2.out
      (try clear hv)
      refine hK.out _ _ (fun _ => HC0.out v3 HV3.out) (fun hHeld0 => ?_)
      have hHeld := hHeld0 (by decide)
      clear hHeld0 hK K
      (try simp only [List.getElem_toArray, List.getElem_cons_zero, List.getElem_cons_succ, Act.put, List.setIfInBounds_toArray, List.set_cons_zero, List.set_cons_succ])
      have q := HQ3.out
      have d0 : v3.cell? ⟨w1.heap.size, 0, none⟩ = some (.int .i64 0) := cell18 q rfl
      have f0 : v3.frozen? ⟨w1.heap.size, 0, none⟩ = false := (sx18 q).f 0
      have d1 : v3.cell? ⟨w1.heap.size, 1, none⟩ = some (.int .i64 0) := cell18 q rfl
      have f1 : v3.frozen? ⟨w1.heap.size, 1, none⟩ = false := (sx18 q).f 1
      have d2 : v3.cell? ⟨w1.heap.size, 2, none⟩ = some (.int .u32 0) := cell18 q rfl
      have f2 : v3.frozen? ⟨w1.heap.size, 2, none⟩ = false := (sx18 q).f 2
      have d3 : v3.cell? ⟨w1.heap.size, 3, none⟩ = some (.int .u32 0) := cell18 q rfl
      have f3 : v3.frozen? ⟨w1.heap.size, 3, none⟩ = false := (sx18 q).f 3
      have d4 : v3.cell? ⟨w1.heap.size, 4, none⟩ = some (.int .i64 0) := cell18 q rfl
      have f4 : v3.frozen? ⟨w1.heap.size, 4, none⟩ = false := (sx18 q).f 4
      have d5 : v3.cell? ⟨w1.heap.size, 5, none⟩ = some (.int .i64 0) := cell18 q rfl
      have f5 : v3.frozen? ⟨w1.heap.size, 5, none⟩ = false := (sx18 q).f 5
      refine wpAnyK_take (i := 21) (v := .agg #[.int .i64 H.o, .int .i64 H.n, .int .u32 H.so, .int .u32 H.sn, .int .i64 H.wi, .int .i64 H.lo]) rfl (by kernel_rfl) (by kernel_rfl) (by kernel_rfl) (by kernel_rfl) (fun _ _ _ h => h) (Or.inl ⟨by rfl, fun w hSw => by go_simp⟩) hHeld ?_
      simp only [List.getElem_toArray, List.getElem_cons_zero, List.getElem_cons_succ, Act.put, List.setIfInBounds_toArray, List.set_cons_zero, List.set_cons_succ]
      refine wpAnyK_one (i := 23) (by kernel_rfl) rfl (fun K hK => ?_)
      simp only [List.getElem_toArray, List.getElem_cons_zero, List.getElem_cons_succ, Act.put]
      go_simp
      have hsv : w1.heap.size ≤ v3.heap.size := HV3.out.size
      obtain ⟨w5, hw5'⟩ : ∃ w5, w5 = st18 v3 w1.heap.size H := ⟨_, rfl⟩
      have HB5 : Hid (Below w1.heap.size w1 w5) := by
        rw [hw5']
        have k : Kp (fun k => w1.heap.size ≤ k) w1 (st18 v3 w1.heap.size H) := (Kp.of_below (S := fun k => w1.heap.size ≤ k) (HV3.out.mono (Nat.le_refl _))).trans (st18_k _ _ _) (fun k _ y => by have y : k = w1.heap.size := y; omega)
        exact k.below (fun _ y => y) (Nat.le_refl _)
      have HQ5 : Hid (w5.heap[w1.heap.size]? = some (.cells H.cs 41 (0, 0))) := by rw [hw5']; exact st18_q q
      unfold st18 at hw5'
      rw [← hw5']
      refine hK.out _ _ (fun _ => HC0.out w5 HB5.out) (fun hHeld0 => ?_)
      clear hHeld0 hK K hw5' q d0 d1 d2 d3 d4 d5 f0 f1 f2 f3 f4 f5
      refine wpAnyK_done (by kernel_rfl) ?_ _
      obtain ⟨b8, hb8⟩ : ∃ b, b = w1.heap.size := ⟨_, rfl⟩
      rw [← hb8] at HQ5
      rw [← hb8]
      have HB8 : Hid (b8 = w1.heap.size) := hb8
      clear hb8
      have rq := HQ5.out
      have rd0 : w5.cell? ⟨b8, 0, none⟩ = some (.int .i64 H.o) := cell18 rq rfl
      have rf0 : w5.frozen? ⟨b8, 0, none⟩ = false := (sx18 rq).f 0
      have rd1 : w5.cell? ⟨b8, 1, none⟩ = some (.int .i64 H.n) := cell18 rq rfl
      have rf1 : w5.frozen? ⟨b8, 1, none⟩ = false := (sx18 rq).f 1
      have rd2 : w5.cell? ⟨b8, 2, none⟩ = some (.int .u32 H.so) := cell18 rq rfl
      have rf2 : w5.frozen? ⟨b8, 2, none⟩ = false := (sx18 rq).f 2
      have rd3 : w5.cell? ⟨b8, 3, none⟩ = some (.int .u32 H.sn) := cell18 rq rfl
      have rf3 : w5.frozen? ⟨b8, 3, none⟩ = false := (sx18 rq).f 3
      have rd4 : w5.cell? ⟨b8, 4, none⟩ = some (.int .i64 H.wi) := cell18 rq rfl
      have rf4 : w5.frozen? ⟨b8, 4, none⟩ = false := (sx18 rq).f 4
      have rd5 : w5.cell? ⟨b8, 5, none⟩ = some (.int .i64 H.lo) := cell18 rq rfl
      have rf5 : w5.frozen? ⟨b8, 5, none⟩ = false := (sx18 rq).f 5
      go_wp2_with fail
      refine (HRC.out w5).mono ?_
      rintro e6 w6 ⟨rfl, b6⟩
      have HB6 : Hid (Below w1.heap.size w1 w6) := HB5.out.trans (b6.mono HB5.out.size)
      have HQ6 : Hid (w6.heap[b8]? = some (.cells H.cs 41 (0, 0))) := (b6.block _ (Array.getElem?_eq_some_iff.1 HQ5.out).1).trans HQ5.out
      have HA6 : Hid (Below wA.heap.size wA w6) := HB1.out.trans (HB6.out.mono HB1.out.size)
      clear b6 rq rd0 rd1 rd2 rd3 rd4 rd5 rf0 rf1 rf2 rf3 rf4 rf5
      by_cases hk : H.Ok
      rotate_left
      · rw [if_neg hk]
        have HNF : Hid (¬ Hf18 z) := fun x => hk (HTW.out.2 x.2.1)
        clear hk
        have q := HQ.out w6 HA6.out
        have d0 : w6.cell? ⟨b4, 0, none⟩ = some (.int .i64 0) := cell18 q rfl
        have f0 : w6.frozen? ⟨b4, 0, none⟩ = false := (sx18 q).f 0
        have d1 : w6.cell? ⟨b4, 1, none⟩ = some (.int .i64 0) := cell18 q rfl
        have f1 : w6.frozen? ⟨b4, 1, none⟩ = false := (sx18 q).f 1
        have d2 : w6.cell? ⟨b4, 2, none⟩ = some (.int .u32 0) := cell18 q rfl
        have f2 : w6.frozen? ⟨b4, 2, none⟩ = false := (sx18 q).f 2
        have d3 : w6.cell? ⟨b4, 3, none⟩ = some (.int .u32 0) := cell18 q rfl
        have f3 : w6.frozen? ⟨b4, 3, none⟩ = false := (sx18 q).f 3
        have d4 : w6.cell? ⟨b4, 4, none⟩ = some (.int .i64 0) := cell18 q rfl
        have f4 : w6.frozen? ⟨b4, 4, none⟩ = false := (sx18 q).f 4
        have d5 : w6.cell? ⟨b4, 5, none⟩ = some (.int .i64 0) := cell18 q rfl
        have f5 : w6.frozen? ⟨b4, 5, none⟩ = false := (sx18 q).f 5
        go_wp2_with fail
        refine bodyPost_ret (v := .tuple #[.agg #[.int .i64 0, .int .i64 0, .int .u32 0, .int .u32 0, .int .i64 0, .int .i64 0], .int .i64 0, .int .i64 182]) (results_ctt18 (fn := Tryz.f28) (p := 2) (u := 3) (v := 4) (ty := 41) rfl _ _ b4 _ _ _ _ rfl (st18_q (H := ⟨0, 0, 0, 0, 0, 0⟩) q) Tryz.underlying41 rfl (by kernel_rfl)) rfl ?_
        have hA := hA18_no (z := z) (x := 182) (hx18_no HNF.out) (by decide)
        exact HPOST.out w6 ⟨0, 0, 0, 0, 0, 0⟩ 182 0 HA6.out hA.1 hA.2 (hx18_no HNF.out)
      rw [if_pos hk]
      have HJ : Hid (Nj18 z 5 4) := HTW.out.1 hk
      clear hk
      by_cases hs : x8 = y8
      · subst hs
        have HX0 : Hid (hx18 z = 0) := hx18_ok (HFF.out HJ.out) (HSU.out.2 rfl)
        have hne : (x8 != x8) = false := by simp
        go_wp2_with fail
        refine plain_region16 (fun _ => True) 12 (by kernel_rfl) trivial (fun hHeld => ?_)
        refine wpAnyK_take (i := 0) (v := .slice za z.length zc) rfl (by kernel_rfl) (by kernel_rfl) (by kernel_rfl) (by kernel_rfl) (fun _ _ _ h => h) (Or.inl ⟨by rfl, fun w hSw => by go_simp⟩) hHeld ?_
        simp only [List.getElem_toArray, List.getElem_cons_zero, Act.put, List.setIfInBounds_toArray, List.set_cons_zero, List.set_cons_succ]
        refine wpAnyK_take (i := 1) (v := .int .i64 (n5 : Int)) rfl (by kernel_rfl) (by kernel_rfl) (by kernel_rfl) (by kernel_rfl) (fun _ _ _ h => h) (Or.inl ⟨by rfl, fun w hSw => by go_simp⟩) hHeld ?_
        simp only [List.getElem_toArray, List.getElem_cons_zero, List.getElem_cons_succ, Act.put, List.setIfInBounds_toArray, List.set_cons_zero, List.set_cons_succ]
        refine wpAnyK_take (i := 2) (v := .int .i64 (n13 : Int)) rfl (by kernel_rfl) (by kernel_rfl) (by kernel_rfl) (by kernel_rfl) (fun _ _ _ h => h) (Or.inl ⟨by rfl, fun w hSw => by go_simp⟩) hHeld ?_
        simp only [List.getElem_toArray, List.getElem_cons_zero, List.getElem_cons_succ, Act.put, List.setIfInBounds_toArray, List.set_cons_zero, List.set_cons_succ]
        refine wpAnyK_take (i := 3) (v := .slice q3 (z.length - n13) (zc - n13)) rfl (by kernel_rfl) (by kernel_rfl) (by kernel_rfl) (by kernel_rfl) (fun _ _ _ h => h) (Or.inl ⟨by rfl, fun w hSw => by go_simp⟩) hHeld ?_
        simp only [List.getElem_toArray, List.getElem_cons_zero, List.getElem_cons_succ, Act.put, List.setIfInBounds_toArray, List.set_cons_zero, List.set_cons_succ]
        refine wpAnyK_take (i := 5) (v := .slice za z.length zc) rfl (by kernel_rfl) (by kernel_rfl) (by kernel_rfl) (by kernel_rfl) (fun _ _ _ h => h) (Or.inl ⟨by rfl, fun w hSw => by go_simp⟩) hHeld ?_
        simp only [List.getElem_toArray, List.getElem_cons_zero, List.getElem_cons_succ, Act.put, List.setIfInBounds_toArray, List.set_cons_zero, List.set_cons_succ]
        refine wpAnyK_take (i := 6) (v := .int .i64 (n5 : Int)) rfl (by kernel_rfl) (by kernel_rfl) (by kernel_rfl) (by kernel_rfl) (fun _ _ _ h => h) (Or.inl ⟨by rfl, fun w hSw => by go_simp⟩) hHeld ?_
        simp only [List.getElem_toArray, List.getElem_cons_zero, List.getElem_cons_succ, Act.put, List.setIfInBounds_toArray, List.set_cons_zero, List.set_cons_succ]
        refine wpAnyK_take (i := 7) (v := .int .i64 (n13 : Int)) rfl (by kernel_rfl) (by kernel_rfl) (by kernel_rfl) (by kernel_rfl) (fun _ _ _ h => h) (Or.inl ⟨by rfl, fun w hSw => by go_simp⟩) hHeld ?_
        simp only [List.getElem_toArray, List.getElem_cons_zero, List.getElem_cons_succ, Act.put, List.setIfInBounds_toArray, List.set_cons_zero, List.set_cons_succ]
        refine wpAnyK_take (i := 8) (v := .slice za n13 zc) rfl (by kernel_rfl) (by kernel_rfl) (by kernel_rfl) (by kernel_rfl) (fun _ _ _ h => h) (Or.inl ⟨by rfl, fun w hSw => by go_simp⟩) hHeld ?_
        simp only [List.getElem_toArray, List.getElem_cons_zero, List.getElem_cons_succ, Act.put, List.setIfInBounds_toArray, List.set_cons_zero, List.set_cons_succ]
        have HU0 : Hid (Below w1.heap.size w1 w6.drew) := HB6.out.drew
        have HQ0' : Hid (w6.drew.heap[b8]? = some (.cells H.cs 41 (0, 0))) := HQ6.out
        generalize w6.drew = u0 at *
        refine wpAnyK_two (i := 4) (j := 9) (by kernel_rfl) rfl rfl (fun K hK => ?_) (fun K hK => ?_)
        · (try simp only [List.getElem_toArray, List.getElem_cons_zero, List.getElem_cons_succ, Act.put, List.setIfInBounds_toArray, List.set_cons_zero, List.set_cons_succ])
          go_simp
          refine (HW3.out u0 HU0.out).mono ?_
          rintro e7 u1 ⟨rfl, hu⟩
          have HU1 : Hid (Below w1.heap.size w1 u1) := by rw [hu]; exact HU0.out.drew
          have HQ1' : Hid (u1.heap[b8]? = some (.cells H.cs 41 (0, 0))) := by rw [hu]; exact HQ0'.out
          clear hu
          refine hK.out _ _ (fun _ => trivial) (fun hHeld0 => ?_)
          have hHeld := hHeld0 (by decide)
          clear hHeld0 hK K
          (try simp only [List.getElem_toArray, List.getElem_cons_zero, List.getElem_cons_succ, Act.put, List.setIfInBounds_toArray, List.set_cons_zero, List.set_cons_succ])
          have SM := HSM.out u1 n13 HU1.out HN13.out.1
          have HU2 : Hid (Below w1.heap.size w1 (u1.alloc (.cells #[.slice za n13 zc] 26))) := HU1.out.alloc HU1.out.size _
          have HQU : Hid ((u1.alloc (.cells #[.slice za n13 zc] 26)).heap[b8]? = some (.cells H.cs 41 (0, 0))) := (((Below.refl u1.heap.size u1).alloc (Nat.le_refl _) (.cells #[.slice za n13 zc] 26)).block _ (Array.getElem?_eq_some_iff.1 HQ1'.out).1).trans HQ1'.out
          obtain ⟨u2, hu2⟩ : ∃ u, u = u1.alloc (.cells #[.slice za n13 zc] 26) := ⟨_, rfl⟩
          rw [← hu2] at SM HU2 HQU
          refine wpAnyK_one (i := 9) (by kernel_rfl) rfl (fun K hK => ?_)
          (try simp only [List.getElem_toArray, List.getElem_cons_zero, List.getElem_cons_succ, Act.put, List.setIfInBounds_toArray, List.set_cons_zero, List.set_cons_succ])
          go_simp
          rw [← hu2]
          clear hu2
          refine hK.out _ _ (fun _ => trivial) (fun hHeld0 => ?_)
          have hHeld := hHeld0 (by decide)
          clear hHeld0 hK K
          (try simp only [List.getElem_toArray, List.getElem_cons_zero, List.getElem_cons_succ, Act.put, List.setIfInBounds_toArray, List.set_cons_zero, List.set_cons_succ])
          refine wpAnyK_one (i := 10) (by kernel_rfl) rfl (fun K hK => ?_)
          (try simp only [List.getElem_toArray, List.getElem_cons_zero, List.getElem_cons_succ, Act.put, List.setIfInBounds_toArray, List.set_cons_zero, List.set_cons_succ])
          go_simp
          refine SM.mono ?_
          rintro e8 u3 ⟨rfl, hu3⟩
          subst u3
          refine hK.out _ _ (fun _ => trivial) (fun hHeld0 => ?_)
          have hHeld := hHeld0 (by decide)
          clear hHeld0 hK K
          (try simp only [List.getElem_toArray, List.getElem_cons_zero, List.getElem_cons_succ, Act.put, List.setIfInBounds_toArray, List.set_cons_zero, List.set_cons_succ])
          refine wpAnyK_take (i := 11) (v := .bool false) rfl (by kernel_rfl) (by kernel_rfl) (by kernel_rfl) (by kernel_rfl) (fun _ _ _ h => h) (Or.inl ⟨by rfl, fun w hSw => by go_simp⟩) hHeld ?_
          simp only [List.getElem_toArray, List.getElem_cons_zero, List.getElem_cons_succ, Act.put, List.setIfInBounds_toArray, List.set_cons_zero, List.set_cons_succ]
          refine wpAnyK_done (by kernel_rfl) ?_ _
          have HA7 : Hid (Below wA.heap.size wA u2) := HB1.out.trans (HU2.out.mono HB1.out.size)
          clear SM
          have rq := HQU.out
          have rd0 : u2.cell? ⟨b8, 0, none⟩ = some (.int .i64 H.o) := cell18 rq rfl
          have rf0 : u2.frozen? ⟨b8, 0, none⟩ = false := (sx18 rq).f 0
          have rd1 : u2.cell? ⟨b8, 1, none⟩ = some (.int .i64 H.n) := cell18 rq rfl
          have rf1 : u2.frozen? ⟨b8, 1, none⟩ = false := (sx18 rq).f 1
          have rd2 : u2.cell? ⟨b8, 2, none⟩ = some (.int .u32 H.so) := cell18 rq rfl
          have rf2 : u2.frozen? ⟨b8, 2, none⟩ = false := (sx18 rq).f 2
          have rd3 : u2.cell? ⟨b8, 3, none⟩ = some (.int .u32 H.sn) := cell18 rq rfl
          have rf3 : u2.frozen? ⟨b8, 3, none⟩ = false := (sx18 rq).f 3
          have rd4 : u2.cell? ⟨b8, 4, none⟩ = some (.int .i64 H.wi) := cell18 rq rfl
          have rf4 : u2.frozen? ⟨b8, 4, none⟩ = false := (sx18 rq).f 4
          have rd5 : u2.cell? ⟨b8, 5, none⟩ = some (.int .i64 H.lo) := cell18 rq rfl
          have rf5 : u2.frozen? ⟨b8, 5, none⟩ = false := (sx18 rq).f 5
          have q := HQ.out u2 HA7.out
          have d0 : u2.cell? ⟨b4, 0, none⟩ = some (.int .i64 0) := cell18 q rfl
          have f0 : u2.frozen? ⟨b4, 0, none⟩ = false := (sx18 q).f 0
          have d1 : u2.cell? ⟨b4, 1, none⟩ = some (.int .i64 0) := cell18 q rfl
          have f1 : u2.frozen? ⟨b4, 1, none⟩ = false := (sx18 q).f 1
          have d2 : u2.cell? ⟨b4, 2, none⟩ = some (.int .u32 0) := cell18 q rfl
          have f2 : u2.frozen? ⟨b4, 2, none⟩ = false := (sx18 q).f 2
          have d3 : u2.cell? ⟨b4, 3, none⟩ = some (.int .u32 0) := cell18 q rfl
          have f3 : u2.frozen? ⟨b4, 3, none⟩ = false := (sx18 q).f 3
          have d4 : u2.cell? ⟨b4, 4, none⟩ = some (.int .i64 0) := cell18 q rfl
          have f4 : u2.frozen? ⟨b4, 4, none⟩ = false := (sx18 q).f 4
          have d5 : u2.cell? ⟨b4, 5, none⟩ = some (.int .i64 0) := cell18 q rfl
          have f5 : u2.frozen? ⟨b4, 5, none⟩ = false := (sx18 q).f 5
          go_wp2_with fail
          refine bodyPost_ret (v := .tuple #[.agg #[.int .i64 H.o, .int .i64 H.n, .int .u32 H.so, .int .u32 H.sn, .int .i64 H.wi, .int .i64 H.lo], .int .i64 (n17 : Int), .int .i64 0]) (results_ctt18 (fn := Tryz.f28) (p := 2) (u := 3) (v := 4) (ty := 41) rfl _ _ b4 _ _ _ _ rfl (st18_q (H := H) q) Tryz.underlying41 rfl (by kernel_rfl)) rfl ?_
          have hA := HNA.out HX0.out
          exact HPOST.out u2 H 0 (n17 : Int) HA7.out (by rw [hA.1, HIS.out HJ.out]) hA.2 HX0.out
        · (try simp only [List.getElem_toArray, List.getElem_cons_zero, List.getElem_cons_succ, Act.put, List.setIfInBounds_toArray, List.set_cons_zero, List.set_cons_succ])
          go_simp
          have SM := HSD.out u0 n13 (HU0.out) HN13.out.1
          have HU1 : Hid (Below w1.heap.size w1 (u0.alloc (.cells #[.slice za n13 zc] 26))) := HU0.out.alloc HU0.out.size _
          have HQU : Hid ((u0.alloc (.cells #[.slice za n13 zc] 26)).drew.heap[b8]? = some (.cells H.cs 41 (0, 0))) := (((Below.refl u0.heap.size u0).alloc (Nat.le_refl _) (.cells #[.slice za n13 zc] 26)).drew.block _ (Array.getElem?_eq_some_iff.1 HQ0'.out).1).trans HQ0'.out
          obtain ⟨u1, hu1⟩ : ∃ u, u = u0.alloc (.cells #[.slice za n13 zc] 26) := ⟨_, rfl⟩
          rw [← hu1] at SM HU1 HQU
          rw [← hu1]
          clear hu1
          refine hK.out _ _ (fun _ => trivial) (fun hHeld0 => ?_)
          have hHeld := hHeld0 (by decide)
          clear hHeld0 hK K
          (try simp only [List.getElem_toArray, List.getElem_cons_zero, List.getElem_cons_succ, Act.put, List.setIfInBounds_toArray, List.set_cons_zero, List.set_cons_succ])
          refine wpAnyK_one (i := 4) (by kernel_rfl) rfl (fun K hK => ?_)
          (try simp only [List.getElem_toArray, List.getElem_cons_zero, List.getElem_cons_succ, Act.put, List.setIfInBounds_toArray, List.set_cons_zero, List.set_cons_succ])
          go_simp
          refine (HW3.out u1 HU1.out).mono ?_
          rintro e7 u2 ⟨rfl, hu4⟩
          have HU2 : Hid (Below w1.heap.size w1 u2) := by rw [hu4]; exact HU1.out.drew
          rw [← hu4] at SM HQU
          clear hu4
          refine hK.out _ _ (fun _ => trivial) (fun hHeld0 => ?_)
          have hHeld := hHeld0 (by decide)
          clear hHeld0 hK K
          (try simp only [List.getElem_toArray, List.getElem_cons_zero, List.getElem_cons_succ, Act.put, List.setIfInBounds_toArray, List.set_cons_zero, List.set_cons_succ])
          refine wpAnyK_one (i := 10) (by kernel_rfl) rfl (fun K hK => ?_)
          (try simp only [List.getElem_toArray, List.getElem_cons_zero, List.getElem_cons_succ, Act.put, List.setIfInBounds_toArray, List.set_cons_zero, List.set_cons_succ])
          go_simp
          refine SM.mono ?_
          rintro e8 u3 ⟨rfl, hu3⟩
          subst u3
          refine hK.out _ _ (fun _ => trivial) (fun hHeld0 => ?_)
          have hHeld := hHeld0 (by decide)
          clear hHeld0 hK K
          (try simp only [List.getElem_toArray, List.getElem_cons_zero, List.getElem_cons_succ, Act.put, List.setIfInBounds_toArray, List.set_cons_zero, List.set_cons_succ])
          refine wpAnyK_take (i := 11) (v := .bool false) rfl (by kernel_rfl) (by kernel_rfl) (by kernel_rfl) (by kernel_rfl) (fun _ _ _ h => h) (Or.inl ⟨by rfl, fun w hSw => by go_simp⟩) hHeld ?_
          simp only [List.getElem_toArray, List.getElem_cons_zero, List.getElem_cons_succ, Act.put, List.setIfInBounds_toArray, List.set_cons_zero, List.set_cons_succ]
          refine wpAnyK_done (by kernel_rfl) ?_ _
          have HA7 : Hid (Below wA.heap.size wA u2) := HB1.out.trans (HU2.out.mono HB1.out.size)
          clear SM
          have rq := HQU.out
          have rd0 : u2.cell? ⟨b8, 0, none⟩ = some (.int .i64 H.o) := cell18 rq rfl
          have rf0 : u2.frozen? ⟨b8, 0, none⟩ = false := (sx18 rq).f 0
          have rd1 : u2.cell? ⟨b8, 1, none⟩ = some (.int .i64 H.n) := cell18 rq rfl
          have rf1 : u2.frozen? ⟨b8, 1, none⟩ = false := (sx18 rq).f 1
          have rd2 : u2.cell? ⟨b8, 2, none⟩ = some (.int .u32 H.so) := cell18 rq rfl
          have rf2 : u2.frozen? ⟨b8, 2, none⟩ = false := (sx18 rq).f 2
          have rd3 : u2.cell? ⟨b8, 3, none⟩ = some (.int .u32 H.sn) := cell18 rq rfl
          have rf3 : u2.frozen? ⟨b8, 3, none⟩ = false := (sx18 rq).f 3
          have rd4 : u2.cell? ⟨b8, 4, none⟩ = some (.int .i64 H.wi) := cell18 rq rfl
          have rf4 : u2.frozen? ⟨b8, 4, none⟩ = false := (sx18 rq).f 4
          have rd5 : u2.cell? ⟨b8, 5, none⟩ = some (.int .i64 H.lo) := cell18 rq rfl
          have rf5 : u2.frozen? ⟨b8, 5, none⟩ = false := (sx18 rq).f 5
          have q := HQ.out u2 HA7.out
          have d0 : u2.cell? ⟨b4, 0, none⟩ = some (.int .i64 0) := cell18 q rfl
          have f0 : u2.frozen? ⟨b4, 0, none⟩ = false := (sx18 q).f 0
          have d1 : u2.cell? ⟨b4, 1, none⟩ = some (.int .i64 0) := cell18 q rfl
          have f1 : u2.frozen? ⟨b4, 1, none⟩ = false := (sx18 q).f 1
          have d2 : u2.cell? ⟨b4, 2, none⟩ = some (.int .u32 0) := cell18 q rfl
          have f2 : u2.frozen? ⟨b4, 2, none⟩ = false := (sx18 q).f 2
          have d3 : u2.cell? ⟨b4, 3, none⟩ = some (.int .u32 0) := cell18 q rfl
          have f3 : u2.frozen? ⟨b4, 3, none⟩ = false := (sx18 q).f 3
          have d4 : u2.cell? ⟨b4, 4, none⟩ = some (.int .i64 0) := cell18 q rfl
          have f4 : u2.frozen? ⟨b4, 4, none⟩ = false := (sx18 q).f 4
          have d5 : u2.cell? ⟨b4, 5, none⟩ = some (.int .i64 0) := cell18 q rfl
          have f5 : u2.frozen? ⟨b4, 5, none⟩ = false := (sx18 q).f 5
          go_wp2_with fail
          refine bodyPost_ret (v := .tuple #[.agg #[.int .i64 H.o, .int .i64 H.n, .int .u32 H.so, .int .u32 H.sn, .int .i64 H.wi, .int .i64 H.lo], .int .i64 (n17 : Int), .int .i64 0]) (results_ctt18 (fn := Tryz.f28) (p := 2) (u := 3) (v := 4) (ty := 41) rfl _ _ b4 _ _ _ _ rfl (st18_q (H := H) q) Tryz.underlying41 rfl (by kernel_rfl)) rfl ?_
          have hA := HNA.out HX0.out
          exact HPOST.out u2 H 0 (n17 : Int) HA7.out (by rw [hA.1, HIS.out HJ.out]) hA.2 HX0.out
      · have HX3 : Hid (hx18 z = 183) := hx18_bad (HFF.out HJ.out) (fun x => hs (HSU.out.1 x))
        have hne : (x8 != y8) = true := by simp [hs]
        clear hs
        go_wp2_with fail
        refine plain_region16 (fun _ => True) 12 (by kernel_rfl) trivial (fun hHeld => ?_)
        refine wpAnyK_take (i := 0) (v := .slice za z.length zc) rfl (by kernel_rfl) (by kernel_rfl) (by kernel_rfl) (by kernel_rfl) (fun _ _ _ h => h) (Or.inl ⟨by rfl, fun w hSw => by go_simp⟩) hHeld ?_
        simp only [List.getElem_toArray, List.getElem_cons_zero, Act.put, List.setIfInBounds_toArray, List.set_cons_zero, List.set_cons_succ]
        refine wpAnyK_take (i := 1) (v := .int .i64 (n5 : Int)) rfl (by kernel_rfl) (by kernel_rfl) (by kernel_rfl) (by kernel_rfl) (fun _ _ _ h => h) (Or.inl ⟨by rfl, fun w hSw => by go_simp⟩) hHeld ?_
        simp only [List.getElem_toArray, List.getElem_cons_zero, List.getElem_cons_succ, Act.put, List.setIfInBounds_toArray, List.set_cons_zero, List.set_cons_succ]
        refine wpAnyK_take (i := 2) (v := .int .i64 (n13 : Int)) rfl (by kernel_rfl) (by kernel_rfl) (by kernel_rfl) (by kernel_rfl) (fun _ _ _ h => h) (Or.inl ⟨by rfl, fun w hSw => by go_simp⟩) hHeld ?_
        simp only [List.getElem_toArray, List.getElem_cons_zero, List.getElem_cons_succ, Act.put, List.setIfInBounds_toArray, List.set_cons_zero, List.set_cons_succ]
        refine wpAnyK_take (i := 3) (v := .slice q3 (z.length - n13) (zc - n13)) rfl (by kernel_rfl) (by kernel_rfl) (by kernel_rfl) (by kernel_rfl) (fun _ _ _ h => h) (Or.inl ⟨by rfl, fun w hSw => by go_simp⟩) hHeld ?_
        simp only [List.getElem_toArray, List.getElem_cons_zero, List.getElem_cons_succ, Act.put, List.setIfInBounds_toArray, List.set_cons_zero, List.set_cons_succ]
        refine wpAnyK_take (i := 5) (v := .slice za z.length zc) rfl (by kernel_rfl) (by kernel_rfl) (by kernel_rfl) (by kernel_rfl) (fun _ _ _ h => h) (Or.inl ⟨by rfl, fun w hSw => by go_simp⟩) hHeld ?_
        simp only [List.getElem_toArray, List.getElem_cons_zero, List.getElem_cons_succ, Act.put, List.setIfInBounds_toArray, List.set_cons_zero, List.set_cons_succ]
        refine wpAnyK_take (i := 6) (v := .int .i64 (n5 : Int)) rfl (by kernel_rfl) (by kernel_rfl) (by kernel_rfl) (by kernel_rfl) (fun _ _ _ h => h) (Or.inl ⟨by rfl, fun w hSw => by go_simp⟩) hHeld ?_
        simp only [List.getElem_toArray, List.getElem_cons_zero, List.getElem_cons_succ, Act.put, List.setIfInBounds_toArray, List.set_cons_zero, List.set_cons_succ]
        refine wpAnyK_take (i := 7) (v := .int .i64 (n13 : Int)) rfl (by kernel_rfl) (by kernel_rfl) (by kernel_rfl) (by kernel_rfl) (fun _ _ _ h => h) (Or.inl ⟨by rfl, fun w hSw => by go_simp⟩) hHeld ?_
        simp only [List.getElem_toArray, List.getElem_cons_zero, List.getElem_cons_succ, Act.put, List.setIfInBounds_toArray, List.set_cons_zero, List.set_cons_succ]
        refine wpAnyK_take (i := 8) (v := .slice za n13 zc) rfl (by kernel_rfl) (by kernel_rfl) (by kernel_rfl) (by kernel_rfl) (fun _ _ _ h => h) (Or.inl ⟨by rfl, fun w hSw => by go_simp⟩) hHeld ?_
        simp only [List.getElem_toArray, List.getElem_cons_zero, List.getElem_cons_succ, Act.put, List.setIfInBounds_toArray, List.set_cons_zero, List.set_cons_succ]
        have HU0 : Hid (Below w1.heap.size w1 w6.drew) := HB6.out.drew
        have HQ0' : Hid (w6.drew.heap[b8]? = some (.cells H.cs 41 (0, 0))) := HQ6.out
        generalize w6.drew = u0 at *
        refine wpAnyK_two (i := 4) (j := 9) (by kernel_rfl) rfl rfl (fun K hK => ?_) (fun K hK => ?_)
        · (try simp only [List.getElem_toArray, List.getElem_cons_zero, List.getElem_cons_succ, Act.put, List.setIfInBounds_toArray, List.set_cons_zero, List.set_cons_succ])
          go_simp
          refine (HW3.out u0 HU0.out).mono ?_
          rintro e7 u1 ⟨rfl, hu⟩
          have HU1 : Hid (Below w1.heap.size w1 u1) := by rw [hu]; exact HU0.out.drew
          have HQ1' : Hid (u1.heap[b8]? = some (.cells H.cs 41 (0, 0))) := by rw [hu]; exact HQ0'.out
          clear hu
          refine hK.out _ _ (fun _ => trivial) (fun hHeld0 => ?_)
          have hHeld := hHeld0 (by decide)
          clear hHeld0 hK K
          (try simp only [List.getElem_toArray, List.getElem_cons_zero, List.getElem_cons_succ, Act.put, List.setIfInBounds_toArray, List.set_cons_zero, List.set_cons_succ])
          have SM := HSM.out u1 n13 HU1.out HN13.out.1
          have HU2 : Hid (Below w1.heap.size w1 (u1.alloc (.cells #[.slice za n13 zc] 26))) := HU1.out.alloc HU1.out.size _
          have HQU : Hid ((u1.alloc (.cells #[.slice za n13 zc] 26)).heap[b8]? = some (.cells H.cs 41 (0, 0))) := (((Below.refl u1.heap.size u1).alloc (Nat.le_refl _) (.cells #[.slice za n13 zc] 26)).block _ (Array.getElem?_eq_some_iff.1 HQ1'.out).1).trans HQ1'.out
          obtain ⟨u2, hu2⟩ : ∃ u, u = u1.alloc (.cells #[.slice za n13 zc] 26) := ⟨_, rfl⟩
          rw [← hu2] at SM HU2 HQU
          refine wpAnyK_one (i := 9) (by kernel_rfl) rfl (fun K hK => ?_)
          (try simp only [List.getElem_toArray, List.getElem_cons_zero, List.getElem_cons_succ, Act.put, List.setIfInBounds_toArray, List.set_cons_zero, List.set_cons_succ])
          go_simp
          rw [← hu2]
          clear hu2
          refine hK.out _ _ (fun _ => trivial) (fun hHeld0 => ?_)
          have hHeld := hHeld0 (by decide)
          clear hHeld0 hK K
          (try simp only [List.getElem_toArray, List.getElem_cons_zero, List.getElem_cons_succ, Act.put, List.setIfInBounds_toArray, List.set_cons_zero, List.set_cons_succ])
          refine wpAnyK_one (i := 10) (by kernel_rfl) rfl (fun K hK => ?_)
          (try simp only [List.getElem_toArray, List.getElem_cons_zero, List.getElem_cons_succ, Act.put, List.setIfInBounds_toArray, List.set_cons_zero, List.set_cons_succ])
          go_simp
          refine SM.mono ?_
          rintro e8 u3 ⟨rfl, hu3⟩
          subst u3
          refine hK.out _ _ (fun _ => trivial) (fun hHeld0 => ?_)
          have hHeld := hHeld0 (by decide)
          clear hHeld0 hK K
          (try simp only [List.getElem_toArray, List.getElem_cons_zero, List.getElem_cons_succ, Act.put, List.setIfInBounds_toArray, List.set_cons_zero, List.set_cons_succ])
          refine wpAnyK_take (i := 11) (v := .bool true) rfl (by kernel_rfl) (by kernel_rfl) (by kernel_rfl) (by kernel_rfl) (fun _ _ _ h => h) (Or.inl ⟨by rfl, fun w hSw => by go_simp⟩) hHeld ?_
          simp only [List.getElem_toArray, List.getElem_cons_zero, List.getElem_cons_succ, Act.put, List.setIfInBounds_toArray, List.set_cons_zero, List.set_cons_succ]
          refine wpAnyK_done (by kernel_rfl) ?_ _
          have HA7 : Hid (Below wA.heap.size wA u2) := HB1.out.trans (HU2.out.mono HB1.out.size)
          clear SM
          have q := HQ.out u2 HA7.out
          have d0 : u2.cell? ⟨b4, 0, none⟩ = some (.int .i64 0) := cell18 q rfl
          have f0 : u2.frozen? ⟨b4, 0, none⟩ = false := (sx18 q).f 0
          have d1 : u2.cell? ⟨b4, 1, none⟩ = some (.int .i64 0) := cell18 q rfl
          have f1 : u2.frozen? ⟨b4, 1, none⟩ = false := (sx18 q).f 1
          have d2 : u2.cell? ⟨b4, 2, none⟩ = some (.int .u32 0) := cell18 q rfl
          have f2 : u2.frozen? ⟨b4, 2, none⟩ = false := (sx18 q).f 2
          have d3 : u2.cell? ⟨b4, 3, none⟩ = some (.int .u32 0) := cell18 q rfl
          have f3 : u2.frozen? ⟨b4, 3, none⟩ = false := (sx18 q).f 3
          have d4 : u2.cell? ⟨b4, 4, none⟩ = some (.int .i64 0) := cell18 q rfl
          have f4 : u2.frozen? ⟨b4, 4, none⟩ = false := (sx18 q).f 4
          have d5 : u2.cell? ⟨b4, 5, none⟩ = some (.int .i64 0) := cell18 q rfl
          have f5 : u2.frozen? ⟨b4, 5, none⟩ = false := (sx18 q).f 5
          go_wp2_with fail
          refine bodyPost_ret (v := .tuple #[.agg #[.int .i64 0, .int .i64 0, .int .u32 0, .int .u32 0, .int .i64 0, .int .i64 0], .int .i64 0, .int .i64 183]) (results_ctt18 (fn := Tryz.f28) (p := 2) (u := 3) (v := 4) (ty := 41) rfl _ _ b4 _ _ _ _ rfl (st18_q (H := ⟨0, 0, 0, 0, 0, 0⟩) q) Tryz.underlying41 rfl (by kernel_rfl)) rfl ?_
          have hA := hA18_no (z := z) (x := 183) (HX3.out) (by decide)
          exact HPOST.out u2 ⟨0, 0, 0, 0, 0, 0⟩ 183 0 HA7.out hA.1 hA.2 (HX3.out)
        · (try simp only [List.getElem_toArray, List.getElem_cons_zero, List.getElem_cons_succ, Act.put, List.setIfInBounds_toArray, List.set_cons_zero, List.set_cons_succ])
          go_simp
          have SM := HSD.out u0 n13 (HU0.out) HN13.out.1
          have HU1 : Hid (Below w1.heap.size w1 (u0.alloc (.cells #[.slice za n13 zc] 26))) := HU0.out.alloc HU0.out.size _
          have HQU : Hid ((u0.alloc (.cells #[.slice za n13 zc] 26)).drew.heap[b8]? = some (.cells H.cs 41 (0, 0))) := (((Below.refl u0.heap.size u0).alloc (Nat.le_refl _) (.cells #[.slice za n13 zc] 26)).drew.block _ (Array.getElem?_eq_some_iff.1 HQ0'.out).1).trans HQ0'.out
          obtain ⟨u1, hu1⟩ : ∃ u, u = u0.alloc (.cells #[.slice za n13 zc] 26) := ⟨_, rfl⟩
          rw [← hu1] at SM HU1 HQU
          rw [← hu1]
          clear hu1
          refine hK.out _ _ (fun _ => trivial) (fun hHeld0 => ?_)
          have hHeld := hHeld0 (by decide)
          clear hHeld0 hK K
          (try simp only [List.getElem_toArray, List.getElem_cons_zero, List.getElem_cons_succ, Act.put, List.setIfInBounds_toArray, List.set_cons_zero, List.set_cons_succ])
          refine wpAnyK_one (i := 4) (by kernel_rfl) rfl (fun K hK => ?_)
          (try simp only [List.getElem_toArray, List.getElem_cons_zero, List.getElem_cons_succ, Act.put, List.setIfInBounds_toArray, List.set_cons_zero, List.set_cons_succ])
          go_simp
          refine (HW3.out u1 HU1.out).mono ?_
          rintro e7 u2 ⟨rfl, hu4⟩
          have HU2 : Hid (Below w1.heap.size w1 u2) := by rw [hu4]; exact HU1.out.drew
          rw [← hu4] at SM HQU
          clear hu4
          refine hK.out _ _ (fun _ => trivial) (fun hHeld0 => ?_)
          have hHeld := hHeld0 (by decide)
          clear hHeld0 hK K
          (try simp only [List.getElem_toArray, List.getElem_cons_zero, List.getElem_cons_succ, Act.put, List.setIfInBounds_toArray, List.set_cons_zero, List.set_cons_succ])
          refine wpAnyK_one (i := 10) (by kernel_rfl) rfl (fun K hK => ?_)
          (try simp only [List.getElem_toArray, List.getElem_cons_zero, List.getElem_cons_succ, Act.put, List.setIfInBounds_toArray, List.set_cons_zero, List.set_cons_succ])
          go_simp
          refine SM.mono ?_
          rintro e8 u3 ⟨rfl, hu3⟩
          subst u3
          refine hK.out _ _ (fun _ => trivial) (fun hHeld0 => ?_)
          have hHeld := hHeld0 (by decide)
          clear hHeld0 hK K
          (try simp only [List.getElem_toArray, List.getElem_cons_zero, List.getElem_cons_succ, Act.put, List.setIfInBounds_toArray, List.set_cons_zero, List.set_cons_succ])
          refine wpAnyK_take (i := 11) (v := .bool true) rfl (by kernel_rfl) (by kernel_rfl) (by kernel_rfl) (by kernel_rfl) (fun _ _ _ h => h) (Or.inl ⟨by rfl, fun w hSw => by go_simp⟩) hHeld ?_
          simp only [List.getElem_toArray, List.getElem_cons_zero, List.getElem_cons_succ, Act.put, List.setIfInBounds_toArray, List.set_cons_zero, List.set_cons_succ]
          refine wpAnyK_done (by kernel_rfl) ?_ _
          have HA7 : Hid (Below wA.heap.size wA u2) := HB1.out.trans (HU2.out.mono HB1.out.size)
          clear SM
          have q := HQ.out u2 HA7.out
          have d0 : u2.cell? ⟨b4, 0, none⟩ = some (.int .i64 0) := cell18 q rfl
          have f0 : u2.frozen? ⟨b4, 0, none⟩ = false := (sx18 q).f 0
          have d1 : u2.cell? ⟨b4, 1, none⟩ = some (.int .i64 0) := cell18 q rfl
          have f1 : u2.frozen? ⟨b4, 1, none⟩ = false := (sx18 q).f 1
          have d2 : u2.cell? ⟨b4, 2, none⟩ = some (.int .u32 0) := cell18 q rfl
          have f2 : u2.frozen? ⟨b4, 2, none⟩ = false := (sx18 q).f 2
          have d3 : u2.cell? ⟨b4, 3, none⟩ = some (.int .u32 0) := cell18 q rfl
          have f3 : u2.frozen? ⟨b4, 3, none⟩ = false := (sx18 q).f 3
          have d4 : u2.cell? ⟨b4, 4, none⟩ = some (.int .i64 0) := cell18 q rfl
          have f4 : u2.frozen? ⟨b4, 4, none⟩ = false := (sx18 q).f 4
          have d5 : u2.cell? ⟨b4, 5, none⟩ = some (.int .i64 0) := cell18 q rfl
          have f5 : u2.frozen? ⟨b4, 5, none⟩ = false := (sx18 q).f 5
          go_wp2_with fail
          refine bodyPost_ret (v := .tuple #[.agg #[.int .i64 0, .int .i64 0, .int .u32 0, .int .u32 0, .int .i64 0, .int .i64 0], .int .i64 0, .int .i64 183]) (results_ctt18 (fn := Tryz.f28) (p := 2) (u := 3) (v := 4) (ty := 41) rfl _ _ b4 _ _ _ _ rfl (st18_q (H := ⟨0, 0, 0, 0, 0, 0⟩) q) Tryz.underlying41 rfl (by kernel_rfl)) rfl ?_
          have hA := hA18_no (z := z) (x := 183) (HX3.out) (by decide)
          exact HPOST.out u2 ⟨0, 0, 0, 0, 0, 0⟩ 183 0 HA7.out hA.1 hA.2 (HX3.out)
  · (try simp only [List.getElem_toArray, List.getElem_cons_zero, List.getElem_cons_succ, Act.put, List.setIfInBounds_toArray, List.set_cons_zero, List.set_cons_succ])
    go_simp
    obtain ⟨v1, hv⟩ : ∃ v, v = v0.alloc (.cells #[.int .i64 0, .int .i64 0, .int .u32 0, .int .u32 0, .int .i64 0, .int .i64 0] 41) := ⟨_, rfl⟩
    have hsz : v0.heap.size = w1.heap.size := HZ0.out
    have HV1 : Hid (Below w1.heap.size w1 v1) := by rw [hv]; exact HV0.out.alloc HV0.out.size _
    have HQ1 : Hid (v1.heap[w1.heap.size]? = some (.cells (⟨0, 0, 0, 0, 0, 0⟩ : Hd18).cs 41 (0, 0))) := by
      have := (cb16 v0 #[.int .i64 0, .int .i64 0, .int .u32 0, .int .u32 0, .int .i64 0, .int .i64 0] 41).cl
      rw [← hv, hsz] at this
      exact this
    (try rw [hsz])
    (try rw [← hv])
    clear hv hsz
    refine hK.out _ _ (fun _ => HC0.out v1 HV1.out) (fun hHeld0 => ?_)
    have hHeld := hHeld0 (by decide)
    clear hHeld0 hK K
    (try simp only [List.getElem_toArray, List.getElem_cons_zero, List.getElem_cons_succ, Act.put, List.setIfInBounds_toArray, List.set_cons_zero, List.set_cons_succ])
    refine wpAnyK_one (i := 15) (by kernel_rfl) rfl (fun K hK => ?_)
    (try simp only [List.getElem_toArray, List.getElem_cons_zero, List.getElem_cons_succ, Act.put, List.setIfInBounds_toArray, List.set_cons_zero, List.set_cons_succ])
    go_simp
    refine (HW1.out v1 HV1.out).mono ?_
    rintro e2 v2 ⟨rfl, hv⟩
    have HV2 : Hid (Below w1.heap.size w1 v2) := by rw [hv]; exact HV1.out.drew
    have HQ2 : Hid (v2.heap[w1.heap.size]? = some (.cells (⟨0, 0, 0, 0, 0, 0⟩ : Hd18).cs 41 (0, 0))) := by rw [hv]; exact HQ1.out
    (try clear hv)
    refine hK.out _ _ (fun _ => HC0.out v2 HV2.out) (fun hHeld0 => ?_)
    have hHeld := hHeld0 (by decide)
    clear hHeld0 hK K
    (try simp only [List.getElem_toArray, List.getElem_cons_zero, List.getElem_cons_succ, Act.put, List.setIfInBounds_toArray, List.set_cons_zero, List.set_cons_succ])
    refine wpAnyK_one (i := 20) (by kernel_rfl) rfl (fun K hK => ?_)
    (try simp only [List.getElem_toArray, List.getElem_cons_zero, List.getElem_cons_succ, Act.put, List.setIfInBounds_toArray, List.set_cons_zero, List.set_cons_succ])
    go_simp
    refine (HW2.out v2 HV2.out).mono ?_
    rintro e2 v3 ⟨rfl, hv⟩
    have HV3 : Hid (Below w1.heap.size w1 v3) := by rw [hv]; exact HV2.out.drew
    have HQ3 : Hid (v3.heap[w1.heap.size]? = some (.cells (⟨0, 0, 0, 0, 0, 0⟩ : Hd18).cs 41 (0, 0))) := by rw [hv]; exact HQ2.out
    (try clear hv)
    refine hK.out _ _ (fun _ => HC0.out v3 HV3.out) (fun hHeld0 => ?_)
    have hHeld := hHeld0 (by decide)
    clear hHeld0 hK K
    (try simp only [List.getElem_toArray, List.getElem_cons_zero, List.getElem_cons_succ, Act.put, List.setIfInBounds_toArray, List.set_cons_zero, List.set_cons_succ])
    have q := HQ3.out
    have d0 : v3.cell? ⟨w1.heap.size, 0, none⟩ = some (.int .i64 0) := cell18 q rfl
    have f0 : v3.frozen? ⟨w1.heap.size, 0, none⟩ = false := (sx18 q).f 0
    have d1 : v3.cell? ⟨w1.heap.size, 1, none⟩ = some (.int .i64 0) := cell18 q rfl
    have f1 : v3.frozen? ⟨w1.heap.size, 1, none⟩ = false := (sx18 q).f 1
    have d2 : v3.cell? ⟨w1.heap.size, 2, none⟩ = some (.int .u32 0) := cell18 q rfl
    have f2 : v3.frozen? ⟨w1.heap.size, 2, none⟩ = false := (sx18 q).f 2
    have d3 : v3.cell? ⟨w1.heap.size, 3, none⟩ = some (.int .u32 0) := cell18 q rfl
    have f3 : v3.frozen? ⟨w1.heap.size, 3, none⟩ = false := (sx18 q).f 3
    have d4 : v3.cell? ⟨w1.heap.size, 4, none⟩ = some (.int .i64 0) := cell18 q rfl
    have f4 : v3.frozen? ⟨w1.heap.size, 4, none⟩ = false := (sx18 q).f 4
    have d5 : v3.cell? ⟨w1.heap.size, 5, none⟩ = some (.int .i64 0) := cell18 q rfl
    have f5 : v3.frozen? ⟨w1.heap.size, 5, none⟩ = false := (sx18 q).f 5
    refine wpAnyK_take (i := 21) (v := .agg #[.int .i64 H.o, .int .i64 H.n, .int .u32 H.so, .int .u32 H.sn, .int .i64 H.wi, .int .i64 H.lo]) rfl (by kernel_rfl) (by kernel_rfl) (by kernel_rfl) (by kernel_rfl) (fun _ _ _ h => h) (Or.inl ⟨by rfl, fun w hSw => by go_simp⟩) hHeld ?_
    simp only [List.getElem_toArray, List.getElem_cons_zero, List.getElem_cons_succ, Act.put, List.setIfInBounds_toArray, List.set_cons_zero, List.set_cons_succ]
    refine wpAnyK_one (i := 23) (by kernel_rfl) rfl (fun K hK => ?_)
    simp only [List.getElem_toArray, List.getElem_cons_zero, List.getElem_cons_succ, Act.put]
    go_simp
    have hsv : w1.heap.size ≤ v3.heap.size := HV3.out.size
    obtain ⟨w5, hw5'⟩ : ∃ w5, w5 = st18 v3 w1.heap.size H := ⟨_, rfl⟩
    have HB5 : Hid (Below w1.heap.size w1 w5) := by
      rw [hw5']
      have k : Kp (fun k => w1.heap.size ≤ k) w1 (st18 v3 w1.heap.size H) := (Kp.of_below (S := fun k => w1.heap.size ≤ k) (HV3.out.mono (Nat.le_refl _))).trans (st18_k _ _ _) (fun k _ y => by have y : k = w1.heap.size := y; omega)
      exact k.below (fun _ y => y) (Nat.le_refl _)
    have HQ5 : Hid (w5.heap[w1.heap.size]? = some (.cells H.cs 41 (0, 0))) := by rw [hw5']; exact st18_q q
    unfold st18 at hw5'
    rw [← hw5']
    refine hK.out _ _ (fun _ => HC0.out w5 HB5.out) (fun hHeld0 => ?_)
    clear hHeld0 hK K hw5' q d0 d1 d2 d3 d4 d5 f0 f1 f2 f3 f4 f5
    refine wpAnyK_done (by kernel_rfl) ?_ _
    obtain ⟨b8, hb8⟩ : ∃ b, b = w1.heap.size := ⟨_, rfl⟩
    rw [← hb8] at HQ5
    rw [← hb8]
    have HB8 : Hid (b8 = w1.heap.size) := hb8
    clear hb8
    have rq := HQ5.out
    have rd0 : w5.cell? ⟨b8, 0, none⟩ = some (.int .i64 H.o) := cell18 rq rfl
    have rf0 : w5.frozen? ⟨b8, 0, none⟩ = false := (sx18 rq).f 0
    have rd1 : w5.cell? ⟨b8, 1, none⟩ = some (.int .i64 H.n) := cell18 rq rfl
    have rf1 : w5.frozen? ⟨b8, 1, none⟩ = false := (sx18 rq).f 1
    have rd2 : w5.cell? ⟨b8, 2, none⟩ = some (.int .u32 H.so) := cell18 rq rfl
    have rf2 : w5.frozen? ⟨b8, 2, none⟩ = false := (sx18 rq).f 2
    have rd3 : w5.cell? ⟨b8, 3, none⟩ = some (.int .u32 H.sn) := cell18 rq rfl
    have rf3 : w5.frozen? ⟨b8, 3, none⟩ = false := (sx18 rq).f 3
    have rd4 : w5.cell? ⟨b8, 4, none⟩ = some (.int .i64 H.wi) := cell18 rq rfl
    have rf4 : w5.frozen? ⟨b8, 4, none⟩ = false := (sx18 rq).f 4
    have rd5 : w5.cell? ⟨b8, 5, none⟩ = some (.int .i64 H.lo) := cell18 rq rfl
    have rf5 : w5.frozen? ⟨b8, 5, none⟩ = false := (sx18 rq).f 5
    go_wp2_with fail
    refine (HRC.out w5).mono ?_
    rintro e6 w6 ⟨rfl, b6⟩
    have HB6 : Hid (Below w1.heap.size w1 w6) := HB5.out.trans (b6.mono HB5.out.size)
    have HQ6 : Hid (w6.heap[b8]? = some (.cells H.cs 41 (0, 0))) := (b6.block _ (Array.getElem?_eq_some_iff.1 HQ5.out).1).trans HQ5.out
    have HA6 : Hid (Below wA.heap.size wA w6) := HB1.out.trans (HB6.out.mono HB1.out.size)
    clear b6 rq rd0 rd1 rd2 rd3 rd4 rd5 rf0 rf1 rf2 rf3 rf4 rf5
    by_cases hk : H.Ok
    rotate_left
    · rw [if_neg hk]
      have HNF : Hid (¬ Hf18 z) := fun x => hk (HTW.out.2 x.2.1)
      clear hk
      have q := HQ.out w6 HA6.out
      have d0 : w6.cell? ⟨b4, 0, none⟩ = some (.int .i64 0) := cell18 q rfl
      have f0 : w6.frozen? ⟨b4, 0, none⟩ = false := (sx18 q).f 0
      have d1 : w6.cell? ⟨b4, 1, none⟩ = some (.int .i64 0) := cell18 q rfl
      have f1 : w6.frozen? ⟨b4, 1, none⟩ = false := (sx18 q).f 1
      have d2 : w6.cell? ⟨b4, 2, none⟩ = some (.int .u32 0) := cell18 q rfl
      have f2 : w6.frozen? ⟨b4, 2, none⟩ = false := (sx18 q).f 2
      have d3 : w6.cell? ⟨b4, 3, none⟩ = some (.int .u32 0) := cell18 q rfl
      have f3 : w6.frozen? ⟨b4, 3, none⟩ = false := (sx18 q).f 3
      have d4 : w6.cell? ⟨b4, 4, none⟩ = some (.int .i64 0) := cell18 q rfl
      have f4 : w6.frozen? ⟨b4, 4, none⟩ = false := (sx18 q).f 4
      have d5 : w6.cell? ⟨b4, 5, none⟩ = some (.int .i64 0) := cell18 q rfl
      have f5 : w6.frozen? ⟨b4, 5, none⟩ = false := (sx18 q).f 5
      go_wp2_with fail
      refine bodyPost_ret (v := .tuple #[.agg #[.int .i64 0, .int .i64 0, .int .u32 0, .int .u32 0, .int .i64 0, .int .i64 0], .int .i64 0, .int .i64 182]) (results_ctt18 (fn := Tryz.f28) (p := 2) (u := 3) (v := 4) (ty := 41) rfl _ _ b4 _ _ _ _ rfl (st18_q (H := ⟨0, 0, 0, 0, 0, 0⟩) q) Tryz.underlying41 rfl (by kernel_rfl)) rfl ?_
      have hA := hA18_no (z := z) (x := 182) (hx18_no HNF.out) (by decide)
      exact HPOST.out w6 ⟨0, 0, 0, 0, 0, 0⟩ 182 0 HA6.out hA.1 hA.2 (hx18_no HNF.out)
    rw [if_pos hk]
    have HJ : Hid (Nj18 z 5 4) := HTW.out.1 hk
    clear hk
    by_cases hs : x8 = y8
    · subst hs
      have HX0 : Hid (hx18 z = 0) := hx18_ok (HFF.out HJ.out) (HSU.out.2 rfl)
      have hne : (x8 != x8) = false := by simp
      go_wp2_with fail
      refine plain_region16 (fun _ => True) 12 (by kernel_rfl) trivial (fun hHeld => ?_)
      refine wpAnyK_take (i := 0) (v := .slice za z.length zc) rfl (by kernel_rfl) (by kernel_rfl) (by kernel_rfl) (by kernel_rfl) (fun _ _ _ h => h) (Or.inl ⟨by rfl, fun w hSw => by go_simp⟩) hHeld ?_
      simp only [List.getElem_toArray, List.getElem_cons_zero, Act.put, List.setIfInBounds_toArray, List.set_cons_zero, List.set_cons_succ]
      refine wpAnyK_take (i := 1) (v := .int .i64 (n5 : Int)) rfl (by kernel_rfl) (by kernel_rfl) (by kernel_rfl) (by kernel_rfl) (fun _ _ _ h => h) (Or.inl ⟨by rfl, fun w hSw => by go_simp⟩) hHeld ?_
      simp only [List.getElem_toArray, List.getElem_cons_zero, List.getElem_cons_succ, Act.put, List.setIfInBounds_toArray, List.set_cons_zero, List.set_cons_succ]
      refine wpAnyK_take (i := 2) (v := .int .i64 (n13 : Int)) rfl (by kernel_rfl) (by kernel_rfl) (by kernel_rfl) (by kernel_rfl) (fun _ _ _ h => h) (Or.inl ⟨by rfl, fun w hSw => by go_simp⟩) hHeld ?_
      simp only [List.getElem_toArray, List.getElem_cons_zero, List.getElem_cons_succ, Act.put, List.setIfInBounds_toArray, List.set_cons_zero, List.set_cons_succ]
      refine wpAnyK_take (i := 3) (v := .slice q3 (z.length - n13) (zc - n13)) rfl (by kernel_rfl) (by kernel_rfl) (by kernel_rfl) (by kernel_rfl) (fun _ _ _ h => h) (Or.inl ⟨by rfl, fun w hSw => by go_simp⟩) hHeld ?_
      simp only [List.getElem_toArray, List.getElem_cons_zero, List.getElem_cons_succ, Act.put, List.setIfInBounds_toArray, List.set_cons_zero, List.set_cons_succ]
      refine wpAnyK_take (i := 5) (v := .slice za z.length zc) rfl (by kernel_rfl) (by kernel_rfl) (by kernel_rfl) (by kernel_rfl) (fun _ _ _ h => h) (Or.inl ⟨by rfl, fun w hSw => by go_simp⟩) hHeld ?_
      simp only [List.getElem_toArray, List.getElem_cons_zero, List.getElem_cons_succ, Act.put, List.setIfInBounds_toArray, List.set_cons_zero, List.set_cons_succ]
      refine wpAnyK_take (i := 6) (v := .int .i64 (n5 : Int)) rfl (by kernel_rfl) (by kernel_rfl) (by kernel_rfl) (by kernel_rfl) (fun _ _ _ h => h) (Or.inl ⟨by rfl, fun w hSw => by go_simp⟩) hHeld ?_
      simp only [List.getElem_toArray, List.getElem_cons_zero, List.getElem_cons_succ, Act.put, List.setIfInBounds_toArray, List.set_cons_zero, List.set_cons_succ]
      refine wpAnyK_take (i := 7) (v := .int .i64 (n13 : Int)) rfl (by kernel_rfl) (by kernel_rfl) (by kernel_rfl) (by kernel_rfl) (fun _ _ _ h => h) (Or.inl ⟨by rfl, fun w hSw => by go_simp⟩) hHeld ?_
      simp only [List.getElem_toArray, List.getElem_cons_zero, List.getElem_cons_succ, Act.put, List.setIfInBounds_toArray, List.set_cons_zero, List.set_cons_succ]
      refine wpAnyK_take (i := 8) (v := .slice za n13 zc) rfl (by kernel_rfl) (by kernel_rfl) (by kernel_rfl) (by kernel_rfl) (fun _ _ _ h => h) (Or.inl ⟨by rfl, fun w hSw => by go_simp⟩) hHeld ?_
      simp only [List.getElem_toArray, List.getElem_cons_zero, List.getElem_cons_succ, Act.put, List.setIfInBounds_toArray, List.set_cons_zero, List.set_cons_succ]
      have HU0 : Hid (Below w1.heap.size w1 w6.drew) := HB6.out.drew
      have HQ0' : Hid (w6.drew.heap[b8]? = some (.cells H.cs 41 (0, 0))) := HQ6.out
      generalize w6.drew = u0 at *
      refine wpAnyK_two (i := 4) (j := 9) (by kernel_rfl) rfl rfl (fun K hK => ?_) (fun K hK => ?_)
      · (try simp only [List.getElem_toArray, List.getElem_cons_zero, List.getElem_cons_succ, Act.put, List.setIfInBounds_toArray, List.set_cons_zero, List.set_cons_succ])
        go_simp
        refine (HW3.out u0 HU0.out).mono ?_
        rintro e7 u1 ⟨rfl, hu⟩
        have HU1 : Hid (Below w1.heap.size w1 u1) := by rw [hu]; exact HU0.out.drew
        have HQ1' : Hid (u1.heap[b8]? = some (.cells H.cs 41 (0, 0))) := by rw [hu]; exact HQ0'.out
        clear hu
        refine hK.out _ _ (fun _ => trivial) (fun hHeld0 => ?_)
        have hHeld := hHeld0 (by decide)
        clear hHeld0 hK K
        (try simp only [List.getElem_toArray, List.getElem_cons_zero, List.getElem_cons_succ, Act.put, List.setIfInBounds_toArray, List.set_cons_zero, List.set_cons_succ])
        have SM := HSM.out u1 n13 HU1.out HN13.out.1
        have HU2 : Hid (Below w1.heap.size w1 (u1.alloc (.cells #[.slice za n13 zc] 26))) := HU1.out.alloc HU1.out.size _
        have HQU : Hid ((u1.alloc (.cells #[.slice za n13 zc] 26)).heap[b8]? = some (.cells H.cs 41 (0, 0))) := (((Below.refl u1.heap.size u1).alloc (Nat.le_refl _) (.cells #[.slice za n13 zc] 26)).block _ (Array.getElem?_eq_some_iff.1 HQ1'.out).1).trans HQ1'.out
        obtain ⟨u2, hu2⟩ : ∃ u, u = u1.alloc (.cells #[.slice za n13 zc] 26) := ⟨_, rfl⟩
        rw [← hu2] at SM HU2 HQU
        refine wpAnyK_one (i := 9) (by kernel_rfl) rfl (fun K hK => ?_)
        (try simp only [List.getElem_toArray, List.getElem_cons_zero, List.getElem_cons_succ, Act.put, List.setIfInBounds_toArray, List.set_cons_zero, List.set_cons_succ])
        go_simp
        rw [← hu2]
        clear hu2
        refine hK.out _ _ (fun _ => trivial) (fun hHeld0 => ?_)
        have hHeld := hHeld0 (by decide)
        clear hHeld0 hK K
        (try simp only [List.getElem_toArray, List.getElem_cons_zero, List.getElem_cons_succ, Act.put, List.setIfInBounds_toArray, List.set_cons_zero, List.set_cons_succ])
        refine wpAnyK_one (i := 10) (by kernel_rfl) rfl (fun K hK => ?_)
        (try simp only [List.getElem_toArray, List.getElem_cons_zero, List.getElem_cons_succ, Act.put, List.setIfInBounds_toArray, List.set_cons_zero, List.set_cons_succ])
        go_simp
        refine SM.mono ?_
        rintro e8 u3 ⟨rfl, hu3⟩
        subst u3
        refine hK.out _ _ (fun _ => trivial) (fun hHeld0 => ?_)
        have hHeld := hHeld0 (by decide)
        clear hHeld0 hK K
        (try simp only [List.getElem_toArray, List.getElem_cons_zero, List.getElem_cons_succ, Act.put, List.setIfInBounds_toArray, List.set_cons_zero, List.set_cons_succ])
        refine wpAnyK_take (i := 11) (v := .bool false) rfl (by kernel_rfl) (by kernel_rfl) (by kernel_rfl) (by kernel_rfl) (fun _ _ _ h => h) (Or.inl ⟨by rfl, fun w hSw => by go_simp⟩) hHeld ?_
        simp only [List.getElem_toArray, List.getElem_cons_zero, List.getElem_cons_succ, Act.put, List.setIfInBounds_toArray, List.set_cons_zero, List.set_cons_succ]
        refine wpAnyK_done (by kernel_rfl) ?_ _
        have HA7 : Hid (Below wA.heap.size wA u2) := HB1.out.trans (HU2.out.mono HB1.out.size)
        clear SM
        have rq := HQU.out
        have rd0 : u2.cell? ⟨b8, 0, none⟩ = some (.int .i64 H.o) := cell18 rq rfl
        have rf0 : u2.frozen? ⟨b8, 0, none⟩ = false := (sx18 rq).f 0
        have rd1 : u2.cell? ⟨b8, 1, none⟩ = some (.int .i64 H.n) := cell18 rq rfl
        have rf1 : u2.frozen? ⟨b8, 1, none⟩ = false := (sx18 rq).f 1
        have rd2 : u2.cell? ⟨b8, 2, none⟩ = some (.int .u32 H.so) := cell18 rq rfl
        have rf2 : u2.frozen? ⟨b8, 2, none⟩ = false := (sx18 rq).f 2
        have rd3 : u2.cell? ⟨b8, 3, none⟩ = some (.int .u32 H.sn) := cell18 rq rfl
        have rf3 : u2.frozen? ⟨b8, 3, none⟩ = false := (sx18 rq).f 3
        have rd4 : u2.cell? ⟨b8, 4, none⟩ = some (.int .i64 H.wi) := cell18 rq rfl
        have rf4 : u2.frozen? ⟨b8, 4, none⟩ = false := (sx18 rq).f 4
        have rd5 : u2.cell? ⟨b8, 5, none⟩ = some (.int .i64 H.lo) := cell18 rq rfl
        have rf5 : u2.frozen? ⟨b8, 5, none⟩ = false := (sx18 rq).f 5
        have q := HQ.out u2 HA7.out
        have d0 : u2.cell? ⟨b4, 0, none⟩ = some (.int .i64 0) := cell18 q rfl
        have f0 : u2.frozen? ⟨b4, 0, none⟩ = false := (sx18 q).f 0
        have d1 : u2.cell? ⟨b4, 1, none⟩ = some (.int .i64 0) := cell18 q rfl
        have f1 : u2.frozen? ⟨b4, 1, none⟩ = false := (sx18 q).f 1
        have d2 : u2.cell? ⟨b4, 2, none⟩ = some (.int .u32 0) := cell18 q rfl
        have f2 : u2.frozen? ⟨b4, 2, none⟩ = false := (sx18 q).f 2
        have d3 : u2.cell? ⟨b4, 3, none⟩ = some (.int .u32 0) := cell18 q rfl
        have f3 : u2.frozen? ⟨b4, 3, none⟩ = false := (sx18 q).f 3
        have d4 : u2.cell? ⟨b4, 4, none⟩ = some (.int .i64 0) := cell18 q rfl
        have f4 : u2.frozen? ⟨b4, 4, none⟩ = false := (sx18 q).f 4
        have d5 : u2.cell? ⟨b4, 5, none⟩ = some (.int .i64 0) := cell18 q rfl
        have f5 : u2.frozen? ⟨b4, 5, none⟩ = false := (sx18 q).f 5
        go_wp2_with fail
        refine bodyPost_ret (v := .tuple #[.agg #[.int .i64 H.o, .int .i64 H.n, .int .u32 H.so, .int .u32 H.sn, .int .i64 H.wi, .int .i64 H.lo], .int .i64 (n17 : Int), .int .i64 0]) (results_ctt18 (fn := Tryz.f28) (p := 2) (u := 3) (v := 4) (ty := 41) rfl _ _ b4 _ _ _ _ rfl (st18_q (H := H) q) Tryz.underlying41 rfl (by kernel_rfl)) rfl ?_
        have hA := HNA.out HX0.out
        exact HPOST.out u2 H 0 (n17 : Int) HA7.out (by rw [hA.1, HIS.out HJ.out]) hA.2 HX0.out
      · (try simp only [List.getElem_toArray, List.getElem_cons_zero, List.getElem_cons_succ, Act.put, List.setIfInBounds_toArray, List.set_cons_zero, List.set_cons_succ])
        go_simp
        have SM := HSD.out u0 n13 (HU0.out) HN13.out.1
        have HU1 : Hid (Below w1.heap.size w1 (u0.alloc (.cells #[.slice za n13 zc] 26))) := HU0.out.alloc HU0.out.size _
        have HQU : Hid ((u0.alloc (.cells #[.slice za n13 zc] 26)).drew.heap[b8]? = some (.cells H.cs 41 (0, 0))) := (((Below.refl u0.heap.size u0).alloc (Nat.le_refl _) (.cells #[.slice za n13 zc] 26)).drew.block _ (Array.getElem?_eq_some_iff.1 HQ0'.out).1).trans HQ0'.out
        obtain ⟨u1, hu1⟩ : ∃ u, u = u0.alloc (.cells #[.slice za n13 zc] 26) := ⟨_, rfl⟩
        rw [← hu1] at SM HU1 HQU
        rw [← hu1]
        clear hu1
        refine hK.out _ _ (fun _ => trivial) (fun hHeld0 => ?_)
        have hHeld := hHeld0 (by decide)
        clear hHeld0 hK K
        (try simp only [List.getElem_toArray, List.getElem_cons_zero, List.getElem_cons_succ, Act.put, List.setIfInBounds_toArray, List.set_cons_zero, List.set_cons_succ])
        refine wpAnyK_one (i := 4) (by kernel_rfl) rfl (fun K hK => ?_)
        (try simp only [List.getElem_toArray, List.getElem_cons_zero, List.getElem_cons_succ, Act.put, List.setIfInBounds_toArray, List.set_cons_zero, List.set_cons_succ])
        go_simp
        refine (HW3.out u1 HU1.out).mono ?_
        rintro e7 u2 ⟨rfl, hu4⟩
        have HU2 : Hid (Below w1.heap.size w1 u2) := by rw [hu4]; exact HU1.out.drew
        rw [← hu4] at SM HQU
        clear hu4
        refine hK.out _ _ (fun _ => trivial) (fun hHeld0 => ?_)
        have hHeld := hHeld0 (by decide)
        clear hHeld0 hK K
        (try simp only [List.getElem_toArray, List.getElem_cons_zero, List.getElem_cons_succ, Act.put, List.setIfInBounds_toArray, List.set_cons_zero, List.set_cons_succ])
        refine wpAnyK_one (i := 10) (by kernel_rfl) rfl (fun K hK => ?_)
        (try simp only [List.getElem_toArray, List.getElem_cons_zero, List.getElem_cons_succ, Act.put, List.setIfInBounds_toArray, List.set_cons_zero, List.set_cons_succ])
        go_simp
        refine SM.mono ?_
        rintro e8 u3 ⟨rfl, hu3⟩
        subst u3
        refine hK.out _ _ (fun _ => trivial) (fun hHeld0 => ?_)
        have hHeld := hHeld0 (by decide)
        clear hHeld0 hK K
        (try simp only [List.getElem_toArray, List.getElem_cons_zero, List.getElem_cons_succ, Act.put, List.setIfInBounds_toArray, List.set_cons_zero, List.set_cons_succ])
        refine wpAnyK_take (i := 11) (v := .bool false) rfl (by kernel_rfl) (by kernel_rfl) (by kernel_rfl) (by kernel_rfl) (fun _ _ _ h => h) (Or.inl ⟨by rfl, fun w hSw => by go_simp⟩) hHeld ?_
        simp only [List.getElem_toArray, List.getElem_cons_zero, List.getElem_cons_succ, Act.put, List.setIfInBounds_toArray, List.set_cons_zero, List.set_cons_succ]
        refine wpAnyK_done (by kernel_rfl) ?_ _
        have HA7 : Hid (Below wA.heap.size wA u2) := HB1.out.trans (HU2.out.mono HB1.out.size)
        clear SM
        have rq := HQU.out
        have rd0 : u2.cell? ⟨b8, 0, none⟩ = some (.int .i64 H.o) := cell18 rq rfl
        have rf0 : u2.frozen? ⟨b8, 0, none⟩ = false := (sx18 rq).f 0
        have rd1 : u2.cell? ⟨b8, 1, none⟩ = some (.int .i64 H.n) := cell18 rq rfl
        have rf1 : u2.frozen? ⟨b8, 1, none⟩ = false := (sx18 rq).f 1
        have rd2 : u2.cell? ⟨b8, 2, none⟩ = some (.int .u32 H.so) := cell18 rq rfl
        have rf2 : u2.frozen? ⟨b8, 2, none⟩ = false := (sx18 rq).f 2
        have rd3 : u2.cell? ⟨b8, 3, none⟩ = some (.int .u32 H.sn) := cell18 rq rfl
        have rf3 : u2.frozen? ⟨b8, 3, none⟩ = false := (sx18 rq).f 3
        have rd4 : u2.cell? ⟨b8, 4, none⟩ = some (.int .i64 H.wi) := cell18 rq rfl
        have rf4 : u2.frozen? ⟨b8, 4, none⟩ = false := (sx18 rq).f 4
        have rd5 : u2.cell? ⟨b8, 5, none⟩ = some (.int .i64 H.lo) := cell18 rq rfl
        have rf5 : u2.frozen? ⟨b8, 5, none⟩ = false := (sx18 rq).f 5
        have q := HQ.out u2 HA7.out
        have d0 : u2.cell? ⟨b4, 0, none⟩ = some (.int .i64 0) := cell18 q rfl
        have f0 : u2.frozen? ⟨b4, 0, none⟩ = false := (sx18 q).f 0
        have d1 : u2.cell? ⟨b4, 1, none⟩ = some (.int .i64 0) := cell18 q rfl
        have f1 : u2.frozen? ⟨b4, 1, none⟩ = false := (sx18 q).f 1
        have d2 : u2.cell? ⟨b4, 2, none⟩ = some (.int .u32 0) := cell18 q rfl
        have f2 : u2.frozen? ⟨b4, 2, none⟩ = false := (sx18 q).f 2
        have d3 : u2.cell? ⟨b4, 3, none⟩ = some (.int .u32 0) := cell18 q rfl
        have f3 : u2.frozen? ⟨b4, 3, none⟩ = false := (sx18 q).f 3
        have d4 : u2.cell? ⟨b4, 4, none⟩ = some (.int .i64 0) := cell18 q rfl
        have f4 : u2.frozen? ⟨b4, 4, none⟩ = false := (sx18 q).f 4
        have d5 : u2.cell? ⟨b4, 5, none⟩ = some (.int .i64 0) := cell18 q rfl
        have f5 : u2.frozen? ⟨b4, 5, none⟩ = false := (sx18 q).f 5
        go_wp2_with fail
        refine bodyPost_ret (v := .tuple #[.agg #[.int .i64 H.o, .int .i64 H.n, .int .u32 H.so, .int .u32 H.sn, .int .i64 H.wi, .int .i64 H.lo], .int .i64 (n17 : Int), .int .i64 0]) (results_ctt18 (fn := Tryz.f28) (p := 2) (u := 3) (v := 4) (ty := 41) rfl _ _ b4 _ _ _ _ rfl (st18_q (H := H) q) Tryz.underlying41 rfl (by kernel_rfl)) rfl ?_
        have hA := HNA.out HX0.out
        exact HPOST.out u2 H 0 (n17 : Int) HA7.out (by rw [hA.1, HIS.out HJ.out]) hA.2 HX0.out
    · have HX3 : Hid (hx18 z = 183) := hx18_bad (HFF.out HJ.out) (fun x => hs (HSU.out.1 x))
      have hne : (x8 != y8) = true := by simp [hs]
      clear hs
      go_wp2_with fail
      refine plain_region16 (fun _ => True) 12 (by kernel_rfl) trivial (fun hHeld => ?_)
      refine wpAnyK_take (i := 0) (v := .slice za z.length zc) rfl (by kernel_rfl) (by kernel_rfl) (by kernel_rfl) (by kernel_rfl) (fun _ _ _ h => h) (Or.inl ⟨by rfl, fun w hSw => by go_simp⟩) hHeld ?_
      simp only [List.getElem_toArray, List.getElem_cons_zero, Act.put, List.setIfInBounds_toArray, List.set_cons_zero, List.set_cons_succ]
      refine wpAnyK_take (i := 1) (v := .int .i64 (n5 : Int)) rfl (by kernel_rfl) (by kernel_rfl) (by kernel_rfl) (by kernel_rfl) (fun _ _ _ h => h) (Or.inl ⟨by rfl, fun w hSw => by go_simp⟩) hHeld ?_
      simp only [List.getElem_toArray, List.getElem_cons_zero, List.getElem_cons_succ, Act.put, List.setIfInBounds_toArray, List.set_cons_zero, List.set_cons_succ]
      refine wpAnyK_take (i := 2) (v := .int .i64 (n13 : Int)) rfl (by kernel_rfl) (by kernel_rfl) (by kernel_rfl) (by kernel_rfl) (fun _ _ _ h => h) (Or.inl ⟨by rfl, fun w hSw => by go_simp⟩) hHeld ?_
      simp only [List.getElem_toArray, List.getElem_cons_zero, List.getElem_cons_succ, Act.put, List.setIfInBounds_toArray, List.set_cons_zero, List.set_cons_succ]
      refine wpAnyK_take (i := 3) (v := .slice q3 (z.length - n13) (zc - n13)) rfl (by kernel_rfl) (by kernel_rfl) (by kernel_rfl) (by kernel_rfl) (fun _ _ _ h => h) (Or.inl ⟨by rfl, fun w hSw => by go_simp⟩) hHeld ?_
      simp only [List.getElem_toArray, List.getElem_cons_zero, List.getElem_cons_succ, Act.put, List.setIfInBounds_toArray, List.set_cons_zero, List.set_cons_succ]
      refine wpAnyK_take (i := 5) (v := .slice za z.length zc) rfl (by kernel_rfl) (by kernel_rfl) (by kernel_rfl) (by kernel_rfl) (fun _ _ _ h => h) (Or.inl ⟨by rfl, fun w hSw => by go_simp⟩) hHeld ?_
      simp only [List.getElem_toArray, List.getElem_cons_zero, List.getElem_cons_succ, Act.put, List.setIfInBounds_toArray, List.set_cons_zero, List.set_cons_succ]
      refine wpAnyK_take (i := 6) (v := .int .i64 (n5 : Int)) rfl (by kernel_rfl) (by kernel_rfl) (by kernel_rfl) (by kernel_rfl) (fun _ _ _ h => h) (Or.inl ⟨by rfl, fun w hSw => by go_simp⟩) hHeld ?_
      simp only [List.getElem_toArray, List.getElem_cons_zero, List.getElem_cons_succ, Act.put, List.setIfInBounds_toArray, List.set_cons_zero, List.set_cons_succ]
      refine wpAnyK_take (i := 7) (v := .int .i64 (n13 : Int)) rfl (by kernel_rfl) (by kernel_rfl) (by kernel_rfl) (by kernel_rfl) (fun _ _ _ h => h) (Or.inl ⟨by rfl, fun w hSw => by go_simp⟩) hHeld ?_
      simp only [List.getElem_toArray, List.getElem_cons_zero, List.getElem_cons_succ, Act.put, List.setIfInBounds_toArray, List.set_cons_zero, List.set_cons_succ]
      refine wpAnyK_take (i := 8) (v := .slice za n13 zc) rfl (by kernel_rfl) (by kernel_rfl) (by kernel_rfl) (by kernel_rfl) (fun _ _ _ h => h) (Or.inl ⟨by rfl, fun w hSw => by go_simp⟩) hHeld ?_
      simp only [List.getElem_toArray, List.getElem_cons_zero, List.getElem_cons_succ, Act.put, List.setIfInBounds_toArray, List.set_cons_zero, List.set_cons_succ]
      have HU0 : Hid (Below w1.heap.size w1 w6.drew) := HB6.out.drew
      have HQ0' : Hid (w6.drew.heap[b8]? = some (.cells H.cs 41 (0, 0))) := HQ6.out
      generalize w6.drew = u0 at *
      refine wpAnyK_two (i := 4) (j := 9) (by kernel_rfl) rfl rfl (fun K hK => ?_) (fun K hK => ?_)
      · (try simp only [List.getElem_toArray, List.getElem_cons_zero, List.getElem_cons_succ, Act.put, List.setIfInBounds_toArray, List.set_cons_zero, List.set_cons_succ])
        go_simp
        refine (HW3.out u0 HU0.out).mono ?_
        rintro e7 u1 ⟨rfl, hu⟩
        have HU1 : Hid (Below w1.heap.size w1 u1) := by rw [hu]; exact HU0.out.drew
        have HQ1' : Hid (u1.heap[b8]? = some (.cells H.cs 41 (0, 0))) := by rw [hu]; exact HQ0'.out
        clear hu
        refine hK.out _ _ (fun _ => trivial) (fun hHeld0 => ?_)
        have hHeld := hHeld0 (by decide)
        clear hHeld0 hK K
        (try simp only [List.getElem_toArray, List.getElem_cons_zero, List.getElem_cons_succ, Act.put, List.setIfInBounds_toArray, List.set_cons_zero, List.set_cons_succ])
        have SM := HSM.out u1 n13 HU1.out HN13.out.1
        have HU2 : Hid (Below w1.heap.size w1 (u1.alloc (.cells #[.slice za n13 zc] 26))) := HU1.out.alloc HU1.out.size _
        have HQU : Hid ((u1.alloc (.cells #[.slice za n13 zc] 26)).heap[b8]? = some (.cells H.cs 41 (0, 0))) := (((Below.refl u1.heap.size u1).alloc (Nat.le_refl _) (.cells #[.slice za n13 zc] 26)).block _ (Array.getElem?_eq_some_iff.1 HQ1'.out).1).trans HQ1'.out
        obtain ⟨u2, hu2⟩ : ∃ u, u = u1.alloc (.cells #[.slice za n13 zc] 26) := ⟨_, rfl⟩
        rw [← hu2] at SM HU2 HQU
        refine wpAnyK_one (i := 9) (by kernel_rfl) rfl (fun K hK => ?_)
        (try simp only [List.getElem_toArray, List.getElem_cons_zero, List.getElem_cons_succ, Act.put, List.setIfInBounds_toArray, List.set_cons_zero, List.set_cons_succ])
        go_simp
        rw [← hu2]
        clear hu2
        refine hK.out _ _ (fun _ => trivial) (fun hHeld0 => ?_)
        have hHeld := hHeld0 (by decide)
        clear hHeld0 hK K
        (try simp only [List.getElem_toArray, List.getElem_cons_zero, List.getElem_cons_succ, Act.put, List.setIfInBounds_toArray, List.set_cons_zero, List.set_cons_succ])
        refine wpAnyK_one (i := 10) (by kernel_rfl) rfl (fun K hK => ?_)
        (try simp only [List.getElem_toArray, List.getElem_cons_zero, List.getElem_cons_succ, Act.put, List.setIfInBounds_toArray, List.set_cons_zero, List.set_cons_succ])
        go_simp
        refine SM.mono ?_
        rintro e8 u3 ⟨rfl, hu3⟩
        subst u3
        refine hK.out _ _ (fun _ => trivial) (fun hHeld0 => ?_)
        have hHeld := hHeld0 (by decide)
        clear hHeld0 hK K
        (try simp only [List.getElem_toArray, List.getElem_cons_zero, List.getElem_cons_succ, Act.put, List.setIfInBounds_toArray, List.set_cons_zero, List.set_cons_succ])
        refine wpAnyK_take (i := 11) (v := .bool true) rfl (by kernel_rfl) (by kernel_rfl) (by kernel_rfl) (by kernel_rfl) (fun _ _ _ h => h) (Or.inl ⟨by rfl, fun w hSw => by go_simp⟩) hHeld ?_
        simp only [List.getElem_toArray, List.getElem_cons_zero, List.getElem_cons_succ, Act.put, List.setIfInBounds_toArray, List.set_cons_zero, List.set_cons_succ]
        refine wpAnyK_done (by kernel_rfl) ?_ _
        have HA7 : Hid (Below wA.heap.size wA u2) := HB1.out.trans (HU2.out.mono HB1.out.size)
        clear SM
        have q := HQ.out u2 HA7.out
        have d0 : u2.cell? ⟨b4, 0, none⟩ = some (.int .i64 0) := cell18 q rfl
        have f0 : u2.frozen? ⟨b4, 0, none⟩ = false := (sx18 q).f 0
        have d1 : u2.cell? ⟨b4, 1, none⟩ = some (.int .i64 0) := cell18 q rfl
        have f1 : u2.frozen? ⟨b4, 1, none⟩ = false := (sx18 q).f 1
        have d2 : u2.cell? ⟨b4, 2, none⟩ = some (.int .u32 0) := cell18 q rfl
        have f2 : u2.frozen? ⟨b4, 2, none⟩ = false := (sx18 q).f 2
        have d3 : u2.cell? ⟨b4, 3, none⟩ = some (.int .u32 0) := cell18 q rfl
        have f3 : u2.frozen? ⟨b4, 3, none⟩ = false := (sx18 q).f 3
        have d4 : u2.cell? ⟨b4, 4, none⟩ = some (.int .i64 0) := cell18 q rfl
        have f4 : u2.frozen? ⟨b4, 4, none⟩ = false := (sx18 q).f 4
        have d5 : u2.cell? ⟨b4, 5, none⟩ = some (.int .i64 0) := cell18 q rfl
        have f5 : u2.frozen? ⟨b4, 5, none⟩ = false := (sx18 q).f 5
        go_wp2_with fail
        refine bodyPost_ret (v := .tuple #[.agg #[.int .i64 0, .int .i64 0, .int .u32 0, .int .u32 0, .int .i64 0, .int .i64 0], .int .i64 0, .int .i64 183]) (results_ctt18 (fn := Tryz.f28) (p := 2) (u := 3) (v := 4) (ty := 41) rfl _ _ b4 _ _ _ _ rfl (st18_q (H := ⟨0, 0, 0, 0, 0, 0⟩) q) Tryz.underlying41 rfl (by kernel_rfl)) rfl ?_
        have hA := hA18_no (z := z) (x := 183) (HX3.out) (by decide)
        exact HPOST.out u2 ⟨0, 0, 0, 0, 0, 0⟩ 183 0 HA7.out hA.1 hA.2 (HX3.out)
      · (try simp only [List.getElem_toArray, List.getElem_cons_zero, List.getElem_cons_succ, Act.put, List.setIfInBounds_toArray, List.set_cons_zero, List.set_cons_succ])
        go_simp
        have SM := HSD.out u0 n13 (HU0.out) HN13.out.1
        have HU1 : Hid (Below w1.heap.size w1 (u0.alloc (.cells #[.slice za n13 zc] 26))) := HU0.out.alloc HU0.out.size _
        have HQU : Hid ((u0.alloc (.cells #[.slice za n13 zc] 26)).drew.heap[b8]? = some (.cells H.cs 41 (0, 0))) := (((Below.refl u0.heap.size u0).alloc (Nat.le_refl _) (.cells #[.slice za n13 zc] 26)).drew.block _ (Array.getElem?_eq_some_iff.1 HQ0'.out).1).trans HQ0'.out
        obtain ⟨u1, hu1⟩ : ∃ u, u = u0.alloc (.cells #[.slice za n13 zc] 26) := ⟨_, rfl⟩
        rw [← hu1] at SM HU1 HQU
        rw [← hu1]
        clear hu1
        refine hK.out _ _ (fun _ => trivial) (fun hHeld0 => ?_)
        have hHeld := hHeld0 (by decide)
        clear hHeld0 hK K
        (try simp only [List.getElem_toArray, List.getElem_cons_zero, List.getElem_cons_succ, Act.put, List.setIfInBounds_toArray, List.set_cons_zero, List.set_cons_succ])
        refine wpAnyK_one (i := 4) (by kernel_rfl) rfl (fun K hK => ?_)
        (try simp only [List.getElem_toArray, List.getElem_cons_zero, List.getElem_cons_succ, Act.put, List.setIfInBounds_toArray, List.set_cons_zero, List.set_cons_succ])
        go_simp
        refine (HW3.out u1 HU1.out).mono ?_
        rintro e7 u2 ⟨rfl, hu4⟩
        have HU2 : Hid (Below w1.heap.size w1 u2) := by rw [hu4]; exact HU1.out.drew
        rw [← hu4] at SM HQU
        clear hu4
        refine hK.out _ _ (fun _ => trivial) (fun hHeld0 => ?_)
        have hHeld := hHeld0 (by decide)
        clear hHeld0 hK K
        (try simp only [List.getElem_toArray, List.getElem_cons_zero, List.getElem_cons_succ, Act.put, List.setIfInBounds_toArray, List.set_cons_zero, List.set_cons_succ])
        refine wpAnyK_one (i := 10) (by kernel_rfl) rfl (fun K hK => ?_)
        (try simp only [List.getElem_toArray, List.getElem_cons_zero, List.getElem_cons_succ, Act.put, List.setIfInBounds_toArray, List.set_cons_zero, List.set_cons_succ])
        go_simp
        refine SM.mono ?_
        rintro e8 u3 ⟨rfl, hu3⟩
        subst u3
        refine hK.out _ _ (fun _ => trivial) (fun hHeld0 => ?_)
        have hHeld := hHeld0 (by decide)
        clear hHeld0 hK K
        (try simp only [List.getElem_toArray, List.getElem_cons_zero, List.getElem_cons_succ, Act.put, List.setIfInBounds_toArray, List.set_cons_zero, List.set_cons_succ])
        refine wpAnyK_take (i := 11) (v := .bool true) rfl (by kernel_rfl) (by kernel_rfl) (by kernel_rfl) (by kernel_rfl) (fun _ _ _ h => h) (Or.inl ⟨by rfl, fun w hSw => by go_simp⟩) hHeld ?_
        simp only [List.getElem_toArray, List.getElem_cons_zero, List.getElem_cons_succ, Act.put, List.setIfInBounds_toArray, List.set_cons_zero, List.set_cons_succ]
        refine wpAnyK_done (by kernel_rfl) ?_ _
        have HA7 : Hid (Below wA.heap.size wA u2) := HB1.out.trans (HU2.out.mono HB1.out.size)
        clear SM
        have q := HQ.out u2 HA7.out
        have d0 : u2.cell? ⟨b4, 0, none⟩ = some (.int .i64 0) := cell18 q rfl
        have f0 : u2.frozen? ⟨b4, 0, none⟩ = false := (sx18 q).f 0
        have d1 : u2.cell? ⟨b4, 1, none⟩ = some (.int .i64 0) := cell18 q rfl
        have f1 : u2.frozen? ⟨b4, 1, none⟩ = false := (sx18 q).f 1
        have d2 : u2.cell? ⟨b4, 2, none⟩ = some (.int .u32 0) := cell18 q rfl
        have f2 : u2.frozen? ⟨b4, 2, none⟩ = false := (sx18 q).f 2
        have d3 : u2.cell? ⟨b4, 3, none⟩ = some (.int .u32 0) := cell18 q rfl
        have f3 : u2.frozen? ⟨b4, 3, none⟩ = false := (sx18 q).f 3
        have d4 : u2.cell? ⟨b4, 4, none⟩ = some (.int .i64 0) := cell18 q rfl
        have f4 : u2.frozen? ⟨b4, 4, none⟩ = false := (sx18 q).f 4
        have d5 : u2.cell? ⟨b4, 5, none⟩ = some (.int .i64 0) := cell18 q rfl
        have f5 : u2.frozen? ⟨b4, 5, none⟩ = false := (sx18 q).f 5
        go_wp2_with fail
        refine bodyPost_ret (v := .tuple #[.agg #[.int .i64 0, .int .i64 0, .int .u32 0, .int .u32 0, .int .i64 0, .int .i64 0], .int .i64 0, .int .i64 183]) (results_ctt18 (fn := Tryz.f28) (p := 2) (u := 3) (v := 4) (ty := 41) rfl _ _ b4 _ _ _ _ rfl (st18_q (H := ⟨0, 0, 0, 0, 0, 0⟩) q) Tryz.underlying41 rfl (by kernel_rfl)) rfl ?_
        have hA := hA18_no (z := z) (x := 183) (HX3.out) (by decide)
        exact HPOST.out u2 ⟨0, 0, 0, 0, 0, 0⟩ 183 0 HA7.out hA.1 hA.2 (HX3.out)
end Go.Proofs.YtalojcpgkgeofaaGreatDoor
