import Derived.Test.YtalojcpgkgeofaaGreatDoorPay
import Derived.Laws.StructEq
import Derived.Test.YtalojcpgkgeofaaGreatDoorPaa
import Derived.WalkKit
import Derived.ProofKit
import Derived.OpenShut
import Derived.SizedLaws
import Derived.Test.YtalojcpgkgeofaaGreatDoorPab
namespace Go.Proofs.YtalojcpgkgeofaaGreatDoor
open Go.RowKit Go.Shelf
set_option linter.unusedVariables false
set_option linter.unusedSimpArgs false

/-! ParseMade. -/
theorem results_ct19 {P : Program} {fn : Func} {p u : Tmp} {ty : TypeId} (h : fn.results = #[.cell p ty, .tmp u]) (tmps : Array Value) (w : World) (g : Nat) (t : TypeId) (cs : Array Value) (fr : Nat × Nat) (d : TypeDesc)
    (hp : tmps.getD p undef = .pointer (some ⟨g, 0, none⟩)) (hg : w.heap[g]? = some (.cells cs t fr))
    (hu : P.underlying ty = some d) (hd : (match d with | .struct _ | .array _ _ => true | _ => false) = true) (hi : (P.info? ty).map (·.size) = some cs.size) :
    (results fn tmps).run P w = .ok (.tuple #[.agg cs, tmps.getD u undef]) w := by
  have e : (results fn tmps).run P w = ((asAddr (tmps.getD p undef)).run P w).andThen fun a w₁ => ((loadVar ty a).run P w₁).andThen fun x w₂ => .ok (.tuple #[x, tmps.getD u undef]) w₂ := by
    simp only [results, h]
    simp [Sem.run_bind, Result.andThen]
  rw [e, hp]
  simp [asAddr, Result.andThen, run_loadVar_row w g t ty cs fr d hg hu hd hi]
set_option maxRecDepth 100000 in
set_option maxHeartbeats 4000000 in
theorem Un19.head {w : World} {v : Value} (h : Un19 w v) : Calls Tryz.prog 23 #[v] w fun e w' => e = .returned (.tuple #[.agg #[.int .i64 0, .int .i64 0, .int .u32 0, .int .u32 0, .int .i64 0, .int .i64 0], .bool false]) ∧ Below w.heap.size w w' := by
  obtain ⟨w1, b1, X⟩ := bx18 w ⟨0, 0, 0, 0, 0, 0⟩
  have RD := (h.old X.bl).rdy
  have HW : Hid (w.alloc (.cells #[.int .i64 0, .int .i64 0, .int .u32 0, .int .u32 0, .int .i64 0, .int .i64 0] 41) = w1 ∧ w.heap.size = b1) := ⟨X.wa, X.b⟩
  have HQ : Hid (w1.heap[b1]? = some (.cells #[.int .i64 0, .int .i64 0, .int .u32 0, .int .u32 0, .int .i64 0, .int .i64 0] 41 (0, 0))) := X.q
  have hq := setRow_heap w1 b1 _ #[.int .i64 0, .int .i64 0, .int .u32 0, .int .u32 0, .int .i64 0, .int .i64 0] _ _ X.q
  have HF : Hid ((w1.setRow b1 #[.int .i64 0, .int .i64 0, .int .u32 0, .int .u32 0, .int .i64 0, .int .i64 0]).heap[b1]? = some (.cells #[.int .i64 0, .int .i64 0, .int .u32 0, .int .u32 0, .int .i64 0, .int .i64 0] 41 (0, 0)) ∧ Below w.heap.size w (w1.setRow b1 #[.int .i64 0, .int .i64 0, .int .u32 0, .int .u32 0, .int .i64 0, .int .i64 0])) := by
    refine ⟨hq, ?_⟩
    have k : Kp (fun k => w.heap.size ≤ k) w (w1.setRow b1 #[.int .i64 0, .int .i64 0, .int .u32 0, .int .u32 0, .int .i64 0, .int .i64 0]) := (Kp.of_below (S := fun k => w.heap.size ≤ k) X.bl).trans (grow19 _ _ _) (fun k _ y => by have y : k = b1 := y; have := X.b; omega)
    exact k.below (fun _ y => y) (Nat.le_refl _)
  clear h X hq
  go_enter Tryz.func23, Tryz.ntmps23
  go_wp2_with fail
  rw [HW.out.1, HW.out.2]
  refine RD.mono ?_
  rintro e w' ⟨rfl, hw'⟩
  subst w'
  clear RD
  go_wp2_with (refine wpList_store_row rfl 41 (.tmp 2) (.tmp 15) rfl b1 #[.int .i64 0, .int .i64 0, .int .u32 0, .int .u32 0, .int .i64 0, .int .i64 0] rfl rfl _ _ HQ.out (by kernel_rfl) rfl (by kernel_rfl) ?_)
  refine bodyPost_ret (v := .tuple #[.agg #[.int .i64 0, .int .i64 0, .int .u32 0, .int .u32 0, .int .i64 0, .int .i64 0], .bool false]) (results_ct19 (fn := Tryz.f23) (p := 2) (u := 3) (ty := 41) rfl _ _ b1 _ _ _ _ rfl HF.out.1 Tryz.underlying41 rfl (by kernel_rfl)) rfl ?_
  exact ⟨rfl, HF.out.2⟩
set_option maxRecDepth 100000 in
set_option maxHeartbeats 8000000 in
theorem parseMade_walk (w : World) (ht : Tab w) (a : Option Addr) (z : List Int) (ca : Nat) (hs : Seg w a z) (hc : z.length ≤ ca) (hnil : a = none → ca = 0) (hl : z.length ≤ 140737488351232) :
    Calls Tryz.prog 7 #[.slice a z.length ca] w fun e w' => e = .returned (.bool true) ∧ Below w.heap.size w w' := by
  have h0 : 0 < w.heap.size := SegK.lt ht 0 0 rfl (by decide)
  have HT : Hid (Tab w ∧ 0 < w.heap.size) := ⟨ht, h0⟩
  obtain ⟨bz, hbz⟩ : ∃ b, b = w.heap.size := ⟨_, rfl⟩
  obtain ⟨w1, hw1⟩ : ∃ w1, w1 = w.alloc (.cells (s019 0).cs 77) := ⟨_, rfl⟩
  have c1 := cb16 w (s019 0).cs 77
  rw [← hw1] at c1
  obtain ⟨bs, hbs⟩ : ∃ b, b = w1.heap.size := ⟨_, rfl⟩
  obtain ⟨w2, hw2⟩ : ∃ w2, w2 = w1.alloc (.cells #[.pointer none, .pointer (some ⟨bz, 0, none⟩)] 24) := ⟨_, rfl⟩
  have c2 := cb16 w1 #[.pointer none, .pointer (some ⟨bz, 0, none⟩)] 24
  rw [← hw2] at c2
  have s1 := c1.sz
  have s2 := c2.sz
  have qz : St19 w2 bz 77 (s019 0) := (c2.bl.block _ (by omega)).trans (by rw [hbz]; exact c1.cl)
  have qs : w2.heap[bs]? = some (.cells #[.pointer none, .pointer (some ⟨bz, 0, none⟩)] 24 (0, 0)) := by rw [hbs]; exact c2.cl
  have B2 : Below w.heap.size w w2 := c1.bl.trans (c2.bl.mono (by omega))
  have HU : Hid (∀ V, Below w2.heap.size w2 V → ∀ i, i < 2 → ∃ v, V.cell? ⟨bs, i, none⟩ = some v ∧ Un19 V v) := fun V hV i hi => by
    have q := (hV.block _ (Array.getElem?_eq_some_iff.1 qs).1).trans qs
    rcases (by omega : i = 0 ∨ i = 1) with rfl | rfl
    · exact ⟨_, cell18 q rfl, .inl rfl⟩
    · exact ⟨_, cell18 q rfl, .inr ⟨bz, rfl, qz.old hV⟩⟩
  have HB2 : Hid (Below w.heap.size w w2) := B2
  have HW1 : Hid (w.alloc (.cells #[.int .u32 0, .int .u64 0, .int .i64 0, .int .i64 0, .int .i64 0, .int .i64 0, .int .i64 0, .int .i64 0, .int .i64 0, .int .i64 0, .int .i64 0, .int .i64 0, .int .i64 0, .int .i64 0, .int .u32 0, .int .u32 0, .int .i64 0, .int .i64 0, .int .i64 0, .int .i64 0, .int .i64 0, .int .i64 0, .int .i64 0, .int .i64 0] 77) = w1 ∧ w.heap.size = bz) := ⟨hw1.symm, hbz.symm⟩
  have HW2 : Hid (w1.alloc (.cells #[.pointer none, .pointer (some ⟨bz, 0, none⟩)] 24) = w2 ∧ w1.heap.size = bs ∧ bz + 1 = bs) := ⟨hw2.symm, hbs.symm, by omega⟩
  clear ht h0 hs hc hnil hl hbz hbs hw1 hw2 c1 c2 s1 s2 qz qs B2
  go_enter Tryz.func7, Tryz.ntmps7
  go_wp2_with fail
  (try rw [HW1.out.1])
  (try rw [HW1.out.2])
  (try rw [HW2.out.1])
  (try rw [HW2.out.2.1])
  (try rw [HW2.out.2.2])
  go_loopw [15] (fun t15 V => ∃ i : Nat, i ≤ 2 ∧ t15 = .int .i64 (i : Int) ∧ Below w2.heap.size w2 V) (fun t15 _ => 2 - (intOf t15).toNat)
  case atStart => exact ⟨0, by omega, rfl, Below.refl _ _⟩
  case round =>
    obtain ⟨i, hi, rfl, hB⟩ := hrel
    have HB : Hid (Below w2.heap.size w2 wr) := hB
    by_cases hlt : i < 2
    · obtain ⟨v, hv, hU⟩ := HU.out wr hB i hlt
      have hlti : (i : Int) < 2 := by omega
      have HUN : Hid (∀ V, Below wr.heap.size wr V → Un19 V v) := fun V hV => hU.old hV
      have HI : Hid (i < 2) := hlt
      clear hB hU hlt hi
      go_wp2_with fail
      refine ((HUN.out wr (Below.refl _ _)).step _).mono ?_
      rintro e1 u1 ⟨rfl, b1⟩
      obtain ⟨u2, hu2⟩ : ∃ u2, u2 = u1.alloc (.cells (e019.cs none 0) 44) := ⟨_, rfl⟩
      have c2 := cb16 u1 (e019.cs none 0) 44
      rw [← hu2] at c2
      obtain ⟨b7, hb7⟩ : ∃ b7, b7 = u1.heap.size := ⟨_, rfl⟩
      have q72 : u2.heap[b7]? = some (.cells (e019.cs none 0) 44 (0, 0)) := by rw [hb7]; exact c2.cl
      obtain ⟨u3, hu3⟩ : ∃ u3, u3 = u2.setRow b7 (e019.cs none 0) := ⟨_, rfl⟩
      have k3 : Kp (fun k => k = b7) u2 u3 := by rw [hu3]; exact grow19 _ _ _
      have q73 : u3.heap[b7]? = some (.cells (e019.cs none 0) 44 (0, 0)) := by rw [hu3]; exact setRow_heap u2 b7 _ _ _ _ q72
      have s1 := b1.size
      have B3 : Below wr.heap.size wr u3 := (((Kp.of_below (S := fun k => wr.heap.size ≤ k) b1).trans (Kp.of_below (S := fun _ => False) c2.bl) (fun _ _ x => x.elim)).trans k3 (fun k _ x => by have x : k = b7 := x; omega)).below (fun _ x => x) (Nat.le_refl _)
      have HW2' : Hid (u1.alloc (.cells #[.int .i64 0, .int .i64 0, .int .i64 0, .int .u32 0, .int .u32 0, .int .i64 0, .int .i64 0, .int .i64 0, .int .i64 0, .int .i64 0, .int .i64 0, .int .i64 0, .int .i64 0, .int .i64 0, .int .i64 0, .slice none 0 0] 44) = u2 ∧ u1.heap.size = b7) := ⟨hu2.symm, hb7.symm⟩
      have HW3' : Hid (u2.setRow b7 (e019.cs none 0) = u3) := hu3.symm
      have HQ72 : Hid (u2.heap[b7]? = some (.cells (e019.cs none 0) 44 (0, 0))) := q72
      have HQ73 : Hid (u3.heap[b7]? = some (.cells (e019.cs none 0) 44 (0, 0)) ∧ Below wr.heap.size wr u3) := ⟨q73, B3⟩
      have HD := (HUN.out u3 B3).head
      clear b1 c2 hu2 hu3 hb7 q72 q73 k3 s1 B3
      go_wp2_with (first
        | (rw [HW2'.out.1, HW2'.out.2]; refine wpList_store_row rfl 44 (.tmp 7) (.tmp 23) rfl b7 (e019.cs none 0) rfl rfl _ _ HQ72.out info_ev19 rfl (evc_all19 e019 none 0) ?_; rw [HW3'.out]))
      refine HD.mono ?_
      rintro e4 u4 ⟨rfl, b4⟩
      obtain ⟨u5, b10, Y⟩ := bx18 u4 ⟨0, 0, 0, 0, 0, 0⟩
      have HW5' : Hid (u4.alloc (.cells #[.int .i64 0, .int .i64 0, .int .u32 0, .int .u32 0, .int .i64 0, .int .i64 0] 41) = u5 ∧ u4.heap.size = b10) := ⟨Y.wa, Y.b⟩
      have q75 := (Y.bl.block _ (by have := (Array.getElem?_eq_some_iff.1 HQ73.out.1).1; have := b4.size; omega)).trans ((b4.block _ (Array.getElem?_eq_some_iff.1 HQ73.out.1).1).trans HQ73.out.1)
      have m0 : u5.cell? ⟨b7, 0, none⟩ = some (.int .i64 0) := cell18 q75 rfl
      have m15 : u5.cell? ⟨b7, 15, none⟩ = some (.slice none 0 0) := cell18 q75 rfl
      have s3 := HQ73.out.2.size
      have s4 := b4.size
      have B5 : Below wr.heap.size wr u5 := HQ73.out.2.trans ((b4.mono s3).trans (Y.bl.mono (by omega)))
      have HU5 := HUN.out u5 B5
      have HUU : Hid (Un19 u5 v) := HU5
      have HB5 : Hid (Below w2.heap.size w2 u5) := HB.out.trans (B5.mono HB.out.size)
      rw [← HW5'.out.1] at m0 m15
      clear HD b4 Y q75 s3 s4 B5 HU5
      go_wp2_with fail
      (try rw [HW5'.out.1])
      refine HUU.out.end_.mono ?_
      rintro e w' ⟨rfl, hw'⟩
      subst w'
      go_wp2_with fail
      refine HUU.out.made.mono ?_
      rintro e w' ⟨rfl, hw'⟩
      subst w'
      go_wp2_with fail
      refine HUU.out.taken.mono ?_
      rintro e w' ⟨rfl, hw'⟩
      subst w'
      go_wp2_with fail
      refine HUU.out.done.mono ?_
      rintro e w' ⟨rfl, hw'⟩
      subst w'
      go_wp2_with fail
      refine HUU.out.room.mono ?_
      rintro e w' ⟨rfl, hw'⟩
      subst w'
      go_wp2_with fail
      go_roundw
      case rel => exact ⟨i + 1, by have := HI.out; omega, by go_num, HB5.out⟩
      case measure => have := HI.out; simp [intOf]; omega
    · obtain rfl : i = 2 := by omega
      have BW : Below w.heap.size w wr := HB2.out.trans (hB.mono HB2.out.size)
      have LV := pliv19 wr (HT.out.1.old BW) (by have := BW.size; have := HT.out.2; omega)
      have HBW : Hid (Below w.heap.size w wr) := BW
      clear BW hB hi hlt
      go_wp2_with fail
      refine LV.mono ?_
      rintro e1 u1 ⟨rfl, b1⟩
      have HF : Hid (Below w.heap.size w u1) := HBW.out.trans (b1.mono HBW.out.size)
      clear b1 LV
      go_wp2
      go_ret
      exact ⟨rfl, HF.out⟩
end Go.Proofs.YtalojcpgkgeofaaGreatDoor

namespace Go.Proofs.YtalojcpgkgeofaaGreatDoor
open Go.ChangeShapes Go.WideShapes Go.ChangeAt Go.RowKit
set_option linter.unusedVariables false

/-- A slice of whole numbers that came in: what lies there, and how it was read. -/
theorem open_seg {H : Type} {enc : TypeId × Value → H} {P : Program} {W : World} {T e : TypeId} {k : IntKind} {M : Int} {a : Option Addr} {len cap : Nat} {d : DataW H} {p : List MemPlace}
    (hT : P.underlying T = some (.slice e)) (he : P.underlying e = some (.int k)) (hc : P.cellsOf e = 1) (hM : 0 ≤ M) (hwf : ∀ n, (Lit.int k n).wf = true → 0 ≤ n ∧ n ≤ M)
    (h : DataW.Trod enc P W 0 (fun _ => true) true T (.slice a len cap) d p) :
    ∃ zs : List Int, zs.length = len ∧ SegK k M W a zs ∧ len ≤ cap ∧ (a = none → cap = 0) ∧ ((d = .nil ∧ len = 0) ∨ ∃ elems spare, d = .slice elems spare ∧ elems.length = len) := by
  obtain ⟨fuel, hf⟩ := h
  rcases open_ints hT he hc hf with ⟨hcs, hx⟩ | ⟨x, l, c, zs, hcs, _, hl, hm, hz, hx, hcell, hwz⟩
  · simp [Value.cells] at hcs
    obtain ⟨rfl, rfl, rfl⟩ := hcs
    simp only [Prod.mk.injEq] at hx
    exact ⟨[], rfl, SegK.nil hM _ _, Nat.le_refl _, fun _ => rfl, Or.inl ⟨hx.1, rfl⟩⟩
  · simp [Value.cells] at hcs
    obtain ⟨rfl, rfl, rfl⟩ := hcs
    simp only [Prod.mk.injEq] at hx
    simp only [if_true] at hz
    refine ⟨zs.take len, by simp; omega, ⟨fun i hi => ?_, hM, getD_bd hM ?_⟩, hl, (by intro h; cases h), Or.inr ⟨_, _, hx.1, by simp [ChangeShapes.lits]; omega⟩⟩
    · simp at hi
      have hi2 : i < len := by omega
      have h1 := hcell i (by omega)
      obtain ⟨b, off, spot⟩ := x
      have hs : spot = none := by
        have := hcell 0 (by omega)
        simpa [Addr.add] using World.cell?_spot this
      subst hs
      refine ⟨b, off, rfl, ?_⟩
      have hadd : (⟨b, off, none⟩ : Addr).add i = ⟨b, off + i, none⟩ := by unfold Addr.add; split <;> simp_all
      rw [hadd] at h1
      rw [h1]
      simp [List.getD, hi2]
    · intro z hz1
      exact hwf z (hwz z (List.mem_of_mem_take hz1))
end Go.Proofs.YtalojcpgkgeofaaGreatDoor

namespace Go.Proofs.YtalojcpgkgeofaaGreatDoor
open Go.RowKit
set_option linter.unusedVariables false

/-- Whole numbers (of 64 bits, with a sign) lie where a slice's address leads. -/
structure SegZ (w : World) (a : Option Addr) (zs : List Int) : Prop where
  at_ : ∀ i, i < zs.length → ∃ b off, a = some ⟨b, off, none⟩ ∧ w.cell? ⟨b, off + i, none⟩ = some (.int .i64 (zs.getD i 0))
  bd : ∀ i, -9223372036854775808 ≤ zs.getD i 0 ∧ zs.getD i 0 ≤ 9223372036854775807

theorem getD_bdz {zs : List Int} (h : ∀ z ∈ zs, -9223372036854775808 ≤ z ∧ z ≤ 9223372036854775807) (i : Nat) : -9223372036854775808 ≤ zs.getD i 0 ∧ zs.getD i 0 ≤ 9223372036854775807 := by
  by_cases hi : i < zs.length
  · have := h zs[i] (List.getElem_mem hi)
    simpa [List.getD, hi] using this
  · have : zs[i]? = none := List.getElem?_eq_none (by omega)
    simp [List.getD, this]
theorem SegZ.nil (w : World) (a : Option Addr) : SegZ w a [] := ⟨fun i h => by simp at h, fun i => by simp⟩
theorem SegZ.of_cells {w w' : World} {a : Option Addr} {zs : List Int} (h : SegZ w a zs) (hc : ∀ b off i v, i < zs.length → a = some ⟨b, off, none⟩ → w.cell? ⟨b, off + i, none⟩ = some v → w'.cell? ⟨b, off + i, none⟩ = some v) : SegZ w' a zs :=
  ⟨fun i hi => by obtain ⟨b, off, ha, hcl⟩ := h.at_ i hi; exact ⟨b, off, ha, hc b off i _ hi ha hcl⟩, h.bd⟩
theorem SegZ.old {w w' : World} {a : Option Addr} {zs : List Int} (h : SegZ w a zs) (hb : Below w.heap.size w w') : SegZ w' a zs :=
  h.of_cells fun b off i v hi ha hcl => (hb.cell (p := ⟨b, off + i, none⟩) (World.block_lt_of_cell? w _ hcl)).trans hcl
theorem SegZ.kp {w w' : World} {S : Nat → Prop} {a : Option Addr} {zs : List Int} (h : SegZ w a zs) (hb : Kp S w w') (hn : ∀ b off, a = some ⟨b, off, none⟩ → 0 < zs.length → ¬ S b) : SegZ w' a zs :=
  h.of_cells fun b off i v hi ha hcl => by
    have hlt : b < w.heap.size := World.block_lt_of_cell? w _ hcl
    rw [World.cell?_of_block (a := ⟨b, off + i, none⟩) (hb.block b hlt (hn b off ha (by omega)))]
    exact hcl
theorem SegZ.lt {w : World} {a : Option Addr} {zs : List Int} (h : SegZ w a zs) : ∀ b off, a = some ⟨b, off, none⟩ → 0 < zs.length → b < w.heap.size := by
  intro b off ha hl
  obtain ⟨b', off', ha', hc⟩ := h.at_ 0 hl
  rw [ha] at ha'
  cases ha'
  exact World.block_lt_of_cell? w _ hc
theorem SegZ.drewN {w : World} {a : Option Addr} {zs : List Int} (h : SegZ w a zs) (n : Nat) : SegZ (w.drewN n) a zs := ⟨h.at_, h.bd⟩
theorem SegZ.drew {w : World} {a : Option Addr} {zs : List Int} (h : SegZ w a zs) : SegZ w.drew a zs := ⟨h.at_, h.bd⟩
theorem SegZ.alloc {w : World} {a : Option Addr} {zs : List Int} (h : SegZ w a zs) (o : Obj) : SegZ (w.alloc o) a zs := h.old ((Below.refl _ _).alloc (Nat.le_refl _) o)
theorem SegZ.mem {w : World} {a : Option Addr} {zs : List Int} (h : SegZ w a zs) : ∀ z ∈ zs, -9223372036854775808 ≤ z ∧ z ≤ 9223372036854775807 := by
  intro z hz
  obtain ⟨i, hi, rfl⟩ := List.mem_iff_getElem.1 hz
  have := h.bd i
  simpa [List.getD, hi] using this
theorem SegZ.take {w : World} {a : Option Addr} {zs : List Int} (h : SegZ w a zs) (m : Nat) : SegZ w a (zs.take m) := by
  refine ⟨fun i hi => ?_, getD_bdz fun z hz => h.mem z (List.mem_of_mem_take hz)⟩
  simp at hi
  obtain ⟨b, off, ha, hc⟩ := h.at_ i (by omega)
  refine ⟨b, off, ha, ?_⟩
  rw [hc]
  have hk : i < m := by omega
  simp [List.getD, hk]
theorem SegZ.left {w : World} {a : Option Addr} {xs ys : List Int} (h : SegZ w a (xs ++ ys)) : SegZ w a xs := by
  have := h.take xs.length
  simpa using this
theorem segZ_cells {w : World} {x : Addr} {zs : List Int} (h : SegZ w (some x) zs) : ∀ j u, (zs.map (Value.int .i64))[j]? = some u → w.cell? (x.add j) = some u := by
  intro j u hu
  have hj : j < zs.length := by
    rcases Nat.lt_or_ge j zs.length with h | h
    · exact h
    · simp [List.getElem?_eq_none h] at hu
  obtain ⟨b, off, hx, hc⟩ := h.at_ j hj
  cases hx
  have hadd : (⟨b, off, none⟩ : Addr).add j = ⟨b, off + j, none⟩ := by unfold Addr.add; split <;> simp_all
  rw [hadd, hc]
  simp [hj] at hu
  subst hu
  simp [List.getD, hj]
/-- A row that the call owns, as numbers that lie there. -/
theorem own_segZ {w : World} {base n : Nat} {e : TypeId} {a : Option Addr} {cap : Nat} {zs : List Int} (h : w.ownsRow base e 1 (.slice a n cap) n (zs.map (Value.int .i64))) (hb : ∀ z ∈ zs, -9223372036854775808 ≤ z ∧ z ≤ 9223372036854775807) :
    SegZ w a zs := by
  have hl : zs.length = n := by simpa using h.1
  rcases h.2 with ⟨h1, hn⟩ | ⟨g, cap', cur, hv, hg, hh, hc, _, _, ht⟩
  · have : zs = [] := List.eq_nil_of_length_eq_zero (by omega)
    subst this
    exact SegZ.nil _ _
  · simp only [Value.slice.injEq] at hv
    obtain ⟨rfl, _, rfl⟩ := hv
    refine ⟨fun i hi => ⟨g, 0, rfl, ?_⟩, getD_bdz hb⟩
    have := h.cells (g := g) rfl i (.int .i64 (zs.getD i 0)) (by simp [List.getD, hi])
    have hadd : (⟨g, 0, none⟩ : Addr).add i = ⟨g, 0 + i, none⟩ := by unfold Addr.add; split <;> simp_all
    rw [hadd] at this
    exact this
/-- Numbers that lie somewhere, behind a row. -/
theorem wpList_appZ {P : Program} {ops : Array Oper} {rest : List Oper} {o : Oper} {a : Act} {Q : Exit → Act → World → Prop} (hgd : o.guard = none) (s x : Operand) (t : TypeId)
    (ho : o.op = .call { callee := .builtin .append, args := #[s, x], argTypes := #[t, t] })
    (base : Nat) (e : TypeId) (i : TypeInfo) (z : Value) (bytes : Nat) (ht : P.underlying t = some (.slice e)) (hi : P.info? e = some i) (hz : i.zero = some z)
    (hsize : i.size = 1) (hby : i.bytes = bytes) (hzs : z.cells.size = 1)
    {w : World} {ra : Option Addr} {rc : Nat} {n : Nat} {xs : List Value} (hown : w.ownsRow base e 1 (.slice ra n rc) n xs) {ao : Option Addr} {zs : List Int} {cap : Nat} (hseg : SegZ w ao zs) (hnil : ao = none → cap = 0)
    (hs : a.eval s = .slice ra n rc) (hx : a.eval x = .slice ao zs.length cap)
    (h63 : n + zs.length ≤ 140737488355328) (hbytes : (n + zs.length) * bytes ≤ 140737488355328) (hbase : base ≤ w.heap.size)
    (h : ∀ (b : Option Addr) (c : Nat) (w' : World), w'.ownsRow base e 1 (.slice b (n + zs.length) c) (n + zs.length) (xs ++ zs.map (Value.int .i64)) → w.grownBy w' (Value.slice ra n rc).ownBlock → Fresh w (.slice ra n rc) (.slice b (n + zs.length) c) → (Value.slice b (n + zs.length) c = .slice none 0 0 ↔ Value.slice ra n rc = .slice none 0 0 ∧ zs.length = 0) → wpList P ops Q rest (a.put o.dst (.slice b (n + zs.length) c)) w') : wpList P ops Q (o :: rest) a w := by
  cases ao with
  | none =>
    have hz : zs = [] := by
      cases zs with
      | nil => rfl
      | cons z r => obtain ⟨b, off, hx, _⟩ := hseg.at_ 0 (by simp); cases hx
    subst hz
    rw [hnil rfl] at hx
    refine wpList_append_own_none hgd s x t ho base e i 1 ht hi _ n xs hs hown hx ?_
    have := h ra rc w (by simpa using hown) (World.grownBy.refl _ _) (fun k hk => .inl hk) (by simp)
    simpa using this
  | some ad =>
    exact wpList_app hgd s x t ho base e i z bytes ht hi hz hsize hby hzs hown (by simp) (segZ_cells hseg) (ints_oneCell _ _) hs hx h63 hbytes hbase h
theorem below_own {w w' : World} {base n : Nat} {e : TypeId} {v : Value} {xs : List Value} (hown : w.ownsRow base e 1 v n xs) (hg : w.grownBy w' v.ownBlock) (hb : base ≤ w.heap.size) : Below base w w' :=
  (Below.refl _ _).grown hg hb (fun k hk => (hown.lt k hk).1)
theorem take_snocZ {zs : List Int} {k : Nat} (hk : k < zs.length) : zs.take (k + 1) = zs.take k ++ [zs.getD k 0] := by
  rw [List.take_add_one]
  simp [List.getD, hk]
end Go.Proofs.YtalojcpgkgeofaaGreatDoor
