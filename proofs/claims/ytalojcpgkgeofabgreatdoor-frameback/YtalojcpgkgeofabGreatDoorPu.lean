import Derived.Test.YtalojcpgkgeofabGreatDoorPt
import Derived.Defers
import Derived.Recover
import Derived.Test.YtalojcpgkgeofabGreatDoorPo
import Derived.Test.YtalojcpgkgeofabGreatDoorPh
namespace Go.Proofs.YtalojcpgkgeofabGreatDoor
open Go.RowKit Go.Shelf
set_option linter.unusedVariables false
set_option linter.unusedSimpArgs false

/-! The door that ReadHead leaves by: what it recovers. -/
set_option maxRecDepth 100000 in
set_option maxHeartbeats 4000000 in
theorem pcatch18 (a0 a1 a2 : Value) (w : World) :
    CallsD Tryz.prog 15 #[a0, a1, a2] .returning w fun e u' w' => e = .returned (.tuple #[]) ∧ u' = .returning ∧ w' = w := by
  refine callsD_of_wpS Tryz.func15 rfl fun c₀ cs hu => ?_
  apply wpS_seq
  apply wpS_region
  simp [wpOpsS, go_sem, recoverD, hu, Tryz.ntmps15, Exit.thenS]
  refine wpS_of_wp ?_
  go_wp2
  cases c₀
  simp_all [bodyPostS, results, Tryz.results15]
def zh18 : Array Value := #[.int .i64 0, .int .i64 0, .int .u32 0, .int .u32 0, .int .i64 0, .int .i64 0]
set_option maxRecDepth 100000 in
set_option maxHeartbeats 4000000 in
theorem pcatch18_no (x : Int) (w : World) (bh bn be : Nat) (hne : bh ≠ bn ∧ bh ≠ be ∧ bn ≠ be) (hh : w.heap[bh]? = some (.cells #[.int .i64 0, .int .i64 0, .int .u32 0, .int .u32 0, .int .i64 0, .int .i64 0] 24 (0, 0))) (hn : w.heap[bn]? = some (.cells #[.int .i64 0] 3 (0, 0))) (he : w.heap[be]? = some (.cells #[.int .i64 0] 26 (0, 0))) :
    CallsD Tryz.prog 15 #[.pointer (some ⟨bh, 0, none⟩), .pointer (some ⟨bn, 0, none⟩), .pointer (some ⟨be, 0, none⟩)] (.panicking (pn18 x)) w fun e u' w' => e = .returned (.tuple #[]) ∧ settle u' = .returning ∧ w'.heap[bh]? = some (.cells #[.int .i64 0, .int .i64 0, .int .u32 0, .int .u32 0, .int .i64 0, .int .i64 0] 24 (0, 0)) ∧ w'.heap[bn]? = some (.cells #[.int .i64 0] 3 (0, 0)) ∧ w'.heap[be]? = some (.cells #[.int .i64 x] 26 (0, 0)) ∧ Kp (fun k => k = bh ∨ k = bn ∨ k = be) w w' := by
  have hta : ∀ W : World, (Instr.typeAssert (.iface 26 (.int .i64 x)) 20 26 false).run Tryz.prog W = .ok (.int .i64 x) W := fun W => by
    kernel_rfl
  have d0 : w.cell? ⟨bh, 0, none⟩ = some (.int .i64 0) := cell18 hh rfl
  have d1 : w.cell? ⟨bh, 1, none⟩ = some (.int .i64 0) := cell18 hh rfl
  have d2 : w.cell? ⟨bh, 2, none⟩ = some (.int .u32 0) := cell18 hh rfl
  have d3 : w.cell? ⟨bh, 3, none⟩ = some (.int .u32 0) := cell18 hh rfl
  have d4 : w.cell? ⟨bh, 4, none⟩ = some (.int .i64 0) := cell18 hh rfl
  have d5 : w.cell? ⟨bh, 5, none⟩ = some (.int .i64 0) := cell18 hh rfl
  have fh : ∀ j, w.frozen? ⟨bh, j, none⟩ = false := fun j => by simp [World.frozen?, hh]
  have f0 := fh 0
  have f1 := fh 1
  have f2 := fh 2
  have f3 := fh 3
  have f4 := fh 4
  have f5 := fh 5
  have n0 : w.cell? ⟨bn, 0, none⟩ = some (.int .i64 0) := cell18 hn rfl
  have fn : w.frozen? ⟨bn, 0, none⟩ = false := by simp [World.frozen?, hn]
  have e0 : w.cell? ⟨be, 0, none⟩ = some (.int .i64 0) := cell18 he rfl
  have fe : w.frozen? ⟨be, 0, none⟩ = false := by simp [World.frozen?, he]
  have HH : Hid (w.heap[bh]? = some (.cells #[.int .i64 0, .int .i64 0, .int .u32 0, .int .u32 0, .int .i64 0, .int .i64 0] 24 (0, 0))) := hh
  have HN : Hid (w.heap[bn]? = some (.cells #[.int .i64 0] 3 (0, 0))) := hn
  have HE : Hid (w.heap[be]? = some (.cells #[.int .i64 0] 26 (0, 0))) := he
  obtain ⟨x1, x2, x3⟩ := hne
  clear fh hh hn he
  refine callsD_of_wpS Tryz.func15 rfl fun c₀ cs hu => ?_
  apply wpS_seq
  apply wpS_region
  simp [wpOpsS, go_sem, recoverD, hu, pn18, Tryz.ntmps15, Exit.thenS]
  refine wpS_of_wp ?_
  have et : #[Value.pointer (some ⟨bh, 0, none⟩), .pointer (some ⟨bn, 0, none⟩), .pointer (some ⟨be, 0, none⟩)] ++ ((Array.replicate 7 undef).setIfInBounds 1 (Value.iface 26 (.int .i64 x))).setIfInBounds 0 (Value.iface 26 (.int .i64 x)) = #[Value.pointer (some ⟨bh, 0, none⟩), .pointer (some ⟨bn, 0, none⟩), .pointer (some ⟨be, 0, none⟩), (Value.iface 26 (.int .i64 x)), (Value.iface 26 (.int .i64 x)), undef, undef, undef, undef, undef] := rfl
  rw [et]
  go_wp2
  go_region
  obtain ⟨W, hW⟩ : ∃ W, W = (((((((w.setCell ⟨bh, 0, none⟩ (.int .i64 0)).setCell ⟨bh, 1, none⟩ (.int .i64 0)).setCell ⟨bh, 2, none⟩ (.int .u32 0)).setCell ⟨bh, 3, none⟩ (.int .u32 0)).setCell ⟨bh, 4, none⟩ (.int .i64 0)).setCell ⟨bh, 5, none⟩ (.int .i64 0)).setCell ⟨bn, 0, none⟩ (.int .i64 0)).setCell ⟨be, 0, none⟩ (.int .i64 x) := ⟨_, rfl⟩
  have kW : Kp (fun k => k = bh ∨ k = bn ∨ k = be) w W := by
    rw [hW]
    exact ((((((((Kp.refl _ _).trans (Kp.set (S := fun k => k = bh ∨ k = bn ∨ k = be) (.inl rfl) _) (fun _ _ x => x)).trans (Kp.set (S := fun k => k = bh ∨ k = bn ∨ k = be) (.inl rfl) _) (fun _ _ x => x)).trans (Kp.set (S := fun k => k = bh ∨ k = bn ∨ k = be) (.inl rfl) _) (fun _ _ x => x)).trans (Kp.set (S := fun k => k = bh ∨ k = bn ∨ k = be) (.inl rfl) _) (fun _ _ x => x)).trans (Kp.set (S := fun k => k = bh ∨ k = bn ∨ k = be) (.inl rfl) _) (fun _ _ x => x)).trans (Kp.set (S := fun k => k = bh ∨ k = bn ∨ k = be) (.inl rfl) _) (fun _ _ x => x)).trans (Kp.set (S := fun k => k = bh ∨ k = bn ∨ k = be) (.inr (.inl rfl)) _) (fun _ _ x => x)).trans (Kp.set (S := fun k => k = bh ∨ k = bn ∨ k = be) (.inr (.inr rfl)) _) (fun _ _ x => x)
  have y1 := Ne.symm x1
  have y2 := Ne.symm x2
  have y3 := Ne.symm x3
  refine ⟨rfl, .panicking [{ v := (Value.iface 26 (.int .i64 x)), recovered := true }], rfl, .tuple #[], by simp [results, Tryz.results15], rfl, rfl, ?_, ?_, ?_, ?_⟩
  · rw [← hW]
    show W.heap[bh]? = _
    rw [hW]
    simp [World.setCell, Array.getElem?_modify, HH.out, x1, x2, x3, y1, y2, y3]
  · rw [← hW]
    show W.heap[bn]? = _
    rw [hW]
    simp [World.setCell, Array.getElem?_modify, HN.out, x1, x2, x3, y1, y2, y3]
  · rw [← hW]
    show W.heap[be]? = _
    rw [hW]
    simp [World.setCell, Array.getElem?_modify, HE.out, x1, x2, x3, y1, y2, y3]
  · rw [← hW]
    exact ⟨kW.os, kW.tape, kW.output, kW.size, kW.block⟩
end Go.Proofs.YtalojcpgkgeofabGreatDoor

namespace Go.Proofs.YtalojcpgkgeofabGreatDoor
open Go.RowKit Go.Shelf
set_option linter.unusedVariables false
set_option linter.unusedSimpArgs false

/-! ReadHead. -/
theorem results_ccc18 {P : Program} {fn : Func} {p q r : Tmp} {ty tz tv : TypeId} (h : fn.results = #[.cell p ty, .cell q tz, .cell r tv]) (tmps : Array Value) (w : World) (g : Nat) (t : TypeId) (cs : Array Value) (fr : Nat × Nat) (d : TypeDesc)
    (hp : tmps.getD p undef = .pointer (some ⟨g, 0, none⟩)) (hg : w.heap[g]? = some (.cells cs t fr))
    (hu : P.underlying ty = some d) (hd : (match d with | .struct _ | .array _ _ => true | _ => false) = true) (hi : (P.info? ty).map (·.size) = some cs.size)
    (g2 : Nat) (x : Value) (hq : tmps.getD q undef = .pointer (some ⟨g2, 0, none⟩)) (hx : (loadVar tz ⟨g2, 0, none⟩).run P w = .ok x w)
    (g3 : Nat) (y : Value) (hr : tmps.getD r undef = .pointer (some ⟨g3, 0, none⟩)) (hy : (loadVar tv ⟨g3, 0, none⟩).run P w = .ok y w) :
    (results fn tmps).run P w = .ok (.tuple #[.agg cs, x, y]) w := by
  have e : (results fn tmps).run P w = ((asAddr (tmps.getD p undef)).run P w).andThen fun a w₁ => ((loadVar ty a).run P w₁).andThen fun x w₂ => ((asAddr (tmps.getD q undef)).run P w₂).andThen fun a' w₃ => ((loadVar tz a').run P w₃).andThen fun x' w₄ => ((asAddr (tmps.getD r undef)).run P w₄).andThen fun a'' w₅ => ((loadVar tv a'').run P w₅).andThen fun x'' w₆ => .ok (.tuple #[x, x', x'']) w₆ := by
    simp only [results, h]
    simp [Sem.run_bind, Result.andThen]
  rw [e, hp, hq, hr]
  simp [asAddr, Result.andThen, run_loadVar_row w g t ty cs fr d hg hu hd hi, hx, hy]
open Classical in
noncomputable def hA18 (z : List Int) : Hd18 := if hx18 z = 0 then hr18 z else ⟨0, 0, 0, 0, 0, 0⟩
open Classical in
noncomputable def nA18 (z : List Int) : Int := if hx18 z = 0 then ((pl18 z 5 4 + 12 : Nat) : Int) else 0
def RhQ18 (w : World) (z : List Int) (e : Ending) (w' : World) : Prop := e = .returned (.tuple #[.agg (hA18 z).cs, .int .i64 (nA18 z), .int .i64 (hx18 z)]) ∧ Below w.heap.size w w'
/-- The four boxes of ReadHead. -/
structure Fb18 (w : World) (za : Option Addr) (n zc : Nat) (wR : World) (bh bn be br : Nat) : Prop where
  wr : (((w.alloc (.cells #[.int .i64 0, .int .i64 0, .int .u32 0, .int .u32 0, .int .i64 0, .int .i64 0] 24)).alloc (.cells #[.int .i64 0] 3)).alloc (.cells #[.int .i64 0] 26)).alloc (.cells #[.slice za n zc, .int .i64 0] 48) = wR
  b0 : w.heap.size = bh
  b1 : bh + 1 = bn
  b2 : bn + 1 = be
  b3 : be + 1 = br
  bl : Below w.heap.size w wR
  sz : wR.heap.size = br + 1
  qh : wR.heap[bh]? = some (.cells #[.int .i64 0, .int .i64 0, .int .u32 0, .int .u32 0, .int .i64 0, .int .i64 0] 24 (0, 0))
  qn : wR.heap[bn]? = some (.cells #[.int .i64 0] 3 (0, 0))
  qe : wR.heap[be]? = some (.cells #[.int .i64 0] 26 (0, 0))
  qr : Rq18 wR br za n zc 0
theorem fb18 (w : World) (za : Option Addr) (n zc : Nat) : ∃ wR bh bn be br, Fb18 w za n zc wR bh bn be br := by
  have c1 := cb16 w #[.int .i64 0, .int .i64 0, .int .u32 0, .int .u32 0, .int .i64 0, .int .i64 0] 24
  obtain ⟨w1, hw1⟩ : ∃ w1, w1 = w.alloc (.cells #[.int .i64 0, .int .i64 0, .int .u32 0, .int .u32 0, .int .i64 0, .int .i64 0] 24) := ⟨_, rfl⟩
  rw [← hw1] at c1
  have c2 := cb16 w1 #[.int .i64 0] 3
  obtain ⟨w2, hw2⟩ : ∃ w2, w2 = w1.alloc (.cells #[.int .i64 0] 3) := ⟨_, rfl⟩
  rw [← hw2] at c2
  have c3 := cb16 w2 #[.int .i64 0] 26
  obtain ⟨w3, hw3⟩ : ∃ w3, w3 = w2.alloc (.cells #[.int .i64 0] 26) := ⟨_, rfl⟩
  rw [← hw3] at c3
  have c4 := cb16 w3 #[.slice za n zc, .int .i64 0] 48
  obtain ⟨w4, hw4⟩ : ∃ w4, w4 = w3.alloc (.cells #[.slice za n zc, .int .i64 0] 48) := ⟨_, rfl⟩
  rw [← hw4] at c4
  have s1 := c1.sz
  have s2 := c2.sz
  have s3 := c3.sz
  have s4 := c4.sz
  refine ⟨w4, w.heap.size, w.heap.size + 1, w.heap.size + 1 + 1, w.heap.size + 1 + 1 + 1, by rw [hw4, hw3, hw2, hw1], rfl, rfl, rfl, rfl, c1.bl.trans ((c2.bl.mono (by omega)).trans ((c3.bl.mono (by omega)).trans (c4.bl.mono (by omega)))), by omega, ?_, ?_, ?_, ?_⟩
  · exact (c4.bl.block _ (by omega)).trans ((c3.bl.block _ (by omega)).trans ((c2.bl.block _ (by omega)).trans c1.cl))
  · have := c2.cl
    rw [s1] at this
    exact (c4.bl.block _ (by omega)).trans ((c3.bl.block _ (by omega)).trans this)
  · have := c3.cl
    rw [s2, s1] at this
    exact (c4.bl.block _ (by omega)).trans this
  · have := c4.cl
    rw [s3, s2, s1] at this
    exact this
set_option maxRecDepth 100000 in
set_option maxHeartbeats 16000000 in
theorem prh18 (za : Option Addr) (zc : Nat) (z : List Int) (w : World) (ht : Tab w) (hz : Seg w za z) (hl : z.length ≤ 140737488355328) (hc : z.length ≤ zc) :
    Calls Tryz.prog 6 #[.slice za z.length zc] w (RhQ18 w z) := by
  have hmf : ∀ (fn : Fn) (first cap : Array Value) (w : World), (Instr.makeFunc fn first cap).run Tryz.prog w = .ok (.func fn first cap) w := fun _ _ _ _ => rfl
  obtain ⟨wR, bh, bn, be, br, X⟩ := fb18 w za z.length zc
  have x0 := X.b0
  have x1 := X.b1
  have x2 := X.b2
  have x3 := X.b3
  have kR : Ks18 w br wR := (Ks18.refl w br).bl X.bl
  have hzb : ∀ x off, za = some ⟨x, off, none⟩ → 0 < z.length → x ≠ br := fun x off e hp => by have := hz.lt x off e hp; omega
  have HD : Hid (Calls Tryz.prog 16 #[.pointer (some ⟨br, 0, none⟩)] wR (HeQ18 wR br za zc z)) := phd18 br za zc z wR (kR.tab ht (by omega)) (by omega) X.qr (kR.seg hz hzb) hzb hl hc
  have HW : Hid ((((w.alloc (.cells #[.int .i64 0, .int .i64 0, .int .u32 0, .int .u32 0, .int .i64 0, .int .i64 0] 24)).alloc (.cells #[.int .i64 0] 3)).alloc (.cells #[.int .i64 0] 26)).alloc (.cells #[.slice za z.length zc, .int .i64 0] 48) = wR) := X.wr
  have HB : Hid (w.heap.size = bh ∧ bh + 1 = bn ∧ bn + 1 = be ∧ be + 1 = br) := ⟨x0, x1, x2, x3⟩
  have HX : Hid (Fb18 w za z.length zc wR bh bn be br) := X
  clear x0 x1 x2 x3 kR hzb ht hz hl hc X
  go_enter_defers Tryz.func6, Tryz.ntmps6
  go_wp2_with fail
  rw [HW.out, HB.out.1, HB.out.2.1, HB.out.2.2.1, HB.out.2.2.2]
  refine HD.out.mono ?_
  intro e1 w1 hQ
  obtain ⟨hx, rfl, q1, k1⟩ | ⟨hx, rfl, k1⟩ := hQ
  · have HXZ : Hid (hx18 z = 0) := hx
    have HA : Hid (hA18 z = hr18 z) := by show _ = _; unfold hA18; rw [if_pos hx]
    have HN : Hid (nA18 z = ((pl18 z 5 4 + 12 : Nat) : Int)) := by show _ = _; unfold nA18; rw [if_pos hx]
    generalize pl18 z 5 4 + 12 = P at *
    generalize hr18 z = H at *
    have b := HB.out
    have qh1 := k1.heap HX.out.qh (fun x => by have x : bh = br := x; omega)
    have qn1 := k1.heap HX.out.qn (fun x => by have x : bn = br := x; omega)
    have qe1 := k1.heap HX.out.qe (fun x => by have x : be = br := x; omega)
    have d0 : w1.cell? ⟨bh, 0, none⟩ = some (.int .i64 0) := cell18 qh1 rfl
    have d1 : w1.cell? ⟨bh, 1, none⟩ = some (.int .i64 0) := cell18 qh1 rfl
    have d2 : w1.cell? ⟨bh, 2, none⟩ = some (.int .u32 0) := cell18 qh1 rfl
    have d3 : w1.cell? ⟨bh, 3, none⟩ = some (.int .u32 0) := cell18 qh1 rfl
    have d4 : w1.cell? ⟨bh, 4, none⟩ = some (.int .i64 0) := cell18 qh1 rfl
    have d5 : w1.cell? ⟨bh, 5, none⟩ = some (.int .i64 0) := cell18 qh1 rfl
    have fh : ∀ j, w1.frozen? ⟨bh, j, none⟩ = false := fun j => by simp [World.frozen?, qh1]
    have f0 := fh 0
    have f1 := fh 1
    have f2 := fh 2
    have f3 := fh 3
    have f4 := fh 4
    have f5 := fh 5
    have n0 : w1.cell? ⟨bn, 0, none⟩ = some (.int .i64 0) := cell18 qn1 rfl
    have fn : w1.frozen? ⟨bn, 0, none⟩ = false := by simp [World.frozen?, qn1]
    have e0 : w1.cell? ⟨be, 0, none⟩ = some (.int .i64 0) := cell18 qe1 rfl
    have fe : w1.frozen? ⟨be, 0, none⟩ = false := by simp [World.frozen?, qe1]
    have r1 : w1.cell? ⟨br, 1, none⟩ = some (.int .i64 (P : Int)) := cell18 q1 rfl
    have m1 : bh ≠ bn := by omega
    have m2 : bh ≠ be := by omega
    have m3 : bh ≠ br := by omega
    have m4 : bn ≠ be := by omega
    have m5 : bn ≠ br := by omega
    have m6 : be ≠ br := by omega
    have QH : Hid (w1.heap[bh]? = some (.cells #[.int .i64 0, .int .i64 0, .int .u32 0, .int .u32 0, .int .i64 0, .int .i64 0] 24 (0, 0))) := qh1
    have QN : Hid (w1.heap[bn]? = some (.cells #[.int .i64 0] 3 (0, 0))) := qn1
    have QE : Hid (w1.heap[be]? = some (.cells #[.int .i64 0] 26 (0, 0))) := qe1
    have K1 : Hid (Kp (fun k => k = br) wR w1) := k1
    clear fh qh1 qn1 qe1 q1 k1 b HD HW hx
    unfold Hd18.cs
    go_wp2_with fail
    obtain ⟨w2, hw2⟩ : ∃ w2, w2 = ((((((w1.setCell ⟨bh, 0, none⟩ (.int .i64 H.o)).setCell ⟨bh, 1, none⟩ (.int .i64 H.n)).setCell ⟨bh, 2, none⟩ (.int .u32 H.so)).setCell ⟨bh, 3, none⟩ (.int .u32 H.sn)).setCell ⟨bh, 4, none⟩ (.int .i64 H.wi)).setCell ⟨bh, 5, none⟩ (.int .i64 H.lo)) := ⟨_, rfl⟩
    rw [← hw2]
    have k2 : Kp (fun k => k = bh ∨ k = bn ∨ k = be) w1 w2 := by
      rw [hw2]
      exact (((((((Kp.refl _ _).trans (Kp.set (S := fun k => k = bh ∨ k = bn ∨ k = be) (.inl rfl) _) (fun _ _ x => x)).trans (Kp.set (S := fun k => k = bh ∨ k = bn ∨ k = be) (.inl rfl) _) (fun _ _ x => x)).trans (Kp.set (S := fun k => k = bh ∨ k = bn ∨ k = be) (.inl rfl) _) (fun _ _ x => x)).trans (Kp.set (S := fun k => k = bh ∨ k = bn ∨ k = be) (.inl rfl) _) (fun _ _ x => x)).trans (Kp.set (S := fun k => k = bh ∨ k = bn ∨ k = be) (.inl rfl) _) (fun _ _ x => x)).trans (Kp.set (S := fun k => k = bh ∨ k = bn ∨ k = be) (.inl rfl) _) (fun _ _ x => x))
    have y1 := Ne.symm m1
    have y2 := Ne.symm m2
    have y3 := Ne.symm m3
    have y4 := Ne.symm m4
    have y5 := Ne.symm m5
    have y6 := Ne.symm m6
    have qh2 : w2.heap[bh]? = some (.cells #[.int .i64 H.o, .int .i64 H.n, .int .u32 H.so, .int .u32 H.sn, .int .i64 H.wi, .int .i64 H.lo] 24 (0, 0)) := by
      rw [hw2]
      simp [World.setCell, Array.getElem?_modify, QH.out]
    have qn2 : w2.heap[bn]? = some (.cells #[.int .i64 0] 3 (0, 0)) := by
      rw [hw2]
      simp [World.setCell, Array.getElem?_modify, QN.out, m1, y1]
    have qe2 : w2.heap[be]? = some (.cells #[.int .i64 0] 26 (0, 0)) := by
      rw [hw2]
      simp [World.setCell, Array.getElem?_modify, QE.out, m2, y2]
    have qr2 : w2.cell? ⟨br, 1, none⟩ = some (.int .i64 (P : Int)) := by
      rw [← r1]
      exact World.cell?_of_block (w := w1) (k2.block br (World.block_lt_of_cell? w1 _ r1) (by rintro (x | x | x); exact y3 x; exact y5 x; exact y6 x))
    clear hw2 d0 d1 d2 d3 d4 d5 f0 f1 f2 f3 f4 f5 n0 fn e0 fe r1 QH QN QE
    have d0 : w2.cell? ⟨bh, 0, none⟩ = some (.int .i64 H.o) := cell18 qh2 rfl
    have d1 : w2.cell? ⟨bh, 1, none⟩ = some (.int .i64 H.n) := cell18 qh2 rfl
    have d2 : w2.cell? ⟨bh, 2, none⟩ = some (.int .u32 H.so) := cell18 qh2 rfl
    have d3 : w2.cell? ⟨bh, 3, none⟩ = some (.int .u32 H.sn) := cell18 qh2 rfl
    have d4 : w2.cell? ⟨bh, 4, none⟩ = some (.int .i64 H.wi) := cell18 qh2 rfl
    have d5 : w2.cell? ⟨bh, 5, none⟩ = some (.int .i64 H.lo) := cell18 qh2 rfl
    have fh : ∀ j, w2.frozen? ⟨bh, j, none⟩ = false := fun j => by simp [World.frozen?, qh2]
    have f0 := fh 0
    have f1 := fh 1
    have f2 := fh 2
    have f3 := fh 3
    have f4 := fh 4
    have f5 := fh 5
    have n0 : w2.cell? ⟨bn, 0, none⟩ = some (.int .i64 0) := cell18 qn2 rfl
    have fn : w2.frozen? ⟨bn, 0, none⟩ = false := by simp [World.frozen?, qn2]
    have e0 : w2.cell? ⟨be, 0, none⟩ = some (.int .i64 0) := cell18 qe2 rfl
    have fe : w2.frozen? ⟨be, 0, none⟩ = false := by simp [World.frozen?, qe2]
    have QH : Hid (w2.heap[bh]? = some (.cells #[.int .i64 H.o, .int .i64 H.n, .int .u32 H.so, .int .u32 H.sn, .int .i64 H.wi, .int .i64 H.lo] 24 (0, 0))) := qh2
    have QN : Hid (w2.heap[bn]? = some (.cells #[.int .i64 0] 3 (0, 0))) := qn2
    have QE : Hid (w2.heap[be]? = some (.cells #[.int .i64 0] 26 (0, 0))) := qe2
    have K2 : Hid (Kp (fun k => k = bh ∨ k = bn ∨ k = be) w1 w2) := k2
    clear fh qh2 qn2 qe2 k2
    go_region
    go_wp2_with fail
    obtain ⟨w3, hw3⟩ : ∃ w3, w3 = ((((((((w2.setCell ⟨bh, 0, none⟩ (.int .i64 H.o)).setCell ⟨bh, 1, none⟩ (.int .i64 H.n)).setCell ⟨bh, 2, none⟩ (.int .u32 H.so)).setCell ⟨bh, 3, none⟩ (.int .u32 H.sn)).setCell ⟨bh, 4, none⟩ (.int .i64 H.wi)).setCell ⟨bh, 5, none⟩ (.int .i64 H.lo)).setCell ⟨bn, 0, none⟩ (.int .i64 (P : Int))).setCell ⟨be, 0, none⟩ (.int .i64 0)) := ⟨_, rfl⟩
    rw [← hw3]
    have k3 : Kp (fun k => k = bh ∨ k = bn ∨ k = be) w2 w3 := by
      rw [hw3]
      exact (((((((((Kp.refl _ _).trans (Kp.set (S := fun k => k = bh ∨ k = bn ∨ k = be) (.inl rfl) _) (fun _ _ x => x)).trans (Kp.set (S := fun k => k = bh ∨ k = bn ∨ k = be) (.inl rfl) _) (fun _ _ x => x)).trans (Kp.set (S := fun k => k = bh ∨ k = bn ∨ k = be) (.inl rfl) _) (fun _ _ x => x)).trans (Kp.set (S := fun k => k = bh ∨ k = bn ∨ k = be) (.inl rfl) _) (fun _ _ x => x)).trans (Kp.set (S := fun k => k = bh ∨ k = bn ∨ k = be) (.inl rfl) _) (fun _ _ x => x)).trans (Kp.set (S := fun k => k = bh ∨ k = bn ∨ k = be) (.inl rfl) _) (fun _ _ x => x)).trans (Kp.set (S := fun k => k = bh ∨ k = bn ∨ k = be) (.inr (.inl rfl)) _) (fun _ _ x => x)).trans (Kp.set (S := fun k => k = bh ∨ k = bn ∨ k = be) (.inr (.inr rfl)) _) (fun _ _ x => x))
    have qh3 : w3.heap[bh]? = some (.cells #[.int .i64 H.o, .int .i64 H.n, .int .u32 H.so, .int .u32 H.sn, .int .i64 H.wi, .int .i64 H.lo] 24 (0, 0)) := by
      rw [hw3]
      simp [World.setCell, Array.getElem?_modify, QH.out, m1, m2, y1, y2]
    have qn3 : w3.heap[bn]? = some (.cells #[.int .i64 (P : Int)] 3 (0, 0)) := by
      rw [hw3]
      simp [World.setCell, Array.getElem?_modify, QN.out, m1, y1, m4, y4]
    have qe3 : w3.heap[be]? = some (.cells #[.int .i64 0] 26 (0, 0)) := by
      rw [hw3]
      simp [World.setCell, Array.getElem?_modify, QE.out, m2, y2, m4, y4]
    have k4 : Kp (fun k => k = bh ∨ k = bn ∨ k = be) w2 w3.drew := k3.drew
    have qh4 : w3.drew.heap[bh]? = some (.cells #[.int .i64 H.o, .int .i64 H.n, .int .u32 H.so, .int .u32 H.sn, .int .i64 H.wi, .int .i64 H.lo] 24 (0, 0)) := qh3
    have qn4 : w3.drew.heap[bn]? = some (.cells #[.int .i64 (P : Int)] 3 (0, 0)) := qn3
    have qe4 : w3.drew.heap[be]? = some (.cells #[.int .i64 0] 26 (0, 0)) := qe3
    clear hw3 k3 qh3 qn3 qe3
    generalize w3.drew = w4 at *
    have g1 : w4.cell? ⟨bn, 0, none⟩ = some (.int .i64 (P : Int)) := cell18 qn4 rfl
    have g2 : w4.cell? ⟨be, 0, none⟩ = some (.int .i64 0) := cell18 qe4 rfl
    have HPOST : Hid (RhQ18 w z (.returned (.tuple #[.agg #[.int .i64 H.o, .int .i64 H.n, .int .u32 H.so, .int .u32 H.sn, .int .i64 H.wi, .int .i64 H.lo], .int .i64 (P : Int), .int .i64 0])) w4) := by
      refine ⟨by rw [HA.out, HN.out, HXZ.out]; rfl, ?_⟩
      have b := HB.out
      have kk : Kp (fun k => w.heap.size ≤ k) w w4 := (((Kp.of_below (S := fun k => w.heap.size ≤ k) HX.out.bl).trans K1.out (fun k _ x => by have x : k = br := x; omega)).trans K2.out (fun k _ x => by rcases x with x | x | x <;> omega)).trans k4 (fun k _ x => by rcases x with x | x | x <;> omega)
      exact kk.below (fun _ x => x) (Nat.le_refl _)
    clear k4
    refine leaves_cons (f := 15) (args := #[.pointer (some ⟨bh, 0, none⟩), .pointer (some ⟨bn, 0, none⟩), .pointer (some ⟨be, 0, none⟩)]) (by simp) (by simp [go_sem]) ?_
    refine (pcatch18 _ _ _ _).mono ?_
    rintro e u' w'' ⟨rfl, rfl, rfl⟩
    refine ⟨.tuple #[.agg #[.int .i64 H.o, .int .i64 H.n, .int .u32 H.so, .int .u32 H.sn, .int .i64 H.wi, .int .i64 H.lo], .int .i64 (P : Int), .int .i64 0], ?_, ?_⟩
    · exact results_ccc18 rfl _ _ bh _ _ _ _ rfl qh4 Tryz.underlying24 rfl (by kernel_rfl) bn _ rfl (by simp [loadVar, go_sem, g1, Tryz.underlying3]) be _ rfl (by simp [loadVar, go_sem, g2, Tryz.underlying26])
    · exact HPOST.out
  · have HA : Hid (hA18 z = ⟨0, 0, 0, 0, 0, 0⟩) := by show _ = _; unfold hA18; rw [if_neg hx]
    have HN : Hid (nA18 z = 0) := by show _ = _; unfold nA18; rw [if_neg hx]
    have b := HB.out
    have qh1 := k1.heap HX.out.qh (fun x => by have x : bh = br := x; omega)
    have qn1 := k1.heap HX.out.qn (fun x => by have x : bn = br := x; omega)
    have qe1 := k1.heap HX.out.qe (fun x => by have x : be = br := x; omega)
    refine leaves_cons (f := 15) (args := #[.pointer (some ⟨bh, 0, none⟩), .pointer (some ⟨bn, 0, none⟩), .pointer (some ⟨be, 0, none⟩)]) (by simp) (by simp [go_sem]) ?_
    refine (pcatch18_no (hx18 z) w1 bh bn be ⟨by omega, by omega, by omega⟩ qh1 qn1 qe1).mono ?_
    rintro e u' w4 ⟨rfl, hu, qh4, qn4, qe4, k4⟩
    have g1 : w4.cell? ⟨bn, 0, none⟩ = some (.int .i64 0) := cell18 qn4 rfl
    have g2 : w4.cell? ⟨be, 0, none⟩ = some (.int .i64 (hx18 z)) := cell18 qe4 rfl
    show Leaves _ _ _ _ _ (settle u') _
    rw [hu]
    refine ⟨.tuple #[.agg #[.int .i64 0, .int .i64 0, .int .u32 0, .int .u32 0, .int .i64 0, .int .i64 0], .int .i64 0, .int .i64 (hx18 z)], ?_, ?_⟩
    · exact results_ccc18 rfl _ _ bh _ _ _ _ rfl qh4 Tryz.underlying24 rfl (by kernel_rfl) bn _ rfl (by simp [loadVar, go_sem, g1, Tryz.underlying3]) be _ rfl (by simp [loadVar, go_sem, g2, Tryz.underlying26])
    · refine ⟨by rw [HA.out, HN.out]; rfl, ?_⟩
      have kk : Kp (fun k => w.heap.size ≤ k) w w4 := ((Kp.of_below (S := fun k => w.heap.size ≤ k) HX.out.bl).trans k1 (fun k _ x => by have x : k = br := x; omega)).trans k4 (fun k _ x => by rcases x with x | x | x <;> omega)
      exact kk.below (fun _ x => x) (Nat.le_refl _)
end Go.Proofs.YtalojcpgkgeofabGreatDoor

namespace Go.Proofs.YtalojcpgkgeofabGreatDoor
open Go.RowKit
set_option linter.unusedVariables false

/-- What was written is taken up, whatever stands behind. -/
theorem dec_enc : ∀ (f c : Nat) (u v : Int) (rest : List Int), c + f = 9 → 0 ≤ v → v < 2 * 128 ^ f → (c = 0 ∨ 0 < v) → decL u c (encL f v ++ rest) = (u + v * 128 ^ c, (c : Int) + ((encL f v).length : Int), 0)
  | 0, c, u, v, rest, hc, h0, h1, h2 => by
    obtain rfl : c = 9 := by omega
    simp at h1
    have hv : 0 < v := by rcases h2 with h | h; · omega
                          · exact h
    obtain rfl : v = 1 := by omega
    simp [encL, decL, tkErr, tkVal]
  | f + 1, c, u, v, rest, hc, h0, h1, h2 => by
    have hp := pow128_pos f
    have h3 : (128 : Int) ^ (f + 1) = 128 ^ f * 128 := Int.pow_succ _ _
    have hc9 : c ≠ 9 := by omega
    by_cases h7 : 127 < v
    · have ih := dec_enc f (c + 1) (tkVal u c (v % 128 + 128)) (v / 128) rest (by omega) (by omega) (by omega) (Or.inr (by omega))
      have ht : tkErr c (v % 128 + 128) = 0 := by
        unfold tkErr
        rw [if_neg (by omega), if_neg (by omega)]
      have e : encL (f + 1) v = (v % 128 + 128) :: encL f (v / 128) := by rw [encL, if_pos h7]
      rw [e, List.cons_append, decL, if_neg (by simp [ht]), if_neg (by omega), ih]
      have e2 : (v % 128 + 128) % 128 = v % 128 := by omega
      have e3 : v / 128 * 128 ^ (c + 1) = (v / 128 * 128) * 128 ^ c := by rw [Int.pow_succ, Int.mul_assoc, Int.mul_comm 128, ← Int.mul_assoc]
      have e4 : v % 128 * 128 ^ c + v / 128 * 128 ^ (c + 1) = v * 128 ^ c := by
        rw [e3, ← Int.add_mul]
        congr 1
        omega
      have e5 : tkVal u c (v % 128 + 128) + v / 128 * 128 ^ (c + 1) = u + v * 128 ^ c := by
        unfold tkVal
        rw [e2, Int.add_assoc, e4]
      rw [e5]
      simp only [List.length_cons, Prod.mk.injEq, true_and, and_true]
      omega
    · have e : encL (f + 1) v = [v] := by rw [encL, if_neg h7]
      have ht : tkErr c v = 0 := by
        unfold tkErr
        rw [if_neg (by omega), if_neg (by omega)]
      rw [e, List.singleton_append, decL, if_neg (by simp [ht]), if_pos (by omega)]
      have e2 : v % 128 = v := by omega
      simp [tkVal, e2]
theorem dec_encI (v : Int) (rest : List Int) (h0 : 0 ≤ v) (h1 : v ≤ 18446744073709551615) : decL 0 0 (encI v ++ rest) = (v, ((encI v).length : Int), 0) := by
  have := dec_enc 9 0 0 v rest rfl h0 (by rw [pow9]; omega) (Or.inl rfl)
  simp at this
  exact this

theorem encA_drop (zs : List Int) (k : Nat) (h : k < zs.length) (rest : List Int) : (encA zs ++ rest).drop (encA (zs.take k)).length = encI (zs.getD k 0) ++ (encA (zs.drop (k + 1)) ++ rest) := by
  have e : zs = zs.take k ++ (zs.getD k 0 :: zs.drop (k + 1)) := by rw [← drop_cons h, List.take_append_drop]
  have e2 : encA zs = encA (zs.take k) ++ (encI (zs.getD k 0) ++ encA (zs.drop (k + 1))) := by
    conv => lhs; rw [e]
    rw [encA_append]; rfl
  rw [e2, List.append_assoc, List.drop_left, List.append_assoc]
theorem encA_take_lt (zs : List Int) (k : Nat) (h : k < zs.length) : (encA (zs.take k)).length + (encI (zs.getD k 0)).length ≤ (encA zs).length := by
  have := congrArg List.length (encA_drop zs k h [])
  simp only [List.length_drop, List.length_append, List.append_nil] at this
  have := (encI_len (zs.getD k 0)).1
  omega
end Go.Proofs.YtalojcpgkgeofabGreatDoor
