import Derived.Test.YtiocdhkompekpaaPl
import Derived.Test.YtiocdhkompekpaaPi
import Derived.Deep.OwnRows
import Derived.Deep.RegionHeld3
namespace Go.Proofs.Ytiocdhkompekpaa
open Go.RowKit Go.Shelf
set_option linter.unusedVariables false
set_option linter.unusedSimpArgs false

/-! The landed page: a writer in memory; what it tells. -/
structure Pw22 where
  ar : Int
  bf : List Int
  pn : Nat
  wn : Nat
  cl : Int
structure Wr22 (w : World) (v s g b pg : Nat) (P : Pw22) : Prop where
  hv : w.heap[v]? = some (.cells #[.pointer (some ⟨s, 0, none⟩)] 59 (0, 0))
  hs : w.heap[s]? = some (.cells #[.pointer (some ⟨b, 0, none⟩), .int .i64 P.ar, .slice (some ⟨g, 0, none⟩) pg pg, .int .i64 (P.bf.length : Int), .int .i64 (P.pn : Int), .int .i64 (P.wn : Int), .int .i64 P.cl] 86 (0, 0))
  hg : ∃ Y : List Int, w.heap[g]? = some (.cells ((P.bf ++ Y).map (Value.int .u8)).toArray 5 (0, 0)) ∧ P.bf.length + Y.length = pg ∧ ∀ y ∈ P.bf ++ Y, 0 ≤ y ∧ y ≤ 255
section
variable {w w' : World} {v s g b pg : Nat} {P : Pw22}
theorem Wr22.cv (h : Wr22 w v s g b pg P) : w.cell? ⟨v, 0, none⟩ = some (.pointer (some ⟨s, 0, none⟩)) := by simp [World.cell?, h.hv]
theorem Wr22.c0 (h : Wr22 w v s g b pg P) : w.cell? ⟨s, 0, none⟩ = some (.pointer (some ⟨b, 0, none⟩)) := by simp [World.cell?, h.hs]
theorem Wr22.c1 (h : Wr22 w v s g b pg P) : w.cell? ⟨s, 1, none⟩ = some (.int .i64 P.ar) := by simp [World.cell?, h.hs]
theorem Wr22.c2 (h : Wr22 w v s g b pg P) : w.cell? ⟨s, 2, none⟩ = some (.slice (some ⟨g, 0, none⟩) pg pg) := by simp [World.cell?, h.hs]
theorem Wr22.c3 (h : Wr22 w v s g b pg P) : w.cell? ⟨s, 3, none⟩ = some (.int .i64 (P.bf.length : Int)) := by simp [World.cell?, h.hs]
theorem Wr22.c4 (h : Wr22 w v s g b pg P) : w.cell? ⟨s, 4, none⟩ = some (.int .i64 (P.pn : Int)) := by simp [World.cell?, h.hs]
theorem Wr22.c5 (h : Wr22 w v s g b pg P) : w.cell? ⟨s, 5, none⟩ = some (.int .i64 (P.wn : Int)) := by simp [World.cell?, h.hs]
theorem Wr22.c6 (h : Wr22 w v s g b pg P) : w.cell? ⟨s, 6, none⟩ = some (.int .i64 P.cl) := by simp [World.cell?, h.hs]
theorem Wr22.fr (h : Wr22 w v s g b pg P) (i : Nat) : w.frozen? ⟨s, i, none⟩ = false := by simp [World.frozen?, h.hs]
theorem Wr22.ne_vs (h : Wr22 w v s g b pg P) : v ≠ s := fun e => by have := h.hs; rw [← e, h.hv] at this; simp at this
theorem Wr22.ne_sg (h : Wr22 w v s g b pg P) : s ≠ g := fun e => by
  obtain ⟨Y, h1, _⟩ := h.hg
  have := h.hs; rw [e, h1] at this
  injection this with h2
  injection h2 with _ h3 _
  exact absurd h3 (by decide)
theorem Wr22.ne_vg (h : Wr22 w v s g b pg P) : v ≠ g := fun e => by
  obtain ⟨Y, h1, _⟩ := h.hg
  have := h.hv; rw [e, h1] at this
  injection this with h2
  injection h2 with _ h3 _
  exact absurd h3 (by decide)
theorem Wr22.kp (h : Wr22 w v s g b pg P) (h1 : w'.heap[v]? = w.heap[v]?) (h2 : w'.heap[s]? = w.heap[s]?) (h3 : w'.heap[g]? = w.heap[g]?) : Wr22 w' v s g b pg P := by
  obtain ⟨Y, hY, hl⟩ := h.hg
  exact ⟨h1.trans h.hv, h2.trans h.hs, Y, h3.trans hY, hl⟩
theorem Wr22.lt (h : Wr22 w v s g b pg P) : v < w.heap.size ∧ s < w.heap.size ∧ g < w.heap.size := by
  obtain ⟨Y, hY, hl⟩ := h.hg
  exact ⟨(Array.getElem?_eq_some_iff.1 h.hv).1, (Array.getElem?_eq_some_iff.1 h.hs).1, (Array.getElem?_eq_some_iff.1 hY).1⟩
theorem Wr22.old (h : Wr22 w v s g b pg P) (hb : Below w.heap.size w w') : Wr22 w' v s g b pg P :=
  h.kp (hb.block v h.lt.1) (hb.block s h.lt.2.1) (hb.block g h.lt.2.2)
theorem Wr22.kpk {Q : Nat → Prop} (h : Wr22 w v s g b pg P) (hk : Kp Q w w') (h1 : ¬ Q v) (h2 : ¬ Q s) (h3 : ¬ Q g) : Wr22 w' v s g b pg P :=
  h.kp (hk.block v h.lt.1 h1) (hk.block s h.lt.2.1 h2) (hk.block g h.lt.2.2 h3)
end
/-- A writer over a flash. -/
structure Pe22 (w : World) (v s g b : Nat) (F : Nat → Prop) (S : Fs21) (P : Pw22) : Prop where
  fl : Fl21 w b F S
  wr : Wr22 w v s g b S.pg P
  nv : ¬ F v
  ns : ¬ F s
  ng : ¬ F g
def Pn22 (w w' : World) (v s g b : Nat) (F : Nat → Prop) (S' : Fs21) (P' : Pw22) : Prop := ∃ F', Pe22 w' v s g b F' S' P' ∧ (∀ k, F' k → F k ∨ w.heap.size ≤ k) ∧ Kp (fun k => F k ∨ k = s ∨ k = g) w w'
section
variable {w w' : World} {v s g b : Nat} {F : Nat → Prop} {S S' : Fs21} {P P' : Pw22}
theorem Pe22.old (h : Pe22 w v s g b F S P) (hb : Below w.heap.size w w') : Pe22 w' v s g b F S P := ⟨h.fl.old hb, h.wr.old hb, h.nv, h.ns, h.ng⟩
theorem Pe22.stay (h : Pe22 w v s g b F S P) (hb : Below w.heap.size w w') : Pn22 w w' v s g b F S P := ⟨F, h.old hb, fun _ e => .inl e, Kp.of_below hb⟩
theorem Pn22.from {w1 : World} (h : Pn22 w1 w' v s g b F S' P') (hb : Below w.heap.size w w1) : Pn22 w w' v s g b F S' P' := by
  obtain ⟨F', h1, h2, h3⟩ := h
  exact ⟨F', h1, fun k e => by rcases h2 k e with h | h; (exact .inl h); (exact .inr (Nat.le_trans hb.size h)), (Kp.of_below hb).trans h3 (fun _ _ e => e)⟩
/-- What a call of the flash leaves of a writer over it. -/
theorem Pe22.flash (h : Pe22 w v s g b F S P) (hn : Fn21 w w' b F S') (hp : S'.pg = S.pg) : Pn22 w w' v s g b F S' P := by
  obtain ⟨F', h1, h2, h3⟩ := hn
  have hl := h.wr.lt
  refine ⟨F', ⟨h1, by rw [hp]; exact h.wr.kpk h3 h.nv h.ns h.ng, fun e => ?_, fun e => ?_, fun e => ?_⟩, h2, h3.mono (fun i _ e => .inl e)⟩
  · rcases h2 v e with q | q; (exact h.nv q); omega
  · rcases h2 s e with q | q; (exact h.ns q); omega
  · rcases h2 g e with q | q; (exact h.ng q); omega
theorem Pn22.cons {w1 w2 : World} {F1 : Nat → Prop} {S2 : Fs21} {P2 : Pw22} (f1 : ∀ k, F1 k → F k ∨ w.heap.size ≤ k) (k1 : Kp (fun k => F k ∨ k = s ∨ k = g) w w1) (h : Pn22 w1 w2 v s g b F1 S2 P2) : Pn22 w w2 v s g b F S2 P2 := by
  obtain ⟨F2, h1, h2, h3⟩ := h
  refine ⟨F2, h1, fun x e => ?_, k1.trans h3 (fun i hi e => ?_)⟩
  · rcases h2 x e with q | q
    · exact f1 x q
    · exact .inr (Nat.le_trans k1.size q)
  · rcases e with e | e
    · rcases f1 i e with q | q
      · exact .inl q
      · omega
    · exact .inr e
end
section
variable {w : World} {v s g b pg : Nat} {P : Pw22}
set_option maxRecDepth 100000 in
set_option maxHeartbeats 1000000 in
theorem pmd22 (h : Wr22 w v s g b pg P) : Calls Try.prog 37 #[.pointer (some ⟨v, 0, none⟩)] w fun e w' => e = .returned (.bool true) ∧ w' = w := by
  have cv := h.cv
  clear h
  go_enter Try.func37, Try.ntmps37
  go_wp2
  go_ret
  exact ⟨rfl, rfl⟩
set_option maxRecDepth 100000 in
set_option maxHeartbeats 1000000 in
theorem pst22 (h : Wr22 w v s g b pg P) : Calls Try.prog 38 #[.pointer (some ⟨v, 0, none⟩)] w fun e w' => e = .returned (.int .i64 P.cl) ∧ w' = w := by
  have HM := pmd22 h
  have cv := h.cv
  have c6 := h.c6
  clear h
  go_enter Try.func38, Try.ntmps38
  go_wp2_with fail
  refine HM.mono ?_
  rintro e w1 ⟨rfl, hw⟩
  subst w1
  go_wp2_with fail
  go_ret
  exact ⟨rfl, rfl⟩
set_option maxRecDepth 100000 in
set_option maxHeartbeats 1000000 in
theorem pwn22 (h : Wr22 w v s g b pg P) : Calls Try.prog 23 #[.pointer (some ⟨v, 0, none⟩)] w fun e w' => e = .returned (.int .i64 (P.wn : Int)) ∧ w' = w := by
  have HM := pmd22 h
  have cv := h.cv
  have c5 := h.c5
  clear h
  go_enter Try.func23, Try.ntmps23
  go_wp2_with fail
  refine HM.mono ?_
  rintro e w1 ⟨rfl, hw⟩
  subst w1
  go_wp2_with fail
  go_ret
  exact ⟨rfl, rfl⟩
set_option maxRecDepth 100000 in
set_option maxHeartbeats 1000000 in
theorem ppn22 (h : Wr22 w v s g b pg P) : Calls Try.prog 24 #[.pointer (some ⟨v, 0, none⟩)] w fun e w' => e = .returned (.int .i64 (P.pn : Int)) ∧ w' = w := by
  have HM := pmd22 h
  have cv := h.cv
  have c4 := h.c4
  clear h
  go_enter Try.func24, Try.ntmps24
  go_wp2_with fail
  refine HM.mono ?_
  rintro e w1 ⟨rfl, hw⟩
  subst w1
  go_wp2_with fail
  go_ret
  exact ⟨rfl, rfl⟩
set_option maxRecDepth 100000 in
set_option maxHeartbeats 1000000 in
theorem prm22 (h : Wr22 w v s g b pg P) : Calls Try.prog 12 #[.pointer (some ⟨v, 0, none⟩)] w fun e w' => e = .returned (.int .i64 (pg : Int)) ∧ w' = w := by
  have HM := pmd22 h
  have cv := h.cv
  have c2 := h.c2
  clear h
  go_enter Try.func12, Try.ntmps12
  go_wp2_with fail
  refine HM.mono ?_
  rintro e w1 ⟨rfl, hw⟩
  subst w1
  go_wp2_with fail
  go_ret
  exact ⟨rfl, rfl⟩
end
section
variable {w : World} {b : Nat} {F : Nat → Prop} {S : Fs21}
set_option maxRecDepth 100000 in
set_option maxHeartbeats 1000000 in
theorem pact22 (hF : Fl21 w b F S) (hO : Ok21 S) : Calls Try.prog 28 #[.pointer (some ⟨b, 0, none⟩)] w fun e w' => e = .returned (.int .i64 S.ac) ∧ w' = w := by
  obtain ⟨c0, c1, c2, c3, c4, cf⟩ := hF.cells
  have HM := pmade21 b S.pg w c0 hO.pg.1
  clear hF
  go_enter Try.func28, Try.ntmps28
  go_wp2_with fail
  refine HM.mono ?_
  rintro e w1 ⟨rfl, hw⟩
  subst w1
  go_wp2_with fail
  go_ret
  exact ⟨rfl, rfl⟩
set_option maxRecDepth 100000 in
set_option maxHeartbeats 1000000 in
theorem pshp22 (hF : Fl21 w b F S) (hO : Ok21 S) : Calls Try.prog 27 #[.pointer (some ⟨b, 0, none⟩)] w fun e w' => e = .returned (.agg #[.int .i64 (S.pg : Int), .int .i64 (S.ps : Int)]) ∧ Below w.heap.size w w' := by
  have hb : Below w.heap.size w (w.alloc (.cells #[.int .i64 0, .int .i64 0] 62)) := (Below.refl _ _).alloc (Nat.le_refl _) _
  obtain ⟨c0, c1, c2, c3, c4, cf⟩ := (hF.old hb).cells
  have HM := pmade21 b S.pg _ c0 hO.pg.1
  have hb2 : Below w.heap.size w (w.alloc (.cells #[.int .i64 (S.pg : Int), .int .i64 (S.ps : Int)] 62)) := (Below.refl _ _).alloc (Nat.le_refl _) _
  have hq := heap_alloc_new w (.cells #[.int .i64 (S.pg : Int), .int .i64 (S.ps : Int)] 62)
  have hlt := hF.lt
  clear hF
  go_enter Try.func27, Try.ntmps27
  go_wp2_with fail
  refine HM.mono ?_
  rintro e w1 ⟨rfl, hw⟩
  subst w1
  go_wp2_with fail
  refine bodyPost_ret (v := .agg #[.int .i64 (S.pg : Int), .int .i64 (S.ps : Int)]) (results_cell_row (fn := Try.f27) (p := 2) (ty := 62) rfl _ _ w.heap.size _ _ _ _ rfl hq Try.underlying62 rfl (by kernel_rfl)) rfl ?_
  exact ⟨rfl, hb2⟩
end
end Go.Proofs.Ytiocdhkompekpaa

namespace Go.Proofs.Ytiocdhkompekpaa
open Go.RowKit Go.Shelf
set_option linter.unusedVariables false
set_option linter.unusedSimpArgs false

/-! The landed page: New, left. -/
section
variable {w w' : World} {v s g b pg : Nat} {F : Nat → Prop} {S : Fs21} {P P' : Pw22}
theorem seven_set22 {w : World} {b : Nat} {x0 x1 x2 x3 x4 x5 x6 : Value} {t : TypeId} (h : w.heap[b]? = some (.cells #[x0, x1, x2, x3, x4, x5, x6] t (0, 0))) (u : Value) :
    (w.setCell ⟨b, 3, none⟩ u).heap[b]? = some (.cells #[x0, x1, x2, u, x4, x5, x6] t (0, 0)) ∧ (w.setCell ⟨b, 4, none⟩ u).heap[b]? = some (.cells #[x0, x1, x2, x3, u, x5, x6] t (0, 0)) ∧ (w.setCell ⟨b, 5, none⟩ u).heap[b]? = some (.cells #[x0, x1, x2, x3, x4, u, x6] t (0, 0)) ∧ (w.setCell ⟨b, 6, none⟩ u).heap[b]? = some (.cells #[x0, x1, x2, x3, x4, x5, u] t (0, 0)) := by
  simp [World.setCell, Array.getElem?_modify, h]
theorem set_other22 (w : World) {s i k : Nat} (u : Value) (h : k ≠ s) : (w.setCell ⟨s, i, none⟩ u).heap[k]? = w.heap[k]? := by
  have h' : ¬ s = k := fun e => h e.symm
  simp [World.setCell, Array.getElem?_modify, h']
theorem Wr22.setC (h : Wr22 w v s g b pg P) (x : Int) : Wr22 (w.setCell ⟨s, 6, none⟩ (.int .i64 x)) v s g b pg { P with cl := x } := by
  obtain ⟨Y, hY, hl⟩ := h.hg
  exact ⟨(set_other22 w _ h.ne_vs).trans h.hv, (seven_set22 h.hs _).2.2.2, Y, (set_other22 w _ h.ne_sg.symm).trans hY, hl⟩
theorem Wr22.setW (h : Wr22 w v s g b pg P) (n : Nat) : Wr22 (w.setCell ⟨s, 5, none⟩ (.int .i64 (n : Int))) v s g b pg { P with wn := n } := by
  obtain ⟨Y, hY, hl⟩ := h.hg
  exact ⟨(set_other22 w _ h.ne_vs).trans h.hv, (seven_set22 h.hs _).2.2.1, Y, (set_other22 w _ h.ne_sg.symm).trans hY, hl⟩
theorem Wr22.setP (h : Wr22 w v s g b pg P) (n : Nat) : Wr22 (w.setCell ⟨s, 4, none⟩ (.int .i64 (n : Int))) v s g b pg { P with pn := n } := by
  obtain ⟨Y, hY, hl⟩ := h.hg
  exact ⟨(set_other22 w _ h.ne_vs).trans h.hv, (seven_set22 h.hs _).2.1, Y, (set_other22 w _ h.ne_sg.symm).trans hY, hl⟩
theorem Wr22.setH (h : Wr22 w v s g b pg P) : Wr22 (w.setCell ⟨s, 3, none⟩ (.int .i64 0)) v s g b pg { P with bf := [] } := by
  obtain ⟨Y, hY, hl, hb⟩ := h.hg
  exact ⟨(set_other22 w _ h.ne_vs).trans h.hv, (seven_set22 h.hs _).1, P.bf ++ Y, (set_other22 w _ h.ne_sg.symm).trans hY, by simpa using hl, hb⟩
theorem Pe22.put (h : Pe22 w v s g b F S P) (hk : Kp (fun k => k = s ∨ k = g) w w') (hw : Wr22 w' v s g b S.pg P') : Pn22 w w' v s g b F S P' := by
  refine ⟨F, ⟨h.fl.kp (fun k e => ?_) hk.size, hw, h.nv, h.ns, h.ng⟩, fun _ e => .inl e, hk.mono (fun i _ e => .inr e)⟩
  have hlt : k < w.heap.size := by
    obtain ⟨m, c, f, ta, tc, la, lc, V, h1, h2, h3, h4, h5, h6⟩ := h.fl
    exact h6 k e
  refine hk.block k hlt (fun q => ?_)
  rcases q with q | q
  · exact h.ns (q ▸ e)
  · exact h.ng (q ▸ e)
def mx22 (S : Fs21) : Nat := S.pg * S.ps
theorem mx22_bd (hO : Ok21 S) : mx22 S ≤ 16777216 := by
  have h1 := hO.pg
  have h2 := hO.ps
  unfold mx22
  have := Nat.mul_le_mul h1.2 h2.2
  omega
set_option maxRecDepth 100000 in
set_option maxHeartbeats 2000000 in
theorem plf22 (h : Pe22 w v s g b F S P) (hO : Ok21 S) (hw : P.wn ≤ 16777216) : Calls Try.prog 39 #[.pointer (some ⟨s, 0, none⟩)] w fun e w' => e = .returned (.int .i64 ((mx22 S : Int) - (P.wn : Int))) ∧ Below w.heap.size w w' := by
  have HS := pshp22 h.fl hO
  have c0 := h.wr.c0
  have hmx := mx22_bd hO
  have hmul : IntKind.i64.wrap ((S.pg : Int) * (S.ps : Int)) = (mx22 S : Int) := by
    have e : (S.pg : Int) * (S.ps : Int) = (mx22 S : Int) := by unfold mx22; exact (Int.natCast_mul _ _).symm
    rw [e, IntWalk.i64_in _ (by omega)]
  generalize mx22 S = SZ at *
  have hsub : IntKind.i64.wrap ((SZ : Int) - (P.wn : Int)) = (SZ : Int) - (P.wn : Int) := IntWalk.i64_in _ (by omega)
  have HP : Hid (Pe22 w v s g b F S P) := h
  clear h hmx hw
  go_enter Try.func39, Try.ntmps39
  go_wp2_with fail
  refine HS.mono ?_
  rintro e w1 ⟨rfl, b1⟩
  obtain ⟨w2, hw2⟩ : ∃ w2, w2 = w1.alloc (.cells #[.int .i64 (S.pg : Int), .int .i64 (S.ps : Int)] 62) := ⟨_, rfl⟩
  have HW2 : Hid (w1.alloc (.cells #[.int .i64 (S.pg : Int), .int .i64 (S.ps : Int)] 62) = w2) := hw2.symm
  have q2 : w2.heap[w1.heap.size]? = some (.cells #[.int .i64 (S.pg : Int), .int .i64 (S.ps : Int)] 62 (0, 0)) := by rw [hw2]; exact heap_alloc_new _ _
  have b2 : Below w.heap.size w w2 := by rw [hw2]; exact b1.alloc (by have := b1.size; omega) _
  have d0 := two_cell0 q2
  have d1 := two_cell1 q2
  have c5 := (HP.out.old b2).wr.c5
  have hlt : s < w1.heap.size := (HP.out.old b1).wr.lt.2.1
  clear hw2 c0
  go_wp2_with fail
  rw [HW2.out]
  go_quiet (fail)
  go_wp2_with fail
  go_ret
  exact ⟨rfl, below_drewN21 b2 _⟩
theorem info_u8z22 : (Try.prog.info? 5).map (fun i => (i.zero, i.size, i.bytes)) = some (some (.int .u8 0), 1, 1) := by kernel_rfl
theorem made_zeros22 (n : Nat) : madeCells #[.int .u8 0] n = ((List.replicate n (0 : Int)).map (Value.int .u8)).toArray := by
  apply Array.toList_inj.1
  rw [toList_madeCells_one]
  simp
theorem run_make22 (n : Nat) (h : n ≤ 281474976710656) (w : World) :
    (Instr.makeSlice 26 (.int .i64 (n : Int)) (.int .i64 (n : Int))).run Try.prog w = .ok (.slice (some ⟨w.heap.size, 0, none⟩) n n) (w.alloc (.cells ((List.replicate n (0 : Int)).map (Value.int .u8)).toArray 5)) := by
  rw [← made_zeros22]
  exact run_make_row' 26 5 (.int .u8 0) 1 Try.underlying26 info_u8z22 rfl .i64 .i64 n (by omega) (by omega) w
theorem flds22 (p q : Int) (W : World) : (Instr.field 62 (.agg #[.int .i64 p, .int .i64 q]) 0).run Try.prog W = .ok (.int .i64 p) W := by kernel_rfl
/-- What New leaves. -/
def Nw22 (w w' : World) (b : Nat) (F : Nat → Prop) (S : Fs21) (e : Ending) : Prop := ∃ v s g, e = .returned (.tuple #[.pointer (some ⟨v, 0, none⟩), .int .i64 0]) ∧ Pe22 w' v s g b F S ⟨1 - S.ac, [], 0, 0, 0⟩ ∧ Below w.heap.size w w' ∧ w.heap.size ≤ v ∧ w.heap.size ≤ s ∧ w.heap.size ≤ g
set_option maxRecDepth 100000 in
set_option maxHeartbeats 4000000 in
theorem pnw22 (hF : Fl21 w b F S) (hO : Ok21 S) : Calls Try.prog 11 #[.pointer (some ⟨b, 0, none⟩)] w fun e w' => Nw22 w w' b F S e := by
  have HS := pshp22 hF hO
  have hpg := hO.pg
  have HF : Hid (Fl21 w b F S) := hF
  have hfd := flds22 (S.pg : Int) (S.ps : Int)
  have p0' : ((S.pg : Int) == 0) = false := by simp; omega
  have HAC : Hid (∀ W : World, Below w.heap.size w W → Calls Try.prog 28 #[.pointer (some ⟨b, 0, none⟩)] W fun e w' => e = .returned (.int .i64 S.ac) ∧ w' = W) := fun W hW => pact22 (hF.old hW) hO
  have HMK : ∀ W : World, (Instr.makeSlice 26 (.int .i64 (S.pg : Int)) (.int .i64 (S.pg : Int))).run Try.prog W = .ok (.slice (some ⟨W.heap.size, 0, none⟩) S.pg S.pg) (W.alloc (.cells ((List.replicate S.pg (0 : Int)).map (Value.int .u8)).toArray 5)) := fun W => run_make22 S.pg (by omega) W
  have hac : IntKind.i64.wrap (1 - S.ac) = 1 - S.ac := by rw [IntWalk.i64_in _ (by have := hO.ac; omega)]
  have HROW : Hid (∀ (w1 w3 : World), Below w.heap.size w w1 → w3.heap = (((w1.alloc (.cells ((List.replicate S.pg (0 : Int)).map (Value.int .u8)).toArray 5)).alloc (.cells #[.pointer (some ⟨b, 0, none⟩), .int .i64 (1 - S.ac), .slice (some ⟨w1.heap.size, 0, none⟩) S.pg S.pg, .int .i64 0, .int .i64 0, .int .i64 0, .int .i64 0] 86)).alloc (.cells #[.pointer (some ⟨w1.heap.size + 1, 0, none⟩)] 59)).heap → w3.os = w1.os → w3.tape = w1.tape → w3.output = w1.output →
      Nw22 w w3 b F S (.returned (.tuple #[.pointer (some ⟨w1.heap.size + 2, 0, none⟩), .int .i64 0]))) := fun w1 w3 b1 hh h1 h2 h3 => by
    have hz := b1.size
    have e0 : w3.heap[w1.heap.size]? = some (.cells ((List.replicate S.pg (0 : Int)).map (Value.int .u8)).toArray 5 (0, 0)) := by
      rw [hh, heap_alloc_old _ _ (by simp; omega), heap_alloc_old _ _ (by simp)]; exact heap_alloc_new _ _
    have e1 : w3.heap[w1.heap.size + 1]? = some (.cells #[.pointer (some ⟨b, 0, none⟩), .int .i64 (1 - S.ac), .slice (some ⟨w1.heap.size, 0, none⟩) S.pg S.pg, .int .i64 0, .int .i64 0, .int .i64 0, .int .i64 0] 86 (0, 0)) := by
      rw [hh, heap_alloc_old _ _ (by simp)]; exact heap_alloc2_new _ _ _
    have e2 : w3.heap[w1.heap.size + 2]? = some (.cells #[.pointer (some ⟨w1.heap.size + 1, 0, none⟩)] 59 (0, 0)) := by
      rw [hh]
      have e : ((w1.alloc (.cells ((List.replicate S.pg (0 : Int)).map (Value.int .u8)).toArray 5)).alloc (.cells #[.pointer (some ⟨b, 0, none⟩), .int .i64 (1 - S.ac), .slice (some ⟨w1.heap.size, 0, none⟩) S.pg S.pg, .int .i64 0, .int .i64 0, .int .i64 0, .int .i64 0] 86)).heap.size = w1.heap.size + 2 := by simp
      rw [← e]; exact heap_alloc_new _ _
    have bb : Below w.heap.size w w3 := by
      have b3 := ((b1.alloc hz (.cells ((List.replicate S.pg (0 : Int)).map (Value.int .u8)).toArray 5)).alloc (by simp; omega) (.cells #[.pointer (some ⟨b, 0, none⟩), .int .i64 (1 - S.ac), .slice (some ⟨w1.heap.size, 0, none⟩) S.pg S.pg, .int .i64 0, .int .i64 0, .int .i64 0, .int .i64 0] 86)).alloc (by simp; omega) (.cells #[.pointer (some ⟨w1.heap.size + 1, 0, none⟩)] 59)
      exact ⟨h1.trans b1.os, h2.trans b1.tape, h3.trans b1.output, by rw [hh]; exact b3.size, fun k hk => by rw [hh]; exact b3.block k hk⟩
    have hn : ∀ k, F k → k < w.heap.size := by
      obtain ⟨m, c, f, ta, tc, la, lc, V, h1, h2, h3, h4, h5, h6⟩ := HF.out
      exact h6
    refine ⟨w1.heap.size + 2, w1.heap.size + 1, w1.heap.size, rfl, ⟨HF.out.old bb, ⟨e2, e1, List.replicate S.pg 0, by simpa using e0, by simp, ?_⟩, ?_, ?_, ?_⟩, bb, by omega, by omega, by omega⟩
    · intro y hy
      have : y = 0 := by simpa using (List.mem_replicate.1 (by simpa using hy)).2
      subst this; decide
    · intro e; have := hn _ e; omega
    · intro e; have := hn _ e; omega
    · intro e; have := hn _ e; omega
  clear hF
  go_enter Try.func11, Try.ntmps11
  go_wp2_with fail
  refine HS.mono ?_
  rintro e w1 ⟨rfl, b1⟩
  have r0 : Below w.heap.size w w1.drew := b1.drew
  have r1 : ∀ o, Below w.heap.size w (w1.alloc o).drew := fun o => (b1.alloc b1.size o).drew
  have r2 : ∀ o, Below w.heap.size w (w1.drew.alloc o) := fun o => (b1.drew.alloc b1.size o)
  go_wp2_with fail
  go_region_held3 (fun _ => True) (trivial)
    (first | (go_at_call 28; refine (HAC.out _ (by first | exact r0 | exact r1 _ | exact r2 _)).mono ?_; rintro e9 w9 ⟨rfl, h9⟩; subst w9))
  all_goals
    go_wp2_with fail
    go_ret2
    exact HROW.out w1 _ b1 (by first | rfl | (simp; done) | (simp only [List.map_replicate, List.toArray_replicate]; rfl)) rfl rfl rfl
end
end Go.Proofs.Ytiocdhkompekpaa
