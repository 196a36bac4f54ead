
import Derived.Test.YtjoghmdjnkdokaaDoorFlS
import Derived.Test.YtjoghmdjnkdokaaDoorFlM
namespace Go.Proofs.YtjoghmdjnkdokaaDoor
open Go.RowKit Go.Shelf
set_option linter.unusedVariables false
set_option linter.unusedSimpArgs false

/-! The landed page: a writer in memory; what it tells. -/
structure Pw22 where
  ar : Int
  bf : List Int
  pn : Nat
  wn : Nat
  cl : Int
structure Wr22 (w : World) (v s g b pg : Nat) (P : Pw22) : Prop where
  hv : w.heap[v]? = some (.cells #[.pointer (some ⟨s, 0, none⟩)] 186 (0, 0))
  hs : w.heap[s]? = some (.cells #[.pointer (some ⟨b, 0, none⟩), .int .i64 P.ar, .slice (some ⟨g, 0, none⟩) pg pg, .int .i64 (P.bf.length : Int), .int .i64 (P.pn : Int), .int .i64 (P.wn : Int), .int .i64 P.cl] 186 (0, 0))
  hg : ∃ Y : List Int, w.heap[g]? = some (.cells ((P.bf ++ Y).map (Value.int .u8)).toArray 5 (0, 0)) ∧ P.bf.length + Y.length = pg ∧ ∀ y ∈ P.bf ++ Y, 0 ≤ y ∧ y ≤ 255
section
variable {w w' : World} {v s g b pg : Nat} {P : Pw22}
theorem Wr22.cv (h : Wr22 w v s g b pg P) : w.cell? ⟨v, 0, none⟩ = some (.pointer (some ⟨s, 0, none⟩)) := by simp [World.cell?, h.hv]
theorem Wr22.c0 (h : Wr22 w v s g b pg P) : w.cell? ⟨s, 0, none⟩ = some (.pointer (some ⟨b, 0, none⟩)) := by simp [World.cell?, h.hs]
theorem Wr22.c1 (h : Wr22 w v s g b pg P) : w.cell? ⟨s, 1, none⟩ = some (.int .i64 P.ar) := by simp [World.cell?, h.hs]
theorem Wr22.c2 (h : Wr22 w v s g b pg P) : w.cell? ⟨s, 2, none⟩ = some (.slice (some ⟨g, 0, none⟩) pg pg) := by simp [World.cell?, h.hs]
theorem Wr22.c3 (h : Wr22 w v s g b pg P) : w.cell? ⟨s, 3, none⟩ = some (.int .i64 (P.bf.length : Int)) := by simp [World.cell?, h.hs]
theorem Wr22.c4 (h : Wr22 w v s g b pg P) : w.cell? ⟨s, 4, none⟩ = some (.int .i64 (P.pn : Int)) := by simp [World.cell?, h.hs]
theorem Wr22.c5 (h : Wr22 w v s g b pg P) : w.cell? ⟨s, 5, none⟩ = some (.int .i64 (P.wn : Int)) := by simp [World.cell?, h.hs]
theorem Wr22.c6 (h : Wr22 w v s g b pg P) : w.cell? ⟨s, 6, none⟩ = some (.int .i64 P.cl) := by simp [World.cell?, h.hs]
theorem Wr22.fr (h : Wr22 w v s g b pg P) (i : Nat) : w.frozen? ⟨s, i, none⟩ = false := by simp [World.frozen?, h.hs]
theorem Wr22.ne_vs (h : Wr22 w v s g b pg P) : v ≠ s := fun e => by have := h.hs; rw [← e, h.hv] at this; simp at this
theorem Wr22.ne_sg (h : Wr22 w v s g b pg P) : s ≠ g := fun e => by
  obtain ⟨Y, h1, _⟩ := h.hg
  have := h.hs; rw [e, h1] at this
  injection this with h2
  injection h2 with _ h3 _
  exact absurd h3 (by decide)
theorem Wr22.ne_vg (h : Wr22 w v s g b pg P) : v ≠ g := fun e => by
  obtain ⟨Y, h1, _⟩ := h.hg
  have := h.hv; rw [e, h1] at this
  injection this with h2
  injection h2 with _ h3 _
  exact absurd h3 (by decide)
theorem Wr22.kp (h : Wr22 w v s g b pg P) (h1 : w'.heap[v]? = w.heap[v]?) (h2 : w'.heap[s]? = w.heap[s]?) (h3 : w'.heap[g]? = w.heap[g]?) : Wr22 w' v s g b pg P := by
  obtain ⟨Y, hY, hl⟩ := h.hg
  exact ⟨h1.trans h.hv, h2.trans h.hs, Y, h3.trans hY, hl⟩
theorem Wr22.lt (h : Wr22 w v s g b pg P) : v < w.heap.size ∧ s < w.heap.size ∧ g < w.heap.size := by
  obtain ⟨Y, hY, hl⟩ := h.hg
  exact ⟨(Array.getElem?_eq_some_iff.1 h.hv).1, (Array.getElem?_eq_some_iff.1 h.hs).1, (Array.getElem?_eq_some_iff.1 hY).1⟩
theorem Wr22.old (h : Wr22 w v s g b pg P) (hb : Below w.heap.size w w') : Wr22 w' v s g b pg P :=
  h.kp (hb.block v h.lt.1) (hb.block s h.lt.2.1) (hb.block g h.lt.2.2)
theorem Wr22.kpk {Q : Nat → Prop} (h : Wr22 w v s g b pg P) (hk : Kp Q w w') (h1 : ¬ Q v) (h2 : ¬ Q s) (h3 : ¬ Q g) : Wr22 w' v s g b pg P :=
  h.kp (hk.block v h.lt.1 h1) (hk.block s h.lt.2.1 h2) (hk.block g h.lt.2.2 h3)
end
/-- A writer over a flash. -/
structure Pe22 (w : World) (v s g b : Nat) (F : Nat → Prop) (S : Fs21) (P : Pw22) : Prop where
  fl : Fl21 w b F S
  wr : Wr22 w v s g b S.pg P
  nv : ¬ F v
  ns : ¬ F s
  ng : ¬ F g
def Pn22 (w w' : World) (v s g b : Nat) (F : Nat → Prop) (S' : Fs21) (P' : Pw22) : Prop := ∃ F', Pe22 w' v s g b F' S' P' ∧ (∀ k, F' k → F k ∨ w.heap.size ≤ k) ∧ Kp (fun k => F k ∨ k = s ∨ k = g) w w'
section
variable {w w' : World} {v s g b : Nat} {F : Nat → Prop} {S S' : Fs21} {P P' : Pw22}
theorem Pe22.old (h : Pe22 w v s g b F S P) (hb : Below w.heap.size w w') : Pe22 w' v s g b F S P := ⟨h.fl.old hb, h.wr.old hb, h.nv, h.ns, h.ng⟩
theorem Pe22.stay (h : Pe22 w v s g b F S P) (hb : Below w.heap.size w w') : Pn22 w w' v s g b F S P := ⟨F, h.old hb, fun _ e => .inl e, Kp.of_below hb⟩
theorem Pn22.from {w1 : World} (h : Pn22 w1 w' v s g b F S' P') (hb : Below w.heap.size w w1) : Pn22 w w' v s g b F S' P' := by
  obtain ⟨F', h1, h2, h3⟩ := h
  exact ⟨F', h1, fun k e => by rcases h2 k e with h | h; (exact .inl h); (exact .inr (Nat.le_trans hb.size h)), (Kp.of_below hb).trans h3 (fun _ _ e => e)⟩
/-- What a call of the flash leaves of a writer over it. -/
theorem Pe22.flash (h : Pe22 w v s g b F S P) (hn : Fn21 w w' b F S') (hp : S'.pg = S.pg) : Pn22 w w' v s g b F S' P := by
  obtain ⟨F', h1, h2, h3⟩ := hn
  have hl := h.wr.lt
  refine ⟨F', ⟨h1, by rw [hp]; exact h.wr.kpk h3 h.nv h.ns h.ng, fun e => ?_, fun e => ?_, fun e => ?_⟩, h2, h3.mono (fun i _ e => .inl e)⟩
  · rcases h2 v e with q | q; (exact h.nv q); omega
  · rcases h2 s e with q | q; (exact h.ns q); omega
  · rcases h2 g e with q | q; (exact h.ng q); omega
theorem Pn22.cons {w1 w2 : World} {F1 : Nat → Prop} {S2 : Fs21} {P2 : Pw22} (f1 : ∀ k, F1 k → F k ∨ w.heap.size ≤ k) (k1 : Kp (fun k => F k ∨ k = s ∨ k = g) w w1) (h : Pn22 w1 w2 v s g b F1 S2 P2) : Pn22 w w2 v s g b F S2 P2 := by
  obtain ⟨F2, h1, h2, h3⟩ := h
  refine ⟨F2, h1, fun x e => ?_, k1.trans h3 (fun i hi e => ?_)⟩
  · rcases h2 x e with q | q
    · exact f1 x q
    · exact .inr (Nat.le_trans k1.size q)
  · rcases e with e | e
    · rcases f1 i e with q | q
      · exact .inl q
      · omega
    · exact .inr e
end
section
variable {w : World} {v s g b pg : Nat} {P : Pw22}
end
section
variable {w : World} {b : Nat} {F : Nat → Prop} {S : Fs21}
set_option maxRecDepth 100000 in
set_option maxHeartbeats 1000000 in
theorem pact22 (hF : Fl21 w b F S) (hO : Ok21 S) : Calls Tryd.prog 22 #[.pointer (some ⟨b, 0, none⟩)] w fun e w' => e = .returned (.int .i64 S.ac) ∧ w' = w := by
  obtain ⟨c0, c1, c2, c3, c4, cf⟩ := hF.cells
  have HM := pmade21 b S.pg w c0 hO.pg.1
  clear hF
  go_enter Tryd.func22, Tryd.ntmps22
  go_wp2_with fail
  refine HM.mono ?_
  rintro e w1 ⟨rfl, hw⟩
  subst w1
  go_wp2_with fail
  go_ret
  exact ⟨rfl, rfl⟩
set_option maxRecDepth 100000 in
set_option maxHeartbeats 1000000 in
theorem pshp22 (hF : Fl21 w b F S) (hO : Ok21 S) : Calls Tryd.prog 66 #[.pointer (some ⟨b, 0, none⟩)] w fun e w' => e = .returned (.agg #[.int .i64 (S.pg : Int), .int .i64 (S.ps : Int)]) ∧ Below w.heap.size w w' := by
  have hb : Below w.heap.size w (w.alloc (.cells #[.int .i64 0, .int .i64 0] 29)) := (Below.refl _ _).alloc (Nat.le_refl _) _
  obtain ⟨c0, c1, c2, c3, c4, cf⟩ := (hF.old hb).cells
  have HM := pmade21 b S.pg _ c0 hO.pg.1
  have hb2 : Below w.heap.size w (w.alloc (.cells #[.int .i64 (S.pg : Int), .int .i64 (S.ps : Int)] 29)) := (Below.refl _ _).alloc (Nat.le_refl _) _
  have hq := heap_alloc_new w (.cells #[.int .i64 (S.pg : Int), .int .i64 (S.ps : Int)] 29)
  have hlt := hF.lt
  clear hF
  go_enter Tryd.func66, Tryd.ntmps66
  go_wp2_with fail
  refine HM.mono ?_
  rintro e w1 ⟨rfl, hw⟩
  subst w1
  go_wp2_with fail
  refine bodyPost_ret (v := .agg #[.int .i64 (S.pg : Int), .int .i64 (S.ps : Int)]) (results_cell_row (fn := Tryd.f66) (p := 2) (ty := 29) rfl _ _ w.heap.size _ _ _ _ rfl hq Tryd.underlying29 rfl (by kernel_rfl)) rfl ?_
  exact ⟨rfl, hb2⟩
end
end Go.Proofs.YtjoghmdjnkdokaaDoor
