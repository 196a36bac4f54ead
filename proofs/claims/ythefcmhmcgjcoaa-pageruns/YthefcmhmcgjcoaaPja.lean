import Derived.Test.YthefcmhmcgjcoaaFlS
import Derived.Test.YthefcmhmcgjcoaaFlM
import Derived.Test.YthefcmhmcgjcoaaRfG
import Derived.Deep.OwnRows
import Derived.Deep.RegionHeld3
namespace Go.Proofs.Ythefcmhmcgjcoaa
open Go.RowKit Go.Shelf
set_option linter.unusedVariables false
set_option linter.unusedSimpArgs false

/-! The landed page: a writer in memory; what it tells. -/
structure Pw22 where
  ar : Int
  bf : List Int
  pn : Nat
  wn : Nat
  cl : Int
structure Wr22 (w : World) (v s g b pg : Nat) (P : Pw22) : Prop where
  hv : w.heap[v]? = some (.cells #[.pointer (some ⟨s, 0, none⟩)] 108 (0, 0))
  hs : w.heap[s]? = some (.cells #[.pointer (some ⟨b, 0, none⟩), .int .i64 P.ar, .slice (some ⟨g, 0, none⟩) pg pg, .int .i64 (P.bf.length : Int), .int .i64 (P.pn : Int), .int .i64 (P.wn : Int), .int .i64 P.cl] 106 (0, 0))
  hg : ∃ Y : List Int, w.heap[g]? = some (.cells ((P.bf ++ Y).map (Value.int .u8)).toArray 5 (0, 0)) ∧ P.bf.length + Y.length = pg ∧ ∀ y ∈ P.bf ++ Y, 0 ≤ y ∧ y ≤ 255
section
variable {w w' : World} {v s g b pg : Nat} {P : Pw22}
theorem Wr22.cv (h : Wr22 w v s g b pg P) : w.cell? ⟨v, 0, none⟩ = some (.pointer (some ⟨s, 0, none⟩)) := by simp [World.cell?, h.hv]
theorem Wr22.c0 (h : Wr22 w v s g b pg P) : w.cell? ⟨s, 0, none⟩ = some (.pointer (some ⟨b, 0, none⟩)) := by simp [World.cell?, h.hs]
theorem Wr22.c1 (h : Wr22 w v s g b pg P) : w.cell? ⟨s, 1, none⟩ = some (.int .i64 P.ar) := by simp [World.cell?, h.hs]
theorem Wr22.c2 (h : Wr22 w v s g b pg P) : w.cell? ⟨s, 2, none⟩ = some (.slice (some ⟨g, 0, none⟩) pg pg) := by simp [World.cell?, h.hs]
theorem Wr22.c3 (h : Wr22 w v s g b pg P) : w.cell? ⟨s, 3, none⟩ = some (.int .i64 (P.bf.length : Int)) := by simp [World.cell?, h.hs]
theorem Wr22.c4 (h : Wr22 w v s g b pg P) : w.cell? ⟨s, 4, none⟩ = some (.int .i64 (P.pn : Int)) := by simp [World.cell?, h.hs]
theorem Wr22.c5 (h : Wr22 w v s g b pg P) : w.cell? ⟨s, 5, none⟩ = some (.int .i64 (P.wn : Int)) := by simp [World.cell?, h.hs]
theorem Wr22.c6 (h : Wr22 w v s g b pg P) : w.cell? ⟨s, 6, none⟩ = some (.int .i64 P.cl) := by simp [World.cell?, h.hs]
theorem Wr22.fr (h : Wr22 w v s g b pg P) (i : Nat) : w.frozen? ⟨s, i, none⟩ = false := by simp [World.frozen?, h.hs]
theorem Wr22.ne_vs (h : Wr22 w v s g b pg P) : v ≠ s := fun e => by have := h.hs; rw [← e, h.hv] at this; simp at this
theorem Wr22.ne_sg (h : Wr22 w v s g b pg P) : s ≠ g := fun e => by
  obtain ⟨Y, h1, _⟩ := h.hg
  have := h.hs; rw [e, h1] at this
  injection this with h2
  injection h2 with _ h3 _
  exact absurd h3 (by decide)
theorem Wr22.ne_vg (h : Wr22 w v s g b pg P) : v ≠ g := fun e => by
  obtain ⟨Y, h1, _⟩ := h.hg
  have := h.hv; rw [e, h1] at this
  injection this with h2
  injection h2 with _ h3 _
  exact absurd h3 (by decide)
theorem Wr22.kp (h : Wr22 w v s g b pg P) (h1 : w'.heap[v]? = w.heap[v]?) (h2 : w'.heap[s]? = w.heap[s]?) (h3 : w'.heap[g]? = w.heap[g]?) : Wr22 w' v s g b pg P := by
  obtain ⟨Y, hY, hl⟩ := h.hg
  exact ⟨h1.trans h.hv, h2.trans h.hs, Y, h3.trans hY, hl⟩
theorem Wr22.lt (h : Wr22 w v s g b pg P) : v < w.heap.size ∧ s < w.heap.size ∧ g < w.heap.size := by
  obtain ⟨Y, hY, hl⟩ := h.hg
  exact ⟨(Array.getElem?_eq_some_iff.1 h.hv).1, (Array.getElem?_eq_some_iff.1 h.hs).1, (Array.getElem?_eq_some_iff.1 hY).1⟩
theorem Wr22.old (h : Wr22 w v s g b pg P) (hb : Below w.heap.size w w') : Wr22 w' v s g b pg P :=
  h.kp (hb.block v h.lt.1) (hb.block s h.lt.2.1) (hb.block g h.lt.2.2)
theorem Wr22.kpk {Q : Nat → Prop} (h : Wr22 w v s g b pg P) (hk : Kp Q w w') (h1 : ¬ Q v) (h2 : ¬ Q s) (h3 : ¬ Q g) : Wr22 w' v s g b pg P :=
  h.kp (hk.block v h.lt.1 h1) (hk.block s h.lt.2.1 h2) (hk.block g h.lt.2.2 h3)
end
/-- A writer over a flash. -/
structure Pe22 (w : World) (v s g b : Nat) (F : Nat → Prop) (S : Fs21) (P : Pw22) : Prop where
  fl : Fl21 w b F S
  wr : Wr22 w v s g b S.pg P
  nv : ¬ F v
  ns : ¬ F s
  ng : ¬ F g
def Pn22 (w w' : World) (v s g b : Nat) (F : Nat → Prop) (S' : Fs21) (P' : Pw22) : Prop := ∃ F', Pe22 w' v s g b F' S' P' ∧ (∀ k, F' k → F k ∨ w.heap.size ≤ k) ∧ Kp (fun k => F k ∨ k = s ∨ k = g) w w'
section
variable {w w' : World} {v s g b : Nat} {F : Nat → Prop} {S S' : Fs21} {P P' : Pw22}
theorem Pe22.old (h : Pe22 w v s g b F S P) (hb : Below w.heap.size w w') : Pe22 w' v s g b F S P := ⟨h.fl.old hb, h.wr.old hb, h.nv, h.ns, h.ng⟩
theorem Pe22.stay (h : Pe22 w v s g b F S P) (hb : Below w.heap.size w w') : Pn22 w w' v s g b F S P := ⟨F, h.old hb, fun _ e => .inl e, Kp.of_below hb⟩
theorem Pn22.from {w1 : World} (h : Pn22 w1 w' v s g b F S' P') (hb : Below w.heap.size w w1) : Pn22 w w' v s g b F S' P' := by
  obtain ⟨F', h1, h2, h3⟩ := h
  exact ⟨F', h1, fun k e => by rcases h2 k e with h | h; (exact .inl h); (exact .inr (Nat.le_trans hb.size h)), (Kp.of_below hb).trans h3 (fun _ _ e => e)⟩
/-- What a call of the flash leaves of a writer over it. -/
theorem Pe22.flash (h : Pe22 w v s g b F S P) (hn : Fn21 w w' b F S') (hp : S'.pg = S.pg) : Pn22 w w' v s g b F S' P := by
  obtain ⟨F', h1, h2, h3⟩ := hn
  have hl := h.wr.lt
  refine ⟨F', ⟨h1, by rw [hp]; exact h.wr.kpk h3 h.nv h.ns h.ng, fun e => ?_, fun e => ?_, fun e => ?_⟩, h2, h3.mono (fun i _ e => .inl e)⟩
  · rcases h2 v e with q | q; (exact h.nv q); omega
  · rcases h2 s e with q | q; (exact h.ns q); omega
  · rcases h2 g e with q | q; (exact h.ng q); omega
theorem Pn22.cons {w1 w2 : World} {F1 : Nat → Prop} {S2 : Fs21} {P2 : Pw22} (f1 : ∀ k, F1 k → F k ∨ w.heap.size ≤ k) (k1 : Kp (fun k => F k ∨ k = s ∨ k = g) w w1) (h : Pn22 w1 w2 v s g b F1 S2 P2) : Pn22 w w2 v s g b F S2 P2 := by
  obtain ⟨F2, h1, h2, h3⟩ := h
  refine ⟨F2, h1, fun x e => ?_, k1.trans h3 (fun i hi e => ?_)⟩
  · rcases h2 x e with q | q
    · exact f1 x q
    · exact .inr (Nat.le_trans k1.size q)
  · rcases e with e | e
    · rcases f1 i e with q | q
      · exact .inl q
      · omega
    · exact .inr e
end
section
variable {w : World} {v s g b pg : Nat} {P : Pw22}
set_option maxRecDepth 100000 in
set_option maxHeartbeats 1000000 in
theorem pmd22 (h : Wr22 w v s g b pg P) : Calls Try.prog 47 #[.pointer (some ⟨v, 0, none⟩)] w fun e w' => e = .returned (.bool true) ∧ w' = w := by
  have cv := h.cv
  clear h
  go_enter Try.func47, Try.ntmps47
  go_wp2
  go_ret
  exact ⟨rfl, rfl⟩
set_option maxRecDepth 100000 in
set_option maxHeartbeats 1000000 in
theorem pst22 (h : Wr22 w v s g b pg P) : Calls Try.prog 48 #[.pointer (some ⟨v, 0, none⟩)] w fun e w' => e = .returned (.int .i64 P.cl) ∧ w' = w := by
  have HM := pmd22 h
  have cv := h.cv
  have c6 := h.c6
  clear h
  go_enter Try.func48, Try.ntmps48
  go_wp2_with fail
  refine HM.mono ?_
  rintro e w1 ⟨rfl, hw⟩
  subst w1
  go_wp2_with fail
  go_ret
  exact ⟨rfl, rfl⟩
set_option maxRecDepth 100000 in
set_option maxHeartbeats 1000000 in
theorem pwn22 (h : Wr22 w v s g b pg P) : Calls Try.prog 30 #[.pointer (some ⟨v, 0, none⟩)] w fun e w' => e = .returned (.int .i64 (P.wn : Int)) ∧ w' = w := by
  have HM := pmd22 h
  have cv := h.cv
  have c5 := h.c5
  clear h
  go_enter Try.func30, Try.ntmps30
  go_wp2_with fail
  refine HM.mono ?_
  rintro e w1 ⟨rfl, hw⟩
  subst w1
  go_wp2_with fail
  go_ret
  exact ⟨rfl, rfl⟩
set_option maxRecDepth 100000 in
set_option maxHeartbeats 1000000 in
theorem ppn22 (h : Wr22 w v s g b pg P) : Calls Try.prog 31 #[.pointer (some ⟨v, 0, none⟩)] w fun e w' => e = .returned (.int .i64 (P.pn : Int)) ∧ w' = w := by
  have HM := pmd22 h
  have cv := h.cv
  have c4 := h.c4
  clear h
  go_enter Try.func31, Try.ntmps31
  go_wp2_with fail
  refine HM.mono ?_
  rintro e w1 ⟨rfl, hw⟩
  subst w1
  go_wp2_with fail
  go_ret
  exact ⟨rfl, rfl⟩
set_option maxRecDepth 100000 in
set_option maxHeartbeats 1000000 in
theorem prm22 (h : Wr22 w v s g b pg P) : Calls Try.prog 21 #[.pointer (some ⟨v, 0, none⟩)] w fun e w' => e = .returned (.int .i64 (pg : Int)) ∧ w' = w := by
  have HM := pmd22 h
  have cv := h.cv
  have c2 := h.c2
  clear h
  go_enter Try.func21, Try.ntmps21
  go_wp2_with fail
  refine HM.mono ?_
  rintro e w1 ⟨rfl, hw⟩
  subst w1
  go_wp2_with fail
  go_ret
  exact ⟨rfl, rfl⟩
end
section
variable {w : World} {b : Nat} {F : Nat → Prop} {S : Fs21}
set_option maxRecDepth 100000 in
set_option maxHeartbeats 1000000 in
theorem pact22 (hF : Fl21 w b F S) (hO : Ok21 S) : Calls Try.prog 46 #[.pointer (some ⟨b, 0, none⟩)] w fun e w' => e = .returned (.int .i64 S.ac) ∧ w' = w := by
  obtain ⟨c0, c1, c2, c3, c4, cf⟩ := hF.cells
  have HM := pmade21 b S.pg w c0 hO.pg.1
  clear hF
  go_enter Try.func46, Try.ntmps46
  go_wp2_with fail
  refine HM.mono ?_
  rintro e w1 ⟨rfl, hw⟩
  subst w1
  go_wp2_with fail
  go_ret
  exact ⟨rfl, rfl⟩
set_option maxRecDepth 100000 in
set_option maxHeartbeats 1000000 in
theorem pshp22 (hF : Fl21 w b F S) (hO : Ok21 S) : Calls Try.prog 45 #[.pointer (some ⟨b, 0, none⟩)] w fun e w' => e = .returned (.agg #[.int .i64 (S.pg : Int), .int .i64 (S.ps : Int)]) ∧ Below w.heap.size w w' := by
  have hb : Below w.heap.size w (w.alloc (.cells #[.int .i64 0, .int .i64 0] 31)) := (Below.refl _ _).alloc (Nat.le_refl _) _
  obtain ⟨c0, c1, c2, c3, c4, cf⟩ := (hF.old hb).cells
  have HM := pmade21 b S.pg _ c0 hO.pg.1
  have hb2 : Below w.heap.size w (w.alloc (.cells #[.int .i64 (S.pg : Int), .int .i64 (S.ps : Int)] 31)) := (Below.refl _ _).alloc (Nat.le_refl _) _
  have hq := heap_alloc_new w (.cells #[.int .i64 (S.pg : Int), .int .i64 (S.ps : Int)] 31)
  have hlt := hF.lt
  clear hF
  go_enter Try.func45, Try.ntmps45
  go_wp2_with fail
  refine HM.mono ?_
  rintro e w1 ⟨rfl, hw⟩
  subst w1
  go_wp2_with fail
  refine bodyPost_ret (v := .agg #[.int .i64 (S.pg : Int), .int .i64 (S.ps : Int)]) (results_cell_row (fn := Try.f45) (p := 2) (ty := 31) rfl _ _ w.heap.size _ _ _ _ rfl hq Try.underlying31 rfl (by kernel_rfl)) rfl ?_
  exact ⟨rfl, hb2⟩
end
end Go.Proofs.Ythefcmhmcgjcoaa

namespace Go.Proofs.Ythefcmhmcgjcoaa
open Go.RowKit Go.Shelf
set_option linter.unusedVariables false
set_option linter.unusedSimpArgs false

/-! The document's page writer (sapperref22): the same state Pw22 as the landed writer's. Failed is cl, unless cl = 221 (Over). -/
structure Rw22 (w : World) (u b : Nat) (ha : Option Addr) (hc : Nat) (P : Pw22) : Prop where
  hu : w.heap[u]? = some (.cells #[.pointer (some ⟨b, 0, none⟩), .int .i64 P.ar, .slice ha P.bf.length hc, .int .i64 (P.wn : Int), .int .i64 (P.pn : Int), .int .i64 (if P.cl = 221 then 0 else P.cl), .bool (decide (P.cl = 221))] 77 (0, 0))
  ow : w.ownsRow 0 5 1 (.slice ha P.bf.length hc) P.bf.length (P.bf.map (Value.int .u8))
  ne : ∀ k, (Value.slice ha P.bf.length hc).ownBlock = some k → k ≠ u
  bd : ∀ y ∈ P.bf, 0 ≤ y ∧ y ≤ 255
theorem Rw22.cel {w : World} {u b : Nat} {ha : Option Addr} {hc : Nat} {P : Pw22} (h : Rw22 w u b ha hc P) {i : Nat} {v : Value} (hi : (#[.pointer (some ⟨b, 0, none⟩), .int .i64 P.ar, .slice ha P.bf.length hc, .int .i64 (P.wn : Int), .int .i64 (P.pn : Int), .int .i64 (if P.cl = 221 then 0 else P.cl), .bool (decide (P.cl = 221))] : Array Value)[i]? = some v) : w.cell? ⟨u, i, none⟩ = some v := by
  simp only [World.cell?, h.hu]; exact hi
set_option maxRecDepth 100000 in
set_option maxHeartbeats 4000000 in
theorem rmay22 {w : World} {u b : Nat} {ha : Option Addr} {hc : Nat} {P : Pw22} (h : Rw22 w u b ha hc P) :
    Calls Try.prog 51 #[.pointer (some ⟨u, 0, none⟩)] w fun e w' => e = .returned (.int .i64 P.cl) ∧ w' = w := by
  have c5 : w.cell? ⟨u, 5, none⟩ = some (.int .i64 (if P.cl = 221 then 0 else P.cl)) := h.cel rfl
  have c6 : w.cell? ⟨u, 6, none⟩ = some (.bool (decide (P.cl = 221))) := h.cel rfl
  obtain ⟨cl, hcl⟩ : ∃ cl, cl = P.cl := ⟨_, rfl⟩
  rw [← hcl] at c5 c6
  rw [← hcl]
  clear h hcl
  by_cases h0 : cl = 0
  · subst h0
    have d5 : w.cell? ⟨u, 5, none⟩ = some (.int .i64 0) := c5
    have d6 : w.cell? ⟨u, 6, none⟩ = some (.bool false) := c6
    clear c5 c6
    go_enter Try.func51, Try.ntmps51
    go_wp2_with fail
    go_ret
    exact ⟨rfl, rfl⟩
  · by_cases h1 : cl = 221
    · subst h1
      have d5 : w.cell? ⟨u, 5, none⟩ = some (.int .i64 0) := c5
      have d6 : w.cell? ⟨u, 6, none⟩ = some (.bool true) := c6
      clear c5 c6
      go_enter Try.func51, Try.ntmps51
      go_wp2_with fail
      go_ret
      exact ⟨rfl, rfl⟩
    · rw [if_neg h1] at c5
      have h0' : (cl == 0) = false := by simp [h0]
      clear c6 h1
      go_enter Try.func51, Try.ntmps51
      go_wp2_with fail
      go_ret
      exact ⟨rfl, rfl⟩
set_option maxRecDepth 100000 in
set_option maxHeartbeats 4000000 in
theorem rnw22 {w : World} {b : Nat} {G : Nat → Prop} {S : Fs21} (h : Rl21d w b G S) (hO : Ok21 S) :
    Calls Try.prog 22 #[.pointer (some ⟨b, 0, none⟩)] w fun e w' => e = .returned (.pointer (some ⟨w.heap.size, 0, none⟩)) ∧ Rw22 w' w.heap.size b none 0 ⟨1 - S.ac, [], 0, 0, 0⟩ ∧ Below w.heap.size w w' := by
  have c2 : w.cell? ⟨b, 2, none⟩ = some (.int .i64 S.ac) := by
    obtain ⟨g, c, A, tn, ta, tc, la, lc, V, q, _⟩ := h
    exact q.cel (i := 2) rfl
  obtain ⟨AC, hAC⟩ : ∃ AC, AC = S.ac := ⟨_, rfl⟩
  obtain ⟨AR, hAR⟩ : ∃ AR, AR = 1 - AC := ⟨_, rfl⟩
  have ha := hO.ac
  rw [← hAC] at c2 ha
  have hw : IntKind.i64.wrap (1 - AC) = AR := by rw [IntWalk.i64_in _ (by omega)]; exact hAR.symm
  rw [← hAC, ← hAR]
  have HE : Hid (Rw22 (w.alloc (.cells #[.pointer (some ⟨b, 0, none⟩), .int .i64 AR, .slice none 0 0, .int .i64 0, .int .i64 0, .int .i64 0, .bool false] 77)) w.heap.size b none 0 ⟨AR, [], 0, 0, 0⟩ ∧ Below w.heap.size w (w.alloc (.cells #[.pointer (some ⟨b, 0, none⟩), .int .i64 AR, .slice none 0 0, .int .i64 0, .int .i64 0, .int .i64 0, .bool false] 77))) :=
    ⟨⟨heap_alloc_new _ _, World.ownsRow_nil _ _ _ _, fun k e => by simp [Value.ownBlock] at e, by simp⟩, (Below.refl _ _).alloc (Nat.le_refl _) _⟩
  clear h hO ha hAC hAR
  go_enter Try.func22, Try.ntmps22
  go_wp2_with fail
  go_ret
  exact ⟨rfl, HE.out⟩
end Go.Proofs.Ythefcmhmcgjcoaa

namespace Go.Proofs.Ythefcmhmcgjcoaa
open Go.RowKit Go.Shelf
set_option linter.unusedVariables false
set_option linter.unusedSimpArgs false

/-! The landed page: New, left. -/
section
variable {w w' : World} {v s g b pg : Nat} {F : Nat → Prop} {S : Fs21} {P P' : Pw22}
theorem seven_set22 {w : World} {b : Nat} {x0 x1 x2 x3 x4 x5 x6 : Value} {t : TypeId} (h : w.heap[b]? = some (.cells #[x0, x1, x2, x3, x4, x5, x6] t (0, 0))) (u : Value) :
    (w.setCell ⟨b, 3, none⟩ u).heap[b]? = some (.cells #[x0, x1, x2, u, x4, x5, x6] t (0, 0)) ∧ (w.setCell ⟨b, 4, none⟩ u).heap[b]? = some (.cells #[x0, x1, x2, x3, u, x5, x6] t (0, 0)) ∧ (w.setCell ⟨b, 5, none⟩ u).heap[b]? = some (.cells #[x0, x1, x2, x3, x4, u, x6] t (0, 0)) ∧ (w.setCell ⟨b, 6, none⟩ u).heap[b]? = some (.cells #[x0, x1, x2, x3, x4, x5, u] t (0, 0)) := by
  simp [World.setCell, Array.getElem?_modify, h]
theorem set_other22 (w : World) {s i k : Nat} (u : Value) (h : k ≠ s) : (w.setCell ⟨s, i, none⟩ u).heap[k]? = w.heap[k]? := by
  have h' : ¬ s = k := fun e => h e.symm
  simp [World.setCell, Array.getElem?_modify, h']
theorem Wr22.setC (h : Wr22 w v s g b pg P) (x : Int) : Wr22 (w.setCell ⟨s, 6, none⟩ (.int .i64 x)) v s g b pg { P with cl := x } := by
  obtain ⟨Y, hY, hl⟩ := h.hg
  exact ⟨(set_other22 w _ h.ne_vs).trans h.hv, (seven_set22 h.hs _).2.2.2, Y, (set_other22 w _ h.ne_sg.symm).trans hY, hl⟩
theorem Wr22.setW (h : Wr22 w v s g b pg P) (n : Nat) : Wr22 (w.setCell ⟨s, 5, none⟩ (.int .i64 (n : Int))) v s g b pg { P with wn := n } := by
  obtain ⟨Y, hY, hl⟩ := h.hg
  exact ⟨(set_other22 w _ h.ne_vs).trans h.hv, (seven_set22 h.hs _).2.2.1, Y, (set_other22 w _ h.ne_sg.symm).trans hY, hl⟩
theorem Wr22.setP (h : Wr22 w v s g b pg P) (n : Nat) : Wr22 (w.setCell ⟨s, 4, none⟩ (.int .i64 (n : Int))) v s g b pg { P with pn := n } := by
  obtain ⟨Y, hY, hl⟩ := h.hg
  exact ⟨(set_other22 w _ h.ne_vs).trans h.hv, (seven_set22 h.hs _).2.1, Y, (set_other22 w _ h.ne_sg.symm).trans hY, hl⟩
theorem Wr22.setH (h : Wr22 w v s g b pg P) : Wr22 (w.setCell ⟨s, 3, none⟩ (.int .i64 0)) v s g b pg { P with bf := [] } := by
  obtain ⟨Y, hY, hl, hb⟩ := h.hg
  exact ⟨(set_other22 w _ h.ne_vs).trans h.hv, (seven_set22 h.hs _).1, P.bf ++ Y, (set_other22 w _ h.ne_sg.symm).trans hY, by simpa using hl, hb⟩
theorem Pe22.put (h : Pe22 w v s g b F S P) (hk : Kp (fun k => k = s ∨ k = g) w w') (hw : Wr22 w' v s g b S.pg P') : Pn22 w w' v s g b F S P' := by
  refine ⟨F, ⟨h.fl.kp (fun k e => ?_) hk.size, hw, h.nv, h.ns, h.ng⟩, fun _ e => .inl e, hk.mono (fun i _ e => .inr e)⟩
  have hlt : k < w.heap.size := by
    obtain ⟨m, c, f, ta, tc, la, lc, V, h1, h2, h3, h4, h5, h6⟩ := h.fl
    exact h6 k e
  refine hk.block k hlt (fun q => ?_)
  rcases q with q | q
  · exact h.ns (q ▸ e)
  · exact h.ng (q ▸ e)
def mx22 (S : Fs21) : Nat := S.pg * S.ps
theorem mx22_bd (hO : Ok21 S) : mx22 S ≤ 16777216 := by
  have h1 := hO.pg
  have h2 := hO.ps
  unfold mx22
  have := Nat.mul_le_mul h1.2 h2.2
  omega
set_option maxRecDepth 100000 in
set_option maxHeartbeats 2000000 in
theorem plf22 (h : Pe22 w v s g b F S P) (hO : Ok21 S) (hw : P.wn ≤ 16777216) : Calls Try.prog 49 #[.pointer (some ⟨s, 0, none⟩)] w fun e w' => e = .returned (.int .i64 ((mx22 S : Int) - (P.wn : Int))) ∧ Below w.heap.size w w' := by
  have HS := pshp22 h.fl hO
  have c0 := h.wr.c0
  have hmx := mx22_bd hO
  have hmul : IntKind.i64.wrap ((S.pg : Int) * (S.ps : Int)) = (mx22 S : Int) := by
    have e : (S.pg : Int) * (S.ps : Int) = (mx22 S : Int) := by unfold mx22; exact (Int.natCast_mul _ _).symm
    rw [e, IntWalk.i64_in _ (by omega)]
  generalize mx22 S = SZ at *
  have hsub : IntKind.i64.wrap ((SZ : Int) - (P.wn : Int)) = (SZ : Int) - (P.wn : Int) := IntWalk.i64_in _ (by omega)
  have HP : Hid (Pe22 w v s g b F S P) := h
  clear h hmx hw
  go_enter Try.func49, Try.ntmps49
  go_wp2_with fail
  refine HS.mono ?_
  rintro e w1 ⟨rfl, b1⟩
  obtain ⟨w2, hw2⟩ : ∃ w2, w2 = w1.alloc (.cells #[.int .i64 (S.pg : Int), .int .i64 (S.ps : Int)] 31) := ⟨_, rfl⟩
  have HW2 : Hid (w1.alloc (.cells #[.int .i64 (S.pg : Int), .int .i64 (S.ps : Int)] 31) = w2) := hw2.symm
  have q2 : w2.heap[w1.heap.size]? = some (.cells #[.int .i64 (S.pg : Int), .int .i64 (S.ps : Int)] 31 (0, 0)) := by rw [hw2]; exact heap_alloc_new _ _
  have b2 : Below w.heap.size w w2 := by rw [hw2]; exact b1.alloc (by have := b1.size; omega) _
  have d0 := two_cell0 q2
  have d1 := two_cell1 q2
  have c5 := (HP.out.old b2).wr.c5
  have hlt : s < w1.heap.size := (HP.out.old b1).wr.lt.2.1
  clear hw2 c0
  go_wp2_with fail
  rw [HW2.out]
  go_quiet (fail)
  go_wp2_with fail
  go_ret
  exact ⟨rfl, below_drewN21 b2 _⟩
theorem info_u8z22 : (Try.prog.info? 5).map (fun i => (i.zero, i.size, i.bytes)) = some (some (.int .u8 0), 1, 1) := by kernel_rfl
theorem made_zeros22 (n : Nat) : madeCells #[.int .u8 0] n = ((List.replicate n (0 : Int)).map (Value.int .u8)).toArray := by
  apply Array.toList_inj.1
  rw [toList_madeCells_one]
  simp
theorem run_make22 (n : Nat) (h : n ≤ 281474976710656) (w : World) :
    (Instr.makeSlice 22 (.int .i64 (n : Int)) (.int .i64 (n : Int))).run Try.prog w = .ok (.slice (some ⟨w.heap.size, 0, none⟩) n n) (w.alloc (.cells ((List.replicate n (0 : Int)).map (Value.int .u8)).toArray 5)) := by
  rw [← made_zeros22]
  exact run_make_row' 22 5 (.int .u8 0) 1 Try.underlying22 info_u8z22 rfl .i64 .i64 n (by omega) (by omega) w
theorem flds22 (p q : Int) (W : World) : (Instr.field 31 (.agg #[.int .i64 p, .int .i64 q]) 0).run Try.prog W = .ok (.int .i64 p) W := by kernel_rfl
/-- What New leaves. -/
def Nw22 (w w' : World) (b : Nat) (F : Nat → Prop) (S : Fs21) (e : Ending) : Prop := ∃ v s g, e = .returned (.tuple #[.pointer (some ⟨v, 0, none⟩), .int .i64 0]) ∧ Pe22 w' v s g b F S ⟨1 - S.ac, [], 0, 0, 0⟩ ∧ Below w.heap.size w w' ∧ w.heap.size ≤ v ∧ w.heap.size ≤ s ∧ w.heap.size ≤ g
set_option maxRecDepth 100000 in
set_option maxHeartbeats 4000000 in
theorem pnw22 (hF : Fl21 w b F S) (hO : Ok21 S) : Calls Try.prog 20 #[.pointer (some ⟨b, 0, none⟩)] w fun e w' => Nw22 w w' b F S e := by
  have HS := pshp22 hF hO
  have hpg := hO.pg
  have HF : Hid (Fl21 w b F S) := hF
  have hfd := flds22 (S.pg : Int) (S.ps : Int)
  have p0' : ((S.pg : Int) == 0) = false := by simp; omega
  have HAC : Hid (∀ W : World, Below w.heap.size w W → Calls Try.prog 46 #[.pointer (some ⟨b, 0, none⟩)] W fun e w' => e = .returned (.int .i64 S.ac) ∧ w' = W) := fun W hW => pact22 (hF.old hW) hO
  have HMK : ∀ W : World, (Instr.makeSlice 22 (.int .i64 (S.pg : Int)) (.int .i64 (S.pg : Int))).run Try.prog W = .ok (.slice (some ⟨W.heap.size, 0, none⟩) S.pg S.pg) (W.alloc (.cells ((List.replicate S.pg (0 : Int)).map (Value.int .u8)).toArray 5)) := fun W => run_make22 S.pg (by omega) W
  have hac : IntKind.i64.wrap (1 - S.ac) = 1 - S.ac := by rw [IntWalk.i64_in _ (by have := hO.ac; omega)]
  have HROW : Hid (∀ (w1 w3 : World), Below w.heap.size w w1 → w3.heap = (((w1.alloc (.cells ((List.replicate S.pg (0 : Int)).map (Value.int .u8)).toArray 5)).alloc (.cells #[.pointer (some ⟨b, 0, none⟩), .int .i64 (1 - S.ac), .slice (some ⟨w1.heap.size, 0, none⟩) S.pg S.pg, .int .i64 0, .int .i64 0, .int .i64 0, .int .i64 0] 106)).alloc (.cells #[.pointer (some ⟨w1.heap.size + 1, 0, none⟩)] 108)).heap → w3.os = w1.os → w3.tape = w1.tape → w3.output = w1.output →
      Nw22 w w3 b F S (.returned (.tuple #[.pointer (some ⟨w1.heap.size + 2, 0, none⟩), .int .i64 0]))) := fun w1 w3 b1 hh h1 h2 h3 => by
    have hz := b1.size
    have e0 : w3.heap[w1.heap.size]? = some (.cells ((List.replicate S.pg (0 : Int)).map (Value.int .u8)).toArray 5 (0, 0)) := by
      rw [hh, heap_alloc_old _ _ (by simp; omega), heap_alloc_old _ _ (by simp)]; exact heap_alloc_new _ _
    have e1 : w3.heap[w1.heap.size + 1]? = some (.cells #[.pointer (some ⟨b, 0, none⟩), .int .i64 (1 - S.ac), .slice (some ⟨w1.heap.size, 0, none⟩) S.pg S.pg, .int .i64 0, .int .i64 0, .int .i64 0, .int .i64 0] 106 (0, 0)) := by
      rw [hh, heap_alloc_old _ _ (by simp)]; exact heap_alloc2_new _ _ _
    have e2 : w3.heap[w1.heap.size + 2]? = some (.cells #[.pointer (some ⟨w1.heap.size + 1, 0, none⟩)] 108 (0, 0)) := by
      rw [hh]
      have e : ((w1.alloc (.cells ((List.replicate S.pg (0 : Int)).map (Value.int .u8)).toArray 5)).alloc (.cells #[.pointer (some ⟨b, 0, none⟩), .int .i64 (1 - S.ac), .slice (some ⟨w1.heap.size, 0, none⟩) S.pg S.pg, .int .i64 0, .int .i64 0, .int .i64 0, .int .i64 0] 106)).heap.size = w1.heap.size + 2 := by simp
      rw [← e]; exact heap_alloc_new _ _
    have bb : Below w.heap.size w w3 := by
      have b3 := ((b1.alloc hz (.cells ((List.replicate S.pg (0 : Int)).map (Value.int .u8)).toArray 5)).alloc (by simp; omega) (.cells #[.pointer (some ⟨b, 0, none⟩), .int .i64 (1 - S.ac), .slice (some ⟨w1.heap.size, 0, none⟩) S.pg S.pg, .int .i64 0, .int .i64 0, .int .i64 0, .int .i64 0] 106)).alloc (by simp; omega) (.cells #[.pointer (some ⟨w1.heap.size + 1, 0, none⟩)] 108)
      exact ⟨h1.trans b1.os, h2.trans b1.tape, h3.trans b1.output, by rw [hh]; exact b3.size, fun k hk => by rw [hh]; exact b3.block k hk⟩
    have hn : ∀ k, F k → k < w.heap.size := by
      obtain ⟨m, c, f, ta, tc, la, lc, V, h1, h2, h3, h4, h5, h6⟩ := HF.out
      exact h6
    refine ⟨w1.heap.size + 2, w1.heap.size + 1, w1.heap.size, rfl, ⟨HF.out.old bb, ⟨e2, e1, List.replicate S.pg 0, by simpa using e0, by simp, ?_⟩, ?_, ?_, ?_⟩, bb, by omega, by omega, by omega⟩
    · intro y hy
      have : y = 0 := by simpa using (List.mem_replicate.1 (by simpa using hy)).2
      subst this; decide
    · intro e; have := hn _ e; omega
    · intro e; have := hn _ e; omega
    · intro e; have := hn _ e; omega
  clear hF
  go_enter Try.func20, Try.ntmps20
  go_wp2_with fail
  refine HS.mono ?_
  rintro e w1 ⟨rfl, b1⟩
  have r0 : Below w.heap.size w w1.drew := b1.drew
  have r1 : ∀ o, Below w.heap.size w (w1.alloc o).drew := fun o => (b1.alloc b1.size o).drew
  have r2 : ∀ o, Below w.heap.size w (w1.drew.alloc o) := fun o => (b1.drew.alloc b1.size o)
  go_wp2_with fail
  go_region_held3 (fun _ => True) (trivial)
    (first | (go_at_call 46; refine (HAC.out _ (by first | exact r0 | exact r1 _ | exact r2 _)).mono ?_; rintro e9 w9 ⟨rfl, h9⟩; subst w9))
  all_goals
    go_wp2_with fail
    go_ret2
    exact HROW.out w1 _ b1 (by first | rfl | (simp; done) | (simp only [List.map_replicate, List.toArray_replicate]; rfl)) rfl rfl rfl
end
end Go.Proofs.Ythefcmhmcgjcoaa

namespace Go.Proofs.Ythefcmhmcgjcoaa
open Go.RowKit Go.Shelf
set_option linter.unusedVariables false
set_option linter.unusedSimpArgs false

/-! The landed page: lay. -/
def lyE22 (S : Fs21) (P : Pw22) : Int := if erE21 S P.ar (P.pn : Int) ≠ 0 then erE21 S P.ar (P.pn : Int) else pgE21 (erS21 S P.ar (P.pn : Int)) P.ar (P.pn : Int) P.bf.length
def lyS22 (S : Fs21) (P : Pw22) : Fs21 := if erE21 S P.ar (P.pn : Int) ≠ 0 then erS21 S P.ar (P.pn : Int) else pgS21 (erS21 S P.ar (P.pn : Int)) P.ar (P.pn : Int) P.bf
def lyP22 (S : Fs21) (P : Pw22) : Pw22 := if lyE22 S P ≠ 0 then { P with cl := lyE22 S P } else { P with pn := P.pn + 1, bf := [] }
theorem rn21_pg (S : Fs21) (kd x y : Int) (nn : Sh21) : (rn21 S kd x y nn).pg = S.pg ∧ (rn21 S kd x y nn).ps = S.ps ∧ (rn21 S kd x y nn).ac = S.ac ∧ (rn21 S kd x y nn).lm = S.lm ∧ (rn21 S kd x y nn).lg.length = S.lg.length + 1 := by
  unfold rn21; split <;> simp [cu21, go21]
theorem erS21_pg (S : Fs21) (x y : Int) : (erS21 S x y).pg = S.pg ∧ (erS21 S x y).ps = S.ps ∧ (erS21 S x y).ac = S.ac ∧ (erS21 S x y).lm = S.lm ∧ (erS21 S x y).lg.length ≤ S.lg.length + 1 := by
  unfold erS21
  split
  · exact ⟨rfl, rfl, rfl, rfl, by omega⟩
  · split
    · exact ⟨rfl, rfl, rfl, rfl, by omega⟩
    · have := rn21_pg S 1 x y ⟨[], true, (sh21 S x y).wr + 1⟩
      exact ⟨this.1, this.2.1, this.2.2.1, this.2.2.2.1, by omega⟩
theorem pgS21_pg (S : Fs21) (x y : Int) (L : List Int) : (pgS21 S x y L).pg = S.pg ∧ (pgS21 S x y L).ps = S.ps ∧ (pgS21 S x y L).ac = S.ac ∧ (pgS21 S x y L).lm = S.lm ∧ (pgS21 S x y L).lg.length ≤ S.lg.length + 1 := by
  unfold pgS21
  split
  · exact ⟨rfl, rfl, rfl, rfl, by omega⟩
  · split
    · exact ⟨rfl, rfl, rfl, rfl, by omega⟩
    · split
      · exact ⟨rfl, rfl, rfl, rfl, by omega⟩
      · have := rn21_pg S 2 x y ⟨L, false, (sh21 S x y).wr⟩
        exact ⟨this.1, this.2.1, this.2.2.1, this.2.2.2.1, by omega⟩
theorem lyS22_pg (S : Fs21) (P : Pw22) : (lyS22 S P).pg = S.pg ∧ (lyS22 S P).ps = S.ps ∧ (lyS22 S P).ac = S.ac ∧ (lyS22 S P).lm = S.lm ∧ (lyS22 S P).lg.length ≤ S.lg.length + 2 := by
  have h1 := erS21_pg S P.ar P.pn
  have h2 := pgS21_pg (erS21 S P.ar P.pn) P.ar P.pn P.bf
  unfold lyS22
  split
  · exact ⟨h1.1, h1.2.1, h1.2.2.1, h1.2.2.2.1, by omega⟩
  · exact ⟨h2.1.trans h1.1, h2.2.1.trans h1.2.1, h2.2.2.1.trans h1.2.2.1, h2.2.2.2.1.trans h1.2.2.2.1, by omega⟩
theorem ok22_ly {S : Fs21} (h : Ok21 S) (P : Pw22) : Ok21 (lyS22 S P) := by
  unfold lyS22
  split
  · exact ok21_er h _ _
  · exact ok21_pg (ok21_er h _ _) _ _ _
section
variable {w w' : World} {v s g b pg : Nat} {F : Nat → Prop} {S : Fs21} {P P' : Pw22}
theorem seg_bf22 (h : Wr22 w v s g b pg P) : Seg w (some ⟨g, 0, none⟩) P.bf := by
  obtain ⟨Y, h1, h2, h3⟩ := h.hg
  have := (seg_row21 h1 h3).take P.bf.length
  simpa using this
set_option maxRecDepth 100000 in
set_option maxHeartbeats 8000000 in
theorem play22 (h : Pe22 w v s g b F S P) (hO : Ok21 S) (ha : In21 P.ar) (hp : P.pn ≤ 1099511627776) (hlg : S.lg.length ≤ 4398046510000) :
    Calls Try.prog 61 #[.pointer (some ⟨s, 0, none⟩)] w fun e w' => e = .returned (.int .i64 (lyE22 S P)) ∧ Pn22 w w' v s g b F (lyS22 S P) (lyP22 S P) := by
  have HP : Hid (Pe22 w v s g b F S P) := h
  have hpn : In21 (P.pn : Int) := ⟨by omega, by omega⟩
  have hO1 := ok21_er hO P.ar (P.pn : Int)
  have hp1 := erS21_pg S P.ar (P.pn : Int)
  have hbl : P.bf.length ≤ S.pg := by obtain ⟨Y, _, h2, _⟩ := h.wr.hg; omega
  have hpgl := hO.pg
  have hslt := h.wr.lt
  have HER : Hid (∀ W : World, Below w.heap.size w W → Calls Try.prog 11 #[.pointer (some ⟨b, 0, none⟩), .int .i64 P.ar, .int .i64 (P.pn : Int)] W fun e w' => e = .returned (.int .i64 (erE21 S P.ar (P.pn : Int))) ∧ Pn22 w w' v s g b F (erS21 S P.ar (P.pn : Int)) P) := fun W hW => (perase21 (h.fl.old hW) hO P.ar (P.pn : Int) ha hpn (by omega)).mono (by
    rintro e w' ⟨rfl, hn⟩
    exact ⟨rfl, ((h.old hW).flash hn hp1.1).from hW⟩)
  have HC : Hid (∀ (W : World) (F' : Nat → Prop) (S' : Fs21), Pe22 W v s g b F' S' P → S'.pg = S.pg → W.cell? ⟨s, 0, none⟩ = some (.pointer (some ⟨b, 0, none⟩)) ∧ W.cell? ⟨s, 1, none⟩ = some (.int .i64 P.ar) ∧ W.cell? ⟨s, 2, none⟩ = some (.slice (some ⟨g, 0, none⟩) S.pg S.pg) ∧ W.cell? ⟨s, 3, none⟩ = some (.int .i64 (P.bf.length : Int)) ∧ W.cell? ⟨s, 4, none⟩ = some (.int .i64 (P.pn : Int))) := fun W F' S' q e => ⟨q.wr.c0, q.wr.c1, by rw [← e]; exact q.wr.c2, q.wr.c3, q.wr.c4⟩
  have hE1 : Hid (lyE22 S P = if erE21 S P.ar (P.pn : Int) ≠ 0 then erE21 S P.ar (P.pn : Int) else pgE21 (erS21 S P.ar (P.pn : Int)) P.ar (P.pn : Int) P.bf.length) := rfl
  have hS1 : Hid (lyS22 S P = if erE21 S P.ar (P.pn : Int) ≠ 0 then erS21 S P.ar (P.pn : Int) else pgS21 (erS21 S P.ar (P.pn : Int)) P.ar (P.pn : Int) P.bf) := rfl
  have hP1 : Hid (lyP22 S P = if lyE22 S P ≠ 0 then { P with cl := lyE22 S P } else { P with pn := P.pn + 1, bf := [] }) := rfl
  have HPR : Hid (∀ (W : World) (F' : Nat → Prop), Pe22 W v s g b F' (erS21 S P.ar (P.pn : Int)) P → Calls Try.prog 12 #[.pointer (some ⟨b, 0, none⟩), .int .i64 P.ar, .int .i64 (P.pn : Int), .slice (some ⟨g, 0, none⟩) P.bf.length S.pg] W fun e w' => e = .returned (.int .i64 (pgE21 (erS21 S P.ar (P.pn : Int)) P.ar (P.pn : Int) P.bf.length)) ∧ Pn22 W w' v s g b F' (pgS21 (erS21 S P.ar (P.pn : Int)) P.ar (P.pn : Int) P.bf) P) := fun W F' q => (pprog21 q.fl hO1 P.ar (P.pn : Int) ha hpn (by omega) (some ⟨g, 0, none⟩) P.bf P.bf.length S.pg (seg_bf22 q.wr) rfl (by intro h; cases h)).mono (by
    rintro e w' ⟨rfl, hn⟩
    exact ⟨rfl, q.flash hn (pgS21_pg _ _ _ _).1⟩)
  have c0 : w.drew.cell? ⟨s, 0, none⟩ = some (.pointer (some ⟨b, 0, none⟩)) := h.wr.c0
  have c1 : w.drew.cell? ⟨s, 1, none⟩ = some (.int .i64 P.ar) := h.wr.c1
  have c4 : w.drew.cell? ⟨s, 4, none⟩ = some (.int .i64 (P.pn : Int)) := h.wr.c4
  have HB : Hid (Below w.heap.size w w.drew) := (Below.refl _ _).drew
  have HP1 : Hid (((erS21 S P.ar (P.pn : Int)).pg = S.pg)) := hp1.1
  have HP2 : Hid ((pgS21 (erS21 S P.ar (P.pn : Int)) P.ar (P.pn : Int) P.bf).pg = (erS21 S P.ar (P.pn : Int)).pg) := (pgS21_pg _ _ _ _).1
  rw [hP1.out, hS1.out, hE1.out]
  clear h hO1 hp1 hE1 hS1 hP1
  generalize erE21 S P.ar (P.pn : Int) = E1 at *
  generalize hgp : pgE21 (erS21 S P.ar (P.pn : Int)) P.ar (P.pn : Int) P.bf.length = E2 at *
  generalize hgs : pgS21 (erS21 S P.ar (P.pn : Int)) P.ar (P.pn : Int) P.bf = S2 at *
  clear hgp hgs
  generalize erS21 S P.ar (P.pn : Int) = S1 at *
  obtain ⟨BL, hBL⟩ : ∃ BL, BL = P.bf.length := ⟨_, rfl⟩
  rw [← hBL] at HC HPR hbl
  have hblI : (BL : Int) ≤ (S.pg : Int) := by omega
  have hwp : IntKind.i64.wrap ((P.pn : Int) + 1) = ((P.pn + 1 : Nat) : Int) := by rw [IntWalk.i64_in _ (by omega)]; omega
  clear hBL
  by_cases hE : E1 = 0
  · subst hE
    rw [if_neg (show ¬ ((0 : Int) ≠ 0) by simp), if_neg (show ¬ ((0 : Int) ≠ 0) by simp)]
    by_cases hE2 : E2 = 0
    · subst hE2
      rw [if_neg (show ¬ ((0 : Int) ≠ 0) by simp)]
      go_enter Try.func61, Try.ntmps61
      go_wp2_with fail
      go_region_held3 (fun V => V.cell? ⟨s, 0, none⟩ = some (.pointer (some ⟨b, 0, none⟩)) ∧ V.cell? ⟨s, 1, none⟩ = some (.int .i64 P.ar) ∧ V.cell? ⟨s, 4, none⟩ = some (.int .i64 (P.pn : Int))) (first | exact ⟨c0, c1, c4⟩ | exact k1 | go_keep)
        (first | (go_at_call 11; refine (HER.out _ HB.out).mono ?_; rintro e1 w1 ⟨rfl, hn1⟩; have k1 : w1.cell? ⟨s, 0, none⟩ = some (.pointer (some ⟨b, 0, none⟩)) ∧ w1.cell? ⟨s, 1, none⟩ = some (.int .i64 P.ar) ∧ w1.cell? ⟨s, 4, none⟩ = some (.int .i64 (P.pn : Int)) := by obtain ⟨F', q, _⟩ := hn1; have := HC.out w1 F' S1 q HP1.out; exact ⟨this.1, this.2.1, this.2.2.2.2⟩))
      obtain ⟨F1, q1, f1, kk1⟩ := hn1
      have HN1 : Hid (Pn22 w w1 v s g b F S1 P) := ⟨F1, q1, f1, kk1⟩
      have HQ1 : Hid (Pe22 w1 v s g b F1 S1 P) := q1
      have HF1 : Hid ((∀ k, F1 k → F k ∨ w.heap.size ≤ k) ∧ Kp (fun k => F k ∨ k = s ∨ k = g) w w1) := ⟨f1, kk1⟩
      clear k1 c0 c1 c4 f1 kk1
      have HC1 := HC.out w1.drew F1 S1 (q1.old (Below.refl _ _).drew) HP1.out
      obtain ⟨d0, d1, d2, d3, d4⟩ := HC1
      have HB1 : Hid (Pe22 w1.drew v s g b F1 S1 P) := q1.old (Below.refl _ _).drew
      clear q1
      go_wp2_with fail
      go_region_held3 (fun V => V.cell? ⟨s, 0, none⟩ = some (.pointer (some ⟨b, 0, none⟩)) ∧ V.cell? ⟨s, 1, none⟩ = some (.int .i64 P.ar) ∧ V.cell? ⟨s, 2, none⟩ = some (.slice (some ⟨g, 0, none⟩) S.pg S.pg) ∧ V.cell? ⟨s, 3, none⟩ = some (.int .i64 (BL : Int)) ∧ V.cell? ⟨s, 4, none⟩ = some (.int .i64 (P.pn : Int))) (first | exact ⟨d0, d1, d2, d3, d4⟩ | exact k2 | go_keep)
        (first | (go_at_call 12; refine (HPR.out _ F1 HB1.out).mono ?_; rintro e2 w2 ⟨rfl, hn2⟩; have k2 : w2.cell? ⟨s, 0, none⟩ = some (.pointer (some ⟨b, 0, none⟩)) ∧ w2.cell? ⟨s, 1, none⟩ = some (.int .i64 P.ar) ∧ w2.cell? ⟨s, 2, none⟩ = some (.slice (some ⟨g, 0, none⟩) S.pg S.pg) ∧ w2.cell? ⟨s, 3, none⟩ = some (.int .i64 (BL : Int)) ∧ w2.cell? ⟨s, 4, none⟩ = some (.int .i64 (P.pn : Int)) := (by obtain ⟨F', q, _⟩ := hn2; exact HC.out w2 F' S2 q (HP2.out.trans HP1.out))))
      have HN2 : Hid (Pn22 w1 w2 v s g b F1 S2 P) := hn2.from (Below.refl _ _).drew
      obtain ⟨F2, q2, f2, kk2⟩ := HN2.out
      have HQ2 : Hid (Pe22 w2 v s g b F2 S2 P) := q2
      obtain ⟨x0, x1, x2, x3, x4⟩ := k2
      have y3 := q2.wr.fr 3
      have y4 := q2.wr.fr 4
      have y6 := q2.wr.fr 6
      have x6 := q2.wr.c6
      have HF2 : Hid ((∀ k, F2 k → F1 k ∨ w1.heap.size ≤ k) ∧ Kp (fun k => F1 k ∨ k = s ∨ k = g) w1 w2) := ⟨f2, kk2⟩
      have hk2 : Hid (s < w.heap.size ∧ g < w.heap.size ∧ s < w1.heap.size ∧ g < w1.heap.size) := ⟨hslt.2.1, hslt.2.2, HQ1.out.wr.lt.2.1, HQ1.out.wr.lt.2.2⟩
      clear q2 f2 kk2 d0 d1 d2 d3 d4
      go_wp2_with fail
      go_ret
      refine ⟨rfl, ?_⟩
      exact Pn22.cons HF1.out.1 HF1.out.2 (Pn22.cons HF2.out.1 HF2.out.2 (HQ2.out.put ((Kp.set (.inl rfl) _).trans (Kp.set (.inl rfl) _) (fun _ _ e => e)) (HQ2.out.wr.setP (P.pn + 1)).setH))
    · have hE2' : (E2 == 0) = false := by simp [hE2]
      rw [if_pos hE2]
      go_enter Try.func61, Try.ntmps61
      go_wp2_with fail
      go_region_held3 (fun V => V.cell? ⟨s, 0, none⟩ = some (.pointer (some ⟨b, 0, none⟩)) ∧ V.cell? ⟨s, 1, none⟩ = some (.int .i64 P.ar) ∧ V.cell? ⟨s, 4, none⟩ = some (.int .i64 (P.pn : Int))) (first | exact ⟨c0, c1, c4⟩ | exact k1 | go_keep)
        (first | (go_at_call 11; refine (HER.out _ HB.out).mono ?_; rintro e1 w1 ⟨rfl, hn1⟩; have k1 : w1.cell? ⟨s, 0, none⟩ = some (.pointer (some ⟨b, 0, none⟩)) ∧ w1.cell? ⟨s, 1, none⟩ = some (.int .i64 P.ar) ∧ w1.cell? ⟨s, 4, none⟩ = some (.int .i64 (P.pn : Int)) := by obtain ⟨F', q, _⟩ := hn1; have := HC.out w1 F' S1 q HP1.out; exact ⟨this.1, this.2.1, this.2.2.2.2⟩))
      obtain ⟨F1, q1, f1, kk1⟩ := hn1
      have HN1 : Hid (Pn22 w w1 v s g b F S1 P) := ⟨F1, q1, f1, kk1⟩
      have HQ1 : Hid (Pe22 w1 v s g b F1 S1 P) := q1
      have HF1 : Hid ((∀ k, F1 k → F k ∨ w.heap.size ≤ k) ∧ Kp (fun k => F k ∨ k = s ∨ k = g) w w1) := ⟨f1, kk1⟩
      clear k1 c0 c1 c4 f1 kk1
      have HC1 := HC.out w1.drew F1 S1 (q1.old (Below.refl _ _).drew) HP1.out
      obtain ⟨d0, d1, d2, d3, d4⟩ := HC1
      have HB1 : Hid (Pe22 w1.drew v s g b F1 S1 P) := q1.old (Below.refl _ _).drew
      clear q1
      go_wp2_with fail
      go_region_held3 (fun V => V.cell? ⟨s, 0, none⟩ = some (.pointer (some ⟨b, 0, none⟩)) ∧ V.cell? ⟨s, 1, none⟩ = some (.int .i64 P.ar) ∧ V.cell? ⟨s, 2, none⟩ = some (.slice (some ⟨g, 0, none⟩) S.pg S.pg) ∧ V.cell? ⟨s, 3, none⟩ = some (.int .i64 (BL : Int)) ∧ V.cell? ⟨s, 4, none⟩ = some (.int .i64 (P.pn : Int))) (first | exact ⟨d0, d1, d2, d3, d4⟩ | exact k2 | go_keep)
        (first | (go_at_call 12; refine (HPR.out _ F1 HB1.out).mono ?_; rintro e2 w2 ⟨rfl, hn2⟩; have k2 : w2.cell? ⟨s, 0, none⟩ = some (.pointer (some ⟨b, 0, none⟩)) ∧ w2.cell? ⟨s, 1, none⟩ = some (.int .i64 P.ar) ∧ w2.cell? ⟨s, 2, none⟩ = some (.slice (some ⟨g, 0, none⟩) S.pg S.pg) ∧ w2.cell? ⟨s, 3, none⟩ = some (.int .i64 (BL : Int)) ∧ w2.cell? ⟨s, 4, none⟩ = some (.int .i64 (P.pn : Int)) := (by obtain ⟨F', q, _⟩ := hn2; exact HC.out w2 F' S2 q (HP2.out.trans HP1.out))))
      have HN2 : Hid (Pn22 w1 w2 v s g b F1 S2 P) := hn2.from (Below.refl _ _).drew
      obtain ⟨F2, q2, f2, kk2⟩ := HN2.out
      have HQ2 : Hid (Pe22 w2 v s g b F2 S2 P) := q2
      obtain ⟨x0, x1, x2, x3, x4⟩ := k2
      have y3 := q2.wr.fr 3
      have y4 := q2.wr.fr 4
      have y6 := q2.wr.fr 6
      have x6 := q2.wr.c6
      have HF2 : Hid ((∀ k, F2 k → F1 k ∨ w1.heap.size ≤ k) ∧ Kp (fun k => F1 k ∨ k = s ∨ k = g) w1 w2) := ⟨f2, kk2⟩
      have hk2 : Hid (s < w.heap.size ∧ g < w.heap.size ∧ s < w1.heap.size ∧ g < w1.heap.size) := ⟨hslt.2.1, hslt.2.2, HQ1.out.wr.lt.2.1, HQ1.out.wr.lt.2.2⟩
      clear q2 f2 kk2 d0 d1 d2 d3 d4
      go_wp2_with fail
      go_ret
      exact ⟨rfl, Pn22.cons HF1.out.1 HF1.out.2 (Pn22.cons HF2.out.1 HF2.out.2 (HQ2.out.put (Kp.set (.inl rfl) _) (HQ2.out.wr.setC E2)))⟩
  · have hE' : (E1 == 0) = false := by simp [hE]
    rw [if_pos (show E1 ≠ 0 from hE), if_pos (show E1 ≠ 0 from hE), if_pos (show E1 ≠ 0 from hE)]
    go_enter Try.func61, Try.ntmps61
    go_wp2_with fail
    go_region_held3 (fun V => V.cell? ⟨s, 0, none⟩ = some (.pointer (some ⟨b, 0, none⟩)) ∧ V.cell? ⟨s, 1, none⟩ = some (.int .i64 P.ar) ∧ V.cell? ⟨s, 4, none⟩ = some (.int .i64 (P.pn : Int))) (first | exact ⟨c0, c1, c4⟩ | exact k1 | go_keep)
      (first | (go_at_call 11; refine (HER.out _ HB.out).mono ?_; rintro e1 w1 ⟨rfl, hn1⟩; have k1 : w1.cell? ⟨s, 0, none⟩ = some (.pointer (some ⟨b, 0, none⟩)) ∧ w1.cell? ⟨s, 1, none⟩ = some (.int .i64 P.ar) ∧ w1.cell? ⟨s, 4, none⟩ = some (.int .i64 (P.pn : Int)) := by obtain ⟨F', q, _⟩ := hn1; have := HC.out w1 F' S1 q HP1.out; exact ⟨this.1, this.2.1, this.2.2.2.2⟩))
    obtain ⟨F1, q1, f1, kk1⟩ := hn1
    have HN1 : Hid (Pn22 w w1 v s g b F S1 P) := ⟨F1, q1, f1, kk1⟩
    have HQ1 : Hid (Pe22 w1 v s g b F1 S1 P) := q1
    have HF1 : Hid ((∀ k, F1 k → F k ∨ w.heap.size ≤ k) ∧ Kp (fun k => F k ∨ k = s ∨ k = g) w w1) := ⟨f1, kk1⟩
    clear k1 c0 c1 c4 f1 kk1
    have y6 := q1.wr.fr 6
    have x6 := q1.wr.c6
    clear q1
    go_wp2_with fail
    go_ret
    exact ⟨rfl, Pn22.cons HF1.out.1 HF1.out.2 (HQ1.out.put (Kp.set (.inl rfl) _) (HQ1.out.wr.setC E1))⟩
end
end Go.Proofs.Ythefcmhmcgjcoaa

namespace Go.Proofs.Ythefcmhmcgjcoaa
open Go.RowKit Go.Shelf
set_option linter.unusedVariables false
set_option linter.unusedSimpArgs false

/-! The document's page writer: its footprint; what flush leaves of it. -/
theorem rf22_not (on : Bool) (ps : Nat) (x y : Int) : rf21 on ps x y ≠ 221 := by
  unfold rf21 ms21
  repeat' split
  all_goals decide
theorem rc22_not (S : Fs21) : rc21 S ≠ 221 := by
  unfold rc21; split <;> decide
theorem erE22_not (S : Fs21) (x y : Int) : erE21 S x y ≠ 221 := by
  unfold erE21
  split
  · exact rf22_not _ _ _ _
  · split
    · decide
    · exact rc22_not _
theorem pgE22_not (S : Fs21) (x y : Int) (n : Nat) : pgE21 S x y n ≠ 221 := by
  unfold pgE21
  split
  · exact rf22_not _ _ _ _
  · split
    · decide
    · split
      · decide
      · exact rc22_not _
theorem lyE22_not (S : Fs21) (P : Pw22) : lyE22 S P ≠ 221 := by
  unfold lyE22
  split
  · exact erE22_not _ _ _
  · exact pgE22_not _ _ _ _
structure Rh22 (w : World) (u b : Nat) (G H : Nat → Prop) (ha : Option Addr) (hc : Nat) (S : Fs21) (P : Pw22) : Prop where
  fl : Rl21d w b G S
  wr : Rw22 w u b ha hc P
  nu : ¬ G u
  nh : ∀ k, (Value.slice ha P.bf.length hc).ownBlock = some k → ¬ G k
  gH : ∀ k, G k → H k
  uH : H u
  hH : ∀ k, (Value.slice ha P.bf.length hc).ownBlock = some k → H k
  lt : ∀ k, H k → k < w.heap.size
def Re22 (w : World) (u b : Nat) (H : Nat → Prop) (S : Fs21) (P : Pw22) : Prop := ∃ G ha hc, Rh22 w u b G H ha hc S P
def Ren22 (w w' : World) (u b : Nat) (H : Nat → Prop) (S' : Fs21) (P' : Pw22) : Prop := ∃ H', Re22 w' u b H' S' P' ∧ (∀ k, H' k → H k ∨ w.heap.size ≤ k) ∧ Kp H w w'
section
variable {w w' : World} {u b : Nat} {G H : Nat → Prop} {ha : Option Addr} {hc : Nat} {S S' : Fs21} {P P' : Pw22}
theorem Rw22.kp (h : Rw22 w u b ha hc P) (h1 : w'.heap[u]? = w.heap[u]?) (h2 : ∀ k, (Value.slice ha P.bf.length hc).ownBlock = some k → w'.heap[k]? = w.heap[k]?) : Rw22 w' u b ha hc P := by
  refine ⟨h1.trans h.hu, ⟨h.ow.1, ?_⟩, h.ne, h.bd⟩
  rcases h.ow.2 with q | ⟨q, cap, cur, q1, q2, q3, q4⟩
  · exact .inl q
  · exact .inr ⟨q, cap, cur, q1, q2, (h2 q (by rw [q1]; rfl)).trans q3, q4⟩
theorem Rw22.seg (h : Rw22 w u b ha hc P) : Seg w ha P.bf := by
  obtain ⟨-, a, cap, e, hs, -⟩ := own_seg h.ow (M := 255) (by decide) h.bd
  cases e
  exact hs
/-- What a call of the document's flash leaves of a writer over it. -/
theorem Rh22.flash (h : Rh22 w u b G H ha hc S P) (hn : Rn21 w w' b G S') : ∃ G' H', Rh22 w' u b G' H' ha hc S' P ∧ (∀ k, H' k → H k ∨ w.heap.size ≤ k) ∧ Kp H w w' := by
  obtain ⟨G', g1, g2, g3⟩ := hn
  have hul := h.lt u h.uH
  refine ⟨G', fun k => G' k ∨ k = u ∨ (Value.slice ha P.bf.length hc).ownBlock = some k, ⟨g1, h.wr.kp (g3.block u hul h.nu) (fun k e => g3.block k (h.lt k (h.hH k e)) (h.nh k e)), ?_, fun k e q => ?_, fun k e => .inl e, .inr (.inl rfl), fun k e => .inr (.inr e), ?_⟩, ?_, g3.mono (fun i _ e => h.gH i e)⟩
  · intro q
    rcases g2 u q with q | q
    · exact h.nu q
    · omega
  · rcases g2 k q with q | q
    · exact h.nh k e q
    · have := h.lt k (h.hH k e); omega
  · rintro k (e | rfl | e)
    · exact g1.lts k e
    · exact Nat.lt_of_lt_of_le hul g3.size
    · exact Nat.lt_of_lt_of_le (h.lt k (h.hH k e)) g3.size
  · rintro k (e | rfl | e)
    · rcases g2 k e with q | q
      · exact .inl (h.gH k q)
      · exact .inr q
    · exact .inl h.uH
    · exact .inl (h.hH k e)
end
end Go.Proofs.Ythefcmhmcgjcoaa

namespace Go.Proofs.Ythefcmhmcgjcoaa
open Go.RowKit Go.Shelf
set_option linter.unusedVariables false
set_option linter.unusedSimpArgs false

/-! The document's page writer: flush. -/
section
variable {w w' : World} {u b : Nat} {G H : Nat → Prop} {ha : Option Addr} {hc : Nat} {S S' : Fs21} {P P' : Pw22}
theorem own_tr22 {N n : Nat} {e : TypeId} {k : Nat} {v : Value} {xs : List Value} (h : w.ownsRow N e k v n xs) (hk : ∀ r, v.ownBlock = some r → w'.heap[r]? = w.heap[r]?) : w'.ownsRow N e k v n xs := by
  refine ⟨h.1, ?_⟩
  rcases h.2 with q | ⟨q, cap, cur, q1, q2, q3, q4⟩
  · exact .inl q
  · exact .inr ⟨q, cap, cur, q1, q2, (hk q (by rw [q1]; rfl)).trans q3, q4⟩
theorem Rw22.setF (h : Rw22 w u b ha hc P) (h0 : P.cl = 0) (x : Int) (hx : x ≠ 221) : Rw22 (w.setCell ⟨u, 5, none⟩ (.int .i64 x)) u b ha hc { P with cl := x } := by
  refine ⟨?_, own_tr22 h.ow (fun r hr => set_other22 w _ (h.ne r hr)), h.ne, h.bd⟩
  have q := (seven_set22 h.hu (.int .i64 x)).2.2.1
  have e1 : (if x = 221 then 0 else x) = x := if_neg hx
  have e2 : decide (P.cl = 221) = decide (x = 221) := by rw [h0]; simp [hx]
  rw [e2] at q
  show (w.setCell ⟨u, 5, none⟩ (.int .i64 x)).heap[u]? = some (.cells #[_, _, _, _, _, .int .i64 (if x = 221 then 0 else x), .bool (decide (x = 221))] _ _)
  rw [e1]
  exact q
theorem Rw22.setN (h : Rw22 w u b ha hc P) (n : Nat) : Rw22 ((w.setCell ⟨u, 4, none⟩ (.int .i64 (n : Int))).setCell ⟨u, 2, none⟩ (.slice none 0 0)) u b none 0 { P with pn := n, bf := [] } := by
  refine ⟨?_, World.ownsRow_nil _ _ _ _, fun k e => by simp [Value.ownBlock] at e, by simp⟩
  have q := (seven_set22 h.hu (.int .i64 (n : Int))).2.1
  simp [World.setCell, Array.getElem?_modify, h.hu]
theorem Rh22.fail (h : Rh22 w u b G H ha hc S P) (h0 : P.cl = 0) (x : Int) (hx : x ≠ 221) : Ren22 w (w.setCell ⟨u, 5, none⟩ (.int .i64 x)) u b H S { P with cl := x } := by
  have hk : Kp H w (w.setCell ⟨u, 5, none⟩ (.int .i64 x)) := Kp.set h.uH _
  refine ⟨H, ⟨G, ha, hc, ⟨h.fl.kp (fun k e => set_other22 w _ (fun q => h.nu (q ▸ e))) hk.size, h.wr.setF h0 x hx, h.nu, h.nh, h.gH, h.uH, h.hH, fun k e => Nat.lt_of_lt_of_le (h.lt k e) hk.size⟩⟩, fun _ e => .inl e, hk⟩
theorem Rh22.next (h : Rh22 w u b G H ha hc S P) (n : Nat) : Ren22 w ((w.setCell ⟨u, 4, none⟩ (.int .i64 (n : Int))).setCell ⟨u, 2, none⟩ (.slice none 0 0)) u b H S { P with pn := n, bf := [] } := by
  have hk : Kp H w ((w.setCell ⟨u, 4, none⟩ (.int .i64 (n : Int))).setCell ⟨u, 2, none⟩ (.slice none 0 0)) := (Kp.set h.uH _).trans (Kp.set h.uH _) (fun _ _ e => e)
  refine ⟨H, ⟨G, none, 0, ⟨h.fl.kp (fun k e => ?_) hk.size, h.wr.setN n, h.nu, fun k e => by simp [Value.ownBlock] at e, h.gH, h.uH, fun k e => by simp [Value.ownBlock] at e, fun k e => Nat.lt_of_lt_of_le (h.lt k e) hk.size⟩⟩, fun _ e => .inl e, hk⟩
  have hne : k ≠ u := fun q => h.nu (q ▸ e)
  rw [set_other22 _ _ hne, set_other22 _ _ hne]
theorem Ren22.cons {w1 w2 : World} {H1 : Nat → Prop} (f1 : ∀ k, H1 k → H k ∨ w.heap.size ≤ k) (k1 : Kp H w w1) (h : Ren22 w1 w2 u b H1 S' P') : Ren22 w w2 u b H S' P' := by
  obtain ⟨H2, h1, h2, h3⟩ := h
  refine ⟨H2, h1, fun k e => ?_, k1.trans h3 (fun i hi e => ?_)⟩
  · rcases h2 k e with q | q
    · exact f1 k q
    · exact .inr (Nat.le_trans k1.size q)
  · rcases f1 i e with q | q
    · exact q
    · omega
end
end Go.Proofs.Ythefcmhmcgjcoaa

namespace Go.Proofs.Ythefcmhmcgjcoaa
open Go.RowKit Go.Shelf
set_option linter.unusedVariables false
set_option linter.unusedSimpArgs false

/-! The document's page writer: flush, walked. -/
section
variable {w w' : World} {u b : Nat} {G H : Nat → Prop} {ha : Option Addr} {hc : Nat} {S S' : Fs21} {P P' : Pw22}
set_option maxRecDepth 100000 in
set_option maxHeartbeats 8000000 in
theorem rflu22 (h : Rh22 w u b G H ha hc S P) (hO : Ok21 S) (hcl : P.cl = 0) (har : In21 P.ar) (hp : P.pn ≤ 549755813888) (hlg : S.lg.length ≤ 2199023255552) :
    Calls Try.prog 52 #[.pointer (some ⟨u, 0, none⟩)] w fun e w' => e = .returned (.int .i64 (lyE22 S P)) ∧ Ren22 w w' u b H (lyS22 S P) (lyP22 S P) := by
  have HH : Hid (Rh22 w u b G H ha hc S P) := h
  have hpn : In21 (P.pn : Int) := ⟨by omega, by omega⟩
  have hO1 := ok21_er hO P.ar (P.pn : Int)
  have hp1 := erS21_pg S P.ar (P.pn : Int)
  have HER : Hid (∀ W : World, Below w.heap.size w W → Calls Try.prog 62 #[.pointer (some ⟨b, 0, none⟩), .int .i64 P.ar, .int .i64 (P.pn : Int)] W fun e w' => e = .returned (.int .i64 (erE21 S P.ar (P.pn : Int))) ∧ Rn21 w w' b G (erS21 S P.ar (P.pn : Int))) := fun W hW => (rers21 (h.fl.old hW) hO P.ar (P.pn : Int) har hpn (by omega)).mono (by
    rintro e w' ⟨rfl, hn⟩
    exact ⟨rfl, hn.from hW⟩)
  have HPR : Hid (∀ (W : World) (G' H' : Nat → Prop), Rh22 W u b G' H' ha hc (erS21 S P.ar (P.pn : Int)) P → Calls Try.prog 63 #[.pointer (some ⟨b, 0, none⟩), .int .i64 P.ar, .int .i64 (P.pn : Int), .slice ha P.bf.length hc] W.drew fun e w' => e = .returned (.int .i64 (pgE21 (erS21 S P.ar (P.pn : Int)) P.ar (P.pn : Int) P.bf.length)) ∧ Rn21 W w' b G' (pgS21 (erS21 S P.ar (P.pn : Int)) P.ar (P.pn : Int) P.bf)) := fun W G' H' q => (rprg21 (q.fl.old (Below.refl _ _).drew) hO1 P.ar (P.pn : Int) har hpn (by omega) ha P.bf P.bf.length hc q.wr.seg.drew rfl (fun x off e _ => q.nh x (by rw [e]; rfl))).mono (by
    rintro e w' ⟨rfl, hn⟩
    exact ⟨rfl, hn.from (Below.refl _ _).drew⟩)
  have HC : Hid (∀ (W : World), Rw22 W u b ha hc P → W.cell? ⟨u, 0, none⟩ = some (.pointer (some ⟨b, 0, none⟩)) ∧ W.cell? ⟨u, 1, none⟩ = some (.int .i64 P.ar) ∧ W.cell? ⟨u, 2, none⟩ = some (.slice ha P.bf.length hc) ∧ W.cell? ⟨u, 4, none⟩ = some (.int .i64 (P.pn : Int)) ∧ W.cell? ⟨u, 5, none⟩ = some (.int .i64 0) ∧ ∀ i, W.frozen? ⟨u, i, none⟩ = false) := fun W q => ⟨q.cel rfl, q.cel rfl, q.cel rfl, q.cel rfl, q.cel (by rw [hcl]; rfl), fun i => by simp [World.frozen?, q.hu]⟩
  have HE1 : Hid (lyE22 S P = if erE21 S P.ar (P.pn : Int) ≠ 0 then erE21 S P.ar (P.pn : Int) else pgE21 (erS21 S P.ar (P.pn : Int)) P.ar (P.pn : Int) P.bf.length) := rfl
  have HS1 : Hid (lyS22 S P = if erE21 S P.ar (P.pn : Int) ≠ 0 then erS21 S P.ar (P.pn : Int) else pgS21 (erS21 S P.ar (P.pn : Int)) P.ar (P.pn : Int) P.bf) := rfl
  have HP1 : Hid (lyP22 S P = if lyE22 S P ≠ 0 then { P with cl := lyE22 S P } else { P with pn := P.pn + 1, bf := [] }) := rfl
  have HX1 : Hid (erE21 S P.ar (P.pn : Int) ≠ 221) := erE22_not _ _ _
  have HX2 : Hid (pgE21 (erS21 S P.ar (P.pn : Int)) P.ar (P.pn : Int) P.bf.length ≠ 221) := pgE22_not _ _ _ _
  obtain ⟨c0, c1, -, c4, -, -⟩ := HC.out w.drew ⟨h.wr.hu, h.wr.ow.drew, h.wr.ne, h.wr.bd⟩
  have HB : Hid (Below w.heap.size w w.drew) := (Below.refl _ _).drew
  have HCL : Hid (P.cl = 0) := hcl
  rw [HP1.out, HS1.out, HE1.out]
  have hwp : IntKind.i64.wrap ((P.pn : Int) + 1) = ((P.pn + 1 : Nat) : Int) := by rw [IntWalk.i64_in _ (by omega)]; omega
  clear h hO hO1 hp1 HE1 HS1 HP1 hcl har hpn hlg
  generalize erE21 S P.ar (P.pn : Int) = E1 at *
  generalize hgp : pgE21 (erS21 S P.ar (P.pn : Int)) P.ar (P.pn : Int) P.bf.length = E2 at *
  generalize hgs : pgS21 (erS21 S P.ar (P.pn : Int)) P.ar (P.pn : Int) P.bf = S2 at *
  clear hgp hgs
  generalize erS21 S P.ar (P.pn : Int) = S1 at *
  obtain ⟨BL, hBL⟩ : ∃ BL, BL = P.bf.length := ⟨_, rfl⟩
  rw [← hBL] at HC HPR
  clear hBL
  have HK1 : Hid (∀ w1 : World, Rn21 w w1 b G S1 → w1.cell? ⟨u, 0, none⟩ = some (.pointer (some ⟨b, 0, none⟩)) ∧ w1.cell? ⟨u, 1, none⟩ = some (.int .i64 P.ar) ∧ w1.cell? ⟨u, 4, none⟩ = some (.int .i64 (P.pn : Int))) := fun w1 hn => by
    obtain ⟨G', H', q, _⟩ := HH.out.flash hn
    have := HC.out w1 q.wr
    exact ⟨this.1, this.2.1, this.2.2.2.1⟩
  by_cases hE : E1 = 0
  · subst hE
    rw [if_neg (show ¬ ((0 : Int) ≠ 0) by simp), if_neg (show ¬ ((0 : Int) ≠ 0) by simp)]
    by_cases hE2 : E2 = 0
    · subst hE2
      rw [if_neg (show ¬ ((0 : Int) ≠ 0) by simp)]
      go_enter Try.func52, Try.ntmps52
      go_wp2_with fail
      go_region_held3 (fun V => V.cell? ⟨u, 0, none⟩ = some (.pointer (some ⟨b, 0, none⟩)) ∧ V.cell? ⟨u, 1, none⟩ = some (.int .i64 P.ar) ∧ V.cell? ⟨u, 4, none⟩ = some (.int .i64 (P.pn : Int))) (first | exact ⟨c0, c1, c4⟩ | exact k1 | go_keep)
        (first | (go_at_call 62; refine (HER.out _ HB.out).mono ?_; rintro e1 w1 ⟨rfl, hn1⟩; have k1 := HK1.out w1 hn1))
      obtain ⟨G1, H1, q1, f1, kk1⟩ := HH.out.flash hn1
      have HQ1 : Hid (Rh22 w1 u b G1 H1 ha hc S1 P) := q1
      have HF1 : Hid ((∀ k, H1 k → H k ∨ w.heap.size ≤ k) ∧ Kp H w w1) := ⟨f1, kk1⟩
      obtain ⟨d0, d1, d2, d4, -, -⟩ := HC.out w1.drew ⟨q1.wr.hu, q1.wr.ow.drew, q1.wr.ne, q1.wr.bd⟩
      clear k1 c0 c1 c4 f1 kk1 q1 hn1
      have HK2 : Hid (∀ w2 : World, Rn21 w1 w2 b G1 S2 → w2.cell? ⟨u, 0, none⟩ = some (.pointer (some ⟨b, 0, none⟩)) ∧ w2.cell? ⟨u, 1, none⟩ = some (.int .i64 P.ar) ∧ w2.cell? ⟨u, 2, none⟩ = some (.slice ha BL hc) ∧ w2.cell? ⟨u, 4, none⟩ = some (.int .i64 (P.pn : Int))) := fun w2 hn => by
        obtain ⟨G', H', q, _⟩ := HQ1.out.flash hn
        have := HC.out w2 q.wr
        exact ⟨this.1, this.2.1, this.2.2.1, this.2.2.2.1⟩
      go_wp2_with fail
      go_region_held3 (fun V => V.cell? ⟨u, 0, none⟩ = some (.pointer (some ⟨b, 0, none⟩)) ∧ V.cell? ⟨u, 1, none⟩ = some (.int .i64 P.ar) ∧ V.cell? ⟨u, 2, none⟩ = some (.slice ha BL hc) ∧ V.cell? ⟨u, 4, none⟩ = some (.int .i64 (P.pn : Int))) (first | exact ⟨d0, d1, d2, d4⟩ | exact k2 | go_keep)
        (first | (go_at_call 63; refine (HPR.out w1 G1 H1 HQ1.out).mono ?_; rintro e2 w2 ⟨rfl, hn2⟩; have k2 := HK2.out w2 hn2))
      obtain ⟨G2, H2, q2, f2, kk2⟩ := HQ1.out.flash hn2
      have HQ2 : Hid (Rh22 w2 u b G2 H2 ha hc S2 P) := q2
      have HF2 : Hid ((∀ k, H2 k → H1 k ∨ w1.heap.size ≤ k) ∧ Kp H1 w1 w2) := ⟨f2, kk2⟩
      obtain ⟨x0, x1, x2, x4, x5, xf⟩ := HC.out w2 q2.wr
      have y2 := xf 2
      have y4 := xf 4
      have y5 := xf 5
      clear f2 kk2 q2 hn2 xf
      clear d0 d1 d2 d4 k2
      go_wp2_with fail
      go_ret
      exact ⟨rfl, Ren22.cons HF1.out.1 HF1.out.2 (Ren22.cons HF2.out.1 HF2.out.2 (HQ2.out.next (P.pn + 1)))⟩
    · have hE2' : (E2 == 0) = false := by simp [hE2]
      rw [if_pos hE2]
      go_enter Try.func52, Try.ntmps52
      go_wp2_with fail
      go_region_held3 (fun V => V.cell? ⟨u, 0, none⟩ = some (.pointer (some ⟨b, 0, none⟩)) ∧ V.cell? ⟨u, 1, none⟩ = some (.int .i64 P.ar) ∧ V.cell? ⟨u, 4, none⟩ = some (.int .i64 (P.pn : Int))) (first | exact ⟨c0, c1, c4⟩ | exact k1 | go_keep)
        (first | (go_at_call 62; refine (HER.out _ HB.out).mono ?_; rintro e1 w1 ⟨rfl, hn1⟩; have k1 := HK1.out w1 hn1))
      obtain ⟨G1, H1, q1, f1, kk1⟩ := HH.out.flash hn1
      have HQ1 : Hid (Rh22 w1 u b G1 H1 ha hc S1 P) := q1
      have HF1 : Hid ((∀ k, H1 k → H k ∨ w.heap.size ≤ k) ∧ Kp H w w1) := ⟨f1, kk1⟩
      obtain ⟨d0, d1, d2, d4, -, -⟩ := HC.out w1.drew ⟨q1.wr.hu, q1.wr.ow.drew, q1.wr.ne, q1.wr.bd⟩
      clear k1 c0 c1 c4 f1 kk1 q1 hn1
      have HK2 : Hid (∀ w2 : World, Rn21 w1 w2 b G1 S2 → w2.cell? ⟨u, 0, none⟩ = some (.pointer (some ⟨b, 0, none⟩)) ∧ w2.cell? ⟨u, 1, none⟩ = some (.int .i64 P.ar) ∧ w2.cell? ⟨u, 2, none⟩ = some (.slice ha BL hc) ∧ w2.cell? ⟨u, 4, none⟩ = some (.int .i64 (P.pn : Int))) := fun w2 hn => by
        obtain ⟨G', H', q, _⟩ := HQ1.out.flash hn
        have := HC.out w2 q.wr
        exact ⟨this.1, this.2.1, this.2.2.1, this.2.2.2.1⟩
      go_wp2_with fail
      go_region_held3 (fun V => V.cell? ⟨u, 0, none⟩ = some (.pointer (some ⟨b, 0, none⟩)) ∧ V.cell? ⟨u, 1, none⟩ = some (.int .i64 P.ar) ∧ V.cell? ⟨u, 2, none⟩ = some (.slice ha BL hc) ∧ V.cell? ⟨u, 4, none⟩ = some (.int .i64 (P.pn : Int))) (first | exact ⟨d0, d1, d2, d4⟩ | exact k2 | go_keep)
        (first | (go_at_call 63; refine (HPR.out w1 G1 H1 HQ1.out).mono ?_; rintro e2 w2 ⟨rfl, hn2⟩; have k2 := HK2.out w2 hn2))
      obtain ⟨G2, H2, q2, f2, kk2⟩ := HQ1.out.flash hn2
      have HQ2 : Hid (Rh22 w2 u b G2 H2 ha hc S2 P) := q2
      have HF2 : Hid ((∀ k, H2 k → H1 k ∨ w1.heap.size ≤ k) ∧ Kp H1 w1 w2) := ⟨f2, kk2⟩
      obtain ⟨x0, x1, x2, x4, x5, xf⟩ := HC.out w2 q2.wr
      have y2 := xf 2
      have y4 := xf 4
      have y5 := xf 5
      clear f2 kk2 q2 hn2 xf
      clear d0 d1 d2 d4 k2
      go_wp2_with fail
      go_ret
      exact ⟨rfl, Ren22.cons HF1.out.1 HF1.out.2 (Ren22.cons HF2.out.1 HF2.out.2 (HQ2.out.fail HCL.out E2 HX2.out))⟩
  · have hE' : (E1 == 0) = false := by simp [hE]
    rw [if_pos (show E1 ≠ 0 from hE), if_pos (show E1 ≠ 0 from hE), if_pos (show E1 ≠ 0 from hE)]
    go_enter Try.func52, Try.ntmps52
    go_wp2_with fail
    go_region_held3 (fun V => V.cell? ⟨u, 0, none⟩ = some (.pointer (some ⟨b, 0, none⟩)) ∧ V.cell? ⟨u, 1, none⟩ = some (.int .i64 P.ar) ∧ V.cell? ⟨u, 4, none⟩ = some (.int .i64 (P.pn : Int))) (first | exact ⟨c0, c1, c4⟩ | exact k1 | go_keep)
      (first | (go_at_call 62; refine (HER.out _ HB.out).mono ?_; rintro e1 w1 ⟨rfl, hn1⟩; have k1 := HK1.out w1 hn1))
    obtain ⟨G1, H1, q1, f1, kk1⟩ := HH.out.flash hn1
    have HQ1 : Hid (Rh22 w1 u b G1 H1 ha hc S1 P) := q1
    have HF1 : Hid ((∀ k, H1 k → H k ∨ w.heap.size ≤ k) ∧ Kp H w w1) := ⟨f1, kk1⟩
    obtain ⟨d0, d1, d2, d4, -, -⟩ := HC.out w1.drew ⟨q1.wr.hu, q1.wr.ow.drew, q1.wr.ne, q1.wr.bd⟩
    clear k1 c0 c1 c4 f1 kk1 q1 hn1
    obtain ⟨x0, x1, x2, x4, x5, xf⟩ := HC.out w1 HQ1.out.wr
    have y5 := xf 5
    clear xf d0 d1 d2 d4
    go_wp2_with fail
    go_ret
    exact ⟨rfl, Ren22.cons HF1.out.1 HF1.out.2 (HQ1.out.fail HCL.out E1 HX1.out)⟩
end
end Go.Proofs.Ythefcmhmcgjcoaa
