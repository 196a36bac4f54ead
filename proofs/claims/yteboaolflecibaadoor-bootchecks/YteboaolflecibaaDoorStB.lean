
import Derived.RangeFuncNested
import Derived.RangeFuncBound
import Derived.RangeFuncCalls
import Derived.RangeFuncLeaves
import Derived.Shelf.Abstract
import Derived.WalkKit
import Derived.OwnWalkIn
import Derived.TacticsInMore
import Derived.LoopNIn
import Derived.LoopIn
import Derived.Test.YteboaolflecibaaDoorProg
import Derived.Test.YteboaolflecibaaDoorBtMem
import Derived.StillTailTactics
import Derived.OrdersIn
import Derived.Test.YteboaolflecibaaDoorSeg
namespace Go.Proofs.YteboaolflecibaaDoor
open Go.RowKit
set_option linter.unusedVariables false
open Go.RowKit Go.Shelf

/-! A range over a function whose iterator keeps a state of its own in cells; the loop's body never leaves the loop. -/
/-- What is said of a world abides new blocks, and turns of cells that lie from block B on. -/
structure Abd14 {α : Type} (B : Nat) (J : List α → World → Prop) : Prop where
  old : ∀ s W W', J s W → Below W.heap.size W W' → J s W'
  set : ∀ s W r c t i v, B ≤ r → W.heap[r]? = some (.cells c t (0, 0)) → J s W → J s (W.setCell ⟨r, i, none⟩ v)
/-- An iterator: it tells a row that S says, one after the other. -/
def Seq14 {α : Type} (n : Nat) (P : Program) (g : Nat) (lb : Array Value) (encs : α → Array Value) (Kq : World → World → Prop) (S : List α → Prop) (N : Nat) (w : World) : Prop :=
  ∀ (l : Nat) (J : List α → World → Prop) (W : World), Below w.heap.size w W → Abd14 W.heap.size J →
    (∀ pre x W1, J pre W1 → pre.length < N → YieldAt Fence.wide (n - 1) P l (encs x) W1 fun e W' => e = .returned (.bool true) ∧ J (pre ++ [x]) W' ∧ Kq W1 W') →
    J [] W → CallsIn Fence.wide n P g (#[.func (.yield l) #[] #[]] ++ lb) W fun e W' => (∃ v, e = .returned v) ∧ ∃ xs, S xs ∧ J xs W'
/-- Cells lie as they lay. -/
def Cel14 (W W' : World) : Prop := W.heap.size = W'.heap.size ∧ ∀ (k : Nat) (o : Obj), W.heap[k]? = some o → o.isCells = true → W'.heap[k]? = some o
theorem put_cel14 {W : World} {l : Nat} {r : Loop} (o : Obj) (h : W.heap[l]? = some (.loop r)) : Cel14 W (W.putObj l o) := by
  refine ⟨by simp [World.putObj], fun k x hk hc => ?_⟩
  rw [World.putObj_heap_other (fun e => by subst e; rw [h] at hk; cases hk; cases hc)]
  exact hk
theorem range14 {α : Type} {P : Program} {n : Nat} {g : Operand} {ps : Array Tmp} {assign body : Code} {Q : Exit → Act → World → Prop} {a : Act} {w : World} (h1 : 1 ≤ n) {gf : Nat} {lb : Array Value} (hg : a.eval g = .func (.func gf) #[] lb) (eg : ∀ args w, (callFunc gf args).run P w = .ok (.enter gf args) w)
    {encs : α → Array Value} {Kq : World → World → Prop} {S : List α → Prop} {N : Nat} (hseq : Seq14 (n - 1) P gf lb encs Kq S N w)
    (hKt : ∀ {A B C : World}, Kq A B → Kq B C → Kq A C) (hKb : ∀ (W : World) (l : Nat) (o : Obj) (r : Loop), w.heap.size ≤ l → W.heap[l]? = some (.loop r) → Kq W (W.putObj l o)) (hps : ∀ x, (encs x).size = ps.size)
    (I : List α → World → Prop) (hI : Abd14 w.heap.size I) (hIp : ∀ s W l o r, w.heap.size ≤ l → W.heap[l]? = some (.loop r) → I s W → I s (W.putObj l o)) (h0 : I [] w)
    (hround : ∀ (l : Nat) (pre : List α) (x : α) (W : World), I pre W → pre.length < N → assign.wpIn (Fence.wide.inRound l) (n - 1 - 1) P (Exit.then (fun a1 W1 => KeepsOthers W W1 ∧ Kq W W1 ∧ I pre W1 ∧
        ∀ W2, Cel14 W1 W2 → I pre W2 → body.wpIn (Fence.wide.inRound l) (n - 1 - 1) P (fun e _ W3 => e = .normal ∧ KeepsOthers W2 W3 ∧ Kq W2 W3 ∧ I (pre ++ [x]) W3) a1 W2) (fun _ _ _ => False))
      { tmps := (ps.zip (encs x)).foldl (fun t (p, v) => t.setIfInBounds p v) a.tmps, defers := [] } W)
    (hdone : ∀ (D : Nat) (xs : List α) (W : World), w.heap.size ≤ D → S xs → I xs W → W.heap[D]? = some (.deferred (some [])) → Q .normal { a with defers := { target := .collected D, args := #[] } :: a.defers } W) :
    (Code.rangeFunc g ps assign body).wpIn Fence.wide n P Q a w := by
  refine wpIn_rangeFunc fun fn hfn => ?_
  let R : LoopState → Loop := fun st => { state := st, pending := none, fn, tmps := a.tmps, params := ps, assign, body, defers := w.heap.size }
  have hsz : ((w.alloc (.deferred (some []))).alloc (.loop (R .ready))).heap.size = w.heap.size + 2 := by simp
  have e0 : (w.alloc (.deferred (some []))).heap.size = w.heap.size + 1 := by simp
  have hl0 : ((w.alloc (.deferred (some []))).alloc (.loop (R .ready))).heap[w.heap.size + 1]? = some (.loop (R .ready)) := by
    rw [← e0]; exact heap_alloc_new _ _
  have hd0 : ((w.alloc (.deferred (some []))).alloc (.loop (R .ready))).heap[w.heap.size]? = some (.deferred (some [])) := by
    exact (Below.heap_alloc (w.alloc (.deferred (some []))) _ w.heap.size (by omega)).trans (heap_alloc_new w _)
  have hb0 : Below w.heap.size w ((w.alloc (.deferred (some []))).alloc (.loop (R .ready))) := ((Below.refl _ _).alloc (Nat.le_refl _) _).alloc (by omega) _
  have hi0 : I [] ((w.alloc (.deferred (some []))).alloc (.loop (R .ready))) := hI.old _ _ _ h0 hb0
  have hent := run_enterLoop_outer (P := P) (w := w) fn a.tmps ps assign body
  obtain ⟨W1, hW1⟩ : ∃ W1, W1 = (w.alloc (.deferred (some []))).alloc (.loop (R .ready)) := ⟨_, rfl⟩
  rw [← hW1] at hsz hl0 hd0 hb0 hi0
  refine ⟨w.heap.size + 1, [{ target := .collected w.heap.size, args := #[] }], W1, { target := .fn (.func gf) lb, args := #[.func (.yield (w.heap.size + 1)) #[] #[]] }, W1, gf, #[.func (.yield (w.heap.size + 1)) #[] #[]] ++ lb, W1, ?_, ?_, ?_, ?_, fun _ => h1, ?_⟩
  · rw [hW1]; exact hent
  · simp only [resolve, hg]
    simp [go_sem]
  · intro f' hf'
    trivial
  · simp [invoke, go_sem, eg]
  · refine (hseq (w.heap.size + 1) (fun pre W => I pre W ∧ W.heap[w.heap.size + 1]? = some (.loop (R .ready)) ∧ W.heap[w.heap.size]? = some (.deferred (some []))) _ hb0 ⟨?_, ?_⟩ ?_ ⟨hi0, hl0, hd0⟩).mono ?_
    · rintro s A B ⟨x1, x2, x3⟩ hb
      exact ⟨hI.old s A B x1 hb, (hb.block _ (Array.getElem?_eq_some_iff.1 x2).1).trans x2, (hb.block _ (Array.getElem?_eq_some_iff.1 x3).1).trans x3⟩
    · rintro s A r c t i v hr hc ⟨x1, x2, x3⟩
      refine ⟨hI.set s A r c t i v (by omega) hc x1, ?_, ?_⟩
      · rw [heap_setCell_other _ _ _ _ (by show _ ≠ r; omega)]; exact x2
      · rw [heap_setCell_other _ _ _ _ (by show _ ≠ r; omega)]; exact x3
    · rintro pre x A ⟨x1, x2, x3⟩ hlen
      refine ⟨fn, _, assign, body, run_yield x2 (hps x), roundIn_of_wpIn hfn ?_⟩
      refine wpIn_mono (hround (w.heap.size + 1) pre x A x1 hlen) ?_
      rintro e a1 A1 he
      cases e with
      | normal =>
        obtain ⟨k1, k2, k3, k4⟩ := he
        have y2 := k1.same _ _ x2 rfl
        have y3 := k1.same _ _ x3 rfl
        refine ⟨_, run_beginRound y2 rfl, ?_⟩
        have z2 : (A1.putObj (w.heap.size + 1) (.loop { R .ready with state := .busy })).heap[w.heap.size + 1]? = some (.loop { R .ready with state := .busy }) := World.putObj_heap_same (Array.getElem?_eq_some_iff.1 y2).1
        have z3 := (World.putObj_heap_other (w := A1) (o := .loop { R .ready with state := .busy }) (show w.heap.size ≠ w.heap.size + 1 by omega)).trans y3
        refine wpIn_mono (k4 _ (put_cel14 _ y2) (hIp _ _ _ _ _ (by omega) y2 k3)) ?_
        rintro e2 a2 A3 ⟨rfl, j1, j2, j3⟩
        have u2 := j1.same _ _ z2 rfl
        have u3 := j1.same _ _ z3 rfl
        refine ⟨_, _, run_endRound none u2, rfl, ⟨hIp _ _ _ _ _ (by omega) u2 j3, ?_, ?_⟩, hKt (hKt (hKt k2 (hKb _ _ _ _ (by omega) y2)) j2) (hKb _ _ _ _ (by omega) u2)⟩
        · exact World.putObj_heap_same (Array.getElem?_eq_some_iff.1 u2).1
        · exact (World.putObj_heap_other (by omega)).trans u3
      | ret => exact he.elim
      | exit id => exact he.elim
      | goto t => exact he.elim
      | panic ch => exact he.elim
      | outgrown => exact he.elim
    · rintro e A ⟨⟨v, rfl⟩, xs, hS, x1, x2, x3⟩
      exact ⟨none, _, run_endLoop x2 (by intro h; cases h), hdone _ xs _ (Nat.le_refl _) hS (hIp _ _ _ _ _ (by omega) x2 x1) ((World.putObj_heap_other (by omega)).trans x3)⟩
open Go.RowKit Go.Shelf

/-! A region that draws its order, in a loop's round: what looks stands first and leaves the world alone; what follows goes one after the other. -/
def nodef14 (ops : Array Oper) : Bool := ops.all fun o => match o.op with | .defer _ => false | _ => true
theorem nodef14_spec {ops : Array Oper} (h : nodef14 ops = true) {i : Nat} {o : Oper} (ho : ops[i]? = some o) : ∀ c, o.op ≠ .defer c := by
  intro c e
  obtain ⟨hi, rfl⟩ := Array.getElem?_eq_some_iff.1 ho
  have := (Array.all_eq_true.1 h) i hi
  rw [e] at this
  cases this
theorem opIn_still14 {P : Program} {ops : Array Oper} {l n i : Nat} {w : World} {a : Act} {K : Act → Prop} {K' : Act → World → Prop} {Q : Exit → Act → World → Prop} (hd : nodef14 ops = true) (h : ∀ a, K a → K' a w) (hh : stOp P ops w i K a) : wpOpIn (Fence.wide.inRound l) n P ops Q i K' a w := by
  unfold stOp at hh
  unfold wpOpIn
  split
  · rename_i ho; simp only [ho] at hh; exact h _ hh
  · rename_i o ho
    simp only [ho] at hh
    split
    · rename_i hw
      simp only [hw, if_true] at hh
      refine ⟨fun _ _ => trivial, ?_⟩
      rw [Oper.semAt_eq _ _ _ (nodef14_spec hd ho)]
      unfold Oper.still at hh
      generalize (execOp a.eval o).run P w = r at *
      cases r with
      | ok x w' =>
        cases x <;> simp only [Oper.stillUpon] at hh <;> try exact hh.elim
        case value v => obtain ⟨rfl, hh⟩ := hh; exact h _ hh
        case skip => obtain ⟨rfl, hh⟩ := hh; exact h _ hh
        case enter f args =>
          obtain ⟨rfl, v, hc, hn⟩ := hh
          refine ⟨fun h => (by cases h), ?_⟩
          refine (CallsIn.inRound l (callsIn_wide.2 hc)).mono ?_
          rintro e w2 ⟨rfl, rfl⟩
          exact h _ hn
      | halt x w' => simp only [Oper.stillUpon] at hh
    · rename_i hw
      simp only [hw] at hh
      exact ⟨fun _ _ => trivial, h _ hh⟩
theorem anyIn_head14 {P : Program} {ops : Array Oper} {md : Region.Mode} {w : World} {l n k g : Nat} {L : Array Bool → Act → Prop} {Q : Exit → Act → World → Prop} (hd : nodef14 ops = true) (hL : ∀ listed a, L listed a → wpAnyIn (Fence.wide.inRound l) n P md ops Q g listed a w) :
    ∀ (f : Nat) (listed : Array Bool) (a : Act), wpAnyL P md ops w k L f listed a → wpAnyIn (Fence.wide.inRound l) n P md ops Q (f + g) listed a w
  | 0, listed, a, h => by rw [Nat.zero_add]; exact hL _ _ h
  | f + 1, listed, a, h => by
    rw [show f + 1 + g = (f + g) + 1 by omega]
    exact ⟨fun h0 => absurd h0 h.1, fun i hi => opIn_still14 hd (fun a' h' => anyIn_head14 hd hL f _ a' h') (h.2 i hi).2⟩
theorem anyIn_seq14 {F : Fence} {P : Program} {ops : Array Oper} {md : Region.Mode} {n : Nat} {Q : Exit → Act → World → Prop} : ∀ (l : List Oper) (k : Nat) (listed : Array Bool) (a : Act) (w : World), (∀ j, l[j]? = ops[k + j]?) →
    Region.seqB md ops l.length k listed = true → wpListIn F n P ops Q l a w → wpAnyIn F n P md ops Q l.length listed a w
  | [], _, _, _, _, _, hB, h => ⟨by simpa [Region.seqB] using hB, h⟩
  | o :: l, k, listed, a, w, hl, hB, h => by
    have h0 : ops[k]? = some o := by simpa using (hl 0).symm
    simp only [List.length_cons, Region.seqB, Bool.and_eq_true, decide_eq_true_eq] at hB
    refine ⟨fun h1 => (by rw [hB.1] at h1; cases h1), fun i hi => ?_⟩
    rw [hB.1] at hi
    have hik : i = k := by simpa using hi
    subst hik
    have hw : wpOpIn F n P ops Q i (wpListIn F n P ops Q l) a w := by unfold wpOpIn; simp only [h0]; exact h
    exact wpOpIn_mono (fun a' w' h' => anyIn_seq14 l (i + 1) _ a' w' (fun j => by have := hl (j + 1); simpa [Nat.add_assoc, Nat.add_comm 1 j] using this) hB.2 h') hw
theorem still_tail14 {P : Program} {n id rd : Nat} {Q : Exit → Act → World → Prop} {a : Act} {w : World} {l : List Oper} (k : Nat) (hm : P.follows .mixedOrders = true) (hd : nodef14 l.toArray = true) (hB : Region.lexTailB .any l.toArray k = true)
    (h : wpStill P l.toArray w.drew (fun a' => wpListIn (Fence.wide.inRound rd) n P l.toArray Q (l.drop k) a' w.drew) (l.take k) a) : (Code.region id l.toArray true).wpIn (Fence.wide.inRound rd) n P Q a w := by
  simp only [Region.lexTailB, Bool.and_eq_true, decide_eq_true_eq] at hB
  obtain ⟨⟨⟨⟨hsel, hn⟩, hs⟩, hc⟩, hlex⟩ := hB
  have hn' : k < l.length := by simpa using hn
  have htl : (l.take k).length = k := by simp; omega
  have hdl : (l.drop k).length = l.toArray.size - k := by simp
  have inv0 : HeadInv .any l.toArray k (Array.replicate l.toArray.size false) :=
    ⟨by simp, fun j oj _ hl => (by rw [getD_replicate_false] at hl; cases hl), fun t _ ht => getD_in (by simpa using ht) (getD_replicate_false _ _)⟩
  have H := wpAnyL_lex (md := .any) (g := l.toArray.size - k) hsel hs hc hn (l.take k) 0 _ a (fun j hj => by
    have hj' : j < k := by rw [htl] at hj; exact hj
    simp [hj']) (by simpa using htl) inv0 (by rw [htl]; exact hlex) h
  refine wpIn_region_any hm ?_
  have := anyIn_head14 (l := rd) (n := n) (Q := Q) (g := l.toArray.size - k) hd (fun listed a' hL => by
    have := anyIn_seq14 (F := Fence.wide.inRound rd) (n := n) (md := .any) (Q := Q) (l.drop k) k listed a' w.drew (fun j => by simp [List.getElem?_drop]) (by rw [hdl]; exact hL.1) hL.2
    rwa [hdl] at this) _ _ _ H
  rw [htl, show k + (l.toArray.size - k) = l.toArray.size by omega] at this
  exact this
open Go.RowKit Go.Shelf
attribute [local go_sem] Oper.semAt_some

/-! slices.Backward's iterator over bytes. -/
/-- Below n₀ nothing has turned, but for blocks of E. -/
structure KeepE (n₀ : Nat) (E : Nat → Prop) (W W' : World) : Prop where
  size : W.heap.size ≤ W'.heap.size
  block : ∀ k, k < n₀ → ¬ E k → W'.heap[k]? = W.heap[k]?
theorem KeepE.refl (n₀ : Nat) (E : Nat → Prop) (W : World) : KeepE n₀ E W W := ⟨Nat.le_refl _, fun _ _ _ => rfl⟩
theorem KeepE.trans {n₀ : Nat} {E : Nat → Prop} {A B C : World} (h : KeepE n₀ E A B) (k : KeepE n₀ E B C) : KeepE n₀ E A C := ⟨Nat.le_trans h.size k.size, fun i hi hn => (k.block i hi hn).trans (h.block i hi hn)⟩
theorem KeepE.of_below {n₀ : Nat} {E : Nat → Prop} {A B : World} (h : Below n₀ A B) : KeepE n₀ E A B := ⟨h.size, fun k hk _ => h.block k hk⟩
theorem KeepE.cell {n₀ : Nat} {E : Nat → Prop} {A B : World} (h : KeepE n₀ E A B) {p : Addr} (hp : p.block < n₀) (hn : ¬ E p.block) : B.cell? p = A.cell? p := World.cell?_of_block (w := A) (h.block p.block hp hn)
theorem keepE_b {n₀ : Nat} {E : Nat → Prop} {w : World} (hn : n₀ ≤ w.heap.size) (W : World) (l : Nat) (o : Obj) (r : Loop) (hl : w.heap.size ≤ l) (h : W.heap[l]? = some (.loop r)) : KeepE n₀ E W (W.putObj l o) :=
  ⟨by simp [World.putObj], fun k hk _ => World.putObj_heap_other (by omega)⟩
theorem KeepE.set {n₀ : Nat} {E : Nat → Prop} {W : World} {b i : Nat} (hb : n₀ ≤ b ∨ E b) (v : Value) : KeepE n₀ E W (W.setCell ⟨b, i, none⟩ v) := by
  refine ⟨by simp, fun k hk hn => heap_setCell_other _ _ _ _ ?_⟩
  intro e
  have e' : k = b := e
  subst e'
  rcases hb with h | h
  · omega
  · exact hn h
abbrev BwE14 (m : Nat) : Type := { x : Nat × Int // x.1 < m ∧ 0 ≤ x.2 ∧ x.2 ≤ 255 }
def bwk14 (p : List Int) (k : Nat) : List (Nat × Int) := (List.range k).map fun j => (p.length - 1 - j, p.getD (p.length - 1 - j) 0)
theorem bwk14_succ (p : List Int) (k : Nat) : bwk14 p (k + 1) = bwk14 p k ++ [(p.length - 1 - k, p.getD (p.length - 1 - k) 0)] := by
  unfold bwk14
  rw [List.range_succ, List.map_append]
  rfl
end Go.Proofs.YteboaolflecibaaDoor
