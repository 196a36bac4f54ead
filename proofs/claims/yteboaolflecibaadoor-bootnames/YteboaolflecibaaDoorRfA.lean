import Derived.Test.YteboaolflecibaaDoorFlM
import Derived.Test.YteboaolflecibaaDoorFlK
import Derived.Lib.SlBytesConst
import Derived.Deep.OwnRows
import Derived.Deep.RegionHeld3
namespace Go.Proofs.YteboaolflecibaaDoor
open Go.RowKit Go.Shelf
set_option linter.unusedVariables false
set_option linter.unusedSimpArgs false
structure Pd21 where
  k : Nat
  off : Nat
  c : Nat
  b : List Int
  er : Bool
  wr : Int
def pdc21 (d : Pd21) : List Value := [.slice (some ⟨d.k, d.off, none⟩) d.b.length d.c, .bool d.er, .int .i64 d.wr]
def pdl21 (L : List Pd21) : List Value := L.flatMap pdc21
def fb21 (S : Fs21) (x y : Int) : List Int := (sh21 S x y).b ++ List.replicate (S.pg - (sh21 S x y).b.length) 255
structure Rf21 (w : World) (b : Nat) (g c : Nat → Nat) (A : Nat → List Pd21) (tn : List Int) (ta : Option Addr) (tc : Nat) (la : Option Addr) (lc : Nat) (V : Nat → Prop) (S : Fs21) : Prop where
  hp : w.heap[b]? = some (.cells #[.int .i64 (S.pg : Int), .int .i64 (S.ps : Int), .int .i64 S.ac, .slice (some ⟨g 0, 0, none⟩) (A 0).length (c 0), .slice (some ⟨g 1, 0, none⟩) (A 1).length (c 1), .slice (some ⟨g 2, 0, none⟩) (A 2).length (c 2), .slice la S.lg.length lc, .bool (!S.on), .int .i64 S.lf, .slice ta tn.length tc, .int .i64 S.lm] 121 (0, 0))
  ha : ∀ x, x < 3 → ∃ X : List Value, w.heap[g x]? = some (.cells (pdl21 (A x) ++ X).toArray 124 (0, 0))
  hn : ∀ x : Nat, x < 3 → ((A x).length : Int) = pn21 S.ps (x : Int) ∧ (A x).length ≤ c x
  hd : ∀ (x y : Nat) (d : Pd21), x < 3 → (A x)[y]? = some d → Seg w (some ⟨d.k, d.off, none⟩) d.b ∧ V d.k ∧ d.b = fb21 S (x : Int) (y : Int) ∧ d.er = (sh21 S (x : Int) (y : Int)).er ∧ d.wr = (sh21 S (x : Int) (y : Int)).wr ∧ d.b.length ≤ d.c
  ht : (S.lf ≠ 0 → tn = S.tn) ∧ Sl21 w V ta tn tc
  hl : w.ownsRow 0 184 3 (.slice la S.lg.length lc) S.lg.length (lgc21 S.lg)
  gi : g 0 ≠ g 1 ∧ g 0 ≠ g 2 ∧ g 1 ≠ g 2
  vb : ¬ V b
  vg : ∀ x, x < 3 → ¬ V (g x)
  vl : ∀ k, (Value.slice la S.lg.length lc).ownBlock = some k → ¬ V k
  vs : ∀ k, V k → k < w.heap.size
section
variable {w w' : World} {b : Nat} {g c : Nat → Nat} {A : Nat → List Pd21} {tn : List Int} {ta : Option Addr} {tc : Nat} {la : Option Addr} {lc : Nat} {V V' : Nat → Prop} {S S' : Fs21}
theorem Rf21.bl (h : Rf21 w b g c A tn ta tc la lc V S) : b < w.heap.size := (Array.getElem?_eq_some_iff.1 h.hp).1
theorem Rf21.gl (h : Rf21 w b g c A tn ta tc la lc V S) {x : Nat} (hx : x < 3) : g x < w.heap.size := by
  obtain ⟨X, hX⟩ := h.ha x hx
  exact (Array.getElem?_eq_some_iff.1 hX).1
theorem Rf21.lo (h : Rf21 w b g c A tn ta tc la lc V S) {k : Nat} (hk : (Value.slice la S.lg.length lc).ownBlock = some k) : k < w.heap.size ∧ k ≠ b ∧ ∀ x, x < 3 → k ≠ g x := by
  rcases h.hl.2 with ⟨h1, h2⟩ | ⟨q, cap, cur, h1, h2, h3, h4⟩
  · rw [h1] at hk; cases hk
  · rw [h1] at hk
    simp [Value.ownBlock] at hk
    subst hk
    refine ⟨(Array.getElem?_eq_some_iff.1 h3).1, fun e => ?_, fun x hx e => ?_⟩
    · have := h.hp
      rw [← e, h3] at this
      injection this with h2
      injection h2 with _ h3 _
      exact absurd h3 (by decide)
    · obtain ⟨X, hX⟩ := h.ha x hx
      rw [← e, h3] at hX
      injection hX with h2
      injection h2 with _ h3 _
      exact absurd h3 (by decide)
theorem Rf21.kp (h : Rf21 w b g c A tn ta tc la lc V S) (h1 : w'.heap[b]? = w.heap[b]?) (h2 : ∀ x, x < 3 → w'.heap[g x]? = w.heap[g x]?) (h3 : ∀ k, (Value.slice la S.lg.length lc).ownBlock = some k → w'.heap[k]? = w.heap[k]?) (h4 : ∀ k, V k → w'.heap[k]? = w.heap[k]?) (h5 : w.heap.size ≤ w'.heap.size) : Rf21 w' b g c A tn ta tc la lc V S := by
  refine ⟨h1.trans h.hp, fun x hx => ?_, h.hn, fun x y d hx hy => ?_, ⟨h.ht.1, h.ht.2.kp h4 (fun _ e => e)⟩, ?_, h.gi, h.vb, h.vg, h.vl, fun k e => Nat.lt_of_lt_of_le (h.vs k e) h5⟩
  · obtain ⟨X, hX⟩ := h.ha x hx
    exact ⟨X, (h2 x hx).trans hX⟩
  · obtain ⟨q1, q2, q3⟩ := h.hd x y d hx hy
    refine ⟨q1.of_cells fun b' off' i v hi ha hc => ?_, q2, q3⟩
    cases ha
    rw [World.cell?_of_block (a := ⟨d.k, d.off + i, none⟩) (h4 d.k q2)]
    exact hc
  · refine ⟨h.hl.1, ?_⟩
    rcases h.hl.2 with q | ⟨q, cap, cur, q1, q2, q3, q4⟩
    · exact .inl q
    · exact .inr ⟨q, cap, cur, q1, q2, (h3 q (by rw [q1]; rfl)).trans q3, q4⟩
theorem Rf21.old (h : Rf21 w b g c A tn ta tc la lc V S) (hb : Below w.heap.size w w') : Rf21 w' b g c A tn ta tc la lc V S :=
  h.kp (hb.block b h.bl) (fun x hx => hb.block _ (h.gl hx)) (fun k e => hb.block k (h.lo e).1) (fun k e => hb.block k (h.vs k e)) hb.size
theorem Rf21.cel (h : Rf21 w b g c A tn ta tc la lc V S) {i : Nat} {v : Value} (hi : (#[.int .i64 (S.pg : Int), .int .i64 (S.ps : Int), .int .i64 S.ac, .slice (some ⟨g 0, 0, none⟩) (A 0).length (c 0), .slice (some ⟨g 1, 0, none⟩) (A 1).length (c 1), .slice (some ⟨g 2, 0, none⟩) (A 2).length (c 2), .slice la S.lg.length lc, .bool (!S.on), .int .i64 S.lf, .slice ta tn.length tc, .int .i64 S.lm] : Array Value)[i]? = some v) : w.cell? ⟨b, i, none⟩ = some v := by
  simp only [World.cell?, h.hp]; exact hi
theorem Rf21.fr (h : Rf21 w b g c A tn ta tc la lc V S) (i : Nat) : w.frozen? ⟨b, i, none⟩ = false := by simp [World.frozen?, h.hp]
end
/-- The document's flash over a footprint. -/
def Rl21d (w : World) (b : Nat) (G : Nat → Prop) (S : Fs21) : Prop := ∃ g c A tn ta tc la lc V, Rf21 w b g c A tn ta tc la lc V S ∧ G b ∧ (∀ x, x < 3 → G (g x)) ∧ (∀ k, (Value.slice la S.lg.length lc).ownBlock = some k → G k) ∧ (∀ k, V k → G k) ∧ (∀ k, G k → k < w.heap.size)
def Rn21 (w w' : World) (b : Nat) (G : Nat → Prop) (S' : Fs21) : Prop := ∃ G', Rl21d w' b G' S' ∧ (∀ k, G' k → G k ∨ w.heap.size ≤ k) ∧ Kp G w w'
section
variable {w w' : World} {b : Nat} {G : Nat → Prop} {S S' : Fs21}
theorem Rl21d.old (h : Rl21d w b G S) (hb : Below w.heap.size w w') : Rl21d w' b G S := by
  obtain ⟨g, c, A, tn, ta, tc, la, lc, V, h1, h2, h3, h4, h5, h6⟩ := h
  exact ⟨g, c, A, tn, ta, tc, la, lc, V, h1.old hb, h2, h3, h4, h5, fun k e => Nat.lt_of_lt_of_le (h6 k e) hb.size⟩
theorem Rl21d.kp (h : Rl21d w b G S) (hk : ∀ k, G k → w'.heap[k]? = w.heap[k]?) (hs : w.heap.size ≤ w'.heap.size) : Rl21d w' b G S := by
  obtain ⟨g, c, A, tn, ta, tc, la, lc, V, h1, h2, h3, h4, h5, h6⟩ := h
  exact ⟨g, c, A, tn, ta, tc, la, lc, V, h1.kp (hk b h2) (fun x hx => hk _ (h3 x hx)) (fun k e => hk k (h4 k e)) (fun k e => hk k (h5 k e)) hs, h2, h3, h4, h5, fun k e => Nat.lt_of_lt_of_le (h6 k e) hs⟩
theorem Rn21.from {w1 : World} (h : Rn21 w1 w' b G S) (hb : Below w.heap.size w w1) : Rn21 w w' b G S := by
  obtain ⟨F', h1, h2, h3⟩ := h
  exact ⟨F', h1, fun k e => by rcases h2 k e with h | h; (exact .inl h); (exact .inr (Nat.le_trans hb.size h)), (Kp.of_below hb).trans h3 (fun _ _ e => e)⟩
theorem Rn21.cons {w1 w2 : World} {G1 : Nat → Prop} (f1 : ∀ k, G1 k → G k ∨ w.heap.size ≤ k) (k1 : Kp G w w1) (h : Rn21 w1 w2 b G1 S) : Rn21 w w2 b G S := by
  obtain ⟨G2, h1, h2, h3⟩ := h
  refine ⟨G2, h1, fun x e => ?_, k1.trans h3 (fun i hi e => ?_)⟩
  · rcases h2 x e with q | q
    · exact f1 x q
    · exact .inr (Nat.le_trans k1.size q)
  · rcases f1 i e with q | q
    · exact q
    · omega
end
end Go.Proofs.YteboaolflecibaaDoor
