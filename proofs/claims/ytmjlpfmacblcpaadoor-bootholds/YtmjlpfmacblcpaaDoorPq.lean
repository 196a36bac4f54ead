import Derived.Test.YtmjlpfmacblcpaaDoorPp
import Derived.Test.YtmjlpfmacblcpaaDoorPl
import Derived.Deep.OwnRows
import Derived.Deep.RegionHeld3
import Derived.Laws.CopyOwn
import Derived.Deep.CutRange
namespace Go.Proofs.YtmjlpfmacblcpaaDoor
open Go.RowKit Go.Shelf
set_option linter.unusedVariables false
set_option linter.unusedSimpArgs false
structure Pd21 where
  k : Nat
  off : Nat
  c : Nat
  b : List Int
  er : Bool
  wr : Int
def pdc21 (d : Pd21) : List Value := [.slice (some ⟨d.k, d.off, none⟩) d.b.length d.c, .bool d.er, .int .i64 d.wr]
def pdl21 (L : List Pd21) : List Value := L.flatMap pdc21
def fb21 (S : Fs21) (x y : Int) : List Int := (sh21 S x y).b ++ List.replicate (S.pg - (sh21 S x y).b.length) 255
structure Rf21 (w : World) (b : Nat) (g c : Nat → Nat) (A : Nat → List Pd21) (tn : List Int) (ta : Option Addr) (tc : Nat) (la : Option Addr) (lc : Nat) (V : Nat → Prop) (S : Fs21) : Prop where
  hp : w.heap[b]? = some (.cells #[.int .i64 (S.pg : Int), .int .i64 (S.ps : Int), .int .i64 S.ac, .slice (some ⟨g 0, 0, none⟩) (A 0).length (c 0), .slice (some ⟨g 1, 0, none⟩) (A 1).length (c 1), .slice (some ⟨g 2, 0, none⟩) (A 2).length (c 2), .slice la S.lg.length lc, .bool (!S.on), .int .i64 S.lf, .slice ta tn.length tc, .int .i64 S.lm] 107 (0, 0))
  ha : ∀ x, x < 3 → ∃ X : List Value, w.heap[g x]? = some (.cells (pdl21 (A x) ++ X).toArray 110 (0, 0))
  hn : ∀ x : Nat, x < 3 → ((A x).length : Int) = pn21 S.ps (x : Int) ∧ (A x).length ≤ c x
  hd : ∀ (x y : Nat) (d : Pd21), x < 3 → (A x)[y]? = some d → Seg w (some ⟨d.k, d.off, none⟩) d.b ∧ V d.k ∧ d.b = fb21 S (x : Int) (y : Int) ∧ d.er = (sh21 S (x : Int) (y : Int)).er ∧ d.wr = (sh21 S (x : Int) (y : Int)).wr ∧ d.b.length ≤ d.c
  ht : (S.lf ≠ 0 → tn = S.tn) ∧ Sl21 w V ta tn tc
  hl : w.ownsRow 0 177 3 (.slice la S.lg.length lc) S.lg.length (lgc21 S.lg)
  gi : g 0 ≠ g 1 ∧ g 0 ≠ g 2 ∧ g 1 ≠ g 2
  vb : ¬ V b
  vg : ∀ x, x < 3 → ¬ V (g x)
  vl : ∀ k, (Value.slice la S.lg.length lc).ownBlock = some k → ¬ V k
  vs : ∀ k, V k → k < w.heap.size
section
variable {w w' : World} {b : Nat} {g c : Nat → Nat} {A : Nat → List Pd21} {tn : List Int} {ta : Option Addr} {tc : Nat} {la : Option Addr} {lc : Nat} {V V' : Nat → Prop} {S S' : Fs21}
theorem Rf21.bl (h : Rf21 w b g c A tn ta tc la lc V S) : b < w.heap.size := (Array.getElem?_eq_some_iff.1 h.hp).1
theorem Rf21.gl (h : Rf21 w b g c A tn ta tc la lc V S) {x : Nat} (hx : x < 3) : g x < w.heap.size := by
  obtain ⟨X, hX⟩ := h.ha x hx
  exact (Array.getElem?_eq_some_iff.1 hX).1
theorem Rf21.bg (h : Rf21 w b g c A tn ta tc la lc V S) {x : Nat} (hx : x < 3) : b ≠ g x := fun e => by
  obtain ⟨X, hX⟩ := h.ha x hx
  have := h.hp
  rw [e, hX] at this
  injection this with h2
  injection h2 with _ h3 _
  exact absurd h3 (by decide)
theorem Rf21.lo (h : Rf21 w b g c A tn ta tc la lc V S) {k : Nat} (hk : (Value.slice la S.lg.length lc).ownBlock = some k) : k < w.heap.size ∧ k ≠ b ∧ ∀ x, x < 3 → k ≠ g x := by
  rcases h.hl.2 with ⟨h1, h2⟩ | ⟨q, cap, cur, h1, h2, h3, h4⟩
  · rw [h1] at hk; cases hk
  · rw [h1] at hk
    simp [Value.ownBlock] at hk
    subst hk
    refine ⟨(Array.getElem?_eq_some_iff.1 h3).1, fun e => ?_, fun x hx e => ?_⟩
    · have := h.hp
      rw [← e, h3] at this
      injection this with h2
      injection h2 with _ h3 _
      exact absurd h3 (by decide)
    · obtain ⟨X, hX⟩ := h.ha x hx
      rw [← e, h3] at hX
      injection hX with h2
      injection h2 with _ h3 _
      exact absurd h3 (by decide)
theorem Rf21.kp (h : Rf21 w b g c A tn ta tc la lc V S) (h1 : w'.heap[b]? = w.heap[b]?) (h2 : ∀ x, x < 3 → w'.heap[g x]? = w.heap[g x]?) (h3 : ∀ k, (Value.slice la S.lg.length lc).ownBlock = some k → w'.heap[k]? = w.heap[k]?) (h4 : ∀ k, V k → w'.heap[k]? = w.heap[k]?) (h5 : w.heap.size ≤ w'.heap.size) : Rf21 w' b g c A tn ta tc la lc V S := by
  refine ⟨h1.trans h.hp, fun x hx => ?_, h.hn, fun x y d hx hy => ?_, ⟨h.ht.1, h.ht.2.kp h4 (fun _ e => e)⟩, ?_, h.gi, h.vb, h.vg, h.vl, fun k e => Nat.lt_of_lt_of_le (h.vs k e) h5⟩
  · obtain ⟨X, hX⟩ := h.ha x hx
    exact ⟨X, (h2 x hx).trans hX⟩
  · obtain ⟨q1, q2, q3⟩ := h.hd x y d hx hy
    refine ⟨q1.of_cells fun b' off' i v hi ha hc => ?_, q2, q3⟩
    cases ha
    rw [World.cell?_of_block (a := ⟨d.k, d.off + i, none⟩) (h4 d.k q2)]
    exact hc
  · refine ⟨h.hl.1, ?_⟩
    rcases h.hl.2 with q | ⟨q, cap, cur, q1, q2, q3, q4⟩
    · exact .inl q
    · exact .inr ⟨q, cap, cur, q1, q2, (h3 q (by rw [q1]; rfl)).trans q3, q4⟩
theorem Rf21.old (h : Rf21 w b g c A tn ta tc la lc V S) (hb : Below w.heap.size w w') : Rf21 w' b g c A tn ta tc la lc V S :=
  h.kp (hb.block b h.bl) (fun x hx => hb.block _ (h.gl hx)) (fun k e => hb.block k (h.lo e).1) (fun k e => hb.block k (h.vs k e)) hb.size
theorem Rf21.cel (h : Rf21 w b g c A tn ta tc la lc V S) {i : Nat} {v : Value} (hi : (#[.int .i64 (S.pg : Int), .int .i64 (S.ps : Int), .int .i64 S.ac, .slice (some ⟨g 0, 0, none⟩) (A 0).length (c 0), .slice (some ⟨g 1, 0, none⟩) (A 1).length (c 1), .slice (some ⟨g 2, 0, none⟩) (A 2).length (c 2), .slice la S.lg.length lc, .bool (!S.on), .int .i64 S.lf, .slice ta tn.length tc, .int .i64 S.lm] : Array Value)[i]? = some v) : w.cell? ⟨b, i, none⟩ = some v := by
  simp only [World.cell?, h.hp]; exact hi
theorem Rf21.fr (h : Rf21 w b g c A tn ta tc la lc V S) (i : Nat) : w.frozen? ⟨b, i, none⟩ = false := by simp [World.frozen?, h.hp]
end
/-- The document's flash over a footprint. -/
def Rl21d (w : World) (b : Nat) (G : Nat → Prop) (S : Fs21) : Prop := ∃ g c A tn ta tc la lc V, Rf21 w b g c A tn ta tc la lc V S ∧ G b ∧ (∀ x, x < 3 → G (g x)) ∧ (∀ k, (Value.slice la S.lg.length lc).ownBlock = some k → G k) ∧ (∀ k, V k → G k) ∧ (∀ k, G k → k < w.heap.size)
def Rn21 (w w' : World) (b : Nat) (G : Nat → Prop) (S' : Fs21) : Prop := ∃ G', Rl21d w' b G' S' ∧ (∀ k, G' k → G k ∨ w.heap.size ≤ k) ∧ Kp G w w'
section
variable {w w' : World} {b : Nat} {G : Nat → Prop} {S S' : Fs21}
theorem Rl21d.old (h : Rl21d w b G S) (hb : Below w.heap.size w w') : Rl21d w' b G S := by
  obtain ⟨g, c, A, tn, ta, tc, la, lc, V, h1, h2, h3, h4, h5, h6⟩ := h
  exact ⟨g, c, A, tn, ta, tc, la, lc, V, h1.old hb, h2, h3, h4, h5, fun k e => Nat.lt_of_lt_of_le (h6 k e) hb.size⟩
theorem Rl21d.kp (h : Rl21d w b G S) (hk : ∀ k, G k → w'.heap[k]? = w.heap[k]?) (hs : w.heap.size ≤ w'.heap.size) : Rl21d w' b G S := by
  obtain ⟨g, c, A, tn, ta, tc, la, lc, V, h1, h2, h3, h4, h5, h6⟩ := h
  exact ⟨g, c, A, tn, ta, tc, la, lc, V, h1.kp (hk b h2) (fun x hx => hk _ (h3 x hx)) (fun k e => hk k (h4 k e)) (fun k e => hk k (h5 k e)) hs, h2, h3, h4, h5, fun k e => Nat.lt_of_lt_of_le (h6 k e) hs⟩
theorem Rl21d.stay (h : Rl21d w b G S) (hb : Below w.heap.size w w') : Rn21 w w' b G S := ⟨G, h.old hb, fun _ e => .inl e, Kp.of_below hb⟩
theorem Rl21d.lts (h : Rl21d w b G S) : ∀ k, G k → k < w.heap.size := by
  obtain ⟨g, c, A, tn, ta, tc, la, lc, V, h1, h2, h3, h4, h5, h6⟩ := h
  exact h6
theorem Rn21.from {w1 : World} (h : Rn21 w1 w' b G S) (hb : Below w.heap.size w w1) : Rn21 w w' b G S := by
  obtain ⟨F', h1, h2, h3⟩ := h
  exact ⟨F', h1, fun k e => by rcases h2 k e with h | h; (exact .inl h); (exact .inr (Nat.le_trans hb.size h)), (Kp.of_below hb).trans h3 (fun _ _ e => e)⟩
theorem Rn21.cons {w1 w2 : World} {G1 : Nat → Prop} (f1 : ∀ k, G1 k → G k ∨ w.heap.size ≤ k) (k1 : Kp G w w1) (h : Rn21 w1 w2 b G1 S) : Rn21 w w2 b G S := by
  obtain ⟨G2, h1, h2, h3⟩ := h
  refine ⟨G2, h1, fun x e => ?_, k1.trans h3 (fun i hi e => ?_)⟩
  · rcases h2 x e with q | q
    · exact f1 x q
    · exact .inr (Nat.le_trans k1.size q)
  · rcases f1 i e with q | q
    · exact q
    · omega
end
end Go.Proofs.YtmjlpfmacblcpaaDoor

namespace Go.Proofs.YtmjlpfmacblcpaaDoor
open Go.RowKit Go.Shelf
set_option linter.unusedVariables false
set_option linter.unusedSimpArgs false
section
variable {w w' : World} {b : Nat} {g c : Nat → Nat} {A : Nat → List Pd21} {tn : List Int} {ta : Option Addr} {tc : Nat} {la : Option Addr} {lc : Nat} {V V' : Nat → Prop} {S S' : Fs21}
theorem sh21_pa (h : S'.pa = S.pa) (x y : Int) : sh21 S' x y = sh21 S x y := by unfold sh21; rw [h]
theorem fb21_pa (h : S'.pa = S.pa) (h' : S'.pg = S.pg) (x y : Int) : fb21 S' x y = fb21 S x y := by unfold fb21; rw [sh21_pa h, h']
theorem Rf21.re (h : Rf21 w b g c A tn ta tc la lc V S) (hk : Kp (fun k => k = b) w w') (e1 : S'.pa = S.pa) (e2 : S'.lg = S.lg) (e3 : S'.pg = S.pg) (e4 : S'.ps = S.ps) {tn' : List Int} {ta' : Option Addr} {tc' : Nat} (ht' : (S'.lf ≠ 0 → tn' = S'.tn) ∧ Sl21 w V ta' tn' tc')
    (hp : w'.heap[b]? = some (.cells #[.int .i64 (S'.pg : Int), .int .i64 (S'.ps : Int), .int .i64 S'.ac, .slice (some ⟨g 0, 0, none⟩) (A 0).length (c 0), .slice (some ⟨g 1, 0, none⟩) (A 1).length (c 1), .slice (some ⟨g 2, 0, none⟩) (A 2).length (c 2), .slice la S'.lg.length lc, .bool (!S'.on), .int .i64 S'.lf, .slice ta' tn'.length tc', .int .i64 S'.lm] 107 (0, 0))) :
    Rf21 w' b g c A tn' ta' tc' la lc V S' := by
  have hV : ∀ k, V k → w'.heap[k]? = w.heap[k]? := fun k e => hk.block k (h.vs k e) (fun q => h.vb (q ▸ e))
  have hl := h.hl
  have hvl := h.vl
  refine ⟨hp, fun x hx => ?_, by rw [e4]; exact h.hn, fun x y d hx hy => ?_, ⟨ht'.1, ht'.2.kp hV (fun _ e => e)⟩, ?_, h.gi, h.vb, h.vg, by rw [e2]; exact h.vl, fun k e => Nat.lt_of_lt_of_le (h.vs k e) hk.size⟩
  · obtain ⟨X, hX⟩ := h.ha x hx
    exact ⟨X, (hk.block _ (h.gl hx) (fun e => h.bg hx e.symm)).trans hX⟩
  · obtain ⟨q1, q2, q3⟩ := h.hd x y d hx hy
    rw [fb21_pa e1 e3, sh21_pa e1]
    refine ⟨q1.of_cells fun b' off' i v hi ha hc => ?_, q2, q3⟩
    cases ha
    rw [World.cell?_of_block (a := ⟨d.k, d.off + i, none⟩) (hV d.k q2)]
    exact hc
  · rw [e2]
    refine ⟨hl.1, ?_⟩
    rcases hl.2 with q | ⟨q, cap, cur, q1, q2, q3, q4⟩
    · exact .inl q
    · have hq := h.lo (k := q) (by rw [q1]; rfl)
      exact .inr ⟨q, cap, cur, q1, q2, (hk.block q hq.1 hq.2.1).trans q3, q4⟩
/-- More bytes may be spoken of. -/
theorem Rf21.wid (h : Rf21 w b g c A tn ta tc la lc V S) (hV : ∀ k, V k → V' k) (vb : ¬ V' b) (vg : ∀ x, x < 3 → ¬ V' (g x)) (vl : ∀ k, (Value.slice la S.lg.length lc).ownBlock = some k → ¬ V' k) (vs : ∀ k, V' k → k < w.heap.size) : Rf21 w b g c A tn ta tc la lc V' S :=
  ⟨h.hp, h.ha, h.hn, fun x y d hx hy => by obtain ⟨q1, q2, q3⟩ := h.hd x y d hx hy; exact ⟨q1, hV _ q2, q3⟩, ⟨h.ht.1, h.ht.2.kp (fun _ _ => rfl) hV⟩, h.hl, h.gi, vb, vg, vl, vs⟩
def ad21 (A : Nat → List Pd21) (x y : Nat) (d : Pd21) : Nat → List Pd21 := fun z => if z = x then (A x).set y d else A z
theorem ad21_len (A : Nat → List Pd21) (x y : Nat) (d : Pd21) (z : Nat) : (ad21 A x y d z).length = (A z).length := by
  unfold ad21; split
  · rename_i h; subst h; simp
  · rfl
theorem sh21_up (S : Fs21) (x y : Int) (s : Sh21) (x' y' : Int) : sh21 { S with pa := up21 S.pa x y s } x' y' = if x' = x ∧ y' = y then s else sh21 S x' y' := by
  unfold sh21 up21
  by_cases h : x' = x ∧ y' = y
  · simp [h]
  · simp [h]
/-- A page anew. -/
theorem Rf21.page (h : Rf21 w b g c A tn ta tc la lc V S) {x y : Nat} (hx : x < 3) (hy : y < (A x).length) (d : Pd21) (s : Sh21) (hk : Kp (fun k => k = g x) w w') (hg : ∃ X : List Value, w'.heap[g x]? = some (.cells (pdl21 ((A x).set y d) ++ X).toArray 110 (0, 0)))
    (h1 : Seg w' (some ⟨d.k, d.off, none⟩) d.b) (h2 : V d.k) (h3 : d.b = s.b ++ List.replicate (S.pg - s.b.length) 255) (h4 : d.er = s.er) (h5 : d.wr = s.wr) (h6 : d.b.length ≤ d.c) :
    Rf21 w' b g c (ad21 A x y d) tn ta tc la lc V { S with pa := up21 S.pa (x : Int) (y : Int) s } := by
  have hV : ∀ k, V k → w'.heap[k]? = w.heap[k]? := fun k e => hk.block k (h.vs k e) (fun q => h.vg x hx (q ▸ e))
  have hgne : ∀ z, z < 3 → z ≠ x → g z ≠ g x := fun z hz hne => by
    have := h.gi
    rcases (show x = 0 ∨ x = 1 ∨ x = 2 by omega) with rfl | rfl | rfl <;> rcases (show z = 0 ∨ z = 1 ∨ z = 2 by omega) with rfl | rfl | rfl <;> first | exact absurd rfl hne | exact this.1 | exact this.2.1 | exact this.2.2 | exact this.1.symm | exact this.2.1.symm | exact this.2.2.symm
  refine ⟨?_, fun z hz => ?_, fun z hz => ?_, fun z y' d' hz hy' => ?_, ⟨h.ht.1, h.ht.2.kp hV (fun _ e => e)⟩, ?_, h.gi, h.vb, h.vg, h.vl, fun k e => Nat.lt_of_lt_of_le (h.vs k e) hk.size⟩
  · rw [ad21_len, ad21_len, ad21_len]
    exact (hk.block b h.bl (h.bg hx)).trans h.hp
  · by_cases e : z = x
    · subst e
      obtain ⟨X, hX⟩ := hg
      exact ⟨X, by simpa [ad21] using hX⟩
    · obtain ⟨X, hX⟩ := h.ha z hz
      exact ⟨X, by simpa [ad21, e] using (hk.block _ (h.gl hz) (hgne z hz e)).trans hX⟩
  · rw [ad21_len]; exact h.hn z hz
  · have hfb : ∀ a b, fb21 { S with pa := up21 S.pa (x : Int) (y : Int) s } a b = (if a = (x : Int) ∧ b = (y : Int) then s.b ++ List.replicate (S.pg - s.b.length) 255 else fb21 S a b) := fun a b => by
      unfold fb21
      rw [sh21_up]
      split <;> rfl
    rw [hfb, sh21_up]
    by_cases e : z = x
    · subst e
      by_cases e2 : y' = y
      · subst e2
        have : d' = d := by simpa [ad21, hy] using hy'.symm
        subst this
        simp only [and_self, if_true]
        exact ⟨h1, h2, h3, h4, h5, h6⟩
      · have e2' : ¬ (y' : Int) = (y : Int) := by omega
        have hne : ¬ y = y' := fun q => e2 q.symm
        have : (A z)[y']? = some d' := by simpa [ad21, List.getElem?_set, hne] using hy'
        simp only [e2', and_false, if_false]
        obtain ⟨q1, q2, q3⟩ := h.hd z y' d' hz this
        refine ⟨q1.of_cells fun b' off' i v hi ha hc => ?_, q2, q3⟩
        cases ha
        rw [World.cell?_of_block (a := ⟨d'.k, d'.off + i, none⟩) (hV d'.k q2)]
        exact hc
    · have e' : ¬ (z : Int) = (x : Int) := by omega
      have : (A z)[y']? = some d' := by simpa [ad21, e] using hy'
      simp only [e', false_and, if_false]
      obtain ⟨q1, q2, q3⟩ := h.hd z y' d' hz this
      refine ⟨q1.of_cells fun b' off' i v hi ha hc => ?_, q2, q3⟩
      cases ha
      rw [World.cell?_of_block (a := ⟨d'.k, d'.off + i, none⟩) (hV d'.k q2)]
      exact hc
  · refine ⟨h.hl.1, ?_⟩
    rcases h.hl.2 with q | ⟨q, cap, cur, q1, q2, q3, q4⟩
    · exact .inl q
    · have hq := h.lo (k := q) (by rw [q1]; rfl)
      exact .inr ⟨q, cap, cur, q1, q2, (hk.block q hq.1 (hq.2.2 x hx)).trans q3, q4⟩
theorem Rf21.at (h : Rf21 w b g c A tn ta tc la lc V S) {x : Int} {y : Int} (hm : ms21 S.ps x y = 0) : ∃ (X Y : Nat) (d : Pd21), x = (X : Int) ∧ y = (Y : Int) ∧ X < 3 ∧ Y < (A X).length ∧ (A X)[Y]? = some d := by
  unfold ms21 pn21 at hm
  have hx : 0 ≤ x ∧ x ≤ 2 ∧ 0 ≤ y := by
    by_cases h1 : x < 0 ∨ 2 < x
    · simp [h1] at hm; omega
    · by_cases h2 : y < 0
      · simp [h2] at hm
      · omega
  obtain ⟨X, rfl⟩ : ∃ X : Nat, x = (X : Int) := ⟨x.toNat, by omega⟩
  obtain ⟨Y, rfl⟩ : ∃ Y : Nat, y = (Y : Int) := ⟨y.toNat, by omega⟩
  have h3 : X < 3 := by omega
  have hn := (h.hn X h3).1
  have hlt : Y < (A X).length := by
    have : ¬ ((Y : Int) < 0 ∨ pn21 S.ps (X : Int) ≤ (Y : Int)) := fun q => by
      unfold pn21 at q
      rw [if_pos q] at hm
      cases hm
    omega
  exact ⟨X, Y, _, rfl, rfl, h3, hlt, List.getElem?_eq_getElem hlt⟩
end
end Go.Proofs.YtmjlpfmacblcpaaDoor

namespace Go.Proofs.YtmjlpfmacblcpaaDoor
open Go.RowKit Go.Shelf
set_option linter.unusedVariables false
set_option linter.unusedSimpArgs false
section
variable {w w' : World} {b : Nat} {g c : Nat → Nat} {A : Nat → List Pd21} {tn : List Int} {ta : Option Addr} {tc : Nat} {la : Option Addr} {lc : Nat} {V V' : Nat → Prop} {S S' : Fs21}
/-- Bytes of the call's own may be spoken of. -/
theorem Rf21.new (h : Rf21 w b g c A tn ta tc la lc V S) (hb : Below w.heap.size w w') (Q : Nat → Prop) (hQ : ∀ k, Q k → w.heap.size ≤ k ∧ k < w'.heap.size) : Rf21 w' b g c A tn ta tc la lc (fun k => V k ∨ Q k) S := by
  have h1 := h.bl
  refine (h.old hb).wid (fun _ e => .inl e) ?_ ?_ ?_ ?_
  · rintro (e | e)
    · exact h.vb e
    · have := hQ _ e; omega
  · rintro x hx (e | e)
    · exact h.vg x hx e
    · have := hQ _ e; have := h.gl hx; omega
  · rintro k hk (e | e)
    · exact h.vl k hk e
    · have := hQ _ e; have := (h.lo hk).1; omega
  · rintro k (e | e)
    · exact Nat.lt_of_lt_of_le (h.vs k e) hb.size
    · exact (hQ k e).2
end
end Go.Proofs.YtmjlpfmacblcpaaDoor

namespace Go.Proofs.YtmjlpfmacblcpaaDoor
open Go.RowKit Go.Shelf
set_option linter.unusedVariables false
set_option linter.unusedSimpArgs false
section
variable {w w' : World} {b : Nat} {g c : Nat → Nat} {A : Nat → List Pd21} {tn : List Int} {ta : Option Addr} {tc : Nat} {la : Option Addr} {lc : Nat} {V V' : Nat → Prop} {S S' : Fs21}
theorem Rf21.log (h : Rf21 w b g c A tn ta tc la lc V S) {w1 w2 : World} {q cap : Nat} {o : Int × Int × Int} (hk : Kp (fun j => (Value.slice la S.lg.length lc).ownBlock = some j) w w1) (hl : w1.ownsRow 0 177 3 (.slice (some ⟨q, 0, none⟩) (S.lg.length + 1) cap) (S.lg.length + 1) (lgc21 (S.lg ++ [o])))
    (hq : (Value.slice la S.lg.length lc).ownBlock = some q ∨ w.heap.size ≤ q) (h2 : w2 = w1.setCell ⟨b, 6, none⟩ (.slice (some ⟨q, 0, none⟩) (S.lg.length + 1) cap)) :
    Rf21 w2 b g c A tn ta tc (some ⟨q, 0, none⟩) cap V { S with lg := S.lg ++ [o] } ∧ Kp (fun j => j = b ∨ (Value.slice la S.lg.length lc).ownBlock = some j) w w2 := by
  have hb : w1.heap[b]? = w.heap[b]? := hk.block b h.bl (fun e => (h.lo e).2.1 rfl)
  have hg : ∀ x, x < 3 → w1.heap[g x]? = w.heap[g x]? := fun x hx => hk.block (g x) (h.gl hx) (fun e => (h.lo e).2.2 x hx rfl)
  have hqb : q ≠ b := by
    rcases hq with hq | hq
    · exact (h.lo hq).2.1
    · have := h.bl; omega
  have ks : Kp (fun j => j = b) w1 w2 := by rw [h2]; exact Kp.set (S := fun j => j = b) rfl _
  have hv1 : ∀ k, V k → w1.heap[k]? = w.heap[k]? := fun k e => hk.block k (h.vs k e) (fun e' => h.vl k e' e)
  have hv : ∀ k, V k → w2.heap[k]? = w.heap[k]? := fun k e => (ks.block k (Nat.lt_of_lt_of_le (h.vs k e) hk.size) (fun e' => h.vb (e' ▸ e))).trans (hv1 k e)
  refine ⟨⟨?_, fun x hx => ?_, h.hn, fun x y d hx hy => ?_, ⟨h.ht.1, h.ht.2.kp hv (fun _ e => e)⟩, ?_, h.gi, h.vb, h.vg, ?_, fun k e => Nat.lt_of_lt_of_le (h.vs k e) (Nat.le_trans hk.size ks.size)⟩, ?_⟩
  · have := hb.trans h.hp
    rw [h2]
    simp [World.setCell, Array.getElem?_modify, this]
  · obtain ⟨X, hX⟩ := h.ha x hx
    exact ⟨X, (ks.block (g x) (Nat.lt_of_lt_of_le (h.gl hx) hk.size) (fun e => h.bg hx e.symm)).trans ((hg x hx).trans hX)⟩
  · obtain ⟨q1, q2, q3⟩ := h.hd x y d hx hy
    refine ⟨q1.of_cells fun b' off' i v hi ha hc => ?_, q2, q3⟩
    cases ha
    rw [World.cell?_of_block (a := ⟨d.k, d.off + i, none⟩) (hv d.k q2)]
    exact hc
  · show w2.ownsRow 0 _ 3 (.slice (some ⟨q, 0, none⟩) (S.lg ++ [o]).length cap) (S.lg ++ [o]).length _
    rw [List.length_append, List.length_singleton]
    refine ⟨hl.1, ?_⟩
    rcases hl.2 with q0 | ⟨g', cap', cur, q1, q2, q3, q4⟩
    · exact .inl q0
    · simp only [Value.slice.injEq, Option.some.injEq, Addr.mk.injEq] at q1
      obtain ⟨⟨rfl, -⟩, -, rfl⟩ := q1
      exact .inr ⟨q, cap, cur, rfl, q2, (ks.block q (Array.getElem?_eq_some_iff.1 q3).1 hqb).trans q3, q4⟩
  · intro k e
    simp [Value.ownBlock] at e
    subst e
    rcases hq with hq | hq
    · exact h.vl _ hq
    · exact fun e => by have := h.vs _ e; omega
  · exact (hk.mono (fun i _ e => .inr e)).trans (ks.mono (fun i _ e => .inl e)) (fun _ _ e => e)
end
end Go.Proofs.YtmjlpfmacblcpaaDoor

namespace Go.Proofs.YtmjlpfmacblcpaaDoor
open Go.RowKit Go.Shelf
set_option linter.unusedVariables false
set_option linter.unusedSimpArgs false
structure Rw22 (w : World) (u b : Nat) (ha : Option Addr) (hc : Nat) (P : Pw22) : Prop where
  hu : w.heap[u]? = some (.cells #[.pointer (some ⟨b, 0, none⟩), .int .i64 P.ar, .slice ha P.bf.length hc, .int .i64 (P.wn : Int), .int .i64 (P.pn : Int), .int .i64 (if P.cl = 221 then 0 else P.cl), .bool (decide (P.cl = 221))] 252 (0, 0))
  ow : w.ownsRow 0 5 1 (.slice ha P.bf.length hc) P.bf.length (P.bf.map (Value.int .u8))
  ne : ∀ k, (Value.slice ha P.bf.length hc).ownBlock = some k → k ≠ u
  bd : ∀ y ∈ P.bf, 0 ≤ y ∧ y ≤ 255
theorem Rw22.cel {w : World} {u b : Nat} {ha : Option Addr} {hc : Nat} {P : Pw22} (h : Rw22 w u b ha hc P) {i : Nat} {v : Value} (hi : (#[.pointer (some ⟨b, 0, none⟩), .int .i64 P.ar, .slice ha P.bf.length hc, .int .i64 (P.wn : Int), .int .i64 (P.pn : Int), .int .i64 (if P.cl = 221 then 0 else P.cl), .bool (decide (P.cl = 221))] : Array Value)[i]? = some v) : w.cell? ⟨u, i, none⟩ = some v := by
  simp only [World.cell?, h.hu]; exact hi
end Go.Proofs.YtmjlpfmacblcpaaDoor

namespace Go.Proofs.YtmjlpfmacblcpaaDoor
open Go.RowKit Go.Shelf
set_option linter.unusedVariables false
set_option linter.unusedSimpArgs false
section
variable {w w' : World} {v s g b pg : Nat} {F : Nat → Prop} {S : Fs21} {P P' : Pw22}
theorem seven_set22 {w : World} {b : Nat} {x0 x1 x2 x3 x4 x5 x6 : Value} {t : TypeId} (h : w.heap[b]? = some (.cells #[x0, x1, x2, x3, x4, x5, x6] t (0, 0))) (u : Value) :
    (w.setCell ⟨b, 3, none⟩ u).heap[b]? = some (.cells #[x0, x1, x2, u, x4, x5, x6] t (0, 0)) ∧ (w.setCell ⟨b, 4, none⟩ u).heap[b]? = some (.cells #[x0, x1, x2, x3, u, x5, x6] t (0, 0)) ∧ (w.setCell ⟨b, 5, none⟩ u).heap[b]? = some (.cells #[x0, x1, x2, x3, x4, u, x6] t (0, 0)) ∧ (w.setCell ⟨b, 6, none⟩ u).heap[b]? = some (.cells #[x0, x1, x2, x3, x4, x5, u] t (0, 0)) := by
  simp [World.setCell, Array.getElem?_modify, h]
theorem set_other22 (w : World) {s i k : Nat} (u : Value) (h : k ≠ s) : (w.setCell ⟨s, i, none⟩ u).heap[k]? = w.heap[k]? := by
  have h' : ¬ s = k := fun e => h e.symm
  simp [World.setCell, Array.getElem?_modify, h']
theorem Pe22.put (h : Pe22 w v s g b F S P) (hk : Kp (fun k => k = s ∨ k = g) w w') (hw : Wr22 w' v s g b S.pg P') : Pn22 w w' v s g b F S P' := by
  refine ⟨F, ⟨h.fl.kp (fun k e => ?_) hk.size, hw, h.nv, h.ns, h.ng⟩, fun _ e => .inl e, hk.mono (fun i _ e => .inr e)⟩
  have hlt : k < w.heap.size := by
    obtain ⟨m, c, f, ta, tc, la, lc, V, h1, h2, h3, h4, h5, h6⟩ := h.fl
    exact h6 k e
  refine hk.block k hlt (fun q => ?_)
  rcases q with q | q
  · exact h.ns (q ▸ e)
  · exact h.ng (q ▸ e)
def mx22 (S : Fs21) : Nat := S.pg * S.ps
end
end Go.Proofs.YtmjlpfmacblcpaaDoor

namespace Go.Proofs.YtmjlpfmacblcpaaDoor
open Go.RowKit Go.Shelf
set_option linter.unusedVariables false
set_option linter.unusedSimpArgs false
def lyE22 (S : Fs21) (P : Pw22) : Int := if erE21 S P.ar (P.pn : Int) ≠ 0 then erE21 S P.ar (P.pn : Int) else pgE21 (erS21 S P.ar (P.pn : Int)) P.ar (P.pn : Int) P.bf.length
def lyS22 (S : Fs21) (P : Pw22) : Fs21 := if erE21 S P.ar (P.pn : Int) ≠ 0 then erS21 S P.ar (P.pn : Int) else pgS21 (erS21 S P.ar (P.pn : Int)) P.ar (P.pn : Int) P.bf
def lyP22 (S : Fs21) (P : Pw22) : Pw22 := if lyE22 S P ≠ 0 then { P with cl := lyE22 S P } else { P with pn := P.pn + 1, bf := [] }
section
variable {w w' : World} {v s g b pg : Nat} {F : Nat → Prop} {S : Fs21} {P P' : Pw22}
end
end Go.Proofs.YtmjlpfmacblcpaaDoor

namespace Go.Proofs.YtmjlpfmacblcpaaDoor
open Go.RowKit Go.Shelf
set_option linter.unusedVariables false
set_option linter.unusedSimpArgs false
structure Rh22 (w : World) (u b : Nat) (G H : Nat → Prop) (ha : Option Addr) (hc : Nat) (S : Fs21) (P : Pw22) : Prop where
  fl : Rl21d w b G S
  wr : Rw22 w u b ha hc P
  nu : ¬ G u
  nh : ∀ k, (Value.slice ha P.bf.length hc).ownBlock = some k → ¬ G k
  gH : ∀ k, G k → H k
  uH : H u
  hH : ∀ k, (Value.slice ha P.bf.length hc).ownBlock = some k → H k
  lt : ∀ k, H k → k < w.heap.size
def Re22 (w : World) (u b : Nat) (H : Nat → Prop) (S : Fs21) (P : Pw22) : Prop := ∃ G ha hc, Rh22 w u b G H ha hc S P
def Ren22 (w w' : World) (u b : Nat) (H : Nat → Prop) (S' : Fs21) (P' : Pw22) : Prop := ∃ H', Re22 w' u b H' S' P' ∧ (∀ k, H' k → H k ∨ w.heap.size ≤ k) ∧ Kp H w w'
section
variable {w w' : World} {u b : Nat} {G H : Nat → Prop} {ha : Option Addr} {hc : Nat} {S S' : Fs21} {P P' : Pw22}
theorem Rw22.kp (h : Rw22 w u b ha hc P) (h1 : w'.heap[u]? = w.heap[u]?) (h2 : ∀ k, (Value.slice ha P.bf.length hc).ownBlock = some k → w'.heap[k]? = w.heap[k]?) : Rw22 w' u b ha hc P := by
  refine ⟨h1.trans h.hu, ⟨h.ow.1, ?_⟩, h.ne, h.bd⟩
  rcases h.ow.2 with q | ⟨q, cap, cur, q1, q2, q3, q4⟩
  · exact .inl q
  · exact .inr ⟨q, cap, cur, q1, q2, (h2 q (by rw [q1]; rfl)).trans q3, q4⟩
theorem Rw22.seg (h : Rw22 w u b ha hc P) : Seg w ha P.bf := by
  obtain ⟨-, a, cap, e, hs, -⟩ := own_seg h.ow (M := 255) (by decide) h.bd
  cases e
  exact hs
/-- What a call of the document's flash leaves of a writer over it. -/
theorem Rh22.flash (h : Rh22 w u b G H ha hc S P) (hn : Rn21 w w' b G S') : ∃ G' H', Rh22 w' u b G' H' ha hc S' P ∧ (∀ k, H' k → H k ∨ w.heap.size ≤ k) ∧ Kp H w w' := by
  obtain ⟨G', g1, g2, g3⟩ := hn
  have hul := h.lt u h.uH
  refine ⟨G', fun k => G' k ∨ k = u ∨ (Value.slice ha P.bf.length hc).ownBlock = some k, ⟨g1, h.wr.kp (g3.block u hul h.nu) (fun k e => g3.block k (h.lt k (h.hH k e)) (h.nh k e)), ?_, fun k e q => ?_, fun k e => .inl e, .inr (.inl rfl), fun k e => .inr (.inr e), ?_⟩, ?_, g3.mono (fun i _ e => h.gH i e)⟩
  · intro q
    rcases g2 u q with q | q
    · exact h.nu q
    · omega
  · rcases g2 k q with q | q
    · exact h.nh k e q
    · have := h.lt k (h.hH k e); omega
  · rintro k (e | rfl | e)
    · exact g1.lts k e
    · exact Nat.lt_of_lt_of_le hul g3.size
    · exact Nat.lt_of_lt_of_le (h.lt k (h.hH k e)) g3.size
  · rintro k (e | rfl | e)
    · rcases g2 k e with q | q
      · exact .inl (h.gH k q)
      · exact .inr q
    · exact .inl h.uH
    · exact .inl (h.hH k e)
end
end Go.Proofs.YtmjlpfmacblcpaaDoor

namespace Go.Proofs.YtmjlpfmacblcpaaDoor
open Go.RowKit Go.Shelf
set_option linter.unusedVariables false
set_option linter.unusedSimpArgs false
section
variable {w w' : World} {u b : Nat} {G H : Nat → Prop} {ha : Option Addr} {hc : Nat} {S S' : Fs21} {P P' : Pw22}
theorem own_tr22 {N n : Nat} {e : TypeId} {k : Nat} {v : Value} {xs : List Value} (h : w.ownsRow N e k v n xs) (hk : ∀ r, v.ownBlock = some r → w'.heap[r]? = w.heap[r]?) : w'.ownsRow N e k v n xs := by
  refine ⟨h.1, ?_⟩
  rcases h.2 with q | ⟨q, cap, cur, q1, q2, q3, q4⟩
  · exact .inl q
  · exact .inr ⟨q, cap, cur, q1, q2, (hk q (by rw [q1]; rfl)).trans q3, q4⟩
theorem Rw22.setF (h : Rw22 w u b ha hc P) (h0 : P.cl = 0) (x : Int) (hx : x ≠ 221) : Rw22 (w.setCell ⟨u, 5, none⟩ (.int .i64 x)) u b ha hc { P with cl := x } := by
  refine ⟨?_, own_tr22 h.ow (fun r hr => set_other22 w _ (h.ne r hr)), h.ne, h.bd⟩
  have q := (seven_set22 h.hu (.int .i64 x)).2.2.1
  have e1 : (if x = 221 then 0 else x) = x := if_neg hx
  have e2 : decide (P.cl = 221) = decide (x = 221) := by rw [h0]; simp [hx]
  rw [e2] at q
  show (w.setCell ⟨u, 5, none⟩ (.int .i64 x)).heap[u]? = some (.cells #[_, _, _, _, _, .int .i64 (if x = 221 then 0 else x), .bool (decide (x = 221))] _ _)
  rw [e1]
  exact q
theorem Rw22.setN (h : Rw22 w u b ha hc P) (n : Nat) : Rw22 ((w.setCell ⟨u, 4, none⟩ (.int .i64 (n : Int))).setCell ⟨u, 2, none⟩ (.slice none 0 0)) u b none 0 { P with pn := n, bf := [] } := by
  refine ⟨?_, World.ownsRow_nil _ _ _ _, fun k e => by simp [Value.ownBlock] at e, by simp⟩
  have q := (seven_set22 h.hu (.int .i64 (n : Int))).2.1
  simp [World.setCell, Array.getElem?_modify, h.hu]
theorem Rh22.fail (h : Rh22 w u b G H ha hc S P) (h0 : P.cl = 0) (x : Int) (hx : x ≠ 221) : Ren22 w (w.setCell ⟨u, 5, none⟩ (.int .i64 x)) u b H S { P with cl := x } := by
  have hk : Kp H w (w.setCell ⟨u, 5, none⟩ (.int .i64 x)) := Kp.set h.uH _
  refine ⟨H, ⟨G, ha, hc, ⟨h.fl.kp (fun k e => set_other22 w _ (fun q => h.nu (q ▸ e))) hk.size, h.wr.setF h0 x hx, h.nu, h.nh, h.gH, h.uH, h.hH, fun k e => Nat.lt_of_lt_of_le (h.lt k e) hk.size⟩⟩, fun _ e => .inl e, hk⟩
theorem Rh22.next (h : Rh22 w u b G H ha hc S P) (n : Nat) : Ren22 w ((w.setCell ⟨u, 4, none⟩ (.int .i64 (n : Int))).setCell ⟨u, 2, none⟩ (.slice none 0 0)) u b H S { P with pn := n, bf := [] } := by
  have hk : Kp H w ((w.setCell ⟨u, 4, none⟩ (.int .i64 (n : Int))).setCell ⟨u, 2, none⟩ (.slice none 0 0)) := (Kp.set h.uH _).trans (Kp.set h.uH _) (fun _ _ e => e)
  refine ⟨H, ⟨G, none, 0, ⟨h.fl.kp (fun k e => ?_) hk.size, h.wr.setN n, h.nu, fun k e => by simp [Value.ownBlock] at e, h.gH, h.uH, fun k e => by simp [Value.ownBlock] at e, fun k e => Nat.lt_of_lt_of_le (h.lt k e) hk.size⟩⟩, fun _ e => .inl e, hk⟩
  have hne : k ≠ u := fun q => h.nu (q ▸ e)
  rw [set_other22 _ _ hne, set_other22 _ _ hne]
theorem Ren22.cons {w1 w2 : World} {H1 : Nat → Prop} (f1 : ∀ k, H1 k → H k ∨ w.heap.size ≤ k) (k1 : Kp H w w1) (h : Ren22 w1 w2 u b H1 S' P') : Ren22 w w2 u b H S' P' := by
  obtain ⟨H2, h1, h2, h3⟩ := h
  refine ⟨H2, h1, fun k e => ?_, k1.trans h3 (fun i hi e => ?_)⟩
  · rcases h2 k e with q | q
    · exact f1 k q
    · exact .inr (Nat.le_trans k1.size q)
  · rcases f1 i e with q | q
    · exact q
    · omega
end
end Go.Proofs.YtmjlpfmacblcpaaDoor
