import Derived.Test.YtmjlpfmacblcpaaDoorPf
import Derived.Test.YtmjlpfmacblcpaaDoorPe
import Derived.Deep.OwnRows
import Derived.Deep.RegionHeld3
import Derived.Test.YtmjlpfmacblcpaaDoorProg
import Derived.WalkKit
import Derived.Lib.BitFns
import Derived.Laws.BitsAllLaws
import Derived.Test.YtmjlpfmacblcpaaDoorPa
import Derived.WalkSpells
import Derived.WalkLawsBesides
namespace Go.Proofs.YtmjlpfmacblcpaaDoor
open Go.RowKit Go.Shelf
set_option linter.unusedVariables false
set_option linter.unusedSimpArgs false
structure Pd21 where
  k : Nat
  off : Nat
  c : Nat
  b : List Int
  er : Bool
  wr : Int
def pdc21 (d : Pd21) : List Value := [.slice (some ⟨d.k, d.off, none⟩) d.b.length d.c, .bool d.er, .int .i64 d.wr]
def pdl21 (L : List Pd21) : List Value := L.flatMap pdc21
theorem pdl21_len (L : List Pd21) : (pdl21 L).length = L.length * 3 := by
  unfold pdl21
  induction L with
  | nil => rfl
  | cons d L ih => rw [List.flatMap_cons, List.length_append, ih]; simp [pdc21]; omega
theorem pdl21_app (L : List Pd21) (d : Pd21) : pdl21 (L ++ [d]) = pdl21 L ++ pdc21 d := by simp [pdl21]
theorem pdl21_get : ∀ (L : List Pd21) (y : Nat) (d : Pd21), L[y]? = some d → (pdl21 L)[y * 3]? = some (.slice (some ⟨d.k, d.off, none⟩) d.b.length d.c) ∧ (pdl21 L)[y * 3 + 1]? = some (.bool d.er) ∧ (pdl21 L)[y * 3 + 2]? = some (.int .i64 d.wr)
  | [], y, d, h => by simp at h
  | e :: L, 0, d, h => by simp at h; subst h; simp [pdl21, pdc21]
  | e :: L, y + 1, d, h => by
    have ih := pdl21_get L y d (by simpa using h)
    have e0 : pdl21 (e :: L) = pdc21 e ++ pdl21 L := by simp [pdl21]
    have hl : (pdc21 e).length = 3 := rfl
    rw [e0, show (y + 1) * 3 = 3 + y * 3 by omega]
    refine ⟨?_, ?_, ?_⟩
    · rw [List.getElem?_append_right (by omega), hl]; simpa using ih.1
    · rw [List.getElem?_append_right (by omega), hl, show 3 + y * 3 + 1 - 3 = y * 3 + 1 by omega]; exact ih.2.1
    · rw [List.getElem?_append_right (by omega), hl, show 3 + y * 3 + 2 - 3 = y * 3 + 2 by omega]; exact ih.2.2
theorem set_app21 {α : Type} : ∀ (A B : List α) (j : Nat) (x : α), (A ++ B).set (A.length + j) x = A ++ B.set j x
  | [], B, j, x => by simp
  | a :: A, B, j, x => by
    rw [List.cons_append, List.length_cons, show A.length + 1 + j = (A.length + j) + 1 by omega, List.set_cons_succ, set_app21 A B j x]
    rfl
theorem pdl21_set : ∀ (L : List Pd21) (y : Nat) (d d' : Pd21), L[y]? = some d → pdl21 (L.set y d') = (((pdl21 L).set (y * 3) (.slice (some ⟨d'.k, d'.off, none⟩) d'.b.length d'.c)).set (y * 3 + 1) (.bool d'.er)).set (y * 3 + 2) (.int .i64 d'.wr)
  | [], y, d, d', h => by simp at h
  | e :: L, 0, d, d', h => by simp at h; subst h; simp [pdl21, pdc21]
  | e :: L, y + 1, d, d', h => by
    have ih := pdl21_set L y d d' (by simpa using h)
    have e0 : ∀ M, pdl21 (e :: M) = pdc21 e ++ pdl21 M := fun M => by simp [pdl21]
    have hl : (pdc21 e).length = 3 := rfl
    rw [List.set_cons_succ, e0, e0, ih, show (y + 1) * 3 = 3 + y * 3 by omega]
    rw [← hl, Nat.add_assoc, Nat.add_assoc, set_app21, set_app21, set_app21]
def fb21 (S : Fs21) (x y : Int) : List Int := (sh21 S x y).b ++ List.replicate (S.pg - (sh21 S x y).b.length) 255
theorem fb21_len {S : Fs21} (h : Ok21 S) (x y : Int) : (fb21 S x y).length = S.pg := by
  have := (sh21_ok h x y).1
  simp [fb21]; omega
structure Rf21 (w : World) (b : Nat) (g c : Nat → Nat) (A : Nat → List Pd21) (tn : List Int) (ta : Option Addr) (tc : Nat) (la : Option Addr) (lc : Nat) (V : Nat → Prop) (S : Fs21) : Prop where
  hp : w.heap[b]? = some (.cells #[.int .i64 (S.pg : Int), .int .i64 (S.ps : Int), .int .i64 S.ac, .slice (some ⟨g 0, 0, none⟩) (A 0).length (c 0), .slice (some ⟨g 1, 0, none⟩) (A 1).length (c 1), .slice (some ⟨g 2, 0, none⟩) (A 2).length (c 2), .slice la S.lg.length lc, .bool (!S.on), .int .i64 S.lf, .slice ta tn.length tc, .int .i64 S.lm] 107 (0, 0))
  ha : ∀ x, x < 3 → ∃ X : List Value, w.heap[g x]? = some (.cells (pdl21 (A x) ++ X).toArray 110 (0, 0))
  hn : ∀ x : Nat, x < 3 → ((A x).length : Int) = pn21 S.ps (x : Int) ∧ (A x).length ≤ c x
  hd : ∀ (x y : Nat) (d : Pd21), x < 3 → (A x)[y]? = some d → Seg w (some ⟨d.k, d.off, none⟩) d.b ∧ V d.k ∧ d.b = fb21 S (x : Int) (y : Int) ∧ d.er = (sh21 S (x : Int) (y : Int)).er ∧ d.wr = (sh21 S (x : Int) (y : Int)).wr ∧ d.b.length ≤ d.c
  ht : (S.lf ≠ 0 → tn = S.tn) ∧ Sl21 w V ta tn tc
  hl : w.ownsRow 0 177 3 (.slice la S.lg.length lc) S.lg.length (lgc21 S.lg)
  gi : g 0 ≠ g 1 ∧ g 0 ≠ g 2 ∧ g 1 ≠ g 2
  vb : ¬ V b
  vg : ∀ x, x < 3 → ¬ V (g x)
  vl : ∀ k, (Value.slice la S.lg.length lc).ownBlock = some k → ¬ V k
  vs : ∀ k, V k → k < w.heap.size
section
variable {w w' : World} {b : Nat} {g c : Nat → Nat} {A : Nat → List Pd21} {tn : List Int} {ta : Option Addr} {tc : Nat} {la : Option Addr} {lc : Nat} {V V' : Nat → Prop} {S S' : Fs21}
theorem Rf21.bl (h : Rf21 w b g c A tn ta tc la lc V S) : b < w.heap.size := (Array.getElem?_eq_some_iff.1 h.hp).1
theorem Rf21.gl (h : Rf21 w b g c A tn ta tc la lc V S) {x : Nat} (hx : x < 3) : g x < w.heap.size := by
  obtain ⟨X, hX⟩ := h.ha x hx
  exact (Array.getElem?_eq_some_iff.1 hX).1
theorem Rf21.bg (h : Rf21 w b g c A tn ta tc la lc V S) {x : Nat} (hx : x < 3) : b ≠ g x := fun e => by
  obtain ⟨X, hX⟩ := h.ha x hx
  have := h.hp
  rw [e, hX] at this
  injection this with h2
  injection h2 with _ h3 _
  exact absurd h3 (by decide)
theorem Rf21.lo (h : Rf21 w b g c A tn ta tc la lc V S) {k : Nat} (hk : (Value.slice la S.lg.length lc).ownBlock = some k) : k < w.heap.size ∧ k ≠ b ∧ ∀ x, x < 3 → k ≠ g x := by
  rcases h.hl.2 with ⟨h1, h2⟩ | ⟨q, cap, cur, h1, h2, h3, h4⟩
  · rw [h1] at hk; cases hk
  · rw [h1] at hk
    simp [Value.ownBlock] at hk
    subst hk
    refine ⟨(Array.getElem?_eq_some_iff.1 h3).1, fun e => ?_, fun x hx e => ?_⟩
    · have := h.hp
      rw [← e, h3] at this
      injection this with h2
      injection h2 with _ h3 _
      exact absurd h3 (by decide)
    · obtain ⟨X, hX⟩ := h.ha x hx
      rw [← e, h3] at hX
      injection hX with h2
      injection h2 with _ h3 _
      exact absurd h3 (by decide)
theorem Rf21.kp (h : Rf21 w b g c A tn ta tc la lc V S) (h1 : w'.heap[b]? = w.heap[b]?) (h2 : ∀ x, x < 3 → w'.heap[g x]? = w.heap[g x]?) (h3 : ∀ k, (Value.slice la S.lg.length lc).ownBlock = some k → w'.heap[k]? = w.heap[k]?) (h4 : ∀ k, V k → w'.heap[k]? = w.heap[k]?) (h5 : w.heap.size ≤ w'.heap.size) : Rf21 w' b g c A tn ta tc la lc V S := by
  refine ⟨h1.trans h.hp, fun x hx => ?_, h.hn, fun x y d hx hy => ?_, ⟨h.ht.1, h.ht.2.kp h4 (fun _ e => e)⟩, ?_, h.gi, h.vb, h.vg, h.vl, fun k e => Nat.lt_of_lt_of_le (h.vs k e) h5⟩
  · obtain ⟨X, hX⟩ := h.ha x hx
    exact ⟨X, (h2 x hx).trans hX⟩
  · obtain ⟨q1, q2, q3⟩ := h.hd x y d hx hy
    refine ⟨q1.of_cells fun b' off' i v hi ha hc => ?_, q2, q3⟩
    cases ha
    rw [World.cell?_of_block (a := ⟨d.k, d.off + i, none⟩) (h4 d.k q2)]
    exact hc
  · refine ⟨h.hl.1, ?_⟩
    rcases h.hl.2 with q | ⟨q, cap, cur, q1, q2, q3, q4⟩
    · exact .inl q
    · exact .inr ⟨q, cap, cur, q1, q2, (h3 q (by rw [q1]; rfl)).trans q3, q4⟩
theorem Rf21.old (h : Rf21 w b g c A tn ta tc la lc V S) (hb : Below w.heap.size w w') : Rf21 w' b g c A tn ta tc la lc V S :=
  h.kp (hb.block b h.bl) (fun x hx => hb.block _ (h.gl hx)) (fun k e => hb.block k (h.lo e).1) (fun k e => hb.block k (h.vs k e)) hb.size
theorem Rf21.cel (h : Rf21 w b g c A tn ta tc la lc V S) {i : Nat} {v : Value} (hi : (#[.int .i64 (S.pg : Int), .int .i64 (S.ps : Int), .int .i64 S.ac, .slice (some ⟨g 0, 0, none⟩) (A 0).length (c 0), .slice (some ⟨g 1, 0, none⟩) (A 1).length (c 1), .slice (some ⟨g 2, 0, none⟩) (A 2).length (c 2), .slice la S.lg.length lc, .bool (!S.on), .int .i64 S.lf, .slice ta tn.length tc, .int .i64 S.lm] : Array Value)[i]? = some v) : w.cell? ⟨b, i, none⟩ = some v := by
  simp only [World.cell?, h.hp]; exact hi
theorem Rf21.fr (h : Rf21 w b g c A tn ta tc la lc V S) (i : Nat) : w.frozen? ⟨b, i, none⟩ = false := by simp [World.frozen?, h.hp]
theorem Rf21.frg (h : Rf21 w b g c A tn ta tc la lc V S) {x : Nat} (hx : x < 3) (i : Nat) : w.frozen? ⟨g x, i, none⟩ = false := by
  obtain ⟨X, hX⟩ := h.ha x hx
  simp [World.frozen?, hX]
theorem Rf21.car (h : Rf21 w b g c A tn ta tc la lc V S) {x : Nat} (hx : x < 3) : w.cell? ⟨b, 3 + x, none⟩ = some (.slice (some ⟨g x, 0, none⟩) (A x).length (c x)) := by
  rcases (show x = 0 ∨ x = 1 ∨ x = 2 by omega) with rfl | rfl | rfl
  · exact h.cel (i := 3) rfl
  · exact h.cel (i := 4) rfl
  · exact h.cel (i := 5) rfl
theorem Rf21.pgc (h : Rf21 w b g c A tn ta tc la lc V S) {x y : Nat} {d : Pd21} (hx : x < 3) (hy : (A x)[y]? = some d) : w.cell? ⟨g x, y * 3, none⟩ = some (.slice (some ⟨d.k, d.off, none⟩) d.b.length d.c) ∧ w.cell? ⟨g x, y * 3 + 1, none⟩ = some (.bool d.er) ∧ w.cell? ⟨g x, y * 3 + 2, none⟩ = some (.int .i64 d.wr) := by
  obtain ⟨X, hX⟩ := h.ha x hx
  have hl := pdl21_len (A x)
  have hlt : y < (A x).length := by
    rcases Nat.lt_or_ge y (A x).length with q | q
    · exact q
    · rw [List.getElem?_eq_none q] at hy; cases hy
  obtain ⟨e1, e2, e3⟩ := pdl21_get (A x) y d hy
  simp only [World.cell?, hX]
  simp only [List.getElem?_toArray]
  refine ⟨?_, ?_, ?_⟩
  · rw [List.getElem?_append_left (by omega)]; exact e1
  · rw [List.getElem?_append_left (by omega)]; exact e2
  · rw [List.getElem?_append_left (by omega)]; exact e3
end
/-- The document's flash over a footprint. -/
def Rl21d (w : World) (b : Nat) (G : Nat → Prop) (S : Fs21) : Prop := ∃ g c A tn ta tc la lc V, Rf21 w b g c A tn ta tc la lc V S ∧ G b ∧ (∀ x, x < 3 → G (g x)) ∧ (∀ k, (Value.slice la S.lg.length lc).ownBlock = some k → G k) ∧ (∀ k, V k → G k) ∧ (∀ k, G k → k < w.heap.size)
def Rn21 (w w' : World) (b : Nat) (G : Nat → Prop) (S' : Fs21) : Prop := ∃ G', Rl21d w' b G' S' ∧ (∀ k, G' k → G k ∨ w.heap.size ≤ k) ∧ Kp G w w'
section
variable {w w' : World} {b : Nat} {G : Nat → Prop} {S S' : Fs21}
theorem Rl21d.old (h : Rl21d w b G S) (hb : Below w.heap.size w w') : Rl21d w' b G S := by
  obtain ⟨g, c, A, tn, ta, tc, la, lc, V, h1, h2, h3, h4, h5, h6⟩ := h
  exact ⟨g, c, A, tn, ta, tc, la, lc, V, h1.old hb, h2, h3, h4, h5, fun k e => Nat.lt_of_lt_of_le (h6 k e) hb.size⟩
theorem Rl21d.kp (h : Rl21d w b G S) (hk : ∀ k, G k → w'.heap[k]? = w.heap[k]?) (hs : w.heap.size ≤ w'.heap.size) : Rl21d w' b G S := by
  obtain ⟨g, c, A, tn, ta, tc, la, lc, V, h1, h2, h3, h4, h5, h6⟩ := h
  exact ⟨g, c, A, tn, ta, tc, la, lc, V, h1.kp (hk b h2) (fun x hx => hk _ (h3 x hx)) (fun k e => hk k (h4 k e)) (fun k e => hk k (h5 k e)) hs, h2, h3, h4, h5, fun k e => Nat.lt_of_lt_of_le (h6 k e) hs⟩
theorem Rl21d.stay (h : Rl21d w b G S) (hb : Below w.heap.size w w') : Rn21 w w' b G S := ⟨G, h.old hb, fun _ e => .inl e, Kp.of_below hb⟩
theorem Rl21d.lts (h : Rl21d w b G S) : ∀ k, G k → k < w.heap.size := by
  obtain ⟨g, c, A, tn, ta, tc, la, lc, V, h1, h2, h3, h4, h5, h6⟩ := h
  exact h6
theorem Rn21.from {w1 : World} (h : Rn21 w1 w' b G S) (hb : Below w.heap.size w w1) : Rn21 w w' b G S := by
  obtain ⟨F', h1, h2, h3⟩ := h
  exact ⟨F', h1, fun k e => by rcases h2 k e with h | h; (exact .inl h); (exact .inr (Nat.le_trans hb.size h)), (Kp.of_below hb).trans h3 (fun _ _ e => e)⟩
theorem Rn21.cons {w1 w2 : World} {G1 : Nat → Prop} (f1 : ∀ k, G1 k → G k ∨ w.heap.size ≤ k) (k1 : Kp G w w1) (h : Rn21 w1 w2 b G1 S) : Rn21 w w2 b G S := by
  obtain ⟨G2, h1, h2, h3⟩ := h
  refine ⟨G2, h1, fun x e => ?_, k1.trans h3 (fun i hi e => ?_)⟩
  · rcases h2 x e with q | q
    · exact f1 x q
    · exact .inr (Nat.le_trans k1.size q)
  · rcases f1 i e with q | q
    · exact q
    · omega
end
theorem row_set21 {w : World} {g i : Nat} {X : List Int} {t : TypeId} (h : w.heap[g]? = some (.cells (X.map (Value.int .u8)).toArray t (0, 0))) (y : Int) : (w.setCell ⟨g, i, none⟩ (.int .u8 y)).heap[g]? = some (.cells ((X.set i y).map (Value.int .u8)).toArray t (0, 0)) := by
  simp [World.setCell, Array.getElem?_modify, h, List.map_set]
theorem run_mk21d (n : Nat) (h : n ≤ 281474976710656) (w : World) :
    (Instr.makeSlice 22 (.int .i64 (n : Int)) (.int .i64 (n : Int))).run Tryd.prog w = .ok (.slice (some ⟨w.heap.size, 0, none⟩) n n) (w.alloc (.cells ((List.replicate n (0 : Int)).map (Value.int .u8)).toArray 5)) := by
  have e : madeCells #[.int .u8 0] n = ((List.replicate n (0 : Int)).map (Value.int .u8)).toArray := by
    apply Array.toList_inj.1
    rw [toList_madeCells_one]
    simp
  rw [← e]
  exact run_make_row' 22 5 (.int .u8 0) 1 Tryd.underlying22 info_y21 rfl .i64 .i64 n (by omega) (by omega) w
theorem rep_set21 (n i : Nat) (h : i < n) : (List.replicate i (255 : Int) ++ List.replicate (n - i) 0).set i 255 = List.replicate (i + 1) 255 ++ List.replicate (n - (i + 1)) 0 := by
  obtain ⟨m, hm⟩ : ∃ m, n - i = m + 1 := ⟨n - i - 1, by omega⟩
  have e : (List.replicate i (255 : Int) ++ List.replicate (m + 1) (0 : Int)).set i 255 = List.replicate i 255 ++ (List.replicate (m + 1) (0 : Int)).set 0 255 := by
    have q := set_app21 (List.replicate i (255 : Int)) (List.replicate (m + 1) (0 : Int)) 0 255
    rw [List.length_replicate, Nat.add_zero] at q
    exact q
  rw [hm, show n - (i + 1) = m by omega, e, List.replicate_succ, List.set_cons_zero, List.replicate_succ' (n := i)]
  simp
def Bk21 (w : World) (g n : Nat) (e : Ending) (w' : World) : Prop := e = .returned (.slice (some ⟨g, 0, none⟩) n n) ∧ w'.heap[g]? = some (.cells ((List.replicate n (255 : Int)).map (Value.int .u8)).toArray 5 (0, 0)) ∧ Below w.heap.size w w'
set_option maxRecDepth 100000 in
set_option maxHeartbeats 2000000 in
theorem rblk21 (n : Nat) (hn : n ≤ 16777216) (w : World) : Calls Tryd.prog 43 #[.int .i64 (n : Int)] w fun e w' => Bk21 w w.heap.size n e w' := by
  have HMK := run_mk21d n (by omega) w
  obtain ⟨w1, hw1⟩ : ∃ w1, w1 = w.alloc (.cells ((List.replicate n (0 : Int)).map (Value.int .u8)).toArray 5) := ⟨_, rfl⟩
  have HI0 : w1.heap[w.heap.size]? = some (.cells ((List.replicate 0 (255 : Int) ++ List.replicate (n - 0) 0).map (Value.int .u8)).toArray 5 (0, 0)) ∧ Below w.heap.size w w1 := by rw [hw1]; exact ⟨by simpa using heap_alloc_new w _, (Below.refl _ _).alloc (Nat.le_refl _) _⟩
  have HI : Hid (w1.heap[w.heap.size]? = some (.cells ((List.replicate 0 (255 : Int) ++ List.replicate (n - 0) 0).map (Value.int .u8)).toArray 5 (0, 0)) ∧ Below w.heap.size w w1) := HI0
  obtain ⟨gg, hgg⟩ : ∃ gg, gg = w.heap.size := ⟨_, rfl⟩
  have HG : Hid (w.heap.size = gg) := hgg.symm
  rw [← hw1, ← hgg] at HMK
  rw [← hgg] at HI
  clear HI0 hw1 hgg
  go_enter Tryd.func43, Tryd.ntmps43
  go_wp2_with fail
  clear HMK
  go_loopw [9] (fun ti wr => ∃ i : Nat, i ≤ n ∧ ti = .int .i64 (i : Int) ∧ wr.heap[gg]? = some (.cells ((List.replicate i (255 : Int) ++ List.replicate (n - i) 0).map (Value.int .u8)).toArray 5 (0, 0)) ∧ Below gg w wr) (fun ti _ => n - (intOf ti).toNat)
  case atStart => exact ⟨0, by omega, rfl, HI.out.1, HI.out.2⟩
  case round =>
    obtain ⟨i, hi, rfl, hr, hb⟩ := hrel
    by_cases hlt : i < n
    · have hii : (i : Int) < (n : Int) := by omega
      have hiw : IntKind.i64.wrap ((i : Int) + 1) = ((i + 1 : Nat) : Int) := by rw [IntWalk.i64_in _ (by omega)]; omega
      have hx : ∃ x, wr.cell? ⟨gg, i, none⟩ = some x := by
        simp only [World.cell?, hr]
        exact ⟨_, Array.getElem?_eq_getElem (by simp; omega)⟩
      obtain ⟨x, hx⟩ := hx
      have hf : wr.frozen? ⟨gg, i, none⟩ = false := by simp [World.frozen?, hr]
      have HR : Hid (wr.heap[gg]? = some (.cells ((List.replicate i (255 : Int) ++ List.replicate (n - i) 0).map (Value.int .u8)).toArray 5 (0, 0))) := hr
      have HB : Hid (Below gg w wr) := hb
      clear hr hb
      go_wp2_with fail
      go_roundw
      case rel =>
        refine ⟨i + 1, by omega, by go_num, ?_, ?_⟩
        · have := row_set21 HR.out (i := i) 255
          rw [rep_set21 n i hlt] at this
          exact this
        · have hk : Kp (fun k => k = gg) wr (wr.setCell ⟨gg, i, none⟩ (.int .u8 255)) := Kp.set (S := fun k => k = gg) rfl _
          exact HB.out.trans (hk.below (fun i e => by omega) (by have := HB.out.size; have := HG.out; omega))
      case measure => simp [intOf]; omega
    · obtain rfl : i = n := by omega
      have hii : ¬ (i : Int) < (i : Int) := by omega
      have HR : Hid (wr.heap[gg]? = some (.cells ((List.replicate i (255 : Int) ++ List.replicate (i - i) 0).map (Value.int .u8)).toArray 5 (0, 0))) := hr
      have HB : Hid (Below gg w wr) := hb
      clear hr hb
      go_wp2_with fail
      go_ret
      have := HG.out
      subst this
      exact ⟨rfl, by simpa using HR.out, HB.out⟩
end Go.Proofs.YtmjlpfmacblcpaaDoor

namespace Go.Proofs.YtmjlpfmacblcpaaDoor
open Go.RowKit
set_option linter.unusedVariables false
theorem tab_size : (Lib.len8tab.size : Int) = 256 := by rw [Lib.len8tab_size]; rfl
/-- One way's end: the table's number behind so many bits. -/
theorem len_end (k a : Nat) (y : Int) (h : y.toNat < Lib.len8tab.size) (h0 : 0 ≤ y) (h1 : y ≤ 255) (hk : k ≤ 56) (ha : a = k + Lib.bitLen y.toNat) : wrap64 ((k : Int) + wrap64 ((Lib.len8tab[y.toNat]'h).toNat : Int)) = (a : Int) := by
  have e : ((Lib.len8tab[y.toNat]'h).toNat : Int) = Lib.len8 y := by
    unfold Lib.len8
    rw [getElem?_pos Lib.len8tab y.toNat h]
    rfl
  have l := Lib.bitLen_le8' y h0 h1
  rw [e, Lib.len8_of y h0 h1, ha]
  unfold wrap64
  omega
theorem len_end0 (a : Nat) (y : Int) (h : y.toNat < Lib.len8tab.size) (h0 : 0 ≤ y) (h1 : y ≤ 255) (ha : a = Lib.bitLen y.toNat) : wrap64 (wrap64 ((Lib.len8tab[y.toNat]'h).toNat : Int)) = (a : Int) := by
  have := len_end 0 a y h h0 h1 (by omega) (by omega)
  simpa using this

theorem shift_to (x : Int) (d k : Nat) (h0 : 0 ≤ x) (h : Lib.bitLen x.toNat = k + Lib.bitLen (x.toNat / d)) (y : Int) (hy : y.toNat = x.toNat / d) : Lib.bitLen x.toNat = k + Lib.bitLen y.toNat := by rw [hy]; exact h

set_option maxHeartbeats 1000000 in
set_option maxRecDepth 100000 in
theorem len64_any (x : Int) (w : World) (h0 : 0 ≤ x) (h1 : x ≤ 18446744073709551615) :
    Calls Tryd.prog 116 #[.int .u64 x] w fun e w' => e = .returned (.int .i64 (Lib.bitLen x.toNat)) ∧ w' = w := by
  have hsz := tab_size
  go_enter Tryd.func116, Tryd.ntmps116
  go_wp2
  all_goals (go_ret; refine ⟨congrArg Ending.returned (congrArg (Value.int IntKind.i64) ?_), rfl⟩)
  · exact len_end 56 _ _ _ (by omega) (by omega) (by omega) (shift_to x 72057594037927936 56 h0 (Lib.bitLen_shift56 _ (by omega) (by omega)) _ (by omega))
  · exact len_end 48 _ _ _ (by omega) (by omega) (by omega) (shift_to x 281474976710656 48 h0 (Lib.bitLen_shift48 _ (by omega) (by omega)) _ (by omega))
  · exact len_end 40 _ _ _ (by omega) (by omega) (by omega) (shift_to x 1099511627776 40 h0 (Lib.bitLen_shift40 _ (by omega) (by omega)) _ (by omega))
  · exact len_end 32 _ _ _ (by omega) (by omega) (by omega) (shift_to x 4294967296 32 h0 (Lib.bitLen_shift32 _ (by omega) (by omega)) _ (by omega))
  · exact len_end 24 _ _ _ (by omega) (by omega) (by omega) (shift_to x 16777216 24 h0 (Lib.bitLen_shift24 _ (by omega) (by omega)) _ (by omega))
  · exact len_end 16 _ _ _ (by omega) (by omega) (by omega) (shift_to x 65536 16 h0 (Lib.bitLen_shift16 _ (by omega) (by omega)) _ (by omega))
  · exact len_end 8 _ _ _ (by omega) (by omega) (by omega) (shift_to x 256 8 h0 (Lib.bitLen_shift8 _ (by omega) (by omega)) _ (by omega))
  · exact len_end0 _ _ _ (by omega) (by omega) rfl
end Go.Proofs.YtmjlpfmacblcpaaDoor

namespace Go.Proofs.YtmjlpfmacblcpaaDoor
open Go.RowKit
set_option linter.unusedVariables false
theorem pow128 (c : Nat) : (128 : Int) ^ c = 2 ^ (7 * c) := by
  rw [Int.pow_mul]; rfl
theorem pow128_pos (c : Nat) : (0 : Int) < 128 ^ c := Int.pow_pos (by decide)
theorem pow128_mono {a b : Nat} (h : a ≤ b) : (128 : Int) ^ a ≤ 128 ^ b := by
  have := Nat.pow_le_pow_right (n := 128) (by decide) h
  have e : ∀ k : Nat, (128 : Int) ^ k = ((128 ^ k : Nat) : Int) := fun k => by simp
  rw [e, e]; omega
theorem pow128_8 : (128 : Int) ^ 8 = 72057594037927936 := by decide
theorem pow128_9 : (128 : Int) ^ 9 = 9223372036854775808 := by decide

theorem and127 (x : Int) (h0 : 0 ≤ x) (h1 : x ≤ 255) : bits .and .u8 x 127 = x % 128 := by
  rw [u8_and x 127 h0 (by omega) (by decide) (by decide)]
  have : Int.toNat 127 = 127 := rfl
  rw [this, nat_mask7]
  omega
theorem and128 (x : Int) (h0 : 0 ≤ x) (h1 : x ≤ 255) : bits .and .u8 x 128 = if 128 ≤ x then 128 else 0 := by
  rw [u8_and x 128 h0 (by omega) (by decide) (by decide)]
  have : Int.toNat 128 = 2 ^ 7 := rfl
  rw [this, nat_bit]
  split <;> omega

/-- The number that a byte's seven bits make a greater one. -/
def tkVal (v : Int) (c : Nat) (x : Int) : Int := v + x % 128 * 128 ^ c

theorem tk_fits (c : Nat) (x : Int) (hc : c ≤ 9) (h0 : 0 ≤ x) (h9 : c = 9 → x ≤ 1) : 0 ≤ x % 128 * 128 ^ c ∧ x % 128 * 128 ^ c + 128 ^ c ≤ 18446744073709551616 := by
  have hp := pow128_pos c
  have hm : 0 ≤ x % 128 := by omega
  refine ⟨Int.mul_nonneg hm (Int.le_of_lt hp), ?_⟩
  by_cases e : c = 9
  · subst e
    have := h9 rfl
    rw [pow128_9]
    omega
  · have h8 : (128 : Int) ^ c ≤ 128 ^ 8 := pow128_mono (by omega)
    rw [pow128_8] at h8
    have h2 : x % 128 * 128 ^ c ≤ 127 * 128 ^ c := Int.mul_le_mul_of_nonneg_right (by omega) (Int.le_of_lt hp)
    omega

theorem tk_or (v : Int) (c : Nat) (x : Int) (hv : 0 ≤ v) (hv1 : v < 128 ^ c) (hc : c ≤ 9) (h0 : 0 ≤ x) (h1 : x ≤ 255) (h9 : c = 9 → x ≤ 1) :
    bits .or .u64 v (IntKind.u64.wrap (IntKind.u64.wrap (bits .and .u8 x 127) * 2 ^ (7 * c))) = tkVal v c x := by
  have hf := tk_fits c x hc h0 h9
  have hp := pow128_pos c
  have e1 : IntKind.u64.wrap (bits .and .u8 x 127) = x % 128 := by
    rw [and127 x h0 h1, IntKind.wrap_u64]; exact Int.emod_eq_of_lt (by omega) (by omega)
  have e2 : IntKind.u64.wrap (x % 128 * 128 ^ c) = x % 128 * 128 ^ c := by
    rw [IntKind.wrap_u64]; exact Int.emod_eq_of_lt hf.1 (by omega)
  rw [e1, ← pow128, e2]
  unfold tkVal
  generalize hy : x % 128 * 128 ^ c = y at *
  have hd : y % 128 ^ c = 0 := by rw [← hy]; exact Int.mul_emod_left _ _
  have hc2 : ((128 : Int) ^ c) = ((2 ^ (7 * c) : Nat) : Int) := by rw [pow128]; simp
  rw [hc2] at hd hv1 hf
  obtain ⟨V, rfl⟩ := Int.eq_ofNat_of_zero_le hv
  obtain ⟨Y, rfl⟩ := Int.eq_ofNat_of_zero_le hf.1
  rw [u64_or_nat V Y (by omega) (by omega), Nat.or_comm, nat_join (7 * c) Y V (by omega) (by omega)]
  omega
end Go.Proofs.YtmjlpfmacblcpaaDoor

namespace Go.Proofs.YtmjlpfmacblcpaaDoor
open Go.RowKit
set_option linter.unusedVariables false
/-- A number's shortest form, in at most so many bytes more. -/
def encL : Nat → Int → List Int
  | 0, v => [v]
  | f + 1, v => if 127 < v then (v % 128 + 128) :: encL f (v / 128) else [v]
def encI (v : Int) : List Int := encL 9 v
def encA : List Int → List Int
  | [] => []
  | v :: r => encI v ++ encA r

theorem encA_append (a b : List Int) : encA (a ++ b) = encA a ++ encA b := by
  induction a with
  | nil => rfl
  | cons v r ih => simp [encA, ih]
theorem encA_one (v : Int) : encA [v] = encI v := by simp [encA]
theorem encA_take (zs : List Int) (k : Nat) (h : k < zs.length) : encA (zs.take (k + 1)) = encA (zs.take k) ++ encI (zs.getD k 0) := by
  rw [List.take_succ_eq_append_getElem h, encA_append, encA_one]
  simp [List.getD, h]
theorem encL_len_le : ∀ (f : Nat) (v : Int), 1 ≤ (encL f v).length ∧ (encL f v).length ≤ f + 1
  | 0, v => by simp [encL]
  | f + 1, v => by
    unfold encL
    split
    · have := encL_len_le f (v / 128); simp; omega
    · simp
theorem encI_len (v : Int) : 1 ≤ (encI v).length ∧ (encI v).length ≤ 10 := encL_len_le 9 v
theorem encA_len : ∀ (zs : List Int), zs.length ≤ (encA zs).length ∧ (encA zs).length ≤ 10 * zs.length
  | [] => by simp [encA]
  | v :: r => by
    have := encA_len r
    have := encI_len v
    simp [encA]; omega
theorem encA_take_len (zs : List Int) (k : Nat) : (encA (zs.take k)).length ≤ 10 * k := by
  have := (encA_len (zs.take k)).2
  simp at this
  omega

theorem encL_bd : ∀ (f : Nat) (v : Int), 0 ≤ v → v < 2 * 128 ^ f → ∀ z ∈ encL f v, 0 ≤ z ∧ z ≤ 255
  | 0, v, h0, h1 => by simp [encL]; simp at h1; omega
  | f + 1, v, h0, h1 => by
    have hp := pow128_pos f
    have h2 : v / 128 < 2 * 128 ^ f := by rw [Int.pow_succ] at h1; omega
    have ih := encL_bd f (v / 128) (by omega) h2
    unfold encL
    split
    · intro z hz
      simp at hz
      rcases hz with rfl | hz
      · omega
      · exact ih z hz
    · intro z hz
      simp at hz
      omega
theorem pow9 : (2 : Int) * 128 ^ 9 = 18446744073709551616 := by decide
theorem encI_bd (v : Int) (h0 : 0 ≤ v) (h1 : v ≤ 18446744073709551615) : ∀ z ∈ encI v, 0 ≤ z ∧ z ≤ 255 := encL_bd 9 v h0 (by rw [pow9]; omega)
theorem encA_bd : ∀ (zs : List Int), (∀ v ∈ zs, 0 ≤ v ∧ v ≤ 18446744073709551615) → ∀ z ∈ encA zs, 0 ≤ z ∧ z ≤ 255
  | [], _ => by simp [encA]
  | v :: r, h => by
    intro z hz
    simp [encA] at hz
    rcases hz with hz | hz
    · exact encI_bd v (h v (by simp)).1 (h v (by simp)).2 z hz
    · exact encA_bd r (fun u hu => h u (by simp [hu])) z hz

theorem encL_len : ∀ (n f : Nat) (v : Int), n ≤ f → v < 128 ^ (n + 1) → (n = 0 ∨ 128 ^ n ≤ v) → (encL f v).length = n + 1
  | 0, f, v, hf, h1, _ => by
    cases f with
    | zero => rfl
    | succ f => unfold encL; rw [if_neg (by simp at h1; omega)]; rfl
  | n + 1, 0, v, hf, _, _ => by omega
  | n + 1, f + 1, v, hf, h1, h2 => by
    have h2 : (128 : Int) ^ (n + 1) ≤ v := by rcases h2 with h | h; · omega
                                              · exact h
    have hp := pow128_pos n
    have h3 : (128 : Int) ^ (n + 1) = 128 ^ n * 128 := Int.pow_succ _ _
    have h4 : (128 : Int) ^ (n + 1 + 1) = 128 ^ (n + 1) * 128 := Int.pow_succ _ _
    have hr := encL_len n f (v / 128) (by omega) (by omega) (Or.inr (by omega))
    unfold encL
    rw [if_pos (by omega)]
    simp [hr]

theorem bitLenAux_bd : ∀ (f x : Nat), x < 2 ^ f → x < 2 ^ Lib.bitLenAux f x ∧ (0 < x → 2 ^ Lib.bitLenAux f x ≤ 2 * x)
  | 0, x, h => by simp at h; subst h; simp [Lib.bitLenAux]
  | f + 1, x, h => by
    unfold Lib.bitLenAux
    split
    · rename_i e; subst e; simp
    · rename_i e
      have ih := bitLenAux_bd f (x / 2) (by rw [Nat.pow_succ] at h; omega)
      rw [Nat.add_comm, Nat.pow_succ]
      refine ⟨by omega, fun _ => ?_⟩
      by_cases hx : 0 < x / 2
      · have := ih.2 hx; omega
      · have h1 : x / 2 = 0 := by omega
        rw [h1]
        have : Lib.bitLenAux f 0 = 0 := by cases f <;> simp [Lib.bitLenAux]
        rw [this]; omega

theorem or1 (v : Int) (h0 : 0 ≤ v) (h1 : v ≤ 18446744073709551615) : bits .or .u64 v 1 = v + 1 - v % 2 := by
  rw [u64_or v 1 h0 (by omega) (by decide) (by decide)]
  have e : Int.toNat 1 = 1 := rfl
  rw [e]
  have h2 : v.toNat = 2 * (v.toNat / 2) + v.toNat % 2 := by omega
  have h3 : v.toNat ||| 1 = 2 * (v.toNat / 2) + 1 := by
    apply Nat.eq_of_testBit_eq
    intro i
    cases i with
    | zero => simp
    | succ i =>
      rw [Nat.testBit_or, Nat.testBit_succ, Nat.testBit_succ, Nat.testBit_succ]
      have : (2 * (v.toNat / 2) + 1) / 2 = v.toNat / 2 := by omega
      rw [this]
      simp
  rw [h3]
  omega

/-- The bytes of a number, by its bits. -/
theorem size_len (v : Int) (h0 : 0 ≤ v) (h1 : v ≤ 18446744073709551615) : ((Lib.bitLen (bits .or .u64 v 1).toNat : Int) + 7 - 1) / 7 = ((encI v).length : Int) := by
  rw [or1 v h0 h1]
  have hx : (v + 1 - v % 2).toNat < 2 ^ 64 := by omega
  have hb := bitLenAux_bd 64 (v + 1 - v % 2).toNat hx
  have hle := Lib.bitLen_le _ 64 (by decide) hx
  have hge : 1 ≤ Lib.bitLen (v + 1 - v % 2).toNat := by
    by_cases e : Lib.bitLen (v + 1 - v % 2).toNat = 0
    · have := hb.1
      unfold Lib.bitLen at e
      rw [e] at this
      simp at this; omega
    · omega
  change _ < 2 ^ Lib.bitLen _ ∧ (_ → 2 ^ Lib.bitLen _ ≤ _) at hb
  generalize Lib.bitLen (v + 1 - v % 2).toNat = L at *
  obtain ⟨n, hn⟩ : ∃ n, n = (L - 1) / 7 := ⟨_, rfl⟩
  have hlo : 2 ^ (7 * n) ≤ 2 ^ (L - 1) := Nat.pow_le_pow_right (by decide) (by omega)
  have hhi : 2 ^ L ≤ 2 ^ (7 * (n + 1)) := Nat.pow_le_pow_right (by decide) (by omega)
  have hL : 2 ^ L = 2 ^ (L - 1) * 2 := by rw [← Nat.pow_succ]; congr 1; omega
  have e1 : (128 : Int) ^ (n + 1) = ((2 ^ (7 * (n + 1)) : Nat) : Int) := by rw [pow128]; simp
  have e2 : (128 : Int) ^ n = ((2 ^ (7 * n) : Nat) : Int) := by rw [pow128]; simp
  have hb2 := hb.2 (by omega)
  have key : (encI v).length = n + 1 := by
    refine encL_len n 9 v (by omega) (by rw [e1]; omega) ?_
    by_cases e : n = 0
    · exact Or.inl e
    · refine Or.inr ?_
      have hev : 2 ^ (7 * n) % 2 = 0 := by
        have : 7 * n = (7 * n - 1) + 1 := by omega
        rw [this, Nat.pow_succ]; omega
      rw [e2]; omega
  rw [key]
  omega

theorem enc_byte (u : Int) (h0 : 0 ≤ u) (h1 : u ≤ 18446744073709551615) : bits .and .u64 u 127 = u % 128 := by
  rw [u64_and u 127 h0 (by omega) (by decide) (by decide)]
  have : Int.toNat 127 = 127 := rfl
  rw [this, nat_mask7]
  omega
theorem or128 (x : Int) (h0 : 0 ≤ x) (h1 : x ≤ 127) : bits .or .u8 x 128 = x + 128 := by
  rw [u8_or x 128 h0 (by omega) (by decide) (by decide)]
  have : Int.toNat 128 = 128 := rfl
  rw [this, Nat.or_comm, nat_join 7 128 x.toNat (by decide) (by omega)]
  omega
end Go.Proofs.YtmjlpfmacblcpaaDoor

namespace Go.Proofs.YtmjlpfmacblcpaaDoor
open Go.RowKit
set_option linter.unusedVariables false
set_option maxRecDepth 100000 in
set_option maxHeartbeats 400000 in
theorem size_any (a : Option Addr) (zs : List Int) (cap : Nat) (w : World) (hs : Seg64 w a zs) (hl : zs.length ≤ 17592186044416) :
    Calls Tryd.prog 94 #[.slice a zs.length cap] w fun e w' => e = .returned (.int .i64 (encA zs).length) ∧ w' = w := by
  go_enter Tryd.func94, Tryd.ntmps94
  go_wp2
  go_loop [3, 8] (fun n i => ∃ k : Nat, k ≤ zs.length ∧ i = .int .i64 k ∧ n = .int .i64 (encA (zs.take k)).length) (fun _ i => zs.length - (intOf i).toNat)
  case atStart => exact ⟨0, Nat.zero_le _, rfl, rfl⟩
  case round =>
    obtain ⟨k, hk, rfl, rfl⟩ := hrel
    have hle := encA_take_len zs k
    by_cases hlt : k < zs.length
    · obtain ⟨b, off, rfl, hcell⟩ := hs.at_ k hlt
      have hx := hs.bd k
      have HT : Hid (encA (zs.take (k + 1)) = encA (zs.take k) ++ encI (zs.getD k 0)) := encA_take zs k hlt
      have HS : Hid (((Lib.bitLen (bits .or .u64 (zs.getD k 0) 1).toNat : Int) + 7 - 1) / 7 = ((encI (zs.getD k 0)).length : Int)) := size_len _ hx.1 hx.2
      have ho : 0 ≤ bits .or .u64 (zs.getD k 0) 1 ∧ bits .or .u64 (zs.getD k 0) 1 ≤ 18446744073709551615 := by rw [or1 _ hx.1 hx.2]; omega
      have hlen := encI_len (zs.getD k 0)
      have hbl : Lib.bitLen (bits .or .u64 (zs.getD k 0) 1).toNat ≤ 64 := Lib.bitLen_le _ 64 (by decide) (by omega)
      generalize zs.getD k 0 = x at *
      go_wp2_with (go_at_call 116; refine (len64_any _ _ (by omega) (by omega)).mono ?_; rintro e w' ⟨rfl, rfl⟩)
      go_round
      case rel => exact ⟨k + 1, by omega, by go_num, by rw [HT.out, List.length_append, HS.out]; go_num⟩
      case measure => simp [intOf]; omega
    · obtain rfl : k = zs.length := by omega
      clear hle hlt
      go_wp2
      go_ret
      exact ⟨rfl, rfl⟩

theorem info_u8 : (Tryd.prog.info? 5).map (fun i => (i.zero, i.size, i.bytes)) = some (some (.int .u8 0), 1, 1) := by kernel_rfl

set_option maxRecDepth 100000 in
set_option maxHeartbeats 1000000 in
theorem encode_any (a : Option Addr) (zs : List Int) (cap : Nat) (w : World) (hs : Seg64 w a zs) (hl : zs.length ≤ 8796093022208) :
    Calls Tryd.prog 48 #[.slice a zs.length cap] w fun e w' => ∃ v, e = .returned v ∧ w'.ownsRow w.heap.size 5 1 v (encA zs).length ((encA zs).map (Value.int .u8)) ∧ Below w.heap.size w w' := by
  obtain ⟨i0, hi, hz0, hz1, hz2⟩ := info_parts info_u8
  have hsz := encA_len zs
  go_enter Tryd.func48, Tryd.ntmps48
  go_wp2_with (first
    | (go_at_call 94; refine (size_any a zs cap _ hs (by omega)).mono ?_; rintro e w' ⟨rfl, hw'⟩; subst w')
    | (at_make; refine wpList_make_own _ rfl _ _ 22 rfl w.heap.size 5 i0 (.int .u8 0) 1 Tryd.underlying22 hi hz0 hz1 .i64 .i64 _ (encA zs).length rfl rfl rfl (by rw [hz2]; omega) (by unfold maxLen; omega) (Nat.le_refl _) ?_; intro w1 hown1 hgrow1))
  have hsz1 := hgrow1.size
  go_loopw [3, 11] (fun o i wr => ∃ k : Nat, k ≤ zs.length ∧ i = .int .i64 k ∧ wr.ownsRow w.heap.size 5 1 o (encA (zs.take k)).length ((encA (zs.take k)).map (Value.int .u8)) ∧ Below w.heap.size w wr) (fun _ i _ => zs.length - (intOf i).toNat)
  case atStart => exact ⟨0, Nat.zero_le _, rfl, hown1, (Below.refl _ _).grown hgrow1 (Nat.le_refl _) (by intro k e; cases e)⟩
  case round =>
    obtain ⟨k, hk, rfl, hown, hb⟩ := hrel
    have hle := encA_take_len zs k
    by_cases hlt : k < zs.length
    · have hsr := hs.old hb
      obtain ⟨b, off, rfl, hcell⟩ := hsr.at_ k hlt
      have hx := hs.bd k
      have HT : Hid (encA (zs.take (k + 1)) = encA (zs.take k) ++ encI (zs.getD k 0)) := encA_take zs k hlt
      have hlen := encI_len (zs.getD k 0)
      generalize zs.getD k 0 = x at *
      go_wp2
      obtain ⟨wo, rfl⟩ : ∃ wo : World, wo = wr := ⟨_, rfl⟩
      generalize encA (zs.take k) = E at *
      go_loopw [3, 5] (fun o t wr => ∃ (pre : List Int) (f : Nat) (u : Int), t = .int .u64 u ∧ wr.ownsRow w.heap.size 5 1 o (E ++ pre).length ((E ++ pre).map (Value.int .u8)) ∧ encI x = pre ++ encL f u ∧ pre.length + f = 9 ∧ 0 ≤ u ∧ u < 2 * 128 ^ f ∧ Below w.heap.size w wr) (fun _ t _ => (intOf t).toNat)
      case atStart => exact ⟨[], 9, x, rfl, by simpa using hown, rfl, rfl, hx.1, by rw [pow9]; omega, hb⟩
      case round =>
        obtain ⟨pre, f, u, rfl, hown2, he, hf, hu0, hu1, hb2⟩ := hrel
        have HE : Hid (encI x = pre ++ encL f u) := he
        have hu2 : u ≤ 18446744073709551615 := by
          have h9 : (128 : Int) ^ f ≤ 128 ^ 9 := pow128_mono (by omega)
          have := pow9
          omega
        have hszr := hb2.size
        by_cases h7 : 127 < u
        · obtain ⟨f, rfl⟩ : ∃ g, f = g + 1 := ⟨f - 1, by
            cases f with
            | zero => simp at hu1; omega
            | succ f => rfl⟩
          have e1 := enc_byte u hu0 hu2
          have e2 := or128 (u % 128) (by omega) (by omega)
          have HN : Hid (encI x = (pre ++ [u % 128 + 128]) ++ encL f (u / 128)) := by
            show encI x = _
            rw [he]; simp only [encL, if_pos h7, List.append_assoc, List.singleton_append]
          have hu3 : u / 128 < 2 * 128 ^ f := by rw [Int.pow_succ] at hu1; omega
          clear he
          go_wp2_with (at_builtin; refine wpList_push rfl _ _ 22 rfl w.heap.size 5 i0 (.int .u8 0) 1 Tryd.underlying22 hi hz0 hz1 hz2 rfl wr (.int .u8 (u % 128 + 128)) rfl hown2 rfl rfl (by simp; omega) (by simp; omega) hszr ?_; intro v' w2 hown3 hg3 hb3)
          go_roundw
          case rel => exact ⟨pre ++ [u % 128 + 128], f, u / 128, rfl, by simpa [← Nat.add_assoc] using hown3, HN.out, by simp; omega, by omega, hu3, hb2.trans hb3⟩
          case measure => simp [intOf]; omega
        · have HN : Hid (encI x = pre ++ [u]) := by
            show encI x = _
            rw [he]
            cases f <;> simp [encL, h7]
          clear he
          go_wp2_with (at_builtin; refine wpList_push rfl _ _ 22 rfl w.heap.size 5 i0 (.int .u8 0) 1 Tryd.underlying22 hi hz0 hz1 hz2 rfl wr (.int .u8 u) rfl hown2 rfl rfl (by simp; omega) (by simp; omega) hszr ?_; intro v' w2 hown3 hg3 hb3)
          go_roundw
          case rel => exact ⟨k + 1, by omega, by go_num, by rw [HT.out, HN.out]; simpa [← Nat.add_assoc] using hown3, hb2.trans hb3⟩
          case measure => simp [intOf]; omega
    · obtain rfl : k = zs.length := by omega
      have HT : Hid (zs.take zs.length = zs) := List.take_length
      rw [HT.out] at hown
      clear hle hlt
      go_wp2
      go_ret
      exact ⟨_, rfl, hown, hb⟩
end Go.Proofs.YtmjlpfmacblcpaaDoor

namespace Go.Proofs.YtmjlpfmacblcpaaDoor
open Go.RowKit
set_option linter.unusedVariables false
/-- So many bytes of a number, the least first. -/
def fixL : Nat → Int → List Int
  | 0, _ => []
  | n + 1, v => v % 256 :: fixL n (v / 256)
theorem fixL_len : ∀ (n : Nat) (v : Int), (fixL n v).length = n
  | 0, _ => rfl
  | n + 1, v => by simp [fixL, fixL_len n]
theorem fixL_bd : ∀ (n : Nat) (v : Int), ∀ z ∈ fixL n v, 0 ≤ z ∧ z ≤ 255
  | 0, _ => by simp [fixL]
  | n + 1, v => by
    intro z hz
    simp [fixL] at hz
    rcases hz with rfl | hz
    · omega
    · exact fixL_bd n _ z hz
theorem info_u8f : (Tryd.prog.info? 5).map (fun i => (i.zero, i.size, i.bytes)) = some (some (.int .u8 0), 1, 1) := by kernel_rfl

set_option maxRecDepth 100000 in
theorem isFixed_any (s : Int) (w : World) : Calls Tryd.prog 109 #[.int .i64 s] w fun e w' => e = .returned (.bool (decide (1 ≤ s ∧ s ≤ 8))) ∧ w' = w := by
  by_cases h1 : 1 ≤ s
  · by_cases h8 : s ≤ 8
    · go_enter Tryd.func109, Tryd.ntmps109
      go_wp2
      go_ret
      exact ⟨by simp [h1, h8], rfl⟩
    · have h8' : 8 < s := by omega
      go_enter Tryd.func109, Tryd.ntmps109
      go_wp2
      go_ret
      exact ⟨by simp; omega, rfl⟩
  · have h1' : s < 1 := by omega
    go_enter Tryd.func109, Tryd.ntmps109
    go_wp2
    go_ret
    exact ⟨by simp; omega, rfl⟩

theorem fixL_snoc : ∀ (k : Nat) (v : Int), fixL (k + 1) v = fixL k v ++ [v / 2 ^ (8 * k) % 256]
  | 0, v => by simp [fixL]
  | k + 1, v => by
    have ih := fixL_snoc k (v / 256)
    have e : v / 256 / 2 ^ (8 * k) = v / 2 ^ (8 * (k + 1)) := by
      rw [Int.ediv_ediv_of_nonneg (by decide), show 8 * (k + 1) = 8 + 8 * k by omega, Int.pow_add]
      rfl
    rw [show fixL (k + 1 + 1) v = v % 256 :: fixL (k + 1) (v / 256) from rfl, ih, e]
    rfl
theorem zeros_set (s k : Nat) (v x : Int) (hk : k < s) (hx : x = v / 2 ^ (8 * k) % 256) :
    (((fixL k v ++ List.replicate (s - k) 0).map (Value.int .u8)).set k (.int .u8 x)) = (fixL (k + 1) v ++ List.replicate (s - (k + 1)) 0).map (Value.int .u8) := by
  rw [← List.map_set]
  congr 1
  obtain ⟨m, hm⟩ : ∃ m, s - k = m + 1 := ⟨s - k - 1, by omega⟩
  have hm2 : s - (k + 1) = m := by omega
  rw [hm, hm2, List.replicate_succ, List.set_append, if_neg (by rw [fixL_len]; omega), fixL_len, Nat.sub_self, List.set_cons_zero, fixL_snoc, hx]
  simp

set_option maxRecDepth 100000 in
set_option maxHeartbeats 400000 in
theorem fixed_ok (v : Int) (s : Nat) (w : World) (h1 : 1 ≤ s) (h8 : s ≤ 8) (hv0 : 0 ≤ v) (hv1 : v ≤ 18446744073709551615) (hr : v / 2 ^ (8 * s) = 0) :
    Calls Tryd.prog 83 #[.int .u64 v, .int .i64 s] w fun e w' => e = .returned (.tuple #[.slice (some ⟨w.heap.size, 0, none⟩) s s, .int .i64 0]) ∧
      w'.ownsRow w.heap.size 5 1 (.slice (some ⟨w.heap.size, 0, none⟩) s s) s ((fixL s v).map (Value.int .u8)) ∧ Below w.heap.size w w' := by
  have hd : decide (1 ≤ (s : Int) ∧ (s : Int) ≤ 8) = true := by simp; omega
  have hn : (v / 2 ^ (8 * s) != 0) = false := by rw [hr]; rfl
  clear hr
  obtain ⟨i0, hi, hz0, hz1, hz2⟩ := info_parts info_u8f
  go_enter Tryd.func83, Tryd.ntmps83
  go_wp2_with (first
    | (go_at_call 109; refine (isFixed_any _ _).mono ?_; rintro e w' ⟨rfl, hw'⟩; subst w')
    | (at_make; refine wpList_make_full _ rfl _ _ 22 rfl w.heap.size 5 i0 (.int .u8 0) 1 Tryd.underlying22 hi hz0 hz1 .i64 .i64 _ _ s rfl rfl rfl rfl (by rw [hz2]; omega) (by unfold maxLen; omega) (Nat.le_refl _) ?_; intro w1 hown1 hgrow1))
  have hsz1 := hgrow1.size
  rw [Nat.mul_one, show (Value.int IntKind.u8 0).cells = #[.int .u8 0] from rfl, toList_madeCells_one] at hown1
  go_loopw [20] (fun i wr => ∃ k : Nat, k ≤ s ∧ i = .int .i64 k ∧ wr.ownsRow w.heap.size 5 1 (.slice (some ⟨w.heap.size, 0, none⟩) s s) s ((fixL k v ++ List.replicate (s - k) 0).map (Value.int .u8)) ∧ Below w.heap.size w wr) (fun i _ => s - (intOf i).toNat)
  case atStart => exact ⟨0, Nat.zero_le _, rfl, by simpa [fixL] using hown1, (Below.refl _ _).grown hgrow1 (Nat.le_refl _) (by intro k e; cases e)⟩
  case round =>
    obtain ⟨k, hk, rfl, hown, hb⟩ := hrel
    by_cases hlt : k < s
    · have hlti : (k : Int) < (s : Int) := by omega
      have hc := hown.cellAt k (by omega)
      have hf := hown.frozenAt k
      have hst := hown.stored k (.int .u8 (v / 2 ^ (8 * k) % 256))
      rw [zeros_set s k v _ hlt rfl] at hst
      have hcell : ∃ u, wr.cell? ⟨w.heap.size, k, none⟩ = some u := by
        rw [hc]
        exact ⟨_, List.getElem?_eq_getElem (by simp [fixL_len]; omega)⟩
      obtain ⟨u, hu⟩ := hcell
      clear hc hown1 hgrow1
      go_wp2
      go_roundw
      case rel => exact ⟨k + 1, by omega, by go_num, hst.1, hb.trans ((Below.refl _ _).grown hst.2 hb.size (by intro j e; cases e; exact Nat.le_refl _))⟩
      case measure => simp [intOf]; omega
    · obtain rfl : k = s := by omega
      clear hlt
      go_wp2
      go_ret2
      exact ⟨rfl, by simpa using hown, hb⟩
end Go.Proofs.YtmjlpfmacblcpaaDoor

namespace Go.Proofs.YtmjlpfmacblcpaaDoor
open Go.RowKit
set_option linter.unusedVariables false
set_option linter.unusedSimpArgs false
abbrev W32 := BitVec 32
def genW : W32 := 3988292384#32
def on (w : W32) : W32 := (w >>> 1) ^^^ (if w.getLsbD 0 then genW else 0#32)
def onN : Nat → W32 → W32
  | 0, w => w
  | k + 1, w => on (onN k w)

theorem bxor_left_comm (a b c : W32) : a ^^^ (b ^^^ c) = b ^^^ (a ^^^ c) := by rw [← BitVec.xor_assoc, BitVec.xor_comm a b, BitVec.xor_assoc]
theorem bxor_cancel (a b : W32) : a ^^^ (a ^^^ b) = b := by rw [← BitVec.xor_assoc, BitVec.xor_self, BitVec.zero_xor]
theorem on_xor (a b : W32) : on (a ^^^ b) = on a ^^^ on b := by
  unfold on
  rw [BitVec.ushiftRight_xor_distrib, BitVec.getLsbD_xor]
  cases a.getLsbD 0 <;> cases b.getLsbD 0 <;> simp [BitVec.xor_assoc, BitVec.xor_comm, bxor_left_comm, bxor_cancel]
theorem on_zero : on 0#32 = 0#32 := by decide
theorem onN_xor (k : Nat) (a b : W32) : onN k (a ^^^ b) = onN k a ^^^ onN k b := by
  induction k with
  | zero => rfl
  | succ k ih => simp only [onN, ih, on_xor]
theorem onN_zero (k : Nat) : onN k 0#32 = 0#32 := by
  induction k with
  | zero => rfl
  | succ k ih => simp only [onN, ih, on_zero]
theorem onN_add (a b : Nat) (w : W32) : onN (a + b) w = onN a (onN b w) := by
  induction a with
  | zero => simp [onN]
  | succ a ih => rw [Nat.succ_add]; simp only [onN, ih]
theorem onN_comm (a b : Nat) (w : W32) : onN a (onN b w) = onN b (onN a w) := by
  rw [← onN_add, ← onN_add, Nat.add_comm]

def back (w : W32) : W32 := if w.getLsbD 31 then ((w ^^^ genW) <<< 1) ||| 1#32 else w <<< 1
theorem on_double (y : W32) (h : y.toNat < 2 ^ 31) : on (y <<< 1) = y := by
  unfold on
  have e0 : (y <<< 1).getLsbD 0 = false := by simp
  rw [e0]
  simp only [Bool.false_eq_true, if_false, BitVec.xor_zero]
  apply BitVec.eq_of_toNat_eq
  simp [Nat.shiftLeft_eq, Nat.shiftRight_eq_div_pow]
  omega
theorem onN_shl (k : Nat) (y : W32) (h : y.toNat < 2 ^ (32 - k)) (hk : k ≤ 32) : onN k (y <<< k) = y := by
  induction k with
  | zero => simp [onN]
  | succ k ih =>
    have e : onN (k + 1) (y <<< (k + 1)) = onN k (on (y <<< (k + 1))) := by
      rw [onN_add k 1]; rfl
    have hp : y.toNat < 2 ^ (32 - k) := Nat.lt_of_lt_of_le h (Nat.pow_le_pow_right (by decide) (by omega))
    have e2 : (y <<< k).toNat < 2 ^ 31 := by
      rw [BitVec.toNat_shiftLeft, Nat.shiftLeft_eq]
      refine Nat.lt_of_le_of_lt (Nat.mod_le _ _) ?_
      have : y.toNat * 2 ^ k < 2 ^ (32 - (k + 1)) * 2 ^ k := Nat.mul_lt_mul_of_pos_right h (Nat.pow_pos (by decide))
      rw [← Nat.pow_add] at this
      rw [show 32 - (k + 1) + k = 31 by omega] at this
      exact this
    rw [e, BitVec.shiftLeft_add, on_double _ e2, ih hp (by omega)]

def halfL : List Int := [0, 498536548, 997073096, 651767980, 1994146192, 1802195444, 1303535960, 1342533948, 3988292384, 4027552580, 3604390888, 3412177804, 2607071920, 2262029012, 2685067896, 3183342108]
theorem half_split (r : W32) : r = ((r >>> 4) <<< 4) ^^^ (r &&& 15#32) := by
  apply BitVec.eq_of_getLsbD_eq
  intro i hi
  by_cases h : i < 4
  · rcases i with _ | _ | _ | _ | i <;> simp_all <;> first | (exfalso; omega) | skip
  · have e : 4 + (i - 4) = i := by omega
    have e2 : (15#32).getLsbD i = false := by
      have : ∀ j : Fin 32, 4 ≤ j.val → (15#32).getLsbD j.val = false := by decide
      exact this ⟨i, hi⟩ (Nat.le_of_not_lt h)
    simp [-BitVec.getLsbD_eq_getElem, h, hi, e, e2]
theorem half_tab : ∀ i : Fin 16, (((onN 4 (BitVec.ofNat 32 i.val)).toNat : Nat) : Int) = halfL.getD i.val 0 := by decide
theorem onN4 (r : W32) : onN 4 r = (r >>> 4) ^^^ onN 4 (r &&& 15#32) := by
  have h : (r >>> 4).toNat < 2 ^ (32 - 4) := by
    rw [BitVec.toNat_ushiftRight, Nat.shiftRight_eq_div_pow]
    have := r.isLt
    omega
  conv => lhs; rw [half_split r]
  rw [onN_xor, onN_shl 4 _ h (by decide)]
theorem and15 (r : W32) : r &&& 15#32 = BitVec.ofNat 32 (r.toNat % 16) := by
  apply BitVec.eq_of_toNat_eq
  have : r.toNat &&& 15 = r.toNat % 16 := Nat.and_two_pow_sub_one_eq_mod _ 4
  simp [this]
  omega
end Go.Proofs.YtmjlpfmacblcpaaDoor

namespace Go.Proofs.YtmjlpfmacblcpaaDoor
open Go.RowKit
set_option linter.unusedVariables false
set_option linter.unusedSimpArgs false
def oneW : W32 := 2147483648#32
def actN (a : W32) : Nat → W32 → W32
  | 0, _ => 0#32
  | i + 1, b => actN a i b ^^^ (if a.getLsbD (31 - i) then onN i b else 0#32)
def act (a b : W32) : W32 := actN a 32 b

theorem xor4 (a b c d : W32) : (a ^^^ b) ^^^ (c ^^^ d) = (a ^^^ c) ^^^ (b ^^^ d) := by
  simp only [BitVec.xor_assoc, bxor_left_comm]
theorem actN_xor (a : W32) (i : Nat) (b c : W32) : actN a i (b ^^^ c) = actN a i b ^^^ actN a i c := by
  induction i with
  | zero => simp [actN]
  | succ i ih =>
    simp only [actN, ih, onN_xor]
    split
    · rw [xor4]
    · simp
theorem actN_zero (a : W32) (i : Nat) : actN a i 0#32 = 0#32 := by
  induction i with
  | zero => rfl
  | succ i ih => simp only [actN, ih, onN_zero]; split <;> simp
theorem actN_on (a : W32) (i : Nat) (b : W32) : actN a i (on b) = on (actN a i b) := by
  induction i with
  | zero => simp [actN, on_zero]
  | succ i ih =>
    have e : onN i (on b) = on (onN i b) := onN_comm i 1 b
    simp only [actN, ih, on_xor, e]
    split
    · rfl
    · rw [on_zero]
theorem actN_onN (a : W32) (i k : Nat) (b : W32) : actN a i (onN k b) = onN k (actN a i b) := by
  induction k with
  | zero => rfl
  | succ k ih => simp only [onN, actN_on, ih]
theorem actN_comm (a b : W32) (m n : Nat) (c : W32) : actN a m (actN b n c) = actN b n (actN a m c) := by
  induction m with
  | zero => simp only [actN, actN_zero]
  | succ m ih =>
    simp only [actN, actN_xor, ih]
    split
    · rw [actN_onN]
    · rw [actN_zero]
theorem onN_one : ∀ i : Fin 32, onN i.val oneW = BitVec.twoPow 32 (31 - i.val) := by decide +kernel
theorem actN_one (a : W32) (n : Nat) (hn : n ≤ 32) (j : Nat) (hj : j < 32) : (actN a n oneW).getLsbD j = (decide (31 - j < n) && a.getLsbD j) := by
  induction n with
  | zero => simp [actN]
  | succ n ih =>
    have e := onN_one ⟨n, by omega⟩
    simp only at e
    simp only [actN, BitVec.getLsbD_xor, ih (by omega), e]
    by_cases h : j = 31 - n
    · subst h
      have h1 : ¬ (31 - (31 - n) < n) := by omega
      have h2 : 31 - (31 - n) < n + 1 := by omega
      cases ha : a.getLsbD (31 - n)
      · simp
      · simp only [h1, h2, decide_true, decide_false, Bool.false_and, Bool.true_and, if_true, BitVec.getLsbD_twoPow, hj]
        rfl
    · have h1 : decide (31 - j < n + 1) = decide (31 - j < n) := by simp only [decide_eq_decide]; omega
      rw [h1]
      split
      · rw [BitVec.getLsbD_twoPow]
        have : decide (31 - n = j) = false := by simp; omega
        rw [this]
        simp
      · simp
theorem act_one (a : W32) : act a oneW = a := by
  apply BitVec.eq_of_getLsbD_eq
  intro j hj
  rw [act, actN_one a 32 (by decide) j hj]
  have : 31 - j < 32 := by omega
  simp only [this, decide_true, Bool.true_and]
theorem act_comm (a b : W32) : act a b = act b a := by
  conv => lhs; rw [← act_one b]
  conv => rhs; rw [← act_one a]
  exact actN_comm _ _ _ _ _
theorem act_pow (a : W32) (k : Nat) : act a (onN k oneW) = onN k a := by
  rw [act, actN_onN]
  exact congrArg _ (act_one a)
theorem act_pow' (k : Nat) (b : W32) : act (onN k oneW) b = onN k b := by
  rw [act_comm, act_pow]

def bW (x : Int) : W32 := BitVec.ofNat 32 x.toNat
def takeW (r : W32) (x : Int) : W32 := onN 8 (r ^^^ bW x)
def runW : W32 → List Int → W32
  | r, [] => r
  | r, x :: l => runW (takeW r x) l
theorem runW_append (r : W32) (l m : List Int) : runW r (l ++ m) = runW (runW r l) m := by
  induction l generalizing r with
  | nil => rfl
  | cons x l ih => exact ih _
theorem runW_snoc (r : W32) (l : List Int) (x : Int) : runW r (l ++ [x]) = takeW (runW r l) x := by rw [runW_append]; rfl
/-- The sum of bytes. -/
def sumW (l : List Int) : W32 := ~~~ (runW (~~~ 0#32) l)
theorem not_not (a : W32) : ~~~ (~~~ a) = a := BitVec.not_not
end Go.Proofs.YtmjlpfmacblcpaaDoor

namespace Go.Proofs.YtmjlpfmacblcpaaDoor
open Go.RowKit
set_option linter.unusedVariables false
set_option linter.unusedSimpArgs false
/-- A word as the model's number. -/
def wI (a : W32) : Int := (a.toNat : Int)
theorem wI_bd (a : W32) : 0 ≤ wI a ∧ wI a < 4294967296 := by
  have := a.isLt
  unfold wI
  omega
theorem wI_inj {a b : W32} (h : wI a = wI b) : a = b := by
  apply BitVec.eq_of_toNat_eq
  unfold wI at h
  omega
theorem wI_xor (a b : W32) : bits .xor .u32 (wI a) (wI b) = wI (a ^^^ b) := by
  unfold wI
  rw [u32_xor_nat _ _ a.isLt b.isLt, BitVec.toNat_xor]
theorem wI_and (a b : W32) : bits .and .u32 (wI a) (wI b) = wI (a &&& b) := by
  unfold wI
  rw [u32_and_nat _ _ a.isLt b.isLt, BitVec.toNat_and]
theorem wI_shr (a : W32) (k : Nat) : wI a / 2 ^ k = wI (a >>> k) := by
  unfold wI
  rw [BitVec.toNat_ushiftRight, Nat.shiftRight_eq_div_pow]
  simp
theorem ret_u32 {a b : Int} (h : a = b) : Ending.returned (.int .u32 a) = .returned (.int .u32 b) := by rw [h]

theorem and_two (a : W32) (k : Nat) (hk : k < 32) : (a &&& BitVec.twoPow 32 k != 0#32) = a.getLsbD k := by
  rw [BitVec.and_twoPow]
  cases h : a.getLsbD k
  · simp
  · simp only [if_true]
    rw [bne_iff_ne]
    intro e
    have := congrArg (·.getLsbD k) e
    simp [BitVec.getLsbD_twoPow, hk] at this
theorem wI_half (a : W32) : wI a / (2 : Int) = wI (a >>> 1) := by
  have := wI_shr a 1
  simpa using this
end Go.Proofs.YtmjlpfmacblcpaaDoor

namespace Go.Proofs.YtmjlpfmacblcpaaDoor
open Go.RowKit
set_option linter.unusedVariables false
set_option linter.unusedSimpArgs false
/-- The table lies where the program's text lays it. -/
abbrev Tab (w : World) : Prop := SegK .u32 4294967295 w (some ⟨1, 0, none⟩) halfL
theorem Tab.cell {w : World} (h : Tab w) (k : Nat) (hk : k < 16) : w.cell? ⟨1, k, none⟩ = some (.int .u32 (wI (onN 4 (BitVec.ofNat 32 k)))) := by
  obtain ⟨b, off, e, hc⟩ := h.at_ k hk
  cases e
  rw [Nat.zero_add] at hc
  rw [hc, ← half_tab ⟨k, hk⟩]
  rfl
theorem wI_and15 (a : W32) : bits .and .u32 (wI a) 15 = ((a.toNat % 16 : Nat) : Int) := by
  rw [show (15 : Int) = wI 15#32 from rfl, wI_and, and15]
  unfold wI
  simp
  omega
theorem wI_shr4 (a : W32) : wI a / (16 : Int) = wI (a >>> 4) := by
  have := wI_shr a 4
  simpa using this
theorem wI_byte (x : Int) (h0 : 0 ≤ x) (h1 : x ≤ 255) : wI (bW x) = x := by
  unfold wI bW
  simp
  omega

set_option maxRecDepth 100000 in
set_option maxHeartbeats 400000 in
theorem take_any (r : W32) (x : Int) (w : World) (h : Tab w) (h0 : 0 ≤ x) (h1 : x ≤ 255) : Calls Tryd.prog 124 #[.int .u32 (wI r), .int .u8 x] w fun e w' => e = .returned (.int .u32 (wI (takeW r x))) ∧ w' = w := by
  have hx : bits .xor .u32 (wI r) x = wI (r ^^^ bW x) := by
    conv => lhs; rw [← wI_byte x h0 h1]
    exact wI_xor _ _
  generalize hs : r ^^^ bW x = s at *
  have ht : takeW r x = onN 4 (onN 4 s) := by
    unfold takeW
    rw [hs, ← onN_add]
  rw [ht]
  clear ht hs
  have k1 : s.toNat % 16 < 16 := Nat.mod_lt _ (by decide)
  have k2 : (onN 4 s).toNat % 16 < 16 := Nat.mod_lt _ (by decide)
  have a1 := wI_and15 s
  have a2 := wI_and15 (onN 4 s)
  have c1 := h.cell _ k1
  have c2 := h.cell _ k2
  have s1 := wI_shr4 s
  have s2 := wI_shr4 (onN 4 s)
  have x1 : bits .xor .u32 (wI (s >>> 4)) (wI (onN 4 (BitVec.ofNat 32 (s.toNat % 16)))) = wI (onN 4 s) := by
    rw [wI_xor, ← and15, ← onN4]
  have x2 : bits .xor .u32 (wI (onN 4 s >>> 4)) (wI (onN 4 (BitVec.ofNat 32 ((onN 4 s).toNat % 16)))) = wI (onN 4 (onN 4 s)) := by
    rw [wI_xor, ← and15, ← onN4]
  generalize s.toNat % 16 = m1 at *
  generalize (onN 4 s).toNat % 16 = m2 at *
  clear h
  go_enter Tryd.func124, Tryd.ntmps124
  go_wp2
  go_ret
  exact ⟨rfl, rfl⟩
end Go.Proofs.YtmjlpfmacblcpaaDoor
