import Derived.Test.YtjoghmdjnkdokaaDoorPh
import Derived.Test.YtjoghmdjnkdokaaDoorPf
import Derived.Deep.OwnRows
import Derived.Deep.RegionHeld3
namespace Go.Proofs.YtjoghmdjnkdokaaDoor
open Go.RowKit Go.Shelf
set_option linter.unusedVariables false
set_option linter.unusedSimpArgs false

/-! The document's flash: in memory. -/
structure Pd21 where
  k : Nat
  off : Nat
  c : Nat
  b : List Int
  er : Bool
  wr : Int
def pdc21 (d : Pd21) : List Value := [.slice (some ⟨d.k, d.off, none⟩) d.b.length d.c, .bool d.er, .int .i64 d.wr]
def pdl21 (L : List Pd21) : List Value := L.flatMap pdc21
theorem pdl21_len (L : List Pd21) : (pdl21 L).length = L.length * 3 := by
  unfold pdl21
  induction L with
  | nil => rfl
  | cons d L ih => rw [List.flatMap_cons, List.length_append, ih]; simp [pdc21]; omega
theorem pdl21_app (L : List Pd21) (d : Pd21) : pdl21 (L ++ [d]) = pdl21 L ++ pdc21 d := by simp [pdl21]
theorem pdl21_get : ∀ (L : List Pd21) (y : Nat) (d : Pd21), L[y]? = some d → (pdl21 L)[y * 3]? = some (.slice (some ⟨d.k, d.off, none⟩) d.b.length d.c) ∧ (pdl21 L)[y * 3 + 1]? = some (.bool d.er) ∧ (pdl21 L)[y * 3 + 2]? = some (.int .i64 d.wr)
  | [], y, d, h => by simp at h
  | e :: L, 0, d, h => by simp at h; subst h; simp [pdl21, pdc21]
  | e :: L, y + 1, d, h => by
    have ih := pdl21_get L y d (by simpa using h)
    have e0 : pdl21 (e :: L) = pdc21 e ++ pdl21 L := by simp [pdl21]
    have hl : (pdc21 e).length = 3 := rfl
    rw [e0, show (y + 1) * 3 = 3 + y * 3 by omega]
    refine ⟨?_, ?_, ?_⟩
    · rw [List.getElem?_append_right (by omega), hl]; simpa using ih.1
    · rw [List.getElem?_append_right (by omega), hl, show 3 + y * 3 + 1 - 3 = y * 3 + 1 by omega]; exact ih.2.1
    · rw [List.getElem?_append_right (by omega), hl, show 3 + y * 3 + 2 - 3 = y * 3 + 2 by omega]; exact ih.2.2
theorem set_app21 {α : Type} : ∀ (A B : List α) (j : Nat) (x : α), (A ++ B).set (A.length + j) x = A ++ B.set j x
  | [], B, j, x => by simp
  | a :: A, B, j, x => by
    rw [List.cons_append, List.length_cons, show A.length + 1 + j = (A.length + j) + 1 by omega, List.set_cons_succ, set_app21 A B j x]
    rfl
theorem pdl21_set : ∀ (L : List Pd21) (y : Nat) (d d' : Pd21), L[y]? = some d → pdl21 (L.set y d') = (((pdl21 L).set (y * 3) (.slice (some ⟨d'.k, d'.off, none⟩) d'.b.length d'.c)).set (y * 3 + 1) (.bool d'.er)).set (y * 3 + 2) (.int .i64 d'.wr)
  | [], y, d, d', h => by simp at h
  | e :: L, 0, d, d', h => by simp at h; subst h; simp [pdl21, pdc21]
  | e :: L, y + 1, d, d', h => by
    have ih := pdl21_set L y d d' (by simpa using h)
    have e0 : ∀ M, pdl21 (e :: M) = pdc21 e ++ pdl21 M := fun M => by simp [pdl21]
    have hl : (pdc21 e).length = 3 := rfl
    rw [List.set_cons_succ, e0, e0, ih, show (y + 1) * 3 = 3 + y * 3 by omega]
    rw [← hl, Nat.add_assoc, Nat.add_assoc, set_app21, set_app21, set_app21]
def fb21 (S : Fs21) (x y : Int) : List Int := (sh21 S x y).b ++ List.replicate (S.pg - (sh21 S x y).b.length) 255
theorem fb21_len {S : Fs21} (h : Ok21 S) (x y : Int) : (fb21 S x y).length = S.pg := by
  have := (sh21_ok h x y).1
  simp [fb21]; omega
structure Rf21 (w : World) (b : Nat) (g c : Nat → Nat) (A : Nat → List Pd21) (tn : List Int) (ta : Option Addr) (tc : Nat) (la : Option Addr) (lc : Nat) (V : Nat → Prop) (S : Fs21) : Prop where
  hp : w.heap[b]? = some (.cells #[.int .i64 (S.pg : Int), .int .i64 (S.ps : Int), .int .i64 S.ac, .slice (some ⟨g 0, 0, none⟩) (A 0).length (c 0), .slice (some ⟨g 1, 0, none⟩) (A 1).length (c 1), .slice (some ⟨g 2, 0, none⟩) (A 2).length (c 2), .slice la S.lg.length lc, .bool (!S.on), .int .i64 S.lf, .slice ta tn.length tc, .int .i64 S.lm] 46 (0, 0))
  ha : ∀ x, x < 3 → ∃ X : List Value, w.heap[g x]? = some (.cells (pdl21 (A x) ++ X).toArray 72 (0, 0))
  hn : ∀ x : Nat, x < 3 → ((A x).length : Int) = pn21 S.ps (x : Int) ∧ (A x).length ≤ c x
  hd : ∀ (x y : Nat) (d : Pd21), x < 3 → (A x)[y]? = some d → Seg w (some ⟨d.k, d.off, none⟩) d.b ∧ V d.k ∧ d.b = fb21 S (x : Int) (y : Int) ∧ d.er = (sh21 S (x : Int) (y : Int)).er ∧ d.wr = (sh21 S (x : Int) (y : Int)).wr ∧ d.b.length ≤ d.c
  ht : (S.lf ≠ 0 → tn = S.tn) ∧ Sl21 w V ta tn tc
  hl : w.ownsRow 0 125 3 (.slice la S.lg.length lc) S.lg.length (lgc21 S.lg)
  gi : g 0 ≠ g 1 ∧ g 0 ≠ g 2 ∧ g 1 ≠ g 2
  vb : ¬ V b
  vg : ∀ x, x < 3 → ¬ V (g x)
  vl : ∀ k, (Value.slice la S.lg.length lc).ownBlock = some k → ¬ V k
  vs : ∀ k, V k → k < w.heap.size
section
variable {w w' : World} {b : Nat} {g c : Nat → Nat} {A : Nat → List Pd21} {tn : List Int} {ta : Option Addr} {tc : Nat} {la : Option Addr} {lc : Nat} {V V' : Nat → Prop} {S S' : Fs21}
theorem Rf21.bl (h : Rf21 w b g c A tn ta tc la lc V S) : b < w.heap.size := (Array.getElem?_eq_some_iff.1 h.hp).1
theorem Rf21.gl (h : Rf21 w b g c A tn ta tc la lc V S) {x : Nat} (hx : x < 3) : g x < w.heap.size := by
  obtain ⟨X, hX⟩ := h.ha x hx
  exact (Array.getElem?_eq_some_iff.1 hX).1
theorem Rf21.bg (h : Rf21 w b g c A tn ta tc la lc V S) {x : Nat} (hx : x < 3) : b ≠ g x := fun e => by
  obtain ⟨X, hX⟩ := h.ha x hx
  have := h.hp
  rw [e, hX] at this
  injection this with h2
  injection h2 with _ h3 _
  exact absurd h3 (by decide)
theorem Rf21.lo (h : Rf21 w b g c A tn ta tc la lc V S) {k : Nat} (hk : (Value.slice la S.lg.length lc).ownBlock = some k) : k < w.heap.size ∧ k ≠ b ∧ ∀ x, x < 3 → k ≠ g x := by
  rcases h.hl.2 with ⟨h1, h2⟩ | ⟨q, cap, cur, h1, h2, h3, h4⟩
  · rw [h1] at hk; cases hk
  · rw [h1] at hk
    simp [Value.ownBlock] at hk
    subst hk
    refine ⟨(Array.getElem?_eq_some_iff.1 h3).1, fun e => ?_, fun x hx e => ?_⟩
    · have := h.hp
      rw [← e, h3] at this
      injection this with h2
      injection h2 with _ h3 _
      exact absurd h3 (by decide)
    · obtain ⟨X, hX⟩ := h.ha x hx
      rw [← e, h3] at hX
      injection hX with h2
      injection h2 with _ h3 _
      exact absurd h3 (by decide)
theorem Rf21.kp (h : Rf21 w b g c A tn ta tc la lc V S) (h1 : w'.heap[b]? = w.heap[b]?) (h2 : ∀ x, x < 3 → w'.heap[g x]? = w.heap[g x]?) (h3 : ∀ k, (Value.slice la S.lg.length lc).ownBlock = some k → w'.heap[k]? = w.heap[k]?) (h4 : ∀ k, V k → w'.heap[k]? = w.heap[k]?) (h5 : w.heap.size ≤ w'.heap.size) : Rf21 w' b g c A tn ta tc la lc V S := by
  refine ⟨h1.trans h.hp, fun x hx => ?_, h.hn, fun x y d hx hy => ?_, ⟨h.ht.1, h.ht.2.kp h4 (fun _ e => e)⟩, ?_, h.gi, h.vb, h.vg, h.vl, fun k e => Nat.lt_of_lt_of_le (h.vs k e) h5⟩
  · obtain ⟨X, hX⟩ := h.ha x hx
    exact ⟨X, (h2 x hx).trans hX⟩
  · obtain ⟨q1, q2, q3⟩ := h.hd x y d hx hy
    refine ⟨q1.of_cells fun b' off' i v hi ha hc => ?_, q2, q3⟩
    cases ha
    rw [World.cell?_of_block (a := ⟨d.k, d.off + i, none⟩) (h4 d.k q2)]
    exact hc
  · refine ⟨h.hl.1, ?_⟩
    rcases h.hl.2 with q | ⟨q, cap, cur, q1, q2, q3, q4⟩
    · exact .inl q
    · exact .inr ⟨q, cap, cur, q1, q2, (h3 q (by rw [q1]; rfl)).trans q3, q4⟩
theorem Rf21.old (h : Rf21 w b g c A tn ta tc la lc V S) (hb : Below w.heap.size w w') : Rf21 w' b g c A tn ta tc la lc V S :=
  h.kp (hb.block b h.bl) (fun x hx => hb.block _ (h.gl hx)) (fun k e => hb.block k (h.lo e).1) (fun k e => hb.block k (h.vs k e)) hb.size
theorem Rf21.cel (h : Rf21 w b g c A tn ta tc la lc V S) {i : Nat} {v : Value} (hi : (#[.int .i64 (S.pg : Int), .int .i64 (S.ps : Int), .int .i64 S.ac, .slice (some ⟨g 0, 0, none⟩) (A 0).length (c 0), .slice (some ⟨g 1, 0, none⟩) (A 1).length (c 1), .slice (some ⟨g 2, 0, none⟩) (A 2).length (c 2), .slice la S.lg.length lc, .bool (!S.on), .int .i64 S.lf, .slice ta tn.length tc, .int .i64 S.lm] : Array Value)[i]? = some v) : w.cell? ⟨b, i, none⟩ = some v := by
  simp only [World.cell?, h.hp]; exact hi
theorem Rf21.fr (h : Rf21 w b g c A tn ta tc la lc V S) (i : Nat) : w.frozen? ⟨b, i, none⟩ = false := by simp [World.frozen?, h.hp]
theorem Rf21.frg (h : Rf21 w b g c A tn ta tc la lc V S) {x : Nat} (hx : x < 3) (i : Nat) : w.frozen? ⟨g x, i, none⟩ = false := by
  obtain ⟨X, hX⟩ := h.ha x hx
  simp [World.frozen?, hX]
theorem Rf21.car (h : Rf21 w b g c A tn ta tc la lc V S) {x : Nat} (hx : x < 3) : w.cell? ⟨b, 3 + x, none⟩ = some (.slice (some ⟨g x, 0, none⟩) (A x).length (c x)) := by
  rcases (show x = 0 ∨ x = 1 ∨ x = 2 by omega) with rfl | rfl | rfl
  · exact h.cel (i := 3) rfl
  · exact h.cel (i := 4) rfl
  · exact h.cel (i := 5) rfl
theorem Rf21.pgc (h : Rf21 w b g c A tn ta tc la lc V S) {x y : Nat} {d : Pd21} (hx : x < 3) (hy : (A x)[y]? = some d) : w.cell? ⟨g x, y * 3, none⟩ = some (.slice (some ⟨d.k, d.off, none⟩) d.b.length d.c) ∧ w.cell? ⟨g x, y * 3 + 1, none⟩ = some (.bool d.er) ∧ w.cell? ⟨g x, y * 3 + 2, none⟩ = some (.int .i64 d.wr) := by
  obtain ⟨X, hX⟩ := h.ha x hx
  have hl := pdl21_len (A x)
  have hlt : y < (A x).length := by
    rcases Nat.lt_or_ge y (A x).length with q | q
    · exact q
    · rw [List.getElem?_eq_none q] at hy; cases hy
  obtain ⟨e1, e2, e3⟩ := pdl21_get (A x) y d hy
  simp only [World.cell?, hX]
  simp only [List.getElem?_toArray]
  refine ⟨?_, ?_, ?_⟩
  · rw [List.getElem?_append_left (by omega)]; exact e1
  · rw [List.getElem?_append_left (by omega)]; exact e2
  · rw [List.getElem?_append_left (by omega)]; exact e3
end
/-- The document's flash over a footprint. -/
def Rl21d (w : World) (b : Nat) (G : Nat → Prop) (S : Fs21) : Prop := ∃ g c A tn ta tc la lc V, Rf21 w b g c A tn ta tc la lc V S ∧ G b ∧ (∀ x, x < 3 → G (g x)) ∧ (∀ k, (Value.slice la S.lg.length lc).ownBlock = some k → G k) ∧ (∀ k, V k → G k) ∧ (∀ k, G k → k < w.heap.size)
def Rn21 (w w' : World) (b : Nat) (G : Nat → Prop) (S' : Fs21) : Prop := ∃ G', Rl21d w' b G' S' ∧ (∀ k, G' k → G k ∨ w.heap.size ≤ k) ∧ Kp G w w'
section
variable {w w' : World} {b : Nat} {G : Nat → Prop} {S S' : Fs21}
theorem Rl21d.old (h : Rl21d w b G S) (hb : Below w.heap.size w w') : Rl21d w' b G S := by
  obtain ⟨g, c, A, tn, ta, tc, la, lc, V, h1, h2, h3, h4, h5, h6⟩ := h
  exact ⟨g, c, A, tn, ta, tc, la, lc, V, h1.old hb, h2, h3, h4, h5, fun k e => Nat.lt_of_lt_of_le (h6 k e) hb.size⟩
theorem Rl21d.kp (h : Rl21d w b G S) (hk : ∀ k, G k → w'.heap[k]? = w.heap[k]?) (hs : w.heap.size ≤ w'.heap.size) : Rl21d w' b G S := by
  obtain ⟨g, c, A, tn, ta, tc, la, lc, V, h1, h2, h3, h4, h5, h6⟩ := h
  exact ⟨g, c, A, tn, ta, tc, la, lc, V, h1.kp (hk b h2) (fun x hx => hk _ (h3 x hx)) (fun k e => hk k (h4 k e)) (fun k e => hk k (h5 k e)) hs, h2, h3, h4, h5, fun k e => Nat.lt_of_lt_of_le (h6 k e) hs⟩
theorem Rl21d.stay (h : Rl21d w b G S) (hb : Below w.heap.size w w') : Rn21 w w' b G S := ⟨G, h.old hb, fun _ e => .inl e, Kp.of_below hb⟩
theorem Rl21d.lts (h : Rl21d w b G S) : ∀ k, G k → k < w.heap.size := by
  obtain ⟨g, c, A, tn, ta, tc, la, lc, V, h1, h2, h3, h4, h5, h6⟩ := h
  exact h6
theorem Rn21.from {w1 : World} (h : Rn21 w1 w' b G S) (hb : Below w.heap.size w w1) : Rn21 w w' b G S := by
  obtain ⟨F', h1, h2, h3⟩ := h
  exact ⟨F', h1, fun k e => by rcases h2 k e with h | h; (exact .inl h); (exact .inr (Nat.le_trans hb.size h)), (Kp.of_below hb).trans h3 (fun _ _ e => e)⟩
theorem Rn21.cons {w1 w2 : World} {G1 : Nat → Prop} (f1 : ∀ k, G1 k → G k ∨ w.heap.size ≤ k) (k1 : Kp G w w1) (h : Rn21 w1 w2 b G1 S) : Rn21 w w2 b G S := by
  obtain ⟨G2, h1, h2, h3⟩ := h
  refine ⟨G2, h1, fun x e => ?_, k1.trans h3 (fun i hi e => ?_)⟩
  · rcases h2 x e with q | q
    · exact f1 x q
    · exact .inr (Nat.le_trans k1.size q)
  · rcases f1 i e with q | q
    · exact q
    · omega
end
/-! blank. -/
theorem row_set21 {w : World} {g i : Nat} {X : List Int} {t : TypeId} (h : w.heap[g]? = some (.cells (X.map (Value.int .u8)).toArray t (0, 0))) (y : Int) : (w.setCell ⟨g, i, none⟩ (.int .u8 y)).heap[g]? = some (.cells ((X.set i y).map (Value.int .u8)).toArray t (0, 0)) := by
  simp [World.setCell, Array.getElem?_modify, h, List.map_set]
theorem run_mk21d (n : Nat) (h : n ≤ 281474976710656) (w : World) :
    (Instr.makeSlice 22 (.int .i64 (n : Int)) (.int .i64 (n : Int))).run Tryd.prog w = .ok (.slice (some ⟨w.heap.size, 0, none⟩) n n) (w.alloc (.cells ((List.replicate n (0 : Int)).map (Value.int .u8)).toArray 5)) := by
  have e : madeCells #[.int .u8 0] n = ((List.replicate n (0 : Int)).map (Value.int .u8)).toArray := by
    apply Array.toList_inj.1
    rw [toList_madeCells_one]
    simp
  rw [← e]
  exact run_make_row' 22 5 (.int .u8 0) 1 Tryd.underlying22 info_y21 rfl .i64 .i64 n (by omega) (by omega) w
theorem rep_set21 (n i : Nat) (h : i < n) : (List.replicate i (255 : Int) ++ List.replicate (n - i) 0).set i 255 = List.replicate (i + 1) 255 ++ List.replicate (n - (i + 1)) 0 := by
  obtain ⟨m, hm⟩ : ∃ m, n - i = m + 1 := ⟨n - i - 1, by omega⟩
  have e : (List.replicate i (255 : Int) ++ List.replicate (m + 1) (0 : Int)).set i 255 = List.replicate i 255 ++ (List.replicate (m + 1) (0 : Int)).set 0 255 := by
    have q := set_app21 (List.replicate i (255 : Int)) (List.replicate (m + 1) (0 : Int)) 0 255
    rw [List.length_replicate, Nat.add_zero] at q
    exact q
  rw [hm, show n - (i + 1) = m by omega, e, List.replicate_succ, List.set_cons_zero, List.replicate_succ' (n := i)]
  simp
def Bk21 (w : World) (g n : Nat) (e : Ending) (w' : World) : Prop := e = .returned (.slice (some ⟨g, 0, none⟩) n n) ∧ w'.heap[g]? = some (.cells ((List.replicate n (255 : Int)).map (Value.int .u8)).toArray 5 (0, 0)) ∧ Below w.heap.size w w'
set_option maxRecDepth 100000 in
set_option maxHeartbeats 2000000 in
theorem rblk21 (n : Nat) (hn : n ≤ 16777216) (w : World) : Calls Tryd.prog 25 #[.int .i64 (n : Int)] w fun e w' => Bk21 w w.heap.size n e w' := by
  have HMK := run_mk21d n (by omega) w
  obtain ⟨w1, hw1⟩ : ∃ w1, w1 = w.alloc (.cells ((List.replicate n (0 : Int)).map (Value.int .u8)).toArray 5) := ⟨_, rfl⟩
  have HI0 : w1.heap[w.heap.size]? = some (.cells ((List.replicate 0 (255 : Int) ++ List.replicate (n - 0) 0).map (Value.int .u8)).toArray 5 (0, 0)) ∧ Below w.heap.size w w1 := by rw [hw1]; exact ⟨by simpa using heap_alloc_new w _, (Below.refl _ _).alloc (Nat.le_refl _) _⟩
  have HI : Hid (w1.heap[w.heap.size]? = some (.cells ((List.replicate 0 (255 : Int) ++ List.replicate (n - 0) 0).map (Value.int .u8)).toArray 5 (0, 0)) ∧ Below w.heap.size w w1) := HI0
  obtain ⟨gg, hgg⟩ : ∃ gg, gg = w.heap.size := ⟨_, rfl⟩
  have HG : Hid (w.heap.size = gg) := hgg.symm
  rw [← hw1, ← hgg] at HMK
  rw [← hgg] at HI
  clear HI0 hw1 hgg
  go_enter Tryd.func25, Tryd.ntmps25
  go_wp2_with fail
  clear HMK
  go_loopw [9] (fun ti wr => ∃ i : Nat, i ≤ n ∧ ti = .int .i64 (i : Int) ∧ wr.heap[gg]? = some (.cells ((List.replicate i (255 : Int) ++ List.replicate (n - i) 0).map (Value.int .u8)).toArray 5 (0, 0)) ∧ Below gg w wr) (fun ti _ => n - (intOf ti).toNat)
  case atStart => exact ⟨0, by omega, rfl, HI.out.1, HI.out.2⟩
  case round =>
    obtain ⟨i, hi, rfl, hr, hb⟩ := hrel
    by_cases hlt : i < n
    · have hii : (i : Int) < (n : Int) := by omega
      have hiw : IntKind.i64.wrap ((i : Int) + 1) = ((i + 1 : Nat) : Int) := by rw [IntWalk.i64_in _ (by omega)]; omega
      have hx : ∃ x, wr.cell? ⟨gg, i, none⟩ = some x := by
        simp only [World.cell?, hr]
        exact ⟨_, Array.getElem?_eq_getElem (by simp; omega)⟩
      obtain ⟨x, hx⟩ := hx
      have hf : wr.frozen? ⟨gg, i, none⟩ = false := by simp [World.frozen?, hr]
      have HR : Hid (wr.heap[gg]? = some (.cells ((List.replicate i (255 : Int) ++ List.replicate (n - i) 0).map (Value.int .u8)).toArray 5 (0, 0))) := hr
      have HB : Hid (Below gg w wr) := hb
      clear hr hb
      go_wp2_with fail
      go_roundw
      case rel =>
        refine ⟨i + 1, by omega, by go_num, ?_, ?_⟩
        · have := row_set21 HR.out (i := i) 255
          rw [rep_set21 n i hlt] at this
          exact this
        · have hk : Kp (fun k => k = gg) wr (wr.setCell ⟨gg, i, none⟩ (.int .u8 255)) := Kp.set (S := fun k => k = gg) rfl _
          exact HB.out.trans (hk.below (fun i e => by omega) (by have := HB.out.size; have := HG.out; omega))
      case measure => simp [intOf]; omega
    · obtain rfl : i = n := by omega
      have hii : ¬ (i : Int) < (i : Int) := by omega
      have HR : Hid (wr.heap[gg]? = some (.cells ((List.replicate i (255 : Int) ++ List.replicate (i - i) 0).map (Value.int .u8)).toArray 5 (0, 0))) := hr
      have HB : Hid (Below gg w wr) := hb
      clear hr hb
      go_wp2_with fail
      go_ret
      have := HG.out
      subst this
      exact ⟨rfl, by simpa using HR.out, HB.out⟩
end Go.Proofs.YtjoghmdjnkdokaaDoor

namespace Go.Proofs.YtjoghmdjnkdokaaDoor
open Go.RowKit Go.Shelf
set_option linter.unusedVariables false
set_option linter.unusedSimpArgs false

/-! The landed flash: Cut, Log. -/
section
variable {w w' : World} {b m c tc lc : Nat} {f : Int → Int → Option Value} {ta la : Option Addr} {V V' : Nat → Prop} {S S' : Fs21} {F : Nat → Prop}
theorem Fi21.wid (h : Fi21 w b m c f ta tc la lc V S) (hV : ∀ k, V k → V' k) (vb : ¬ V' b) (vm : ¬ V' m) (vl : ∀ k, (Value.slice la S.lg.length lc).ownBlock = some k → ¬ V' k) (vs : ∀ k, V' k → k < w.heap.size) : Fi21 w b m c f ta tc la lc V' S := by
  refine ⟨h.hp, h.hm, fun x y => ?_, h.ht.kp (fun _ _ => rfl) hV, h.hl, h.hc, vb, vm, vl, vs⟩
  rcases h.hf x y with q | ⟨s, v, q1, q2, q3⟩
  · exact .inl q
  · exact .inr ⟨s, v, q1, q2, q3.kp (fun _ _ => rfl) hV⟩
def cuE21 (S : Fs21) (n : Int) (l : Nat) : Int := if S.on = false then 213 else if n < 0 ∨ S.pg < l then 1 else 0
def cuS21 (S : Fs21) (n : Int) (L : List Int) : Fs21 := if S.on = false then S else if n < 0 ∨ S.pg < L.length then S else { S with lf := n, tn := if 0 < n then L else [] }
set_option maxRecDepth 100000 in
set_option maxHeartbeats 4000000 in
theorem pcut21 (hF : Fl21 w b F S) (hO : Ok21 S) (n : Int) (a : Option Addr) (L : List Int) (l cap : Nat) (hs : Seg w a L) (hl : Hid (L.length = l)) (hnil : a = none → cap = 0) :
    Calls Tryd.prog 21 #[.pointer (some ⟨b, 0, none⟩), .int .i64 n, .slice a l cap] w fun e w' => e = .returned (.int .i64 (cuE21 S n l)) ∧ Fn21 w w' b F (cuS21 S n L) := by
  obtain ⟨c0, c1, c2, c3, c4, cf⟩ := hF.cells
  have HST := pstop21 b S.pg S.on w c0 hO.pg.1 c3
  have HFl : Hid (Fl21 w b F S) := hF
  have HE : Hid (cuE21 S n l = if S.on = false then 213 else if n < 0 ∨ S.pg < l then 1 else 0) := rfl
  have HS : Hid (cuS21 S n L = if S.on = false then S else if n < 0 ∨ S.pg < l then S else { S with lf := n, tn := if 0 < n then L else [] }) := by show cuS21 S n L = _; rw [← hl.out]; rfl
  rw [HE.out, HS.out]
  have f6 := cf 6
  have f7 := cf 7
  by_cases hon : S.on = false
  · rw [hon] at HST
    rw [if_pos hon, if_pos hon]
    clear hF cf c1 c2 c3 c4
    go_enter Tryd.func21, Tryd.ntmps21
    go_wp2_with fail
    refine HST.mono ?_
    rintro e w1 ⟨rfl, hw⟩
    subst w1
    go_wp2_with fail
    go_ret
    exact ⟨rfl, HFl.out.stay (Below.refl _ _)⟩
  · have hon' : S.on = true := by simpa using hon
    rw [hon'] at HST
    rw [if_neg hon, if_neg hon]
    by_cases h1 : n < 0
    · rw [if_pos (show n < 0 ∨ S.pg < l from .inl h1), if_pos (show n < 0 ∨ S.pg < l from .inl h1)]
      clear hF cf c1 c2 c3 c4
      go_enter Tryd.func21, Tryd.ntmps21
      go_wp2_with fail
      refine HST.mono ?_
      rintro e w1 ⟨rfl, hw⟩
      subst w1
      go_wp2_with fail
      go_ret
      exact ⟨rfl, HFl.out.stay (Below.refl _ _)⟩
    · by_cases h2 : S.pg < l
      · rw [if_pos (show n < 0 ∨ S.pg < l from .inr h2), if_pos (show n < 0 ∨ S.pg < l from .inr h2)]
        have h2' : (S.pg : Int) < (l : Int) := by omega
        clear hF cf c1 c2 c3 c4
        go_enter Tryd.func21, Tryd.ntmps21
        go_wp2_with fail
        refine HST.mono ?_
        rintro e w1 ⟨rfl, hw⟩
        subst w1
        go_wp2_with fail
        go_ret
        exact ⟨rfl, HFl.out.stay (Below.refl _ _)⟩
      · rw [if_neg (show ¬ (n < 0 ∨ S.pg < l) by omega), if_neg (show ¬ (n < 0 ∨ S.pg < l) by omega)]
        have h2' : ¬ (S.pg : Int) < (l : Int) := by omega
        obtain ⟨m, c, f, ta, tc, la, lc, V, hI, hFb, hFm, hFl, hFV, hFs⟩ := hF
        have c6 := hI.cel (i := 6) rfl
        have c7 := hI.cel (i := 7) rfl
        obtain ⟨w1, hw1⟩ : ∃ w1, w1 = (w.setCell ⟨b, 6, none⟩ (.int .i64 0)).setCell ⟨b, 7, none⟩ (.slice none 0 0) := ⟨_, rfl⟩
        have HW1 : Hid ((w.setCell ⟨b, 6, none⟩ (.int .i64 0)).setCell ⟨b, 7, none⟩ (.slice none 0 0) = w1) := hw1.symm
        have k1 : Kp (fun k => k = b) w w1 := by rw [hw1]; exact (Kp.set (S := fun k => k = b) rfl _).trans (Kp.set (S := fun k => k = b) rfl _) (fun _ _ e => e)
        have hI1 : Fi21 w1 b m c f none 0 la lc V { S with lf := 0, tn := [] } := hI.re (S' := { S with lf := 0, tn := [] }) k1 rfl rfl ⟨SegK.nil (by decide) _ _, .inl rfl, fun _ => rfl, by simp⟩ (by rw [hw1]; simp [World.setCell, Array.getElem?_modify, hI.hp])
        have hsz : w1.heap.size = w.heap.size := by rw [hw1]; simp
        by_cases h3 : 0 < n
        · rw [if_pos h3]
          have hsb : ∀ k off, a = some ⟨k, off, none⟩ → 0 < L.length → k ≠ b := fun k off e hp e' => by
            obtain ⟨g', off', hx, hc⟩ := hs.at_ 0 hp
            rw [e] at hx
            cases hx
            subst e'
            rw [Nat.add_zero] at hc
            simp only [World.cell?, hI.hp] at hc
            rcases off with _ | _ | _ | _ | _ | _ | _ | _ | _ | off <;> simp at hc
          have hs1 : Seg w1 a L := hs.kp k1 (fun k off e hp => hsb k off e hp)
          have HC := pcl21 a L l cap w1 hs1 hl hnil (by have := hO.pg.2; omega)
          have d0 : w1.cell? ⟨b, 0, none⟩ = some (.int .i64 (S.pg : Int)) := hI1.cel (i := 0) rfl
          have HI1 : Hid (Fi21 w1 b m c f none 0 la lc V { S with lf := 0, tn := [] }) := hI1
          have HKS : Hid (Kp (fun k => k = b) w w1 ∧ w1.heap.size = w.heap.size) := ⟨k1, hsz⟩
          clear hs1 hs hI1 k1 hw1 hI cf c1 c2 c3 c4 hsz hsb
          go_enter Tryd.func21, Tryd.ntmps21
          go_wp2_with fail
          refine HST.mono ?_
          rintro e w1' ⟨rfl, hw⟩
          subst w1'
          go_wp2_with fail
          rw [HW1.out]
          refine HC.mono ?_
          rintro e w2 ⟨⟨ra, rc, rfl, hcl⟩, b2⟩
          have hI2 := HI1.out.old b2
          have e6 := hI2.cel (i := 6) rfl
          have e7 := hI2.cel (i := 7) rfl
          have g6 := hI2.fr 6
          have g7 := hI2.fr 7
          have HI2 : Hid (Fi21 w2 b m c f none 0 la lc V { S with lf := 0, tn := [] }) := hI2
          have HCL : Hid (Cl21 w2 ra L rc w1.heap.size) := hcl
          clear hI2 hcl
          go_wp2_with fail
          go_ret
          obtain ⟨q1, q2, q3, q4⟩ := HCL.out
          have hz := HKS.out.2
          have hVk : ∀ k, (V k ∨ ra = some ⟨k, 0, none⟩) → F k ∨ w.heap.size ≤ k := fun k e => by
            rcases e with e | e
            · exact .inl (hFV k e)
            · rcases q2 with q2 | ⟨k', q2, q5, q6⟩
              · rw [q2] at e; cases e
              · rw [q2] at e; cases e; exact .inr (by omega)
          have hra : ∀ k, ra = some ⟨k, 0, none⟩ → w.heap.size ≤ k ∧ k < w2.heap.size := fun k e => by
            rcases q2 with q2 | ⟨k', q2, q5, q6⟩
            · rw [q2] at e; cases e
            · rw [q2] at e; cases e; exact ⟨by omega, q6⟩
          have hbw := hFs b hFb
          have hmw := hFs m hFm
          have hI3 := HI2.out.wid (V' := fun k => V k ∨ ra = some ⟨k, 0, none⟩) (fun k e => .inl e) (by rintro (e | e); (exact HI2.out.vb e); (have := hra _ e; omega)) (by rintro (e | e); (exact HI2.out.vm e); (have := hra _ e; omega)) (by
            intro k e h
            rcases h with h | h
            · exact HI2.out.vl k e h
            · have := hFs k (hFl k e); have := hra _ h; omega) (by
            rintro k (e | e)
            · exact HI2.out.vs k e
            · exact (hra k e).2)
          have hp2 := hI3.hp
          refine ⟨rfl, fun k => F k ∨ ra = some ⟨k, 0, none⟩, ⟨m, c, f, ra, rc, la, lc, fun k => V k ∨ ra = some ⟨k, 0, none⟩, hI3.re (S' := { S with lf := n, tn := L }) ?_ rfl rfl ⟨q1, ?_, q3, q4⟩ ?_, .inl hFb, .inl hFm, fun k e => .inl (hFl k e), ?_, ?_⟩, ?_, ?_⟩
          · exact (Kp.set (S := fun k => k = b) rfl _).trans (Kp.set (S := fun k => k = b) rfl _) (fun _ _ e => e)
          · rcases q2 with q2 | ⟨k', q2, q5, q6⟩
            · exact .inl q2
            · exact .inr ⟨k', q2, .inr q2⟩
          · have := hl.out
            simp [World.setCell, Array.getElem?_modify, hp2, this]
          · rintro k (e | e)
            · exact .inl (hFV k e)
            · exact .inr e
          · have := b2.size
            rintro k (e | e)
            · have := hFs k e; simp; omega
            · have := hra k e; simp; omega
          · rintro k (e | e)
            · exact .inl e
            · exact .inr (hra k e).1
          · exact (((HKS.out.1.mono (S' := F) (fun i _ e => e ▸ hFb)).trans (Kp.of_below (S := F) b2) (fun _ _ e => e)).trans (Kp.set (S := F) hFb _) (fun _ _ e => e)).trans (Kp.set (S := F) hFb _) (fun _ _ e => e)
        · rw [if_neg h3]
          obtain rfl : n = 0 := by omega
          have hFN : Fn21 w w1 b F { S with lf := 0, tn := [] } := ⟨F, ⟨m, c, f, none, 0, la, lc, V, hI1, hFb, hFm, hFl, hFV, fun k e => by rw [hsz]; exact hFs k e⟩, fun _ e => .inl e, k1.mono (fun i _ e => e ▸ hFb)⟩
          have HFN : Hid (Fn21 w w1 b F { S with lf := 0, tn := [] }) := hFN
          clear hs hI1 k1 hw1 hI cf c1 c2 c3 c4 hsz hFN h3
          go_enter Tryd.func21, Tryd.ntmps21
          go_wp2_with fail
          refine HST.mono ?_
          rintro e w1' ⟨rfl, hw⟩
          subst w1'
          go_wp2_with fail
          go_ret
          rw [HW1.out]
          exact ⟨rfl, HFN.out⟩
end
end Go.Proofs.YtjoghmdjnkdokaaDoor

namespace Go.Proofs.YtjoghmdjnkdokaaDoor
open Go.RowKit Go.Shelf
set_option linter.unusedVariables false
set_option linter.unusedSimpArgs false

/-! The document's flash: what a change leaves; is, Turn, Plan. -/
section
variable {w w' : World} {b : Nat} {g c : Nat → Nat} {A : Nat → List Pd21} {tn : List Int} {ta : Option Addr} {tc : Nat} {la : Option Addr} {lc : Nat} {V V' : Nat → Prop} {S S' : Fs21}
theorem sh21_pa (h : S'.pa = S.pa) (x y : Int) : sh21 S' x y = sh21 S x y := by unfold sh21; rw [h]
theorem fb21_pa (h : S'.pa = S.pa) (h' : S'.pg = S.pg) (x y : Int) : fb21 S' x y = fb21 S x y := by unfold fb21; rw [sh21_pa h, h']
theorem Rf21.re (h : Rf21 w b g c A tn ta tc la lc V S) (hk : Kp (fun k => k = b) w w') (e1 : S'.pa = S.pa) (e2 : S'.lg = S.lg) (e3 : S'.pg = S.pg) (e4 : S'.ps = S.ps) {tn' : List Int} {ta' : Option Addr} {tc' : Nat} (ht' : (S'.lf ≠ 0 → tn' = S'.tn) ∧ Sl21 w V ta' tn' tc')
    (hp : w'.heap[b]? = some (.cells #[.int .i64 (S'.pg : Int), .int .i64 (S'.ps : Int), .int .i64 S'.ac, .slice (some ⟨g 0, 0, none⟩) (A 0).length (c 0), .slice (some ⟨g 1, 0, none⟩) (A 1).length (c 1), .slice (some ⟨g 2, 0, none⟩) (A 2).length (c 2), .slice la S'.lg.length lc, .bool (!S'.on), .int .i64 S'.lf, .slice ta' tn'.length tc', .int .i64 S'.lm] 46 (0, 0))) :
    Rf21 w' b g c A tn' ta' tc' la lc V S' := by
  have hV : ∀ k, V k → w'.heap[k]? = w.heap[k]? := fun k e => hk.block k (h.vs k e) (fun q => h.vb (q ▸ e))
  have hl := h.hl
  have hvl := h.vl
  refine ⟨hp, fun x hx => ?_, by rw [e4]; exact h.hn, fun x y d hx hy => ?_, ⟨ht'.1, ht'.2.kp hV (fun _ e => e)⟩, ?_, h.gi, h.vb, h.vg, by rw [e2]; exact h.vl, fun k e => Nat.lt_of_lt_of_le (h.vs k e) hk.size⟩
  · obtain ⟨X, hX⟩ := h.ha x hx
    exact ⟨X, (hk.block _ (h.gl hx) (fun e => h.bg hx e.symm)).trans hX⟩
  · obtain ⟨q1, q2, q3⟩ := h.hd x y d hx hy
    rw [fb21_pa e1 e3, sh21_pa e1]
    refine ⟨q1.of_cells fun b' off' i v hi ha hc => ?_, q2, q3⟩
    cases ha
    rw [World.cell?_of_block (a := ⟨d.k, d.off + i, none⟩) (hV d.k q2)]
    exact hc
  · rw [e2]
    refine ⟨hl.1, ?_⟩
    rcases hl.2 with q | ⟨q, cap, cur, q1, q2, q3, q4⟩
    · exact .inl q
    · have hq := h.lo (k := q) (by rw [q1]; rfl)
      exact .inr ⟨q, cap, cur, q1, q2, (hk.block q hq.1 hq.2.1).trans q3, q4⟩
/-- More bytes may be spoken of. -/
theorem Rf21.wid (h : Rf21 w b g c A tn ta tc la lc V S) (hV : ∀ k, V k → V' k) (vb : ¬ V' b) (vg : ∀ x, x < 3 → ¬ V' (g x)) (vl : ∀ k, (Value.slice la S.lg.length lc).ownBlock = some k → ¬ V' k) (vs : ∀ k, V' k → k < w.heap.size) : Rf21 w b g c A tn ta tc la lc V' S :=
  ⟨h.hp, h.ha, h.hn, fun x y d hx hy => by obtain ⟨q1, q2, q3⟩ := h.hd x y d hx hy; exact ⟨q1, hV _ q2, q3⟩, ⟨h.ht.1, h.ht.2.kp (fun _ _ => rfl) hV⟩, h.hl, h.gi, vb, vg, vl, vs⟩
def ad21 (A : Nat → List Pd21) (x y : Nat) (d : Pd21) : Nat → List Pd21 := fun z => if z = x then (A x).set y d else A z
theorem ad21_len (A : Nat → List Pd21) (x y : Nat) (d : Pd21) (z : Nat) : (ad21 A x y d z).length = (A z).length := by
  unfold ad21; split
  · rename_i h; subst h; simp
  · rfl
theorem sh21_up (S : Fs21) (x y : Int) (s : Sh21) (x' y' : Int) : sh21 { S with pa := up21 S.pa x y s } x' y' = if x' = x ∧ y' = y then s else sh21 S x' y' := by
  unfold sh21 up21
  by_cases h : x' = x ∧ y' = y
  · simp [h]
  · simp [h]
/-- A page anew. -/
theorem Rf21.page (h : Rf21 w b g c A tn ta tc la lc V S) {x y : Nat} (hx : x < 3) (hy : y < (A x).length) (d : Pd21) (s : Sh21) (hk : Kp (fun k => k = g x) w w') (hg : ∃ X : List Value, w'.heap[g x]? = some (.cells (pdl21 ((A x).set y d) ++ X).toArray 72 (0, 0)))
    (h1 : Seg w' (some ⟨d.k, d.off, none⟩) d.b) (h2 : V d.k) (h3 : d.b = s.b ++ List.replicate (S.pg - s.b.length) 255) (h4 : d.er = s.er) (h5 : d.wr = s.wr) (h6 : d.b.length ≤ d.c) :
    Rf21 w' b g c (ad21 A x y d) tn ta tc la lc V { S with pa := up21 S.pa (x : Int) (y : Int) s } := by
  have hV : ∀ k, V k → w'.heap[k]? = w.heap[k]? := fun k e => hk.block k (h.vs k e) (fun q => h.vg x hx (q ▸ e))
  have hgne : ∀ z, z < 3 → z ≠ x → g z ≠ g x := fun z hz hne => by
    have := h.gi
    rcases (show x = 0 ∨ x = 1 ∨ x = 2 by omega) with rfl | rfl | rfl <;> rcases (show z = 0 ∨ z = 1 ∨ z = 2 by omega) with rfl | rfl | rfl <;> first | exact absurd rfl hne | exact this.1 | exact this.2.1 | exact this.2.2 | exact this.1.symm | exact this.2.1.symm | exact this.2.2.symm
  refine ⟨?_, fun z hz => ?_, fun z hz => ?_, fun z y' d' hz hy' => ?_, ⟨h.ht.1, h.ht.2.kp hV (fun _ e => e)⟩, ?_, h.gi, h.vb, h.vg, h.vl, fun k e => Nat.lt_of_lt_of_le (h.vs k e) hk.size⟩
  · rw [ad21_len, ad21_len, ad21_len]
    exact (hk.block b h.bl (h.bg hx)).trans h.hp
  · by_cases e : z = x
    · subst e
      obtain ⟨X, hX⟩ := hg
      exact ⟨X, by simpa [ad21] using hX⟩
    · obtain ⟨X, hX⟩ := h.ha z hz
      exact ⟨X, by simpa [ad21, e] using (hk.block _ (h.gl hz) (hgne z hz e)).trans hX⟩
  · rw [ad21_len]; exact h.hn z hz
  · have hfb : ∀ a b, fb21 { S with pa := up21 S.pa (x : Int) (y : Int) s } a b = (if a = (x : Int) ∧ b = (y : Int) then s.b ++ List.replicate (S.pg - s.b.length) 255 else fb21 S a b) := fun a b => by
      unfold fb21
      rw [sh21_up]
      split <;> rfl
    rw [hfb, sh21_up]
    by_cases e : z = x
    · subst e
      by_cases e2 : y' = y
      · subst e2
        have : d' = d := by simpa [ad21, hy] using hy'.symm
        subst this
        simp only [and_self, if_true]
        exact ⟨h1, h2, h3, h4, h5, h6⟩
      · have e2' : ¬ (y' : Int) = (y : Int) := by omega
        have hne : ¬ y = y' := fun q => e2 q.symm
        have : (A z)[y']? = some d' := by simpa [ad21, List.getElem?_set, hne] using hy'
        simp only [e2', and_false, if_false]
        obtain ⟨q1, q2, q3⟩ := h.hd z y' d' hz this
        refine ⟨q1.of_cells fun b' off' i v hi ha hc => ?_, q2, q3⟩
        cases ha
        rw [World.cell?_of_block (a := ⟨d'.k, d'.off + i, none⟩) (hV d'.k q2)]
        exact hc
    · have e' : ¬ (z : Int) = (x : Int) := by omega
      have : (A z)[y']? = some d' := by simpa [ad21, e] using hy'
      simp only [e', false_and, if_false]
      obtain ⟨q1, q2, q3⟩ := h.hd z y' d' hz this
      refine ⟨q1.of_cells fun b' off' i v hi ha hc => ?_, q2, q3⟩
      cases ha
      rw [World.cell?_of_block (a := ⟨d'.k, d'.off + i, none⟩) (hV d'.k q2)]
      exact hc
  · refine ⟨h.hl.1, ?_⟩
    rcases h.hl.2 with q | ⟨q, cap, cur, q1, q2, q3, q4⟩
    · exact .inl q
    · have hq := h.lo (k := q) (by rw [q1]; rfl)
      exact .inr ⟨q, cap, cur, q1, q2, (hk.block q hq.1 (hq.2.2 x hx)).trans q3, q4⟩
theorem Rf21.at (h : Rf21 w b g c A tn ta tc la lc V S) {x : Int} {y : Int} (hm : ms21 S.ps x y = 0) : ∃ (X Y : Nat) (d : Pd21), x = (X : Int) ∧ y = (Y : Int) ∧ X < 3 ∧ Y < (A X).length ∧ (A X)[Y]? = some d := by
  unfold ms21 pn21 at hm
  have hx : 0 ≤ x ∧ x ≤ 2 ∧ 0 ≤ y := by
    by_cases h1 : x < 0 ∨ 2 < x
    · simp [h1] at hm; omega
    · by_cases h2 : y < 0
      · simp [h2] at hm
      · omega
  obtain ⟨X, rfl⟩ : ∃ X : Nat, x = (X : Int) := ⟨x.toNat, by omega⟩
  obtain ⟨Y, rfl⟩ : ∃ Y : Nat, y = (Y : Int) := ⟨y.toNat, by omega⟩
  have h3 : X < 3 := by omega
  have hn := (h.hn X h3).1
  have hlt : Y < (A X).length := by
    have : ¬ ((Y : Int) < 0 ∨ pn21 S.ps (X : Int) ≤ (Y : Int)) := fun q => by
      unfold pn21 at q
      rw [if_pos q] at hm
      cases hm
    omega
  exact ⟨X, Y, _, rfl, rfl, h3, hlt, List.getElem?_eq_getElem hlt⟩
end
/-! is. -/
set_option maxRecDepth 100000 in
set_option maxHeartbeats 2000000 in
theorem ris21 {w : World} {b : Nat} {G : Nat → Prop} {S : Fs21} (h : Rl21d w b G S) (x y : Int) (hx : In21 x) (hy : In21 y) :
    Calls Tryd.prog 58 #[.pointer (some ⟨b, 0, none⟩), .int .i64 x, .int .i64 y] w fun e w' => e = .returned (.bool (decide (ms21 S.ps x y = 0))) ∧ w' = w := by
  obtain ⟨g, c, A, tn, ta, tc, la, lc, V, h1, -⟩ := h
  by_cases c1 : x < 0
  · have e : decide (ms21 S.ps x y = 0) = false := by simp [ms21, pn21, c1] <;> omega
    rw [e]
    have c1' : ¬ 0 ≤ x := by omega
    clear e h1
    go_enter Tryd.func58, Tryd.ntmps58
    go_wp2_with fail
    go_ret
    exact ⟨rfl, rfl⟩
  · have c1' : 0 ≤ x := by omega
    by_cases c2 : 2 < x
    · have e : decide (ms21 S.ps x y = 0) = false := by simp [ms21, pn21, c2] <;> omega
      rw [e]
      have c2' : ¬ x ≤ 2 := by omega
      clear e h1
      go_enter Tryd.func58, Tryd.ntmps58
      go_wp2_with fail
      go_ret
      exact ⟨rfl, rfl⟩
    · have c2' : x ≤ 2 := by omega
      by_cases c3 : y < 0
      · have e : decide (ms21 S.ps x y = 0) = false := by simp [ms21, c3]
        rw [e]
        have c3' : ¬ 0 ≤ y := by omega
        clear e h1
        go_enter Tryd.func58, Tryd.ntmps58
        go_wp2_with fail
        go_ret
        exact ⟨rfl, rfl⟩
      · have c3' : 0 ≤ y := by omega
        obtain ⟨X, rfl⟩ : ∃ X : Nat, x = (X : Int) := ⟨x.toNat, by omega⟩
        have h3 : X < 3 := by omega
        have hn := (h1.hn X h3).1
        have ca := h1.car h3
        obtain ⟨N, hN⟩ : ∃ N, N = (A X).length := ⟨_, rfl⟩
        rw [← hN] at ca hn
        have e : decide (ms21 S.ps (X : Int) y = 0) = decide (y < (N : Int)) := by
          unfold ms21
          rw [← hn]
          by_cases q : y < (N : Int)
          · simp [q]; omega
          · have q' : (N : Int) ≤ y := by omega
            simp [q, q']
        rw [e]
        have hX3 : (X : Int) < 3 := by omega
        clear e h1 hn hN c1 c2 c3
        go_enter Tryd.func58, Tryd.ntmps58
        go_wp2_with fail
        go_ret
        exact ⟨rfl, rfl⟩
set_option maxRecDepth 100000 in
set_option maxHeartbeats 2000000 in
theorem rtrn21 {w : World} {b : Nat} {G : Nat → Prop} {S : Fs21} (h : Rl21d w b G S) (hO : Ok21 S) :
    Calls Tryd.prog 37 #[.pointer (some ⟨b, 0, none⟩)] w fun e w' => e = .returned (.int .i64 (st21 S.on)) ∧ Rn21 w w' b G (tuS21 S) := by
  have HL : Hid (Rl21d w b G S) := h
  obtain ⟨g, c, A, tn, ta, tc, la, lc, V, h1, h2, h3, h4, h5, h6⟩ := h
  have c7 := h1.cel (i := 7) rfl
  have c2 := h1.cel (i := 2) rfl
  have y2 := h1.fr 2
  have HR : Hid (Rf21 w b g c A tn ta tc la lc V S ∧ G b ∧ (∀ x, x < 3 → G (g x)) ∧ (∀ k, (Value.slice la S.lg.length lc).ownBlock = some k → G k) ∧ (∀ k, V k → G k) ∧ (∀ k, G k → k < w.heap.size)) := ⟨h1, h2, h3, h4, h5, h6⟩
  clear h1 h2 h3 h4 h5 h6
  have hS : Hid (tuS21 S = if S.on then { S with ac := 1 - S.ac } else S) := rfl
  have hE : Hid (st21 S.on = if S.on then 0 else 213) := rfl
  rw [hS.out, hE.out]
  by_cases hon : S.on = true
  · rw [if_pos hon, if_pos hon]
    rw [hon] at c7
    have hac : IntKind.i64.wrap (1 - S.ac) = 1 - S.ac := by rw [IntWalk.i64_in _ (by have := hO.ac; omega)]
    clear hS hE
    go_enter Tryd.func37, Tryd.ntmps37
    go_wp2_with fail
    go_ret
    obtain ⟨h1, h2, h3, h4, h5, h6⟩ := HR.out
    have hk : Kp (fun k => k = b) w (w.setCell ⟨b, 2, none⟩ (.int .i64 (1 - S.ac))) := Kp.set (S := fun k => k = b) rfl _
    refine ⟨rfl, G, ⟨g, c, A, tn, ta, tc, la, lc, V, h1.re (S' := { S with ac := 1 - S.ac }) hk rfl rfl rfl rfl ⟨h1.ht.1, h1.ht.2⟩ (by simp [World.setCell, Array.getElem?_modify, h1.hp]), h2, h3, h4, h5, fun k e => Nat.lt_of_lt_of_le (h6 k e) hk.size⟩, fun _ e => .inl e, hk.mono (fun i _ e => by subst e; exact h2)⟩
  · rw [if_neg hon, if_neg hon]
    have hon' : S.on = false := by simpa using hon
    rw [hon'] at c7
    clear hS hE
    go_enter Tryd.func37, Tryd.ntmps37
    go_wp2_with fail
    go_ret
    exact ⟨rfl, HL.out.stay (Below.refl _ _)⟩
end Go.Proofs.YtjoghmdjnkdokaaDoor

namespace Go.Proofs.YtjoghmdjnkdokaaDoor
open Go.RowKit Go.Shelf
set_option linter.unusedVariables false
set_option linter.unusedSimpArgs false

/-! The document's flash: Plan, done. -/
theorem cl21_own {w : World} {N : Nat} {a : Option Addr} {c n : Nat} {zs : List Int} (h : w.ownsRow N 5 1 (.slice a n c) n (zs.map (Value.int .u8))) (hz : ∀ z ∈ zs, 0 ≤ z ∧ z ≤ 255) : Cl21 w a zs c N := by
  obtain ⟨-, a', cap', hv, hsg, hx, hcp, -⟩ := own_seg (M := 255) h (by decide) hz
  simp only [Value.slice.injEq] at hv
  obtain ⟨rfl, -, rfl⟩ := hv
  refine ⟨hsg, ?_, ?_, by have := h.1; simp at this; omega⟩
  · cases a with
    | none => exact .inl rfl
    | some x =>
      obtain ⟨h1, h2, h3, h4⟩ := hx x rfl
      refine .inr ⟨x.block, ?_, h3, h4⟩
      cases x; simp at h1 h2; simp [h1, h2]
  · intro h0
    subst h0
    rcases h.2 with ⟨h1, h2⟩ | ⟨g, cp, cur, hv, _⟩
    · simp at h1; exact h1.2
    · simp at hv
section
variable {w w' : World} {b : Nat} {g c : Nat → Nat} {A : Nat → List Pd21} {tn : List Int} {ta : Option Addr} {tc : Nat} {la : Option Addr} {lc : Nat} {V V' : Nat → Prop} {S S' : Fs21}
/-- Bytes of the call's own may be spoken of. -/
theorem Rf21.new (h : Rf21 w b g c A tn ta tc la lc V S) (hb : Below w.heap.size w w') (Q : Nat → Prop) (hQ : ∀ k, Q k → w.heap.size ≤ k ∧ k < w'.heap.size) : Rf21 w' b g c A tn ta tc la lc (fun k => V k ∨ Q k) S := by
  have h1 := h.bl
  refine (h.old hb).wid (fun _ e => .inl e) ?_ ?_ ?_ ?_
  · rintro (e | e)
    · exact h.vb e
    · have := hQ _ e; omega
  · rintro x hx (e | e)
    · exact h.vg x hx e
    · have := hQ _ e; have := h.gl hx; omega
  · rintro k hk (e | e)
    · exact h.vl k hk e
    · have := hQ _ e; have := (h.lo hk).1; omega
  · rintro k (e | e)
    · exact Nat.lt_of_lt_of_le (h.vs k e) hb.size
    · exact (hQ k e).2
end
set_option maxRecDepth 100000 in
set_option maxHeartbeats 4000000 in
theorem rpln21 {w : World} {b : Nat} {G : Nat → Prop} {S : Fs21} (h : Rl21d w b G S) (hO : Ok21 S) (n : Int) (a : Option Addr) (L : List Int) (l cap : Nat) (hs : Seg w a L) (hl : Hid (L.length = l)) (hnil : a = none → cap = 0) (hb48 : l ≤ 140737488351232) :
    Calls Tryd.prog 35 #[.pointer (some ⟨b, 0, none⟩), .int .i64 n, .slice a l cap] w fun e w' => e = .returned (.int .i64 (cuE21 S n l)) ∧ Rn21 w w' b G (cuS21 S n L) := by
  have HL : Hid (Rl21d w b G S) := h
  obtain ⟨g, c, A, tn, ta, tc, la, lc, V, h1, h2, h3, h4, h5, h6⟩ := h
  have c7 := h1.cel (i := 7) rfl
  have c0 := h1.cel (i := 0) rfl
  have HR : Hid (Rf21 w b g c A tn ta tc la lc V S ∧ G b ∧ (∀ x, x < 3 → G (g x)) ∧ (∀ k, (Value.slice la S.lg.length lc).ownBlock = some k → G k) ∧ (∀ k, V k → G k) ∧ (∀ k, G k → k < w.heap.size)) := ⟨h1, h2, h3, h4, h5, h6⟩
  clear h1 h2 h3 h4 h5 h6
  have hS : Hid (cuS21 S n L = if S.on = false then S else if n < 0 ∨ S.pg < l then S else { S with lf := n, tn := if 0 < n then L else [] }) := by show _ = _; unfold cuS21; rw [hl.out]
  have hE : Hid (cuE21 S n l = if S.on = false then 213 else if n < 0 ∨ S.pg < l then 1 else 0) := rfl
  rw [hS.out, hE.out]
  clear hS hE
  by_cases hon : S.on = false
  · rw [if_pos hon, if_pos hon]
    rw [hon] at c7
    go_enter Tryd.func35, Tryd.ntmps35
    go_wp2_with fail
    go_ret
    exact ⟨rfl, HL.out.stay (Below.refl _ _)⟩
  · rw [if_neg hon, if_neg hon]
    have hon' : S.on = true := by simpa using hon
    rw [hon'] at c7
    by_cases hn : n < 0
    · rw [if_pos (.inl hn), if_pos (.inl hn)]
      go_enter Tryd.func35, Tryd.ntmps35
      go_wp2_with fail
      go_ret
      exact ⟨rfl, HL.out.stay (Below.refl _ _)⟩
    · by_cases hp : S.pg < l
      · rw [if_pos (.inr hp), if_pos (.inr hp)]
        have hpi : (S.pg : Int) < (l : Int) := by omega
        go_enter Tryd.func35, Tryd.ntmps35
        go_wp2_with fail
        go_ret
        exact ⟨rfl, HL.out.stay (Below.refl _ _)⟩
      · rw [if_neg (by omega), if_neg (by omega)]
        have hpi : ¬ (S.pg : Int) < (l : Int) := by omega
        obtain ⟨i0, hi, hz0, hz1, hz2⟩ := info_parts info_y21
        have hm0 : (w.alloc (.cells #[] 5)).ownsRow w.heap.size 5 1 (.slice (some ⟨w.heap.size, 0, none⟩) 0 0) 0 [] := World.ownsRow_made w #[] 0 (Nat.le_refl _) (by decide) rfl
        have hb0 : Below w.heap.size w (w.alloc (.cells #[] 5)) := (Below.refl _ _).alloc (Nat.le_refl _) _
        have hs1 := hs.alloc (.cells #[] 5)
        have hmem := hs.mem
        have HLN := hl.out
        subst HLN
        have HRE : Hid (∀ (w1 : World) (a1 : Option Addr) (c1 : Nat), Below w.heap.size w w1 → Cl21 w1 a1 L c1 w.heap.size → w1.cell? ⟨b, 8, none⟩ = some (.int .i64 S.lf) ∧ w1.cell? ⟨b, 9, none⟩ = some (.slice ta tn.length tc) ∧ (∀ i, w1.frozen? ⟨b, i, none⟩ = false) ∧ Rn21 w ((w1.setCell ⟨b, 8, none⟩ (.int .i64 n)).setCell ⟨b, 9, none⟩ (.slice a1 L.length c1)) b G { S with lf := n, tn := if 0 < n then L else [] }) := fun w1 a1 c1 hb hc => by
          obtain ⟨h1, h2, h3, h4, h5, h6⟩ := HR.out
          have q := h1.old hb
          have hnew := h1.new hb (fun k => a1 = some ⟨k, 0, none⟩) (fun k e => by
            rcases hc.2.1 with e2 | ⟨k', e2, e3, e4⟩
            · rw [e2] at e; cases e
            · rw [e2] at e; cases e; exact ⟨e3, e4⟩)
          refine ⟨q.cel (i := 8) rfl, q.cel (i := 9) rfl, q.fr, ?_⟩
          have hk : Kp (fun k => k = b) w1 ((w1.setCell ⟨b, 8, none⟩ (.int .i64 n)).setCell ⟨b, 9, none⟩ (.slice a1 L.length c1)) := (Kp.set (S := fun k => k = b) rfl _).trans (Kp.set (S := fun k => k = b) rfl _) (fun _ _ e => e)
          have hre := hnew.re (S' := { S with lf := n, tn := if 0 < n then L else [] }) hk rfl rfl rfl rfl (tn' := L) (ta' := a1) (tc' := c1) ⟨fun e => by show L = if 0 < n then L else []; rw [if_pos]; have : n ≠ 0 := e; omega, hc.1, by rcases hc.2.1 with e2 | ⟨k', e2, e3, e4⟩; (exact .inl e2); (exact .inr ⟨k', e2, .inr e2⟩), hc.2.2.1, hc.2.2.2⟩ (by simp [World.setCell, Array.getElem?_modify, hnew.hp])
          refine ⟨fun k => G k ∨ a1 = some ⟨k, 0, none⟩, ⟨g, c, A, L, a1, c1, la, lc, _, hre, .inl h2, fun x hx => .inl (h3 x hx), fun k e => .inl (h4 k e), fun k e => by rcases e with e | e; (exact .inl (h5 k e)); (exact .inr e), fun k e => ?_⟩, fun k e => ?_, ?_⟩
          · rcases e with e | e
            · exact Nat.lt_of_lt_of_le (h6 k e) (Nat.le_trans hb.size hk.size)
            · rcases hc.2.1 with e2 | ⟨k', e2, e3, e4⟩
              · rw [e2] at e; cases e
              · rw [e2] at e; cases e; exact Nat.lt_of_lt_of_le e4 hk.size
          · rcases e with e | e
            · exact .inl e
            · rcases hc.2.1 with e2 | ⟨k', e2, e3, e4⟩
              · rw [e2] at e; cases e
              · rw [e2] at e; cases e; exact .inr e3
          · exact (Kp.of_below hb).trans (hk.mono (S' := G) (fun i _ e => by subst e; exact h2)) (fun _ _ e => e)
        clear hs hl HL
        generalize ({ S with lf := n, tn := if 0 < n then L else [] } : Fs21) = S1 at HRE ⊢
        go_enter Tryd.func35, Tryd.ntmps35
        go_wp2_with (first
          | (at_builtin; refine wpList_appS rfl (.tmp 25) (.tmp 26) 22 rfl w.heap.size 5 i0 (.int .u8 0) 1 Tryd.underlying22 hi hz0 hz1 hz2 rfl hm0 hs1 hnil rfl rfl (by omega) (by omega) (by have := hb0.size; omega) ?_; intro a1 c1 w1 hown1 hg1 hf1 hn1; have hb1 := hb0.trans (below_own hm0 hg1 (by have := hb0.size; omega)); rw [Nat.zero_add, List.nil_append] at hown1; obtain ⟨e8, e9, ef, HRN⟩ := HRE.out w1 a1 c1 hb1 (cl21_own hown1 hmem); have HRN' : Hid (Rn21 w ((w1.setCell ⟨b, 8, none⟩ (.int .i64 n)).setCell ⟨b, 9, none⟩ (.slice a1 L.length c1)) b G S1) := HRN; have f8 := ef 8; have f9 := ef 9; clear hf1 hg1 hn1 hown1 HRN ef hb1 hm0 hs1 hb0))
        go_ret
        exact ⟨rfl, HRN'.out⟩
end Go.Proofs.YtjoghmdjnkdokaaDoor
