
import Derived.Test.YtjoghmdjnkdokaaDoorFlS
import Derived.Test.YtjoghmdjnkdokaaDoorFlM
import Derived.Test.YtjoghmdjnkdokaaDoorFlV
import Derived.Deep.OwnRows
import Derived.Deep.RegionHeld3
namespace Go.Proofs.YtjoghmdjnkdokaaDoor
open Go.RowKit Go.Shelf
set_option linter.unusedVariables false
set_option linter.unusedSimpArgs false

/-! The document's flash: in memory. -/
structure Pd21 where
  k : Nat
  off : Nat
  c : Nat
  b : List Int
  er : Bool
  wr : Int
def pdc21 (d : Pd21) : List Value := [.slice (some ⟨d.k, d.off, none⟩) d.b.length d.c, .bool d.er, .int .i64 d.wr]
def pdl21 (L : List Pd21) : List Value := L.flatMap pdc21
theorem pdl21_len (L : List Pd21) : (pdl21 L).length = L.length * 3 := by
  unfold pdl21
  induction L with
  | nil => rfl
  | cons d L ih => rw [List.flatMap_cons, List.length_append, ih]; simp [pdc21]; omega
theorem pdl21_app (L : List Pd21) (d : Pd21) : pdl21 (L ++ [d]) = pdl21 L ++ pdc21 d := by simp [pdl21]
theorem pdl21_get : ∀ (L : List Pd21) (y : Nat) (d : Pd21), L[y]? = some d → (pdl21 L)[y * 3]? = some (.slice (some ⟨d.k, d.off, none⟩) d.b.length d.c) ∧ (pdl21 L)[y * 3 + 1]? = some (.bool d.er) ∧ (pdl21 L)[y * 3 + 2]? = some (.int .i64 d.wr)
  | [], y, d, h => by simp at h
  | e :: L, 0, d, h => by simp at h; subst h; simp [pdl21, pdc21]
  | e :: L, y + 1, d, h => by
    have ih := pdl21_get L y d (by simpa using h)
    have e0 : pdl21 (e :: L) = pdc21 e ++ pdl21 L := by simp [pdl21]
    have hl : (pdc21 e).length = 3 := rfl
    rw [e0, show (y + 1) * 3 = 3 + y * 3 by omega]
    refine ⟨?_, ?_, ?_⟩
    · rw [List.getElem?_append_right (by omega), hl]; simpa using ih.1
    · rw [List.getElem?_append_right (by omega), hl, show 3 + y * 3 + 1 - 3 = y * 3 + 1 by omega]; exact ih.2.1
    · rw [List.getElem?_append_right (by omega), hl, show 3 + y * 3 + 2 - 3 = y * 3 + 2 by omega]; exact ih.2.2
theorem set_app21 {α : Type} : ∀ (A B : List α) (j : Nat) (x : α), (A ++ B).set (A.length + j) x = A ++ B.set j x
  | [], B, j, x => by simp
  | a :: A, B, j, x => by
    rw [List.cons_append, List.length_cons, show A.length + 1 + j = (A.length + j) + 1 by omega, List.set_cons_succ, set_app21 A B j x]
    rfl
theorem pdl21_set : ∀ (L : List Pd21) (y : Nat) (d d' : Pd21), L[y]? = some d → pdl21 (L.set y d') = (((pdl21 L).set (y * 3) (.slice (some ⟨d'.k, d'.off, none⟩) d'.b.length d'.c)).set (y * 3 + 1) (.bool d'.er)).set (y * 3 + 2) (.int .i64 d'.wr)
  | [], y, d, d', h => by simp at h
  | e :: L, 0, d, d', h => by simp at h; subst h; simp [pdl21, pdc21]
  | e :: L, y + 1, d, d', h => by
    have ih := pdl21_set L y d d' (by simpa using h)
    have e0 : ∀ M, pdl21 (e :: M) = pdc21 e ++ pdl21 M := fun M => by simp [pdl21]
    have hl : (pdc21 e).length = 3 := rfl
    rw [List.set_cons_succ, e0, e0, ih, show (y + 1) * 3 = 3 + y * 3 by omega]
    rw [← hl, Nat.add_assoc, Nat.add_assoc, set_app21, set_app21, set_app21]
def fb21 (S : Fs21) (x y : Int) : List Int := (sh21 S x y).b ++ List.replicate (S.pg - (sh21 S x y).b.length) 255
theorem fb21_len {S : Fs21} (h : Ok21 S) (x y : Int) : (fb21 S x y).length = S.pg := by
  have := (sh21_ok h x y).1
  simp [fb21]; omega
structure Rf21 (w : World) (b : Nat) (g c : Nat → Nat) (A : Nat → List Pd21) (tn : List Int) (ta : Option Addr) (tc : Nat) (la : Option Addr) (lc : Nat) (V : Nat → Prop) (S : Fs21) : Prop where
  hp : w.heap[b]? = some (.cells #[.int .i64 (S.pg : Int), .int .i64 (S.ps : Int), .int .i64 S.ac, .slice (some ⟨g 0, 0, none⟩) (A 0).length (c 0), .slice (some ⟨g 1, 0, none⟩) (A 1).length (c 1), .slice (some ⟨g 2, 0, none⟩) (A 2).length (c 2), .slice la S.lg.length lc, .bool (!S.on), .int .i64 S.lf, .slice ta tn.length tc, .int .i64 S.lm] 46 (0, 0))
  ha : ∀ x, x < 3 → ∃ X : List Value, w.heap[g x]? = some (.cells (pdl21 (A x) ++ X).toArray 72 (0, 0))
  hn : ∀ x : Nat, x < 3 → ((A x).length : Int) = pn21 S.ps (x : Int) ∧ (A x).length ≤ c x
  hd : ∀ (x y : Nat) (d : Pd21), x < 3 → (A x)[y]? = some d → Seg w (some ⟨d.k, d.off, none⟩) d.b ∧ V d.k ∧ d.b = fb21 S (x : Int) (y : Int) ∧ d.er = (sh21 S (x : Int) (y : Int)).er ∧ d.wr = (sh21 S (x : Int) (y : Int)).wr ∧ d.b.length ≤ d.c
  ht : (S.lf ≠ 0 → tn = S.tn) ∧ Sl21 w V ta tn tc
  hl : w.ownsRow 0 125 3 (.slice la S.lg.length lc) S.lg.length (lgc21 S.lg)
  gi : g 0 ≠ g 1 ∧ g 0 ≠ g 2 ∧ g 1 ≠ g 2
  vb : ¬ V b
  vg : ∀ x, x < 3 → ¬ V (g x)
  vl : ∀ k, (Value.slice la S.lg.length lc).ownBlock = some k → ¬ V k
  vs : ∀ k, V k → k < w.heap.size
section
variable {w w' : World} {b : Nat} {g c : Nat → Nat} {A : Nat → List Pd21} {tn : List Int} {ta : Option Addr} {tc : Nat} {la : Option Addr} {lc : Nat} {V V' : Nat → Prop} {S S' : Fs21}
theorem Rf21.bl (h : Rf21 w b g c A tn ta tc la lc V S) : b < w.heap.size := (Array.getElem?_eq_some_iff.1 h.hp).1
theorem Rf21.gl (h : Rf21 w b g c A tn ta tc la lc V S) {x : Nat} (hx : x < 3) : g x < w.heap.size := by
  obtain ⟨X, hX⟩ := h.ha x hx
  exact (Array.getElem?_eq_some_iff.1 hX).1
theorem Rf21.bg (h : Rf21 w b g c A tn ta tc la lc V S) {x : Nat} (hx : x < 3) : b ≠ g x := fun e => by
  obtain ⟨X, hX⟩ := h.ha x hx
  have := h.hp
  rw [e, hX] at this
  injection this with h2
  injection h2 with _ h3 _
  exact absurd h3 (by decide)
theorem Rf21.lo (h : Rf21 w b g c A tn ta tc la lc V S) {k : Nat} (hk : (Value.slice la S.lg.length lc).ownBlock = some k) : k < w.heap.size ∧ k ≠ b ∧ ∀ x, x < 3 → k ≠ g x := by
  rcases h.hl.2 with ⟨h1, h2⟩ | ⟨q, cap, cur, h1, h2, h3, h4⟩
  · rw [h1] at hk; cases hk
  · rw [h1] at hk
    simp [Value.ownBlock] at hk
    subst hk
    refine ⟨(Array.getElem?_eq_some_iff.1 h3).1, fun e => ?_, fun x hx e => ?_⟩
    · have := h.hp
      rw [← e, h3] at this
      injection this with h2
      injection h2 with _ h3 _
      exact absurd h3 (by decide)
    · obtain ⟨X, hX⟩ := h.ha x hx
      rw [← e, h3] at hX
      injection hX with h2
      injection h2 with _ h3 _
      exact absurd h3 (by decide)
theorem Rf21.kp (h : Rf21 w b g c A tn ta tc la lc V S) (h1 : w'.heap[b]? = w.heap[b]?) (h2 : ∀ x, x < 3 → w'.heap[g x]? = w.heap[g x]?) (h3 : ∀ k, (Value.slice la S.lg.length lc).ownBlock = some k → w'.heap[k]? = w.heap[k]?) (h4 : ∀ k, V k → w'.heap[k]? = w.heap[k]?) (h5 : w.heap.size ≤ w'.heap.size) : Rf21 w' b g c A tn ta tc la lc V S := by
  refine ⟨h1.trans h.hp, fun x hx => ?_, h.hn, fun x y d hx hy => ?_, ⟨h.ht.1, h.ht.2.kp h4 (fun _ e => e)⟩, ?_, h.gi, h.vb, h.vg, h.vl, fun k e => Nat.lt_of_lt_of_le (h.vs k e) h5⟩
  · obtain ⟨X, hX⟩ := h.ha x hx
    exact ⟨X, (h2 x hx).trans hX⟩
  · obtain ⟨q1, q2, q3⟩ := h.hd x y d hx hy
    refine ⟨q1.of_cells fun b' off' i v hi ha hc => ?_, q2, q3⟩
    cases ha
    rw [World.cell?_of_block (a := ⟨d.k, d.off + i, none⟩) (h4 d.k q2)]
    exact hc
  · refine ⟨h.hl.1, ?_⟩
    rcases h.hl.2 with q | ⟨q, cap, cur, q1, q2, q3, q4⟩
    · exact .inl q
    · exact .inr ⟨q, cap, cur, q1, q2, (h3 q (by rw [q1]; rfl)).trans q3, q4⟩
theorem Rf21.old (h : Rf21 w b g c A tn ta tc la lc V S) (hb : Below w.heap.size w w') : Rf21 w' b g c A tn ta tc la lc V S :=
  h.kp (hb.block b h.bl) (fun x hx => hb.block _ (h.gl hx)) (fun k e => hb.block k (h.lo e).1) (fun k e => hb.block k (h.vs k e)) hb.size
theorem Rf21.cel (h : Rf21 w b g c A tn ta tc la lc V S) {i : Nat} {v : Value} (hi : (#[.int .i64 (S.pg : Int), .int .i64 (S.ps : Int), .int .i64 S.ac, .slice (some ⟨g 0, 0, none⟩) (A 0).length (c 0), .slice (some ⟨g 1, 0, none⟩) (A 1).length (c 1), .slice (some ⟨g 2, 0, none⟩) (A 2).length (c 2), .slice la S.lg.length lc, .bool (!S.on), .int .i64 S.lf, .slice ta tn.length tc, .int .i64 S.lm] : Array Value)[i]? = some v) : w.cell? ⟨b, i, none⟩ = some v := by
  simp only [World.cell?, h.hp]; exact hi
theorem Rf21.fr (h : Rf21 w b g c A tn ta tc la lc V S) (i : Nat) : w.frozen? ⟨b, i, none⟩ = false := by simp [World.frozen?, h.hp]
theorem Rf21.frg (h : Rf21 w b g c A tn ta tc la lc V S) {x : Nat} (hx : x < 3) (i : Nat) : w.frozen? ⟨g x, i, none⟩ = false := by
  obtain ⟨X, hX⟩ := h.ha x hx
  simp [World.frozen?, hX]
theorem Rf21.car (h : Rf21 w b g c A tn ta tc la lc V S) {x : Nat} (hx : x < 3) : w.cell? ⟨b, 3 + x, none⟩ = some (.slice (some ⟨g x, 0, none⟩) (A x).length (c x)) := by
  rcases (show x = 0 ∨ x = 1 ∨ x = 2 by omega) with rfl | rfl | rfl
  · exact h.cel (i := 3) rfl
  · exact h.cel (i := 4) rfl
  · exact h.cel (i := 5) rfl
theorem Rf21.pgc (h : Rf21 w b g c A tn ta tc la lc V S) {x y : Nat} {d : Pd21} (hx : x < 3) (hy : (A x)[y]? = some d) : w.cell? ⟨g x, y * 3, none⟩ = some (.slice (some ⟨d.k, d.off, none⟩) d.b.length d.c) ∧ w.cell? ⟨g x, y * 3 + 1, none⟩ = some (.bool d.er) ∧ w.cell? ⟨g x, y * 3 + 2, none⟩ = some (.int .i64 d.wr) := by
  obtain ⟨X, hX⟩ := h.ha x hx
  have hl := pdl21_len (A x)
  have hlt : y < (A x).length := by
    rcases Nat.lt_or_ge y (A x).length with q | q
    · exact q
    · rw [List.getElem?_eq_none q] at hy; cases hy
  obtain ⟨e1, e2, e3⟩ := pdl21_get (A x) y d hy
  simp only [World.cell?, hX]
  simp only [List.getElem?_toArray]
  refine ⟨?_, ?_, ?_⟩
  · rw [List.getElem?_append_left (by omega)]; exact e1
  · rw [List.getElem?_append_left (by omega)]; exact e2
  · rw [List.getElem?_append_left (by omega)]; exact e3
end
/-- The document's flash over a footprint. -/
def Rl21d (w : World) (b : Nat) (G : Nat → Prop) (S : Fs21) : Prop := ∃ g c A tn ta tc la lc V, Rf21 w b g c A tn ta tc la lc V S ∧ G b ∧ (∀ x, x < 3 → G (g x)) ∧ (∀ k, (Value.slice la S.lg.length lc).ownBlock = some k → G k) ∧ (∀ k, V k → G k) ∧ (∀ k, G k → k < w.heap.size)
def Rn21 (w w' : World) (b : Nat) (G : Nat → Prop) (S' : Fs21) : Prop := ∃ G', Rl21d w' b G' S' ∧ (∀ k, G' k → G k ∨ w.heap.size ≤ k) ∧ Kp G w w'
section
variable {w w' : World} {b : Nat} {G : Nat → Prop} {S S' : Fs21}
theorem Rl21d.old (h : Rl21d w b G S) (hb : Below w.heap.size w w') : Rl21d w' b G S := by
  obtain ⟨g, c, A, tn, ta, tc, la, lc, V, h1, h2, h3, h4, h5, h6⟩ := h
  exact ⟨g, c, A, tn, ta, tc, la, lc, V, h1.old hb, h2, h3, h4, h5, fun k e => Nat.lt_of_lt_of_le (h6 k e) hb.size⟩
theorem Rl21d.kp (h : Rl21d w b G S) (hk : ∀ k, G k → w'.heap[k]? = w.heap[k]?) (hs : w.heap.size ≤ w'.heap.size) : Rl21d w' b G S := by
  obtain ⟨g, c, A, tn, ta, tc, la, lc, V, h1, h2, h3, h4, h5, h6⟩ := h
  exact ⟨g, c, A, tn, ta, tc, la, lc, V, h1.kp (hk b h2) (fun x hx => hk _ (h3 x hx)) (fun k e => hk k (h4 k e)) (fun k e => hk k (h5 k e)) hs, h2, h3, h4, h5, fun k e => Nat.lt_of_lt_of_le (h6 k e) hs⟩
theorem Rl21d.stay (h : Rl21d w b G S) (hb : Below w.heap.size w w') : Rn21 w w' b G S := ⟨G, h.old hb, fun _ e => .inl e, Kp.of_below hb⟩
theorem Rl21d.lts (h : Rl21d w b G S) : ∀ k, G k → k < w.heap.size := by
  obtain ⟨g, c, A, tn, ta, tc, la, lc, V, h1, h2, h3, h4, h5, h6⟩ := h
  exact h6
theorem Rn21.from {w1 : World} (h : Rn21 w1 w' b G S) (hb : Below w.heap.size w w1) : Rn21 w w' b G S := by
  obtain ⟨F', h1, h2, h3⟩ := h
  exact ⟨F', h1, fun k e => by rcases h2 k e with h | h; (exact .inl h); (exact .inr (Nat.le_trans hb.size h)), (Kp.of_below hb).trans h3 (fun _ _ e => e)⟩
theorem Rn21.cons {w1 w2 : World} {G1 : Nat → Prop} (f1 : ∀ k, G1 k → G k ∨ w.heap.size ≤ k) (k1 : Kp G w w1) (h : Rn21 w1 w2 b G1 S) : Rn21 w w2 b G S := by
  obtain ⟨G2, h1, h2, h3⟩ := h
  refine ⟨G2, h1, fun x e => ?_, k1.trans h3 (fun i hi e => ?_)⟩
  · rcases h2 x e with q | q
    · exact f1 x q
    · exact .inr (Nat.le_trans k1.size q)
  · rcases f1 i e with q | q
    · exact q
    · omega
end
/-! blank. -/
theorem row_set21 {w : World} {g i : Nat} {X : List Int} {t : TypeId} (h : w.heap[g]? = some (.cells (X.map (Value.int .u8)).toArray t (0, 0))) (y : Int) : (w.setCell ⟨g, i, none⟩ (.int .u8 y)).heap[g]? = some (.cells ((X.set i y).map (Value.int .u8)).toArray t (0, 0)) := by
  simp [World.setCell, Array.getElem?_modify, h, List.map_set]
theorem run_mk21d (n : Nat) (h : n ≤ 281474976710656) (w : World) :
    (Instr.makeSlice 22 (.int .i64 (n : Int)) (.int .i64 (n : Int))).run Tryd.prog w = .ok (.slice (some ⟨w.heap.size, 0, none⟩) n n) (w.alloc (.cells ((List.replicate n (0 : Int)).map (Value.int .u8)).toArray 5)) := by
  have e : madeCells #[.int .u8 0] n = ((List.replicate n (0 : Int)).map (Value.int .u8)).toArray := by
    apply Array.toList_inj.1
    rw [toList_madeCells_one]
    simp
  rw [← e]
  exact run_make_row' 22 5 (.int .u8 0) 1 Tryd.underlying22 info_y21 rfl .i64 .i64 n (by omega) (by omega) w
theorem rep_set21 (n i : Nat) (h : i < n) : (List.replicate i (255 : Int) ++ List.replicate (n - i) 0).set i 255 = List.replicate (i + 1) 255 ++ List.replicate (n - (i + 1)) 0 := by
  obtain ⟨m, hm⟩ : ∃ m, n - i = m + 1 := ⟨n - i - 1, by omega⟩
  have e : (List.replicate i (255 : Int) ++ List.replicate (m + 1) (0 : Int)).set i 255 = List.replicate i 255 ++ (List.replicate (m + 1) (0 : Int)).set 0 255 := by
    have q := set_app21 (List.replicate i (255 : Int)) (List.replicate (m + 1) (0 : Int)) 0 255
    rw [List.length_replicate, Nat.add_zero] at q
    exact q
  rw [hm, show n - (i + 1) = m by omega, e, List.replicate_succ, List.set_cons_zero, List.replicate_succ' (n := i)]
  simp
def Bk21 (w : World) (g n : Nat) (e : Ending) (w' : World) : Prop := e = .returned (.slice (some ⟨g, 0, none⟩) n n) ∧ w'.heap[g]? = some (.cells ((List.replicate n (255 : Int)).map (Value.int .u8)).toArray 5 (0, 0)) ∧ Below w.heap.size w w'
set_option maxRecDepth 100000 in
set_option maxHeartbeats 2000000 in
theorem rblk21 (n : Nat) (hn : n ≤ 16777216) (w : World) : Calls Tryd.prog 25 #[.int .i64 (n : Int)] w fun e w' => Bk21 w w.heap.size n e w' := by
  have HMK := run_mk21d n (by omega) w
  obtain ⟨w1, hw1⟩ : ∃ w1, w1 = w.alloc (.cells ((List.replicate n (0 : Int)).map (Value.int .u8)).toArray 5) := ⟨_, rfl⟩
  have HI0 : w1.heap[w.heap.size]? = some (.cells ((List.replicate 0 (255 : Int) ++ List.replicate (n - 0) 0).map (Value.int .u8)).toArray 5 (0, 0)) ∧ Below w.heap.size w w1 := by rw [hw1]; exact ⟨by simpa using heap_alloc_new w _, (Below.refl _ _).alloc (Nat.le_refl _) _⟩
  have HI : Hid (w1.heap[w.heap.size]? = some (.cells ((List.replicate 0 (255 : Int) ++ List.replicate (n - 0) 0).map (Value.int .u8)).toArray 5 (0, 0)) ∧ Below w.heap.size w w1) := HI0
  obtain ⟨gg, hgg⟩ : ∃ gg, gg = w.heap.size := ⟨_, rfl⟩
  have HG : Hid (w.heap.size = gg) := hgg.symm
  rw [← hw1, ← hgg] at HMK
  rw [← hgg] at HI
  clear HI0 hw1 hgg
  go_enter Tryd.func25, Tryd.ntmps25
  go_wp2_with fail
  clear HMK
  go_loopw [9] (fun ti wr => ∃ i : Nat, i ≤ n ∧ ti = .int .i64 (i : Int) ∧ wr.heap[gg]? = some (.cells ((List.replicate i (255 : Int) ++ List.replicate (n - i) 0).map (Value.int .u8)).toArray 5 (0, 0)) ∧ Below gg w wr) (fun ti _ => n - (intOf ti).toNat)
  case atStart => exact ⟨0, by omega, rfl, HI.out.1, HI.out.2⟩
  case round =>
    obtain ⟨i, hi, rfl, hr, hb⟩ := hrel
    by_cases hlt : i < n
    · have hii : (i : Int) < (n : Int) := by omega
      have hiw : IntKind.i64.wrap ((i : Int) + 1) = ((i + 1 : Nat) : Int) := by rw [IntWalk.i64_in _ (by omega)]; omega
      have hx : ∃ x, wr.cell? ⟨gg, i, none⟩ = some x := by
        simp only [World.cell?, hr]
        exact ⟨_, Array.getElem?_eq_getElem (by simp; omega)⟩
      obtain ⟨x, hx⟩ := hx
      have hf : wr.frozen? ⟨gg, i, none⟩ = false := by simp [World.frozen?, hr]
      have HR : Hid (wr.heap[gg]? = some (.cells ((List.replicate i (255 : Int) ++ List.replicate (n - i) 0).map (Value.int .u8)).toArray 5 (0, 0))) := hr
      have HB : Hid (Below gg w wr) := hb
      clear hr hb
      go_wp2_with fail
      go_roundw
      case rel =>
        refine ⟨i + 1, by omega, by go_num, ?_, ?_⟩
        · have := row_set21 HR.out (i := i) 255
          rw [rep_set21 n i hlt] at this
          exact this
        · have hk : Kp (fun k => k = gg) wr (wr.setCell ⟨gg, i, none⟩ (.int .u8 255)) := Kp.set (S := fun k => k = gg) rfl _
          exact HB.out.trans (hk.below (fun i e => by omega) (by have := HB.out.size; have := HG.out; omega))
      case measure => simp [intOf]; omega
    · obtain rfl : i = n := by omega
      have hii : ¬ (i : Int) < (i : Int) := by omega
      have HR : Hid (wr.heap[gg]? = some (.cells ((List.replicate i (255 : Int) ++ List.replicate (i - i) 0).map (Value.int .u8)).toArray 5 (0, 0))) := hr
      have HB : Hid (Below gg w wr) := hb
      clear hr hb
      go_wp2_with fail
      go_ret
      have := HG.out
      subst this
      exact ⟨rfl, by simpa using HR.out, HB.out⟩
end Go.Proofs.YtjoghmdjnkdokaaDoor
