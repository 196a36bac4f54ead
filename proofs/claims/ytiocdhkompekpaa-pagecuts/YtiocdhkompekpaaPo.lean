import Derived.Test.YtiocdhkompekpaaPn
import Derived.Laws.CopyOwn
import Derived.Deep.RegionLaw
import Derived.Deep.CutRange
namespace Go.Proofs.Ytiocdhkompekpaa
open Go.RowKit Go.Shelf
set_option linter.unusedVariables false
set_option linter.unusedSimpArgs false

/-! The document's flash: what done leaves. -/
theorem info_opd21 : (Try.prog.info? 93).map (fun i => (i.zero, i.size, i.bytes)) = some (some (.agg #[.int .i64 0, .int .i64 0, .int .i64 0]), 3, 24) := by kernel_rfl
theorem run_log21d (w0 : World) (la : Option Addr) (n lc : Nat) (L : List (Int × Int × Int)) (hn : L.length = n) (k x y : Int) (hl : w0.ownsRow 0 93 3 (.slice la n lc) n (lgc21 L)) (hb : n ≤ 4398046511104) (ty : TypeId) :
    ∃ g cap w', (Builtin.append_ #[41, 41] ty #[.slice la n lc, .slice (some ⟨w0.heap.size, 0, none⟩) 1 1]).run Try.prog (w0.alloc (.cells #[.int .i64 k, .int .i64 x, .int .i64 y] 93)) = .ok (.slice (some ⟨g, 0, none⟩) (n + 1) cap) w' ∧
      w'.ownsRow 0 93 3 (.slice (some ⟨g, 0, none⟩) (n + 1) cap) (n + 1) (lgc21 (L ++ [(k, x, y)])) ∧ Kp (fun j => (Value.slice la n lc).ownBlock = some j) w0 w' ∧ ((Value.slice la n lc).ownBlock = some g ∨ w0.heap.size ≤ g) := by
  obtain ⟨i0, hi, hz0, hz1, hz2⟩ := info_parts info_opd21
  have hnew : ∀ j u, ([.int .i64 k, .int .i64 x, .int .i64 y] : List Value)[j]? = some u → (w0.alloc (.cells #[.int .i64 k, .int .i64 x, .int .i64 y] 93)).cell? ((⟨w0.heap.size, 0, none⟩ : Addr).add j) = some u := by
    intro j u hu
    have hadd : (⟨w0.heap.size, 0, none⟩ : Addr).add j = ⟨w0.heap.size, j, none⟩ := by unfold Addr.add; split <;> simp_all
    rw [hadd]
    have hh := heap_alloc_new w0 (.cells #[.int .i64 k, .int .i64 x, .int .i64 y] 93)
    simp only [World.cell?, hh]
    simpa using hu
  obtain ⟨g, cap, w', h1, h2, h3, h4, h5⟩ := run_append_lies (P := Try.prog) (w := w0.alloc (.cells #[.int .i64 k, .int .i64 x, .int .i64 y] 93)) 41 ty 0 93 i0 _ 3 24 Try.underlying41 hi hz0 hz1 hz2 rfl (by decide) _ n _ (hl.alloc _) ⟨w0.heap.size, 0, none⟩ 1 1 [.int .i64 k, .int .i64 x, .int .i64 y] rfl hnew (by intro u hu; simp only [List.mem_cons, List.not_mem_nil, or_false] at hu; rcases hu with rfl | rfl | rfl <;> rfl) (by decide) (by unfold maxLen; omega) (by omega) (by omega) (w0.heap.size + 1) (by simp)
  refine ⟨g, cap, w', h1, by rw [lgc21_app]; exact h2, (Kp.alloc w0 _).trans (Kp.grown (S := fun j => (Value.slice la n lc).ownBlock = some j) h3 (fun i e => e)) (fun _ _ e => e), ?_⟩
  rcases h4 with h4 | h4
  · exact .inl h4
  · exact .inr (by omega)
theorem set_left21 {α : Type} (A B : List α) (i : Nat) (x : α) (h : i < A.length) : (A ++ B).set i x = A.set i x ++ B := by rw [List.set_append, if_pos h]
theorem set_same21 {α : Type} (l : List α) (i : Nat) (v : α) (h : l[i]? = some v) : l.set i v = l := by
  apply List.ext_getElem?
  intro j
  rw [List.getElem?_set]
  split
  · rename_i e
    subst e
    split
    · exact h.symm
    · rename_i hlt
      rw [List.getElem?_eq_none (by omega)] at h; cases h
  · rfl
section
variable {w w' : World} {b : Nat} {g c : Nat → Nat} {A : Nat → List Pd21} {tn : List Int} {ta : Option Addr} {tc : Nat} {la : Option Addr} {lc : Nat} {V V' : Nat → Prop} {S S' : Fs21}
theorem Rf21.log (h : Rf21 w b g c A tn ta tc la lc V S) {w1 w2 : World} {q cap : Nat} {o : Int × Int × Int} (hk : Kp (fun j => (Value.slice la S.lg.length lc).ownBlock = some j) w w1) (hl : w1.ownsRow 0 93 3 (.slice (some ⟨q, 0, none⟩) (S.lg.length + 1) cap) (S.lg.length + 1) (lgc21 (S.lg ++ [o])))
    (hq : (Value.slice la S.lg.length lc).ownBlock = some q ∨ w.heap.size ≤ q) (h2 : w2 = w1.setCell ⟨b, 6, none⟩ (.slice (some ⟨q, 0, none⟩) (S.lg.length + 1) cap)) :
    Rf21 w2 b g c A tn ta tc (some ⟨q, 0, none⟩) cap V { S with lg := S.lg ++ [o] } ∧ Kp (fun j => j = b ∨ (Value.slice la S.lg.length lc).ownBlock = some j) w w2 := by
  have hb : w1.heap[b]? = w.heap[b]? := hk.block b h.bl (fun e => (h.lo e).2.1 rfl)
  have hg : ∀ x, x < 3 → w1.heap[g x]? = w.heap[g x]? := fun x hx => hk.block (g x) (h.gl hx) (fun e => (h.lo e).2.2 x hx rfl)
  have hqb : q ≠ b := by
    rcases hq with hq | hq
    · exact (h.lo hq).2.1
    · have := h.bl; omega
  have ks : Kp (fun j => j = b) w1 w2 := by rw [h2]; exact Kp.set (S := fun j => j = b) rfl _
  have hv1 : ∀ k, V k → w1.heap[k]? = w.heap[k]? := fun k e => hk.block k (h.vs k e) (fun e' => h.vl k e' e)
  have hv : ∀ k, V k → w2.heap[k]? = w.heap[k]? := fun k e => (ks.block k (Nat.lt_of_lt_of_le (h.vs k e) hk.size) (fun e' => h.vb (e' ▸ e))).trans (hv1 k e)
  refine ⟨⟨?_, fun x hx => ?_, h.hn, fun x y d hx hy => ?_, ⟨h.ht.1, h.ht.2.kp hv (fun _ e => e)⟩, ?_, h.gi, h.vb, h.vg, ?_, fun k e => Nat.lt_of_lt_of_le (h.vs k e) (Nat.le_trans hk.size ks.size)⟩, ?_⟩
  · have := hb.trans h.hp
    rw [h2]
    simp [World.setCell, Array.getElem?_modify, this]
  · obtain ⟨X, hX⟩ := h.ha x hx
    exact ⟨X, (ks.block (g x) (Nat.lt_of_lt_of_le (h.gl hx) hk.size) (fun e => h.bg hx e.symm)).trans ((hg x hx).trans hX)⟩
  · obtain ⟨q1, q2, q3⟩ := h.hd x y d hx hy
    refine ⟨q1.of_cells fun b' off' i v hi ha hc => ?_, q2, q3⟩
    cases ha
    rw [World.cell?_of_block (a := ⟨d.k, d.off + i, none⟩) (hv d.k q2)]
    exact hc
  · show w2.ownsRow 0 _ 3 (.slice (some ⟨q, 0, none⟩) (S.lg ++ [o]).length cap) (S.lg ++ [o]).length _
    rw [List.length_append, List.length_singleton]
    refine ⟨hl.1, ?_⟩
    rcases hl.2 with q0 | ⟨g', cap', cur, q1, q2, q3, q4⟩
    · exact .inl q0
    · simp only [Value.slice.injEq, Option.some.injEq, Addr.mk.injEq] at q1
      obtain ⟨⟨rfl, -⟩, -, rfl⟩ := q1
      exact .inr ⟨q, cap, cur, rfl, q2, (ks.block q (Array.getElem?_eq_some_iff.1 q3).1 hqb).trans q3, q4⟩
  · intro k e
    simp [Value.ownBlock] at e
    subst e
    rcases hq with hq | hq
    · exact h.vl _ hq
    · exact fun e => by have := h.vs _ e; omega
  · exact (hk.mono (fun i _ e => .inr e)).trans (ks.mono (fun i _ e => .inl e)) (fun _ _ e => e)
/-- Cells of a page's row written. -/
theorem pgrow21 {q : Nat} {L : List Pd21} {X : List Value} {y : Nat} {d d' : Pd21} (hX : w.heap[q]? = some (.cells (pdl21 L ++ X).toArray 106 (0, 0))) (hy : L[y]? = some d) :
    (((w.setCell ⟨q, y * 3, none⟩ (.slice (some ⟨d'.k, d'.off, none⟩) d'.b.length d'.c)).setCell ⟨q, y * 3 + 1, none⟩ (.bool d'.er)).setCell ⟨q, y * 3 + 2, none⟩ (.int .i64 d'.wr)).heap[q]? = some (.cells (pdl21 (L.set y d') ++ X).toArray 106 (0, 0)) := by
  have hlt : y < L.length := by
    rcases Nat.lt_or_ge y L.length with h | h
    · exact h
    · rw [List.getElem?_eq_none h] at hy; cases hy
  have hl := pdl21_len L
  rw [pdl21_set L y d d' hy]
  simp only [World.setCell, Array.getElem?_modify, hX]
  simp
  rw [set_left21 _ _ _ _ (by omega), set_left21 _ _ _ _ (by simp; omega), set_left21 _ _ _ _ (by simp; omega)]
theorem pgrow21_two {q : Nat} {L : List Pd21} {X : List Value} {y : Nat} {d d' : Pd21} (hX : w.heap[q]? = some (.cells (pdl21 L ++ X).toArray 106 (0, 0))) (hy : L[y]? = some d) (e : d'.wr = d.wr) :
    ((w.setCell ⟨q, y * 3, none⟩ (.slice (some ⟨d'.k, d'.off, none⟩) d'.b.length d'.c)).setCell ⟨q, y * 3 + 1, none⟩ (.bool d'.er)).heap[q]? = some (.cells (pdl21 (L.set y d') ++ X).toArray 106 (0, 0)) := by
  have hlt : y < L.length := by
    rcases Nat.lt_or_ge y L.length with h | h
    · exact h
    · rw [List.getElem?_eq_none h] at hy; cases hy
  have hl := pdl21_len L
  have hs : (((pdl21 L).set (y * 3) (.slice (some ⟨d'.k, d'.off, none⟩) d'.b.length d'.c)).set (y * 3 + 1) (.bool d'.er)).set (y * 3 + 2) (.int .i64 d'.wr) = ((pdl21 L).set (y * 3) (.slice (some ⟨d'.k, d'.off, none⟩) d'.b.length d'.c)).set (y * 3 + 1) (.bool d'.er) := by
    apply set_same21
    rw [List.getElem?_set_ne (by omega), List.getElem?_set_ne (by omega), e]
    exact (pdl21_get L y d hy).2.2
  rw [pdl21_set L y d d' hy, hs]
  simp only [World.setCell, Array.getElem?_modify, hX]
  simp
  rw [set_left21 _ _ _ _ (by omega), set_left21 _ _ _ _ (by simp; omega)]
theorem pgrow21_one {q : Nat} {L : List Pd21} {X : List Value} {y : Nat} {d : Pd21} (hX : w.heap[q]? = some (.cells (pdl21 L ++ X).toArray 106 (0, 0))) (hy : L[y]? = some d) (n : Int) :
    (w.setCell ⟨q, y * 3 + 2, none⟩ (.int .i64 n)).heap[q]? = some (.cells (pdl21 (L.set y { d with wr := n }) ++ X).toArray 106 (0, 0)) := by
  have hlt : y < L.length := by
    rcases Nat.lt_or_ge y L.length with h | h
    · exact h
    · rw [List.getElem?_eq_none h] at hy; cases hy
  have hl := pdl21_len L
  have hg := pdl21_get L y d hy
  have hs : (((pdl21 L).set (y * 3) (.slice (some ⟨d.k, d.off, none⟩) d.b.length d.c)).set (y * 3 + 1) (.bool d.er)).set (y * 3 + 2) (.int .i64 n) = (pdl21 L).set (y * 3 + 2) (.int .i64 n) := by
    rw [set_same21 _ _ _ hg.1, set_same21 _ _ _ hg.2.1]
  rw [pdl21_set L y d { d with wr := n } hy, hs]
  simp only [World.setCell, Array.getElem?_modify, hX]
  simp
  rw [set_left21 _ _ _ _ (by omega)]
end
def dnS21 (S : Fs21) (kd x y : Int) : Fs21 := if S.lf = 1 then cu21 S kd x y (sh21 S x y) else { S with lg := S.lg ++ [(kd, x, y)], lf := max 0 (S.lf - 1) }
theorem la21_fb {S : Fs21} (h : Ok21 S) (x y : Int) : S.tn ++ (fb21 S x y).drop S.tn.length = la21 S.pg S.tn (sh21 S x y).b := by
  have h1 := (sh21_ok h x y).1
  have h2 := h.tn
  unfold la21 sp21 fb21
  simp
end Go.Proofs.Ytiocdhkompekpaa

namespace Go.Proofs.Ytiocdhkompekpaa
open Go.RowKit Go.Shelf
set_option linter.unusedVariables false
set_option linter.unusedSimpArgs false

/-! The document's flash: what New lays, step by step. -/
theorem step_apr21 {P : Program} {ops : Array Oper} {o : Oper} {a : Act} {w : World} {K : Act → World → Prop} {Q : Exit → Act → World → Prop} {E : Prop} (hgd : o.guard = none) (s x : Operand) (t : TypeId)
    (ho : o.op = Op.call { callee := Callee.builtin Builtin.append, args := #[s, x], argTypes := #[t, t] }) {u v v' : Value} {w' : World} (hs : a.eval s = u) (hx : a.eval x = v) (hr : (Builtin.append_ #[t, t] o.type #[u, v]).run P w = .ok v' w')
    (h : K (a.put o.dst v') w') : if Region.wanted o (yielded ops a.tmps) = true then Oper.wp P o a w K Q else E := by
  have hw : Region.wanted o (yielded ops a.tmps) = true := by simp [Region.wanted, hgd]
  rw [if_pos hw]
  exact operwp_app21 s x t ho hs hx hr h
theorem info_pg21 : (Try.prog.info? 106).map (fun i => (i.zero, i.size, i.bytes)) = some (some (.agg #[.slice none 0 0, .bool false, .int .i64 0]), 3, 40) := by kernel_rfl
theorem run_pg21 (N : Nat) (w0 : World) (hN : N ≤ w0.heap.size) (ra : Option Addr) (n rc : Nat) (L : List Pd21) (hn : L.length = n) (d : Pd21) (len : Nat) (hlen : d.b.length = len) (hl : w0.ownsRow N 106 3 (.slice ra n rc) n (pdl21 L)) (hb : n ≤ 1099511627776) (ty : TypeId) :
    ∃ g cap w', (Builtin.append_ #[39, 39] ty #[.slice ra n rc, .slice (some ⟨w0.heap.size, 0, none⟩) 1 1]).run Try.prog (w0.alloc (.cells #[.slice (some ⟨d.k, d.off, none⟩) len d.c, .bool d.er, .int .i64 d.wr] 106)) = .ok (.slice (some ⟨g, 0, none⟩) (n + 1) cap) w' ∧
      w'.ownsRow N 106 3 (.slice (some ⟨g, 0, none⟩) (n + 1) cap) (n + 1) (pdl21 (L ++ [d])) ∧ Kp (fun j => (Value.slice ra n rc).ownBlock = some j) w0 w' ∧ ((Value.slice ra n rc).ownBlock = some g ∨ w0.heap.size ≤ g) := by
  subst hlen
  obtain ⟨i0, hi, hz0, hz1, hz2⟩ := info_parts info_pg21
  have hnew : ∀ j u, (pdc21 d)[j]? = some u → (w0.alloc (.cells #[.slice (some ⟨d.k, d.off, none⟩) d.b.length d.c, .bool d.er, .int .i64 d.wr] 106)).cell? ((⟨w0.heap.size, 0, none⟩ : Addr).add j) = some u := by
    intro j u hu
    have hadd : (⟨w0.heap.size, 0, none⟩ : Addr).add j = ⟨w0.heap.size, j, none⟩ := by unfold Addr.add; split <;> simp_all
    rw [hadd]
    have hh := heap_alloc_new w0 (.cells #[.slice (some ⟨d.k, d.off, none⟩) d.b.length d.c, .bool d.er, .int .i64 d.wr] 106)
    simp only [World.cell?, hh]
    simpa [pdc21] using hu
  obtain ⟨g, cap, w', h1, h2, h3, h4, h5⟩ := run_append_lies (P := Try.prog) (w := w0.alloc (.cells #[.slice (some ⟨d.k, d.off, none⟩) d.b.length d.c, .bool d.er, .int .i64 d.wr] 106)) 39 ty N 106 i0 _ 3 40 Try.underlying39 hi hz0 hz1 hz2 rfl (by decide) _ n _ (hl.alloc _) ⟨w0.heap.size, 0, none⟩ 1 1 (pdc21 d) rfl hnew (by intro u hu; simp only [pdc21, List.mem_cons, List.not_mem_nil, or_false] at hu; rcases hu with rfl | rfl | rfl <;> rfl) (by decide) (by unfold maxLen; omega) (by omega) (by simp; omega) (w0.heap.size + 1) (by simp)
  refine ⟨g, cap, w', h1, by rw [pdl21_app]; exact h2, (Kp.alloc w0 _).trans (Kp.grown (S := fun j => (Value.slice ra n rc).ownBlock = some j) h3 (fun i e => e)) (fun _ _ e => e), ?_⟩
  rcases h4 with h4 | h4
  · exact .inl h4
  · exact .inr (by omega)
def V21 (N : Nat) (W : World) (k : Nat) : Prop := N ≤ k ∧ ∃ cur : Array Value, W.heap[k]? = some (Obj.cells cur 5 (0, 0))
def KB21 (W W' : World) : Prop := ∀ (k : Nat) (cur : Array Value), W.heap[k]? = some (Obj.cells cur 5 (0, 0)) → W'.heap[k]? = W.heap[k]?
theorem V21.kb {N : Nat} {W W' : World} {k : Nat} (h : V21 N W k) (hk : KB21 W W') : V21 N W' k := by
  obtain ⟨h1, cur, h2⟩ := h
  exact ⟨h1, cur, (hk k cur h2).trans h2⟩
def Pk21 (N : Nat) (W : World) (S : Fs21) (x y : Nat) (d : Pd21) : Prop := Seg W (some ⟨d.k, d.off, none⟩) d.b ∧ V21 N W d.k ∧ d.b = fb21 S (x : Int) (y : Int) ∧ d.er = (sh21 S (x : Int) (y : Int)).er ∧ d.wr = (sh21 S (x : Int) (y : Int)).wr ∧ d.b.length ≤ d.c
theorem Pk21.kb {N : Nat} {W W' : World} {S : Fs21} {x y : Nat} {d : Pd21} (h : Pk21 N W S x y d) (hk : KB21 W W') : Pk21 N W' S x y d := by
  obtain ⟨h1, h2, h3⟩ := h
  refine ⟨h1.of_cells fun b' off' i v hi ha hc => ?_, h2.kb hk, h3⟩
  cases ha
  obtain ⟨_, cur, hcur⟩ := h2
  rw [World.cell?_of_block (a := ⟨d.k, d.off + i, none⟩) (hk d.k cur hcur)]
  exact hc
def Ac21 (N : Nat) (W : World) (S : Fs21) (x gx cx : Nat) (L : List Pd21) : Prop := (∃ X : List Value, W.heap[gx]? = some (.cells (pdl21 L ++ X).toArray 106 (0, 0))) ∧ (L.length : Int) = pn21 S.ps (x : Int) ∧ L.length ≤ cx ∧ N ≤ gx ∧ ∀ y d, L[y]? = some d → Pk21 N W S x y d
theorem Ac21.kb {N : Nat} {W W' : World} {S : Fs21} {x gx cx : Nat} {L : List Pd21} (h : Ac21 N W S x gx cx L) (hk : KB21 W W') (hg : W'.heap[gx]? = W.heap[gx]?) : Ac21 N W' S x gx cx L := by
  obtain ⟨⟨X, h1⟩, h2, h3, h4, h5⟩ := h
  exact ⟨⟨X, hg.trans h1⟩, h2, h3, h4, fun y d e => (h5 y d e).kb hk⟩
/-- A row that is done, as a block. -/
theorem ac21_own {N : Nat} {W : World} {S : Fs21} {x gx cx n : Nat} {L : List Pd21} (h : W.ownsRow N 106 3 (.slice (some ⟨gx, 0, none⟩) n cx) n (pdl21 L)) (hn : L.length = n) (hp : (n : Int) = pn21 S.ps (x : Int)) (hk : ∀ y d, L[y]? = some d → Pk21 N W S x y d) : Ac21 N W S x gx cx L := by
  rcases h.2 with ⟨e, _⟩ | ⟨g, cap, cur, hv, hg, hh, hle, hm, hs, ht⟩
  · cases e
  · simp only [Value.slice.injEq, Option.some.injEq, Addr.mk.injEq] at hv
    obtain ⟨⟨rfl, -⟩, -, rfl⟩ := hv
    refine ⟨⟨cur.toList.drop (n * 3), ?_⟩, by rw [hn]; exact hp, by omega, hg, hk⟩
    rw [hh, ← ht, List.take_append_drop, Array.toArray_toList]
theorem chunk21 (L : List Int) (m k p : Nat) (h : k + p ≤ L.length + m) : ((L ++ List.replicate m (255 : Int)).drop k).take p = (L.drop k).take p ++ List.replicate (p - ((L.drop k).take p).length) 255 := by
  rw [List.drop_append, List.take_append]
  congr 1
  rw [List.drop_replicate, List.take_replicate]
  congr 1
  simp
  omega
theorem sp21_rep0 (n : Nat) (L : List Int) : sp21 (List.replicate n (255 : Int)) 0 L = L ++ List.replicate (n - L.length) 255 := by unfold sp21; simp
theorem nw21_fb (p q : Nat) (ac : Int) (L0 L1 : List Int) (x y : Nat) (hx : x < 2) (hy : y < q) (h : (Ls21 L0 L1 (x : Int)).length ≤ p * q) (hp : 0 < p) :
    fb21 (nw21 p q ac L0 L1) (x : Int) (y : Int) = ((sp21 (List.replicate (p * q) (255 : Int)) 0 (Ls21 L0 L1 (x : Int))).drop (y * p)).take p ∧ (sh21 (nw21 p q ac L0 L1) (x : Int) (y : Int)).er = false ∧ (sh21 (nw21 p q ac L0 L1) (x : Int) (y : Int)).wr = 0 := by
  have hyp : y * p + p ≤ p * q := by
    have : (y + 1) * p ≤ q * p := Nat.mul_le_mul_right p hy
    rw [Nat.mul_comm p q, ← Nat.succ_mul]; exact this
  have hsh : sh21 (nw21 p q ac L0 L1) (x : Int) (y : Int) = ⟨((Ls21 L0 L1 (x : Int)).drop (y * p)).take p, false, 0⟩ := by
    unfold sh21 nw21 pj21
    simp only
    have c1 : ((x : Int) = 0 ∨ (x : Int) = 1) ∧ ((x : Int) < 2 ∨ (x : Int) = 2 ∧ (y : Int) < 0) := ⟨by omega, by omega⟩
    rw [if_pos c1]
    unfold ck21
    have e2 : ((y : Int)).toNat = y := by omega
    rw [e2]
    split
    · rfl
    · rename_i h2
      have h3 : (Ls21 L0 L1 (x : Int)).length ≤ y * p := by omega
      have h4 : ((Ls21 L0 L1 (x : Int)).drop (y * p)).take p = [] := by rw [List.drop_eq_nil_of_le h3]; simp
      rw [h4]
      have h5 : ((x : Int) == 2) = false := by simp; omega
      simp [h5]
  refine ⟨?_, by rw [hsh], by rw [hsh]⟩
  unfold fb21
  rw [hsh, sp21_rep0, chunk21 _ _ _ _ (by omega)]
  rfl
theorem nw21_rec (p q : Nat) (ac : Int) (L0 L1 : List Int) (y : Nat) : fb21 (nw21 p q ac L0 L1) 2 (y : Int) = List.replicate p 255 ∧ (sh21 (nw21 p q ac L0 L1) 2 (y : Int)).er = true ∧ (sh21 (nw21 p q ac L0 L1) 2 (y : Int)).wr = 0 := by
  have hsh : sh21 (nw21 p q ac L0 L1) 2 (y : Int) = ⟨[], true, 0⟩ := by
    unfold sh21 nw21 pj21
    simp
  unfold fb21
  rw [hsh]
  refine ⟨?_, rfl, rfl⟩
  show [] ++ List.replicate (p - 0) 255 = _
  simp
end Go.Proofs.Ytiocdhkompekpaa

namespace Go.Proofs.Ytiocdhkompekpaa
open Go.RowKit Go.Shelf
set_option linter.unusedVariables false
set_option linter.unusedSimpArgs false

/-! The document's flash: New, walked. -/
/-- What holds while New lays area a: the areas ahead are laid, cur is a's slice. -/
structure Nd21 (w W : World) (b p q : Nat) (ac : Int) (sl : Array Value) (S : Fs21) (a : Nat) (g c : Nat → Nat) (A : Nat → List Pd21) (cur : Value) : Prop where
  bl : Below w.heap.size w W
  gs : W.heap[w.heap.size]? = some (.cells sl 27 (0, 0))
  hp : W.heap[b]? = some (.cells #[.int .i64 (p : Int), .int .i64 (q : Int), .int .i64 ac, (if 0 < a then .slice (some ⟨g 0, 0, none⟩) (A 0).length (c 0) else if a = 0 then cur else .slice none 0 0), (if 1 < a then .slice (some ⟨g 1, 0, none⟩) (A 1).length (c 1) else if a = 1 then cur else .slice none 0 0), .slice none 0 0, .slice none 0 0, .bool false, .int .i64 0, .slice none 0 0, .int .i64 0] 43 (0, 0))
  ar : ∀ x, x < a → Ac21 w.heap.size W S x (g x) (c x) (A x)
  gi : ∀ x y, x < a → y < a → x ≠ y → g x ≠ g y
  bN : w.heap.size ≤ b
section
variable {w W W' : World} {b p q : Nat} {ac : Int} {sl : Array Value} {S : Fs21} {a : Nat} {g c : Nat → Nat} {A : Nat → List Pd21} {cur : Value}
theorem Nd21.lt (h : Nd21 w W b p q ac sl S a g c A cur) : b < W.heap.size := (Array.getElem?_eq_some_iff.1 h.hp).1
theorem Nd21.cel (h : Nd21 w W b p q ac sl S a g c A cur) (ha : a < 2) : W.cell? ⟨b, 3 + a, none⟩ = some cur := by
  rcases (show a = 0 ∨ a = 1 by omega) with rfl | rfl
  · simp [World.cell?, h.hp]
  · simp [World.cell?, h.hp]
theorem Nd21.fr (h : Nd21 w W b p q ac sl S a g c A cur) (i : Nat) : W.frozen? ⟨b, i, none⟩ = false := by simp [World.frozen?, h.hp]
/-- Only new blocks. -/
theorem Nd21.old (h : Nd21 w W b p q ac sl S a g c A cur) (hb : Below W.heap.size W W') : Nd21 w W' b p q ac sl S a g c A cur := by
  have hkb : KB21 W W' := fun k cur e => hb.block k (Array.getElem?_eq_some_iff.1 e).1
  refine ⟨h.bl.trans (hb.mono h.bl.size), (hb.block _ (Array.getElem?_eq_some_iff.1 h.gs).1).trans h.gs, (hb.block b h.lt).trans h.hp, fun x hx => ?_, h.gi, h.bN⟩
  obtain ⟨X, hX⟩ := (h.ar x hx).1
  exact (h.ar x hx).kb hkb (hb.block _ (Array.getElem?_eq_some_iff.1 hX).1)
/-- The area's slice anew: all is kept but b and a row of pages that is none of the laid ones. -/
theorem Nd21.put (h : Nd21 w W b p q ac sl S a g c A cur) (ha : a < 2) {Q : Nat → Prop} {W1 : World} (hk : Kp Q W W1) (hQ : ∀ k, Q k → w.heap.size ≤ k ∧ (∀ x, x < a → k ≠ g x) ∧ k ≠ b ∧ (∀ cur : Array Value, W.heap[k]? ≠ some (Obj.cells cur 5 (0, 0))) ∧ (∀ cur : Array Value, W.heap[k]? ≠ some (Obj.cells cur 27 (0, 0)))) (v : Value) :
    Nd21 w (W1.setCell ⟨b, 3 + a, none⟩ v) b p q ac sl S a g c A v := by
  have hk2 : Kp (fun k => k = b ∨ Q k) W (W1.setCell ⟨b, 3 + a, none⟩ v) := (hk.mono (fun _ _ e => .inr e)).trans (Kp.set (S := fun k => k = b ∨ Q k) (.inl rfl) _) (fun _ _ e => e)
  have hkb : KB21 W (W1.setCell ⟨b, 3 + a, none⟩ v) := fun k cur e => hk2.block k (Array.getElem?_eq_some_iff.1 e).1 (fun q => by
    rcases q with q | q
    · subst q; rw [h.hp] at e; injection e with e; injection e with _ e _; exact absurd e (by decide)
    · exact (hQ k q).2.2.2.1 cur e)
  have hb1 : W1.heap[b]? = W.heap[b]? := hk.block b h.lt (fun e => (hQ b e).2.2.1 rfl)
  refine ⟨h.bl.trans (hk2.below (fun i e => ?_) h.bl.size), ?_, ?_, fun x hx => ?_, h.gi, h.bN⟩
  · rcases e with e | e
    · rw [e]; exact h.bN
    · exact (hQ i e).1
  · refine (hk2.block _ (Array.getElem?_eq_some_iff.1 h.gs).1 (fun q => ?_)).trans h.gs
    rcases q with q | q
    · have := h.hp; rw [← q, h.gs] at this; injection this with e; injection e with _ e _; exact absurd e (by decide)
    · exact (hQ _ q).2.2.2.2 _ h.gs
  · have := hb1.trans h.hp
    rcases (show a = 0 ∨ a = 1 by omega) with rfl | rfl
    · simp [World.setCell, Array.getElem?_modify, this]
    · simp [World.setCell, Array.getElem?_modify, this]
  · obtain ⟨X, hX⟩ := (h.ar x hx).1
    refine (h.ar x hx).kb hkb (hk2.block _ (Array.getElem?_eq_some_iff.1 hX).1 (fun q => ?_))
    rcases q with q | q
    · have := h.hp; rw [← q, hX] at this; injection this with e; injection e with _ e _; exact absurd e (by decide)
    · exact (hQ _ q).2.1 x hx rfl
end
theorem Nd21.next {w W : World} {b p q : Nat} {ac : Int} {sl : Array Value} {S : Fs21} {a : Nat} {g c : Nat → Nat} {A : Nat → List Pd21} {r cap n : Nat} {L : List Pd21} (h : Nd21 w W b p q ac sl S a g c A (.slice (some ⟨r, 0, none⟩) n cap)) (ha : a < 2) (hL : L.length = n) (hac : Ac21 w.heap.size W S a r cap L) (hr : ∀ x, x < a → r ≠ g x) :
    ∃ g' c' A', Nd21 w W b p q ac sl S (a + 1) g' c' A' (.slice none 0 0) := by
  refine ⟨fun x => if x = a then r else g x, fun x => if x = a then cap else c x, fun x => if x = a then L else A x, h.bl, h.gs, ?_, fun x hx => ?_, fun x y hx hy hne => ?_, h.bN⟩
  · have := h.hp
    rcases (show a = 0 ∨ a = 1 by omega) with rfl | rfl
    · simpa [hL] using this
    · simpa [hL] using this
  · by_cases e : x = a
    · subst e; simpa using hac
    · simpa [e] using h.ar x (by omega)
  · by_cases e : x = a
    · have e2 : ¬ y = a := by omega
      simp only [e, if_true, e2, if_false]; exact hr y (by omega)
    · by_cases e2 : y = a
      · simp only [e, if_false, e2, if_true]; exact fun q => hr x (by omega) q.symm
      · simp only [e, e2, if_false]; exact h.gi x y (by omega) (by omega) hne
end Go.Proofs.Ytiocdhkompekpaa
