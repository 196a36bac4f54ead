
import Derived.Test.YtjoghmdjnkdokaaDoorRfC
import Derived.Laws.CopyOwn
namespace Go.Proofs.YtjoghmdjnkdokaaDoor
open Go.RowKit Go.Shelf
set_option linter.unusedVariables false
set_option linter.unusedSimpArgs false

/-! The document's flash: what done leaves. -/
theorem info_opd21 : (Tryd.prog.info? 125).map (fun i => (i.zero, i.size, i.bytes)) = some (some (.agg #[.int .i64 0, .int .i64 0, .int .i64 0]), 3, 24) := by kernel_rfl
theorem run_log21d (w0 : World) (la : Option Addr) (n lc : Nat) (L : List (Int × Int × Int)) (hn : L.length = n) (k x y : Int) (hl : w0.ownsRow 0 125 3 (.slice la n lc) n (lgc21 L)) (hb : n ≤ 4398046511104) (ty : TypeId) :
    ∃ g cap w', (Builtin.append_ #[44, 44] ty #[.slice la n lc, .slice (some ⟨w0.heap.size, 0, none⟩) 1 1]).run Tryd.prog (w0.alloc (.cells #[.int .i64 k, .int .i64 x, .int .i64 y] 125)) = .ok (.slice (some ⟨g, 0, none⟩) (n + 1) cap) w' ∧
      w'.ownsRow 0 125 3 (.slice (some ⟨g, 0, none⟩) (n + 1) cap) (n + 1) (lgc21 (L ++ [(k, x, y)])) ∧ Kp (fun j => (Value.slice la n lc).ownBlock = some j) w0 w' ∧ ((Value.slice la n lc).ownBlock = some g ∨ w0.heap.size ≤ g) := by
  obtain ⟨i0, hi, hz0, hz1, hz2⟩ := info_parts info_opd21
  have hnew : ∀ j u, ([.int .i64 k, .int .i64 x, .int .i64 y] : List Value)[j]? = some u → (w0.alloc (.cells #[.int .i64 k, .int .i64 x, .int .i64 y] 125)).cell? ((⟨w0.heap.size, 0, none⟩ : Addr).add j) = some u := by
    intro j u hu
    have hadd : (⟨w0.heap.size, 0, none⟩ : Addr).add j = ⟨w0.heap.size, j, none⟩ := by unfold Addr.add; split <;> simp_all
    rw [hadd]
    have hh := heap_alloc_new w0 (.cells #[.int .i64 k, .int .i64 x, .int .i64 y] 125)
    simp only [World.cell?, hh]
    simpa using hu
  obtain ⟨g, cap, w', h1, h2, h3, h4, h5⟩ := run_append_lies (P := Tryd.prog) (w := w0.alloc (.cells #[.int .i64 k, .int .i64 x, .int .i64 y] 125)) 44 ty 0 125 i0 _ 3 24 Tryd.underlying44 hi hz0 hz1 hz2 rfl (by decide) _ n _ (hl.alloc _) ⟨w0.heap.size, 0, none⟩ 1 1 [.int .i64 k, .int .i64 x, .int .i64 y] rfl hnew (by intro u hu; simp only [List.mem_cons, List.not_mem_nil, or_false] at hu; rcases hu with rfl | rfl | rfl <;> rfl) (by decide) (by unfold maxLen; omega) (by omega) (by omega) (w0.heap.size + 1) (by simp)
  refine ⟨g, cap, w', h1, by rw [lgc21_app]; exact h2, (Kp.alloc w0 _).trans (Kp.grown (S := fun j => (Value.slice la n lc).ownBlock = some j) h3 (fun i e => e)) (fun _ _ e => e), ?_⟩
  rcases h4 with h4 | h4
  · exact .inl h4
  · exact .inr (by omega)
theorem set_left21 {α : Type} (A B : List α) (i : Nat) (x : α) (h : i < A.length) : (A ++ B).set i x = A.set i x ++ B := by rw [List.set_append, if_pos h]
theorem set_same21 {α : Type} (l : List α) (i : Nat) (v : α) (h : l[i]? = some v) : l.set i v = l := by
  apply List.ext_getElem?
  intro j
  rw [List.getElem?_set]
  split
  · rename_i e
    subst e
    split
    · exact h.symm
    · rename_i hlt
      rw [List.getElem?_eq_none (by omega)] at h; cases h
  · rfl
section
variable {w w' : World} {b : Nat} {g c : Nat → Nat} {A : Nat → List Pd21} {tn : List Int} {ta : Option Addr} {tc : Nat} {la : Option Addr} {lc : Nat} {V V' : Nat → Prop} {S S' : Fs21}
theorem Rf21.log (h : Rf21 w b g c A tn ta tc la lc V S) {w1 w2 : World} {q cap : Nat} {o : Int × Int × Int} (hk : Kp (fun j => (Value.slice la S.lg.length lc).ownBlock = some j) w w1) (hl : w1.ownsRow 0 125 3 (.slice (some ⟨q, 0, none⟩) (S.lg.length + 1) cap) (S.lg.length + 1) (lgc21 (S.lg ++ [o])))
    (hq : (Value.slice la S.lg.length lc).ownBlock = some q ∨ w.heap.size ≤ q) (h2 : w2 = w1.setCell ⟨b, 6, none⟩ (.slice (some ⟨q, 0, none⟩) (S.lg.length + 1) cap)) :
    Rf21 w2 b g c A tn ta tc (some ⟨q, 0, none⟩) cap V { S with lg := S.lg ++ [o] } ∧ Kp (fun j => j = b ∨ (Value.slice la S.lg.length lc).ownBlock = some j) w w2 := by
  have hb : w1.heap[b]? = w.heap[b]? := hk.block b h.bl (fun e => (h.lo e).2.1 rfl)
  have hg : ∀ x, x < 3 → w1.heap[g x]? = w.heap[g x]? := fun x hx => hk.block (g x) (h.gl hx) (fun e => (h.lo e).2.2 x hx rfl)
  have hqb : q ≠ b := by
    rcases hq with hq | hq
    · exact (h.lo hq).2.1
    · have := h.bl; omega
  have ks : Kp (fun j => j = b) w1 w2 := by rw [h2]; exact Kp.set (S := fun j => j = b) rfl _
  have hv1 : ∀ k, V k → w1.heap[k]? = w.heap[k]? := fun k e => hk.block k (h.vs k e) (fun e' => h.vl k e' e)
  have hv : ∀ k, V k → w2.heap[k]? = w.heap[k]? := fun k e => (ks.block k (Nat.lt_of_lt_of_le (h.vs k e) hk.size) (fun e' => h.vb (e' ▸ e))).trans (hv1 k e)
  refine ⟨⟨?_, fun x hx => ?_, h.hn, fun x y d hx hy => ?_, ⟨h.ht.1, h.ht.2.kp hv (fun _ e => e)⟩, ?_, h.gi, h.vb, h.vg, ?_, fun k e => Nat.lt_of_lt_of_le (h.vs k e) (Nat.le_trans hk.size ks.size)⟩, ?_⟩
  · have := hb.trans h.hp
    rw [h2]
    simp [World.setCell, Array.getElem?_modify, this]
  · obtain ⟨X, hX⟩ := h.ha x hx
    exact ⟨X, (ks.block (g x) (Nat.lt_of_lt_of_le (h.gl hx) hk.size) (fun e => h.bg hx e.symm)).trans ((hg x hx).trans hX)⟩
  · obtain ⟨q1, q2, q3⟩ := h.hd x y d hx hy
    refine ⟨q1.of_cells fun b' off' i v hi ha hc => ?_, q2, q3⟩
    cases ha
    rw [World.cell?_of_block (a := ⟨d.k, d.off + i, none⟩) (hv d.k q2)]
    exact hc
  · show w2.ownsRow 0 _ 3 (.slice (some ⟨q, 0, none⟩) (S.lg ++ [o]).length cap) (S.lg ++ [o]).length _
    rw [List.length_append, List.length_singleton]
    refine ⟨hl.1, ?_⟩
    rcases hl.2 with q0 | ⟨g', cap', cur, q1, q2, q3, q4⟩
    · exact .inl q0
    · simp only [Value.slice.injEq, Option.some.injEq, Addr.mk.injEq] at q1
      obtain ⟨⟨rfl, -⟩, -, rfl⟩ := q1
      exact .inr ⟨q, cap, cur, rfl, q2, (ks.block q (Array.getElem?_eq_some_iff.1 q3).1 hqb).trans q3, q4⟩
  · intro k e
    simp [Value.ownBlock] at e
    subst e
    rcases hq with hq | hq
    · exact h.vl _ hq
    · exact fun e => by have := h.vs _ e; omega
  · exact (hk.mono (fun i _ e => .inr e)).trans (ks.mono (fun i _ e => .inl e)) (fun _ _ e => e)
/-- Cells of a page's row written. -/
theorem pgrow21 {q : Nat} {L : List Pd21} {X : List Value} {y : Nat} {d d' : Pd21} (hX : w.heap[q]? = some (.cells (pdl21 L ++ X).toArray 72 (0, 0))) (hy : L[y]? = some d) :
    (((w.setCell ⟨q, y * 3, none⟩ (.slice (some ⟨d'.k, d'.off, none⟩) d'.b.length d'.c)).setCell ⟨q, y * 3 + 1, none⟩ (.bool d'.er)).setCell ⟨q, y * 3 + 2, none⟩ (.int .i64 d'.wr)).heap[q]? = some (.cells (pdl21 (L.set y d') ++ X).toArray 72 (0, 0)) := by
  have hlt : y < L.length := by
    rcases Nat.lt_or_ge y L.length with h | h
    · exact h
    · rw [List.getElem?_eq_none h] at hy; cases hy
  have hl := pdl21_len L
  rw [pdl21_set L y d d' hy]
  simp only [World.setCell, Array.getElem?_modify, hX]
  simp
  rw [set_left21 _ _ _ _ (by omega), set_left21 _ _ _ _ (by simp; omega), set_left21 _ _ _ _ (by simp; omega)]
theorem pgrow21_two {q : Nat} {L : List Pd21} {X : List Value} {y : Nat} {d d' : Pd21} (hX : w.heap[q]? = some (.cells (pdl21 L ++ X).toArray 72 (0, 0))) (hy : L[y]? = some d) (e : d'.wr = d.wr) :
    ((w.setCell ⟨q, y * 3, none⟩ (.slice (some ⟨d'.k, d'.off, none⟩) d'.b.length d'.c)).setCell ⟨q, y * 3 + 1, none⟩ (.bool d'.er)).heap[q]? = some (.cells (pdl21 (L.set y d') ++ X).toArray 72 (0, 0)) := by
  have hlt : y < L.length := by
    rcases Nat.lt_or_ge y L.length with h | h
    · exact h
    · rw [List.getElem?_eq_none h] at hy; cases hy
  have hl := pdl21_len L
  have hs : (((pdl21 L).set (y * 3) (.slice (some ⟨d'.k, d'.off, none⟩) d'.b.length d'.c)).set (y * 3 + 1) (.bool d'.er)).set (y * 3 + 2) (.int .i64 d'.wr) = ((pdl21 L).set (y * 3) (.slice (some ⟨d'.k, d'.off, none⟩) d'.b.length d'.c)).set (y * 3 + 1) (.bool d'.er) := by
    apply set_same21
    rw [List.getElem?_set_ne (by omega), List.getElem?_set_ne (by omega), e]
    exact (pdl21_get L y d hy).2.2
  rw [pdl21_set L y d d' hy, hs]
  simp only [World.setCell, Array.getElem?_modify, hX]
  simp
  rw [set_left21 _ _ _ _ (by omega), set_left21 _ _ _ _ (by simp; omega)]
theorem pgrow21_one {q : Nat} {L : List Pd21} {X : List Value} {y : Nat} {d : Pd21} (hX : w.heap[q]? = some (.cells (pdl21 L ++ X).toArray 72 (0, 0))) (hy : L[y]? = some d) (n : Int) :
    (w.setCell ⟨q, y * 3 + 2, none⟩ (.int .i64 n)).heap[q]? = some (.cells (pdl21 (L.set y { d with wr := n }) ++ X).toArray 72 (0, 0)) := by
  have hlt : y < L.length := by
    rcases Nat.lt_or_ge y L.length with h | h
    · exact h
    · rw [List.getElem?_eq_none h] at hy; cases hy
  have hl := pdl21_len L
  have hg := pdl21_get L y d hy
  have hs : (((pdl21 L).set (y * 3) (.slice (some ⟨d.k, d.off, none⟩) d.b.length d.c)).set (y * 3 + 1) (.bool d.er)).set (y * 3 + 2) (.int .i64 n) = (pdl21 L).set (y * 3 + 2) (.int .i64 n) := by
    rw [set_same21 _ _ _ hg.1, set_same21 _ _ _ hg.2.1]
  rw [pdl21_set L y d { d with wr := n } hy, hs]
  simp only [World.setCell, Array.getElem?_modify, hX]
  simp
  rw [set_left21 _ _ _ _ (by omega)]
end
def dnS21 (S : Fs21) (kd x y : Int) : Fs21 := if S.lf = 1 then cu21 S kd x y (sh21 S x y) else { S with lg := S.lg ++ [(kd, x, y)], lf := max 0 (S.lf - 1) }
theorem la21_fb {S : Fs21} (h : Ok21 S) (x y : Int) : S.tn ++ (fb21 S x y).drop S.tn.length = la21 S.pg S.tn (sh21 S x y).b := by
  have h1 := (sh21_ok h x y).1
  have h2 := h.tn
  unfold la21 sp21 fb21
  simp
end Go.Proofs.YtjoghmdjnkdokaaDoor
