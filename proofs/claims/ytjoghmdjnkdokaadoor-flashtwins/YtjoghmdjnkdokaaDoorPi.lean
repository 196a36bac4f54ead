import Derived.Test.YtjoghmdjnkdokaaDoorPh
import Derived.Laws.CopyOwn
import Derived.Test.YtjoghmdjnkdokaaDoorPb
namespace Go.Proofs.YtjoghmdjnkdokaaDoor
open Go.RowKit Go.Shelf
set_option linter.unusedVariables false
set_option linter.unusedSimpArgs false

/-! The document's flash: Plan, done. -/
theorem cl21_own {w : World} {N : Nat} {a : Option Addr} {c n : Nat} {zs : List Int} (h : w.ownsRow N 5 1 (.slice a n c) n (zs.map (Value.int .u8))) (hz : ∀ z ∈ zs, 0 ≤ z ∧ z ≤ 255) : Cl21 w a zs c N := by
  obtain ⟨-, a', cap', hv, hsg, hx, hcp, -⟩ := own_seg (M := 255) h (by decide) hz
  simp only [Value.slice.injEq] at hv
  obtain ⟨rfl, -, rfl⟩ := hv
  refine ⟨hsg, ?_, ?_, by have := h.1; simp at this; omega⟩
  · cases a with
    | none => exact .inl rfl
    | some x =>
      obtain ⟨h1, h2, h3, h4⟩ := hx x rfl
      refine .inr ⟨x.block, ?_, h3, h4⟩
      cases x; simp at h1 h2; simp [h1, h2]
  · intro h0
    subst h0
    rcases h.2 with ⟨h1, h2⟩ | ⟨g, cp, cur, hv, _⟩
    · simp at h1; exact h1.2
    · simp at hv
section
variable {w w' : World} {b : Nat} {g c : Nat → Nat} {A : Nat → List Pd21} {tn : List Int} {ta : Option Addr} {tc : Nat} {la : Option Addr} {lc : Nat} {V V' : Nat → Prop} {S S' : Fs21}
/-- Bytes of the call's own may be spoken of. -/
theorem Rf21.new (h : Rf21 w b g c A tn ta tc la lc V S) (hb : Below w.heap.size w w') (Q : Nat → Prop) (hQ : ∀ k, Q k → w.heap.size ≤ k ∧ k < w'.heap.size) : Rf21 w' b g c A tn ta tc la lc (fun k => V k ∨ Q k) S := by
  have h1 := h.bl
  refine (h.old hb).wid (fun _ e => .inl e) ?_ ?_ ?_ ?_
  · rintro (e | e)
    · exact h.vb e
    · have := hQ _ e; omega
  · rintro x hx (e | e)
    · exact h.vg x hx e
    · have := hQ _ e; have := h.gl hx; omega
  · rintro k hk (e | e)
    · exact h.vl k hk e
    · have := hQ _ e; have := (h.lo hk).1; omega
  · rintro k (e | e)
    · exact Nat.lt_of_lt_of_le (h.vs k e) hb.size
    · exact (hQ k e).2
end
set_option maxRecDepth 100000 in
set_option maxHeartbeats 4000000 in
theorem rpln21 {w : World} {b : Nat} {G : Nat → Prop} {S : Fs21} (h : Rl21d w b G S) (hO : Ok21 S) (n : Int) (a : Option Addr) (L : List Int) (l cap : Nat) (hs : Seg w a L) (hl : Hid (L.length = l)) (hnil : a = none → cap = 0) (hb48 : l ≤ 140737488351232) :
    Calls Tryd.prog 35 #[.pointer (some ⟨b, 0, none⟩), .int .i64 n, .slice a l cap] w fun e w' => e = .returned (.int .i64 (cuE21 S n l)) ∧ Rn21 w w' b G (cuS21 S n L) := by
  have HL : Hid (Rl21d w b G S) := h
  obtain ⟨g, c, A, tn, ta, tc, la, lc, V, h1, h2, h3, h4, h5, h6⟩ := h
  have c7 := h1.cel (i := 7) rfl
  have c0 := h1.cel (i := 0) rfl
  have HR : Hid (Rf21 w b g c A tn ta tc la lc V S ∧ G b ∧ (∀ x, x < 3 → G (g x)) ∧ (∀ k, (Value.slice la S.lg.length lc).ownBlock = some k → G k) ∧ (∀ k, V k → G k) ∧ (∀ k, G k → k < w.heap.size)) := ⟨h1, h2, h3, h4, h5, h6⟩
  clear h1 h2 h3 h4 h5 h6
  have hS : Hid (cuS21 S n L = if S.on = false then S else if n < 0 ∨ S.pg < l then S else { S with lf := n, tn := if 0 < n then L else [] }) := by show _ = _; unfold cuS21; rw [hl.out]
  have hE : Hid (cuE21 S n l = if S.on = false then 213 else if n < 0 ∨ S.pg < l then 1 else 0) := rfl
  rw [hS.out, hE.out]
  clear hS hE
  by_cases hon : S.on = false
  · rw [if_pos hon, if_pos hon]
    rw [hon] at c7
    go_enter Tryd.func35, Tryd.ntmps35
    go_wp2_with fail
    go_ret
    exact ⟨rfl, HL.out.stay (Below.refl _ _)⟩
  · rw [if_neg hon, if_neg hon]
    have hon' : S.on = true := by simpa using hon
    rw [hon'] at c7
    by_cases hn : n < 0
    · rw [if_pos (.inl hn), if_pos (.inl hn)]
      go_enter Tryd.func35, Tryd.ntmps35
      go_wp2_with fail
      go_ret
      exact ⟨rfl, HL.out.stay (Below.refl _ _)⟩
    · by_cases hp : S.pg < l
      · rw [if_pos (.inr hp), if_pos (.inr hp)]
        have hpi : (S.pg : Int) < (l : Int) := by omega
        go_enter Tryd.func35, Tryd.ntmps35
        go_wp2_with fail
        go_ret
        exact ⟨rfl, HL.out.stay (Below.refl _ _)⟩
      · rw [if_neg (by omega), if_neg (by omega)]
        have hpi : ¬ (S.pg : Int) < (l : Int) := by omega
        obtain ⟨i0, hi, hz0, hz1, hz2⟩ := info_parts info_y21
        have hm0 : (w.alloc (.cells #[] 5)).ownsRow w.heap.size 5 1 (.slice (some ⟨w.heap.size, 0, none⟩) 0 0) 0 [] := World.ownsRow_made w #[] 0 (Nat.le_refl _) (by decide) rfl
        have hb0 : Below w.heap.size w (w.alloc (.cells #[] 5)) := (Below.refl _ _).alloc (Nat.le_refl _) _
        have hs1 := hs.alloc (.cells #[] 5)
        have hmem := hs.mem
        have HLN := hl.out
        subst HLN
        have HRE : Hid (∀ (w1 : World) (a1 : Option Addr) (c1 : Nat), Below w.heap.size w w1 → Cl21 w1 a1 L c1 w.heap.size → w1.cell? ⟨b, 8, none⟩ = some (.int .i64 S.lf) ∧ w1.cell? ⟨b, 9, none⟩ = some (.slice ta tn.length tc) ∧ (∀ i, w1.frozen? ⟨b, i, none⟩ = false) ∧ Rn21 w ((w1.setCell ⟨b, 8, none⟩ (.int .i64 n)).setCell ⟨b, 9, none⟩ (.slice a1 L.length c1)) b G { S with lf := n, tn := if 0 < n then L else [] }) := fun w1 a1 c1 hb hc => by
          obtain ⟨h1, h2, h3, h4, h5, h6⟩ := HR.out
          have q := h1.old hb
          have hnew := h1.new hb (fun k => a1 = some ⟨k, 0, none⟩) (fun k e => by
            rcases hc.2.1 with e2 | ⟨k', e2, e3, e4⟩
            · rw [e2] at e; cases e
            · rw [e2] at e; cases e; exact ⟨e3, e4⟩)
          refine ⟨q.cel (i := 8) rfl, q.cel (i := 9) rfl, q.fr, ?_⟩
          have hk : Kp (fun k => k = b) w1 ((w1.setCell ⟨b, 8, none⟩ (.int .i64 n)).setCell ⟨b, 9, none⟩ (.slice a1 L.length c1)) := (Kp.set (S := fun k => k = b) rfl _).trans (Kp.set (S := fun k => k = b) rfl _) (fun _ _ e => e)
          have hre := hnew.re (S' := { S with lf := n, tn := if 0 < n then L else [] }) hk rfl rfl rfl rfl (tn' := L) (ta' := a1) (tc' := c1) ⟨fun e => by show L = if 0 < n then L else []; rw [if_pos]; have : n ≠ 0 := e; omega, hc.1, by rcases hc.2.1 with e2 | ⟨k', e2, e3, e4⟩; (exact .inl e2); (exact .inr ⟨k', e2, .inr e2⟩), hc.2.2.1, hc.2.2.2⟩ (by simp [World.setCell, Array.getElem?_modify, hnew.hp])
          refine ⟨fun k => G k ∨ a1 = some ⟨k, 0, none⟩, ⟨g, c, A, L, a1, c1, la, lc, _, hre, .inl h2, fun x hx => .inl (h3 x hx), fun k e => .inl (h4 k e), fun k e => by rcases e with e | e; (exact .inl (h5 k e)); (exact .inr e), fun k e => ?_⟩, fun k e => ?_, ?_⟩
          · rcases e with e | e
            · exact Nat.lt_of_lt_of_le (h6 k e) (Nat.le_trans hb.size hk.size)
            · rcases hc.2.1 with e2 | ⟨k', e2, e3, e4⟩
              · rw [e2] at e; cases e
              · rw [e2] at e; cases e; exact Nat.lt_of_lt_of_le e4 hk.size
          · rcases e with e | e
            · exact .inl e
            · rcases hc.2.1 with e2 | ⟨k', e2, e3, e4⟩
              · rw [e2] at e; cases e
              · rw [e2] at e; cases e; exact .inr e3
          · exact (Kp.of_below hb).trans (hk.mono (S' := G) (fun i _ e => by subst e; exact h2)) (fun _ _ e => e)
        clear hs hl HL
        generalize ({ S with lf := n, tn := if 0 < n then L else [] } : Fs21) = S1 at HRE ⊢
        go_enter Tryd.func35, Tryd.ntmps35
        go_wp2_with (first
          | (at_builtin; refine wpList_appS rfl (.tmp 25) (.tmp 26) 22 rfl w.heap.size 5 i0 (.int .u8 0) 1 Tryd.underlying22 hi hz0 hz1 hz2 rfl hm0 hs1 hnil rfl rfl (by omega) (by omega) (by have := hb0.size; omega) ?_; intro a1 c1 w1 hown1 hg1 hf1 hn1; have hb1 := hb0.trans (below_own hm0 hg1 (by have := hb0.size; omega)); rw [Nat.zero_add, List.nil_append] at hown1; obtain ⟨e8, e9, ef, HRN⟩ := HRE.out w1 a1 c1 hb1 (cl21_own hown1 hmem); have HRN' : Hid (Rn21 w ((w1.setCell ⟨b, 8, none⟩ (.int .i64 n)).setCell ⟨b, 9, none⟩ (.slice a1 L.length c1)) b G S1) := HRN; have f8 := ef 8; have f9 := ef 9; clear hf1 hg1 hn1 hown1 HRN ef hb1 hm0 hs1 hb0))
        go_ret
        exact ⟨rfl, HRN'.out⟩
end Go.Proofs.YtjoghmdjnkdokaaDoor

namespace Go.Proofs.YtjoghmdjnkdokaaDoor
open Go.RowKit Go.Shelf
set_option linter.unusedVariables false
set_option linter.unusedSimpArgs false

/-! The document's flash: what done leaves. -/
theorem info_opd21 : (Tryd.prog.info? 125).map (fun i => (i.zero, i.size, i.bytes)) = some (some (.agg #[.int .i64 0, .int .i64 0, .int .i64 0]), 3, 24) := by kernel_rfl
theorem run_log21d (w0 : World) (la : Option Addr) (n lc : Nat) (L : List (Int × Int × Int)) (hn : L.length = n) (k x y : Int) (hl : w0.ownsRow 0 125 3 (.slice la n lc) n (lgc21 L)) (hb : n ≤ 5500000002000) (ty : TypeId) :
    ∃ g cap w', (Builtin.append_ #[44, 44] ty #[.slice la n lc, .slice (some ⟨w0.heap.size, 0, none⟩) 1 1]).run Tryd.prog (w0.alloc (.cells #[.int .i64 k, .int .i64 x, .int .i64 y] 125)) = .ok (.slice (some ⟨g, 0, none⟩) (n + 1) cap) w' ∧
      w'.ownsRow 0 125 3 (.slice (some ⟨g, 0, none⟩) (n + 1) cap) (n + 1) (lgc21 (L ++ [(k, x, y)])) ∧ Kp (fun j => (Value.slice la n lc).ownBlock = some j) w0 w' ∧ ((Value.slice la n lc).ownBlock = some g ∨ w0.heap.size ≤ g) := by
  obtain ⟨i0, hi, hz0, hz1, hz2⟩ := info_parts info_opd21
  have hnew : ∀ j u, ([.int .i64 k, .int .i64 x, .int .i64 y] : List Value)[j]? = some u → (w0.alloc (.cells #[.int .i64 k, .int .i64 x, .int .i64 y] 125)).cell? ((⟨w0.heap.size, 0, none⟩ : Addr).add j) = some u := by
    intro j u hu
    have hadd : (⟨w0.heap.size, 0, none⟩ : Addr).add j = ⟨w0.heap.size, j, none⟩ := by unfold Addr.add; split <;> simp_all
    rw [hadd]
    have hh := heap_alloc_new w0 (.cells #[.int .i64 k, .int .i64 x, .int .i64 y] 125)
    simp only [World.cell?, hh]
    simpa using hu
  obtain ⟨g, cap, w', h1, h2, h3, h4, h5⟩ := run_append_lies (P := Tryd.prog) (w := w0.alloc (.cells #[.int .i64 k, .int .i64 x, .int .i64 y] 125)) 44 ty 0 125 i0 _ 3 24 Tryd.underlying44 hi hz0 hz1 hz2 rfl (by decide) _ n _ (hl.alloc _) ⟨w0.heap.size, 0, none⟩ 1 1 [.int .i64 k, .int .i64 x, .int .i64 y] rfl hnew (by intro u hu; simp only [List.mem_cons, List.not_mem_nil, or_false] at hu; rcases hu with rfl | rfl | rfl <;> rfl) (by decide) (by unfold maxLen; omega) (by omega) (by omega) (w0.heap.size + 1) (by simp)
  refine ⟨g, cap, w', h1, by rw [lgc21_app]; exact h2, (Kp.alloc w0 _).trans (Kp.grown (S := fun j => (Value.slice la n lc).ownBlock = some j) h3 (fun i e => e)) (fun _ _ e => e), ?_⟩
  rcases h4 with h4 | h4
  · exact .inl h4
  · exact .inr (by omega)
theorem set_left21 {α : Type} (A B : List α) (i : Nat) (x : α) (h : i < A.length) : (A ++ B).set i x = A.set i x ++ B := by rw [List.set_append, if_pos h]
theorem set_same21 {α : Type} (l : List α) (i : Nat) (v : α) (h : l[i]? = some v) : l.set i v = l := by
  apply List.ext_getElem?
  intro j
  rw [List.getElem?_set]
  split
  · rename_i e
    subst e
    split
    · exact h.symm
    · rename_i hlt
      rw [List.getElem?_eq_none (by omega)] at h; cases h
  · rfl
section
variable {w w' : World} {b : Nat} {g c : Nat → Nat} {A : Nat → List Pd21} {tn : List Int} {ta : Option Addr} {tc : Nat} {la : Option Addr} {lc : Nat} {V V' : Nat → Prop} {S S' : Fs21}
theorem Rf21.log (h : Rf21 w b g c A tn ta tc la lc V S) {w1 w2 : World} {q cap : Nat} {o : Int × Int × Int} (hk : Kp (fun j => (Value.slice la S.lg.length lc).ownBlock = some j) w w1) (hl : w1.ownsRow 0 125 3 (.slice (some ⟨q, 0, none⟩) (S.lg.length + 1) cap) (S.lg.length + 1) (lgc21 (S.lg ++ [o])))
    (hq : (Value.slice la S.lg.length lc).ownBlock = some q ∨ w.heap.size ≤ q) (h2 : w2 = w1.setCell ⟨b, 6, none⟩ (.slice (some ⟨q, 0, none⟩) (S.lg.length + 1) cap)) :
    Rf21 w2 b g c A tn ta tc (some ⟨q, 0, none⟩) cap V { S with lg := S.lg ++ [o] } ∧ Kp (fun j => j = b ∨ (Value.slice la S.lg.length lc).ownBlock = some j) w w2 := by
  have hb : w1.heap[b]? = w.heap[b]? := hk.block b h.bl (fun e => (h.lo e).2.1 rfl)
  have hg : ∀ x, x < 3 → w1.heap[g x]? = w.heap[g x]? := fun x hx => hk.block (g x) (h.gl hx) (fun e => (h.lo e).2.2 x hx rfl)
  have hqb : q ≠ b := by
    rcases hq with hq | hq
    · exact (h.lo hq).2.1
    · have := h.bl; omega
  have ks : Kp (fun j => j = b) w1 w2 := by rw [h2]; exact Kp.set (S := fun j => j = b) rfl _
  have hv1 : ∀ k, V k → w1.heap[k]? = w.heap[k]? := fun k e => hk.block k (h.vs k e) (fun e' => h.vl k e' e)
  have hv : ∀ k, V k → w2.heap[k]? = w.heap[k]? := fun k e => (ks.block k (Nat.lt_of_lt_of_le (h.vs k e) hk.size) (fun e' => h.vb (e' ▸ e))).trans (hv1 k e)
  refine ⟨⟨?_, fun x hx => ?_, h.hn, fun x y d hx hy => ?_, ⟨h.ht.1, h.ht.2.kp hv (fun _ e => e)⟩, ?_, h.gi, h.vb, h.vg, ?_, fun k e => Nat.lt_of_lt_of_le (h.vs k e) (Nat.le_trans hk.size ks.size)⟩, ?_⟩
  · have := hb.trans h.hp
    rw [h2]
    simp [World.setCell, Array.getElem?_modify, this]
  · obtain ⟨X, hX⟩ := h.ha x hx
    exact ⟨X, (ks.block (g x) (Nat.lt_of_lt_of_le (h.gl hx) hk.size) (fun e => h.bg hx e.symm)).trans ((hg x hx).trans hX)⟩
  · obtain ⟨q1, q2, q3⟩ := h.hd x y d hx hy
    refine ⟨q1.of_cells fun b' off' i v hi ha hc => ?_, q2, q3⟩
    cases ha
    rw [World.cell?_of_block (a := ⟨d.k, d.off + i, none⟩) (hv d.k q2)]
    exact hc
  · show w2.ownsRow 0 _ 3 (.slice (some ⟨q, 0, none⟩) (S.lg ++ [o]).length cap) (S.lg ++ [o]).length _
    rw [List.length_append, List.length_singleton]
    refine ⟨hl.1, ?_⟩
    rcases hl.2 with q0 | ⟨g', cap', cur, q1, q2, q3, q4⟩
    · exact .inl q0
    · simp only [Value.slice.injEq, Option.some.injEq, Addr.mk.injEq] at q1
      obtain ⟨⟨rfl, -⟩, -, rfl⟩ := q1
      exact .inr ⟨q, cap, cur, rfl, q2, (ks.block q (Array.getElem?_eq_some_iff.1 q3).1 hqb).trans q3, q4⟩
  · intro k e
    simp [Value.ownBlock] at e
    subst e
    rcases hq with hq | hq
    · exact h.vl _ hq
    · exact fun e => by have := h.vs _ e; omega
  · exact (hk.mono (fun i _ e => .inr e)).trans (ks.mono (fun i _ e => .inl e)) (fun _ _ e => e)
/-- Cells of a page's row written. -/
theorem pgrow21 {q : Nat} {L : List Pd21} {X : List Value} {y : Nat} {d d' : Pd21} (hX : w.heap[q]? = some (.cells (pdl21 L ++ X).toArray 72 (0, 0))) (hy : L[y]? = some d) :
    (((w.setCell ⟨q, y * 3, none⟩ (.slice (some ⟨d'.k, d'.off, none⟩) d'.b.length d'.c)).setCell ⟨q, y * 3 + 1, none⟩ (.bool d'.er)).setCell ⟨q, y * 3 + 2, none⟩ (.int .i64 d'.wr)).heap[q]? = some (.cells (pdl21 (L.set y d') ++ X).toArray 72 (0, 0)) := by
  have hlt : y < L.length := by
    rcases Nat.lt_or_ge y L.length with h | h
    · exact h
    · rw [List.getElem?_eq_none h] at hy; cases hy
  have hl := pdl21_len L
  rw [pdl21_set L y d d' hy]
  simp only [World.setCell, Array.getElem?_modify, hX]
  simp
  rw [set_left21 _ _ _ _ (by omega), set_left21 _ _ _ _ (by simp; omega), set_left21 _ _ _ _ (by simp; omega)]
theorem pgrow21_two {q : Nat} {L : List Pd21} {X : List Value} {y : Nat} {d d' : Pd21} (hX : w.heap[q]? = some (.cells (pdl21 L ++ X).toArray 72 (0, 0))) (hy : L[y]? = some d) (e : d'.wr = d.wr) :
    ((w.setCell ⟨q, y * 3, none⟩ (.slice (some ⟨d'.k, d'.off, none⟩) d'.b.length d'.c)).setCell ⟨q, y * 3 + 1, none⟩ (.bool d'.er)).heap[q]? = some (.cells (pdl21 (L.set y d') ++ X).toArray 72 (0, 0)) := by
  have hlt : y < L.length := by
    rcases Nat.lt_or_ge y L.length with h | h
    · exact h
    · rw [List.getElem?_eq_none h] at hy; cases hy
  have hl := pdl21_len L
  have hs : (((pdl21 L).set (y * 3) (.slice (some ⟨d'.k, d'.off, none⟩) d'.b.length d'.c)).set (y * 3 + 1) (.bool d'.er)).set (y * 3 + 2) (.int .i64 d'.wr) = ((pdl21 L).set (y * 3) (.slice (some ⟨d'.k, d'.off, none⟩) d'.b.length d'.c)).set (y * 3 + 1) (.bool d'.er) := by
    apply set_same21
    rw [List.getElem?_set_ne (by omega), List.getElem?_set_ne (by omega), e]
    exact (pdl21_get L y d hy).2.2
  rw [pdl21_set L y d d' hy, hs]
  simp only [World.setCell, Array.getElem?_modify, hX]
  simp
  rw [set_left21 _ _ _ _ (by omega), set_left21 _ _ _ _ (by simp; omega)]
theorem pgrow21_one {q : Nat} {L : List Pd21} {X : List Value} {y : Nat} {d : Pd21} (hX : w.heap[q]? = some (.cells (pdl21 L ++ X).toArray 72 (0, 0))) (hy : L[y]? = some d) (n : Int) :
    (w.setCell ⟨q, y * 3 + 2, none⟩ (.int .i64 n)).heap[q]? = some (.cells (pdl21 (L.set y { d with wr := n }) ++ X).toArray 72 (0, 0)) := by
  have hlt : y < L.length := by
    rcases Nat.lt_or_ge y L.length with h | h
    · exact h
    · rw [List.getElem?_eq_none h] at hy; cases hy
  have hl := pdl21_len L
  have hg := pdl21_get L y d hy
  have hs : (((pdl21 L).set (y * 3) (.slice (some ⟨d.k, d.off, none⟩) d.b.length d.c)).set (y * 3 + 1) (.bool d.er)).set (y * 3 + 2) (.int .i64 n) = (pdl21 L).set (y * 3 + 2) (.int .i64 n) := by
    rw [set_same21 _ _ _ hg.1, set_same21 _ _ _ hg.2.1]
  rw [pdl21_set L y d { d with wr := n } hy, hs]
  simp only [World.setCell, Array.getElem?_modify, hX]
  simp
  rw [set_left21 _ _ _ _ (by omega)]
end
def dnS21 (S : Fs21) (kd x y : Int) : Fs21 := if S.lf = 1 then cu21 S kd x y (sh21 S x y) else { S with lg := S.lg ++ [(kd, x, y)], lf := max 0 (S.lf - 1) }
theorem la21_fb {S : Fs21} (h : Ok21 S) (x y : Int) : S.tn ++ (fb21 S x y).drop S.tn.length = la21 S.pg S.tn (sh21 S x y).b := by
  have h1 := (sh21_ok h x y).1
  have h2 := h.tn
  unfold la21 sp21 fb21
  simp
end Go.Proofs.YtjoghmdjnkdokaaDoor

namespace Go.Proofs.YtjoghmdjnkdokaaDoor
open Go.RowKit Go.Shelf
set_option linter.unusedVariables false
set_option linter.unusedSimpArgs false

/-! The document's flash: what New lays, step by step. -/
theorem step_apr21 {P : Program} {ops : Array Oper} {o : Oper} {a : Act} {w : World} {K : Act → World → Prop} {Q : Exit → Act → World → Prop} {E : Prop} (hgd : o.guard = none) (s x : Operand) (t : TypeId)
    (ho : o.op = Op.call { callee := Callee.builtin Builtin.append, args := #[s, x], argTypes := #[t, t] }) {u v v' : Value} {w' : World} (hs : a.eval s = u) (hx : a.eval x = v) (hr : (Builtin.append_ #[t, t] o.type #[u, v]).run P w = .ok v' w')
    (h : K (a.put o.dst v') w') : if Region.wanted o (yielded ops a.tmps) = true then Oper.wp P o a w K Q else E := by
  have hw : Region.wanted o (yielded ops a.tmps) = true := by simp [Region.wanted, hgd]
  rw [if_pos hw]
  exact operwp_app21 s x t ho hs hx hr h
theorem info_pg21 : (Tryd.prog.info? 72).map (fun i => (i.zero, i.size, i.bytes)) = some (some (.agg #[.slice none 0 0, .bool false, .int .i64 0]), 3, 40) := by kernel_rfl
theorem run_pg21 (N : Nat) (w0 : World) (hN : N ≤ w0.heap.size) (ra : Option Addr) (n rc : Nat) (L : List Pd21) (hn : L.length = n) (d : Pd21) (len : Nat) (hlen : d.b.length = len) (hl : w0.ownsRow N 72 3 (.slice ra n rc) n (pdl21 L)) (hb : n ≤ 1099511627776) (ty : TypeId) :
    ∃ g cap w', (Builtin.append_ #[42, 42] ty #[.slice ra n rc, .slice (some ⟨w0.heap.size, 0, none⟩) 1 1]).run Tryd.prog (w0.alloc (.cells #[.slice (some ⟨d.k, d.off, none⟩) len d.c, .bool d.er, .int .i64 d.wr] 72)) = .ok (.slice (some ⟨g, 0, none⟩) (n + 1) cap) w' ∧
      w'.ownsRow N 72 3 (.slice (some ⟨g, 0, none⟩) (n + 1) cap) (n + 1) (pdl21 (L ++ [d])) ∧ Kp (fun j => (Value.slice ra n rc).ownBlock = some j) w0 w' ∧ ((Value.slice ra n rc).ownBlock = some g ∨ w0.heap.size ≤ g) := by
  subst hlen
  obtain ⟨i0, hi, hz0, hz1, hz2⟩ := info_parts info_pg21
  have hnew : ∀ j u, (pdc21 d)[j]? = some u → (w0.alloc (.cells #[.slice (some ⟨d.k, d.off, none⟩) d.b.length d.c, .bool d.er, .int .i64 d.wr] 72)).cell? ((⟨w0.heap.size, 0, none⟩ : Addr).add j) = some u := by
    intro j u hu
    have hadd : (⟨w0.heap.size, 0, none⟩ : Addr).add j = ⟨w0.heap.size, j, none⟩ := by unfold Addr.add; split <;> simp_all
    rw [hadd]
    have hh := heap_alloc_new w0 (.cells #[.slice (some ⟨d.k, d.off, none⟩) d.b.length d.c, .bool d.er, .int .i64 d.wr] 72)
    simp only [World.cell?, hh]
    simpa [pdc21] using hu
  obtain ⟨g, cap, w', h1, h2, h3, h4, h5⟩ := run_append_lies (P := Tryd.prog) (w := w0.alloc (.cells #[.slice (some ⟨d.k, d.off, none⟩) d.b.length d.c, .bool d.er, .int .i64 d.wr] 72)) 42 ty N 72 i0 _ 3 40 Tryd.underlying42 hi hz0 hz1 hz2 rfl (by decide) _ n _ (hl.alloc _) ⟨w0.heap.size, 0, none⟩ 1 1 (pdc21 d) rfl hnew (by intro u hu; simp only [pdc21, List.mem_cons, List.not_mem_nil, or_false] at hu; rcases hu with rfl | rfl | rfl <;> rfl) (by decide) (by unfold maxLen; omega) (by omega) (by simp; omega) (w0.heap.size + 1) (by simp)
  refine ⟨g, cap, w', h1, by rw [pdl21_app]; exact h2, (Kp.alloc w0 _).trans (Kp.grown (S := fun j => (Value.slice ra n rc).ownBlock = some j) h3 (fun i e => e)) (fun _ _ e => e), ?_⟩
  rcases h4 with h4 | h4
  · exact .inl h4
  · exact .inr (by omega)
def V21 (N : Nat) (W : World) (k : Nat) : Prop := N ≤ k ∧ ∃ cur : Array Value, W.heap[k]? = some (Obj.cells cur 5 (0, 0))
def KB21 (W W' : World) : Prop := ∀ (k : Nat) (cur : Array Value), W.heap[k]? = some (Obj.cells cur 5 (0, 0)) → W'.heap[k]? = W.heap[k]?
theorem V21.kb {N : Nat} {W W' : World} {k : Nat} (h : V21 N W k) (hk : KB21 W W') : V21 N W' k := by
  obtain ⟨h1, cur, h2⟩ := h
  exact ⟨h1, cur, (hk k cur h2).trans h2⟩
def Pk21 (N : Nat) (W : World) (S : Fs21) (x y : Nat) (d : Pd21) : Prop := Seg W (some ⟨d.k, d.off, none⟩) d.b ∧ V21 N W d.k ∧ d.b = fb21 S (x : Int) (y : Int) ∧ d.er = (sh21 S (x : Int) (y : Int)).er ∧ d.wr = (sh21 S (x : Int) (y : Int)).wr ∧ d.b.length ≤ d.c
theorem Pk21.kb {N : Nat} {W W' : World} {S : Fs21} {x y : Nat} {d : Pd21} (h : Pk21 N W S x y d) (hk : KB21 W W') : Pk21 N W' S x y d := by
  obtain ⟨h1, h2, h3⟩ := h
  refine ⟨h1.of_cells fun b' off' i v hi ha hc => ?_, h2.kb hk, h3⟩
  cases ha
  obtain ⟨_, cur, hcur⟩ := h2
  rw [World.cell?_of_block (a := ⟨d.k, d.off + i, none⟩) (hk d.k cur hcur)]
  exact hc
def Ac21 (N : Nat) (W : World) (S : Fs21) (x gx cx : Nat) (L : List Pd21) : Prop := (∃ X : List Value, W.heap[gx]? = some (.cells (pdl21 L ++ X).toArray 72 (0, 0))) ∧ (L.length : Int) = pn21 S.ps (x : Int) ∧ L.length ≤ cx ∧ N ≤ gx ∧ ∀ y d, L[y]? = some d → Pk21 N W S x y d
theorem Ac21.kb {N : Nat} {W W' : World} {S : Fs21} {x gx cx : Nat} {L : List Pd21} (h : Ac21 N W S x gx cx L) (hk : KB21 W W') (hg : W'.heap[gx]? = W.heap[gx]?) : Ac21 N W' S x gx cx L := by
  obtain ⟨⟨X, h1⟩, h2, h3, h4, h5⟩ := h
  exact ⟨⟨X, hg.trans h1⟩, h2, h3, h4, fun y d e => (h5 y d e).kb hk⟩
/-- A row that is done, as a block. -/
theorem ac21_own {N : Nat} {W : World} {S : Fs21} {x gx cx n : Nat} {L : List Pd21} (h : W.ownsRow N 72 3 (.slice (some ⟨gx, 0, none⟩) n cx) n (pdl21 L)) (hn : L.length = n) (hp : (n : Int) = pn21 S.ps (x : Int)) (hk : ∀ y d, L[y]? = some d → Pk21 N W S x y d) : Ac21 N W S x gx cx L := by
  rcases h.2 with ⟨e, _⟩ | ⟨g, cap, cur, hv, hg, hh, hle, hm, hs, ht⟩
  · cases e
  · simp only [Value.slice.injEq, Option.some.injEq, Addr.mk.injEq] at hv
    obtain ⟨⟨rfl, -⟩, -, rfl⟩ := hv
    refine ⟨⟨cur.toList.drop (n * 3), ?_⟩, by rw [hn]; exact hp, by omega, hg, hk⟩
    rw [hh, ← ht, List.take_append_drop, Array.toArray_toList]
theorem chunk21 (L : List Int) (m k p : Nat) (h : k + p ≤ L.length + m) : ((L ++ List.replicate m (255 : Int)).drop k).take p = (L.drop k).take p ++ List.replicate (p - ((L.drop k).take p).length) 255 := by
  rw [List.drop_append, List.take_append]
  congr 1
  rw [List.drop_replicate, List.take_replicate]
  congr 1
  simp
  omega
theorem sp21_rep0 (n : Nat) (L : List Int) : sp21 (List.replicate n (255 : Int)) 0 L = L ++ List.replicate (n - L.length) 255 := by unfold sp21; simp
theorem nw21_fb (p q : Nat) (ac : Int) (L0 L1 : List Int) (x y : Nat) (hx : x < 2) (hy : y < q) (h : (Ls21 L0 L1 (x : Int)).length ≤ p * q) (hp : 0 < p) :
    fb21 (nw21 p q ac L0 L1) (x : Int) (y : Int) = ((sp21 (List.replicate (p * q) (255 : Int)) 0 (Ls21 L0 L1 (x : Int))).drop (y * p)).take p ∧ (sh21 (nw21 p q ac L0 L1) (x : Int) (y : Int)).er = false ∧ (sh21 (nw21 p q ac L0 L1) (x : Int) (y : Int)).wr = 0 := by
  have hyp : y * p + p ≤ p * q := by
    have : (y + 1) * p ≤ q * p := Nat.mul_le_mul_right p hy
    rw [Nat.mul_comm p q, ← Nat.succ_mul]; exact this
  have hsh : sh21 (nw21 p q ac L0 L1) (x : Int) (y : Int) = ⟨((Ls21 L0 L1 (x : Int)).drop (y * p)).take p, false, 0⟩ := by
    unfold sh21 nw21 pj21
    simp only
    have c1 : ((x : Int) = 0 ∨ (x : Int) = 1) ∧ ((x : Int) < 2 ∨ (x : Int) = 2 ∧ (y : Int) < 0) := ⟨by omega, by omega⟩
    rw [if_pos c1]
    unfold ck21
    have e2 : ((y : Int)).toNat = y := by omega
    rw [e2]
    split
    · rfl
    · rename_i h2
      have h3 : (Ls21 L0 L1 (x : Int)).length ≤ y * p := by omega
      have h4 : ((Ls21 L0 L1 (x : Int)).drop (y * p)).take p = [] := by rw [List.drop_eq_nil_of_le h3]; simp
      rw [h4]
      have h5 : ((x : Int) == 2) = false := by simp; omega
      simp [h5]
  refine ⟨?_, by rw [hsh], by rw [hsh]⟩
  unfold fb21
  rw [hsh, sp21_rep0, chunk21 _ _ _ _ (by omega)]
  rfl
theorem nw21_rec (p q : Nat) (ac : Int) (L0 L1 : List Int) (y : Nat) : fb21 (nw21 p q ac L0 L1) 2 (y : Int) = List.replicate p 255 ∧ (sh21 (nw21 p q ac L0 L1) 2 (y : Int)).er = true ∧ (sh21 (nw21 p q ac L0 L1) 2 (y : Int)).wr = 0 := by
  have hsh : sh21 (nw21 p q ac L0 L1) 2 (y : Int) = ⟨[], true, 0⟩ := by
    unfold sh21 nw21 pj21
    simp
  unfold fb21
  rw [hsh]
  refine ⟨?_, rfl, rfl⟩
  show [] ++ List.replicate (p - 0) 255 = _
  simp
end Go.Proofs.YtjoghmdjnkdokaaDoor

namespace Go.Proofs.YtjoghmdjnkdokaaDoor
open Go.RowKit Go.Shelf
set_option linter.unusedVariables false
set_option linter.unusedSimpArgs false

/-! Regions walked by hand: two operations that may come up; an append by its run. -/
section
variable {P : Program} {ops : Array Oper} {Q : Exit → Act → World → Prop} {md : Region.Mode} {S : World → Prop} {fin : Nat}
theorem wpAnyK_two24 {i j : Nat} {fuel : Nat} {listed : Array Bool} {a : Act} {w : World} {o p : Oper} (hr : Region.ready md ops listed = [i, j]) (ho : ops[i]? = some o) (hp : ops[j]? = some p)
    (h : ∀ K' : Act → World → Prop, Shut (∀ a w, (i ≠ fin → S w) → ((i ≠ fin → S w) → wpAnyK P md ops Q S fin fuel (listed.setIfInBounds i true) a w) → K' a w) → if Region.wanted o (yielded ops a.tmps) = true then Oper.wp P o a w K' Q else K' (a.put o.dst undef) w)
    (h2 : ∀ K' : Act → World → Prop, Shut (∀ a w, (j ≠ fin → S w) → ((j ≠ fin → S w) → wpAnyK P md ops Q S fin fuel (listed.setIfInBounds j true) a w) → K' a w) → if Region.wanted p (yielded ops a.tmps) = true then Oper.wp P p a w K' Q else K' (a.put p.dst undef) w) :
    wpAnyK P md ops Q S fin (fuel + 1) listed a w :=
  ⟨fun h0 => (by rw [hr] at h0; cases h0), fun k hk => by
    rw [hr] at hk
    have : k = i ∨ k = j := by simpa using hk
    rcases this with rfl | rfl
    · exact wpOp_step ho (fun K' hK => h K' (fun a w hS hW => hK a w ⟨hS, hW hS⟩))
    · exact wpOp_step hp (fun K' hK => h2 K' (fun a w hS hW => hK a w ⟨hS, hW hS⟩))⟩
end
theorem operwp_app24 {P : Program} {o : Oper} {a : Act} {K : Act → World → Prop} {Q : Exit → Act → World → Prop} {w : World} (s x : Operand) (t : TypeId)
    (ho : o.op = Op.call { callee := Callee.builtin Builtin.append, args := #[s, x], argTypes := #[t, t] }) {u v v' : Value} {w' : World} (hs : a.eval s = u) (hx : a.eval x = v) (hr : (Builtin.append_ #[t, t] o.type #[u, v]).run P w = .ok v' w')
    (h : K (a.put o.dst v') w') : Oper.wp P o a w K Q := by
  unfold Oper.wp execOp
  simp only [ho, resolve, invoke, builtin, Sem.run_bind, Sem.run_pure, Result.andThen_ok, List.map_toArray, List.map_cons, List.map_nil, hs, hx, hr]
  exact h
end Go.Proofs.YtjoghmdjnkdokaaDoor

namespace Go.Proofs.YtjoghmdjnkdokaaDoor
open Go.RowKit Go.Shelf
set_option linter.unusedVariables false
set_option linter.unusedSimpArgs false

/-! The landed flash's Save: a page as bytes. -/
def svp21 (pg : Nat) (s : Sh21) : List Int := encI s.wr ++ (if s.er then [1] else 0 :: (s.b ++ List.replicate (pg - s.b.length) 255))
theorem svp21_len (pg : Nat) (s : Sh21) (h : s.b.length ≤ pg) : 1 ≤ (svp21 pg s).length ∧ (svp21 pg s).length ≤ 11 + pg := by
  have := encI_len s.wr
  unfold svp21
  rw [List.length_append]
  split
  · simp; omega
  · simp; omega
theorem svp21_bd (pg : Nat) (s : Sh21) (h : ∀ z ∈ s.b, 0 ≤ z ∧ z ≤ 255) (hw : 0 ≤ s.wr ∧ s.wr ≤ 1099511627776) : ∀ z ∈ svp21 pg s, 0 ≤ z ∧ z ≤ 255 := by
  intro z hz
  unfold svp21 at hz
  rcases List.mem_append.1 hz with hz | hz
  · exact encI_bd _ (by omega) (by omega) z hz
  · split at hz
    · simp at hz; omega
    · rcases List.mem_cons.1 hz with hz | hz
      · omega
      · rcases List.mem_append.1 hz with hz | hz
        · exact h z hz
        · rw [List.eq_of_mem_replicate hz]; decide
theorem la21_nil (pg : Nat) (L : List Int) (h : L.length ≤ pg) : la21 pg [] L = L ++ List.replicate (pg - L.length) 255 := by
  unfold la21
  rw [sp21_rep0]
  simp [sp21]
theorem one_seg21 (V : World) (x : Int) (h : 0 ≤ x ∧ x ≤ 255) : Seg (V.alloc (.cells #[.int .u8 x] 5)) (some ⟨V.heap.size, 0, none⟩) [x] := seg_lit V [x] 5 (0, 0) (by simpa using h)
/-- Bytes of a row of their own. -/
def Rb21 (w : World) (N : List Int) (e : Ending) (w' : World) : Prop := ∃ p c, e = .returned (.slice p N.length c) ∧ w'.ownsRow w.heap.size 5 1 (.slice p N.length c) N.length (N.map (Value.int .u8)) ∧ Below w.heap.size w w'
theorem seg64_one21 (V : World) (x : Int) (h : 0 ≤ x ∧ x ≤ 18446744073709551615) : Seg64 (V.alloc (.cells #[.int .u64 x] 99)) (some ⟨V.heap.size, 0, none⟩) [x] := by
  refine ⟨fun i hi => ⟨V.heap.size, 0, rfl, ?_⟩, by decide, getD_bd (by decide) (by simpa using h)⟩
  obtain rfl : i = 0 := by simpa using hi
  have hh := heap_alloc_new V (.cells #[.int .u64 x] 99)
  simp only [World.cell?, hh]
  rfl
theorem cel21 {V V' : World} (hb : Below V.heap.size V V') {p : Addr} {v : Value} (h : V.cell? p = some v) : V'.cell? p = some v :=
  (hb.cell (World.block_lt_of_cell? _ _ h)).trans h
theorem _root_.Go.Proofs.YtjoghmdjnkdokaaDoor.SegK.kp21 {V V' : World} {k : Nat} {L : List Int} (h : Seg V (some ⟨k, 0, none⟩) L) {Q : Nat → Prop} (hk : Kp Q V V') (hq : ¬ Q k) : Seg V' (some ⟨k, 0, none⟩) L := by
  refine h.of_cells fun b' off i v hi he hc => ?_
  cases he
  have lk := World.block_lt_of_cell? _ _ hc
  rw [World.cell?_of_block (a := ⟨k, 0 + i, none⟩) (hk.block k lk hq)]
  exact hc
/-- What holds while a page is saved: its box, its bytes, the device. -/
structure Sb21 (gb b pg n cap : Nat) (a : Option Addr) (L : List Int) (wr : Int) (V : World) : Prop where
  x0 : V.cell? ⟨gb, 0, none⟩ = some (.slice a n cap)
  x1 : V.cell? ⟨gb, 1, none⟩ = some (.bool false)
  x2 : V.cell? ⟨gb, 2, none⟩ = some (.int .i64 wr)
  c0 : V.cell? ⟨b, 0, none⟩ = some (.int .i64 (pg : Int))
  sg : Seg V a L
theorem Sb21.kp {gb b pg n cap : Nat} {a : Option Addr} {L : List Int} {wr : Int} {V V' : World} (h : Sb21 gb b pg n cap a L wr V) {Q : Nat → Prop} (hk : Kp Q V V') (hg : ¬ Q gb) (hb : ¬ Q b) (ha : ∀ k off s, a = some ⟨k, off, s⟩ → 0 < L.length → ¬ Q k) : Sb21 gb b pg n cap a L wr V' := by
  have lg := World.block_lt_of_cell? _ _ h.x0
  have lb := World.block_lt_of_cell? _ _ h.c0
  refine ⟨?_, ?_, ?_, ?_, ?_⟩
  · rw [World.cell?_of_block (a := ⟨gb, 0, none⟩) (hk.block gb lg hg)]; exact h.x0
  · rw [World.cell?_of_block (a := ⟨gb, 1, none⟩) (hk.block gb lg hg)]; exact h.x1
  · rw [World.cell?_of_block (a := ⟨gb, 2, none⟩) (hk.block gb lg hg)]; exact h.x2
  · rw [World.cell?_of_block (a := ⟨b, 0, none⟩) (hk.block b lb hb)]; exact h.c0
  · refine h.sg.of_cells fun k off i v hi he hc => ?_
    have lk := World.block_lt_of_cell? _ _ hc
    rw [World.cell?_of_block (a := ⟨k, off + i, none⟩) (hk.block k lk (ha k off none he (by omega)))]
    exact hc
theorem Sb21.three {gb b pg n cap : Nat} {a : Option Addr} {L : List Int} {wr : Int} {V : World} (h : Sb21 gb b pg n cap a L wr V) : V.cell? ⟨gb, 0, none⟩ = some (.slice a n cap) ∧ V.cell? ⟨gb, 1, none⟩ = some (.bool false) ∧ V.cell? ⟨gb, 2, none⟩ = some (.int .i64 wr) := ⟨h.x0, h.x1, h.x2⟩
theorem Sb21.old {gb b pg n cap : Nat} {a : Option Addr} {L : List Int} {wr : Int} {V V' : World} (h : Sb21 gb b pg n cap a L wr V) (hb : Below V.heap.size V V') : Sb21 gb b pg n cap a L wr V' :=
  ⟨cel21 hb h.x0, cel21 hb h.x1, cel21 hb h.x2, cel21 hb h.c0, h.sg.old hb⟩
set_option maxRecDepth 100000 in
set_option maxHeartbeats 8000000 in
theorem psaved21 (b pg : Nat) (w : World) (c0 : w.cell? ⟨b, 0, none⟩ = some (.int .i64 (pg : Int))) (hpg : pg ≤ 4096) (hp0 : 0 < pg) (a : Option Addr) (n cap : Nat) (s : Sh21) (sg : Seg w a s.b) (hn : Hid (s.b.length = n)) (ln : n ≤ pg) (hw : 0 ≤ s.wr ∧ s.wr ≤ 1099511627776) :
    Calls Tryd.prog 53 #[.pointer (some ⟨b, 0, none⟩), .agg #[.slice a n cap, .bool s.er, .int .i64 s.wr]] w fun e w' => Rb21 w (svp21 pg s) e w' := by
  obtain ⟨sb, er, wr⟩ := s
  simp only at sg hn hw ⊢
  have lb := World.block_lt_of_cell? _ _ c0
  obtain ⟨w1, hw1⟩ : ∃ w1, w1 = w.alloc (.cells #[.slice a n cap, .bool er, .int .i64 wr] 67) := ⟨_, rfl⟩
  have HW1 : Hid (w.alloc (.cells #[.slice a n cap, .bool er, .int .i64 wr] 67) = w1) := hw1.symm
  have b1 : Below w.heap.size w w1 := by rw [hw1]; exact (Below.refl _ _).alloc (Nat.le_refl _) _
  obtain ⟨gb, hgb⟩ : ∃ g, g = w.heap.size := ⟨_, rfl⟩
  have HGB : Hid (w.heap.size = gb) := hgb.symm
  have q1 : w1.heap[gb]? = some (.cells #[.slice a n cap, .bool er, .int .i64 wr] 67 (0, 0)) := by rw [hw1, hgb]; exact heap_alloc_new _ _
  have x0 := three_cell0 q1
  have x1 := three_cell1 q1
  have x2 := three_cell2 q1
  have d0 : w1.cell? ⟨b, 0, none⟩ = some (.int .i64 (pg : Int)) := cel21 b1 c0
  have s1 := sg.old b1
  have hwr : IntKind.u64.wrap wr = wr := IntWalk.u64_in _ (by omega)
  obtain ⟨w2, hw2⟩ : ∃ w2, w2 = w1.alloc (.cells #[.int .u64 wr] 99) := ⟨_, rfl⟩
  have HW2 : Hid (w1.alloc (.cells #[.int .u64 wr] 99) = w2) := hw2.symm
  obtain ⟨g2, hg2⟩ : ∃ g, g = w1.heap.size := ⟨_, rfl⟩
  have HG2 : Hid (w1.heap.size = g2) := hg2.symm
  have b2 : Below w1.heap.size w1 w2 := by rw [hw2]; exact (Below.refl _ _).alloc (Nat.le_refl _) _
  have s64 := seg64_one21 w1 wr ⟨by omega, by omega⟩
  rw [← hw2, ← hg2] at s64
  have HE := encode_any (some ⟨g2, 0, none⟩) [wr] 1 w2 s64 (by simp)
  have eE : encA [wr] = encI wr := encA_one _
  rw [eE] at HE
  obtain ⟨E, hE⟩ : ∃ E, E = encI wr := ⟨_, rfl⟩
  have lE := encI_len wr
  rw [← hE] at HE lE
  have HN : Hid (svp21 pg ⟨sb, er, wr⟩ = E ++ (if er then [1] else 0 :: (sb ++ List.replicate (pg - sb.length) 255))) := by rw [hE]; rfl
  have HB2 : Hid (Below w.heap.size w w2) := b1.trans (b2.mono b1.size)
  have HSS : Hid (∀ V, er = false → Below w2.heap.size w2 V → Sb21 gb b pg n cap a sb wr V) := fun V he hV => by
    have hx := b2.trans (hV.mono b2.size)
    exact ⟨cel21 hx x0, by rw [← he]; exact cel21 hx x1, cel21 hx x2, cel21 hx d0, s1.old hx⟩
  have HX : Hid (∀ V, Below w2.heap.size w2 V → V.cell? ⟨gb, 1, none⟩ = some (.bool er)) := fun V hV => cel21 (b2.trans (hV.mono b2.size)) x1
  rw [HN.out]
  have hmb := s1.mem
  have S0 : Seg w2 a sb := s1.old b2
  clear hw1 hw2 hgb hg2 s1 s64 b1 b2 c0 d0 q1 sg hE eE HN
  have HGL : Hid (gb < w2.heap.size ∧ b < w2.heap.size ∧ ∀ k off sp, a = some ⟨k, off, sp⟩ → 0 < sb.length → k < w2.heap.size) := by
    refine ⟨?_, ?_, ?_⟩
    · have := HB2.out.size; have e1 := HGB.out; have := World.block_lt_of_cell? _ _ (HX.out w2 (Below.refl _ _)); simpa using this
    · have q1 := HB2.out.size; exact Nat.lt_of_lt_of_le lb q1
    · intro k off sp he hL
      obtain ⟨k', off', he', hc⟩ := S0.at_ 0 hL
      rw [he] at he'
      injection he' with he'
      injection he' with h1 _ _
      subst h1
      exact World.block_lt_of_cell? _ _ hc
  clear S0
  cases er
  · rw [if_neg (by simp)]
    obtain ⟨F, hF⟩ : ∃ F, F = la21 pg [] sb := ⟨_, rfl⟩
    have hFl : F.length = pg := by rw [hF]; exact la21_len pg [] sb (by simp) (by rw [hn.out]; exact ln)
    have HFE : Hid (0 :: (sb ++ List.replicate (pg - sb.length) 255) = 0 :: F) := by rw [hF, la21_nil pg sb (by rw [hn.out]; exact ln)]; rfl
    have hFb : ∀ z ∈ F, 0 ≤ z ∧ z ≤ 255 := by rw [hF]; exact la21_bd pg [] sb (by simp) hmb
    have HCL : Hid (∀ V : World, Sb21 gb b pg n cap a sb wr V → Calls Tryd.prog 74 #[.pointer (some ⟨b, 0, none⟩), .slice none 0 0, .agg #[.slice a n cap, .bool false, .int .i64 wr]] V fun e w' => ∃ g, e = .returned (.slice (some ⟨g, 0, none⟩) pg pg) ∧ V.heap.size ≤ g ∧ Seg w' (some ⟨g, 0, none⟩) F ∧ g < w'.heap.size ∧ Below V.heap.size V w') := fun V hV =>
      (plaid21 b pg V hV.c0 hpg none a [] sb 0 cap 0 n false wr (SegK.nil (by decide) _ _) hV.sg rfl hn (by omega) ln).mono fun e w' hh => by
        obtain ⟨⟨g, e1, e2, X, e3⟩, e4⟩ := hh
        refine ⟨g, e1, e2, ?_, (Array.getElem?_eq_some_iff.1 e3).1, e4⟩
        rw [← hF] at e3
        have e5 : F.map (Value.int .u8) ++ X.map (Value.int .u8) = (F ++ X).map (Value.int .u8) := by simp
        refine ⟨fun i hi => ⟨g, 0, rfl, ?_⟩, by decide, getD_bd (by decide) hFb⟩
        simp only [World.cell?, e3, Nat.zero_add]
        rw [List.getElem?_toArray, List.getElem?_map, List.getElem?_append_left hi]
        simp [List.getD, hi]
    rw [HFE.out]
    obtain ⟨E0, hE0⟩ : ∃ L, L = E ++ [0] := ⟨_, rfl⟩
    obtain ⟨EF, hEF⟩ : ∃ L, L = E ++ 0 :: F := ⟨_, rfl⟩
    rw [← hEF]
    have HE0 : Hid (E0 = E ++ [0] ∧ E0.length = E.length + 1) := ⟨hE0, by rw [hE0]; simp⟩
    have HEF : Hid (EF = E0 ++ F) := by show _ = _; rw [hEF, hE0]; simp
    clear hE0 hEF
    go_enter Tryd.func53, Tryd.ntmps53
    go_upto_region 1 with fail
    rw [HW1.out, HGB.out]
    go_wp2_with fail
    rw [HW2.out, HG2.out]
    refine HE.mono ?_
    rintro e3 w3 ⟨v3, rfl, o3, b3⟩
    obtain ⟨p3, c3, rfl⟩ := own_sl21 o3
    have y1 := HX.out w3 b3
    obtain ⟨v0, hv0⟩ : ∃ v, v = w3.drew := ⟨_, rfl⟩
    have HV0 : Hid (w3.drew = v0) := hv0.symm
    have bv0 : Below w2.heap.size w2 v0 := by rw [hv0]; exact b3.trans ((Below.refl _ _).drew.mono b3.size)
    have O0 : Hid (v0.ownsRow w2.heap.size 5 1 (.slice p3 E.length c3) E.length (E.map (Value.int .u8))) := by rw [hv0]; exact o3.drew
    have HB0 : Hid (Below w2.heap.size w2 v0) := bv0
    have H0 : Hid (Sb21 gb b pg n cap a sb wr v0) := HSS.out v0 trivial bv0
    have HLN : Hid (F.length = pg ∧ pg ≤ 4096 ∧ E.length ≤ 10 ∧ 0 < pg) := ⟨hFl, hpg, lE.2, hp0⟩
    clear hF hFb hFl HFE o3 bv0 hv0 lE x0 x1 x2 HE HX HSS hn
    go_wp2_with fail
    clear y1
    refine plain_region16 (fun V => V.cell? ⟨gb, 0, none⟩ = some (.slice a n cap) ∧ V.cell? ⟨gb, 1, none⟩ = some (.bool false) ∧ V.cell? ⟨gb, 2, none⟩ = some (.int .i64 wr)) 8 (by kernel_rfl) (by rw [HV0.out]; exact H0.out.three) (fun hHeld => ?_)
    rw [HV0.out] at hHeld ⊢
    refine wpAnyK_take (i := 0) (v := .slice p3 E.length c3) rfl (by kernel_rfl) (by kernel_rfl) (by kernel_rfl) (by kernel_rfl) (fun _ _ _ h => h) (Or.inl ⟨by rfl, fun w hSw => by go_simp⟩) hHeld ?_
    simp only [List.getElem_toArray, List.getElem_cons_zero, Act.put, List.setIfInBounds_toArray, List.set_cons_zero, List.set_cons_succ]
    refine wpAnyK_take (i := 3) (v := .pointer (some ⟨b, 0, none⟩)) rfl (by kernel_rfl) (by kernel_rfl) (by kernel_rfl) (by kernel_rfl) (fun _ _ _ h => h) (Or.inl ⟨by rfl, fun w hSw => by go_simp⟩) hHeld ?_
    simp only [List.getElem_toArray, List.getElem_cons_zero, List.getElem_cons_succ, Act.put, List.setIfInBounds_toArray, List.set_cons_zero, List.set_cons_succ]
    refine wpAnyK_take (i := 4) (v := .agg #[.slice a n cap, .bool false, .int .i64 wr]) rfl (by kernel_rfl) (by kernel_rfl) (by kernel_rfl) (by kernel_rfl) (fun _ _ _ h => h) (Or.inl ⟨by rfl, fun w hSw => by go_simp⟩) hHeld ?_
    simp only [List.getElem_toArray, List.getElem_cons_zero, List.getElem_cons_succ, Act.put, List.setIfInBounds_toArray, List.set_cons_zero, List.set_cons_succ]
    refine wpAnyK_one (i := 1) (by kernel_rfl) rfl (fun K hK => ?_)
    (try simp only [List.getElem_toArray, List.getElem_cons_zero, List.getElem_cons_succ, Act.put, List.setIfInBounds_toArray, List.set_cons_zero, List.set_cons_succ])
    go_simp
    obtain ⟨v1, hv1⟩ : ∃ v, v = v0.alloc (.cells #[.int .u8 0] 5) := ⟨_, rfl⟩
    obtain ⟨k1, hk1⟩ : ∃ k, k = v0.heap.size := ⟨_, rfl⟩
    have Bv1 : Hid (Below v0.heap.size v0 v1) := by rw [hv1]; exact (Below.refl _ _).alloc (Nat.le_refl _) _
    have Zv1 : Hid (Seg v1 (some ⟨k1, 0, none⟩) [0] ∧ k1 < v1.heap.size ∧ k1 = v0.heap.size) := by rw [hk1, hv1]; exact ⟨one_seg21 v0 0 (by decide), by simp, rfl⟩
    have hSv1 : Sb21 gb b pg n cap a sb wr v1 := H0.out.old Bv1.out
    have Hv1 : Hid (Sb21 gb b pg n cap a sb wr v1) := hSv1
    rw [← hv1, ← hk1]
    clear hv1 hk1 hHeld
    refine hK.out _ _ (fun _ => Hv1.out.three) (fun hHeld0 => ?_)
    have hHeld := hHeld0 (by decide)
    clear hHeld0 hK K
    (try simp only [List.getElem_toArray, List.getElem_cons_zero, List.getElem_cons_succ, Act.put, List.setIfInBounds_toArray, List.set_cons_zero, List.set_cons_succ])
    refine wpAnyK_one (i := 2) (by kernel_rfl) rfl (fun K hK => ?_)
    (try simp only [List.getElem_toArray, List.getElem_cons_zero, List.getElem_cons_succ, Act.put, List.setIfInBounds_toArray, List.set_cons_zero, List.set_cons_succ])
    rw [if_pos (by rfl)]
    obtain ⟨gv2, cv2, v2, hrv2, ov2, bv2, kv2⟩ := app21 v1 (m := 1) (N := E0) (c2 := 1) HE0.out.1 (own_below21 O0.out Bv1.out) (Zv1.out.1) rfl (by decide) (by have := HLN.out; omega) (Nat.le_trans HB0.out.size Bv1.out.size)
    refine operwp_app24 _ _ _ rfl rfl rfl hrv2 ?_
    have Ov2 : Hid (v2.ownsRow w2.heap.size 5 1 (.slice (some ⟨gv2, 0, none⟩) E0.length cv2) E0.length (E0.map (Value.int .u8)) ∧ Below w2.heap.size v1 v2 ∧ Kp (fun k => (Value.slice p3 E.length c3).ownBlock = some k) v1 v2) := ⟨ov2, bv2, kv2⟩
    have hSv2 : Sb21 gb b pg n cap a sb wr v2 := Hv1.out.kp kv2 (fun q => by have := (O0.out.lt _ q).1; have := HGL.out.1; omega) (fun q => by have := (O0.out.lt _ q).1; have := HGL.out.2.1; omega) (fun k off s q1 q2 q => by have := (O0.out.lt _ q).1; have := HGL.out.2.2 k off s q1 q2; omega)
    have Hv2 : Hid (Sb21 gb b pg n cap a sb wr v2) := hSv2
    clear hrv2 ov2 bv2 kv2 hHeld
    refine hK.out _ _ (fun _ => Hv2.out.three) (fun hHeld0 => ?_)
    have hHeld := hHeld0 (by decide)
    clear hHeld0 hK K
    simp only [Act.put, List.setIfInBounds_toArray, List.set_cons_zero, List.set_cons_succ]
    refine wpAnyK_one (i := 5) (by kernel_rfl) rfl (fun K hK => ?_)
    (try simp only [List.getElem_toArray, List.getElem_cons_zero, List.getElem_cons_succ, Act.put, List.setIfInBounds_toArray, List.set_cons_zero, List.set_cons_succ])
    go_simp
    refine (HCL.out v2 Hv2.out).mono ?_
    rintro ev3 v3 ⟨gl3, rfl, z1, z2, z3, z4⟩
    have Bv3 : Hid (Below v2.heap.size v2 v3) := z4
    have Zv3 : Hid (Seg v3 (some ⟨gl3, 0, none⟩) F ∧ gl3 < v3.heap.size ∧ v2.heap.size ≤ gl3) := ⟨z2, z3, z1⟩
    have hSv3 : Sb21 gb b pg n cap a sb wr v3 := Hv2.out.old z4
    have Hv3 : Hid (Sb21 gb b pg n cap a sb wr v3) := hSv3
    clear z1 z2 z3 z4 hHeld
    refine hK.out _ _ (fun _ => Hv3.out.three) (fun hHeld0 => ?_)
    have hHeld := hHeld0 (by decide)
    clear hHeld0 hK K
    (try simp only [List.getElem_toArray, List.getElem_cons_zero, List.getElem_cons_succ, Act.put, List.setIfInBounds_toArray, List.set_cons_zero, List.set_cons_succ])
    refine wpAnyK_one (i := 6) (by kernel_rfl) rfl (fun K hK => ?_)
    (try simp only [List.getElem_toArray, List.getElem_cons_zero, List.getElem_cons_succ, Act.put, List.setIfInBounds_toArray, List.set_cons_zero, List.set_cons_succ])
    rw [if_pos (by rfl)]
    have oX := (Ov2.out.1.lt _ rfl).1
    obtain ⟨gv4, cv4, v4, hrv4, ov4, bv4, kv4⟩ := app21 v3 (m := pg) (N := EF) (c2 := pg) (L := E0) HEF.out (own_below21 Ov2.out.1 Bv3.out) (Zv3.out.1) HLN.out.1 HLN.out.2.2.2 (by have := HLN.out; have := HE0.out.2; omega) (Nat.le_trans (Nat.le_trans (Nat.le_trans HB0.out.size Bv1.out.size) Ov2.out.2.1.size) Bv3.out.size)
    refine operwp_app24 _ _ _ rfl rfl rfl hrv4 ?_
    have HF : Hid (Rb21 w EF (.returned (.slice (some ⟨gv4, 0, none⟩) EF.length cv4)) v4) := by
      have bb : Below w2.heap.size w2 v4 := (((HB0.out.trans (Bv1.out.mono HB0.out.size)).trans Ov2.out.2.1).trans (Bv3.out.mono (Nat.le_trans (Nat.le_trans HB0.out.size Bv1.out.size) Ov2.out.2.1.size))).trans bv4
      exact ⟨some ⟨gv4, 0, none⟩, cv4, rfl, own_base21 ov4 HB2.out.size, HB2.out.trans (bb.mono HB2.out.size)⟩
    have hSv4 : Sb21 gb b pg n cap a sb wr v4 := Hv3.out.kp kv4 (fun q => by cases q; have := HGL.out.1; omega) (fun q => by cases q; have := HGL.out.2.1; omega) (fun k off s q1 q2 q => by cases q; have := HGL.out.2.2 _ off s q1 q2; omega)
    clear hrv4 ov4 bv4 kv4 hHeld
    refine hK.out _ _ (fun _ => hSv4.three) (fun hHeld0 => ?_)
    have hHeld := hHeld0 (by decide)
    clear hHeld0 hK K
    simp only [Act.put, List.setIfInBounds_toArray, List.set_cons_zero, List.set_cons_succ]
    refine wpAnyK_one (i := 7) (by kernel_rfl) rfl (fun K hK => ?_)
    (try simp only [List.getElem_toArray, List.getElem_cons_zero, List.getElem_cons_succ, Act.put, List.setIfInBounds_toArray, List.set_cons_zero, List.set_cons_succ])
    go_simp
    refine hK.out _ _ (fun _ => hHeld) (fun _ => ?_)
    clear hK K
    refine wpAnyK_done (by kernel_rfl) ?_ _
    go_wp2_with fail
    go_ret
    exact HF.out
  · rw [if_pos rfl]
    go_enter Tryd.func53, Tryd.ntmps53
    go_upto_region 1 with fail
    rw [HW1.out, HGB.out]
    go_wp2_with fail
    rw [HW2.out, HG2.out]
    refine HE.mono ?_
    rintro e3 w3 ⟨v3, rfl, o3, b3⟩
    obtain ⟨p3, c3, rfl⟩ := own_sl21 o3
    have y1 := HX.out w3 b3
    have s4 := one_seg21 w3 1 (by decide)
    obtain ⟨w4, hw4⟩ : ∃ w4, w4 = w3.alloc (.cells #[.int .u8 1] 5) := ⟨_, rfl⟩
    have HW4 : Hid (w3.alloc (.cells #[.int .u8 1] 5) = w4) := hw4.symm
    rw [← hw4] at s4
    have b4 : Below w3.heap.size w3 w4 := by rw [hw4]; exact (Below.refl _ _).alloc (Nat.le_refl _) _
    obtain ⟨g4, hg4⟩ : ∃ g, g = w3.heap.size := ⟨_, rfl⟩
    have HG4 : Hid (w3.heap.size = g4) := hg4.symm
    rw [← hg4] at s4
    obtain ⟨E1, hE1⟩ : ∃ L, L = E ++ [1] := ⟨_, rfl⟩
    obtain ⟨g, rc, w5, hr, o5, b5, -⟩ := app21 w4 (m := 1) (N := E1) (c2 := 1) hE1 (own_below21 o3 b4) s4 rfl (by decide) (by omega) (Nat.le_trans b3.size b4.size)
    have HF : Hid (Rb21 w E1 (.returned (.slice (some ⟨g, 0, none⟩) E1.length rc)) w5) := by
      have bb : Below w2.heap.size w2 w5 := (b3.trans (b4.mono b3.size)).trans b5
      exact ⟨some ⟨g, 0, none⟩, rc, rfl, own_base21 o5 HB2.out.size, HB2.out.trans (bb.mono HB2.out.size)⟩
    have HE1 : Hid (E1 = E ++ [1]) := hE1
    rw [hw4, hg4] at hr
    clear hE1 x0 x1 x2 hw4 hg4 s4 b4 o5 b5 o3 HE
    go_wp2_with (first | (at_builtin; refine wpList_app21 rfl (.tmp 13) (.tmp 14) 22 rfl rfl rfl hr ?_))
    go_ret
    rw [← HE1.out]
    exact HF.out
end Go.Proofs.YtjoghmdjnkdokaaDoor
