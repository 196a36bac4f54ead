
import Derived.Test.YtjoghmdjnkdokaaDoorRfD
namespace Go.Proofs.YtjoghmdjnkdokaaDoor
open Go.RowKit Go.Shelf
set_option linter.unusedVariables false
set_option linter.unusedSimpArgs false

/-! The document's flash: what New lays, step by step. -/
theorem step_apr21 {P : Program} {ops : Array Oper} {o : Oper} {a : Act} {w : World} {K : Act → World → Prop} {Q : Exit → Act → World → Prop} {E : Prop} (hgd : o.guard = none) (s x : Operand) (t : TypeId)
    (ho : o.op = Op.call { callee := Callee.builtin Builtin.append, args := #[s, x], argTypes := #[t, t] }) {u v v' : Value} {w' : World} (hs : a.eval s = u) (hx : a.eval x = v) (hr : (Builtin.append_ #[t, t] o.type #[u, v]).run P w = .ok v' w')
    (h : K (a.put o.dst v') w') : if Region.wanted o (yielded ops a.tmps) = true then Oper.wp P o a w K Q else E := by
  have hw : Region.wanted o (yielded ops a.tmps) = true := by simp [Region.wanted, hgd]
  rw [if_pos hw]
  exact operwp_app21 s x t ho hs hx hr h
theorem info_pg21 : (Tryd.prog.info? 72).map (fun i => (i.zero, i.size, i.bytes)) = some (some (.agg #[.slice none 0 0, .bool false, .int .i64 0]), 3, 40) := by kernel_rfl
theorem run_pg21 (N : Nat) (w0 : World) (hN : N ≤ w0.heap.size) (ra : Option Addr) (n rc : Nat) (L : List Pd21) (hn : L.length = n) (d : Pd21) (len : Nat) (hlen : d.b.length = len) (hl : w0.ownsRow N 72 3 (.slice ra n rc) n (pdl21 L)) (hb : n ≤ 1099511627776) (ty : TypeId) :
    ∃ g cap w', (Builtin.append_ #[42, 42] ty #[.slice ra n rc, .slice (some ⟨w0.heap.size, 0, none⟩) 1 1]).run Tryd.prog (w0.alloc (.cells #[.slice (some ⟨d.k, d.off, none⟩) len d.c, .bool d.er, .int .i64 d.wr] 72)) = .ok (.slice (some ⟨g, 0, none⟩) (n + 1) cap) w' ∧
      w'.ownsRow N 72 3 (.slice (some ⟨g, 0, none⟩) (n + 1) cap) (n + 1) (pdl21 (L ++ [d])) ∧ Kp (fun j => (Value.slice ra n rc).ownBlock = some j) w0 w' ∧ ((Value.slice ra n rc).ownBlock = some g ∨ w0.heap.size ≤ g) := by
  subst hlen
  obtain ⟨i0, hi, hz0, hz1, hz2⟩ := info_parts info_pg21
  have hnew : ∀ j u, (pdc21 d)[j]? = some u → (w0.alloc (.cells #[.slice (some ⟨d.k, d.off, none⟩) d.b.length d.c, .bool d.er, .int .i64 d.wr] 72)).cell? ((⟨w0.heap.size, 0, none⟩ : Addr).add j) = some u := by
    intro j u hu
    have hadd : (⟨w0.heap.size, 0, none⟩ : Addr).add j = ⟨w0.heap.size, j, none⟩ := by unfold Addr.add; split <;> simp_all
    rw [hadd]
    have hh := heap_alloc_new w0 (.cells #[.slice (some ⟨d.k, d.off, none⟩) d.b.length d.c, .bool d.er, .int .i64 d.wr] 72)
    simp only [World.cell?, hh]
    simpa [pdc21] using hu
  obtain ⟨g, cap, w', h1, h2, h3, h4, h5⟩ := run_append_lies (P := Tryd.prog) (w := w0.alloc (.cells #[.slice (some ⟨d.k, d.off, none⟩) d.b.length d.c, .bool d.er, .int .i64 d.wr] 72)) 42 ty N 72 i0 _ 3 40 Tryd.underlying42 hi hz0 hz1 hz2 rfl (by decide) _ n _ (hl.alloc _) ⟨w0.heap.size, 0, none⟩ 1 1 (pdc21 d) rfl hnew (by intro u hu; simp only [pdc21, List.mem_cons, List.not_mem_nil, or_false] at hu; rcases hu with rfl | rfl | rfl <;> rfl) (by decide) (by unfold maxLen; omega) (by omega) (by simp; omega) (w0.heap.size + 1) (by simp)
  refine ⟨g, cap, w', h1, by rw [pdl21_app]; exact h2, (Kp.alloc w0 _).trans (Kp.grown (S := fun j => (Value.slice ra n rc).ownBlock = some j) h3 (fun i e => e)) (fun _ _ e => e), ?_⟩
  rcases h4 with h4 | h4
  · exact .inl h4
  · exact .inr (by omega)
def V21 (N : Nat) (W : World) (k : Nat) : Prop := N ≤ k ∧ ∃ cur : Array Value, W.heap[k]? = some (Obj.cells cur 5 (0, 0))
def KB21 (W W' : World) : Prop := ∀ (k : Nat) (cur : Array Value), W.heap[k]? = some (Obj.cells cur 5 (0, 0)) → W'.heap[k]? = W.heap[k]?
theorem V21.kb {N : Nat} {W W' : World} {k : Nat} (h : V21 N W k) (hk : KB21 W W') : V21 N W' k := by
  obtain ⟨h1, cur, h2⟩ := h
  exact ⟨h1, cur, (hk k cur h2).trans h2⟩
def Pk21 (N : Nat) (W : World) (S : Fs21) (x y : Nat) (d : Pd21) : Prop := Seg W (some ⟨d.k, d.off, none⟩) d.b ∧ V21 N W d.k ∧ d.b = fb21 S (x : Int) (y : Int) ∧ d.er = (sh21 S (x : Int) (y : Int)).er ∧ d.wr = (sh21 S (x : Int) (y : Int)).wr ∧ d.b.length ≤ d.c
theorem Pk21.kb {N : Nat} {W W' : World} {S : Fs21} {x y : Nat} {d : Pd21} (h : Pk21 N W S x y d) (hk : KB21 W W') : Pk21 N W' S x y d := by
  obtain ⟨h1, h2, h3⟩ := h
  refine ⟨h1.of_cells fun b' off' i v hi ha hc => ?_, h2.kb hk, h3⟩
  cases ha
  obtain ⟨_, cur, hcur⟩ := h2
  rw [World.cell?_of_block (a := ⟨d.k, d.off + i, none⟩) (hk d.k cur hcur)]
  exact hc
def Ac21 (N : Nat) (W : World) (S : Fs21) (x gx cx : Nat) (L : List Pd21) : Prop := (∃ X : List Value, W.heap[gx]? = some (.cells (pdl21 L ++ X).toArray 72 (0, 0))) ∧ (L.length : Int) = pn21 S.ps (x : Int) ∧ L.length ≤ cx ∧ N ≤ gx ∧ ∀ y d, L[y]? = some d → Pk21 N W S x y d
theorem Ac21.kb {N : Nat} {W W' : World} {S : Fs21} {x gx cx : Nat} {L : List Pd21} (h : Ac21 N W S x gx cx L) (hk : KB21 W W') (hg : W'.heap[gx]? = W.heap[gx]?) : Ac21 N W' S x gx cx L := by
  obtain ⟨⟨X, h1⟩, h2, h3, h4, h5⟩ := h
  exact ⟨⟨X, hg.trans h1⟩, h2, h3, h4, fun y d e => (h5 y d e).kb hk⟩
/-- A row that is done, as a block. -/
theorem ac21_own {N : Nat} {W : World} {S : Fs21} {x gx cx n : Nat} {L : List Pd21} (h : W.ownsRow N 72 3 (.slice (some ⟨gx, 0, none⟩) n cx) n (pdl21 L)) (hn : L.length = n) (hp : (n : Int) = pn21 S.ps (x : Int)) (hk : ∀ y d, L[y]? = some d → Pk21 N W S x y d) : Ac21 N W S x gx cx L := by
  rcases h.2 with ⟨e, _⟩ | ⟨g, cap, cur, hv, hg, hh, hle, hm, hs, ht⟩
  · cases e
  · simp only [Value.slice.injEq, Option.some.injEq, Addr.mk.injEq] at hv
    obtain ⟨⟨rfl, -⟩, -, rfl⟩ := hv
    refine ⟨⟨cur.toList.drop (n * 3), ?_⟩, by rw [hn]; exact hp, by omega, hg, hk⟩
    rw [hh, ← ht, List.take_append_drop, Array.toArray_toList]
theorem chunk21 (L : List Int) (m k p : Nat) (h : k + p ≤ L.length + m) : ((L ++ List.replicate m (255 : Int)).drop k).take p = (L.drop k).take p ++ List.replicate (p - ((L.drop k).take p).length) 255 := by
  rw [List.drop_append, List.take_append]
  congr 1
  rw [List.drop_replicate, List.take_replicate]
  congr 1
  simp
  omega
theorem sp21_rep0 (n : Nat) (L : List Int) : sp21 (List.replicate n (255 : Int)) 0 L = L ++ List.replicate (n - L.length) 255 := by unfold sp21; simp
theorem nw21_fb (p q : Nat) (ac : Int) (L0 L1 : List Int) (x y : Nat) (hx : x < 2) (hy : y < q) (h : (Ls21 L0 L1 (x : Int)).length ≤ p * q) (hp : 0 < p) :
    fb21 (nw21 p q ac L0 L1) (x : Int) (y : Int) = ((sp21 (List.replicate (p * q) (255 : Int)) 0 (Ls21 L0 L1 (x : Int))).drop (y * p)).take p ∧ (sh21 (nw21 p q ac L0 L1) (x : Int) (y : Int)).er = false ∧ (sh21 (nw21 p q ac L0 L1) (x : Int) (y : Int)).wr = 0 := by
  have hyp : y * p + p ≤ p * q := by
    have : (y + 1) * p ≤ q * p := Nat.mul_le_mul_right p hy
    rw [Nat.mul_comm p q, ← Nat.succ_mul]; exact this
  have hsh : sh21 (nw21 p q ac L0 L1) (x : Int) (y : Int) = ⟨((Ls21 L0 L1 (x : Int)).drop (y * p)).take p, false, 0⟩ := by
    unfold sh21 nw21 pj21
    simp only
    have c1 : ((x : Int) = 0 ∨ (x : Int) = 1) ∧ ((x : Int) < 2 ∨ (x : Int) = 2 ∧ (y : Int) < 0) := ⟨by omega, by omega⟩
    rw [if_pos c1]
    unfold ck21
    have e2 : ((y : Int)).toNat = y := by omega
    rw [e2]
    split
    · rfl
    · rename_i h2
      have h3 : (Ls21 L0 L1 (x : Int)).length ≤ y * p := by omega
      have h4 : ((Ls21 L0 L1 (x : Int)).drop (y * p)).take p = [] := by rw [List.drop_eq_nil_of_le h3]; simp
      rw [h4]
      have h5 : ((x : Int) == 2) = false := by simp; omega
      simp [h5]
  refine ⟨?_, by rw [hsh], by rw [hsh]⟩
  unfold fb21
  rw [hsh, sp21_rep0, chunk21 _ _ _ _ (by omega)]
  rfl
theorem nw21_rec (p q : Nat) (ac : Int) (L0 L1 : List Int) (y : Nat) : fb21 (nw21 p q ac L0 L1) 2 (y : Int) = List.replicate p 255 ∧ (sh21 (nw21 p q ac L0 L1) 2 (y : Int)).er = true ∧ (sh21 (nw21 p q ac L0 L1) 2 (y : Int)).wr = 0 := by
  have hsh : sh21 (nw21 p q ac L0 L1) 2 (y : Int) = ⟨[], true, 0⟩ := by
    unfold sh21 nw21 pj21
    simp
  unfold fb21
  rw [hsh]
  refine ⟨?_, rfl, rfl⟩
  show [] ++ List.replicate (p - 0) 255 = _
  simp
end Go.Proofs.YtjoghmdjnkdokaaDoor
