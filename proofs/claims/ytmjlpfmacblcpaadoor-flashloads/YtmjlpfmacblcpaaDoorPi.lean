import Derived.Test.YtmjlpfmacblcpaaDoorPh
import Derived.Test.YtmjlpfmacblcpaaDoorPa
namespace Go.Proofs.YtmjlpfmacblcpaaDoor
open Go.RowKit Go.Shelf
set_option linter.unusedVariables false
set_option linter.unusedSimpArgs false
theorem step_apr21 {P : Program} {ops : Array Oper} {o : Oper} {a : Act} {w : World} {K : Act → World → Prop} {Q : Exit → Act → World → Prop} {E : Prop} (hgd : o.guard = none) (s x : Operand) (t : TypeId)
    (ho : o.op = Op.call { callee := Callee.builtin Builtin.append, args := #[s, x], argTypes := #[t, t] }) {u v v' : Value} {w' : World} (hs : a.eval s = u) (hx : a.eval x = v) (hr : (Builtin.append_ #[t, t] o.type #[u, v]).run P w = .ok v' w')
    (h : K (a.put o.dst v') w') : if Region.wanted o (yielded ops a.tmps) = true then Oper.wp P o a w K Q else E := by
  have hw : Region.wanted o (yielded ops a.tmps) = true := by simp [Region.wanted, hgd]
  rw [if_pos hw]
  exact operwp_app21 s x t ho hs hx hr h
theorem info_pg21 : (Tryd.prog.info? 110).map (fun i => (i.zero, i.size, i.bytes)) = some (some (.agg #[.slice none 0 0, .bool false, .int .i64 0]), 3, 40) := by kernel_rfl
theorem run_pg21 (N : Nat) (w0 : World) (hN : N ≤ w0.heap.size) (ra : Option Addr) (n rc : Nat) (L : List Pd21) (hn : L.length = n) (d : Pd21) (len : Nat) (hlen : d.b.length = len) (hl : w0.ownsRow N 110 3 (.slice ra n rc) n (pdl21 L)) (hb : n ≤ 1099511627776) (ty : TypeId) :
    ∃ g cap w', (Builtin.append_ #[103, 103] ty #[.slice ra n rc, .slice (some ⟨w0.heap.size, 0, none⟩) 1 1]).run Tryd.prog (w0.alloc (.cells #[.slice (some ⟨d.k, d.off, none⟩) len d.c, .bool d.er, .int .i64 d.wr] 110)) = .ok (.slice (some ⟨g, 0, none⟩) (n + 1) cap) w' ∧
      w'.ownsRow N 110 3 (.slice (some ⟨g, 0, none⟩) (n + 1) cap) (n + 1) (pdl21 (L ++ [d])) ∧ Kp (fun j => (Value.slice ra n rc).ownBlock = some j) w0 w' ∧ ((Value.slice ra n rc).ownBlock = some g ∨ w0.heap.size ≤ g) := by
  subst hlen
  obtain ⟨i0, hi, hz0, hz1, hz2⟩ := info_parts info_pg21
  have hnew : ∀ j u, (pdc21 d)[j]? = some u → (w0.alloc (.cells #[.slice (some ⟨d.k, d.off, none⟩) d.b.length d.c, .bool d.er, .int .i64 d.wr] 110)).cell? ((⟨w0.heap.size, 0, none⟩ : Addr).add j) = some u := by
    intro j u hu
    have hadd : (⟨w0.heap.size, 0, none⟩ : Addr).add j = ⟨w0.heap.size, j, none⟩ := by unfold Addr.add; split <;> simp_all
    rw [hadd]
    have hh := heap_alloc_new w0 (.cells #[.slice (some ⟨d.k, d.off, none⟩) d.b.length d.c, .bool d.er, .int .i64 d.wr] 110)
    simp only [World.cell?, hh]
    simpa [pdc21] using hu
  obtain ⟨g, cap, w', h1, h2, h3, h4, h5⟩ := run_append_lies (P := Tryd.prog) (w := w0.alloc (.cells #[.slice (some ⟨d.k, d.off, none⟩) d.b.length d.c, .bool d.er, .int .i64 d.wr] 110)) 103 ty N 110 i0 _ 3 40 Tryd.underlying103 hi hz0 hz1 hz2 rfl (by decide) _ n _ (hl.alloc _) ⟨w0.heap.size, 0, none⟩ 1 1 (pdc21 d) rfl hnew (by intro u hu; simp only [pdc21, List.mem_cons, List.not_mem_nil, or_false] at hu; rcases hu with rfl | rfl | rfl <;> rfl) (by decide) (by unfold maxLen; omega) (by omega) (by simp; omega) (w0.heap.size + 1) (by simp)
  refine ⟨g, cap, w', h1, by rw [pdl21_app]; exact h2, (Kp.alloc w0 _).trans (Kp.grown (S := fun j => (Value.slice ra n rc).ownBlock = some j) h3 (fun i e => e)) (fun _ _ e => e), ?_⟩
  rcases h4 with h4 | h4
  · exact .inl h4
  · exact .inr (by omega)
def V21 (N : Nat) (W : World) (k : Nat) : Prop := N ≤ k ∧ ∃ cur : Array Value, W.heap[k]? = some (Obj.cells cur 5 (0, 0))
def KB21 (W W' : World) : Prop := ∀ (k : Nat) (cur : Array Value), W.heap[k]? = some (Obj.cells cur 5 (0, 0)) → W'.heap[k]? = W.heap[k]?
theorem V21.kb {N : Nat} {W W' : World} {k : Nat} (h : V21 N W k) (hk : KB21 W W') : V21 N W' k := by
  obtain ⟨h1, cur, h2⟩ := h
  exact ⟨h1, cur, (hk k cur h2).trans h2⟩
def Pk21 (N : Nat) (W : World) (S : Fs21) (x y : Nat) (d : Pd21) : Prop := Seg W (some ⟨d.k, d.off, none⟩) d.b ∧ V21 N W d.k ∧ d.b = fb21 S (x : Int) (y : Int) ∧ d.er = (sh21 S (x : Int) (y : Int)).er ∧ d.wr = (sh21 S (x : Int) (y : Int)).wr ∧ d.b.length ≤ d.c
theorem Pk21.kb {N : Nat} {W W' : World} {S : Fs21} {x y : Nat} {d : Pd21} (h : Pk21 N W S x y d) (hk : KB21 W W') : Pk21 N W' S x y d := by
  obtain ⟨h1, h2, h3⟩ := h
  refine ⟨h1.of_cells fun b' off' i v hi ha hc => ?_, h2.kb hk, h3⟩
  cases ha
  obtain ⟨_, cur, hcur⟩ := h2
  rw [World.cell?_of_block (a := ⟨d.k, d.off + i, none⟩) (hk d.k cur hcur)]
  exact hc
def Ac21 (N : Nat) (W : World) (S : Fs21) (x gx cx : Nat) (L : List Pd21) : Prop := (∃ X : List Value, W.heap[gx]? = some (.cells (pdl21 L ++ X).toArray 110 (0, 0))) ∧ (L.length : Int) = pn21 S.ps (x : Int) ∧ L.length ≤ cx ∧ N ≤ gx ∧ ∀ y d, L[y]? = some d → Pk21 N W S x y d
theorem Ac21.kb {N : Nat} {W W' : World} {S : Fs21} {x gx cx : Nat} {L : List Pd21} (h : Ac21 N W S x gx cx L) (hk : KB21 W W') (hg : W'.heap[gx]? = W.heap[gx]?) : Ac21 N W' S x gx cx L := by
  obtain ⟨⟨X, h1⟩, h2, h3, h4, h5⟩ := h
  exact ⟨⟨X, hg.trans h1⟩, h2, h3, h4, fun y d e => (h5 y d e).kb hk⟩
/-- A row that is done, as a block. -/
theorem ac21_own {N : Nat} {W : World} {S : Fs21} {x gx cx n : Nat} {L : List Pd21} (h : W.ownsRow N 110 3 (.slice (some ⟨gx, 0, none⟩) n cx) n (pdl21 L)) (hn : L.length = n) (hp : (n : Int) = pn21 S.ps (x : Int)) (hk : ∀ y d, L[y]? = some d → Pk21 N W S x y d) : Ac21 N W S x gx cx L := by
  rcases h.2 with ⟨e, _⟩ | ⟨g, cap, cur, hv, hg, hh, hle, hm, hs, ht⟩
  · cases e
  · simp only [Value.slice.injEq, Option.some.injEq, Addr.mk.injEq] at hv
    obtain ⟨⟨rfl, -⟩, -, rfl⟩ := hv
    refine ⟨⟨cur.toList.drop (n * 3), ?_⟩, by rw [hn]; exact hp, by omega, hg, hk⟩
    rw [hh, ← ht, List.take_append_drop, Array.toArray_toList]
theorem chunk21 (L : List Int) (m k p : Nat) (h : k + p ≤ L.length + m) : ((L ++ List.replicate m (255 : Int)).drop k).take p = (L.drop k).take p ++ List.replicate (p - ((L.drop k).take p).length) 255 := by
  rw [List.drop_append, List.take_append]
  congr 1
  rw [List.drop_replicate, List.take_replicate]
  congr 1
  simp
  omega
theorem sp21_rep0 (n : Nat) (L : List Int) : sp21 (List.replicate n (255 : Int)) 0 L = L ++ List.replicate (n - L.length) 255 := by unfold sp21; simp
theorem nw21_fb (p q : Nat) (ac : Int) (L0 L1 : List Int) (x y : Nat) (hx : x < 2) (hy : y < q) (h : (Ls21 L0 L1 (x : Int)).length ≤ p * q) (hp : 0 < p) :
    fb21 (nw21 p q ac L0 L1) (x : Int) (y : Int) = ((sp21 (List.replicate (p * q) (255 : Int)) 0 (Ls21 L0 L1 (x : Int))).drop (y * p)).take p ∧ (sh21 (nw21 p q ac L0 L1) (x : Int) (y : Int)).er = false ∧ (sh21 (nw21 p q ac L0 L1) (x : Int) (y : Int)).wr = 0 := by
  have hyp : y * p + p ≤ p * q := by
    have : (y + 1) * p ≤ q * p := Nat.mul_le_mul_right p hy
    rw [Nat.mul_comm p q, ← Nat.succ_mul]; exact this
  have hsh : sh21 (nw21 p q ac L0 L1) (x : Int) (y : Int) = ⟨((Ls21 L0 L1 (x : Int)).drop (y * p)).take p, false, 0⟩ := by
    unfold sh21 nw21 pj21
    simp only
    have c1 : ((x : Int) = 0 ∨ (x : Int) = 1) ∧ ((x : Int) < 2 ∨ (x : Int) = 2 ∧ (y : Int) < 0) := ⟨by omega, by omega⟩
    rw [if_pos c1]
    unfold ck21
    have e2 : ((y : Int)).toNat = y := by omega
    rw [e2]
    split
    · rfl
    · rename_i h2
      have h3 : (Ls21 L0 L1 (x : Int)).length ≤ y * p := by omega
      have h4 : ((Ls21 L0 L1 (x : Int)).drop (y * p)).take p = [] := by rw [List.drop_eq_nil_of_le h3]; simp
      rw [h4]
      have h5 : ((x : Int) == 2) = false := by simp; omega
      simp [h5]
  refine ⟨?_, by rw [hsh], by rw [hsh]⟩
  unfold fb21
  rw [hsh, sp21_rep0, chunk21 _ _ _ _ (by omega)]
  rfl
theorem nw21_rec (p q : Nat) (ac : Int) (L0 L1 : List Int) (y : Nat) : fb21 (nw21 p q ac L0 L1) 2 (y : Int) = List.replicate p 255 ∧ (sh21 (nw21 p q ac L0 L1) 2 (y : Int)).er = true ∧ (sh21 (nw21 p q ac L0 L1) 2 (y : Int)).wr = 0 := by
  have hsh : sh21 (nw21 p q ac L0 L1) 2 (y : Int) = ⟨[], true, 0⟩ := by
    unfold sh21 nw21 pj21
    simp
  unfold fb21
  rw [hsh]
  refine ⟨?_, rfl, rfl⟩
  show [] ++ List.replicate (p - 0) 255 = _
  simp
end Go.Proofs.YtmjlpfmacblcpaaDoor

namespace Go.Proofs.YtmjlpfmacblcpaaDoor
open Go.RowKit Go.Shelf
set_option linter.unusedVariables false
set_option linter.unusedSimpArgs false
section
variable {P : Program} {ops : Array Oper} {Q : Exit → Act → World → Prop} {md : Region.Mode} {S : World → Prop} {fin : Nat}
theorem wpAnyK_two24 {i j : Nat} {fuel : Nat} {listed : Array Bool} {a : Act} {w : World} {o p : Oper} (hr : Region.ready md ops listed = [i, j]) (ho : ops[i]? = some o) (hp : ops[j]? = some p)
    (h : ∀ K' : Act → World → Prop, Shut (∀ a w, (i ≠ fin → S w) → ((i ≠ fin → S w) → wpAnyK P md ops Q S fin fuel (listed.setIfInBounds i true) a w) → K' a w) → if Region.wanted o (yielded ops a.tmps) = true then Oper.wp P o a w K' Q else K' (a.put o.dst undef) w)
    (h2 : ∀ K' : Act → World → Prop, Shut (∀ a w, (j ≠ fin → S w) → ((j ≠ fin → S w) → wpAnyK P md ops Q S fin fuel (listed.setIfInBounds j true) a w) → K' a w) → if Region.wanted p (yielded ops a.tmps) = true then Oper.wp P p a w K' Q else K' (a.put p.dst undef) w) :
    wpAnyK P md ops Q S fin (fuel + 1) listed a w :=
  ⟨fun h0 => (by rw [hr] at h0; cases h0), fun k hk => by
    rw [hr] at hk
    have : k = i ∨ k = j := by simpa using hk
    rcases this with rfl | rfl
    · exact wpOp_step ho (fun K' hK => h K' (fun a w hS hW => hK a w ⟨hS, hW hS⟩))
    · exact wpOp_step hp (fun K' hK => h2 K' (fun a w hS hW => hK a w ⟨hS, hW hS⟩))⟩
end
theorem operwp_app24 {P : Program} {o : Oper} {a : Act} {K : Act → World → Prop} {Q : Exit → Act → World → Prop} {w : World} (s x : Operand) (t : TypeId)
    (ho : o.op = Op.call { callee := Callee.builtin Builtin.append, args := #[s, x], argTypes := #[t, t] }) {u v v' : Value} {w' : World} (hs : a.eval s = u) (hx : a.eval x = v) (hr : (Builtin.append_ #[t, t] o.type #[u, v]).run P w = .ok v' w')
    (h : K (a.put o.dst v') w') : Oper.wp P o a w K Q := by
  unfold Oper.wp execOp
  simp only [ho, resolve, invoke, builtin, Sem.run_bind, Sem.run_pure, Result.andThen_ok, List.map_toArray, List.map_cons, List.map_nil, hs, hx, hr]
  exact h
end Go.Proofs.YtmjlpfmacblcpaaDoor

namespace Go.Proofs.YtmjlpfmacblcpaaDoor
open Go.RowKit Go.Shelf
set_option linter.unusedVariables false
set_option linter.unusedSimpArgs false
def svp21 (pg : Nat) (s : Sh21) : List Int := encI s.wr ++ (if s.er then [1] else 0 :: (s.b ++ List.replicate (pg - s.b.length) 255))
theorem svp21_len (pg : Nat) (s : Sh21) (h : s.b.length ≤ pg) : 1 ≤ (svp21 pg s).length ∧ (svp21 pg s).length ≤ 11 + pg := by
  have := encI_len s.wr
  unfold svp21
  rw [List.length_append]
  split
  · simp; omega
  · simp; omega
theorem svp21_bd (pg : Nat) (s : Sh21) (h : ∀ z ∈ s.b, 0 ≤ z ∧ z ≤ 255) (hw : 0 ≤ s.wr ∧ s.wr ≤ 1099511627776) : ∀ z ∈ svp21 pg s, 0 ≤ z ∧ z ≤ 255 := by
  intro z hz
  unfold svp21 at hz
  rcases List.mem_append.1 hz with hz | hz
  · exact encI_bd _ (by omega) (by omega) z hz
  · split at hz
    · simp at hz; omega
    · rcases List.mem_cons.1 hz with hz | hz
      · omega
      · rcases List.mem_append.1 hz with hz | hz
        · exact h z hz
        · rw [List.eq_of_mem_replicate hz]; decide
theorem la21_nil (pg : Nat) (L : List Int) (h : L.length ≤ pg) : la21 pg [] L = L ++ List.replicate (pg - L.length) 255 := by
  unfold la21
  rw [sp21_rep0]
  simp [sp21]
theorem one_seg21 (V : World) (x : Int) (h : 0 ≤ x ∧ x ≤ 255) : Seg (V.alloc (.cells #[.int .u8 x] 5)) (some ⟨V.heap.size, 0, none⟩) [x] := seg_lit V [x] 5 (0, 0) (by simpa using h)
/-- Bytes of a row of their own. -/
def Rb21 (w : World) (N : List Int) (e : Ending) (w' : World) : Prop := ∃ p c, e = .returned (.slice p N.length c) ∧ w'.ownsRow w.heap.size 5 1 (.slice p N.length c) N.length (N.map (Value.int .u8)) ∧ Below w.heap.size w w'
theorem seg64_one21 (V : World) (x : Int) (h : 0 ≤ x ∧ x ≤ 18446744073709551615) : Seg64 (V.alloc (.cells #[.int .u64 x] 99)) (some ⟨V.heap.size, 0, none⟩) [x] := by
  refine ⟨fun i hi => ⟨V.heap.size, 0, rfl, ?_⟩, by decide, getD_bd (by decide) (by simpa using h)⟩
  obtain rfl : i = 0 := by simpa using hi
  have hh := heap_alloc_new V (.cells #[.int .u64 x] 99)
  simp only [World.cell?, hh]
  rfl
theorem cel21 {V V' : World} (hb : Below V.heap.size V V') {p : Addr} {v : Value} (h : V.cell? p = some v) : V'.cell? p = some v :=
  (hb.cell (World.block_lt_of_cell? _ _ h)).trans h
/-- What holds while a page is saved: its box, its bytes, the device. -/
structure Sb21 (gb b pg n cap : Nat) (a : Option Addr) (L : List Int) (wr : Int) (V : World) : Prop where
  x0 : V.cell? ⟨gb, 0, none⟩ = some (.slice a n cap)
  x1 : V.cell? ⟨gb, 1, none⟩ = some (.bool false)
  x2 : V.cell? ⟨gb, 2, none⟩ = some (.int .i64 wr)
  c0 : V.cell? ⟨b, 0, none⟩ = some (.int .i64 (pg : Int))
  sg : Seg V a L
theorem Sb21.kp {gb b pg n cap : Nat} {a : Option Addr} {L : List Int} {wr : Int} {V V' : World} (h : Sb21 gb b pg n cap a L wr V) {Q : Nat → Prop} (hk : Kp Q V V') (hg : ¬ Q gb) (hb : ¬ Q b) (ha : ∀ k off s, a = some ⟨k, off, s⟩ → 0 < L.length → ¬ Q k) : Sb21 gb b pg n cap a L wr V' := by
  have lg := World.block_lt_of_cell? _ _ h.x0
  have lb := World.block_lt_of_cell? _ _ h.c0
  refine ⟨?_, ?_, ?_, ?_, ?_⟩
  · rw [World.cell?_of_block (a := ⟨gb, 0, none⟩) (hk.block gb lg hg)]; exact h.x0
  · rw [World.cell?_of_block (a := ⟨gb, 1, none⟩) (hk.block gb lg hg)]; exact h.x1
  · rw [World.cell?_of_block (a := ⟨gb, 2, none⟩) (hk.block gb lg hg)]; exact h.x2
  · rw [World.cell?_of_block (a := ⟨b, 0, none⟩) (hk.block b lb hb)]; exact h.c0
  · refine h.sg.of_cells fun k off i v hi he hc => ?_
    have lk := World.block_lt_of_cell? _ _ hc
    rw [World.cell?_of_block (a := ⟨k, off + i, none⟩) (hk.block k lk (ha k off none he (by omega)))]
    exact hc
theorem Sb21.three {gb b pg n cap : Nat} {a : Option Addr} {L : List Int} {wr : Int} {V : World} (h : Sb21 gb b pg n cap a L wr V) : V.cell? ⟨gb, 0, none⟩ = some (.slice a n cap) ∧ V.cell? ⟨gb, 1, none⟩ = some (.bool false) ∧ V.cell? ⟨gb, 2, none⟩ = some (.int .i64 wr) := ⟨h.x0, h.x1, h.x2⟩
theorem Sb21.old {gb b pg n cap : Nat} {a : Option Addr} {L : List Int} {wr : Int} {V V' : World} (h : Sb21 gb b pg n cap a L wr V) (hb : Below V.heap.size V V') : Sb21 gb b pg n cap a L wr V' :=
  ⟨cel21 hb h.x0, cel21 hb h.x1, cel21 hb h.x2, cel21 hb h.c0, h.sg.old hb⟩
set_option maxRecDepth 100000 in
set_option maxHeartbeats 8000000 in
theorem psaved21 (b pg : Nat) (w : World) (c0 : w.cell? ⟨b, 0, none⟩ = some (.int .i64 (pg : Int))) (hpg : pg ≤ 4096) (hp0 : 0 < pg) (a : Option Addr) (n cap : Nat) (s : Sh21) (sg : Seg w a s.b) (hn : Hid (s.b.length = n)) (ln : n ≤ pg) (hw : 0 ≤ s.wr ∧ s.wr ≤ 1099511627776) :
    Calls Tryd.prog 49 #[.pointer (some ⟨b, 0, none⟩), .agg #[.slice a n cap, .bool s.er, .int .i64 s.wr]] w fun e w' => Rb21 w (svp21 pg s) e w' := by
  obtain ⟨sb, er, wr⟩ := s
  simp only at sg hn hw ⊢
  have lb := World.block_lt_of_cell? _ _ c0
  obtain ⟨w1, hw1⟩ : ∃ w1, w1 = w.alloc (.cells #[.slice a n cap, .bool er, .int .i64 wr] 89) := ⟨_, rfl⟩
  have HW1 : Hid (w.alloc (.cells #[.slice a n cap, .bool er, .int .i64 wr] 89) = w1) := hw1.symm
  have b1 : Below w.heap.size w w1 := by rw [hw1]; exact (Below.refl _ _).alloc (Nat.le_refl _) _
  obtain ⟨gb, hgb⟩ : ∃ g, g = w.heap.size := ⟨_, rfl⟩
  have HGB : Hid (w.heap.size = gb) := hgb.symm
  have q1 : w1.heap[gb]? = some (.cells #[.slice a n cap, .bool er, .int .i64 wr] 89 (0, 0)) := by rw [hw1, hgb]; exact heap_alloc_new _ _
  have x0 := three_cell0 q1
  have x1 := three_cell1 q1
  have x2 := three_cell2 q1
  have d0 : w1.cell? ⟨b, 0, none⟩ = some (.int .i64 (pg : Int)) := cel21 b1 c0
  have s1 := sg.old b1
  have hwr : IntKind.u64.wrap wr = wr := IntWalk.u64_in _ (by omega)
  obtain ⟨w2, hw2⟩ : ∃ w2, w2 = w1.alloc (.cells #[.int .u64 wr] 99) := ⟨_, rfl⟩
  have HW2 : Hid (w1.alloc (.cells #[.int .u64 wr] 99) = w2) := hw2.symm
  obtain ⟨g2, hg2⟩ : ∃ g, g = w1.heap.size := ⟨_, rfl⟩
  have HG2 : Hid (w1.heap.size = g2) := hg2.symm
  have b2 : Below w1.heap.size w1 w2 := by rw [hw2]; exact (Below.refl _ _).alloc (Nat.le_refl _) _
  have s64 := seg64_one21 w1 wr ⟨by omega, by omega⟩
  rw [← hw2, ← hg2] at s64
  have HE := encode_any (some ⟨g2, 0, none⟩) [wr] 1 w2 s64 (by simp)
  have eE : encA [wr] = encI wr := encA_one _
  rw [eE] at HE
  obtain ⟨E, hE⟩ : ∃ E, E = encI wr := ⟨_, rfl⟩
  have lE := encI_len wr
  rw [← hE] at HE lE
  have HN : Hid (svp21 pg ⟨sb, er, wr⟩ = E ++ (if er then [1] else 0 :: (sb ++ List.replicate (pg - sb.length) 255))) := by rw [hE]; rfl
  have HB2 : Hid (Below w.heap.size w w2) := b1.trans (b2.mono b1.size)
  have HSS : Hid (∀ V, er = false → Below w2.heap.size w2 V → Sb21 gb b pg n cap a sb wr V) := fun V he hV => by
    have hx := b2.trans (hV.mono b2.size)
    exact ⟨cel21 hx x0, by rw [← he]; exact cel21 hx x1, cel21 hx x2, cel21 hx d0, s1.old hx⟩
  have HX : Hid (∀ V, Below w2.heap.size w2 V → V.cell? ⟨gb, 1, none⟩ = some (.bool er)) := fun V hV => cel21 (b2.trans (hV.mono b2.size)) x1
  rw [HN.out]
  have hmb := s1.mem
  have S0 : Seg w2 a sb := s1.old b2
  clear hw1 hw2 hgb hg2 s1 s64 b1 b2 c0 d0 q1 sg hE eE HN
  have HGL : Hid (gb < w2.heap.size ∧ b < w2.heap.size ∧ ∀ k off sp, a = some ⟨k, off, sp⟩ → 0 < sb.length → k < w2.heap.size) := by
    refine ⟨?_, ?_, ?_⟩
    · have := HB2.out.size; have e1 := HGB.out; have := World.block_lt_of_cell? _ _ (HX.out w2 (Below.refl _ _)); simpa using this
    · have q1 := HB2.out.size; exact Nat.lt_of_lt_of_le lb q1
    · intro k off sp he hL
      obtain ⟨k', off', he', hc⟩ := S0.at_ 0 hL
      rw [he] at he'
      injection he' with he'
      injection he' with h1 _ _
      subst h1
      exact World.block_lt_of_cell? _ _ hc
  clear S0
  cases er
  · rw [if_neg (by simp)]
    obtain ⟨F, hF⟩ : ∃ F, F = la21 pg [] sb := ⟨_, rfl⟩
    have hFl : F.length = pg := by rw [hF]; exact la21_len pg [] sb (by simp) (by rw [hn.out]; exact ln)
    have HFE : Hid (0 :: (sb ++ List.replicate (pg - sb.length) 255) = 0 :: F) := by rw [hF, la21_nil pg sb (by rw [hn.out]; exact ln)]; rfl
    have hFb : ∀ z ∈ F, 0 ≤ z ∧ z ≤ 255 := by rw [hF]; exact la21_bd pg [] sb (by simp) hmb
    have HCL : Hid (∀ V : World, Sb21 gb b pg n cap a sb wr V → Calls Tryd.prog 95 #[.pointer (some ⟨b, 0, none⟩), .slice none 0 0, .agg #[.slice a n cap, .bool false, .int .i64 wr]] V fun e w' => ∃ g, e = .returned (.slice (some ⟨g, 0, none⟩) pg pg) ∧ V.heap.size ≤ g ∧ Seg w' (some ⟨g, 0, none⟩) F ∧ g < w'.heap.size ∧ Below V.heap.size V w') := fun V hV =>
      (plaid21 b pg V hV.c0 hpg none a [] sb 0 cap 0 n false wr (SegK.nil (by decide) _ _) hV.sg rfl hn (by omega) ln).mono fun e w' hh => by
        obtain ⟨⟨g, e1, e2, X, e3⟩, e4⟩ := hh
        refine ⟨g, e1, e2, ?_, (Array.getElem?_eq_some_iff.1 e3).1, e4⟩
        rw [← hF] at e3
        have e5 : F.map (Value.int .u8) ++ X.map (Value.int .u8) = (F ++ X).map (Value.int .u8) := by simp
        refine ⟨fun i hi => ⟨g, 0, rfl, ?_⟩, by decide, getD_bd (by decide) hFb⟩
        simp only [World.cell?, e3, Nat.zero_add]
        rw [List.getElem?_toArray, List.getElem?_map, List.getElem?_append_left hi]
        simp [List.getD, hi]
    rw [HFE.out]
    obtain ⟨E0, hE0⟩ : ∃ L, L = E ++ [0] := ⟨_, rfl⟩
    obtain ⟨EF, hEF⟩ : ∃ L, L = E ++ 0 :: F := ⟨_, rfl⟩
    rw [← hEF]
    have HE0 : Hid (E0 = E ++ [0] ∧ E0.length = E.length + 1) := ⟨hE0, by rw [hE0]; simp⟩
    have HEF : Hid (EF = E0 ++ F) := by show _ = _; rw [hEF, hE0]; simp
    clear hE0 hEF
    go_enter Tryd.func49, Tryd.ntmps49
    go_upto_region 1 with fail
    rw [HW1.out, HGB.out]
    go_wp2_with fail
    rw [HW2.out, HG2.out]
    refine HE.mono ?_
    rintro e3 w3 ⟨v3, rfl, o3, b3⟩
    obtain ⟨p3, c3, rfl⟩ := own_sl21 o3
    have y1 := HX.out w3 b3
    obtain ⟨v0, hv0⟩ : ∃ v, v = w3.drew := ⟨_, rfl⟩
    have HV0 : Hid (w3.drew = v0) := hv0.symm
    have bv0 : Below w2.heap.size w2 v0 := by rw [hv0]; exact b3.trans ((Below.refl _ _).drew.mono b3.size)
    have O0 : Hid (v0.ownsRow w2.heap.size 5 1 (.slice p3 E.length c3) E.length (E.map (Value.int .u8))) := by rw [hv0]; exact o3.drew
    have HB0 : Hid (Below w2.heap.size w2 v0) := bv0
    have H0 : Hid (Sb21 gb b pg n cap a sb wr v0) := HSS.out v0 trivial bv0
    have HLN : Hid (F.length = pg ∧ pg ≤ 4096 ∧ E.length ≤ 10 ∧ 0 < pg) := ⟨hFl, hpg, lE.2, hp0⟩
    clear hF hFb hFl HFE o3 bv0 hv0 lE x0 x1 x2 HE HX HSS hn
    go_wp2_with fail
    clear y1
    refine plain_region16 (fun V => V.cell? ⟨gb, 0, none⟩ = some (.slice a n cap) ∧ V.cell? ⟨gb, 1, none⟩ = some (.bool false) ∧ V.cell? ⟨gb, 2, none⟩ = some (.int .i64 wr)) 8 (by kernel_rfl) (by rw [HV0.out]; exact H0.out.three) (fun hHeld => ?_)
    rw [HV0.out] at hHeld ⊢
    refine wpAnyK_take (i := 0) (v := .slice p3 E.length c3) rfl (by kernel_rfl) (by kernel_rfl) (by kernel_rfl) (by kernel_rfl) (fun _ _ _ h => h) (Or.inl ⟨by rfl, fun w hSw => by go_simp⟩) hHeld ?_
    simp only [List.getElem_toArray, List.getElem_cons_zero, Act.put, List.setIfInBounds_toArray, List.set_cons_zero, List.set_cons_succ]
    refine wpAnyK_take (i := 3) (v := .pointer (some ⟨b, 0, none⟩)) rfl (by kernel_rfl) (by kernel_rfl) (by kernel_rfl) (by kernel_rfl) (fun _ _ _ h => h) (Or.inl ⟨by rfl, fun w hSw => by go_simp⟩) hHeld ?_
    simp only [List.getElem_toArray, List.getElem_cons_zero, List.getElem_cons_succ, Act.put, List.setIfInBounds_toArray, List.set_cons_zero, List.set_cons_succ]
    refine wpAnyK_take (i := 4) (v := .agg #[.slice a n cap, .bool false, .int .i64 wr]) rfl (by kernel_rfl) (by kernel_rfl) (by kernel_rfl) (by kernel_rfl) (fun _ _ _ h => h) (Or.inl ⟨by rfl, fun w hSw => by go_simp⟩) hHeld ?_
    simp only [List.getElem_toArray, List.getElem_cons_zero, List.getElem_cons_succ, Act.put, List.setIfInBounds_toArray, List.set_cons_zero, List.set_cons_succ]
    refine wpAnyK_one (i := 1) (by kernel_rfl) rfl (fun K hK => ?_)
    (try simp only [List.getElem_toArray, List.getElem_cons_zero, List.getElem_cons_succ, Act.put, List.setIfInBounds_toArray, List.set_cons_zero, List.set_cons_succ])
    go_simp
    obtain ⟨v1, hv1⟩ : ∃ v, v = v0.alloc (.cells #[.int .u8 0] 5) := ⟨_, rfl⟩
    obtain ⟨k1, hk1⟩ : ∃ k, k = v0.heap.size := ⟨_, rfl⟩
    have Bv1 : Hid (Below v0.heap.size v0 v1) := by rw [hv1]; exact (Below.refl _ _).alloc (Nat.le_refl _) _
    have Zv1 : Hid (Seg v1 (some ⟨k1, 0, none⟩) [0] ∧ k1 < v1.heap.size ∧ k1 = v0.heap.size) := by rw [hk1, hv1]; exact ⟨one_seg21 v0 0 (by decide), by simp, rfl⟩
    have hSv1 : Sb21 gb b pg n cap a sb wr v1 := H0.out.old Bv1.out
    have Hv1 : Hid (Sb21 gb b pg n cap a sb wr v1) := hSv1
    rw [← hv1, ← hk1]
    clear hv1 hk1 hHeld
    refine hK.out _ _ (fun _ => Hv1.out.three) (fun hHeld0 => ?_)
    have hHeld := hHeld0 (by decide)
    clear hHeld0 hK K
    (try simp only [List.getElem_toArray, List.getElem_cons_zero, List.getElem_cons_succ, Act.put, List.setIfInBounds_toArray, List.set_cons_zero, List.set_cons_succ])
    refine wpAnyK_one (i := 2) (by kernel_rfl) rfl (fun K hK => ?_)
    (try simp only [List.getElem_toArray, List.getElem_cons_zero, List.getElem_cons_succ, Act.put, List.setIfInBounds_toArray, List.set_cons_zero, List.set_cons_succ])
    rw [if_pos (by rfl)]
    obtain ⟨gv2, cv2, v2, hrv2, ov2, bv2, kv2⟩ := app21 v1 (m := 1) (N := E0) (c2 := 1) HE0.out.1 (own_below21 O0.out Bv1.out) (Zv1.out.1) rfl (by decide) (by have := HLN.out; omega) (Nat.le_trans HB0.out.size Bv1.out.size)
    refine operwp_app24 _ _ _ rfl rfl rfl hrv2 ?_
    have Ov2 : Hid (v2.ownsRow w2.heap.size 5 1 (.slice (some ⟨gv2, 0, none⟩) E0.length cv2) E0.length (E0.map (Value.int .u8)) ∧ Below w2.heap.size v1 v2 ∧ Kp (fun k => (Value.slice p3 E.length c3).ownBlock = some k) v1 v2) := ⟨ov2, bv2, kv2⟩
    have hSv2 : Sb21 gb b pg n cap a sb wr v2 := Hv1.out.kp kv2 (fun q => by have := (O0.out.lt _ q).1; have := HGL.out.1; omega) (fun q => by have := (O0.out.lt _ q).1; have := HGL.out.2.1; omega) (fun k off s q1 q2 q => by have := (O0.out.lt _ q).1; have := HGL.out.2.2 k off s q1 q2; omega)
    have Hv2 : Hid (Sb21 gb b pg n cap a sb wr v2) := hSv2
    clear hrv2 ov2 bv2 kv2 hHeld
    refine hK.out _ _ (fun _ => Hv2.out.three) (fun hHeld0 => ?_)
    have hHeld := hHeld0 (by decide)
    clear hHeld0 hK K
    simp only [Act.put, List.setIfInBounds_toArray, List.set_cons_zero, List.set_cons_succ]
    refine wpAnyK_one (i := 5) (by kernel_rfl) rfl (fun K hK => ?_)
    (try simp only [List.getElem_toArray, List.getElem_cons_zero, List.getElem_cons_succ, Act.put, List.setIfInBounds_toArray, List.set_cons_zero, List.set_cons_succ])
    go_simp
    refine (HCL.out v2 Hv2.out).mono ?_
    rintro ev3 v3 ⟨gl3, rfl, z1, z2, z3, z4⟩
    have Bv3 : Hid (Below v2.heap.size v2 v3) := z4
    have Zv3 : Hid (Seg v3 (some ⟨gl3, 0, none⟩) F ∧ gl3 < v3.heap.size ∧ v2.heap.size ≤ gl3) := ⟨z2, z3, z1⟩
    have hSv3 : Sb21 gb b pg n cap a sb wr v3 := Hv2.out.old z4
    have Hv3 : Hid (Sb21 gb b pg n cap a sb wr v3) := hSv3
    clear z1 z2 z3 z4 hHeld
    refine hK.out _ _ (fun _ => Hv3.out.three) (fun hHeld0 => ?_)
    have hHeld := hHeld0 (by decide)
    clear hHeld0 hK K
    (try simp only [List.getElem_toArray, List.getElem_cons_zero, List.getElem_cons_succ, Act.put, List.setIfInBounds_toArray, List.set_cons_zero, List.set_cons_succ])
    refine wpAnyK_one (i := 6) (by kernel_rfl) rfl (fun K hK => ?_)
    (try simp only [List.getElem_toArray, List.getElem_cons_zero, List.getElem_cons_succ, Act.put, List.setIfInBounds_toArray, List.set_cons_zero, List.set_cons_succ])
    rw [if_pos (by rfl)]
    have oX := (Ov2.out.1.lt _ rfl).1
    obtain ⟨gv4, cv4, v4, hrv4, ov4, bv4, kv4⟩ := app21 v3 (m := pg) (N := EF) (c2 := pg) (L := E0) HEF.out (own_below21 Ov2.out.1 Bv3.out) (Zv3.out.1) HLN.out.1 HLN.out.2.2.2 (by have := HLN.out; have := HE0.out.2; omega) (Nat.le_trans (Nat.le_trans (Nat.le_trans HB0.out.size Bv1.out.size) Ov2.out.2.1.size) Bv3.out.size)
    refine operwp_app24 _ _ _ rfl rfl rfl hrv4 ?_
    have HF : Hid (Rb21 w EF (.returned (.slice (some ⟨gv4, 0, none⟩) EF.length cv4)) v4) := by
      have bb : Below w2.heap.size w2 v4 := (((HB0.out.trans (Bv1.out.mono HB0.out.size)).trans Ov2.out.2.1).trans (Bv3.out.mono (Nat.le_trans (Nat.le_trans HB0.out.size Bv1.out.size) Ov2.out.2.1.size))).trans bv4
      exact ⟨some ⟨gv4, 0, none⟩, cv4, rfl, own_base21 ov4 HB2.out.size, HB2.out.trans (bb.mono HB2.out.size)⟩
    have hSv4 : Sb21 gb b pg n cap a sb wr v4 := Hv3.out.kp kv4 (fun q => by cases q; have := HGL.out.1; omega) (fun q => by cases q; have := HGL.out.2.1; omega) (fun k off s q1 q2 q => by cases q; have := HGL.out.2.2 _ off s q1 q2; omega)
    clear hrv4 ov4 bv4 kv4 hHeld
    refine hK.out _ _ (fun _ => hSv4.three) (fun hHeld0 => ?_)
    have hHeld := hHeld0 (by decide)
    clear hHeld0 hK K
    simp only [Act.put, List.setIfInBounds_toArray, List.set_cons_zero, List.set_cons_succ]
    refine wpAnyK_one (i := 7) (by kernel_rfl) rfl (fun K hK => ?_)
    (try simp only [List.getElem_toArray, List.getElem_cons_zero, List.getElem_cons_succ, Act.put, List.setIfInBounds_toArray, List.set_cons_zero, List.set_cons_succ])
    go_simp
    refine hK.out _ _ (fun _ => hHeld) (fun _ => ?_)
    clear hK K
    refine wpAnyK_done (by kernel_rfl) ?_ _
    go_wp2_with fail
    go_ret
    exact HF.out
  · rw [if_pos rfl]
    go_enter Tryd.func49, Tryd.ntmps49
    go_upto_region 1 with fail
    rw [HW1.out, HGB.out]
    go_wp2_with fail
    rw [HW2.out, HG2.out]
    refine HE.mono ?_
    rintro e3 w3 ⟨v3, rfl, o3, b3⟩
    obtain ⟨p3, c3, rfl⟩ := own_sl21 o3
    have y1 := HX.out w3 b3
    have s4 := one_seg21 w3 1 (by decide)
    obtain ⟨w4, hw4⟩ : ∃ w4, w4 = w3.alloc (.cells #[.int .u8 1] 5) := ⟨_, rfl⟩
    have HW4 : Hid (w3.alloc (.cells #[.int .u8 1] 5) = w4) := hw4.symm
    rw [← hw4] at s4
    have b4 : Below w3.heap.size w3 w4 := by rw [hw4]; exact (Below.refl _ _).alloc (Nat.le_refl _) _
    obtain ⟨g4, hg4⟩ : ∃ g, g = w3.heap.size := ⟨_, rfl⟩
    have HG4 : Hid (w3.heap.size = g4) := hg4.symm
    rw [← hg4] at s4
    obtain ⟨E1, hE1⟩ : ∃ L, L = E ++ [1] := ⟨_, rfl⟩
    obtain ⟨g, rc, w5, hr, o5, b5, -⟩ := app21 w4 (m := 1) (N := E1) (c2 := 1) hE1 (own_below21 o3 b4) s4 rfl (by decide) (by omega) (Nat.le_trans b3.size b4.size)
    have HF : Hid (Rb21 w E1 (.returned (.slice (some ⟨g, 0, none⟩) E1.length rc)) w5) := by
      have bb : Below w2.heap.size w2 w5 := (b3.trans (b4.mono b3.size)).trans b5
      exact ⟨some ⟨g, 0, none⟩, rc, rfl, own_base21 o5 HB2.out.size, HB2.out.trans (bb.mono HB2.out.size)⟩
    have HE1 : Hid (E1 = E ++ [1]) := hE1
    rw [hw4, hg4] at hr
    clear hE1 x0 x1 x2 hw4 hg4 s4 b4 o5 b5 o3 HE
    go_wp2_with (first | (at_builtin; refine wpList_app21 rfl (.tmp 13) (.tmp 14) 22 rfl rfl rfl hr ?_))
    go_ret
    rw [← HE1.out]
    exact HF.out
end Go.Proofs.YtmjlpfmacblcpaaDoor
