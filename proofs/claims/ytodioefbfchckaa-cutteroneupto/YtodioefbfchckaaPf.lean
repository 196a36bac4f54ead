import Derived.Test.YtodioefbfchckaaPe
import Derived.Laws.MakeOwn
import Derived.Deep.AppendLies
import Derived.WalkLawsBesides
namespace Go.Proofs.Ytodioefbfchckaa
open Go.RowKit Go.Shelf
set_option linter.unusedVariables false
attribute [local go_sem] Oper.semAt_some

/-! An append whose run is known, in a round. -/
theorem wpListIn_app16 {F : Fence} {n : Nat} {P : Program} {ops : Array Oper} {rest : List Oper} {o : Oper} {a : Act} {Q : Exit → Act → World → Prop} {w : World} (hg : o.guard = none) (s x : Operand) (t : TypeId)
    (hop : o.op = Op.call { callee := Callee.builtin Builtin.append, args := #[s, x], argTypes := #[t, t] }) {u v v' : Value} {w' : World} (hs : a.eval s = u) (hx : a.eval x = v) (hr : (Builtin.append_ #[t, t] o.type #[u, v]).run P w = .ok v' w')
    (h : wpListIn F n P ops Q rest (a.put o.dst v') w') : wpListIn F n P ops Q (o :: rest) a w := by
  refine wpListIn_plain hg fun K hK' => ?_
  unfold Oper.wpIn
  refine ⟨?_, ?_⟩
  · simp [Oper.about, hop, resolve, Target.leads, Sem.run_pure]
  · rw [Oper.semAt_plain F _ _ (by rw [hop]; intro c hc'; cases hc')]
    simp [execOp, hop, resolve, invoke, builtin, hs, hx, hr, Result.andThen]
    exact hK' _ _ h
theorem operwp_app16 {P : Program} {o : Oper} {a : Act} {K : Act → World → Prop} {Q : Exit → Act → World → Prop} {w : World} (s x : Operand) (t : TypeId)
    (ho : o.op = Op.call { callee := Callee.builtin Builtin.append, args := #[s, x], argTypes := #[t, t] }) {u v v' : Value} {w' : World} (hs : a.eval s = u) (hx : a.eval x = v) (hr : (Builtin.append_ #[t, t] o.type #[u, v]).run P w = .ok v' w')
    (h : K (a.put o.dst v') w') : Oper.wp P o a w K Q := by
  unfold Oper.wp execOp
  simp only [ho, resolve, invoke, builtin, Sem.run_bind, Sem.run_pure, Result.andThen_ok, List.map_toArray, List.map_cons, List.map_nil, hs, hx, hr]
  exact h

/-! Apply. -/
theorem info_u16 : (Try.prog.info? 5).map (fun i => (i.zero, i.size, i.bytes)) = some (some (.int .u8 0), 1, 1) := by kernel_rfl
/-- One byte more behind a row of the call's own. -/
structure Gr16 (V : World) (base : Nat) (ra : Option Addr) (n rc : Nat) (xs : List Value) (y : Value) (g rc' : Nat) (w' : World) : Prop where
  own : w'.ownsRow base 5 1 (.slice (some ⟨g, 0, none⟩) (n + 1) rc') (n + 1) (xs ++ [y])
  grown : V.grownBy w' (Value.slice ra n rc).ownBlock
  fresh : Fresh V (.slice ra n rc) (.slice (some ⟨g, 0, none⟩) (n + 1) rc')
theorem app16 (V : World) {base : Nat} {ra : Option Addr} {n rc : Nat} {xs : List Value} (y : Int) (hown : V.ownsRow base 5 1 (.slice ra n rc) n xs) (hn : n + 1 ≤ 140737488355328) (hbase : base ≤ V.heap.size) :
    ∃ g rc' w', (Builtin.append_ #[23, 23] 23 #[.slice ra n rc, .slice (some ⟨V.heap.size, 0, none⟩) 1 1]).run Try.prog (V.alloc (.cells #[.int .u8 y] 5)) = .ok (.slice (some ⟨g, 0, none⟩) (n + 1) rc') w' ∧ Gr16 V base ra n rc xs (.int .u8 y) g rc' w' := by
  obtain ⟨i0, hi, hz0, hz1, hz2⟩ := info_parts info_u16
  obtain ⟨v', w', hr, h2, h3, h4, h5⟩ := run_app_st (P := Try.prog) 23 23 base 5 i0 _ 1 Try.underlying23 hi hz0 hz1 hz2 rfl (V.alloc (.cells #[.int .u8 y] 5)) (hown.alloc _) ⟨V.heap.size, 0, none⟩ 1 1 [.int .u8 y] rfl (cell_one_new _ _ _) (by intro u hu; simp at hu; subst hu; rfl) hn (by omega) (by simp; omega)
  obtain ⟨g, cap, hv, _⟩ := own_shape h2 (Nat.succ_pos n)
  subst hv
  refine ⟨g, cap, w', hr, h2, grownBy_trans (World.grownBy_alloc V _ _) h3, fun k hk => ?_⟩
  rcases h5 k hk with e | e
  · exact .inl e
  · right; simp at e; omega
theorem ro16_in {z : Nat} {S : List St16} {D X : List Int} {n m k : Nat} (h : er16 z S m k = 0) (hn : S.length = n) : ∀ o ∈ og16 S D X n, o.2.2 = false → 0 ≤ o.1 ∧ o.1 < (z : Int) := by
  obtain ⟨h1, h2, h3⟩ := er16_zero h
  intro o ho hf
  rw [hn] at h3
  unfold ob16 at h3
  have h4 := of_decide_eq_false h3
  rw [← ro16_iff S (z : Int) (by omega) n] at h4
  by_cases hx : 0 ≤ o.1 ∧ o.1 < (z : Int)
  · exact hx
  · exact absurd ((ro16_og (D := D) (X := X) (z : Int) n).2 ⟨o, ho, hf, by omega⟩) h4
/-- The state of Apply's loop. -/
structure Ai16 (w : World) (R : Nat → Prop) (bO bz : Nat) (zv : Value) (z : List Int) (L : List Og16) (i : Nat) (E : Nat → Prop) (ra : Option Addr) (rc : Nat) (V : World) : Prop where
  hO : V.heap[bO]? = some (.cells #[.slice ra i rc] 23 (0, 0))
  hz : V.heap[bz]? = some (.cells #[zv] 23 (0, 0))
  own : V.ownsRow w.heap.size 5 1 (.slice ra i rc) i (((L.take i).map (by16 z)).map (Value.int .u8))
  nO : ∀ g, (Value.slice ra i rc).ownBlock = some g → g ≠ bO ∧ g ≠ bz ∧ ¬ E g ∧ ¬ R g
  bl : Below w.heap.size w V
theorem Ai16.kp {w : World} {R : Nat → Prop} {bO bz : Nat} {zv : Value} {z : List Int} {L : List Og16} {i : Nat} {E E' : Nat → Prop} {ra : Option Addr} {rc : Nat} {V V' : World} (h : Ai16 w R bO bz zv z L i E ra rc V) (hk : Kp E V V') (hE : ¬ E bO ∧ ¬ E bz) (hw : ∀ k, E k → w.heap.size ≤ k) (h2 : ∀ k, E' k → E k ∨ V.heap.size ≤ k) : Ai16 w R bO bz zv z L i E' ra rc V' := by
  refine ⟨hk.heap h.hO hE.1, hk.heap h.hz hE.2, own_kp h.own hk (fun x e => (h.nO x e).2.2.1), fun g e => ⟨(h.nO g e).1, (h.nO g e).2.1, fun x => ?_, (h.nO g e).2.2.2⟩, h.bl.trans (hk.below hw h.bl.size)⟩
  rcases h2 g x with y | y
  · exact (h.nO g e).2.2.1 y
  · have := (h.own.lt g e).2
    omega
theorem two_boxes16 (w : World) (u : Array Value) (t : TypeId) (v : Array Value) (t' : TypeId) : let w1 := (w.alloc (.cells u t)).alloc (.cells v t')
    Below w.heap.size w w1 ∧ w1.heap.size = w.heap.size + 2 ∧ w1.heap[w.heap.size]? = some (.cells u t (0, 0)) ∧ w1.heap[w.heap.size + 1]? = some (.cells v t' (0, 0)) := by
  refine ⟨(below_box16 _ _).trans ((below_box16 _ _).mono (by simp)), by simp, ?_, ?_⟩
  · exact (Below.heap_alloc (w.alloc (.cells u t)) _ w.heap.size (by simp)).trans (heap_alloc_new w _)
  · have := heap_alloc_new (w.alloc (.cells u t)) (.cells v t' (0, 0))
    rw [show (w.alloc (.cells u t)).heap.size = w.heap.size + 1 by simp] at this
    exact this
theorem grown_drew16 {V w' : World} {r : Option Nat} (h : V.drew.grownBy w' r) : V.grownBy w' r := ⟨h.os, h.tape, h.output, h.size, h.block⟩
/-- One byte more in Apply's loop. -/
theorem Ai16.more {w : World} {R : Nat → Prop} {bO bz : Nat} {zv : Value} {z : List Int} {L : List Og16} {i : Nat} {E : Nat → Prop} {ra : Option Addr} {rc : Nat} {V : World} (h : Ai16 w R bO bz zv z L i E ra rc V) (o : Og16) (y : Int) (ho : by16 z o = y) (hT : L.take (i + 1) = L.take i ++ [o])
    (hne : bO ≠ bz) (hlt : ∀ k, (E k ∨ R k ∨ k = bO ∨ k = bz) → k < V.heap.size) (hbO : ¬ E bO ∧ ¬ R bO) (hw : w.heap.size ≤ bO) {g rc' : Nat} {w' : World} (hg : Gr16 V w.heap.size ra i rc (((L.take i).map (by16 z)).map (Value.int .u8)) (.int .u8 y) g rc' w') :
    w'.heap[bO]? = some (.cells #[.slice ra i rc] 23 (0, 0)) ∧ Ai16 w R bO bz zv z L (i + 1) E (some ⟨g, 0, none⟩) rc' (w'.setCell ⟨bO, 0, none⟩ (.slice (some ⟨g, 0, none⟩) (i + 1) rc')) ∧ Kr16 (fun k => E k ∨ R k) V (w'.setCell ⟨bO, 0, none⟩ (.slice (some ⟨g, 0, none⟩) (i + 1) rc')) := by
  have kg : Kp (fun k => (Value.slice ra i rc).ownBlock = some k) V w' := Kp.grown hg.grown (fun i e => e)
  have hgn : g ≠ bO ∧ g ≠ bz ∧ ¬ E g ∧ ¬ R g := by
    rcases hg.fresh g rfl with e | e
    · exact h.nO g e
    · refine ⟨?_, ?_, ?_, ?_⟩
      · intro x; have := hlt bO (.inr (.inr (.inl rfl))); omega
      · intro x; have := hlt bz (.inr (.inr (.inr rfl))); omega
      · intro x; have := hlt g (.inl x); omega
      · intro x; have := hlt g (.inr (.inl x)); omega
  have hO' : w'.heap[bO]? = some (.cells #[.slice ra i rc] 23 (0, 0)) := kg.heap h.hO (fun e => (h.nO bO e).1 rfl)
  have ks : Kp (fun k => k = bO) w' (w'.setCell ⟨bO, 0, none⟩ (.slice (some ⟨g, 0, none⟩) (i + 1) rc')) := Kp.set (S := fun k => k = bO) rfl _
  refine ⟨hO', ⟨one_set16 hO' _, ks.heap (kg.heap h.hz (fun e => (h.nO bz e).2.1 rfl)) (fun e => hne e.symm), ?_, ?_, ?_⟩, ?_⟩
  · rw [hT, List.map_append, List.map_append]
    simp only [List.map_cons, List.map_nil, ho]
    exact own_kp hg.own ks (fun x e => by
      have : some g = some x := e
      injection this with this
      show ¬ x = bO
      omega)
  · intro x e
    have : some g = some x := e
    injection this with this
    subst this
    exact hgn
  · have b1 : Below w.heap.size V w' := kg.below (fun k e => (h.own.lt k e).1) h.bl.size
    exact (h.bl.trans b1).trans (ks.below (fun k e => by have e : k = bO := e; omega) (h.bl.trans b1).size)
  · refine ⟨Nat.le_trans kg.size ks.size, fun k hk x => ?_⟩
    refine (ks.block k (Nat.lt_of_lt_of_le hk kg.size) ?_).trans (kg.block k hk ?_)
    · intro e
      have e : k = bO := e
      subst e
      rcases x with x | x
      · exact hbO.1 x
      · exact hbO.2 x
    · intro e
      rcases x with x | x
      · exact (h.nO k e).2.2.1 x
      · exact (h.nO k e).2.2.2 x
variable {w : World} {sa da xa za : Option Addr} {n sc m dc k xc zl zc : Nat} {S : List St16} {D X z : List Int}
set_option maxRecDepth 100000 in
set_option maxHeartbeats 4000000 in
theorem papp16_no (h : Ed16 w sa n S da m D xa k X) (hzl : zl ≤ 1073741824) (he : er16 zl S m k ≠ 0) :
    Calls Try.prog 29 #[.slice za zl zc, ev16 sa n sc da m dc xa k xc] w fun e w' => e = .returned (.tuple #[.slice none 0 0, .int .i64 (er16 zl S m k)]) ∧ Below w.heap.size w w' := by
  obtain ⟨w1, hw1⟩ : ∃ w1, w1 = (w.alloc (.cells #[.slice za zl zc] 23)).alloc (.cells #[.slice sa n sc, .slice da m dc, .slice xa k xc] 28) := ⟨_, rfl⟩
  have hb := two_boxes16 w #[.slice za zl zc] 23 #[.slice sa n sc, .slice da m dc, .slice xa k xc] 28
  simp only [← hw1] at hb
  obtain ⟨b1, z1, q1, q2⟩ := hb
  have CS := psov16 (sc := sc) (dc := dc) (xc := xc) za zl zc hzl (h.old b1)
  have hov : ovR16 zl S m k = .tuple #[.int .i64 0, .int .i64 (er16 zl S m k)] := by unfold ovR16; rw [if_neg he]
  rw [hov] at CS
  have hne : (er16 zl S m k != 0) = true := by simpa using he
  have c1 := one_cell16 q1
  have c20 := three_cell0 q2
  have c21 := three_cell1 q2
  have c22 := three_cell2 q2
  unfold ev16 at CS ⊢
  rw [hw1] at c1 c20 c21 c22
  have HW1 : Hid (w1 = (w.alloc (.cells #[.slice za zl zc] 23)).alloc (.cells #[.slice sa n sc, .slice da m dc, .slice xa k xc] 28)) := hw1
  clear hw1 h hov z1
  generalize er16 zl S m k = er at *
  go_enter Try.func29, Try.ntmps29
  go_wp2_with (first
    | (go_at_call 55; rw [← HW1.out]; refine CS.mono ?_; rintro e1 w2 ⟨rfl, B2⟩; clear CS))
  go_ret2
  exact ⟨rfl, b1.trans (B2.mono b1.size)⟩
def ApQ16 (w : World) (l : List Int) (e : Ending) (w' : World) : Prop := ∃ ra rc, e = .returned (.tuple #[.slice ra l.length rc, .int .i64 0]) ∧ w'.ownsRow w.heap.size 5 1 (.slice ra l.length rc) l.length (l.map (Value.int .u8)) ∧ Below w.heap.size w w'
set_option maxRecDepth 100000 in
set_option maxHeartbeats 4000000 in
theorem papp16_ok (h : Ed16 w sa n S da m D xa k X) (hz : Seg w za z) (hzl : Hid (z.length = zl)) (hdc : m ≤ dc) (hxc : k ≤ xc) (he : er16 zl S m k = 0) :
    Calls Try.prog 29 #[.slice za zl zc, ev16 sa n sc da m dc xa k xc] w (ApQ16 w (ap16 z S D X)) := by
  obtain ⟨e1, e2, e3⟩ := er16_zero he
  obtain ⟨i1, i2, i3, i4⟩ := it16_zero e2
  obtain ⟨w1, hw1⟩ : ∃ w1, w1 = (w.alloc (.cells #[.slice za zl zc] 23)).alloc (.cells #[.slice sa n sc, .slice da m dc, .slice xa k xc] 28) := ⟨_, rfl⟩
  have hb := two_boxes16 w #[.slice za zl zc] 23 #[.slice sa n sc, .slice da m dc, .slice xa k xc] 28
  simp only [← hw1] at hb
  obtain ⟨b1, z1, q1, q2⟩ := hb
  have CS := psov16 (sc := sc) (dc := dc) (xc := xc) za zl zc (by omega) (h.old b1)
  have hov : ovR16 zl S m k = .tuple #[.int .i64 ((m + k : Nat) : Int), .int .i64 0] := by unfold ovR16; rw [if_pos he, he]
  rw [hov] at CS
  have hn := h.hn
  rw [hn] at i1 i2 i3
  have hin := ro16_in (D := D) (X := X) he hn
  have hogl := og16_len S D X n
  rw [i2, i3] at hogl
  have HL : Hid ((og16 S D X n).length = m + k) := hogl
  have HAP : Hid (ap16 z S D X = (og16 S D X n).map (by16 z)) := by show _ = _; unfold ap16; rw [hn]
  obtain ⟨mk, hmk⟩ : ∃ mk, mk = m + k := ⟨_, rfl⟩
  rw [← hmk] at CS HL
  have hmkl : mk ≤ 16777216 := by omega
  refine callsIn_wide.1 (callsIn_of_fn16 (n := 9) Try.func29 rfl ?_)
  unfold ev16 at CS ⊢
  simp only [Try.ntmps29, List.size_toArray, List.length_cons, List.length_nil, Nat.reduceAdd, Nat.reduceSub, Array.replicate_succ, Array.replicate_zero, List.push_toArray, List.append_toArray, List.nil_append, List.cons_append]
  have HZ1 : Hid (w1.heap.size = w.heap.size + 2) := z1
  have HMK : Hid (mk = m + k) := hmk
  obtain ⟨bz, hbz⟩ : ∃ bz, bz = w.heap.size := ⟨_, rfl⟩
  obtain ⟨be, hbe⟩ : ∃ be, be = w.heap.size + 1 := ⟨_, rfl⟩
  have HBz : Hid (bz = w.heap.size) := hbz
  have HBe : Hid (be = w.heap.size + 1) := hbe
  rw [← hbz] at q1
  rw [← hbe] at q2
  clear z1 hmk
  refine fn16_seq (fn16_ofP ?_)
  go_wp2
  rw [← hw1, ← hbe, ← hbz]
  clear hw1 hbz hbe
  have c1 := one_cell16 q1
  have c20 := three_cell0 q2
  have c21 := three_cell1 q2
  have c22 := three_cell2 q2
  refine fn16_seq (fn16_ofP ?_)
  go_wp2_with (first
    | (go_at_call 55; refine CS.mono ?_; rintro e4 w2 ⟨rfl, b2⟩; clear CS))
  refine fn16_seq (fn16_ofP ?_)
  go_wp2
  obtain ⟨i0, hi0, hz0, hz1, hz2⟩ := info_parts info_u16
  obtain ⟨w3, hmk3, own3, gr3⟩ := run_make_own (P := Try.prog) w2 w.heap.size 23 5 i0 _ 1 Try.underlying23 hi0 hz0 hz1 .i64 .i64 mk (by rw [hz2]; omega) (by unfold maxLen; omega) (by have := b1.size; have := b2.size; omega)
  clear hz0 hz1 hz2 hi0
  have b3 : Below w2.heap.size w2 w3 := (Kp.grown (S := fun _ => False) gr3 (fun i e => by cases e)).below (fun _ h => h.elim) (Nat.le_refl _)
  obtain ⟨gO, hgO⟩ : ∃ gO, gO = w2.heap.size := ⟨_, rfl⟩
  rw [← hgO] at hmk3 own3
  have HGO : Hid (gO = w2.heap.size) := hgO
  obtain ⟨bO, hbO⟩ : ∃ bO, bO = w3.heap.size := ⟨_, rfl⟩
  have HBO : Hid (bO = w3.heap.size) := hbO
  have cb4 := cb16 w3 #[.slice (some ⟨gO, 0, none⟩) 0 mk] 23
  obtain ⟨w4, hw4⟩ : ∃ w4, w4 = w3.alloc (.cells #[.slice (some ⟨gO, 0, none⟩) 0 mk] 23) := ⟨_, rfl⟩
  rw [← hw4] at cb4
  have HC4 : Hid (Cb16 w3 #[.slice (some ⟨gO, 0, none⟩) 0 mk] 23 w4) := cb4
  clear hgO gr3 cb4
  refine fn16_seq (fn16_ofP ?_)
  go_wp2
  rw [← hw4, ← hbO]
  clear hw4 hbO hmk3
  have b24 : Below w2.heap.size w2 w4 := b3.trans (HC4.out.bl.mono b3.size)
  have b14 : Below w1.heap.size w1 w4 := b2.trans (b24.mono b2.size)
  have b04 : Below w.heap.size w w4 := b1.trans (b14.mono b1.size)
  have q24 := (b14.block be (Array.getElem?_eq_some_iff.1 q2).1).trans q2
  have q14 := (b14.block bz (Array.getElem?_eq_some_iff.1 q1).1).trans q1
  have d20 := three_cell0 q24
  have d21 := three_cell1 q24
  have d22 := three_cell2 q24
  have CO := porig16 sa n sc da m dc xa k xc w4
  unfold ev16 at CO
  refine fn16_seq (fn16_seq (fn16_ofP ?_))
  go_wp2_with (first
    | (go_at_call 56; refine CO.mono ?_; rintro e5 w5 ⟨rfl, cb⟩; have HC5 : Hid (Cb16 w4 #[.slice sa n sc, .slice da m dc, .slice xa k xc] 28 w5) := cb; clear CO cb))
  obtain ⟨Bc, hBc⟩ : ∃ Bc, Bc = w4.heap.size := ⟨_, rfl⟩
  rw [← hBc]
  have hc5 := HC5.out
  have hc4 := HC4.out
  have b05 : Below w.heap.size w w5 := b04.trans (hc5.bl.mono b04.size)
  have h5 := h.old b05
  obtain ⟨R, hRB, hRs, hRd, hRx, HR⟩ : ∃ R : Nat → Prop, R Bc ∧ (∀ b off, sa = some ⟨b, off, none⟩ → 0 < S.length → R b) ∧ (∀ b off, da = some ⟨b, off, none⟩ → 0 < D.length → R b) ∧ (∀ b off, xa = some ⟨b, off, none⟩ → 0 < X.length → R b) ∧ Hid (∀ k, R k → k = Bc ∨ k < w.heap.size) :=
    ⟨fun k => k = Bc ∨ k < w.heap.size, .inl rfl, fun b off x y => .inr (h.ss.lt b off x y), fun b off x y => .inr (h.sd.lt b off x y), fun b off x y => .inr (h.sx.lt b off x y), fun k x => x⟩
  have sz1 := HZ1.out
  have sz2 := b2.size
  have sz3 := b3.size
  have sz4 := hc4.sz
  have sz5 := hc5.sz
  have hgO := HGO.out
  have hbO := HBO.out
  have hbz := HBz.out
  have hRl : ∀ k, R k → k < w5.heap.size := fun k x => by rcases HR.out k x with y | y <;> omega
  have SQ := os16 9 (by omega) Bc R w5 (by rw [hBc]; exact hc5.cl) h5 i1 i2 i3 hdc hxc hRB hRs hRd hRx hRl
  have hgl := (own3.lt gO rfl).2
  have AI0 : Ai16 w R bO bz (.slice za zl zc) z (og16 S D X n) 0 (fun _ => False) (some ⟨gO, 0, none⟩) mk w5 := by
    refine ⟨?_, ?_, ?_, ?_, b05⟩
    · rw [hbO]; exact (hc5.bl.block _ (by omega)).trans hc4.cl
    · exact (hc5.bl.block _ (by omega)).trans q14
    · exact own_below (own_below own3 hc4.bl) hc5.bl
    · intro g hg
      have : gO = g := by injection hg
      refine ⟨by omega, by omega, fun x => x, fun x => ?_⟩
      rcases HR.out g x with y | y <;> omega
  have HNB : Hid (bO < w5.heap.size ∧ bz < w5.heap.size ∧ w.heap.size ≤ bO ∧ w.heap.size ≤ bz ∧ bO ≠ bz ∧ bO ≠ Bc ∧ bz ≠ Bc) := ⟨by omega, by omega, by omega, by omega, by omega, by omega, by omega⟩
  have hbase : w.heap.size ≤ w5.heap.size := b05.size
  clear hc5 hc4 sz1 sz2 sz3 sz4 sz5 hgO hbO hbz HC5 HC4 HGO HBO HZ1 b24 b14 b04 q24 q14 d20 d21 d22 c1 c20 c21 c22 own3 b3 q1 q2 b1 b2 HBz HBe hBc hov i2 i3 e2 e3 he h5 hogl
  refine fn16_block ?_
  refine range16 (n := 9) (w := w5) Try.func29 (gf := 68) (lb := #[.pointer (some ⟨Bc, 0, none⟩)]) ?_ ?_ hRl SQ ?_
    (fun i E V => ∃ ra rc, Ai16 w R bO bz (.slice za zl zc) z (og16 S D X n) i E ra rc V) ?_ (fun _ _ _ => False) ?_ ⟨_, _, AI0⟩ ?_ ?_ ?_
  · rfl
  · intro _ _; rfl
  · intro v hv
    simp only [ol16, List.mem_map] at hv
    obtain ⟨i, _, rfl⟩ := hv
    rfl
  · rintro i E E' A B ⟨ra, rc, hA⟩ hlo hk _ h2 _
    have := HNB.out
    exact ⟨ra, rc, hA.kp hk ⟨fun x => by have := (hlo _ x).1; omega, fun x => by have := (hlo _ x).1; omega⟩ (fun k x => by have := (hlo _ x).1; omega) h2⟩
  · intro _ _ _ _ _ h; exact h.elim
  · rintro l i v E V hv ⟨ra, rc, hA⟩ hlo hEl hlr hkr
    have hil : i < (og16 S D X n).length := by
      have := (List.getElem?_eq_some_iff.1 hv).1
      rwa [ol16_len] at this
    have hgi : (og16 S D X n)[i]? = some (og16 S D X n)[i] := List.getElem?_eq_getElem hil
    rw [ol16_get hgi] at hv
    obtain rfl := Option.some.inj hv
    have hmem : (og16 S D X n)[i] ∈ og16 S D X n := List.getElem_mem hil
    have hin1 := hin _ hmem
    have hbd := og16_bd (S := S) (D := D) (X := X) h.sd.bd h.sx.bd n _ hmem
    have HTK : Hid ((og16 S D X n).take (i + 1) = (og16 S D X n).take i ++ [(og16 S D X n)[i]]) := List.take_succ_eq_append_getElem hil
    generalize (og16 S D X n)[i] = o at *
    obtain ⟨at_, ov, ow⟩ := o
    simp only at hin1 hbd
    unfold ov16
    simp only
    obtain ⟨wA, hwA⟩ : ∃ wA, wA = V.alloc (.cells #[.int .i64 at_, .int .u8 ov, .bool ow] 118) := ⟨_, rfl⟩
    have HWA : Hid (V.alloc (.cells #[.int .i64 at_, .int .u8 ov, .bool ow] 118) = wA) := hwA.symm
    have cA : Cb16 V #[.int .i64 at_, .int .u8 ov, .bool ow] 118 wA := by rw [hwA]; exact cb16 _ _ _
    obtain ⟨os, hos⟩ : ∃ os, os = V.heap.size := ⟨_, rfl⟩
    have HOS : Hid (os = V.heap.size) := hos
    have hloA : Lo16 w5.heap.size E wA := fun k x => by have := hlo k x; have := cA.sz; omega
    have hNB := HNB.out
    have hAA : Ai16 w R bO bz (.slice za zl zc) z (og16 S D X n) i E ra rc wA := hA.kp (Kp.of_below cA.bl) ⟨fun x => by have := (hlo _ x).1; omega, fun x => by have := (hlo _ x).1; omega⟩ (fun k x => by have := (hlo _ x).1; omega) (fun k x => .inl x)
    have qA : wA.heap[os]? = some (.cells #[.int .i64 at_, .int .u8 ov, .bool ow] 118 (0, 0)) := by rw [hos]; exact cA.cl
    have HVA : Hid (Kr16 (fun k => E k ∨ R k) V wA) := ⟨cA.bl.size, fun k hk _ => cA.bl.block k hk⟩
    have hl'o : l < os := by have := hlo l hEl; omega
    have hoO : os ≠ bO ∧ os ≠ bz := by have := hkr.size; omega
    have HLT : Hid (∀ k, (E k ∨ R k ∨ k = bO ∨ k = bz) → k < wA.heap.size) := by
      have hsz := cA.sz
      have hks := hkr.size
      rintro k (x | x | x | x)
      · have := hloA k x; omega
      · have := hRl k x; omega
      · omega
      · omega
    have HBO2 : Hid (¬ E bO ∧ ¬ R bO) := ⟨fun x => by have := (hlo _ x).1; omega, fun x => by rcases HR.out _ x with y | y <;> omega⟩
    have HEL : Hid (E l) := hEl
    have HNE : Hid ((¬ E bO ∧ ¬ E bz) ∧ ∀ k, E k → w.heap.size ≤ k) := ⟨⟨fun x => by have := (hlo _ x).1; omega, fun x => by have := (hlo _ x).1; omega⟩, fun k x => by have := (hlo _ x).1; omega⟩
    have HROW : Hid (∀ g, (Value.slice ra i rc).ownBlock = some g → g < os ∧ w.heap.size ≤ g) := fun g e => by have := hA.own.lt g e; omega
    have him : i + 1 ≤ 140737488355328 := by have := HL.out; omega
    clear hwA cA hos hlo hA hlr hkr hEl hloA hgi hv hmem hin AI0 SQ hNB hil
    gi_wp2
    rw [HWA.out, ← HOS.out]
    refine As16.mk HVA.out ⟨_, _, hAA⟩ (fun V2 hk2 _ _ => ?_)
    have hA2 := hAA.kp (E' := E) (hk2.mono (S' := E) (fun k _ x => by rw [show k = l from x]; exact HEL.out)) HNE.out.1 HNE.out.2 (fun k x => .inl x)
    have hs2 := hk2.size
    have q2 := hk2.heap qA (by show ¬ os = l; omega)
    have a0 := three_cell0 q2
    have a1 := three_cell1 q2
    have a2 := three_cell2 q2
    have c1 := one_cell16 hA2.hO
    have c2 := one_cell16 hA2.hz
    have hbase2 : w.heap.size ≤ V2.heap.size := hA2.bl.size
    have hNB := HNB.out
    have hosl : os < V2.heap.size := (Array.getElem?_eq_some_iff.1 q2).1
    clear hAA qA HVA HWA hk2
    cases ow with
    | true =>
      obtain ⟨g, rc', w', hr, hG⟩ := app16 V2 ov hA2.own him hbase2
      obtain ⟨p1, p2, p3⟩ := hA2.more (0, ov, true) ov rfl (by rw [HTK.out, hbd.2.2 rfl]) hNB.2.2.2.2.1 (fun k x => Nat.lt_of_lt_of_le (HLT.out k x) hs2) HBO2.out hNB.2.2.1 hG
      have d1 := one_cell16 p1
      have d2 := one_free16 (i := 0) p1
      have HP : Hid (Ai16 w R bO bz (.slice za zl zc) z (og16 S D X n) (i + 1) E (some ⟨g, 0, none⟩) rc' (w'.setCell ⟨bO, 0, none⟩ (.slice (some ⟨g, 0, none⟩) (i + 1) rc'))) := p2
      have HK : Hid (Kr16 (fun k => E k ∨ R k) V2 (w'.setCell ⟨bO, 0, none⟩ (.slice (some ⟨g, 0, none⟩) (i + 1) rc'))) := p3
      clear p1 p2 p3 hG hA2 hNB hin1 hbd
      gi_wp2_with (refine wpListIn_app16 (by rfl) _ _ _ (by rfl) (by rfl) (by rfl) hr ?_)
      exact ⟨⟨_, _, HP.out⟩, HK.out⟩
    | false =>
      obtain ⟨hat0, hat1⟩ := hin1 rfl
      obtain ⟨an, han⟩ : ∃ an : Nat, (an : Int) = at_ := ⟨at_.toNat, by omega⟩
      have hanl : an < z.length := by rw [hzl.out]; omega
      obtain ⟨zb, zo, hza, c3⟩ := (hz.old hA2.bl).at_ an hanl
      have hzv := hz.bd an
      obtain ⟨y, hy⟩ : ∃ y, y = by16 z (at_, ov, false) := ⟨_, rfl⟩
      have hby : IntKind.u8.wrap (z.getD an 0 + ov) = y := by
        rw [hy]; unfold by16; simp only [Bool.false_eq_true, if_false, ← han, Int.toNat_natCast]
        rfl
      obtain ⟨g, rc', w', hr, hG⟩ := app16 V2.drew y hA2.own him hbase2
      have HKG : Hid (∀ p v, V2.cell? p = some v → (Value.slice ra i rc).ownBlock ≠ some p.block → w'.cell? p = some v) := fun p v hp hn => by
        have hb := (grown_drew16 hG.grown).block p.block (World.block_lt_of_cell? V2 _ hp) (fun e => hn e.symm)
        rw [World.cell?_of_block (w := V2) hb]; exact hp
      have hzbl : zb < w.heap.size := by
        have hl := hz.lt zb zo hza (by omega)
        exact hl
      have HN5 : Hid ((Value.slice ra i rc).ownBlock ≠ some os ∧ (Value.slice ra i rc).ownBlock ≠ some bO ∧ (Value.slice ra i rc).ownBlock ≠ some bz ∧ (Value.slice ra i rc).ownBlock ≠ some zb) :=
        ⟨fun e => by have := HROW.out _ e; omega, fun e => (hA2.nO _ e).1 rfl, fun e => (hA2.nO _ e).2.1 rfl, fun e => by have := HROW.out _ e; omega⟩
      obtain ⟨p1, p2, p3⟩ := hA2.more (V := V2) (at_, ov, false) y hy.symm HTK.out hNB.2.2.2.2.1 (fun k x => Nat.lt_of_lt_of_le (HLT.out k x) hs2) HBO2.out hNB.2.2.1 ⟨hG.own, grown_drew16 hG.grown, hG.fresh⟩
      have d1 := one_cell16 p1
      have d2 := one_free16 (i := 0) p1
      have HP : Hid (Ai16 w R bO bz (.slice za zl zc) z (og16 S D X n) (i + 1) E (some ⟨g, 0, none⟩) rc' (w'.setCell ⟨bO, 0, none⟩ (.slice (some ⟨g, 0, none⟩) (i + 1) rc'))) := p2
      have HK : Hid (Kr16 (fun k => E k ∨ R k) V2 (w'.setCell ⟨bO, 0, none⟩ (.slice (some ⟨g, 0, none⟩) (i + 1) rc'))) := p3
      have ho0 : (0 : Int) ≤ (an : Int) := by omega
      have hol : (an : Int) < (zl : Int) := by omega
      subst han
      subst hza
      generalize z.getD an 0 = zv at *
      clear p1 p2 p3 hG hA2 hNB hy hat0 hat1 hanl hin1
      gi_wp2
      refine round_region16 (fun V => V.cell? ⟨os, 0, none⟩ = some (.int .i64 (an : Int)) ∧ V.cell? ⟨os, 1, none⟩ = some (.int .u8 ov) ∧ V.cell? ⟨bO, 0, none⟩ = some (.slice ra i rc) ∧ V.cell? ⟨bz, 0, none⟩ = some (.slice (some ⟨zb, zo, none⟩) zl zc) ∧ V.cell? ⟨zb, zo + an, none⟩ = some (.int .u8 zv)) 11 (by kernel_rfl) (by kernel_rfl) ⟨a0, a1, c1, c2, c3⟩ (fun hHeld => ?_)
      refine wpAnyK_take (i := 0) (v := .slice ra i rc) rfl (by kernel_rfl) (by kernel_rfl) (by kernel_rfl) (by kernel_rfl) (fun _ _ _ h => nomatch h.1) (Or.inl ⟨by rfl, fun w hSw => by go_simp⟩) hHeld ?_
      simp only [List.getElem_toArray, List.getElem_cons_zero, Act.put, List.setIfInBounds_toArray, List.set_cons_zero, List.set_cons_succ]
      refine wpAnyK_take (i := 1) (v := .slice (some ⟨zb, zo, none⟩) zl zc) rfl (by kernel_rfl) (by kernel_rfl) (by kernel_rfl) (by kernel_rfl) (fun _ _ _ h => nomatch h.1) (Or.inl ⟨by rfl, fun w hSw => by go_simp⟩) hHeld ?_
      simp only [List.getElem_toArray, List.getElem_cons_zero, List.getElem_cons_succ, Act.put, List.setIfInBounds_toArray, List.set_cons_zero, List.set_cons_succ]
      refine wpAnyK_take (i := 2) (v := .pointer (some ⟨os, 0, none⟩)) rfl (by kernel_rfl) (by kernel_rfl) (by kernel_rfl) (by kernel_rfl) (fun _ _ _ h => nomatch h.1) (Or.inl ⟨by rfl, fun w hSw => by go_simp⟩) hHeld ?_
      simp only [List.getElem_toArray, List.getElem_cons_zero, List.getElem_cons_succ, Act.put, List.setIfInBounds_toArray, List.set_cons_zero, List.set_cons_succ]
      refine wpAnyK_take (i := 3) (v := .int .i64 (an : Int)) rfl (by kernel_rfl) (by kernel_rfl) (by kernel_rfl) (by kernel_rfl) (fun _ _ _ h => nomatch h.1) (Or.inl ⟨by rfl, fun w hSw => by go_simp⟩) hHeld ?_
      simp only [List.getElem_toArray, List.getElem_cons_zero, List.getElem_cons_succ, Act.put, List.setIfInBounds_toArray, List.set_cons_zero, List.set_cons_succ]
      refine wpAnyK_take (i := 4) (v := .pointer (some ⟨zb, zo + an, none⟩)) rfl (by kernel_rfl) (by kernel_rfl) (by kernel_rfl) (by kernel_rfl) (fun _ _ _ h => nomatch h.1) (Or.inl ⟨by rfl, fun w hSw => by go_simp⟩) hHeld ?_
      simp only [List.getElem_toArray, List.getElem_cons_zero, List.getElem_cons_succ, Act.put, List.setIfInBounds_toArray, List.set_cons_zero, List.set_cons_succ]
      refine wpAnyK_take (i := 5) (v := .int .u8 zv) rfl (by kernel_rfl) (by kernel_rfl) (by kernel_rfl) (by kernel_rfl) (fun _ _ _ h => nomatch h.1) (Or.inl ⟨by rfl, fun w hSw => by go_simp⟩) hHeld ?_
      simp only [List.getElem_toArray, List.getElem_cons_zero, List.getElem_cons_succ, Act.put, List.setIfInBounds_toArray, List.set_cons_zero, List.set_cons_succ]
      refine wpAnyK_take (i := 6) (v := .pointer (some ⟨os, 1, none⟩)) rfl (by kernel_rfl) (by kernel_rfl) (by kernel_rfl) (by kernel_rfl) (fun _ _ _ h => nomatch h.1) (Or.inl ⟨by rfl, fun w hSw => by go_simp⟩) hHeld ?_
      simp only [List.getElem_toArray, List.getElem_cons_zero, List.getElem_cons_succ, Act.put, List.setIfInBounds_toArray, List.set_cons_zero, List.set_cons_succ]
      refine wpAnyK_take (i := 7) (v := .int .u8 ov) rfl (by kernel_rfl) (by kernel_rfl) (by kernel_rfl) (by kernel_rfl) (fun _ _ _ h => nomatch h.1) (Or.inl ⟨by rfl, fun w hSw => by go_simp⟩) hHeld ?_
      simp only [List.getElem_toArray, List.getElem_cons_zero, List.getElem_cons_succ, Act.put, List.setIfInBounds_toArray, List.set_cons_zero, List.set_cons_succ]
      refine wpAnyK_take (i := 8) (v := .int .u8 y) rfl (by kernel_rfl) (by kernel_rfl) (by kernel_rfl) (by kernel_rfl) (fun _ _ _ h => nomatch h.1) (Or.inl ⟨by rfl, fun w hSw => by go_simp⟩) hHeld ?_
      simp only [List.getElem_toArray, List.getElem_cons_zero, List.getElem_cons_succ, Act.put, List.setIfInBounds_toArray, List.set_cons_zero, List.set_cons_succ]
      refine wpAnyK_one (i := 9) (by kernel_rfl) rfl (fun K hK => ?_)
      (try simp only [List.getElem_toArray, List.getElem_cons_zero, List.getElem_cons_succ, Act.put, List.setIfInBounds_toArray, List.set_cons_zero, List.set_cons_succ])
      go_simp
      have k0 : ∀ o, (V2.alloc o).drew.cell? ⟨os, 0, none⟩ = some (.int .i64 (an : Int)) := fun o => (((Below.refl V2.heap.size V2).alloc (Nat.le_refl _) o).cell (p := ⟨os, 0, none⟩) hosl).trans a0
      have k1 : ∀ o, (V2.alloc o).drew.cell? ⟨os, 1, none⟩ = some (.int .u8 ov) := fun o => (((Below.refl V2.heap.size V2).alloc (Nat.le_refl _) o).cell (p := ⟨os, 1, none⟩) hosl).trans a1
      have k2 : ∀ o, (V2.alloc o).drew.cell? ⟨bO, 0, none⟩ = some (.slice ra i rc) := fun o => (((Below.refl V2.heap.size V2).alloc (Nat.le_refl _) o).cell (p := ⟨bO, 0, none⟩) (World.block_lt_of_cell? V2 _ c1)).trans c1
      have k3 : ∀ o, (V2.alloc o).drew.cell? ⟨bz, 0, none⟩ = some (.slice (some ⟨zb, zo, none⟩) zl zc) := fun o => (((Below.refl V2.heap.size V2).alloc (Nat.le_refl _) o).cell (p := ⟨bz, 0, none⟩) (World.block_lt_of_cell? V2 _ c2)).trans c2
      have k4 : ∀ o, (V2.alloc o).drew.cell? ⟨zb, zo + an, none⟩ = some (.int .u8 zv) := fun o => (((Below.refl V2.heap.size V2).alloc (Nat.le_refl _) o).cell (p := ⟨zb, zo + an, none⟩) (World.block_lt_of_cell? V2 _ c3)).trans c3
      refine hK.out _ _ (fun _ => ⟨k0 _, k1 _, k2 _, k3 _, k4 _⟩) (fun hHeld0 => ?_)
      have hHeld := hHeld0 (by decide)
      clear hHeld0 hK K
      (try simp only [List.getElem_toArray, List.getElem_cons_zero, List.getElem_cons_succ, Act.put, List.setIfInBounds_toArray, List.set_cons_zero, List.set_cons_succ])
      refine wpAnyK_one (i := 10) (by kernel_rfl) rfl (fun K hK => ?_)
      simp only [List.getElem_toArray, List.getElem_cons_zero, List.getElem_cons_succ]
      rw [if_pos (by rfl)]
      refine operwp_app16 _ _ _ rfl rfl rfl hr ?_
      refine hK.out _ _ (fun _ => ⟨HKG.out _ _ a0 HN5.out.1, HKG.out _ _ a1 HN5.out.1, HKG.out _ _ c1 HN5.out.2.1, HKG.out _ _ c2 HN5.out.2.2.1, HKG.out _ _ c3 HN5.out.2.2.2⟩) (fun hHeld0 => ?_)
      have hHeld := hHeld0 (by decide)
      clear hHeld0 hK K
      simp only [Act.put, List.setIfInBounds_toArray, List.set_cons_zero, List.set_cons_succ]
      refine wpAnyK_one (i := 11) (by kernel_rfl) rfl (fun K hK => ?_)
      simp only [List.getElem_toArray, List.getElem_cons_zero, List.getElem_cons_succ, Act.put]
      go_simp
      refine hK.out _ _ (fun h => absurd rfl h) (fun _ => ?_)
      clear hK K
      refine wpAnyK_done (by kernel_rfl) ?_ _
      exact ⟨rfl, ⟨_, _, HP.out⟩, HK.out⟩
  · rintro Dd E V hED hlo ⟨ra, rc, hA⟩ hD
    rw [ol16_len, HL.out] at hA
    have c1 := one_cell16 hA.hO
    have HA : Hid (Ai16 w R bO bz (.slice za zl zc) z (og16 S D X n) mk E ra rc V) := hA
    have hDw : w.heap.size ≤ Dd := by have := (hlo Dd hED).1; omega
    have HED : Hid (E Dd) := hED
    clear hA hlo SQ AI0 hin h hz
    refine fn16_ofP ?_
    go_wp2_with fail
    refine ⟨by simp, .inl ⟨_, _, rfl, run_takeDeferred hD, ?_⟩⟩
    have hA := HA.out
    refine ⟨_, results_tmp2 rfl _ _ _, ?_⟩
    have hlen : (ap16 z S D X).length = mk := by rw [HAP.out, List.length_map, HL.out]
    refine ⟨ra, rc, by rw [hlen]; rfl, ?_, hA.bl.trans ((Kp.put16 (S := fun k => w.heap.size ≤ k) hDw _).below (fun _ h => h) hA.bl.size)⟩
    rw [hlen, HAP.out]
    have h1 := hA.own
    rw [List.take_of_length_le (by rw [HL.out]; exact Nat.le_refl _)] at h1
    exact own_kp h1 (Kp.put16 (S := E) HED.out _) (fun x e => (hA.nO x e).2.2.1)
  · intro ch D E W _ _ h; exact h.elim
end Go.Proofs.Ytodioefbfchckaa

namespace Go.Proofs.Ytodioefbfchckaa
open Go.RowKit Go.Shelf
set_option linter.unusedVariables false

/-! The writer: bytes are laid down, by their origins, in as few steps as can be. -/
structure Wt16 where
  S : List St16
  D : List Int
  X : List Int
  a : Nat
  c : Nat
  p : Int
def flat16 (l : List St16) : List Value := l.flatMap fun t => [.int .i64 t.1, .int .i64 t.2.1, .int .i64 t.2.2]
theorem flat16_app (l r : List St16) : flat16 (l ++ r) = flat16 l ++ flat16 r := by unfold flat16; rw [List.flatMap_append]
theorem info_st16 : (Try.prog.info? 98).map (fun i => (i.zero, i.size, i.bytes)) = some (some (.agg #[.int .i64 0, .int .i64 0, .int .i64 0]), 3, 24) := by kernel_rfl
theorem own_kp16 {w w' : World} {S : Nat → Prop} {base n sz : Nat} {e : TypeId} {v : Value} {xs : List Value} (h : w.ownsRow base e sz v n xs) (hb : Kp S w w') (hn : ∀ x, v.ownBlock = some x → ¬ S x) : w'.ownsRow base e sz v n xs := by
  refine ⟨h.1, ?_⟩
  rcases h.2 with h | ⟨g, cap, cur, h1, h2, h3, h4⟩
  · exact .inl h
  · exact .inr ⟨g, cap, cur, h1, h2, hb.heap h3 (hn g (by rw [h1]; rfl)), h4⟩
/-- A writer in memory: its block, its three rows apart from one another. -/
structure Wr16 (base bw : Nat) (vS vD vX : Value) (s : Wt16) (sk : Int) (w : World) : Prop where
  hp : w.heap[bw]? = some (.cells #[vS, vD, vX, .int .i64 (s.a : Int), .int .i64 (s.c : Int), .int .i64 sk, .int .i64 s.p] 177 (0, 0))
  oS : w.ownsRow base 98 3 vS s.S.length (flat16 s.S)
  oD : w.ownsRow base 5 1 vD s.D.length (s.D.map (Value.int .u8))
  oX : w.ownsRow base 5 1 vX s.X.length (s.X.map (Value.int .u8))
  nS : vS.ownBlock ≠ some bw
  nD : vD.ownBlock ≠ some bw
  nX : vX.ownBlock ≠ some bw
  sd : ∀ g, vS.ownBlock = some g → vD.ownBlock ≠ some g
  sx : ∀ g, vS.ownBlock = some g → vX.ownBlock ≠ some g
  dx : ∀ g, vD.ownBlock = some g → vX.ownBlock ≠ some g
  bb : base ≤ bw
/-- The writer's own blocks. -/
def Wf16 (bw : Nat) (vS vD vX : Value) : Nat → Prop := fun k => k = bw ∨ vS.ownBlock = some k ∨ vD.ownBlock = some k ∨ vX.ownBlock = some k
theorem Wr16.kp {base bw : Nat} {vS vD vX : Value} {s : Wt16} {sk : Int} {w w' : World} {E : Nat → Prop} (h : Wr16 base bw vS vD vX s sk w) (hk : Kp E w w') (hE : ∀ k, Wf16 bw vS vD vX k → ¬ E k) : Wr16 base bw vS vD vX s sk w' :=
  ⟨hk.heap h.hp (hE bw (.inl rfl)), own_kp16 h.oS hk (fun x e => hE x (.inr (.inl e))), own_kp h.oD hk (fun x e => hE x (.inr (.inr (.inl e)))), own_kp h.oX hk (fun x e => hE x (.inr (.inr (.inr e)))), h.nS, h.nD, h.nX, h.sd, h.sx, h.dx, h.bb⟩
theorem Wr16.lt {base bw : Nat} {vS vD vX : Value} {s : Wt16} {sk : Int} {w : World} (h : Wr16 base bw vS vD vX s sk w) : ∀ k, Wf16 bw vS vD vX k → base ≤ k ∧ k < w.heap.size := by
  rintro k (rfl | e | e | e)
  · exact ⟨h.bb, (Array.getElem?_eq_some_iff.1 h.hp).1⟩
  · exact h.oS.lt k e
  · exact h.oD.lt k e
  · exact h.oX.lt k e
theorem seven_cells {V : World} {b : Nat} {x0 x1 x2 x3 x4 x5 x6 : Value} {t : TypeId} (h : V.heap[b]? = some (.cells #[x0, x1, x2, x3, x4, x5, x6] t (0, 0))) : V.cell? ⟨b, 0, none⟩ = some x0 ∧ V.cell? ⟨b, 1, none⟩ = some x1 ∧ V.cell? ⟨b, 2, none⟩ = some x2 ∧ V.cell? ⟨b, 3, none⟩ = some x3 ∧ V.cell? ⟨b, 4, none⟩ = some x4 ∧ V.cell? ⟨b, 5, none⟩ = some x5 ∧ V.cell? ⟨b, 6, none⟩ = some x6 := by
  simp [World.cell?, h]
theorem seven_free {w : World} {b i : Nat} {x0 x1 x2 x3 x4 x5 x6 : Value} {t : TypeId} (h : w.heap[b]? = some (.cells #[x0, x1, x2, x3, x4, x5, x6] t (0, 0))) : w.frozen? ⟨b, i, none⟩ = false := by simp [World.frozen?, h]
/-- Step appended: the run. -/
theorem apps16 (V : World) {base : Nat} {v : Value} {n : Nat} {xs : List Value} (y : St16) (hown : V.ownsRow base 98 3 v n xs) (hn : n + 1 ≤ 1099511627776) (hbase : base ≤ V.heap.size) :
    ∃ g rc w', (Builtin.append_ #[26, 26] 26 #[v, .slice (some ⟨V.heap.size, 0, none⟩) 1 1]).run Try.prog (V.alloc (.cells #[.int .i64 y.1, .int .i64 y.2.1, .int .i64 y.2.2] 98)) = .ok (.slice (some ⟨g, 0, none⟩) (n + 1) rc) w' ∧
      w'.ownsRow base 98 3 (.slice (some ⟨g, 0, none⟩) (n + 1) rc) (n + 1) (xs ++ [.int .i64 y.1, .int .i64 y.2.1, .int .i64 y.2.2]) ∧ Kp (fun k => v.ownBlock = some k) V w' ∧ (v.ownBlock = some g ∨ V.heap.size ≤ g) := by
  obtain ⟨i0, hi, hz0, hz1, hz2⟩ := info_parts info_st16
  obtain ⟨g, rc, w', hr, h1, h2, h3, h4⟩ := run_append_lies (P := Try.prog) (V.alloc (.cells #[.int .i64 y.1, .int .i64 y.2.1, .int .i64 y.2.2] 98)) 26 26 base 98 i0 _ 3 24 Try.underlying26 hi hz0 hz1 hz2 rfl (by omega) v n xs (hown.alloc _) ⟨V.heap.size, 0, none⟩ 1 1 [.int .i64 y.1, .int .i64 y.2.1, .int .i64 y.2.2] rfl
    (World.news_of_block (heap_alloc_new V (.cells #[.int .i64 y.1, .int .i64 y.2.1, .int .i64 y.2.2] 98 (0, 0)))) (by intro u hu; simp at hu; rcases hu with rfl | rfl | rfl <;> rfl) (by omega) (by unfold maxLen; omega) (by omega) (by simp; omega) (V.heap.size + 1) (by simp)
  refine ⟨g, rc, w', hr, h1, (Kp.alloc V _).trans (Kp.grown (S := fun k => v.ownBlock = some k) h2 (fun i e => e)) (fun _ _ e => e), ?_⟩
  rcases h3 with h | h
  · exact .inl h
  · exact .inr (by omega)
theorem appb16 (V : World) {base : Nat} {v : Value} {n : Nat} {xs : List Value} (y : Int) (hown : V.ownsRow base 5 1 v n xs) (hn : n + 1 ≤ 1099511627776) (hbase : base ≤ V.heap.size) :
    ∃ g rc w', (Builtin.append_ #[23, 23] 23 #[v, .slice (some ⟨V.heap.size, 0, none⟩) 1 1]).run Try.prog (V.alloc (.cells #[.int .u8 y] 5)) = .ok (.slice (some ⟨g, 0, none⟩) (n + 1) rc) w' ∧
      w'.ownsRow base 5 1 (.slice (some ⟨g, 0, none⟩) (n + 1) rc) (n + 1) (xs ++ [.int .u8 y]) ∧ Kp (fun k => v.ownBlock = some k) V w' ∧ (v.ownBlock = some g ∨ V.heap.size ≤ g) := by
  obtain ⟨i0, hi, hz0, hz1, hz2⟩ := info_parts info_u16
  obtain ⟨g, rc, w', hr, h1, h2, h3, h4⟩ := run_append_lies (P := Try.prog) (V.alloc (.cells #[.int .u8 y] 5)) 23 23 base 5 i0 _ 1 1 Try.underlying23 hi hz0 hz1 hz2 rfl (by omega) v n xs (hown.alloc _) ⟨V.heap.size, 0, none⟩ 1 1 [.int .u8 y] rfl
    (World.news_of_block (heap_alloc_new V (.cells #[.int .u8 y] 5 (0, 0)))) (by intro u hu; simp at hu; subst hu; rfl) (by omega) (by unfold maxLen; omega) (by omega) (by simp; omega) (V.heap.size + 1) (by simp)
  refine ⟨g, rc, w', hr, h1, (Kp.alloc V _).trans (Kp.grown (S := fun k => v.ownBlock = some k) h2 (fun i e => e)) (fun _ _ e => e), ?_⟩
  rcases h3 with h | h
  · exact .inl h
  · exact .inr (by omega)
def Wt16.seek (s : Wt16) (to : Int) : Wt16 := ⟨s.S ++ [((s.a : Int), (s.c : Int), to - s.p)], s.D, s.X, 0, 0, to⟩
/-- All is given up. -/
def pn16 : List PanicEntry := [{ v := .iface 31 (.int .i64 160), recovered := false }]
/-- The writer's steps have moved, if at all. -/
def SkQ16 (base bw : Nat) (vS vD vX : Value) (s : Wt16) (w : World) (e : Ending) (w' : World) : Prop :=
  e = .returned (.tuple #[]) ∧ ∃ vS', Wr16 base bw vS' vD vX s 0 w' ∧ Kp (Wf16 bw vS vD vX) w w' ∧ (∀ g, vS'.ownBlock = some g → vS.ownBlock = some g ∨ w.heap.size ≤ g)
theorem seven_set5 {w : World} {b : Nat} {x0 x1 x2 x3 x4 x5 x6 : Value} {t : TypeId} (h : w.heap[b]? = some (.cells #[x0, x1, x2, x3, x4, x5, x6] t (0, 0))) (u : Value) : (w.setCell ⟨b, 5, none⟩ u).heap[b]? = some (.cells #[x0, x1, x2, x3, x4, u, x6] t (0, 0)) := by
  simp [World.setCell, Array.getElem?_modify, h]
theorem seven_end {V : World} {b : Nat} {x0 x1 x2 x3 x4 x5 x6 : Value} {t : TypeId} (h : V.heap[b]? = some (.cells #[x0, x1, x2, x3, x4, x5, x6] t (0, 0))) (v0 v3 v4 v5 v6 : Value) : (((((V.setCell ⟨b, 0, none⟩ v0).setCell ⟨b, 3, none⟩ v3).setCell ⟨b, 4, none⟩ v4).setCell ⟨b, 5, none⟩ v5).setCell ⟨b, 6, none⟩ v6).heap[b]? = some (.cells #[v0, x1, x2, v3, v4, v5, v6] t (0, 0)) := by
  simp [World.setCell, Array.getElem?_modify, h]
variable {base bw : Nat} {vS vD vX : Value} {s : Wt16} {w : World}
end Go.Proofs.Ytodioefbfchckaa
