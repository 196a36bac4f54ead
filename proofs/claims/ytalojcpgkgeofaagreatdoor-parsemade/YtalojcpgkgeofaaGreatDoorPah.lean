import Derived.Test.YtalojcpgkgeofaaGreatDoorPag
import Derived.Laws.MakeOwn
import Derived.Test.YtalojcpgkgeofaaGreatDoorProg
import Derived.WalkKit
import Derived.Lib.BitFns
import Derived.Laws.BitsAllLaws
namespace Go.Proofs.YtalojcpgkgeofaaGreatDoor
open Go.RowKit Go.Shelf
set_option linter.unusedVariables false
attribute [local go_sem] Oper.semAt_some

/-! origins: where the bytes come from, one by one. -/
def ov16 (o : Og16) : Value := .agg #[.int .i64 o.1, .int .u8 o.2.1, .bool o.2.2]
def ol16 (l : List Og16) : List (Array Value) := l.map fun o => #[ov16 o]
theorem ol16_len (l : List Og16) : (ol16 l).length = l.length := by simp [ol16]
theorem ol16_get {l : List Og16} {i : Nat} {o : Og16} (h : l[i]? = some o) : (ol16 l)[i]? = some #[ov16 o] := by simp [ol16, h]
theorem SegK.kr {k : IntKind} {M : Int} {w w' : World} {D : Nat → Prop} {a : Option Addr} {zs : List Int} (h : SegK k M w a zs) (hb : Kr16 D w w') (hn : ∀ b off, a = some ⟨b, off, none⟩ → 0 < zs.length → D b) : SegK k M w' a zs :=
  h.of_cells fun b off i v hi ha hcl => hb.cell hcl (hn b off ha (by omega))
theorem roundIn_any16 {P : Program} {n n' l l' : Nat} {f : FuncId} {tmps : Array Value} {assign body : Code} {w : World} {R : Ending → World → Prop} (h : RoundIn Fence.wide n P l f tmps assign body w R) : RoundIn (Fence.wide.inRound l') n' P l f tmps assign body w R :=
  ⟨trivial, fun c cs _ => h.2 c cs (room_wide _)⟩
/-- Two boxes more. -/
structure Ob16 (w : World) (bD bX : Nat) (u v : Value) (t : TypeId) (w' : World) : Prop where
  bl : Below w.heap.size w w'
  nD : w.heap.size ≤ bD
  nX : w.heap.size ≤ bX
  ne : bD ≠ bX
  hD : w'.heap[bD]? = some (.cells #[u] t (0, 0))
  hX : w'.heap[bX]? = some (.cells #[v] t (0, 0))
theorem ob16a (w : World) (u v : Value) (t : TypeId) : Ob16 w w.heap.size (w.heap.size + 1) u v t ((w.alloc (.cells #[u] t)).alloc (.cells #[v] t)).drew := by
  refine ⟨(((Below.refl _ _).alloc (Nat.le_refl _) _).alloc (by simp) _).drew, Nat.le_refl _, by omega, by omega, ?_, ?_⟩
  · exact (Below.heap_alloc (w.alloc (.cells #[u] t)) _ w.heap.size (by simp)).trans (heap_alloc_new w _)
  · have := heap_alloc_new (w.alloc (.cells #[u] t)) (.cells #[v] t (0, 0))
    rw [show (w.alloc (.cells #[u] t)).heap.size = w.heap.size + 1 by simp] at this
    exact this
theorem ob16b (w : World) (u v : Value) (t : TypeId) : Ob16 w (w.heap.size + 1) w.heap.size u v t ((w.alloc (.cells #[v] t)).alloc (.cells #[u] t)).drew := by
  have h := ob16a w v u t
  exact ⟨h.bl, h.nX, h.nD, Ne.symm h.ne, h.hX, h.hD⟩
/-- A box holds what is left of a list. -/
def Bl16 (V : World) (R : Nat → Prop) (b : Nat) (L : List Int) (t : TypeId) : Prop := ∃ pa pc, V.heap[b]? = some (.cells #[.slice pa L.length pc] t (0, 0)) ∧ Seg V pa L ∧ L.length ≤ pc ∧ ∀ x off, pa = some ⟨x, off, none⟩ → 0 < L.length → R x
theorem Bl16.kr {V V' : World} {R G : Nat → Prop} {b : Nat} {L : List Int} {t : TypeId} (h : Bl16 V R b L t) (hk : Kr16 G V V') (hb : G b) (hR : ∀ k, R k → G k) : Bl16 V' R b L t := by
  obtain ⟨pa, pc, h1, h2, h3, h4⟩ := h
  exact ⟨pa, pc, hk.heap h1 hb, h2.kr hk (fun x off e hl => hR _ (h4 x off e hl)), h3, h4⟩
/-- What is left behind a reslice. -/
def rs16 (a : Option Addr) (c d : Nat) : Option Addr := if c = d then a else a.map fun x => x.add d
theorem seg_rs16 {V : World} {a : Option Addr} {L : List Int} {c d : Nat} (h : Seg V a L) (hd : d ≤ L.length) (hc : L.length ≤ c) : Seg V (rs16 a c d) (L.drop d) ∧ ∀ x off, rs16 a c d = some ⟨x, off, none⟩ → 0 < (L.drop d).length → ∃ o, a = some ⟨x, o, none⟩ := by
  unfold rs16
  by_cases h0 : L.drop d = []
  · rw [h0]
    exact ⟨SegK.nil (by decide) _ _, fun _ _ _ hl => by simp at hl⟩
  · have hl : d < L.length := by
      rcases Nat.lt_or_ge d L.length with x | x
      · exact x
      · exact absurd (List.drop_eq_nil_of_le x) h0
    rw [if_neg (by omega)]
    obtain ⟨b, off, rfl, _⟩ := h.at_ 0 (by omega)
    have hadd : (⟨b, off, none⟩ : Addr).add d = ⟨b, off + d, none⟩ := by simp [Addr.add]
    simp only [Option.map_some, hadd]
    refine ⟨h.drop d, fun x o e _ => ?_⟩
    have e2 : some (⟨b, off + d, none⟩ : Addr) = some ⟨x, o, none⟩ := e
    injection e2 with e2
    injection e2 with e3 e4
    subst e3
    exact ⟨off, rfl⟩
/-- The state of origins' own loop. -/
structure Oi16 (W : World) (R : Nat → Prop) (J : Nat → (Nat → Prop) → World → Prop) (l : Nat) (S : List St16) (D X : List Int) (bY bD bX Bw N : Nat) (i : Nat) (E F : Nat → Prop) (V : World) : Prop where
  ef : ∀ k, E k → F k
  fY : F bY
  fD : F bD
  fX : F bX
  fw : F Bw
  lo : Lo16 W.heap.size F V
  j : J (sa16 S i + sc16 S i) F V
  hY : V.heap[bY]? = some (.cells #[.func (.yield l) #[] #[]] 400 (0, 0))
  hD : Bl16 V R bD (D.drop (sa16 S i)) 26
  hX : Bl16 V R bX (X.drop (sc16 S i)) 26
  kr : Kr16 R W V
  sz : N ≤ V.heap.size
theorem Oi16.step {W : World} {R : Nat → Prop} {J : Nat → (Nat → Prop) → World → Prop} {l : Nat} {S : List St16} {D X : List Int} {bY bD bX Bw N i : Nat} {E E' F : Nat → Prop} {V V' : World} (hJ : Abd16 W.heap.size J) (hN : W.heap.size ≤ N) (hRl : ∀ k, R k → k < W.heap.size)
    (hl : bY < N ∧ bD < N ∧ bX < N) (h : Oi16 W R J l S D X bY bD bX Bw N i E F V) (hlo : Lo16 N E V) (hk : Kp E V V') (h1 : ∀ k, E k → E' k) (h2 : ∀ k, E' k → E k ∨ V.heap.size ≤ k) (h3 : Lo16 N E' V') (G : Nat → Prop) (hG : ∀ k, G k → V.heap.size ≤ k ∧ k < V'.heap.size) : Oi16 W R J l S D X bY bD bX Bw N i E' (fun k => (F k ∨ E' k) ∨ G k) V' := by
  have hs := hk.size
  have hkr : Kr16 (fun k => R k ∨ k = bY ∨ k = bD ∨ k = bX) V V' := Kr16.of_kp hk (by
    rintro k (x | x | x | x) e
    · have := hRl k x; have := hlo k e; omega
    · have := hlo k e; omega
    · have := hlo k e; omega
    · have := hlo k e; omega)
  have hsz := h.sz
  have lo2 : Lo16 W.heap.size (fun k => (F k ∨ E' k) ∨ G k) V' := by
    rintro k ((x | x) | x)
    · have := h.lo k x; omega
    · have := h3 k x; omega
    · have := hG k x; omega
  refine ⟨fun k x => .inl (.inr x), .inl (.inl h.fY), .inl (.inl h.fD), .inl (.inl h.fX), .inl (.inl h.fw), lo2, ?_, hkr.heap h.hY (.inr (.inl rfl)), h.hD.kr hkr (.inr (.inr (.inl rfl))) (fun k x => .inl x), h.hX.kr hkr (.inr (.inr (.inr rfl))) (fun k x => .inl x), h.kr.trans (hkr.mono fun k x => .inl x), by have := h.sz; omega⟩
  refine hJ _ F _ V V' h.j h.lo (hk.mono fun k _ x => h.ef k x) (fun k x => .inl (.inl x)) ?_ lo2
  rintro k ((x | x) | x)
  · exact .inl x
  · rcases h2 k x with y | y
    · exact .inl (h.ef k y)
    · exact .inr y
  · exact .inr (hG k x).1
end Go.Proofs.YtalojcpgkgeofaaGreatDoor

namespace Go.Proofs.YtalojcpgkgeofaaGreatDoor
open Go.RowKit Go.Shelf
set_option linter.unusedVariables false
attribute [local go_sem] Oper.semAt_some

/-! An append whose run is known, in a round. -/
theorem wpListIn_app16 {F : Fence} {n : Nat} {P : Program} {ops : Array Oper} {rest : List Oper} {o : Oper} {a : Act} {Q : Exit → Act → World → Prop} {w : World} (hg : o.guard = none) (s x : Operand) (t : TypeId)
    (hop : o.op = Op.call { callee := Callee.builtin Builtin.append, args := #[s, x], argTypes := #[t, t] }) {u v v' : Value} {w' : World} (hs : a.eval s = u) (hx : a.eval x = v) (hr : (Builtin.append_ #[t, t] o.type #[u, v]).run P w = .ok v' w')
    (h : wpListIn F n P ops Q rest (a.put o.dst v') w') : wpListIn F n P ops Q (o :: rest) a w := by
  refine wpListIn_plain hg fun K hK' => ?_
  unfold Oper.wpIn
  refine ⟨?_, ?_⟩
  · simp [Oper.about, hop, resolve, Target.leads, Sem.run_pure]
  · rw [Oper.semAt_plain F _ _ (by rw [hop]; intro c hc'; cases hc')]
    simp [execOp, hop, resolve, invoke, builtin, hs, hx, hr, Result.andThen]
    exact hK' _ _ h
theorem operwp_app16 {P : Program} {o : Oper} {a : Act} {K : Act → World → Prop} {Q : Exit → Act → World → Prop} {w : World} (s x : Operand) (t : TypeId)
    (ho : o.op = Op.call { callee := Callee.builtin Builtin.append, args := #[s, x], argTypes := #[t, t] }) {u v v' : Value} {w' : World} (hs : a.eval s = u) (hx : a.eval x = v) (hr : (Builtin.append_ #[t, t] o.type #[u, v]).run P w = .ok v' w')
    (h : K (a.put o.dst v') w') : Oper.wp P o a w K Q := by
  unfold Oper.wp execOp
  simp only [ho, resolve, invoke, builtin, Sem.run_bind, Sem.run_pure, Result.andThen_ok, List.map_toArray, List.map_cons, List.map_nil, hs, hx, hr]
  exact h

/-! Apply. -/
theorem info_u16 : (Tryz.prog.info? 5).map (fun i => (i.zero, i.size, i.bytes)) = some (some (.int .u8 0), 1, 1) := by kernel_rfl
/-- One byte more behind a row of the call's own. -/
structure Gr16 (V : World) (base : Nat) (ra : Option Addr) (n rc : Nat) (xs : List Value) (y : Value) (g rc' : Nat) (w' : World) : Prop where
  own : w'.ownsRow base 5 1 (.slice (some ⟨g, 0, none⟩) (n + 1) rc') (n + 1) (xs ++ [y])
  grown : V.grownBy w' (Value.slice ra n rc).ownBlock
  fresh : Fresh V (.slice ra n rc) (.slice (some ⟨g, 0, none⟩) (n + 1) rc')
theorem app16 (V : World) {base : Nat} {ra : Option Addr} {n rc : Nat} {xs : List Value} (y : Int) (hown : V.ownsRow base 5 1 (.slice ra n rc) n xs) (hn : n + 1 ≤ 140737488355328) (hbase : base ≤ V.heap.size) :
    ∃ g rc' w', (Builtin.append_ #[26, 26] 26 #[.slice ra n rc, .slice (some ⟨V.heap.size, 0, none⟩) 1 1]).run Tryz.prog (V.alloc (.cells #[.int .u8 y] 5)) = .ok (.slice (some ⟨g, 0, none⟩) (n + 1) rc') w' ∧ Gr16 V base ra n rc xs (.int .u8 y) g rc' w' := by
  obtain ⟨i0, hi, hz0, hz1, hz2⟩ := info_parts info_u16
  obtain ⟨v', w', hr, h2, h3, h4, h5⟩ := run_app_st (P := Tryz.prog) 26 26 base 5 i0 _ 1 Tryz.underlying26 hi hz0 hz1 hz2 rfl (V.alloc (.cells #[.int .u8 y] 5)) (hown.alloc _) ⟨V.heap.size, 0, none⟩ 1 1 [.int .u8 y] rfl (cell_one_new _ _ _) (by intro u hu; simp at hu; subst hu; rfl) hn (by omega) (by simp; omega)
  obtain ⟨g, cap, hv, _⟩ := own_shape h2 (Nat.succ_pos n)
  subst hv
  refine ⟨g, cap, w', hr, h2, grownBy_trans (World.grownBy_alloc V _ _) h3, fun k hk => ?_⟩
  rcases h5 k hk with e | e
  · exact .inl e
  · right; simp at e; omega
theorem ro16_in {z : Nat} {S : List St16} {D X : List Int} {n m k : Nat} (h : er16 z S m k = 0) (hn : S.length = n) : ∀ o ∈ og16 S D X n, o.2.2 = false → 0 ≤ o.1 ∧ o.1 < (z : Int) := by
  obtain ⟨h1, h2, h3⟩ := er16_zero h
  intro o ho hf
  rw [hn] at h3
  unfold ob16 at h3
  have h4 := of_decide_eq_false h3
  rw [← ro16_iff S (z : Int) (by omega) n] at h4
  by_cases hx : 0 ≤ o.1 ∧ o.1 < (z : Int)
  · exact hx
  · exact absurd ((ro16_og (D := D) (X := X) (z : Int) n).2 ⟨o, ho, hf, by omega⟩) h4
/-- The state of Apply's loop. -/
structure Ai16 (w : World) (R : Nat → Prop) (bO bz : Nat) (zv : Value) (z : List Int) (L : List Og16) (i : Nat) (E : Nat → Prop) (ra : Option Addr) (rc : Nat) (V : World) : Prop where
  hO : V.heap[bO]? = some (.cells #[.slice ra i rc] 26 (0, 0))
  hz : V.heap[bz]? = some (.cells #[zv] 26 (0, 0))
  own : V.ownsRow w.heap.size 5 1 (.slice ra i rc) i (((L.take i).map (by16 z)).map (Value.int .u8))
  nO : ∀ g, (Value.slice ra i rc).ownBlock = some g → g ≠ bO ∧ g ≠ bz ∧ ¬ E g ∧ ¬ R g
  bl : Below w.heap.size w V
theorem Ai16.kp {w : World} {R : Nat → Prop} {bO bz : Nat} {zv : Value} {z : List Int} {L : List Og16} {i : Nat} {E E' : Nat → Prop} {ra : Option Addr} {rc : Nat} {V V' : World} (h : Ai16 w R bO bz zv z L i E ra rc V) (hk : Kp E V V') (hE : ¬ E bO ∧ ¬ E bz) (hw : ∀ k, E k → w.heap.size ≤ k) (h2 : ∀ k, E' k → E k ∨ V.heap.size ≤ k) : Ai16 w R bO bz zv z L i E' ra rc V' := by
  refine ⟨hk.heap h.hO hE.1, hk.heap h.hz hE.2, own_kp h.own hk (fun x e => (h.nO x e).2.2.1), fun g e => ⟨(h.nO g e).1, (h.nO g e).2.1, fun x => ?_, (h.nO g e).2.2.2⟩, h.bl.trans (hk.below hw h.bl.size)⟩
  rcases h2 g x with y | y
  · exact (h.nO g e).2.2.1 y
  · have := (h.own.lt g e).2
    omega
theorem two_boxes16 (w : World) (u : Array Value) (t : TypeId) (v : Array Value) (t' : TypeId) : let w1 := (w.alloc (.cells u t)).alloc (.cells v t')
    Below w.heap.size w w1 ∧ w1.heap.size = w.heap.size + 2 ∧ w1.heap[w.heap.size]? = some (.cells u t (0, 0)) ∧ w1.heap[w.heap.size + 1]? = some (.cells v t' (0, 0)) := by
  refine ⟨(below_box16 _ _).trans ((below_box16 _ _).mono (by simp)), by simp, ?_, ?_⟩
  · exact (Below.heap_alloc (w.alloc (.cells u t)) _ w.heap.size (by simp)).trans (heap_alloc_new w _)
  · have := heap_alloc_new (w.alloc (.cells u t)) (.cells v t' (0, 0))
    rw [show (w.alloc (.cells u t)).heap.size = w.heap.size + 1 by simp] at this
    exact this
theorem grown_drew16 {V w' : World} {r : Option Nat} (h : V.drew.grownBy w' r) : V.grownBy w' r := ⟨h.os, h.tape, h.output, h.size, h.block⟩
/-- One byte more in Apply's loop. -/
theorem Ai16.more {w : World} {R : Nat → Prop} {bO bz : Nat} {zv : Value} {z : List Int} {L : List Og16} {i : Nat} {E : Nat → Prop} {ra : Option Addr} {rc : Nat} {V : World} (h : Ai16 w R bO bz zv z L i E ra rc V) (o : Og16) (y : Int) (ho : by16 z o = y) (hT : L.take (i + 1) = L.take i ++ [o])
    (hne : bO ≠ bz) (hlt : ∀ k, (E k ∨ R k ∨ k = bO ∨ k = bz) → k < V.heap.size) (hbO : ¬ E bO ∧ ¬ R bO) (hw : w.heap.size ≤ bO) {g rc' : Nat} {w' : World} (hg : Gr16 V w.heap.size ra i rc (((L.take i).map (by16 z)).map (Value.int .u8)) (.int .u8 y) g rc' w') :
    w'.heap[bO]? = some (.cells #[.slice ra i rc] 26 (0, 0)) ∧ Ai16 w R bO bz zv z L (i + 1) E (some ⟨g, 0, none⟩) rc' (w'.setCell ⟨bO, 0, none⟩ (.slice (some ⟨g, 0, none⟩) (i + 1) rc')) ∧ Kr16 (fun k => E k ∨ R k) V (w'.setCell ⟨bO, 0, none⟩ (.slice (some ⟨g, 0, none⟩) (i + 1) rc')) := by
  have kg : Kp (fun k => (Value.slice ra i rc).ownBlock = some k) V w' := Kp.grown hg.grown (fun i e => e)
  have hgn : g ≠ bO ∧ g ≠ bz ∧ ¬ E g ∧ ¬ R g := by
    rcases hg.fresh g rfl with e | e
    · exact h.nO g e
    · refine ⟨?_, ?_, ?_, ?_⟩
      · intro x; have := hlt bO (.inr (.inr (.inl rfl))); omega
      · intro x; have := hlt bz (.inr (.inr (.inr rfl))); omega
      · intro x; have := hlt g (.inl x); omega
      · intro x; have := hlt g (.inr (.inl x)); omega
  have hO' : w'.heap[bO]? = some (.cells #[.slice ra i rc] 26 (0, 0)) := kg.heap h.hO (fun e => (h.nO bO e).1 rfl)
  have ks : Kp (fun k => k = bO) w' (w'.setCell ⟨bO, 0, none⟩ (.slice (some ⟨g, 0, none⟩) (i + 1) rc')) := Kp.set (S := fun k => k = bO) rfl _
  refine ⟨hO', ⟨one_set16 hO' _, ks.heap (kg.heap h.hz (fun e => (h.nO bz e).2.1 rfl)) (fun e => hne e.symm), ?_, ?_, ?_⟩, ?_⟩
  · rw [hT, List.map_append, List.map_append]
    simp only [List.map_cons, List.map_nil, ho]
    exact own_kp hg.own ks (fun x e => by
      have : some g = some x := e
      injection this with this
      show ¬ x = bO
      omega)
  · intro x e
    have : some g = some x := e
    injection this with this
    subst this
    exact hgn
  · have b1 : Below w.heap.size V w' := kg.below (fun k e => (h.own.lt k e).1) h.bl.size
    exact (h.bl.trans b1).trans (ks.below (fun k e => by have e : k = bO := e; omega) (h.bl.trans b1).size)
  · refine ⟨Nat.le_trans kg.size ks.size, fun k hk x => ?_⟩
    refine (ks.block k (Nat.lt_of_lt_of_le hk kg.size) ?_).trans (kg.block k hk ?_)
    · intro e
      have e : k = bO := e
      subst e
      rcases x with x | x
      · exact hbO.1 x
      · exact hbO.2 x
    · intro e
      rcases x with x | x
      · exact (h.nO k e).2.2.1 x
      · exact (h.nO k e).2.2.2 x
variable {w : World} {sa da xa za : Option Addr} {n sc m dc k xc zl zc : Nat} {S : List St16} {D X z : List Int}
def ApQ16 (w : World) (l : List Int) (e : Ending) (w' : World) : Prop := ∃ ra rc, e = .returned (.tuple #[.slice ra l.length rc, .int .i64 0]) ∧ w'.ownsRow w.heap.size 5 1 (.slice ra l.length rc) l.length (l.map (Value.int .u8)) ∧ Below w.heap.size w w'
end Go.Proofs.YtalojcpgkgeofaaGreatDoor

namespace Go.Proofs.YtalojcpgkgeofaaGreatDoor
open Go.RowKit
set_option linter.unusedVariables false

theorem tab_size : (Lib.len8tab.size : Int) = 256 := by rw [Lib.len8tab_size]; rfl
/-- One way's end: the table's number behind so many bits. -/
theorem len_end (k a : Nat) (y : Int) (h : y.toNat < Lib.len8tab.size) (h0 : 0 ≤ y) (h1 : y ≤ 255) (hk : k ≤ 56) (ha : a = k + Lib.bitLen y.toNat) : wrap64 ((k : Int) + wrap64 ((Lib.len8tab[y.toNat]'h).toNat : Int)) = (a : Int) := by
  have e : ((Lib.len8tab[y.toNat]'h).toNat : Int) = Lib.len8 y := by
    unfold Lib.len8
    rw [getElem?_pos Lib.len8tab y.toNat h]
    rfl
  have l := Lib.bitLen_le8' y h0 h1
  rw [e, Lib.len8_of y h0 h1, ha]
  unfold wrap64
  omega
theorem len_end0 (a : Nat) (y : Int) (h : y.toNat < Lib.len8tab.size) (h0 : 0 ≤ y) (h1 : y ≤ 255) (ha : a = Lib.bitLen y.toNat) : wrap64 (wrap64 ((Lib.len8tab[y.toNat]'h).toNat : Int)) = (a : Int) := by
  have := len_end 0 a y h h0 h1 (by omega) (by omega)
  simpa using this

theorem shift_to (x : Int) (d k : Nat) (h0 : 0 ≤ x) (h : Lib.bitLen x.toNat = k + Lib.bitLen (x.toNat / d)) (y : Int) (hy : y.toNat = x.toNat / d) : Lib.bitLen x.toNat = k + Lib.bitLen y.toNat := by rw [hy]; exact h

set_option maxHeartbeats 1000000 in
set_option maxRecDepth 100000 in
theorem len64_any (x : Int) (w : World) (h0 : 0 ≤ x) (h1 : x ≤ 18446744073709551615) :
    Calls Tryz.prog 136 #[.int .u64 x] w fun e w' => e = .returned (.int .i64 (Lib.bitLen x.toNat)) ∧ w' = w := by
  have hsz := tab_size
  go_enter Tryz.func136, Tryz.ntmps136
  go_wp2
  all_goals (go_ret; refine ⟨congrArg Ending.returned (congrArg (Value.int IntKind.i64) ?_), rfl⟩)
  · exact len_end 56 _ _ _ (by omega) (by omega) (by omega) (shift_to x 72057594037927936 56 h0 (Lib.bitLen_shift56 _ (by omega) (by omega)) _ (by omega))
  · exact len_end 48 _ _ _ (by omega) (by omega) (by omega) (shift_to x 281474976710656 48 h0 (Lib.bitLen_shift48 _ (by omega) (by omega)) _ (by omega))
  · exact len_end 40 _ _ _ (by omega) (by omega) (by omega) (shift_to x 1099511627776 40 h0 (Lib.bitLen_shift40 _ (by omega) (by omega)) _ (by omega))
  · exact len_end 32 _ _ _ (by omega) (by omega) (by omega) (shift_to x 4294967296 32 h0 (Lib.bitLen_shift32 _ (by omega) (by omega)) _ (by omega))
  · exact len_end 24 _ _ _ (by omega) (by omega) (by omega) (shift_to x 16777216 24 h0 (Lib.bitLen_shift24 _ (by omega) (by omega)) _ (by omega))
  · exact len_end 16 _ _ _ (by omega) (by omega) (by omega) (shift_to x 65536 16 h0 (Lib.bitLen_shift16 _ (by omega) (by omega)) _ (by omega))
  · exact len_end 8 _ _ _ (by omega) (by omega) (by omega) (shift_to x 256 8 h0 (Lib.bitLen_shift8 _ (by omega) (by omega)) _ (by omega))
  · exact len_end0 _ _ _ (by omega) (by omega) rfl
end Go.Proofs.YtalojcpgkgeofaaGreatDoor

namespace Go.Proofs.YtalojcpgkgeofaaGreatDoor
open Go.RowKit
set_option linter.unusedVariables false

theorem pow128 (c : Nat) : (128 : Int) ^ c = 2 ^ (7 * c) := by
  rw [Int.pow_mul]; rfl
theorem pow128_pos (c : Nat) : (0 : Int) < 128 ^ c := Int.pow_pos (by decide)
theorem pow128_mono {a b : Nat} (h : a ≤ b) : (128 : Int) ^ a ≤ 128 ^ b := by
  have := Nat.pow_le_pow_right (n := 128) (by decide) h
  have e : ∀ k : Nat, (128 : Int) ^ k = ((128 ^ k : Nat) : Int) := fun k => by simp
  rw [e, e]; omega
theorem pow128_8 : (128 : Int) ^ 8 = 72057594037927936 := by decide
theorem pow128_9 : (128 : Int) ^ 9 = 9223372036854775808 := by decide

theorem and127 (x : Int) (h0 : 0 ≤ x) (h1 : x ≤ 255) : bits .and .u8 x 127 = x % 128 := by
  rw [u8_and x 127 h0 (by omega) (by decide) (by decide)]
  have : Int.toNat 127 = 127 := rfl
  rw [this, nat_mask7]
  omega
theorem and128 (x : Int) (h0 : 0 ≤ x) (h1 : x ≤ 255) : bits .and .u8 x 128 = if 128 ≤ x then 128 else 0 := by
  rw [u8_and x 128 h0 (by omega) (by decide) (by decide)]
  have : Int.toNat 128 = 2 ^ 7 := rfl
  rw [this, nat_bit]
  split <;> omega

/-- The number that a byte's seven bits make a greater one. -/
def tkVal (v : Int) (c : Nat) (x : Int) : Int := v + x % 128 * 128 ^ c

theorem tk_fits (c : Nat) (x : Int) (hc : c ≤ 9) (h0 : 0 ≤ x) (h9 : c = 9 → x ≤ 1) : 0 ≤ x % 128 * 128 ^ c ∧ x % 128 * 128 ^ c + 128 ^ c ≤ 18446744073709551616 := by
  have hp := pow128_pos c
  have hm : 0 ≤ x % 128 := by omega
  refine ⟨Int.mul_nonneg hm (Int.le_of_lt hp), ?_⟩
  by_cases e : c = 9
  · subst e
    have := h9 rfl
    rw [pow128_9]
    omega
  · have h8 : (128 : Int) ^ c ≤ 128 ^ 8 := pow128_mono (by omega)
    rw [pow128_8] at h8
    have h2 : x % 128 * 128 ^ c ≤ 127 * 128 ^ c := Int.mul_le_mul_of_nonneg_right (by omega) (Int.le_of_lt hp)
    omega

theorem tk_or (v : Int) (c : Nat) (x : Int) (hv : 0 ≤ v) (hv1 : v < 128 ^ c) (hc : c ≤ 9) (h0 : 0 ≤ x) (h1 : x ≤ 255) (h9 : c = 9 → x ≤ 1) :
    bits .or .u64 v (IntKind.u64.wrap (IntKind.u64.wrap (bits .and .u8 x 127) * 2 ^ (7 * c))) = tkVal v c x := by
  have hf := tk_fits c x hc h0 h9
  have hp := pow128_pos c
  have e1 : IntKind.u64.wrap (bits .and .u8 x 127) = x % 128 := by
    rw [and127 x h0 h1, IntKind.wrap_u64]; exact Int.emod_eq_of_lt (by omega) (by omega)
  have e2 : IntKind.u64.wrap (x % 128 * 128 ^ c) = x % 128 * 128 ^ c := by
    rw [IntKind.wrap_u64]; exact Int.emod_eq_of_lt hf.1 (by omega)
  rw [e1, ← pow128, e2]
  unfold tkVal
  generalize hy : x % 128 * 128 ^ c = y at *
  have hd : y % 128 ^ c = 0 := by rw [← hy]; exact Int.mul_emod_left _ _
  have hc2 : ((128 : Int) ^ c) = ((2 ^ (7 * c) : Nat) : Int) := by rw [pow128]; simp
  rw [hc2] at hd hv1 hf
  obtain ⟨V, rfl⟩ := Int.eq_ofNat_of_zero_le hv
  obtain ⟨Y, rfl⟩ := Int.eq_ofNat_of_zero_le hf.1
  rw [u64_or_nat V Y (by omega) (by omega), Nat.or_comm, nat_join (7 * c) Y V (by omega) (by omega)]
  omega
end Go.Proofs.YtalojcpgkgeofaaGreatDoor
