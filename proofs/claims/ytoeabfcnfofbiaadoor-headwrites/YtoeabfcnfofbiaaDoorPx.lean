import Derived.Test.YtoeabfcnfofbiaaDoorPs
import Derived.Test.YtoeabfcnfofbiaaDoorPw
import Derived.Test.YtoeabfcnfofbiaaDoorPr
import Derived.Deep.RegionHeld3
import Derived.Deep.RegionWith
import Derived.Test.YtoeabfcnfofbiaaDoorPa
import Derived.WalkKit
import Derived.ProofKit
import Derived.OpenShut
import Derived.SizedLaws
import Derived.Deep.Slices
import Derived.Lib.SmallJoins
import Derived.Test.YtoeabfcnfofbiaaDoorRows
import Derived.Deep.DeepHandedRow
import Derived.Lib.LaidTab
import Derived.LaidSub
namespace Go.Proofs.YtoeabfcnfofbiaaDoor
open Go.RowKit
set_option linter.unusedVariables false

variable {w w0 w' wP wR : World} {b bx B : Nat} {v v' u u' : Value} {L L' M : List Bool}
theorem WrL.apartR (h1 : WrL w b B v L) (h2 : RwL w bx B u M) (hk : Kp (WS bx u) w w') (hb : b ≠ bx) (hb1 : b < B) (hb2 : bx < B) (hap : Ap v.ownBlock u.ownBlock) : WrL w' b B v L := by
  refine h1.kp hk ?_ ?_
  · rintro (e | e)
    · exact hb e
    · have := (h2.own_lt _ e).1; omega
  · intro k e
    have hk1 := h1.own_lt k e
    rintro (e2 | e2)
    · omega
    · exact hap k e e2
theorem RwL.apartW (h1 : RwL w bx B u M) (h2 : WrL w b B v L) (hk : Kp (WS b v) w w') (hb : b ≠ bx) (hb1 : b < B) (hb2 : bx < B) (hap : Ap v.ownBlock u.ownBlock) : RwL w' bx B u M := by
  refine h1.kp hk ?_ ?_
  · rintro (e | e)
    · exact hb e.symm
    · have := (h2.own_lt _ e).1; omega
  · intro k e
    have hk1 := h1.own_lt k e
    rintro (e2 | e2)
    · omega
    · exact hap k e2 e
theorem Ap.freshR (hap : Ap u.ownBlock v.ownBlock) (h1 : RwL w bx B u M) (hf : Fresh w v v') : Ap u.ownBlock v'.ownBlock := by
  intro k e1 e2
  have := (h1.own_lt k e1).2.1
  rcases hf k e2 with e | e
  · exact hap k e1 e
  · omega
def PS (b bx : Nat) (v u : Value) : Nat → Prop := fun k => WS b v k ∨ WS bx u k
/-- A Writer and the document's Writer beside each other, with the same bits. -/
structure Pair (w : World) (b bx B : Nat) (v u : Value) (L : List Bool) : Prop where
  g : WrL w b B v L
  x : RwL w bx B u L
  ap : Ap v.ownBlock u.ownBlock
/-- Both have gone on. -/
def Done (w w' : World) (b bx B : Nat) (v u : Value) (L : List Bool) : Prop := ∃ v' u', Pair w' b bx B v' u' L ∧ Kp (PS b bx v u) w w' ∧ Fresh w v v' ∧ Fresh w u u'
theorem Fresh.wide (h : Fresh w' v v') (hs : w.heap.size ≤ w'.heap.size) : Fresh w v v' := fun k e => (h k e).imp id (fun e => by omega)
theorem pair_wr (h : Pair w0 b bx B v u L) (hb : b ≠ bx) (hb1 : b < B) (hb2 : bx < B) (gP : WrL wP b B v' L') (kP : Kp (WS b v) w0 wP) (fP : Fresh w0 v v') (gR : RwL wR bx B u' L') (kR : Kp (WS bx u) wP wR) (fR : Fresh wP u u') : Done w0 wR b bx B v u L' := by
  have xP := h.x.apartW h.g kP hb hb1 hb2 h.ap
  have ap1 : Ap u.ownBlock v'.ownBlock := h.ap.symm.freshR h.x fP
  refine ⟨v', u', ⟨gP.apartR xP kR hb hb1 hb2 ap1.symm, gR, ap1.symm.fresh gP fR⟩, ?_, fP, fR.wide kP.size⟩
  exact (kP.mono (S' := PS b bx v u) (fun _ _ e => .inl e)).trans kR (fun _ _ e => .inr e)
theorem pair_rw (h : Pair w0 b bx B v u L) (hb : b ≠ bx) (hb1 : b < B) (hb2 : bx < B) (gR : RwL wR bx B u' L') (kR : Kp (WS bx u) w0 wR) (fR : Fresh w0 u u') (gP : WrL wP b B v' L') (kP : Kp (WS b v) wR wP) (fP : Fresh wR v v') : Done w0 wP b bx B v u L' := by
  have gX := h.g.apartR h.x kR hb hb1 hb2 h.ap
  have ap1 : Ap v.ownBlock u'.ownBlock := h.ap.fresh h.g fR
  refine ⟨v', u', ⟨gP, gR.apartW gX kP hb hb1 hb2 ap1, (ap1.symm.freshR gR fP).symm⟩, ?_, fP.wide kR.size, fR⟩
  exact (kR.mono (S' := PS b bx v u) (fun _ _ e => .inr e)).trans kP (fun _ _ e => .inl e)
theorem Pair.kp {S : Nat → Prop} (h : Pair w b bx B v u L) (hk : Kp S w w') (h1 : ¬ S b) (h2 : ¬ S bx) (h3 : ∀ k, B ≤ k → k < w.heap.size → v.ownBlock = some k ∨ u.ownBlock = some k → ¬ S k) : Pair w' b bx B v u L :=
  ⟨h.g.kp hk h1 (fun k e => h3 k (h.g.own_lt k e).1 (h.g.own_lt k e).2.1 (.inl e)), h.x.kp hk h2 (fun k e => h3 k (h.x.own_lt k e).1 (h.x.own_lt k e).2.1 (.inr e)), h.ap⟩
theorem Pair.old (h : Pair w b bx B v u L) (hb : Below w.heap.size w w') : Pair w' b bx B v u L := h.kp (S := fun _ => False) (Kp.of_below hb) (by simp) (by simp) (by simp)
theorem Pair.done (h : Pair w' b bx B v u L) (hb : Below w.heap.size w w') : Done w w' b bx B v u L := ⟨v, u, h, Kp.of_below hb, Fresh.refl _ _, Fresh.refl _ _⟩
theorem Done.after (hb : Below w.heap.size w w0) (h : Done w0 w' b bx B v u L) (hb1 : b < w.heap.size) : Done w w' b bx B v u L := by
  obtain ⟨v', u', h1, h2, h3, h4⟩ := h
  exact ⟨v', u', h1, (Kp.of_below hb).trans h2 (fun _ _ e => e), h3.wide hb.size, h4.wide hb.size⟩
theorem Done.then_old (h : Done w w0 b bx B v u L) (hb : Below w0.heap.size w0 w') : Done w w' b bx B v u L := by
  obtain ⟨v', u', h1, h2, h3, h4⟩ := h
  exact ⟨v', u', h1.old hb, h2.trans (S' := fun _ => False) (Kp.of_below hb) (fun _ _ e => e.elim), h3, h4⟩

/-- What a call leaves of the bits. -/
def stepL (L : List Bool) (c : Int) (x : Nat) (n : Int) (p : List Int) : List Bool := if c = 0 then putL L x n else if c = 1 then turnL L x n else if c = 2 then alignL L else if c = 3 then alignL L ++ bB p else L

/-- A block of four cells. -/
theorem four_cell {w : World} {b : Nat} {x y z t : Value} {T : TypeId} (h : w.heap[b]? = some (.cells #[x, y, z, t] T (0, 0))) : w.cell? ⟨b, 0, none⟩ = some x ∧ w.cell? ⟨b, 1, none⟩ = some y ∧ w.cell? ⟨b, 2, none⟩ = some z ∧ w.cell? ⟨b, 3, none⟩ = some t := by simp [World.cell?, h]

end Go.Proofs.YtoeabfcnfofbiaaDoor

namespace Go.Proofs.YtoeabfcnfofbiaaDoor
open Go.RowKit
set_option linter.unusedVariables false

/-! HeadWrites. -/
def b2n (b : Bool) : Nat := if b then 1 else 0
theorem bN_b2n (b : Bool) : bN (b2n b) 1 = [b] := by cases b <;> decide
theorem takeB_snoc {L : List Bool} {i : Nat} (h : i < L.length) : L.take (i + 1) = L.take i ++ [L.getD i false] := by
  rw [List.take_succ_eq_append_getElem h]; simp [List.getD, h]
/-- A list that came in, and that may be lent. -/
structure Arg8 (w : World) (a : Option Addr) (zs : List Int) (n cap : Nat) : Prop where
  ln : zs.length = n
  seg : SegZ w a zs
  hcap : n ≤ cap
  hnil : a = none → cap = 0
  sz : n ≤ 1048576
/-- A list with room behind it. -/
structure Len8 (w : World) (g : Nat) (zs : List Int) (n cap : Nat) : Prop where
  seg : SegZ w (some ⟨g, 0, none⟩) (lentZ zs)
  ln : (lentZ zs).length = n + 4
  hcap : n + 4 ≤ cap
theorem Len8.old {w w' : World} {g n cap : Nat} {zs : List Int} (h : Len8 w g zs n cap) (hb : Below w.heap.size w w') : Len8 w' g zs n cap := ⟨h.seg.old hb, h.ln, h.hcap⟩
/-- Room that stays while a world grows. -/
structure Rm8 (w5 : World) (g : Nat) (zs : List Int) (n cap : Nat) : Prop where
  out : ∀ W', Below w5.heap.size w5 W' → Len8 W' g zs n cap
def LdQ (W : World) (zs : List Int) (n : Nat) (e : Ending) (w' : World) : Prop := ∃ g c, e = .returned (.slice (some ⟨g, 0, none⟩) (n + 4) c) ∧ Len8 w' g zs n c ∧ W.heap.size ≤ g ∧ Below W.heap.size W w'
theorem lendA8 {w W : World} {a : Option Addr} {zs : List Int} {n cap : Nat} (h : Arg8 w a zs n cap) (hb : Below w.heap.size w W) : Calls Tryd.prog 13 #[.slice a n cap] W (LdQ W zs n) := by
  have hl := h.ln
  have := lend8 a zs cap W (h.seg.old hb) h.hnil (by have := h.sz; omega)
  rw [hl] at this
  refine this.mono ?_
  rintro e w' ⟨g, c, rfl, O, hc, B⟩
  have hln : (lentZ zs).length = n + 4 := by simp [lentZ, hl]
  refine ⟨g, c, by rw [hln], ⟨own_segZ O (lentZ_bd h.seg.mem), hln, by omega⟩, (O.lt g rfl).1, B⟩
set_option maxRecDepth 100000 in
set_option maxHeartbeats 4000000 in
theorem headWrites_walk (w : World) (TT : TabS w ∧ TabO w) (ba : Option Addr) (bc : Nat) (Bs : List Bool) (la : Option Addr) (lc : Nat) (zl : List Int) (da : Option Addr) (dc : Nat) (zd : List Int) (sb : SegB w ba Bs) (sl : SegZ w la zl) (cl : zl.length ≤ lc) (nl : la = none → lc = 0) (sd : SegZ w da zd) (cd : zd.length ≤ dc) (nd : da = none → dc = 0) (hb1 : Bs.length ≤ 1048576) (hb2 : zl.length ≤ 1048576) (hb3 : zd.length ≤ 1048576) :
    Calls Tryd.prog 6 #[.agg #[.slice ba Bs.length bc, .slice la zl.length lc, .slice da zd.length dc]] w fun e w' => e = .returned (.bool true) ∧ Below w.heap.size w w' := by
  obtain ⟨T, O⟩ := TT
  have HT : Hid (TabS w ∧ TabO w) := ⟨T, O⟩
  have h02 : 1 < w.heap.size := by
    obtain ⟨b, o, e, c⟩ := O.at_ 0 (by decide)
    cases e
    exact World.block_lt_of_cell? w _ c
  obtain ⟨nb, hnb⟩ : ∃ nb, nb = Bs.length := ⟨_, rfl⟩
  obtain ⟨n, hn⟩ : ∃ n, n = zl.length := ⟨_, rfl⟩
  obtain ⟨m, hm⟩ : ∃ m, m = zd.length := ⟨_, rfl⟩
  have HNB : Hid (Bs.length = nb) := hnb.symm
  have AL : Arg8 w la zl n lc := ⟨hn.symm, sl, by omega, nl, by omega⟩
  have AD : Arg8 w da zd m dc := ⟨hm.symm, sd, by omega, nd, by omega⟩
  have HSB : Hid (SegB w ba Bs) := sb
  rw [← hnb, ← hn, ← hm]
  rw [← hnb] at hb1
  rw [← hn] at cl hb2
  rw [← hm] at cd hb3
  clear sb sl sd T O hnb hn hm
  go_enter Tryd.func6, Tryd.ntmps6
  go_wp2_with fail
  obtain ⟨X, hX⟩ : ∃ X, X = w.heap.size := ⟨_, rfl⟩
  obtain ⟨W, hW⟩ : ∃ W, W = ((w.alloc (.cells #[.slice ba nb bc, .slice la n lc, .slice da m dc] 48)).alloc (.cells #[.slice none 0 0, .int .u64 0, .int .i64 0] 54)).alloc (.cells #[.slice none 0 0] 56) := ⟨_, rfl⟩
  rw [← hW]
  have hW3 : W.heap.size = w.heap.size + 3 := by rw [hW]; simp
  have BW : Below w.heap.size w W := by
    rw [hW]
    exact ((below_box8 w _).trans ((below_box8 _ _).mono (by simp))).trans ((below_box8 _ _).mono (by simp; omega))
  have g0 : W.heap[w.heap.size]? = some (.cells #[.slice ba nb bc, .slice la n lc, .slice da m dc] 48 (0, 0)) := by
    rw [hW, heap_alloc_old _ _ (by simp; omega), heap_alloc_old _ _ (by simp)]
    exact heap_alloc_new _ _
  have g1 : W.heap[w.heap.size + 1]? = some (.cells #[.slice none 0 0, .int .u64 0, .int .i64 0] 54 (0, 0)) := by
    rw [hW, heap_alloc_old _ _ (by simp)]
    have := heap_alloc_new (w.alloc (.cells #[.slice ba nb bc, .slice la n lc, .slice da m dc] 48)) (.cells #[.slice none 0 0, .int .u64 0, .int .i64 0] 54)
    rw [show (w.alloc (.cells #[.slice ba nb bc, .slice la n lc, .slice da m dc] 48)).heap.size = w.heap.size + 1 by simp] at this
    exact this
  have g2 : W.heap[w.heap.size + 2]? = some (.cells #[.slice none 0 0] 56 (0, 0)) := by
    have := heap_alloc_new ((w.alloc (.cells #[.slice ba nb bc, .slice la n lc, .slice da m dc] 48)).alloc (.cells #[.slice none 0 0, .int .u64 0, .int .i64 0] 54)) (.cells #[.slice none 0 0] 56)
    rw [show ((w.alloc (.cells #[.slice ba nb bc, .slice la n lc, .slice da m dc] 48)).alloc (.cells #[.slice none 0 0, .int .u64 0, .int .i64 0] 54)).heap.size = w.heap.size + 2 by simp, ← hW] at this
    exact this
  have HC : Hid (∀ wr, Below (w.heap.size + 1) W wr → wr.cell? ⟨w.heap.size, 0, none⟩ = some (.slice ba nb bc) ∧ wr.cell? ⟨w.heap.size, 1, none⟩ = some (.slice la n lc) ∧ wr.cell? ⟨w.heap.size, 2, none⟩ = some (.slice da m dc)) := fun wr hb => by
    have hh : wr.heap[w.heap.size]? = some (.cells #[.slice ba nb bc, .slice la n lc, .slice da m dc] 48 (0, 0)) := (hb.block _ (by omega)).trans g0
    exact ⟨(cell_of_row wr _ 0 _ _ _ hh).trans rfl, (cell_of_row wr _ 1 _ _ _ hh).trans rfl, (cell_of_row wr _ 2 _ _ _ hh).trans rfl⟩
  have HP0 : Pair W (w.heap.size + 1) (w.heap.size + 2) (w.heap.size + 3) (.slice none 0 0) (.slice none 0 0) [] := ⟨WrL.new g1 (by omega), RwL.new g2 (by omega), fun k e => by simp [Value.ownBlock] at e⟩
  clear hW g0 g1 g2 hX X
  go_loopw [5] (fun ti wr => ∃ (i : Nat) (v u : Value), i ≤ nb ∧ ti = .int .i64 (i : Int) ∧ Pair wr (w.heap.size + 1) (w.heap.size + 2) (w.heap.size + 3) v u (Bs.take i) ∧ Below (w.heap.size + 1) W wr) (fun ti _ => nb - (intOf ti).toNat)
  case atStart => exact ⟨0, _, _, by omega, rfl, by rw [List.take_zero]; exact HP0, Below.refl _ _⟩
  case round =>
    obtain ⟨i, v, u, hib, rfl, PJ, BJ⟩ := hrel
    clear HP0
    obtain ⟨x0, x1, x2⟩ := HC.out wr BJ
    have xJ : Below w.heap.size w wr := BW.trans (BJ.mono (by omega))
    by_cases hlt : i < nb
    · have hlti : (i : Int) < (nb : Int) := by omega
      have hil : i < Bs.length := by rw [HNB.out]; exact hlt
      obtain ⟨bb, bo, rfl, cb⟩ := ((show SegB w ba Bs from HSB.out).old xJ).at_ i hil
      have HTK : Hid (Bs.take (i + 1) = Bs.take i ++ bN (b2n (Bs.getD i false)) 1) := by show _ = _; rw [takeB_snoc hil, bN_b2n]
      have htl : (Bs.take i).length ≤ 1048576 := by rw [List.length_take]; omega
      have CP : Hid (∀ b, b = Bs.getD i false → Calls Tryd.prog 19 #[.pointer (some ⟨w.heap.size + 1, 0, none⟩), .int .u64 (b2n b : Int), .int .i64 ((1 : Nat) : Int)] wr fun e w' => e = .returned (.int .i64 0) ∧ ∃ v', WrL w' (w.heap.size + 1) (w.heap.size + 3) v' (Bs.take i ++ bN (b2n b) 1) ∧ Kp (WS (w.heap.size + 1) v) wr w' ∧ Fresh wr v v') := fun b _ => put_ok _ _ v _ (b2n b) 1 wr PJ.g (by unfold b2n; split <;> decide) (by omega) (by omega)
      generalize Bs.getD i false = bt at *
      have HPJ : Hid (Pair wr (w.heap.size + 1) (w.heap.size + 2) (w.heap.size + 3) v u (Bs.take i)) := PJ
      clear PJ
      have CP1 := CP.out bt rfl
      rw [← HTK.out] at CP1
      have CR1 : Hid (∀ W', RwL W' (w.heap.size + 2) (w.heap.size + 3) u (Bs.take i) → Calls Tryd.prog 20 #[.pointer (some ⟨w.heap.size + 2, 0, none⟩), .int .u64 (b2n bt : Int), .int .i64 ((1 : Nat) : Int)] W' fun e w' => e = .returned (.int .i64 0) ∧ ∃ v', RwL w' (w.heap.size + 2) (w.heap.size + 3) v' (Bs.take (i + 1)) ∧ Kp (WS (w.heap.size + 2) u) W' w' ∧ Fresh W' u v') := fun W' h => by
        rw [HTK.out]
        exact rput_ok _ _ u _ (b2n bt) 1 W' h (by unfold b2n; split <;> decide) (by omega) (by omega)
      clear CP HTK
      have HN1 : Hid (w.heap.size + 1 ≠ w.heap.size + 2 ∧ w.heap.size + 1 < w.heap.size + 3 ∧ w.heap.size + 2 < w.heap.size + 3) := ⟨by omega, by omega, by omega⟩
      cases bt
      all_goals
        unfold b2n at CP1 CR1
        simp only [Bool.false_eq_true, if_false, if_true] at CP1 CR1
        go_wp2_with fail
        refine CP1.mono ?_
        rintro e w7 ⟨rfl, v', g7, k7, f7⟩
        have x7 := HPJ.out.x.apartW HPJ.out.g k7 HN1.out.1 HN1.out.2.1 HN1.out.2.2 HPJ.out.ap
        go_wp2_with fail
        refine (CR1.out _ x7).mono ?_
        rintro e w8 ⟨rfl, u', g8, k8, f8⟩
        obtain ⟨v2, u2, hp2, kk, _, _⟩ := pair_wr HPJ.out HN1.out.1 HN1.out.2.1 HN1.out.2.2 g7 k7 f7 g8 k8 f8
        have hvl := HPJ.out.g.own_lt
        have hxl := HPJ.out.x.own_lt
        have B8 : Below (w.heap.size + 1) W w8 := BJ.trans (kk.below (fun k e => by
          rcases e with (e | e) | (e | e)
          · omega
          · have := (hvl _ e).1; omega
          · omega
          · have := (hxl _ e).1; omega) (by have := BJ.size; omega))
        go_wp2_with fail
        go_roundw
        case rel => exact ⟨i + 1, v2, u2, by omega, by go_num, hp2, B8⟩
        case measure => simp [intOf]; omega
    · have hge : ¬ (i : Int) < (nb : Int) := by omega
      have hTA : Bs.take i = Bs := List.take_of_length_le (by rw [HNB.out]; omega)
      rw [hTA] at PJ
      clear hTA
      generalize wr = w1 at *
      have HLD : Hid (∀ (W' : World) (a : Option Addr) (zs : List Int) (n cap : Nat), Arg8 w a zs n cap → Below (w.heap.size + 1) W W' → Calls Tryd.prog 13 #[.slice a n cap] W' fun e w' => ∃ g c, e = .returned (.slice (some ⟨g, 0, none⟩) (n + 4) c) ∧ Len8 w' g zs n c ∧ W'.heap.size ≤ g ∧ Below W'.heap.size W' w' ∧ Below (w.heap.size + 1) W w') := fun W' a zs n cap hA hB => by
        refine (lendA8 hA (BW.trans (hB.mono (by omega)))).mono ?_
        rintro e w' ⟨g, c, rfl, h1, h0, h2⟩
        exact ⟨g, c, rfl, h1, h0, h2, hB.trans (h2.mono (by have := hB.size; omega))⟩
      have HC2 : Hid (∀ wr, Below (w.heap.size + 1) W wr → wr.cell? ⟨w.heap.size, 1, none⟩ = some (.slice la n lc) ∧ wr.cell? ⟨w.heap.size, 2, none⟩ = some (.slice da m dc)) := fun wr h => (HC.out wr h).2
      have BJd : Below (w.heap.size + 1) W w1.drew := BJ.drew
      have HPJ : Hid (Pair w1 (w.heap.size + 1) (w.heap.size + 2) (w.heap.size + 3) v u Bs) := PJ
      clear PJ
      go_wp2_with fail
      go_region_held3 (fun w' => w'.cell? ⟨w.heap.size, 1, none⟩ = some (.slice la n lc) ∧ w'.cell? ⟨w.heap.size, 2, none⟩ = some (.slice da m dc)) (first | (exact ⟨x1, x2⟩) | (exact HC2.out _ (by assumption)))
        (first | (go_at_call 13; refine (HLD.out _ _ _ _ _ (by assumption) (by assumption)).mono ?_; rintro e wl ⟨gq, cq, rfl, lq, hq, bq, tq⟩))
      rename_i wl0 g1 c1 l1 h1q b1 t1 hh1
      clear hh1
      have hgs : w1.heap.size ≤ g1 ∧ w1.heap.size ≤ gq := ⟨h1q, by have := b1.size; have e : w1.drew.heap.size = w1.heap.size := rfl; omega⟩
      have hvu : (∀ k, v.ownBlock = some k → k < w1.heap.size) ∧ (∀ k, u.ownBlock = some k → k < w1.heap.size) := ⟨fun k e => (HPJ.out.g.own_lt k e).2.1, fun k e => (HPJ.out.x.own_lt k e).2.1⟩
      have hw1s : w.heap.size + 3 ≤ w1.heap.size := by have := BJ.size; omega
      have L1 : Len8 wl g1 zl n c1 := l1.old bq
      have L2 : Len8 wl gq zd m cq := lq
      have P2 : Pair wl (w.heap.size + 1) (w.heap.size + 2) (w.heap.size + 3) v u Bs := ((HPJ.out.old (w' := w1.drew) ((Below.refl w1.heap.size w1).drew)).old b1).old bq
      clear HPJ l1 lq b1 bq t1 x0 x1 x2 BJd
      have hSL : SegZ wl (some ⟨g1, 0, none⟩) zl := L1.seg.left
      have hSD : SegZ wl (some ⟨gq, 0, none⟩) zd := L2.seg.left
      have xl : Below w.heap.size w wl := BW.trans (tq.mono (by omega))
      obtain ⟨nC, eC, hval, hce⟩ : ∃ (nC : Nat) (eC : Int), (if tld8 errC zl zd then #[Value.int .i64 (cst8 zl zd : Int), .int .i64 0] else #[.int .i64 0, .int .i64 80]) = #[.int .i64 (nC : Int), .int .i64 eC] ∧ ((eC = 0 ∧ tld8 errC zl zd) ∨ (eC = 80 ∧ nC = 0 ∧ ¬ tld8 errC zl zd)) := by
        by_cases ht : tld8 errC zl zd
        · exact ⟨cst8 zl zd, 0, by rw [if_pos ht], .inl ⟨rfl, ht⟩⟩
        · exact ⟨0, 80, by rw [if_neg ht]; rfl, .inr ⟨rfl, rfl, ht⟩⟩
      have heC : (if tld8 errC zl zd then (0 : Int) else 80) = eC := by
        rcases hce with ⟨rfl, ht⟩ | ⟨rfl, _, ht⟩
        · rw [if_pos ht]
        · rw [if_neg ht]
      have HCE : Hid (eC = 0 ∨ (eC = 80 ∧ nC = 0)) := by
        rcases hce with ⟨h, _⟩ | ⟨h, h2, _⟩
        · exact .inl h
        · exact .inr ⟨h, h2⟩
      have hMl : (Bs ++ if tld8 errC zl zd then hd8 zl zd else []).length ≤ 2000000 := by
        rw [List.length_append, HNB.out]
        by_cases ht : tld8 errC zl zd
        · rw [if_pos ht, hd8_len ht]
          have h1 := tol8_bd (sz8 zl zd) 19 (by omega)
          have h2 := rnb8_len (sz8_ok ht).1 (rs8 zl zd)
          have h3 := rnb8_cost (sz8_ok ht).1 (sz8_ok ht).2.1 (rs8 zl zd) (runs8_ok (tld8_ok ht).2.2.1).1
          have h4 := (runs8_ok (tld8_ok ht).2.2.1).2
          have h5 := (tld8_ok ht).2.2.1.1
          unfold cst8
          have h6 : (rs8 zl zd).length ≤ 320 := by unfold rs8; omega
          omega
        · rw [if_neg ht]; simp; omega
      have HTL : Hid (TabS wl ∧ TabO wl) := ⟨SegZ.old HT.out.1 xl, SegZ.old HT.out.2 xl⟩
      have CC := pcost8 zl zd (some ⟨g1, 0, none⟩) (some ⟨gq, 0, none⟩) n m c1 cq AL.ln AD.ln wl.drew hSL.drew hSD.drew (by have := L1.hcap; omega) (by have := L2.hcap; omega) (SegZ.drew HTL.out.1) (SegZ.drew HTL.out.2)
      unfold CsQ at CC
      rw [hval] at CC
      have hc1 : (n : Int) ≤ (c1 : Int) := by have := L1.hcap; omega
      have hc2 : (m : Int) ≤ (cq : Int) := by have := L2.hcap; omega
      have hn0 : (0 : Int) ≤ (n : Int) := by omega
      have hm0 : (0 : Int) ≤ (m : Int) := by omega
      have HMM : Hid ((Bs ++ if tld8 errC zl zd then hd8 zl zd else []).length ≤ 2000000) := hMl
      have HVAL : Hid ((if tld8 errC zl zd then #[Value.int .i64 (cst8 zl zd : Int), .int .i64 0] else #[.int .i64 0, .int .i64 80]) = #[.int .i64 (nC : Int), .int .i64 eC]) := hval
      have HEC : Hid ((if tld8 errC zl zd then (0 : Int) else 80) = eC) := heC
      clear hval heC hce hMl
      have tqd : Below (w.heap.size + 1) W wl.drew := tq.drew
      obtain ⟨y1, y2⟩ := HC2.out _ tqd
      go_wp2_with fail
      go_region_held3 (fun w' => w'.cell? ⟨w.heap.size, 1, none⟩ = some (.slice la n lc) ∧ w'.cell? ⟨w.heap.size, 2, none⟩ = some (.slice da m dc)) (first | (exact ⟨y1, y2⟩) | (exact HC2.out _ (by assumption)))
        (first | (go_at_call 9; refine CC.mono ?_; rintro e w2 ⟨rfl, b2⟩; have t2 : Below (w.heap.size + 1) W w2 := tqd.trans (b2.mono (by have := tqd.size; omega))))
      have b2w : Below wl.heap.size wl w2 := ⟨b2.os, b2.tape, b2.output, b2.size, b2.block⟩
      have M1 := L1.old b2w
      have M2 := L2.old b2w
      have P3 := P2.old b2w
      have x2w : Below w.heap.size w w2 := xl.trans (b2w.mono xl.size)
      clear L1 L2 P2 hSL hSD CC b2 y1 y2 tq tqd
      have t2d : Below (w.heap.size + 1) W w2.drew := t2.drew
      have CW := pwrite8 (w.heap.size + 1) (w.heap.size + 3) v Bs zl zd (some ⟨g1, 0, none⟩) (some ⟨gq, 0, none⟩) n m c1 cq AL.ln AD.ln w2.drew (P3.g.below8 ((Below.refl w2.heap.size w2).drew)) (by rw [HNB.out]; omega) (M1.seg.left).drew (M2.seg.left).drew (by have := M1.hcap; omega) (by have := M2.hcap; omega) (SegZ.drew (SegZ.old HT.out.1 x2w)) (SegZ.drew (SegZ.old HT.out.2 x2w)) (by omega) (by omega)
      unfold WtQ at CW
      rw [HEC.out] at CW
      obtain ⟨y1, y2⟩ := HC2.out _ t2d
      have HP3 : Hid (Pair w2 (w.heap.size + 1) (w.heap.size + 2) (w.heap.size + 3) v u Bs) := P3
      obtain ⟨MM, hMM⟩ : ∃ MM, MM = (Bs ++ if tld8 errC zl zd then hd8 zl zd else []) := ⟨_, rfl⟩
      have HMMe : Hid ((Bs ++ if tld8 errC zl zd then hd8 zl zd else []) = MM) := hMM.symm
      rw [← hMM] at CW
      have hvl := P3.g.own_lt
      have HBK : Hid (∀ w' w3, Below (w.heap.size + 1) W w' → Kp (WS (w.heap.size + 1) v) w' w3 → Below (w.heap.size + 1) W w3) := fun w' w3 h k => h.trans (k.below (fun j e => by
        rcases e with e | e
        · omega
        · have := (hvl _ e).1; omega) (by have := h.size; omega))
      clear hMM P3
      go_wp2_with fail
      go_region_held3 (fun w' => w'.cell? ⟨w.heap.size, 1, none⟩ = some (.slice la n lc) ∧ w'.cell? ⟨w.heap.size, 2, none⟩ = some (.slice da m dc)) (first | (exact ⟨y1, y2⟩) | (exact HC2.out _ (by assumption)))
        (first | (go_at_call 21; refine CW.mono ?_; rintro e w3 ⟨rfl, v3, gw3, kw3, fw3⟩; have t3 : Below (w.heap.size + 1) W w3 := HBK.out _ _ t2d kw3))
      have kw3b : Kp (WS (w.heap.size + 1) v) w2 w3 := (kp_of_below ((Below.refl w2.heap.size w2).drew) (WS (w.heap.size + 1) v)).trans (S' := WS (w.heap.size + 1) v) kw3 (fun _ _ e => e)
      have fw3b : Fresh w2 v v3 := fw3
      have xw3 := HP3.out.x.apartW HP3.out.g kw3b (by omega) (by omega) (by omega) HP3.out.ap
      obtain ⟨z0, z1, z2⟩ := HC.out w3 t3
      have x3w : Below w.heap.size w w3 := BW.trans (t3.mono (by omega))
      have CD := rcost8 zl zd la da n m lc dc AL.ln AD.ln w3 (AL.seg.old x3w) (AD.seg.old x3w) AL.hcap AD.hcap nl nd
      unfold DcQ at CD
      rw [HVAL.out] at CD
      clear CW y1 y2
      go_wp2_with fail
      refine CD.mono ?_
      rintro e w4 ⟨rfl, b4⟩
      have t4 : Below (w.heap.size + 1) W w4 := t3.trans (b4.mono (by have := t3.size; omega))
      obtain ⟨z0, z1, z2⟩ := HC.out w4 t4
      have x4w : Below w.heap.size w w4 := BW.trans (t4.mono (by omega))
      have CX := rwrite8 (w.heap.size + 2) (w.heap.size + 3) u Bs zl zd la da n m lc dc AL.ln AD.ln w4 (xw3.below8 b4) (by rw [HNB.out]; omega) (AL.seg.old x4w) (AD.seg.old x4w) AL.hcap AD.hcap nl nd
      unfold DwQ at CX
      rw [HEC.out, HMMe.out] at CX
      clear CD
      go_wp2_with fail
      refine CX.mono ?_
      rintro e w5 ⟨rfl, u5, gw5, kw5, fw5⟩
      clear CX
      have gP4 := gw3.below8 b4
      have kP4 : Kp (WS (w.heap.size + 1) v) w2 w4 := kw3b.trans (S' := fun _ => False) (kp_of_below b4 _) (fun _ _ e => e.elim)
      obtain ⟨v6, u6, hp6, kk6, _, _⟩ := pair_wr HP3.out (by omega) (by omega) (by omega) gP4 kP4 fw3b gw5 kw5 fw5
      have hxl := HP3.out.x.own_lt
      have hvl3 := HP3.out.g.own_lt
      have t5 : Below (w.heap.size + 1) W w5 := t2.trans (kk6.below (fun k e => by
          rcases e with (e | e) | (e | e)
          · omega
          · have := (hvl3 _ e).1; omega
          · omega
          · have := (hxl _ e).1; omega) (by have := t2.size; omega))
      have hfar : ∀ q, w1.heap.size ≤ q → ¬ PS (w.heap.size + 1) (w.heap.size + 2) v u q := fun q hq e => by
        rcases e with (e | e) | (e | e)
        · omega
        · have := hvu.1 q e; omega
        · omega
        · have := hvu.2 q e; omega
      have N1 : Len8 w5 g1 zl n c1 := ⟨M1.seg.kp kk6 (fun g o e _ => by cases e; exact hfar _ hgs.1), M1.ln, M1.hcap⟩
      have N2 : Len8 w5 gq zd m cq := ⟨M2.seg.kp kk6 (fun g o e _ => by cases e; exact hfar _ hgs.2), M2.ln, M2.hcap⟩
      have R1 : Rm8 w5 g1 zl n c1 := ⟨fun W' hb => N1.old hb⟩
      have R2 : Rm8 w5 gq zd m cq := ⟨fun W' hb => N2.old hb⟩
      have HP6 : Hid (Pair w5 (w.heap.size + 1) (w.heap.size + 2) (w.heap.size + 3) v6 u6 MM) := hp6
      have hMML : MM.length ≤ 2000000 := by rw [← HMMe.out]; exact HMM.out
      have x5w : Below w.heap.size w w5 := BW.trans (t5.mono (by omega))
      clear M1 M2 N1 N2 hfar hgs hvu hp6 kk6 gP4 kP4 gw5 kw5 fw5 gw3 kw3 fw3 kw3b fw3b xw3 z0 z1 z2 HP3 HBK t3 t4 b4 t2 t2d x3w x4w hxl hvl3 hvl b2w x2w HLD HMMe HMM HVAL HEC
      have hb5 : w.heap.size + 3 ≤ w5.heap.size := by have := t5.size; omega
      obtain ⟨TT, hTT⟩ : ∃ T, T = toB MM := ⟨_, rfl⟩
      have hTbd := toB_bd MM
      have HTT : Hid (TT = toB MM) := hTT
      rw [← hTT] at hTbd
      clear hTT
      have HLE : Hid (∀ W', Below w5.heap.size w5 W' → Calls Tryd.prog 24 #[.pointer (some ⟨w.heap.size + 1, 0, none⟩)] W' fun e w' => e = .returned (.int .i64 (MM.length : Int)) ∧ Below w5.heap.size w5 w') := fun W' hW => by
        refine (len_any (w.heap.size + 1) (w.heap.size + 3) v6 MM W' (HP6.out.old hW).g (by omega)).mono ?_
        rintro e w' ⟨rfl, hb⟩
        exact ⟨rfl, hW.trans (hb.mono hW.size)⟩
      have HB1 : Hid (∀ W', Below w5.heap.size w5 W' → Calls Tryd.prog 25 #[.pointer (some ⟨w.heap.size + 1, 0, none⟩)] W' fun e w' => ∃ a c, e = .returned (.slice a TT.length c) ∧ Seg w' a TT ∧ Below w5.heap.size w5 w') := fun W' hW => by
        have := bytes_any (w.heap.size + 1) (w.heap.size + 3) v6 MM W' (HP6.out.old hW).g (by omega)
        rw [← HTT.out] at this
        refine this.mono ?_
        rintro e w' ⟨a', c', rfl, ho, hb⟩
        obtain ⟨_, a3, c3, hv, hs, _⟩ := own_seg ho (M := 255) (by decide) hTbd
        cases hv
        exact ⟨a', c', rfl, hs, hW.trans (hb.mono hW.size)⟩
      have HB2 : Hid (∀ W', Below w5.heap.size w5 W' → Calls Tryd.prog 26 #[.pointer (some ⟨w.heap.size + 2, 0, none⟩)] W' fun e w' => ∃ a c, e = .returned (.slice a TT.length c) ∧ Seg w' a TT ∧ Below W'.heap.size W' w' ∧ Below w5.heap.size w5 w') := fun W' hW => by
        have := rbytes_any (w.heap.size + 2) (w.heap.size + 3) u6 MM W' (HP6.out.old hW).x (by omega)
        rw [← HTT.out] at this
        refine this.mono ?_
        rintro e w' ⟨a', c', rfl, ho, hb⟩
        obtain ⟨_, a3, c3, hv, hs, _⟩ := own_seg ho (M := 255) (by decide) hTbd
        cases hv
        exact ⟨a', c', rfl, hs, hb, hW.trans (hb.mono hW.size)⟩
      have HCV : Hid (∀ W' a c, Seg W' a TT → (convert 49 9 (.slice a TT.length c)).run Tryd.prog W' = .ok (.string (strOfNums TT)) W') := fun W' a c h => run_conv_seg (P := Tryd.prog) c h 49 5 9 Tryd.underlying49 Tryd.underlying5 Tryd.underlying9
      have HL5 : Hid (∀ (W' : World) (a : Option Addr) (zs : List Int) (n cap : Nat), Arg8 w a zs n cap → Below w5.heap.size w5 W' → Calls Tryd.prog 13 #[.slice a n cap] W' fun e w' => ∃ g c, e = .returned (.slice (some ⟨g, 0, none⟩) (n + 4) c) ∧ Len8 w' g zs n c ∧ Below w5.heap.size w5 w') := fun W' a zs n cap hA hB => by
        refine (lendA8 hA (x5w.trans (hB.mono x5w.size))).mono ?_
        rintro e w' ⟨g, c, rfl, h1, h0, h2⟩
        exact ⟨g, c, rfl, h1, hB.trans (h2.mono hB.size)⟩
      have HSM : Hid (∀ (W' : World) (g : Nat) (zs : List Int) (k c g' c' : Nat), Rm8 w5 g zs k c → Below w5.heap.size w5 W' → Len8 W' g' zs k c' → k ≤ 1048576 → Calls Tryd.prog 16 #[.slice (some ⟨g, 0, none⟩) (k + 4) c, .slice (some ⟨g', 0, none⟩) (k + 4) c'] W' fun e w' => e = .returned (.bool true) ∧ Below w5.heap.size w5 w') := fun W' g zs k c g' c' hR hB hL hk => by
        have h1 := hR.out W' hB
        have := same8 (some ⟨g, 0, none⟩) (some ⟨g', 0, none⟩) (lentZ zs) (lentZ zs) c c' W' h1.seg hL.seg (by rw [h1.ln]; omega) (by rw [h1.ln]; omega)
        rw [h1.ln, beq_self_list] at this
        refine this.mono ?_
        rintro e w' ⟨rfl, hb⟩
        exact ⟨rfl, hB.trans (hb.mono hB.size)⟩
      obtain ⟨ua, uc, hu, r7⟩ := HP6.out.x
      have HC5 : Hid (∀ W', Below w5.heap.size w5 W' → (W'.cell? ⟨w.heap.size, 1, none⟩ = some (.slice la n lc) ∧ W'.cell? ⟨w.heap.size, 2, none⟩ = some (.slice da m dc)) ∧ W'.cell? ⟨w.heap.size + 1 + 1, 0, none⟩ = some (.slice ua MM.length uc)) := fun W' hW => ⟨HC2.out _ (t5.trans (hW.mono (by omega))), (hW.cell (p := ⟨w.heap.size + 2, 0, none⟩) r7.b_lt).trans r7.cell0⟩
      have bt0 : Below w5.heap.size w5 w5.drew := (Below.refl _ _).drew
      obtain ⟨⟨q1, q2⟩, q3⟩ := HC5.out _ bt0
      have HAW : Hid (∀ W', Below w5.heap.size w5 W' → Calls Tryd.prog 11 #[] W' fun e w' => e = .returned (.bool true) ∧ Below w.heap.size w w') := fun W' hW => by
        have hx := x5w.trans (hW.mono x5w.size)
        refine (awake8 W' (SegZ.old HT.out.1 hx)).mono ?_
        rintro e w' ⟨rfl, hb⟩
        exact ⟨rfl, hx.trans (hb.mono hx.size)⟩
      clear r7 hu HP6
      have HCE2 := HCE.out
      clear HCE HC HC2
      rcases HCE2 with rfl | ⟨rfl, rfl⟩
      all_goals
        go_wp2_with ((go_at_call 10; refine (num8 _ _).mono ?_; rintro e w' ⟨rfl, hw'⟩; subst w'))
        go_region_with (first
            | (go_at_call 13; refine (HL5.out _ _ _ _ _ (by assumption) (by assumption)).mono ?_; rintro e wl ⟨gz, cz, rfl, lz, bz⟩; obtain ⟨⟨q1, q2⟩, q3⟩ := HC5.out _ bz)
            | (go_at_call 16; refine (HSM.out _ _ _ _ _ _ _ (by assumption) (by assumption) (by assumption) (by assumption)).mono ?_; rintro e ws ⟨rfl, bs⟩; obtain ⟨⟨q1, q2⟩, q3⟩ := HC5.out _ bs)
            | (go_at_call 24; refine (HLE.out _ (by assumption)).mono ?_; rintro e wl ⟨rfl, btl⟩; obtain ⟨⟨q1, q2⟩, q3⟩ := HC5.out _ btl)
            | (go_at_call 25; refine (HB1.out _ (by assumption)).mono ?_; rintro e wm ⟨am, cm, rfl, sm, btm⟩; have cv1 := HCV.out _ _ cm sm; obtain ⟨⟨q1, q2⟩, q3⟩ := HC5.out _ btm)
            | (go_at_call 26; refine (HB2.out _ (by assumption)).mono ?_; rintro e wn ⟨an, cn, rfl, sn, bn, btn⟩; have cv2 := HCV.out _ _ cn sn; have cv3 := HCV.out _ _ cm (sm.old bn); obtain ⟨⟨q1, q2⟩, q3⟩ := HC5.out _ btn))
        all_goals
          go_wp2_with (first | (go_at_call 21; refine (pwrite_nil8 _ _ _ _ _ _ _).mono ?_; rintro e w' ⟨rfl, hw'⟩; subst w') | (go_at_call 11; refine (HAW.out _ (by assumption)).mono ?_; rintro e w7 ⟨rfl, b7⟩))
          go_ret
          exact ⟨rfl, b7⟩
end Go.Proofs.YtoeabfcnfofbiaaDoor

namespace Go.Proofs.YtoeabfcnfofbiaaDoor
open Go.ChangeShapes Go.WideShapes Go.ChangeAt Go.RowKit
set_option linter.unusedVariables false

/-- A slice of whole numbers that came in: what lies there, and how it was read. -/
theorem open_seg {H : Type} {enc : TypeId × Value → H} {P : Program} {W : World} {T e : TypeId} {k : IntKind} {M : Int} {a : Option Addr} {len cap : Nat} {d : DataW H} {p : List MemPlace}
    (hT : P.underlying T = some (.slice e)) (he : P.underlying e = some (.int k)) (hc : P.cellsOf e = 1) (hM : 0 ≤ M) (hwf : ∀ n, (Lit.int k n).wf = true → 0 ≤ n ∧ n ≤ M)
    (h : DataW.Trod enc P W 0 (fun _ => true) true T (.slice a len cap) d p) :
    ∃ zs : List Int, zs.length = len ∧ SegK k M W a zs ∧ len ≤ cap ∧ (a = none → cap = 0) ∧ ((d = .nil ∧ len = 0) ∨ ∃ elems spare, d = .slice elems spare ∧ elems.length = len) := by
  obtain ⟨fuel, hf⟩ := h
  rcases open_ints hT he hc hf with ⟨hcs, hx⟩ | ⟨x, l, c, zs, hcs, _, hl, hm, hz, hx, hcell, hwz⟩
  · simp [Value.cells] at hcs
    obtain ⟨rfl, rfl, rfl⟩ := hcs
    simp only [Prod.mk.injEq] at hx
    exact ⟨[], rfl, SegK.nil hM _ _, Nat.le_refl _, fun _ => rfl, Or.inl ⟨hx.1, rfl⟩⟩
  · simp [Value.cells] at hcs
    obtain ⟨rfl, rfl, rfl⟩ := hcs
    simp only [Prod.mk.injEq] at hx
    simp only [if_true] at hz
    refine ⟨zs.take len, by simp; omega, ⟨fun i hi => ?_, hM, getD_bd hM ?_⟩, hl, (by intro h; cases h), Or.inr ⟨_, _, hx.1, by simp [ChangeShapes.lits]; omega⟩⟩
    · simp at hi
      have hi2 : i < len := by omega
      have h1 := hcell i (by omega)
      obtain ⟨b, off, spot⟩ := x
      have hs : spot = none := by
        have := hcell 0 (by omega)
        simpa [Addr.add] using World.cell?_spot this
      subst hs
      refine ⟨b, off, rfl, ?_⟩
      have hadd : (⟨b, off, none⟩ : Addr).add i = ⟨b, off + i, none⟩ := by unfold Addr.add; split <;> simp_all
      rw [hadd] at h1
      rw [h1]
      simp [List.getD, hi2]
    · intro z hz1
      exact hwf z (hwz z (List.mem_of_mem_take hz1))
end Go.Proofs.YtoeabfcnfofbiaaDoor

namespace Go.Proofs.YtoeabfcnfofbiaaDoor
open Go.ChangeShapes Go.WideShapes Go.ChangeAt Go.RowKit
set_option linter.unusedVariables false

/-- A slice of whole numbers with a sign that came in. -/
theorem open_segZ {H : Type} {enc : TypeId × Value → H} {P : Program} {W : World} {T e : TypeId} {a : Option Addr} {len cap : Nat} {d : DataW H} {p : List MemPlace}
    (hT : P.underlying T = some (.slice e)) (he : P.underlying e = some (.int .i64)) (hc : P.cellsOf e = 1)
    (h : DataW.Trod enc P W 0 (fun _ => true) true T (.slice a len cap) d p) :
    ∃ zs : List Int, zs.length = len ∧ SegZ W a zs ∧ len ≤ cap ∧ (a = none → cap = 0) ∧ ((d = .nil ∧ len = 0) ∨ ∃ elems spare, d = .slice elems spare ∧ elems.length = len) := by
  obtain ⟨fuel, hf⟩ := h
  rcases open_ints hT he hc hf with ⟨hcs, hx⟩ | ⟨x, l, c, zs, hcs, _, hl, hm, hz, hx, hcell, hwz⟩
  · simp [Value.cells] at hcs
    obtain ⟨rfl, rfl, rfl⟩ := hcs
    simp only [Prod.mk.injEq] at hx
    exact ⟨[], rfl, SegZ.nil _ _, Nat.le_refl _, fun _ => rfl, Or.inl ⟨hx.1, rfl⟩⟩
  · simp [Value.cells] at hcs
    obtain ⟨rfl, rfl, rfl⟩ := hcs
    simp only [Prod.mk.injEq] at hx
    simp only [if_true] at hz
    refine ⟨zs.take len, by simp; omega, ⟨fun i hi => ?_, getD_bdz ?_⟩, hl, (by intro h; cases h), Or.inr ⟨_, _, hx.1, by simp [ChangeShapes.lits]; omega⟩⟩
    · simp at hi
      have hi2 : i < len := by omega
      have h1 := hcell i (by omega)
      obtain ⟨b, off, spot⟩ := x
      have hs : spot = none := by
        have := hcell 0 (by omega)
        simpa [Addr.add] using World.cell?_spot this
      subst hs
      refine ⟨b, off, rfl, ?_⟩
      have hadd : (⟨b, off, none⟩ : Addr).add i = ⟨b, off + i, none⟩ := by unfold Addr.add; split <;> simp_all
      rw [hadd] at h1
      rw [h1]
      simp [List.getD, hi2]
    · intro z hz1
      exact bounds_i64 (hwz z (List.mem_of_mem_take hz1))
end Go.Proofs.YtoeabfcnfofbiaaDoor

namespace Go.Proofs.YtoeabfcnfofbiaaDoor
open Go.ChangeShapes Go.WideShapes Go.ChangeAt Go.RowKit Go.Deep
set_option linter.unusedVariables false
set_option maxRecDepth 100000

theorem cells_bool8 : Tryd.prog.cellsOf 4 = 1 := by kernel_rfl
theorem cells_intw8 : Tryd.prog.cellsOf 3 = 1 := by kernel_rfl
/-- A slice of bools that came in. -/
theorem open_bools8 {H : Type} {enc : TypeId × Value → H} {W : World} {v : Value} {fuel : Nat} {y : DataW H × List MemPlace}
    (hf : DataW.trod enc Tryd.prog W 0 (fun _ => true) true fuel 46 [v] = some y) :
    ∃ (a : Option Addr) (cap : Nat) (L : List Bool), v = .slice a L.length cap ∧ SegB W a L ∧ L.length + 1 ≤ Rows.uptoBulk y.1 := by
  haveI : Inhabited Bool := ⟨false⟩
  rcases open_slice Tryd.underlying46 hf with ⟨hcs, hx⟩ | ⟨x, l, c, m, n, D, Pl, hcs, _, hl, hm, hmm, hx, hat⟩
  · simp at hcs
    subst hcs
    subst hx
    exact ⟨none, 0, [], rfl, ⟨fun i hi => by simp at hi⟩, by simp [Rows.uptoBulk]⟩
  · simp at hcs
    subst hcs
    simp only [if_true] at hmm
    subst hmm
    rw [cells_bool8] at hat
    have key : ∀ i, i < m → ∃ q : Bool, W.cell? (x.add i) = some (.bool q) := by
      intro i hi
      obtain ⟨cs', h1, h2⟩ := hat i hi
      obtain ⟨_, hlen, hcell⟩ := World.cells?_some h1
      obtain ⟨q, e, _⟩ := DataW.trod_bool Tryd.underlying4 h2
      subst e
      have e0 := hcell 0 (by omega)
      rw [add_add] at e0
      exact ⟨q, by simpa using e0⟩
    obtain ⟨q, hq⟩ := choose_lt key
    refine ⟨some x, m, (List.range l).map q, by simp, ⟨fun i hi => ?_⟩, ?_⟩
    · have hi2 : i < l := by simpa using hi
      have h1 := hq i (by omega)
      obtain ⟨b, off, spot⟩ := x
      have hs : spot = none := by
        have h5 := hq 0 (by omega)
        simpa [Addr.add] using World.cell?_spot h5
      subst hs
      have hadd : ∀ j, (⟨b, off, none⟩ : Addr).add j = ⟨b, off + j, none⟩ := by intro j; unfold Addr.add; split <;> simp_all
      rw [hadd] at h1
      have hg : ((List.range l).map q).getD i false = q i := by simp [List.getD, hi2]
      rw [hg]
      exact ⟨b, off, rfl, h1⟩
    · subst hx
      simp only [List.length_map, List.length_range]
      refine Nat.le_trans ?_ (UptoLemmas.slice_le _ _)
      simp
/-- A slice of ints that came in, in a struct. -/
theorem open_ints8 {H : Type} {enc : TypeId × Value → H} {W : World} {v : Value} {fuel : Nat} {y : DataW H × List MemPlace}
    (hf : DataW.trod enc Tryd.prog W 0 (fun _ => true) true fuel 22 [v] = some y) :
    ∃ (a : Option Addr) (cap : Nat) (zs : List Int), v = .slice a zs.length cap ∧ SegZ W a zs ∧ zs.length ≤ cap ∧ (a = none → cap = 0) ∧ zs.length + 1 ≤ Rows.uptoBulk y.1 := by
  obtain ⟨a, l, cap, rfl⟩ : ∃ a l cap, v = .slice a l cap := by
    rcases open_slice Tryd.underlying22 hf with ⟨hcs, hx⟩ | ⟨x, l, c, m, n, D, Pl, hcs, _⟩
    · simp at hcs; exact ⟨_, _, _, hcs⟩
    · simp at hcs; exact ⟨_, _, _, hcs⟩
  obtain ⟨y1, y2⟩ := y
  obtain ⟨zs, hz, h1, h2, h3, h4⟩ := open_segZ (P := Tryd.prog) Tryd.underlying22 Tryd.underlying3 cells_intw8 (⟨fuel, hf⟩ : DataW.Trod enc Tryd.prog W 0 (fun _ => true) true 22 (.slice a l cap) y1 y2)
  subst hz
  refine ⟨a, cap, zs, rfl, h1, h2, h3, ?_⟩
  rcases h4 with ⟨hd, hl⟩ | ⟨elems, spare, hd, hl⟩
  · rw [hl]; show 0 + 1 ≤ Rows.uptoBulk y1; rw [hd]; simp [Rows.uptoBulk]
  · show zs.length + 1 ≤ Rows.uptoBulk y1
    rw [hd]
    have := UptoLemmas.slice_le elems spare
    omega
theorem open_two8 {H : Type} {enc : TypeId × Value → H} {W : World} {r : Reach} {b0 : Nat} {v : Value} {d : DataW H} {pl : List MemPlace}
    (hv : Value.okWide Tryd.prog W r b0 48 v) (h : DataW.Trod enc Tryd.prog W 0 (fun _ => true) true 48 v d pl) :
    ∃ (ba : Option Addr) (bc : Nat) (Bs : List Bool) (la : Option Addr) (lc : Nat) (zl : List Int) (da : Option Addr) (dc : Nat) (zd : List Int), v = .agg #[.slice ba Bs.length bc, .slice la zl.length lc, .slice da zd.length dc] ∧ SegB W ba Bs ∧ SegZ W la zl ∧ zl.length ≤ lc ∧ (la = none → lc = 0) ∧ SegZ W da zd ∧ zd.length ≤ dc ∧ (da = none → dc = 0) ∧ Bs.length + zl.length + zd.length ≤ Rows.uptoBulk d := by
  obtain ⟨u0, u1, u2, y0, y1, y2, mm, rfl, hd, _, t0, t1, t2⟩ := Go.Joins.open_agg3 Tryd.underlying48 (by kernel_rfl) (by kernel_rfl) hv h
  obtain ⟨ba, bc, Bs, rfl, s0, l0⟩ := open_bools8 t0
  obtain ⟨la, lc, zl, rfl, s1, c1, n1, l1⟩ := open_ints8 t1
  obtain ⟨da, dc, zd, rfl, s2, c2, n2, l2⟩ := open_ints8 t2
  refine ⟨ba, bc, Bs, la, lc, zl, da, dc, zd, rfl, s0, s1, c1, n1, s2, c2, n2, ?_⟩
  rw [hd]
  simp only [Rows.uptoBulk, Rows.uptoBulkAll]
  omega
end Go.Proofs.YtoeabfcnfofbiaaDoor

namespace Go.Proofs.YtoeabfcnfofbiaaDoor
open Go.ChangeShapes Go.WideShapes Go.ChangeAt Go.RowKit
set_option linter.unusedVariables false

theorem gSns : Tryd.prog.globalNamed "sapper/head.senses" = some 0 := by kernel_rfl
theorem gSnsType : (Tryd.prog.globals[0]?).map (·.type) = some 103 := by kernel_rfl
theorem gOrd : Tryd.prog.globalNamed "sapper/head.order" = some 1 := by kernel_rfl
theorem gOrdType : (Tryd.prog.globals[1]?).map (·.type) = some 110 := by kernel_rfl
theorem cellsSns : Tryd.prog.cellsOf 103 = 57 := by kernel_rfl
theorem cellsSense : Tryd.prog.cellsOf 102 = 3 := by kernel_rfl
theorem cellsOrd : Tryd.prog.cellsOf 110 = 19 := by kernel_rfl
theorem cellsInt8 : Tryd.prog.cellsOf 3 = 1 := by kernel_rfl

/-- A table of rows of three numbers as a row of the statements lists it. -/
def rowsData {H : Type} (l : List (Int × Int × Int)) : DataW H := .agg (l.map fun r => .agg [.lit (.int .i64 r.1), .lit (.int .i64 r.2.1), .lit (.int .i64 r.2.2)])
def flat3 (l : List (Int × Int × Int)) : List Value := l.flatMap fun r => [.int .i64 r.1, .int .i64 r.2.1, .int .i64 r.2.2]
theorem flat3_get : ∀ (l : List (Int × Int × Int)) (k j : Nat) (x : Int × Int × Int), l[k]? = some x → j < 3 → (flat3 l)[k * 3 + j]? = ([.int .i64 x.1, .int .i64 x.2.1, .int .i64 x.2.2] : List Value)[j]?
  | [], k, j, x, h, _ => by simp at h
  | t :: r, 0, j, x, h, hj => by
    simp at h
    subst h
    have e : flat3 (t :: r) = [.int .i64 t.1, .int .i64 t.2.1, .int .i64 t.2.2] ++ flat3 r := rfl
    rw [e, Nat.zero_mul, Nat.zero_add, List.getElem?_append_left (by simpa using hj)]
  | t :: r, k + 1, j, x, h, hj => by
    have := flat3_get r k j x (by simpa using h) hj
    have e : flat3 (t :: r) = [.int .i64 t.1, .int .i64 t.2.1, .int .i64 t.2.2] ++ flat3 r := rfl
    rw [e, List.getElem?_append_right (by simp; omega), show (k + 1) * 3 + j - ([.int .i64 t.1, .int .i64 t.2.1, .int .i64 t.2.2] : List Value).length = k * 3 + j by simp; omega]
    exact this
theorem flat3_len : ∀ l : List (Int × Int × Int), (flat3 l).length = l.length * 3
  | [] => rfl
  | t :: r => by
    have e : flat3 (t :: r) = [.int .i64 t.1, .int .i64 t.2.1, .int .i64 t.2.2] ++ flat3 r := rfl
    rw [e, List.length_append, flat3_len r, List.length_cons]
    simp
    omega
/-- Three numbers that read as a row of the table. -/
theorem cells_of_three {H : Type} {enc : TypeId × Value → H} {P : Program} {w : World} {base : Nat} {sp : Nat → Bool} {held : Bool} {fuel : Nat} {t e : TypeId} {fs : Array Field} {cs : List Value} {a b c : Int} {p : List MemPlace}
    (ht : P.underlying t = some (.struct fs)) (hf : fs.toList.map (fun f => (f.type, f.offset)) = [(e, 0), (e, 1), (e, 2)]) (he : P.underlying e = some (.int .i64)) (hce : P.cellsOf e = 1) (hct : P.cellsOf t = 3)
    (h : DataW.trod enc P w base sp held fuel t cs = some (.agg [.lit (.int .i64 a), .lit (.int .i64 b), .lit (.int .i64 c)], p)) : cs = [.int .i64 a, .int .i64 b, .int .i64 c] := by
  cases fuel with
  | zero => simp [DataW.trod] at h
  | succ fuel =>
    simp only [DataW.trod, ht, hct] at h
    split at h
    · rename_i hl
      obtain ⟨xs, hm, hx⟩ := Option.map_eq_some_iff.1 h
      have hxs : xs.map (·.1) = [.lit (.int .i64 a), .lit (.int .i64 b), .lit (.int .i64 c)] := by
        have := congrArg Prod.fst hx
        simpa using this
      have key : ∀ (i : Nat) (z : Int), i < 3 → ([a, b, c] : List Int)[i]? = some z → cs[i]? = some (.int .i64 z) := by
        intro i z hi hz
        have hfi : ∃ f, fs.toList[i]? = some f ∧ f.type = e ∧ f.offset = i := by
          have h1 := congrArg (·[i]?) hf
          simp only [List.getElem?_map] at h1
          rcases i with _ | _ | _ | i
          · obtain ⟨f, e1, e2⟩ := Option.map_eq_some_iff.1 h1
            simp only [Prod.mk.injEq] at e2
            exact ⟨f, e1, e2.1, e2.2⟩
          · obtain ⟨f, e1, e2⟩ := Option.map_eq_some_iff.1 h1
            simp only [Prod.mk.injEq] at e2
            exact ⟨f, e1, e2.1, e2.2⟩
          · obtain ⟨f, e1, e2⟩ := Option.map_eq_some_iff.1 h1
            simp only [Prod.mk.injEq] at e2
            exact ⟨f, e1, e2.1, e2.2⟩
          · omega
        obtain ⟨f, hf1, hf2, hf3⟩ := hfi
        obtain ⟨y, hy, hfy⟩ := Lib.mapM_at hm i f hf1
        rw [hf2, hf3, hce] at hfy
        obtain ⟨z', hc, hyz, _⟩ := DataW.trod_int he hfy
        have h1 : cs[i]? = some (.int .i64 z') := by
          have := congrArg (·[0]?) hc
          simpa [List.getElem?_take, List.getElem?_drop] using this
        have h2 : (xs.map (·.1))[i]? = some (DataW.lit (.int .i64 z') : DataW H) := by simp [hy, hyz]
        rw [hxs] at h2
        rw [h1]
        rcases i with _ | _ | _ | i
        · simp at h2 hz; rw [← h2, hz]
        · simp at h2 hz; rw [← h2, hz]
        · simp at h2 hz; rw [← h2, hz]
        · omega
      apply List.ext_getElem?
      intro i
      rcases i with _ | _ | _ | i
      · rw [key 0 a (by omega) rfl]; rfl
      · rw [key 1 b (by omega) rfl]; rfl
      · rw [key 2 c (by omega) rfl]; rfl
      · rw [List.getElem?_eq_none (by omega), List.getElem?_eq_none (by simp)]
    · cases h
theorem cells_of_rows {H : Type} {enc : TypeId × Value → H} {P : Program} {w : World} {base : Nat} {sp : Nat → Bool} {held : Bool} {fuel : Nat} {t u e : TypeId} {n : Nat} {fs : Array Field} {cs : List Value} {l : List (Int × Int × Int)} {p : List MemPlace}
    (ht : P.underlying t = some (.array n u)) (hu : P.underlying u = some (.struct fs)) (hf : fs.toList.map (fun f => (f.type, f.offset)) = [(e, 0), (e, 1), (e, 2)]) (he : P.underlying e = some (.int .i64)) (hce : P.cellsOf e = 1) (hcu : P.cellsOf u = 3) (hct : P.cellsOf t = n * 3)
    (h : DataW.trod enc P w base sp held fuel t cs = some (rowsData l, p)) : cs = flat3 l := by
  cases fuel with
  | zero => simp [DataW.trod] at h
  | succ fuel =>
    simp only [DataW.trod, ht, hct, hcu] at h
    split at h
    · rename_i hl
      obtain ⟨xs, hm, hx⟩ := Option.map_eq_some_iff.1 h
      have hxs : xs.map (·.1) = l.map fun r => (.agg [.lit (.int .i64 r.1), .lit (.int .i64 r.2.1), .lit (.int .i64 r.2.2)] : DataW H) := by
        have := congrArg Prod.fst hx
        simpa [rowsData] using this
      have hxl : xs.length = n := by simpa using Lib.mapM_length hm
      have hzl : l.length = n := by
        have := congrArg List.length hxs
        simp at this
        omega
      apply List.ext_getElem?
      intro q
      by_cases hq : q < n * 3
      · obtain ⟨i, j, hj, rfl⟩ : ∃ i j, j < 3 ∧ q = i * 3 + j := ⟨q / 3, q % 3, by omega, by omega⟩
        have hi : i < n := by omega
        obtain ⟨y, hy, hfy⟩ := Lib.mapM_at hm i i (by simp [hi])
        obtain ⟨r, hr⟩ : ∃ r, l[i]? = some r := ⟨l[i]'(by omega), by simp [show i < l.length by omega]⟩
        have hy1 : y.1 = .agg [.lit (.int .i64 r.1), .lit (.int .i64 r.2.1), .lit (.int .i64 r.2.2)] := by
          have h2 : (xs.map (·.1))[i]? = some y.1 := by simp [hy]
          rw [hxs] at h2
          simp [hr] at h2
          exact h2.symm
        obtain ⟨y1, y2⟩ := y
        simp only at hy1
        subst hy1
        have hc := cells_of_three hu hf he hce hcu hfy
        rw [flat3_get l i j r hr hj, ← hc, List.getElem?_take, if_pos hj, List.getElem?_drop]
      · rw [List.getElem?_eq_none (by omega), List.getElem?_eq_none (by rw [flat3_len]; omega)]
    · cases h
def snsR : List (Int × Int × Int) := [(0, 1, 0), (1, 1, 0), (2, 1, 0), (3, 1, 0), (4, 1, 0), (5, 1, 0), (6, 1, 0), (7, 1, 0), (8, 1, 0), (9, 1, 0), (10, 1, 0), (11, 1, 0), (12, 1, 0), (13, 1, 0), (14, 1, 0), (15, 1, 0), (-1, 3, 2), (0, 3, 3), (0, 11, 7)]
theorem flat3_sns : flat3 snsR = snsL.map (Value.int .i64) := rfl
theorem sense_struct : ∃ fs, Tryd.prog.underlying 102 = some (.struct fs) ∧ fs.toList.map (fun f => (f.type, f.offset)) = [(3, 0), (3, 1), (3, 2)] := ⟨_, Tryd.underlying102, rfl⟩
theorem tabS_of {W : World} {rest : List (String × DataW Unit)} (h : laidMet Tryd.prog (("sapper/head.senses", Rows.laid_sapper_head_senses) :: rest) W) : TabS W := by
  obtain ⟨ps, ⟨g', t', cs, fuel, p, q, hg', ht', hvar, hd, _, _⟩, _⟩ := h
  obtain rfl := Option.some.inj (gSns.symm.trans hg')
  obtain rfl := Option.some.inj (gSnsType.symm.trans ht')
  obtain ⟨fs, hs, hf⟩ := sense_struct
  have hd' : DataW.trod _ Tryd.prog W _ _ _ fuel 103 cs.toList = some (rowsData snsR, p) := hd
  have hc := cells_of_rows (n := 19) Tryd.underlying103 hs hf Tryd.underlying3 cellsInt8 cellsSense cellsSns hd'
  rw [flat3_sns] at hc
  have hcs : cs = (snsL.map (Value.int .i64)).toArray := by rw [← hc]
  rw [hcs] at hvar
  refine ⟨fun i hi => ⟨0, 0, rfl, ?_⟩, getD_bdz (by decide)⟩
  have := World.var?_cell gSns hvar i
  rw [Nat.zero_add]
  simpa [List.getD, hi] using this
theorem tabO_of {W : World} {rest : List (String × DataW Unit)} (h : laidMet Tryd.prog (("sapper/head.order", Rows.laid_sapper_head_order) :: rest) W) : TabO W := by
  have ht : Lib.TabIs Tryd.prog W "sapper/head.order" .i64 ordL :=
    Lib.tabIs_of_head (rest := rest) gOrd gOrdType Tryd.underlying110 Tryd.underlying3 cellsInt8 cellsOrd h
  refine ⟨fun i hi => ⟨1, 0, rfl, ?_⟩, getD_bdz (by decide)⟩
  rw [Nat.zero_add]
  exact ht.cell gOrd i hi
theorem tabB_of {W : World} (h : laidMetH Tryd.prog [("sapper/head.senses", Rows.laid_sapper_head_senses), ("sapper/head.order", Rows.laid_sapper_head_order)] W) : TabS W ∧ TabO W := by
  have h' : laidMet Tryd.prog [("sapper/head.senses", Rows.laid_sapper_head_senses), ("sapper/head.order", Rows.laid_sapper_head_order)] W := h
  have h2 : laidMet Tryd.prog [("sapper/head.order", Rows.laid_sapper_head_order)] W := laidMet.filter (fun x => x.1 == "sapper/head.order") h'
  exact ⟨tabS_of h', tabO_of h2⟩
end Go.Proofs.YtoeabfcnfofbiaaDoor
