import Derived.Test.YtodioefbfchckaaPs
import Derived.Test.YtodioefbfchckaaPm
import Derived.Test.YtodioefbfchckaaPn
import Derived.Test.YtodioefbfchckaaPq
namespace Go.Proofs.Ytodioefbfchckaa
open Go.RowKit Go.Shelf
set_option linter.unusedVariables false
attribute [local go_sem] Oper.semAt_some

/-! Apply: a window's bytes. -/
def fy17 (z : List Int) (o : Wy17) : Int := if o.2.2 = true then IntKind.u8.wrap (o.2.1 + z.getD o.1.toNat 0) else o.2.1
def aw17 (z : List Int) (pos : Int) (S : List St16) (D X : List Int) : List Int := (ws17 (pi17 S D X pos S.length)).map (fy17 z)
/-- What may be, told by edit's words. -/
theorem w17_ok {pos : Int} {S : List St16} {m k : Nat} {old size : Int} (h : W17 pos S m k old size) : Ok16 S S.length ∧ sa16 S S.length = m ∧ sc16 S S.length = k ∧ m + k ≤ 65536 ∧ (0 ≤ pos ∧ pos ≤ 16777216) := by
  have h2 := (w17_iff pos S m k old size).1 h
  obtain ⟨hm, ⟨s1, s2⟩, ⟨o1, o2⟩, ha, hc, s3, ⟨o3, o4⟩, hh⟩ := h2
  refine ⟨fun j hj => ?_, ha, hc, by omega, by omega⟩
  obtain ⟨m1, m2, m3, m4, m5, m6⟩ := hm j hj
  obtain ⟨h1, h2, h3, h4, h5⟩ := hh j hj
  exact may16_iff.2 ⟨m1, m2, m3, m4, h3.1, h3.2⟩
/-- The added bytes' places lie within. -/
theorem ws17_in {pos : Int} {S : List St16} {m k : Nat} {D X : List Int} {old size : Int} (h : W17 pos S m k old size) : ∀ o ∈ ws17 (pi17 S D X pos S.length), o.2.2 = true → 0 ≤ o.1 ∧ o.1 < old := by
  intro o ho hb
  unfold ws17 at ho
  rw [List.mem_flatMap] at ho
  obtain ⟨p, hp, ho⟩ := ho
  obtain ⟨i, hi, rfl⟩ := List.getElem_of_mem hp
  rw [pi17_len] at hi
  have hp2 : (pi17 S D X pos S.length)[i]? = some (pc17 S D X pos i) := pi17_get hi
  rw [List.getElem?_eq_getElem (by rw [pi17_len]; exact hi)] at hp2
  rw [Option.some.inj hp2] at ho
  unfold wy17 at ho
  rw [List.mem_map] at ho
  obtain ⟨j, hj, rfl⟩ := ho
  rw [List.mem_range] at hj
  simp only at hb ⊢
  obtain ⟨q, hq⟩ : ∃ q, i = 2 * q ∨ i = 2 * q + 1 := ⟨i / 2, by omega⟩
  rcases hq with rfl | rfl
  · rw [pc17_a] at hj ⊢
    simp only at hj ⊢
    rw [List.length_take] at hj
    have hq : q < S.length := by omega
    have hcg := cg17_all h.2.1.2.2 q (fun t ht => h.2.2.1 t (by omega))
    obtain ⟨g1, g2, g3, g4, g5, g6, _⟩ := h.2.2.1 q hq
    have hp := hcg.p
    have hA : (ad16 S q : Int) = (S.getD q z16).1 := by unfold ad16; omega
    omega
  · rw [pc17_c] at hb
    cases hb
theorem ws17_by {S : List St16} {D X : List Int} {p0 : Int} {n : Nat} (hd : ∀ i, 0 ≤ D.getD i 0 ∧ D.getD i 0 ≤ 255) (hx : ∀ i, 0 ≤ X.getD i 0 ∧ X.getD i 0 ≤ 255) : ∀ o ∈ ws17 (pi17 S D X p0 n), 0 ≤ o.2.1 ∧ o.2.1 ≤ 255 := by
  intro o ho
  unfold ws17 at ho
  rw [List.mem_flatMap] at ho
  obtain ⟨p, hp, ho⟩ := ho
  unfold wy17 at ho
  rw [List.mem_map] at ho
  obtain ⟨j, hj, rfl⟩ := ho
  rw [List.mem_range] at hj
  simp only
  unfold pi17 at hp
  rw [List.mem_map] at hp
  obtain ⟨i, hi, rfl⟩ := hp
  have key : ∀ (L : List Int) (a b : Nat), (∀ i, 0 ≤ L.getD i 0 ∧ L.getD i 0 ≤ 255) → j < ((L.drop a).take b).length → 0 ≤ ((L.drop a).take b).getD j 0 ∧ ((L.drop a).take b).getD j 0 ≤ 255 := by
    intro L a b h hl
    have : ((L.drop a).take b).getD j 0 = L.getD (a + j) 0 := by
      rw [List.length_take, List.length_drop] at hl
      simp only [List.getD]
      rw [List.getElem?_take, if_pos (by omega), List.getElem?_drop]
    rw [this]
    exact h _
  unfold pc17 at hj ⊢
  split at hj
  · rename_i hc
    rw [if_pos hc]
    exact key D _ _ hd hj
  · rename_i hc
    rw [if_neg hc]
    exact key X _ _ hx hj
/-- The state of Apply's loop. -/
structure Aj17 (w : World) (R : Nat → Prop) (bO bz : Nat) (zv : Value) (L : List Int) (i : Nat) (E : Nat → Prop) (ra : Option Addr) (rc : Nat) (V : World) : Prop where
  hO : V.heap[bO]? = some (.cells #[.slice ra i rc] 23 (0, 0))
  hz : V.heap[bz]? = some (.cells #[zv] 23 (0, 0))
  own : V.ownsRow w.heap.size 5 1 (.slice ra i rc) i ((L.take i).map (Value.int .u8))
  nO : ∀ g, (Value.slice ra i rc).ownBlock = some g → g ≠ bO ∧ g ≠ bz ∧ ¬ E g ∧ ¬ R g
  bl : Below w.heap.size w V
theorem Aj17.kp {w : World} {R : Nat → Prop} {bO bz : Nat} {zv : Value} {L : List Int} {i : Nat} {E E' K : Nat → Prop} {ra : Option Addr} {rc : Nat} {V V' : World} (h : Aj17 w R bO bz zv L i E ra rc V) (hk : Kp K V V') (hK : ∀ k, K k → w.heap.size ≤ k ∧ k ≠ bO ∧ k ≠ bz ∧ (Value.slice ra i rc).ownBlock ≠ some k) (h2 : ∀ k, E' k → E k ∨ V.heap.size ≤ k) : Aj17 w R bO bz zv L i E' ra rc V' := by
  refine ⟨hk.heap h.hO (fun x => (hK _ x).2.1 rfl), hk.heap h.hz (fun x => (hK _ x).2.2.1 rfl), own_kp h.own hk (fun x e y => (hK x y).2.2.2 e), fun g e => ⟨(h.nO g e).1, (h.nO g e).2.1, fun x => ?_, (h.nO g e).2.2.2⟩, h.bl.trans (hk.below (fun k x => (hK k x).1) h.bl.size)⟩
  rcases h2 g x with y | y
  · exact (h.nO g e).2.2.1 y
  · have := (h.own.lt g e).2
    omega
/-- One byte more. -/
theorem Aj17.more {w : World} {R : Nat → Prop} {bO bz : Nat} {zv : Value} {L : List Int} {i : Nat} {E : Nat → Prop} {ra : Option Addr} {rc : Nat} {V : World} (h : Aj17 w R bO bz zv L i E ra rc V) (y : Int) (hT : L.take (i + 1) = L.take i ++ [y])
    (hne : bO ≠ bz) (hlt : ∀ k, (E k ∨ R k ∨ k = bO ∨ k = bz) → k < V.heap.size) (hbO : ¬ E bO ∧ ¬ R bO) (hw : w.heap.size ≤ bO) {g rc' : Nat} {w' : World} (hg : Gr16 V w.heap.size ra i rc ((L.take i).map (Value.int .u8)) (.int .u8 y) g rc' w') :
    w'.heap[bO]? = some (.cells #[.slice ra i rc] 23 (0, 0)) ∧ Aj17 w R bO bz zv L (i + 1) E (some ⟨g, 0, none⟩) rc' (w'.setCell ⟨bO, 0, none⟩ (.slice (some ⟨g, 0, none⟩) (i + 1) rc')) ∧ Kr16 (fun k => E k ∨ R k) V (w'.setCell ⟨bO, 0, none⟩ (.slice (some ⟨g, 0, none⟩) (i + 1) rc')) := by
  have kg : Kp (fun k => (Value.slice ra i rc).ownBlock = some k) V w' := Kp.grown hg.grown (fun i e => e)
  have hgn : g ≠ bO ∧ g ≠ bz ∧ ¬ E g ∧ ¬ R g := by
    rcases hg.fresh g rfl with e | e
    · exact h.nO g e
    · refine ⟨?_, ?_, ?_, ?_⟩
      · intro x; have := hlt bO (.inr (.inr (.inl rfl))); omega
      · intro x; have := hlt bz (.inr (.inr (.inr rfl))); omega
      · intro x; have := hlt g (.inl x); omega
      · intro x; have := hlt g (.inr (.inl x)); omega
  have hO' : w'.heap[bO]? = some (.cells #[.slice ra i rc] 23 (0, 0)) := kg.heap h.hO (fun e => (h.nO bO e).1 rfl)
  have ks : Kp (fun k => k = bO) w' (w'.setCell ⟨bO, 0, none⟩ (.slice (some ⟨g, 0, none⟩) (i + 1) rc')) := Kp.set (S := fun k => k = bO) rfl _
  refine ⟨hO', ⟨one_set16 hO' _, ks.heap (kg.heap h.hz (fun e => (h.nO bz e).2.1 rfl)) (fun e => hne e.symm), ?_, ?_, ?_⟩, ?_⟩
  · rw [hT, List.map_append]
    exact own_kp hg.own ks (fun x e => by
      have : some g = some x := e
      injection this with this
      show ¬ x = bO
      omega)
  · intro x e
    have : some g = some x := e
    injection this with this
    subst this
    exact hgn
  · have b1 : Below w.heap.size V w' := kg.below (fun k e => (h.own.lt k e).1) h.bl.size
    exact (h.bl.trans b1).trans (ks.below (fun k e => by have e : k = bO := e; omega) (h.bl.trans b1).size)
  · refine ⟨Nat.le_trans kg.size ks.size, fun k hk x => ?_⟩
    refine (ks.block k (Nat.lt_of_lt_of_le hk kg.size) ?_).trans (kg.block k hk ?_)
    · intro e
      have e : k = bO := e
      subst e
      rcases x with x | x
      · exact hbO.1 x
      · exact hbO.2 x
    · intro e
      rcases x with x | x
      · exact (h.nO k e).2.2.1 x
      · exact (h.nO k e).2.2.2 x
set_option maxRecDepth 100000 in
set_option maxHeartbeats 4000000 in
theorem papl17_no (pos size : Int) {za : Option Addr} {zl zc : Nat} {sa : Option Addr} {n sc : Nat} {da : Option Addr} {m dc : Nat} {xa : Option Addr} {k xc : Nat} {S : List St16} (w : World) (hs : SegS w sa S) (hn : Hid (S.length = n)) (hln : n ≤ 5864062014805) (hlm : m ≤ 140737488355328) (hlk : k ≤ 140737488355328) (hzl : zl ≤ 140737488355328) (he : ¬ W17 pos S m k (zl : Int) size) :
    Calls Try.prog 30 #[.slice za zl zc, wn17 pos sa n sc da m dc xa k xc, .int .i64 size] w fun e w' => e = .returned (.tuple #[.slice none 0 0, .int .i64 171]) ∧ Below w.heap.size w w' := by
  obtain ⟨w1, hw1⟩ : ∃ w1, w1 = (w.alloc (.cells #[.slice za zl zc] 23)).alloc (.cells #[.int .i64 pos, .slice sa n sc, .slice da m dc, .slice xa k xc] 42) := ⟨_, rfl⟩
  have hb := two_boxes16 w #[.slice za zl zc] 23 #[.int .i64 pos, .slice sa n sc, .slice da m dc, .slice xa k xc] 42
  simp only [← hw1] at hb
  obtain ⟨b1, z1, q1, q2⟩ := hb
  have CS := pck17 (sc := sc) (da := da) (dc := dc) (xa := xa) (xc := xc) pos (zl : Int) size w1 (hs.old b1) hn hln hlm hlk (by omega)
  rw [cc17_no he] at CS
  have c1 := one_cell16 q1
  obtain ⟨c20, c21, c22, c23⟩ := four_cells q2
  unfold wn17 at CS ⊢
  rw [hw1] at c1 c20 c21 c22 c23
  have HW1 : Hid ((w.alloc (.cells #[.slice za zl zc] 23)).alloc (.cells #[.int .i64 pos, .slice sa n sc, .slice da m dc, .slice xa k xc] 42) = w1) := hw1.symm
  clear hw1 z1 q1 q2 he
  go_enter Try.func30, Try.ntmps30
  go_wp2_with (first
    | (go_at_call 32; rw [HW1.out]; refine CS.mono ?_; rintro e1 w2 ⟨rfl, B2⟩; clear CS))
  go_ret2
  exact ⟨rfl, b1.trans (B2.mono b1.size)⟩
set_option maxRecDepth 100000 in
set_option maxHeartbeats 8000000 in
theorem papl17 (pos : Int) (size : Nat) {za : Option Addr} {zl zc : Nat} {z : List Int} {sa : Option Addr} {n sc : Nat} {da : Option Addr} {m dc : Nat} {xa : Option Addr} {k xc : Nat} {S : List St16} {D X : List Int} (w : World) (h : Ed16 w sa n S da m D xa k X) (hz : Seg w za z) (hzl : Hid (z.length = zl)) (hdc : m ≤ dc) (hxc : k ≤ xc) (hW : W17 pos S m k (zl : Int) (size : Int)) :
    Calls Try.prog 30 #[.slice za zl zc, wn17 pos sa n sc da m dc xa k xc, .int .i64 (size : Int)] w (ApQ16 w (aw17 z pos S D X)) := by
  obtain ⟨hok, hsa, hsc, hmk, hpos⟩ := w17_ok hW
  have hin := ws17_in (D := D) (X := X) hW
  have hsz := hW.1
  have hol := hW.2.1
  have hn := h.hn
  rw [hn] at hok hsa hsc hin
  have hLL := ws17_len (p0 := pos) hsa hsc h.hm h.hk
  have HAW : Hid (aw17 z pos S D X = (ws17 (pi17 S D X pos n)).map (fy17 z)) := by show _ = _; unfold aw17; rw [hn]
  have hBv : ∀ o ∈ ws17 (pi17 S D X pos n), 0 ≤ o.2.1 ∧ o.2.1 ≤ 255 := ws17_by h.sd.bd h.sx.bd
  obtain ⟨w1, hw1⟩ : ∃ w1, w1 = (w.alloc (.cells #[.slice za zl zc] 23)).alloc (.cells #[.int .i64 pos, .slice sa n sc, .slice da m dc, .slice xa k xc] 42) := ⟨_, rfl⟩
  have hb := two_boxes16 w #[.slice za zl zc] 23 #[.int .i64 pos, .slice sa n sc, .slice da m dc, .slice xa k xc] 42
  simp only [← hw1] at hb
  obtain ⟨b1, z1, q1, q2⟩ := hb
  have CS := pck17 (m := m) (k := k) (sc := sc) (da := da) (dc := dc) (xa := xa) (xc := xc) pos (zl : Int) (size : Int) w1 (h.ss.old b1) hn (by have := h.ln; omega) (by have := h.lm; omega) (by have := h.lk; omega) (by omega)
  rw [cc17_ok hW] at CS
  refine callsIn_wide.1 (callsIn_of_fn16 (n := 9) Try.func30 rfl ?_)
  unfold wn17 at CS ⊢
  simp only [Try.ntmps30, List.size_toArray, List.length_cons, List.length_nil, Nat.reduceAdd, Nat.reduceSub, Array.replicate_succ, Array.replicate_zero, List.push_toArray, List.append_toArray, List.nil_append, List.cons_append]
  have HZ1 : Hid (w1.heap.size = w.heap.size + 2) := z1
  obtain ⟨bz, hbz⟩ : ∃ bz, bz = w.heap.size := ⟨_, rfl⟩
  obtain ⟨be, hbe⟩ : ∃ be, be = w.heap.size + 1 := ⟨_, rfl⟩
  have HBz : Hid (bz = w.heap.size) := hbz
  have HBe : Hid (be = w.heap.size + 1) := hbe
  rw [← hbz] at q1
  rw [← hbe] at q2
  clear z1
  refine fn16_seq (fn16_ofP ?_)
  go_wp2
  rw [← hw1, ← hbe, ← hbz]
  clear hw1 hbz hbe
  have c1 := one_cell16 q1
  obtain ⟨c20, c21, c22, c23⟩ := four_cells q2
  refine fn16_seq (fn16_ofP ?_)
  go_wp2_with (first
    | (go_at_call 32; refine CS.mono ?_; rintro e4 w2 ⟨rfl, b2⟩; clear CS))
  obtain ⟨i0, hi0, hz0, hz1, hz2⟩ := info_parts info_u16
  obtain ⟨w3, hmk3, own3, gr3⟩ := run_make_own (P := Try.prog) w2 w.heap.size 23 5 i0 _ 1 Try.underlying23 hi0 hz0 hz1 .i64 .i64 size (by rw [hz2]; omega) (by unfold maxLen; omega) (by have := b1.size; have := b2.size; omega)
  clear hz0 hz1 hz2 hi0
  have b3 : Below w2.heap.size w2 w3 := (Kp.grown (S := fun _ => False) gr3 (fun i e => by cases e)).below (fun _ h => h.elim) (Nat.le_refl _)
  obtain ⟨gO, hgO⟩ : ∃ gO, gO = w2.heap.size := ⟨_, rfl⟩
  rw [← hgO] at hmk3 own3
  have HGO : Hid (gO = w2.heap.size) := hgO
  obtain ⟨bO, hbO⟩ : ∃ bO, bO = w3.heap.size := ⟨_, rfl⟩
  have HBO : Hid (bO = w3.heap.size) := hbO
  have cb4 := cb16 w3 #[.slice (some ⟨gO, 0, none⟩) 0 size] 23
  obtain ⟨w4, hw4⟩ : ∃ w4, w4 = w3.alloc (.cells #[.slice (some ⟨gO, 0, none⟩) 0 size] 23) := ⟨_, rfl⟩
  rw [← hw4] at cb4
  have HC4 : Hid (Cb16 w3 #[.slice (some ⟨gO, 0, none⟩) 0 size] 23 w4) := cb4
  clear hgO gr3 cb4
  refine fn16_seq (fn16_ofP ?_)
  go_wp2
  rw [← hw4, ← hbO]
  clear hw4 hbO hmk3
  have b24 : Below w2.heap.size w2 w4 := b3.trans (HC4.out.bl.mono b3.size)
  have b14 : Below w1.heap.size w1 w4 := b2.trans (b24.mono b2.size)
  have b04 : Below w.heap.size w w4 := b1.trans (b14.mono b1.size)
  have q24 := (b14.block be (Array.getElem?_eq_some_iff.1 q2).1).trans q2
  have q14 := (b14.block bz (Array.getElem?_eq_some_iff.1 q1).1).trans q1
  obtain ⟨d20, d21, d22, d23⟩ := four_cells q24
  have CP := ppcs17 pos sa n sc da m dc xa k xc w4
  have CW := fun W => pwys17 (.func (.func 62) #[] #[.pointer (some ⟨w4.heap.size, 0, none⟩), .pointer (some ⟨w4.heap.size + 1, 0, none⟩)]) W ⟨_, _, rfl⟩
  unfold ev16 at CP
  refine fn16_seq (fn16_seq (fn16_ofP ?_))
  go_wp2_with (first
    | (go_at_call 39; refine CP.mono ?_; rintro e7 W7 ⟨rfl, c7⟩; have HC7 : Hid (Below w4.heap.size w4 W7 ∧ W7.heap.size = w4.heap.size + 2 ∧ W7.heap[w4.heap.size]? = some (.cells #[.int .i64 pos] 3 (0, 0)) ∧ W7.heap[w4.heap.size + 1]? = some (.cells #[.slice sa n sc, .slice da m dc, .slice xa k xc] 28 (0, 0))) := c7; clear CP c7))
  refine (CW _).mono ?_
  rintro e8 W0 ⟨rfl, c8⟩
  have HC8 : Hid (Cb16 W7 #[.func (.func 62) #[] #[.pointer (some ⟨w4.heap.size, 0, none⟩), .pointer (some ⟨w4.heap.size + 1, 0, none⟩)]] 88 W0) := c8
  clear CW c8
  go_wp2
  obtain ⟨b7, z7, q7a, q7b⟩ := HC7.out
  have c8 := HC8.out
  have z8 := c8.sz
  have b40 : Below w4.heap.size w4 W0 := b7.trans (c8.bl.mono b7.size)
  have b00 : Below w.heap.size w W0 := b04.trans (b40.mono b04.size)
  have hED0 := h.old b00
  have hc4 := HC4.out
  have sz1 := HZ1.out
  have sz2 := b2.size
  have sz3 := b3.size
  have sz4 := hc4.sz
  have hgO := HGO.out
  have hbO := HBO.out
  have hbz := HBz.out
  have hgl := (own3.lt gO rfl).2
  obtain ⟨R, hR⟩ : ∃ R : Nat → Prop, R = fun k => k < W0.heap.size ∧ k ≠ bO ∧ k ≠ gO := ⟨_, rfl⟩
  have hRl : ∀ k, R k → k < W0.heap.size := fun k x => by rw [hR] at x; exact x.1
  have hRw : ∀ k, k < w.heap.size → R k := fun k x => by rw [hR]; exact ⟨by have := b00.size; omega, by omega, by omega⟩
  have SQ1 : Seq16 5 Try.prog 62 #[.pointer (some ⟨w4.heap.size, 0, none⟩), .pointer (some ⟨w4.heap.size + 1, 0, none⟩)] (pL17 S da dc xa xc pos n) R W0 :=
    ps17 5 (by omega) w4.heap.size (w4.heap.size + 1) R W0 ((c8.bl.block _ (by omega)).trans q7a) ((c8.bl.block _ (by omega)).trans q7b) hED0 hok hsa hsc hdc hxc (by omega) (by rw [hR]; exact ⟨by omega, by omega, by omega⟩) (by rw [hR]; exact ⟨by omega, by omega, by omega⟩) (fun b off e hl => hRw b (h.ss.lt b off e hl))
  have SQ2 : Seq16 9 Try.prog 61 #[.pointer (some ⟨W7.heap.size, 0, none⟩)] (wL17 (ws17 (pi17 S D X pos n))) R W0 :=
    ww17 9 (by omega) W7.heap.size R W0 (fun _ _ => rfl) c8.cl SQ1 (by rw [pL17_len, pi17_len]) (pv17_of hED0.sd hED0.sx hED0.hm hED0.hk hok hED0.ln hED0.lm hED0.lk hsa hsc hdc hxc (by omega) (fun b off e hl => hRw b (h.sd.lt b off e hl)) (fun b off e hl => hRw b (h.sx.lt b off e hl))) (by rw [hR]; exact ⟨by omega, by omega, by omega⟩) hRl
  have q10 := (b40.block bz (Array.getElem?_eq_some_iff.1 q14).1).trans q14
  have hzs : Seg W0 za z := hz.old b00
  have hzR : ∀ b off, za = some ⟨b, off, none⟩ → 0 < z.length → R b := fun b off e hl => hRw b (hz.lt b off e hl)
  have AI0 : Aj17 w R bO bz (.slice za zl zc) ((ws17 (pi17 S D X pos n)).map (fy17 z)) 0 (fun _ => False) (some ⟨gO, 0, none⟩) size W0 := by
    refine ⟨?_, q10, ?_, ?_, b00⟩
    · rw [hbO]; exact (b40.block _ (by omega)).trans hc4.cl
    · exact own_below (own_below own3 hc4.bl) b40
    · intro g hg
      have : gO = g := by injection hg
      refine ⟨by omega, by omega, fun x => x, fun x => ?_⟩
      rw [hR] at x
      omega
  have HBB : Hid (bO < W0.heap.size ∧ bz < W0.heap.size ∧ w.heap.size ≤ bO ∧ w.heap.size ≤ bz ∧ bO ≠ bz ∧ ¬ R bO ∧ w.heap.size ≤ W0.heap.size) := ⟨by omega, by omega, by omega, by omega, by omega, fun x => by rw [hR] at x; exact x.2.1 rfl, b00.size⟩
  generalize hL : ws17 (pi17 S D X pos n) = L at *
  clear hL hR SQ1 q7a q7b b7 z7 c8 b40 z8 b00 hED0 hRw hc4 sz1 sz2 sz3 sz4 hgO hbO hbz hgl HC7 HC8 HC4 HGO HBO HBz HBe HZ1 b24 b14 b04 q24 q14 q10 d20 d21 d22 d23 c1 c20 c21 c22 c23 own3 b3 q1 q2 b1 b2 hok hsa hsc hW
  refine fn16_block ?_
  refine range16 (n := 9) (w := W0) Try.func30 (gf := 61) (lb := #[.pointer (some ⟨W7.heap.size, 0, none⟩)]) rfl (fun _ _ => rfl) hRl SQ2 ?_
    (fun i E V => ∃ ra rc, Aj17 w R bO bz (.slice za zl zc) (L.map (fy17 z)) i E ra rc V) ?_ (fun _ _ _ => False) (fun _ _ _ _ _ h _ _ _ _ _ => h) ⟨_, _, AI0⟩ ?_ ?_ (fun _ _ _ _ _ _ h _ => h.elim)
  · intro v hv
    simp only [wL17, List.mem_map] at hv
    obtain ⟨i, _, rfl⟩ := hv
    rfl
  · rintro i E E' A B ⟨ra, rc, hA⟩ hlo hk _ h2 _
    have hb := HBB.out
    exact ⟨ra, rc, hA.kp hk (fun k x => by
      have := (hlo k x).1
      exact ⟨by omega, by omega, by omega, fun e => (hA.nO k e).2.2.1 x⟩) h2⟩
  · rintro l' i v E V hv ⟨ra, rc, hA⟩ hlo hEl hlr hkr
    have hil : i < L.length := by
      have := (List.getElem?_eq_some_iff.1 hv).1
      rwa [wL17_len] at this
    have hgi : L[i]? = some L[i] := List.getElem?_eq_getElem hil
    rw [wL17_get hgi] at hv
    obtain rfl := Option.some.inj hv
    have hmem := List.getElem_mem hil
    have hin1 := hin _ hmem
    have hbv := hBv _ hmem
    have HTK : Hid ((L.map (fy17 z)).take (i + 1) = (L.map (fy17 z)).take i ++ [fy17 z L[i]]) := by
      show _ = _
      rw [List.take_succ_eq_append_getElem (by simpa using hil)]; simp
    generalize L[i] = o at *
    obtain ⟨at_, ov, ow⟩ := o
    simp only at hin1 hbv
    obtain ⟨wA, hwA⟩ : ∃ wA, wA = V.alloc (.cells #[.int .i64 at_, .int .u8 ov, .bool ow] 91) := ⟨_, rfl⟩
    have HWA : Hid (V.alloc (.cells #[.int .i64 at_, .int .u8 ov, .bool ow] 91) = wA) := hwA.symm
    have cA : Cb16 V #[.int .i64 at_, .int .u8 ov, .bool ow] 91 wA := by rw [hwA]; exact cb16 _ _ _
    obtain ⟨os, hos⟩ : ∃ os, os = V.heap.size := ⟨_, rfl⟩
    have HOS : Hid (V.heap.size = os) := hos.symm
    have hAA : Aj17 w R bO bz (.slice za zl zc) (L.map (fy17 z)) i E ra rc wA := hA.kp (K := fun _ => False) (Kp.of_below cA.bl) (fun k x => x.elim) (fun k x => .inl x)
    have qA : wA.heap[os]? = some (.cells #[.int .i64 at_, .int .u8 ov, .bool ow] 91 (0, 0)) := by rw [hos]; exact cA.cl
    have HVA : Hid (Kr16 (fun k => E k ∨ R k) V wA) := ⟨cA.bl.size, fun k hk _ => cA.bl.block k hk⟩
    have hl'o : l' < os := by have := hlo l' hEl; omega
    have HEL : Hid (E l') := hEl
    have HNE : Hid (∀ k, E k → W0.heap.size ≤ k ∧ k < os) := fun k x => ⟨(hlo k x).1, by have := (hlo k x).2; omega⟩
    have HAA : Hid (Aj17 w R bO bz (.slice za zl zc) (L.map (fy17 z)) i E ra rc wA) := hAA
    have HROW : Hid (∀ g, (Value.slice ra i rc).ownBlock = some g → g < os) := fun g e => by have := (hA.own.lt g e).2; omega
    have HKR : Hid (Kr16 R W0 V) := hkr
    have hos0 : W0.heap.size ≤ os := by have := hkr.size; omega
    have hiL : i + 1 ≤ 140737488355328 := by omega
    clear hwA cA hos hlo hA hlr hkr hEl hgi hv AI0 SQ2 hAA hmem hin hBv
    unfold wv17
    gi_wp2
    rw [HWA.out, HOS.out]
    refine As16.mk HVA.out ⟨_, _, HAA.out⟩ (fun V2 hk2 _ _ => ?_)
    have hb := HBB.out
    have hA2 : Aj17 w R bO bz (.slice za zl zc) (L.map (fy17 z)) i E ra rc V2 := HAA.out.kp (E' := E) hk2 (fun k x => by
      have x : k = l' := x
      subst x
      have h1 := HNE.out _ HEL.out
      exact ⟨by omega, by omega, by omega, fun e => (HAA.out.nO _ e).2.2.1 HEL.out⟩) (fun k x => .inl x)
    have qq := hk2.heap qA (by show ¬ os = l'; omega)
    have a0 := three_cell0 qq
    have a1 := three_cell1 qq
    have a2 := three_cell2 qq
    have hz2 : os < V2.heap.size := (Array.getElem?_eq_some_iff.1 qq).1
    have HLT : Hid (∀ k, (E k ∨ R k ∨ k = bO ∨ k = bz) → k < V2.heap.size) := by
      rintro k (x | x | x | x)
      · have := HNE.out k x; omega
      · have := hRl k x; omega
      · omega
      · omega
    have HBO2 : Hid (¬ E bO ∧ ¬ R bO) := ⟨fun x => by have := HNE.out _ x; omega, hb.2.2.2.2.2.1⟩
    have hcO := one_cell16 hA2.hO
    have hcZ := one_cell16 hA2.hz
    have hbase2 : w.heap.size ≤ V2.heap.size := hA2.bl.size
    have KV2 : Kr16 R V V2 := ⟨Nat.le_trans HVA.out.size hk2.size, fun k hk x => by
      have e1 := HVA.out.block k hk (.inr x)
      refine (hk2.block k (Nat.lt_of_lt_of_le hk HVA.out.size) ?_).trans e1
      show ¬ k = l'
      have := hRl k x
      have := HNE.out _ HEL.out
      omega⟩
    have HZS : Hid (Seg V2 za z) := hzs.kr (HKR.out.trans KV2) hzR
    clear HVA HWA hk2 HAA qA KV2
    cases ow with
    | false =>
      obtain ⟨g, rc', w', hr, hG⟩ := app16 V2 ov hA2.own hiL hbase2
      obtain ⟨p1, p2, p3⟩ := hA2.more ov (by rw [HTK.out]; rfl) hb.2.2.2.2.1 HLT.out HBO2.out hb.2.2.1 hG
      have d1 := one_cell16 p1
      have d2 := one_free16 (i := 0) p1
      have HP : Hid (Aj17 w R bO bz (.slice za zl zc) (L.map (fy17 z)) (i + 1) E (some ⟨g, 0, none⟩) rc' (w'.setCell ⟨bO, 0, none⟩ (.slice (some ⟨g, 0, none⟩) (i + 1) rc'))) := p2
      have HK : Hid (Kr16 (fun k => E k ∨ R k) V2 (w'.setCell ⟨bO, 0, none⟩ (.slice (some ⟨g, 0, none⟩) (i + 1) rc'))) := p3
      clear hA2 p1 p2 p3 hG qq HTK
      gi_wp2_with (refine wpListIn_app16 (by rfl) _ _ _ (by rfl) (by rfl) (by rfl) hr ?_)
      exact ⟨⟨_, _, HP.out⟩, HK.out⟩
    | true =>
      obtain ⟨hat0, hat1⟩ := hin1 rfl
      obtain ⟨an, han⟩ : ∃ an : Nat, (an : Int) = at_ := ⟨at_.toNat, by omega⟩
      have hanl : an < z.length := by rw [hzl.out]; omega
      obtain ⟨zb, zo, hza, c3⟩ := HZS.out.at_ an hanl
      have hzv := HZS.out.bd an
      obtain ⟨y, hy⟩ : ∃ y, y = fy17 z (at_, ov, true) := ⟨_, rfl⟩
      have hby : IntKind.u8.wrap (ov + z.getD an 0) = y := by
        rw [hy]; unfold fy17; simp only [if_true, ← han, Int.toNat_natCast]
      have hyb : True := trivial
      have f1 : V2.frozen? ⟨os, 1, none⟩ = false := three_free qq 1
      -- the way's value is turned
      obtain ⟨V3, hV3⟩ : ∃ V3, V3 = (V2.setCell ⟨os, 1, none⟩ (.int .u8 y)).drew := ⟨_, rfl⟩
      have k3 : Kp (fun k => k = os) V2 V3 := by rw [hV3]; exact (Kp.set (S := fun k => k = os) rfl _).drew
      have hA3 : Aj17 w R bO bz (.slice za zl zc) (L.map (fy17 z)) i E ra rc V3 := hA2.kp (E' := E) k3 (fun k x => by
        have x : k = os := x
        subst x
        exact ⟨by omega, by omega, by omega, fun e => by have := HROW.out _ e; omega⟩) (fun k x => .inl x)
      have q3 : V3.heap[os]? = some (.cells #[.int .i64 at_, .int .u8 y, .bool true] 91 (0, 0)) := by rw [hV3]; exact three_set1 qq _
      have b1' := three_cell1 q3
      have HV3 : Hid ((V2.setCell ⟨os, 1, none⟩ (.int .u8 y)).drew = V3) := hV3.symm
      have zs3 := k3.size
      obtain ⟨g, rc', w', hr, hG⟩ := app16 V3 y hA3.own hiL (Nat.le_trans hbase2 zs3)
      obtain ⟨p1, p2, p3⟩ := hA3.more y (by rw [HTK.out, hy]) hb.2.2.2.2.1 (fun k x => Nat.lt_of_lt_of_le (HLT.out k x) zs3) HBO2.out hb.2.2.1 hG
      have d0 := one_cell16 hA3.hO
      have d1 := one_cell16 p1
      have d2 := one_free16 (i := 0) p1
      have HP : Hid (Aj17 w R bO bz (.slice za zl zc) (L.map (fy17 z)) (i + 1) E (some ⟨g, 0, none⟩) rc' (w'.setCell ⟨bO, 0, none⟩ (.slice (some ⟨g, 0, none⟩) (i + 1) rc'))) := p2
      have HK : Hid (Kr16 (fun k => E k ∨ R k) V2 (w'.setCell ⟨bO, 0, none⟩ (.slice (some ⟨g, 0, none⟩) (i + 1) rc'))) := (Kr16.of_kp k3 (fun k x e => by
        have e : k = os := e
        subst e
        rcases x with x | x
        · have := HNE.out _ x; omega
        · have := hRl _ x; omega)).trans p3
      subst hza
      subst han
      have hanz : (an : Int) < (zl : Int) := by omega
      have han0 : (0 : Int) ≤ (an : Int) := by omega
      clear hA2 hA3 p1 p2 p3 hG qq HTK q3 hV3 k3 hy hat0 hat1 hanl hin1
      generalize z.getD an 0 = zv at *
      gi_wp2
      refine round_region16 (fun V => V.cell? ⟨os, 1, none⟩ = some (.int .u8 ov) ∧ V.cell? ⟨bz, 0, none⟩ = some (.slice (some ⟨zb, zo, none⟩) zl zc) ∧ V.cell? ⟨os, 0, none⟩ = some (.int .i64 (an : Int)) ∧ V.cell? ⟨zb, zo + an, none⟩ = some (.int .u8 zv)) 9 (by kernel_rfl) (by kernel_rfl) ⟨a1, hcZ, a0, c3⟩ (fun hHeld => ?_)
      refine wpAnyK_take (i := 0) (v := .pointer (some ⟨os, 1, none⟩)) rfl (by kernel_rfl) (by kernel_rfl) (by kernel_rfl) (by kernel_rfl) (fun _ _ _ h => nomatch h.1) (Or.inl ⟨by rfl, fun w hSw => by go_simp⟩) hHeld ?_
      simp only [List.getElem_toArray, List.getElem_cons_zero, Act.put, List.setIfInBounds_toArray, List.set_cons_zero, List.set_cons_succ]
      refine wpAnyK_take (i := 1) (v := .int .u8 ov) rfl (by kernel_rfl) (by kernel_rfl) (by kernel_rfl) (by kernel_rfl) (fun _ _ _ h => nomatch h.1) (Or.inl ⟨by rfl, fun w hSw => by go_simp⟩) hHeld ?_
      simp only [List.getElem_toArray, List.getElem_cons_zero, List.getElem_cons_succ, Act.put, List.setIfInBounds_toArray, List.set_cons_zero, List.set_cons_succ]
      refine wpAnyK_take (i := 2) (v := .slice (some ⟨zb, zo, none⟩) zl zc) rfl (by kernel_rfl) (by kernel_rfl) (by kernel_rfl) (by kernel_rfl) (fun _ _ _ h => nomatch h.1) (Or.inl ⟨by rfl, fun w hSw => by go_simp⟩) hHeld ?_
      simp only [List.getElem_toArray, List.getElem_cons_zero, List.getElem_cons_succ, Act.put, List.setIfInBounds_toArray, List.set_cons_zero, List.set_cons_succ]
      refine wpAnyK_take (i := 3) (v := .pointer (some ⟨os, 0, none⟩)) rfl (by kernel_rfl) (by kernel_rfl) (by kernel_rfl) (by kernel_rfl) (fun _ _ _ h => nomatch h.1) (Or.inl ⟨by rfl, fun w hSw => by go_simp⟩) hHeld ?_
      simp only [List.getElem_toArray, List.getElem_cons_zero, List.getElem_cons_succ, Act.put, List.setIfInBounds_toArray, List.set_cons_zero, List.set_cons_succ]
      refine wpAnyK_take (i := 4) (v := .int .i64 (an : Int)) rfl (by kernel_rfl) (by kernel_rfl) (by kernel_rfl) (by kernel_rfl) (fun _ _ _ h => nomatch h.1) (Or.inl ⟨by rfl, fun w hSw => by go_simp⟩) hHeld ?_
      simp only [List.getElem_toArray, List.getElem_cons_zero, List.getElem_cons_succ, Act.put, List.setIfInBounds_toArray, List.set_cons_zero, List.set_cons_succ]
      refine wpAnyK_take (i := 5) (v := .pointer (some ⟨zb, zo + an, none⟩)) rfl (by kernel_rfl) (by kernel_rfl) (by kernel_rfl) (by kernel_rfl) (fun _ _ _ h => nomatch h.1) (Or.inl ⟨by rfl, fun w hSw => by go_simp⟩) hHeld ?_
      simp only [List.getElem_toArray, List.getElem_cons_zero, List.getElem_cons_succ, Act.put, List.setIfInBounds_toArray, List.set_cons_zero, List.set_cons_succ]
      refine wpAnyK_take (i := 6) (v := .int .u8 zv) rfl (by kernel_rfl) (by kernel_rfl) (by kernel_rfl) (by kernel_rfl) (fun _ _ _ h => nomatch h.1) (Or.inl ⟨by rfl, fun w hSw => by go_simp⟩) hHeld ?_
      simp only [List.getElem_toArray, List.getElem_cons_zero, List.getElem_cons_succ, Act.put, List.setIfInBounds_toArray, List.set_cons_zero, List.set_cons_succ]
      refine wpAnyK_take (i := 7) (v := .int .u8 y) rfl (by kernel_rfl) (by kernel_rfl) (by kernel_rfl) (by kernel_rfl) (fun _ _ _ h => nomatch h.1) (Or.inl ⟨by rfl, fun w hSw => by go_simp⟩) hHeld ?_
      simp only [List.getElem_toArray, List.getElem_cons_zero, List.getElem_cons_succ, Act.put, List.setIfInBounds_toArray, List.set_cons_zero, List.set_cons_succ]
      refine wpAnyK_one (i := 8) (by kernel_rfl) rfl (fun K hK => ?_)
      (try simp only [List.getElem_toArray, List.getElem_cons_zero, List.getElem_cons_succ, Act.put, List.setIfInBounds_toArray, List.set_cons_zero, List.set_cons_succ])
      go_simp
      refine hK.out _ _ (fun _ => ⟨a1, hcZ, a0, c3⟩) (fun hHeld0 => ?_)
      have hHeld := hHeld0 (by decide)
      clear hHeld0 hK K
      (try simp only [List.getElem_toArray, List.getElem_cons_zero, List.getElem_cons_succ, Act.put, List.setIfInBounds_toArray, List.set_cons_zero, List.set_cons_succ])
      refine wpAnyK_one (i := 9) (by kernel_rfl) rfl (fun K hK => ?_)
      simp only [List.getElem_toArray, List.getElem_cons_zero, List.getElem_cons_succ, Act.put]
      go_simp
      refine hK.out _ _ (fun h => absurd rfl h) (fun _ => ?_)
      clear hK K
      refine wpAnyK_done (by kernel_rfl) ?_ _
      refine ⟨rfl, ?_⟩
      rw [HV3.out]
      clear a0 a1 a2 c3 hcZ hcO f1
      gi_wp2_with (refine wpListIn_app16 (by rfl) _ _ _ (by rfl) (by rfl) (by rfl) hr ?_)
      exact ⟨⟨_, _, HP.out⟩, HK.out⟩
  · rintro Dd E V hED hlo ⟨ra, rc, hA⟩ hD
    rw [wL17_len] at hA
    have c1 := one_cell16 hA.hO
    have HA : Hid (Aj17 w R bO bz (.slice za zl zc) (L.map (fy17 z)) L.length E ra rc V) := hA
    have hDw : w.heap.size ≤ Dd := by have := (hlo Dd hED).1; have := HBB.out; omega
    have HED : Hid (E Dd) := hED
    clear hA hlo SQ2 AI0 hin h hz hLL
    refine fn16_ofP ?_
    go_wp2_with fail
    refine ⟨by simp, .inl ⟨_, _, rfl, run_takeDeferred hD, ?_⟩⟩
    have hA := HA.out
    refine ⟨_, results_tmp2 rfl _ _ _, ?_⟩
    have hlen : (aw17 z pos S D X).length = L.length := by rw [HAW.out, List.length_map]
    refine ⟨ra, rc, by rw [hlen]; rfl, ?_, hA.bl.trans ((Kp.put16 (S := fun k => w.heap.size ≤ k) hDw _).below (fun _ h => h) hA.bl.size)⟩
    rw [hlen, HAW.out]
    have h1 := hA.own
    rw [List.take_of_length_le (by rw [List.length_map]; exact Nat.le_refl _)] at h1
    exact own_kp h1 (Kp.put16 (S := E) HED.out _) (fun x e => (hA.nO x e).2.2.1)
end Go.Proofs.Ytodioefbfchckaa

namespace Go.Proofs.Ytodioefbfchckaa
open Go.RowKit Go.Shelf
set_option linter.unusedVariables false

/-! The document's Apply. -/
theorem of17_step {S : List St16} {D X : List Int} {p0 : Int} {n m k : Nat} (hsa : sa16 S n = m) (hsc : sc16 S n = k) (hm : D.length = m) (hk : X.length = k) : ∀ j, j ≤ n → of17 (pi17 S D X p0 n) (2 * j) = sa16 S j + sc16 S j := by
  intro j
  induction j with
  | zero => intro _; exact of17_zero _
  | succ j ih =>
    intro hj
    have ih := ih (by omega)
    have m1 := sa16_mono (S := S) (i := j + 1) n hj
    simp only [sa16, sc16] at m1
    have g1 : (pi17 S D X p0 n)[2 * j]? = some (pc17 S D X p0 (2 * j)) := pi17_get (by omega)
    have g2 : (pi17 S D X p0 n)[2 * j + 1]? = some (pc17 S D X p0 (2 * j + 1)) := pi17_get (by omega)
    have e1 := of17_succ g1
    have e2 := of17_succ g2
    rw [pc17_a] at e1
    rw [pc17_c] at e2
    simp only [List.length_take, List.length_drop] at e1 e2
    rw [show 2 * (j + 1) = 2 * j + 1 + 1 by omega, e2, e1, ih]
    simp only [sa16, sc16]
    omega
/-- The j-th byte that the i-th step adds; the bytes that it copies. -/
theorem aw17_add {z : List Int} {pos : Int} {S : List St16} {D X : List Int} {m k : Nat} (hsa : sa16 S S.length = m) (hsc : sc16 S S.length = k) (hm : D.length = m) (hk : X.length = k) {i j : Nat} (hi : i < S.length) (hj : j < ad16 S i) : (aw17 z pos S D X)[sa16 S i + sc16 S i + j]? = some (fy17 z (pos + pl16 S i + (j : Int), D.getD (sa16 S i + j) 0, true)) := by
  have m1 := sa16_mono (S := S) (i := i + 1) S.length hi
  simp only [sa16, sc16] at m1
  have g1 : (pi17 S D X pos S.length)[2 * i]? = some (pc17 S D X pos (2 * i)) := pi17_get (by omega)
  rw [pc17_a] at g1
  have h1 := ws17_get g1 (j := j) (by simp only [List.length_take, List.length_drop]; omega)
  rw [of17_step hsa hsc hm hk i (by omega)] at h1
  unfold aw17
  rw [List.getElem?_map, h1]
  simp only [Option.map_some]
  congr 3
  simp only [List.getD]
  rw [List.getElem?_take, if_pos hj, List.getElem?_drop]
theorem aw17_cpy {z : List Int} {pos : Int} {S : List St16} {D X : List Int} {m k : Nat} (hsa : sa16 S S.length = m) (hsc : sc16 S S.length = k) (hm : D.length = m) (hk : X.length = k) {i : Nat} (hi : i < S.length) : (aw17 z pos S D X).take (sa16 S (i + 1) + sc16 S (i + 1)) = (aw17 z pos S D X).take (sa16 S i + sc16 S i + ad16 S i) ++ (X.drop (sc16 S i)).take (cp16 S i) := by
  have m1 := sa16_mono (S := S) (i := i + 1) S.length hi
  simp only [sa16, sc16] at m1
  have hlen : (aw17 z pos S D X).length = m + k := by unfold aw17; rw [List.length_map]; exact ws17_len hsa hsc hm hk
  have g1 : (pi17 S D X pos S.length)[2 * i]? = some (pc17 S D X pos (2 * i)) := pi17_get (by omega)
  have g2 : (pi17 S D X pos S.length)[2 * i + 1]? = some (pc17 S D X pos (2 * i + 1)) := pi17_get (by omega)
  have e1 := of17_succ g1
  rw [pc17_a, of17_step hsa hsc hm hk i (by omega)] at e1
  simp only [List.length_take, List.length_drop] at e1
  rw [pc17_c] at g2
  apply List.ext_getElem?
  intro q
  simp only [sa16, sc16]
  rcases Nat.lt_or_ge q (sa16 S i + sc16 S i + ad16 S i) with h | h
  · rw [List.getElem?_append_left (by rw [List.length_take]; omega), List.getElem?_take, if_pos (by omega), List.getElem?_take, if_pos h]
  · have hl : ((aw17 z pos S D X).take (sa16 S i + sc16 S i + ad16 S i)).length = sa16 S i + sc16 S i + ad16 S i := by rw [List.length_take]; omega
    rw [List.getElem?_append_right (by rw [hl]; exact h), hl]
    rcases Nat.lt_or_ge q (sa16 S i + ad16 S i + (sc16 S i + cp16 S i)) with h2 | h2
    · rw [List.getElem?_take, if_pos h2]
      have h3 := ws17_get g2 (j := q - (sa16 S i + sc16 S i + ad16 S i)) (by simp only [List.length_take, List.length_drop]; omega)
      rw [e1, show sa16 S i + sc16 S i + min (ad16 S i) (D.length - sa16 S i) + (q - (sa16 S i + sc16 S i + ad16 S i)) = q by omega] at h3
      unfold aw17
      rw [List.getElem?_map, h3]
      simp only [Option.map_some, fy17, Bool.false_eq_true, if_false, List.getD]
      have : q - (sa16 S i + sc16 S i + ad16 S i) < ((X.drop (sc16 S i)).take (cp16 S i)).length := by simp only [List.length_take, List.length_drop]; omega
      rw [List.getElem?_eq_getElem this]
      rfl
    · rw [List.getElem?_take, if_neg (by omega), List.getElem?_eq_none (by simp only [List.length_take, List.length_drop]; omega)]
theorem own_ne17 {w : World} {base n sz b : Nat} {e t : TypeId} {v : Value} {xs : List Value} {c : Array Value} {fr : Nat × Nat} (h : w.ownsRow base e sz v n xs) (hb : w.heap[b]? = some (.cells c t fr)) (hne : e ≠ t) : v.ownBlock ≠ some b := by
  rcases h.2 with ⟨rfl, _⟩ | ⟨g, cap, cur, rfl, _, hg, _⟩
  · simp [Value.ownBlock]
  · intro x
    have x : some g = some b := x
    injection x with x
    subst x
    rw [hg] at hb
    injection hb with hb
    injection hb with h1 h2 h3
    exact hne h2
/-- While bytes are laid down. -/
structure Rp17 (w : World) (b4 : Nat) (pos : Int) (v1 v2 v3 v : Value) (Q : List Int) (c : Nat) (W : World) : Prop where
  hE : W.heap[b4]? = some (.cells #[.int .i64 pos, v1, v2, v3] 44 (0, 0))
  own : W.ownsRow w.heap.size 5 1 v c ((Q.take c).map (Value.int .u8))
  nv : v.ownBlock ≠ some b4
  bl : Below w.heap.size w W
theorem Rp17.kp {w : World} {b4 : Nat} {pos : Int} {v1 v2 v3 v : Value} {Q : List Int} {c : Nat} {W W' : World} (h : Rp17 w b4 pos v1 v2 v3 v Q c W) (hb : Below W.heap.size W W') : Rp17 w b4 pos v1 v2 v3 v Q c W' :=
  ⟨(hb.block b4 (Array.getElem?_eq_some_iff.1 h.hE).1).trans h.hE, own_kp h.own (Kp.of_below (S := fun _ => False) hb) (fun _ _ x => x), h.nv, h.bl.trans (hb.mono h.bl.size)⟩
end Go.Proofs.Ytodioefbfchckaa

namespace Go.Proofs.Ytodioefbfchckaa
open Go.RowKit Go.Shelf
set_option linter.unusedVariables false

/-! The document's SameSteps, Same: of what is the same. -/
set_option maxRecDepth 100000 in
set_option maxHeartbeats 4000000 in
theorem rsst17 (a b : Option Addr) (n ca cb : Nat) (S : List St16) (w : World) (ha : SegS w a S) (hb : SegS w b S) (hn : Hid (S.length = n)) (hl : n ≤ 5864062014805) :
    Calls Try.prog 23 #[.slice a n ca, .slice b n cb] w fun e w' => e = .returned (.bool true) ∧ Below w.heap.size w w' := by
  go_enter Try.func23, Try.ntmps23
  go_wp2_with fail
  go_loopw [13] (fun t13 wr => ∃ i : Nat, i ≤ n ∧ t13 = .int .i64 (i : Int) ∧ Below w.heap.size w wr) (fun t13 _ => n - (intOf t13).toNat)
  case atStart => exact ⟨0, by omega, rfl, Below.refl _ _⟩
  case round =>
    obtain ⟨i, hi, rfl, BR⟩ := hrel
    by_cases hin : i < n
    · have hii : (i : Int) < (n : Int) := by omega
      have hi0 : (0 : Int) ≤ (i : Int) := by omega
      have hil : i < S.length := by rw [hn.out]; exact hin
      obtain ⟨b1, o1, rfl, hT⟩ := (ha.old BR).at_ i hil
      obtain ⟨b2, o2, rfl, hU⟩ := (hb.old BR).at_ i hil
      have c0 := hT.c0
      have c1 := hT.c1
      have c2 := hT.c2
      have d0 := hU.c0
      have d1 := hU.c1
      have d2 := hU.c2
      generalize S.getD i z16 = s at *
      obtain ⟨A, C, K⟩ := s
      simp only at c0 c1 c2 d0 d1 d2
      clear hT hU
      go_wp2_with fail
      go_quiet (fail)
      have bq : Below w.heap.size w (wr.drewN nq) := below_drewN16 BR nq
      generalize wr.drewN nq = w2 at *
      clear c0 c1 c2 d0 d1 d2
      go_wp2_with fail
      go_roundw
      case rel => exact ⟨i + 1, by omega, by simp, bq⟩
      case measure => simp [intOf]; omega
    · have hk2 : i = n := by omega
      subst hk2
      have hneg : ¬ (i : Int) < (i : Int) := by omega
      go_wp2_with fail
      go_ret
      exact ⟨rfl, BR⟩
set_option maxRecDepth 100000 in
set_option maxHeartbeats 4000000 in
theorem rsame17 {sa sb : Option Addr} {n sc sd : Nat} {da db : Option Addr} {m dc dd : Nat} {xa xb : Option Addr} {k xc xd : Nat} {S : List St16} {D X : List Int} (w : World) (ha : SegS w sa S) (hb : SegS w sb S) (hn : Hid (S.length = n)) (hl : n ≤ 5864062014805) (hda : Seg w da D) (hdb : Seg w db D) (hm : Hid (D.length = m)) (hxa : Seg w xa X) (hxb : Seg w xb X) (hk : Hid (X.length = k)) :
    Calls Try.prog 12 #[ev16 sa n sc da m dc xa k xc, ev16 sb n sd db m dd xb k xd] w fun e w' => e = .returned (.bool true) ∧ Below w.heap.size w w' := by
  have hb2 := two_boxes16 w #[.slice sa n sc, .slice da m dc, .slice xa k xc] 25 #[.slice sb n sd, .slice db m dd, .slice xb k xd] 25
  obtain ⟨w2, hw2⟩ : ∃ w2, w2 = (w.alloc (.cells #[.slice sa n sc, .slice da m dc, .slice xa k xc] 25)).alloc (.cells #[.slice sb n sd, .slice db m dd, .slice xb k xd] 25) := ⟨_, rfl⟩
  simp only [← hw2] at hb2
  obtain ⟨bl, z2, qA, qB⟩ := hb2
  have CS := rsst17 sa sb n sc sd S w2 (ha.old bl) (hb.old bl) hn hl
  obtain ⟨bA, hbA⟩ : ∃ bA, bA = w.heap.size := ⟨_, rfl⟩
  obtain ⟨bB, hbB⟩ : ∃ bB, bB = w.heap.size + 1 := ⟨_, rfl⟩
  have HBL : Hid (Below w.heap.size w w2) := bl
  have HF : Hid (∀ W, Below w2.heap.size w2 W → (W.cell? ⟨bA, 1, none⟩ = some (.slice da m dc) ∧ W.cell? ⟨bA, 2, none⟩ = some (.slice xa k xc)) ∧ (W.cell? ⟨bB, 1, none⟩ = some (.slice db m dd) ∧ W.cell? ⟨bB, 2, none⟩ = some (.slice xb k xd)) ∧ ((convert 23 9 (.slice da m dc)).run Try.prog W = .ok (.string (strOfNums D)) W ∧ (convert 23 9 (.slice db m dd)).run Try.prog W = .ok (.string (strOfNums D)) W) ∧ ((convert 23 9 (.slice xa k xc)).run Try.prog W = .ok (.string (strOfNums X)) W ∧ (convert 23 9 (.slice xb k xd)).run Try.prog W = .ok (.string (strOfNums X)) W)) := fun W hW => by
    have qA' := qA
    have qB' := qB
    rw [← hbA] at qA'
    rw [← hbB] at qB'
    have h1 := (hW.block bA (by omega)).trans qA'
    have h2 := (hW.block bB (by omega)).trans qB'
    have b0 : Below w.heap.size w W := bl.trans (hW.mono bl.size)
    refine ⟨⟨three_cell1 h1, three_cell2 h1⟩, ⟨three_cell1 h2, three_cell2 h2⟩, ⟨?_, ?_⟩, ?_, ?_⟩
    · rw [← hm.out]; exact run_conv_segS (P := Try.prog) _ (hda.old b0) 23 5 9 Try.underlying23 Try.underlying5 Try.underlying9
    · rw [← hm.out]; exact run_conv_segS (P := Try.prog) _ (hdb.old b0) 23 5 9 Try.underlying23 Try.underlying5 Try.underlying9
    · rw [← hk.out]; exact run_conv_segS (P := Try.prog) _ (hxa.old b0) 23 5 9 Try.underlying23 Try.underlying5 Try.underlying9
    · rw [← hk.out]; exact run_conv_segS (P := Try.prog) _ (hxb.old b0) 23 5 9 Try.underlying23 Try.underlying5 Try.underlying9
  have a0 := three_cell0 qA
  have a1 := three_cell0 qB
  rw [hw2] at a0 a1 CS
  have HW2 : Hid ((w.alloc (.cells #[.slice sa n sc, .slice da m dc, .slice xa k xc] 25)).alloc (.cells #[.slice sb n sd, .slice db m dd, .slice xb k xd] 25) = w2) := hw2.symm
  have HBA : Hid (w.heap.size = bA) := hbA.symm
  have HBB : Hid (w.heap.size + 1 = bB) := hbB.symm
  generalize strOfNums D = sD at *
  generalize strOfNums X = sX at *
  clear hw2 hbA hbB qA qB z2 ha hb hda hdb hxa hxb bl
  unfold ev16
  go_enter Try.func12, Try.ntmps12
  go_wp2_with (first
    | (go_at_call 23; refine CS.mono ?_; rintro e3 w3 ⟨rfl, b3⟩; clear CS; rw [HW2.out] at b3; obtain ⟨⟨f1, f2⟩, ⟨g1, g2⟩, ⟨y1, y2⟩, y3, y4⟩ := HF.out w3 b3; rw [← HBA.out] at f1 f2; rw [← HBB.out] at g1 g2; have HB3 : Hid (Below w2.heap.size w2 w3) := b3; clear b3))
  go_ret
  exact ⟨rfl, HBL.out.trans (HB3.out.mono HBL.out.size)⟩
end Go.Proofs.Ytodioefbfchckaa
