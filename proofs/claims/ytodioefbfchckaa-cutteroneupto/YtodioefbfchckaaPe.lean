import Derived.Test.YtodioefbfchckaaPd
namespace Go.Proofs.Ytodioefbfchckaa
open Go.RowKit Go.Shelf
set_option linter.unusedVariables false
attribute [local go_sem] Oper.semAt_some

/-! origins: where the bytes come from, one by one. -/
set_option maxRecDepth 100000 in
theorem porig16 (sa : Option Addr) (n sc : Nat) (da : Option Addr) (m dc : Nat) (xa : Option Addr) (k xc : Nat) (w : World) : Calls Try.prog 56 #[ev16 sa n sc da m dc xa k xc] w fun e w' => e = .returned (.func (.func 68) #[] #[.pointer (some ⟨w.heap.size, 0, none⟩)]) ∧ Cb16 w #[.slice sa n sc, .slice da m dc, .slice xa k xc] 28 w' := by
  unfold ev16
  go_enter Try.func56, Try.ntmps56
  go_wp2
  go_ret
  exact ⟨rfl, cb16 _ _ _⟩
def ov16 (o : Og16) : Value := .agg #[.int .i64 o.1, .int .u8 o.2.1, .bool o.2.2]
def ol16 (l : List Og16) : List (Array Value) := l.map fun o => #[ov16 o]
theorem ol16_len (l : List Og16) : (ol16 l).length = l.length := by simp [ol16]
theorem ol16_get {l : List Og16} {i : Nat} {o : Og16} (h : l[i]? = some o) : (ol16 l)[i]? = some #[ov16 o] := by simp [ol16, h]
theorem SegK.kr {k : IntKind} {M : Int} {w w' : World} {D : Nat → Prop} {a : Option Addr} {zs : List Int} (h : SegK k M w a zs) (hb : Kr16 D w w') (hn : ∀ b off, a = some ⟨b, off, none⟩ → 0 < zs.length → D b) : SegK k M w' a zs :=
  h.of_cells fun b off i v hi ha hcl => hb.cell hcl (hn b off ha (by omega))
theorem roundIn_any16 {P : Program} {n n' l l' : Nat} {f : FuncId} {tmps : Array Value} {assign body : Code} {w : World} {R : Ending → World → Prop} (h : RoundIn Fence.wide n P l f tmps assign body w R) : RoundIn (Fence.wide.inRound l') n' P l f tmps assign body w R :=
  ⟨trivial, fun c cs _ => h.2 c cs (room_wide _)⟩
/-- Two boxes more. -/
structure Ob16 (w : World) (bD bX : Nat) (u v : Value) (t : TypeId) (w' : World) : Prop where
  bl : Below w.heap.size w w'
  nD : w.heap.size ≤ bD
  nX : w.heap.size ≤ bX
  ne : bD ≠ bX
  hD : w'.heap[bD]? = some (.cells #[u] t (0, 0))
  hX : w'.heap[bX]? = some (.cells #[v] t (0, 0))
theorem ob16a (w : World) (u v : Value) (t : TypeId) : Ob16 w w.heap.size (w.heap.size + 1) u v t ((w.alloc (.cells #[u] t)).alloc (.cells #[v] t)).drew := by
  refine ⟨(((Below.refl _ _).alloc (Nat.le_refl _) _).alloc (by simp) _).drew, Nat.le_refl _, by omega, by omega, ?_, ?_⟩
  · exact (Below.heap_alloc (w.alloc (.cells #[u] t)) _ w.heap.size (by simp)).trans (heap_alloc_new w _)
  · have := heap_alloc_new (w.alloc (.cells #[u] t)) (.cells #[v] t (0, 0))
    rw [show (w.alloc (.cells #[u] t)).heap.size = w.heap.size + 1 by simp] at this
    exact this
theorem ob16b (w : World) (u v : Value) (t : TypeId) : Ob16 w (w.heap.size + 1) w.heap.size u v t ((w.alloc (.cells #[v] t)).alloc (.cells #[u] t)).drew := by
  have h := ob16a w v u t
  exact ⟨h.bl, h.nX, h.nD, Ne.symm h.ne, h.hX, h.hD⟩
/-- A box holds what is left of a list. -/
def Bl16 (V : World) (R : Nat → Prop) (b : Nat) (L : List Int) (t : TypeId) : Prop := ∃ pa pc, V.heap[b]? = some (.cells #[.slice pa L.length pc] t (0, 0)) ∧ Seg V pa L ∧ L.length ≤ pc ∧ ∀ x off, pa = some ⟨x, off, none⟩ → 0 < L.length → R x
theorem Bl16.kr {V V' : World} {R G : Nat → Prop} {b : Nat} {L : List Int} {t : TypeId} (h : Bl16 V R b L t) (hk : Kr16 G V V') (hb : G b) (hR : ∀ k, R k → G k) : Bl16 V' R b L t := by
  obtain ⟨pa, pc, h1, h2, h3, h4⟩ := h
  exact ⟨pa, pc, hk.heap h1 hb, h2.kr hk (fun x off e hl => hR _ (h4 x off e hl)), h3, h4⟩
/-- What is left behind a reslice. -/
def rs16 (a : Option Addr) (c d : Nat) : Option Addr := if c = d then a else a.map fun x => x.add d
theorem seg_rs16 {V : World} {a : Option Addr} {L : List Int} {c d : Nat} (h : Seg V a L) (hd : d ≤ L.length) (hc : L.length ≤ c) : Seg V (rs16 a c d) (L.drop d) ∧ ∀ x off, rs16 a c d = some ⟨x, off, none⟩ → 0 < (L.drop d).length → ∃ o, a = some ⟨x, o, none⟩ := by
  unfold rs16
  by_cases h0 : L.drop d = []
  · rw [h0]
    exact ⟨SegK.nil (by decide) _ _, fun _ _ _ hl => by simp at hl⟩
  · have hl : d < L.length := by
      rcases Nat.lt_or_ge d L.length with x | x
      · exact x
      · exact absurd (List.drop_eq_nil_of_le x) h0
    rw [if_neg (by omega)]
    obtain ⟨b, off, rfl, _⟩ := h.at_ 0 (by omega)
    have hadd : (⟨b, off, none⟩ : Addr).add d = ⟨b, off + d, none⟩ := by simp [Addr.add]
    simp only [Option.map_some, hadd]
    refine ⟨h.drop d, fun x o e _ => ?_⟩
    have e2 : some (⟨b, off + d, none⟩ : Addr) = some ⟨x, o, none⟩ := e
    injection e2 with e2
    injection e2 with e3 e4
    subst e3
    exact ⟨off, rfl⟩
/-- The state of origins' own loop. -/
structure Oi16 (W : World) (R : Nat → Prop) (J : Nat → (Nat → Prop) → World → Prop) (l : Nat) (S : List St16) (D X : List Int) (bY bD bX Bw N : Nat) (i : Nat) (E F : Nat → Prop) (V : World) : Prop where
  ef : ∀ k, E k → F k
  fY : F bY
  fD : F bD
  fX : F bX
  fw : F Bw
  lo : Lo16 W.heap.size F V
  j : J (sa16 S i + sc16 S i) F V
  hY : V.heap[bY]? = some (.cells #[.func (.yield l) #[] #[]] 140 (0, 0))
  hD : Bl16 V R bD (D.drop (sa16 S i)) 23
  hX : Bl16 V R bX (X.drop (sc16 S i)) 23
  kr : Kr16 R W V
  sz : N ≤ V.heap.size
theorem Oi16.step {W : World} {R : Nat → Prop} {J : Nat → (Nat → Prop) → World → Prop} {l : Nat} {S : List St16} {D X : List Int} {bY bD bX Bw N i : Nat} {E E' F : Nat → Prop} {V V' : World} (hJ : Abd16 W.heap.size J) (hN : W.heap.size ≤ N) (hRl : ∀ k, R k → k < W.heap.size)
    (hl : bY < N ∧ bD < N ∧ bX < N) (h : Oi16 W R J l S D X bY bD bX Bw N i E F V) (hlo : Lo16 N E V) (hk : Kp E V V') (h1 : ∀ k, E k → E' k) (h2 : ∀ k, E' k → E k ∨ V.heap.size ≤ k) (h3 : Lo16 N E' V') (G : Nat → Prop) (hG : ∀ k, G k → V.heap.size ≤ k ∧ k < V'.heap.size) : Oi16 W R J l S D X bY bD bX Bw N i E' (fun k => (F k ∨ E' k) ∨ G k) V' := by
  have hs := hk.size
  have hkr : Kr16 (fun k => R k ∨ k = bY ∨ k = bD ∨ k = bX) V V' := Kr16.of_kp hk (by
    rintro k (x | x | x | x) e
    · have := hRl k x; have := hlo k e; omega
    · have := hlo k e; omega
    · have := hlo k e; omega
    · have := hlo k e; omega)
  have hsz := h.sz
  have lo2 : Lo16 W.heap.size (fun k => (F k ∨ E' k) ∨ G k) V' := by
    rintro k ((x | x) | x)
    · have := h.lo k x; omega
    · have := h3 k x; omega
    · have := hG k x; omega
  refine ⟨fun k x => .inl (.inr x), .inl (.inl h.fY), .inl (.inl h.fD), .inl (.inl h.fX), .inl (.inl h.fw), lo2, ?_, hkr.heap h.hY (.inr (.inl rfl)), h.hD.kr hkr (.inr (.inr (.inl rfl))) (fun k x => .inl x), h.hX.kr hkr (.inr (.inr (.inr rfl))) (fun k x => .inl x), h.kr.trans (hkr.mono fun k x => .inl x), by have := h.sz; omega⟩
  refine hJ _ F _ V V' h.j h.lo (hk.mono fun k _ x => h.ef k x) (fun k x => .inl (.inl x)) ?_ lo2
  rintro k ((x | x) | x)
  · exact .inl x
  · rcases h2 k x with y | y
    · exact .inl (h.ef k y)
    · exact .inr y
  · exact .inr (hG k x).1
set_option maxRecDepth 100000 in
set_option maxHeartbeats 4000000 in
theorem os16 (q : Nat) (hq : 2 ≤ q) (B : Nat) (R : Nat → Prop) {sa : Option Addr} {n sc : Nat} {da : Option Addr} {m dc : Nat} {xa : Option Addr} {k xc : Nat} {S : List St16} {D X : List Int} (w : World) (hB : w.heap[B]? = some (.cells #[.slice sa n sc, .slice da m dc, .slice xa k xc] 28 (0, 0))) (h : Ed16 w sa n S da m D xa k X) (hok : Hid (Ok16 S n)) (hsa : Hid (sa16 S n = m)) (hsc : Hid (sc16 S n = k)) (hdc : m ≤ dc) (hxc : k ≤ xc)
    (hRB : R B) (hRs : ∀ b off, sa = some ⟨b, off, none⟩ → 0 < S.length → R b) (hRd : ∀ b off, da = some ⟨b, off, none⟩ → 0 < D.length → R b) (hRx : ∀ b off, xa = some ⟨b, off, none⟩ → 0 < X.length → R b) (hRl : ∀ k, R k → k < w.heap.size) :
    Seq16 q Try.prog 68 #[.pointer (some ⟨B, 0, none⟩)] (ol16 (og16 S D X n)) R w := by
  intro l J PX W hW hJ hP hY h0
  have hBW := hW.heap hB hRB
  have hsW := h.ss.kr hW hRs
  have hdW := h.sd.kr hW hRd
  have hxW := h.sx.kr hW hRx
  have hn : Hid (S.length = n) := h.hn
  have hm : Hid (D.length = m) := h.hm
  have hk : Hid (X.length = k) := h.hk
  have hln := h.ln
  have hlm := h.lm
  have hlk := h.lk
  clear hB h
  refine callsIn_of_fn16 Try.func68 rfl ?_
  simp only [Try.ntmps68, List.size_toArray, List.length_cons, List.length_nil, Nat.reduceAdd, Nat.reduceSub, Array.replicate_succ, Array.replicate_zero, List.push_toArray, List.append_toArray, List.nil_append, List.cons_append]
  refine fn16_seq (fn16_ofP ?_)
  go_wp2
  obtain ⟨W1, hW1⟩ : ∃ W1, W1 = W.alloc (.cells #[.func (.yield l) #[] #[]] 140) := ⟨_, rfl⟩
  have cb1 : Cb16 W #[.func (.yield l) #[] #[]] 140 W1 := by rw [hW1]; exact cb16 _ _ _
  rw [← hW1]
  obtain ⟨bY, hbY⟩ : ∃ bY, bY = W.heap.size := ⟨_, rfl⟩
  have HBY : Hid (bY = W.heap.size) := hbY
  rw [← hbY]
  have hB1 : W1.heap[B]? = some (.cells #[.slice sa n sc, .slice da m dc, .slice xa k xc] 28 (0, 0)) := (cb1.bl.block B (Array.getElem?_eq_some_iff.1 hBW).1).trans hBW
  have d1 : W1.drew.cell? ⟨B, 1, none⟩ = some (.slice da m dc) := three_cell1 (w := W1.drew) hB1
  have d2 : W1.drew.cell? ⟨B, 2, none⟩ = some (.slice xa k xc) := three_cell2 (w := W1.drew) hB1
  have CB1 : Hid (Cb16 W #[.func (.yield l) #[] #[]] 140 W1) := cb1
  clear cb1 hW1 hbY
  refine fn16_seq (fn16_ofP (Code.wp_mono (Q := fun e a' W2 => e = .normal ∧ ∃ bD bX : Nat, Ob16 W1 bD bX (.slice da m dc) (.slice xa k xc) 23 W2 ∧ a' = { tmps := #[.func (.yield l) #[] #[], .pointer (some ⟨B, 0, none⟩), .pointer (some ⟨bY, 0, none⟩), .pointer (some ⟨bD, 0, none⟩), .pointer (some ⟨bX, 0, none⟩), undef, undef, undef, undef, undef, undef, .pointer (some ⟨B, 1, none⟩), .slice da m dc, .pointer (some ⟨B, 2, none⟩), .slice xa k xc, undef, undef, undef, undef, undef, undef, undef, undef, undef, undef, undef, undef, undef, undef, undef, undef, undef, undef, undef, undef, undef, undef, undef, undef, undef, undef, undef, undef, undef, undef, undef, undef, undef, undef, undef, undef, undef, undef, undef, undef, undef, undef, undef, undef, undef, undef, undef], defers := [] }) ?_ ?_))
  rotate_left
  · have hBlt : B < W1.heap.size := (Array.getElem?_eq_some_iff.1 hB1).1
    have gB : ∀ V, Below W1.heap.size W1 V → V.cell? ⟨B, 1, none⟩ = some (.slice da m dc) ∧ V.cell? ⟨B, 2, none⟩ = some (.slice xa k xc) := fun V hV => by
      have := (hV.block B hBlt).trans hB1
      exact ⟨three_cell1 this, three_cell2 this⟩
    have b1 : ∀ o, Below W1.heap.size W1 (W1.alloc o).drew := fun o => ((Below.refl _ _).alloc (Nat.le_refl _) o).drew
    have b2 : ∀ o o', Below W1.heap.size W1 ((W1.alloc o).alloc o').drew := fun o o' => (((Below.refl _ _).alloc (Nat.le_refl _) o).alloc (by simp) o').drew
    go_region_held3 (fun V => V.cell? ⟨B, 1, none⟩ = some (.slice da m dc) ∧ V.cell? ⟨B, 2, none⟩ = some (.slice xa k xc)) (first | exact ⟨d1, d2⟩ | exact gB _ (b1 _) | exact gB _ (b2 _ _) | go_keep) (fail)
    · exact ⟨rfl, _, _, ob16a _ _ _ _, rfl⟩
    · exact ⟨rfl, _, _, ob16b _ _ _ _, rfl⟩
  rintro e a' W2 ⟨rfl, bD, bX, hob, rfl⟩
  show fn16 _ _ _ _ _ _
  have hcb1 := CB1.out
  have hbY := HBY.out
  have hB2 : W2.heap[B]? = some (.cells #[.slice sa n sc, .slice da m dc, .slice xa k xc] 28 (0, 0)) := (hob.bl.block B (Array.getElem?_eq_some_iff.1 hB1).1).trans hB1
  have c0 := three_cell0 hB2
  have CW := pwalk16 sa n sc W2
  have HOB : Hid (Ob16 W1 bD bX (.slice da m dc) (.slice xa k xc) 23 W2) := hob
  have HC1 : Hid (Cb16 W #[.func (.yield l) #[] #[]] 140 W1) := hcb1
  clear d1 d2 hob hcb1 hbY CB1
  refine fn16_seq (fn16_ofP ?_)
  go_wp2_with (first
    | (go_at_call 69; refine CW.mono ?_; rintro e1 W3 ⟨rfl, cb⟩; have HC3 : Hid (Cb16 W2 #[.slice sa n sc] 26 W3) := cb; clear CW cb))
  obtain ⟨Bw, hBw⟩ : ∃ Bw, Bw = W2.heap.size := ⟨_, rfl⟩
  rw [← hBw]
  have hob := HOB.out
  have hc1 := HC1.out
  have hc3 := HC3.out
  have hbY := HBY.out
  have zb := hob.bl.size
  have z1 := hc1.sz
  have z3 := hc3.sz
  have hDlt : bD < W2.heap.size := (Array.getElem?_eq_some_iff.1 hob.hD).1
  have hXlt : bX < W2.heap.size := (Array.getElem?_eq_some_iff.1 hob.hX).1
  have nD := hob.nD
  have nX := hob.nX
  have hRW : ∀ k, R k → k < W.heap.size := fun k x => Nat.lt_of_lt_of_le (hRl k x) hW.size
  have bW3 : Below W.heap.size W W3 := hc1.bl.trans ((hob.bl.trans (hc3.bl.mono hob.bl.size)).mono hc1.bl.size)
  have hs3 : SegS W3 sa S := hsW.old bW3
  have q3 : W3.heap[Bw]? = some (.cells #[.slice sa n sc] 26 (0, 0)) := by rw [hBw]; exact hc3.cl
  obtain ⟨Rw, hRwB, hRwa, HRw⟩ : ∃ Rw : Nat → Prop, Rw Bw ∧ (∀ b off, sa = some ⟨b, off, none⟩ → 0 < S.length → Rw b) ∧ Hid (∀ k, Rw k → k = Bw ∨ R k) :=
    ⟨fun k => k = Bw ∨ R k, .inl rfl, fun b off x y => .inr (hRs b off x y), fun k x => x⟩
  have SQ := wk16 5 (by omega) Bw sa n sc S Rw W3 (one_cell16 q3) hs3 hn hln hok hRwB hRwa
  have OI0 : Oi16 W R J l S D X bY bD bX Bw W3.heap.size 0 (fun _ => False) (fun k => k = bY ∨ k = bD ∨ k = bX ∨ k = Bw) W3 := by
    have hlo : Lo16 W.heap.size (fun k => k = bY ∨ k = bD ∨ k = bX ∨ k = Bw) W3 := by
      rintro k (x | x | x | x) <;> omega
    refine ⟨fun k x => x.elim, .inl rfl, .inr (.inl rfl), .inr (.inr (.inl rfl)), .inr (.inr (.inr rfl)), hlo, ?_, ?_, ?_, ?_, ⟨bW3.size, fun k hk _ => bW3.block k hk⟩, Nat.le_refl _⟩
    · exact hJ 0 (fun _ => False) _ W W3 h0 (fun k x => x.elim) (.of_below bW3) (fun k x => x.elim) (fun k x => .inr (hlo k x).1) hlo
    · rw [hbY]; exact (hc3.bl.block _ (by omega)).trans ((hob.bl.block _ (by omega)).trans hc1.cl)
    · exact ⟨da, dc, by rw [show (D.drop (sa16 S 0)).length = m from by simp [sa16, hm.out]]; exact (hc3.bl.block _ hDlt).trans hob.hD, (by simpa [sa16] using hdW.old bW3), by simp [sa16, hm.out]; exact hdc, by intro x off e hl; exact hRd x off e (by simp [sa16] at hl; omega)⟩
    · exact ⟨xa, xc, by rw [show (X.drop (sc16 S 0)).length = k from by simp [sc16, hk.out]]; exact (hc3.bl.block _ hXlt).trans hob.hX, (by simpa [sc16] using hxW.old bW3), by simp [sc16, hk.out]; exact hxc, by intro x off e hl; exact hRx x off e (by simp [sc16] at hl; omega)⟩
  have hN : W.heap.size ≤ W3.heap.size := bW3.size
  have hBwl : Bw < W3.heap.size := by omega
  have hll : bY < W3.heap.size ∧ bD < W3.heap.size ∧ bX < W3.heap.size := ⟨by omega, by omega, by omega⟩
  have HNE : Hid (bD ≠ bX ∧ bD ≠ bY ∧ bX ≠ bY ∧ bD ≠ Bw ∧ bX ≠ Bw ∧ W.heap.size ≤ bD ∧ W.heap.size ≤ bX) := ⟨hob.ne, by omega, by omega, by omega, by omega, by omega, by omega⟩
  clear hob hc1 hc3 zb z1 z3 nD nX q3 hs3 HOB HC1 HC3 hB1 hB2 c0 hBW hbY hBw
  refine fn16_block ?_
  refine range16 (n := 5) (w := W3) Try.func68 (gf := 75) (lb := #[.pointer (some ⟨Bw, 0, none⟩)]) ?_ ?_ ?_ SQ ?_
    (fun i E V => ∃ F, Oi16 W R J l S D X bY bD bX Bw W3.heap.size i E F V) ?_ (fun ch E V => ∃ F, (∀ k, E k → F k) ∧ Lo16 W.heap.size F V ∧ PX ch F V) ?_ ?_ ?_ ?_ ?_
  · rfl
  · intro _ _; rfl
  · intro k hk
    rcases HRw.out k hk with rfl | x
    · omega
    · have := hRW k x; omega
  · intro v hv
    simp only [wl16, List.mem_map] at hv
    obtain ⟨i, _, rfl⟩ := hv
    rfl
  · rintro i E E' A A' ⟨F, hF⟩ hlo hk h1 h2 h3
    exact ⟨_, hF.step hJ hN hRW hll hlo hk h1 h2 h3 (fun _ => False) (fun k x => x.elim)⟩
  · rintro ch E E' A A' ⟨F, f1, f2, f3⟩ hlo hk h1 h2 h3
    have lo2 : Lo16 W.heap.size (fun k => F k ∨ E' k) A' := by
      have hs := hk.size
      rintro k (x | x)
      · have := f2 k x; omega
      · have := h3 k x; omega
    refine ⟨fun k => F k ∨ E' k, fun k x => .inr x, lo2, hP ch F _ A A' f3 f2 (hk.mono fun k _ x => f1 k x) (fun k x => .inl x) ?_ lo2⟩
    rintro k (x | x)
    · exact .inl x
    · rcases h2 k x with y | y
      · exact .inl (f1 k y)
      · exact .inr y
  · exact ⟨_, OI0⟩
  · rintro l' i v E V hv ⟨F, hF⟩ hlo hEl hlr hkr
    have hi : i < n := by
      have := (List.getElem?_eq_some_iff.1 hv).1
      rwa [wl16_len] at this
    rw [wl16_get hi] at hv
    obtain rfl := Option.some.inj hv
    have hbd := ad16_le hok.out hi
    have hpl := sa16_le i (hok.out.mono (Nat.le_of_lt hi))
    have hmo := sa16_mono (S := S) (i := i + 1) n (by omega)
    have hmo2 : sa16 S (i + 1) = sa16 S i + ad16 S i ∧ sc16 S (i + 1) = sc16 S i + cp16 S i := ⟨rfl, rfl⟩
    rw [hsa.out, hsc.out] at hmo
    have hsk : (S.getD i z16).2.2 = sk16 S i := rfl
    have hsv : sv16 (S.getD i z16) = .agg #[.int .i64 (ad16 S i : Int), .int .i64 (cp16 S i : Int), .int .i64 (sk16 S i)] := by unfold sv16; rw [← hbd.2.2.1, ← hbd.2.2.2.1, hsk]
    rw [hsv]
    have HOA : Hid (∀ j, j < ad16 S i → (ol16 (og16 S D X n))[sa16 S i + sc16 S i + j]? = some #[.agg #[.int .i64 (pl16 S i + (j : Int)), .int .u8 ((D.drop (sa16 S i)).getD j 0), .bool false]]) := fun j hj => by
      have := ol16_get (og16_add S D X hi hj)
      rw [this]; unfold ov16; simp [List.getD]
    have HOC : Hid (∀ j, j < cp16 S i → (ol16 (og16 S D X n))[sa16 S i + sc16 S i + ad16 S i + j]? = some #[.agg #[.int .i64 0, .int .u8 ((X.drop (sc16 S i)).getD j 0), .bool true]]) := fun j hj => by
      have := ol16_get (og16_cpy S D X hi hj)
      rw [this]; unfold ov16; simp [List.getD]
    obtain ⟨wA, hwA⟩ : ∃ wA, wA = V.alloc (.cells #[.int .i64 (ad16 S i : Int), .int .i64 (cp16 S i : Int), .int .i64 (sk16 S i)] 98) := ⟨_, rfl⟩
    have HWA : Hid (V.alloc (.cells #[.int .i64 (ad16 S i : Int), .int .i64 (cp16 S i : Int), .int .i64 (sk16 S i)] 98) = wA) := hwA.symm
    obtain ⟨os, hos⟩ : ∃ os, os = V.heap.size := ⟨_, rfl⟩
    have HOS : Hid (os = V.heap.size) := hos
    have HOSN : Hid (W3.heap.size ≤ os) := by show _ ≤ _; rw [hos]; exact hF.sz
    have tA : SpAt wA os 0 ((ad16 S i : Int), (cp16 S i : Int), sk16 S i) := by rw [hos]; exact boxS hwA
    have bA : Below V.heap.size V wA := by rw [hwA]; exact below_box16 _ _
    have zA : wA.heap.size = V.heap.size + 1 := by rw [hwA]; simp
    have hloA : Lo16 W3.heap.size E wA := fun k x => by have := hlo k x; omega
    have OA := hF.step hJ hN hRW hll hlo (Kp.of_below bA) (fun k x => x) (fun k x => .inl x) hloA (fun k => k = os) (fun k x => by omega)
    obtain ⟨FA, hFA, hFAo⟩ : ∃ FA, Oi16 W R J l S D X bY bD bX Bw W3.heap.size i E FA wA ∧ FA os := ⟨_, OA, .inr rfl⟩
    obtain ⟨p, hp⟩ : ∃ p, p = pl16 S i := ⟨_, rfl⟩
    obtain ⟨ad, had⟩ : ∃ ad, ad = ad16 S i := ⟨_, rfl⟩
    obtain ⟨cp, hcp⟩ : ∃ cp, cp = cp16 S i := ⟨_, rfl⟩
    obtain ⟨sk, hsk2⟩ : ∃ sk, sk = sk16 S i := ⟨_, rfl⟩
    rw [← hp, ← had, ← hcp, ← hsk2]
    rw [← had, ← hcp, ← hsk2] at HWA tA
    rw [← hp, ← had] at HOA
    rw [← had, ← hcp] at HOC
    rw [← had, ← hcp] at hmo2
    have HH : Hid (ad = ad16 S i ∧ cp = cp16 S i) := ⟨had, hcp⟩
    have hb1 : ad ≤ 16777216 ∧ cp ≤ 16777216 := by rw [had, hcp]; exact ⟨hbd.1, hbd.2.1⟩
    have hp1 : -((i : Int) * 33554432) ≤ p ∧ p ≤ (i : Int) * 33554432 := by rw [hp]; exact ⟨hpl.2.2.1, hpl.2.2.2⟩
    have HMO : Hid (sa16 S i + ad ≤ m ∧ sc16 S i + cp ≤ k) := ⟨by omega, by omega⟩
    have HEL : Hid (E l') := hEl
    have hl'o : l' < os := by have := hlo l' hEl; omega
    have HLOA : Hid (Lo16 W3.heap.size E wA) := hloA
    have HVA : Hid (Kr16 (fun k => E k ∨ Rw k) V wA) := ⟨bA.size, fun k hk _ => bA.block k hk⟩
    clear hwA hsv hsk hbd hpl hmo hmo2 OA hF hos hp had hcp hsk2 bA zA hlr hkr hloA hlo hEl SQ OI0
    gi_wp2
    rw [HWA.out, ← HOS.out]
    refine As16.mk HVA.out ⟨FA, hFA⟩ (fun V2 hk2 _ _ => ?_)
    have hs2 := hk2.size
    have O2' := hFA.step hJ hN hRW hll HLOA.out (hk2.mono (S' := E) (fun k _ x => by rw [show k = l' from x]; exact HEL.out)) (fun k x => x) (fun k x => .inl x) (fun k x => by have := HLOA.out k x; omega) (fun _ => False) (fun k x => x.elim)
    obtain ⟨F2, O2, F2o⟩ : ∃ F2, Oi16 W R J l S D X bY bD bX Bw W3.heap.size i E F2 V2 ∧ F2 os := ⟨_, O2', .inl (.inl hFAo)⟩
    have t2 : SpAt V2 os 0 ((ad : Int), (cp : Int), sk) := tA.of_block (hk2.block _ tA.lt (by show os ≠ l'; omega))
    clear O2' hFA hFAo tA hk2 hs2 HWA HVA
    obtain ⟨pa, pc, hDb, hDs, hDc, hDr⟩ := O2.hD
    obtain ⟨ya, yc, hXb, hXs, hXc, hXr⟩ := O2.hX
    have a0 := t2.c0
    have a1 := t2.c1
    simp only at a0 a1
    have y0 := one_cell16 hDb
    have y1 := one_cell16 hXb
    have hYc := one_cell16 O2.hY
    have HLD : Hid ((D.drop (sa16 S i)).length = m - sa16 S i) := by show _ = _; rw [List.length_drop, hm.out]
    have HLX : Hid ((X.drop (sc16 S i)).length = k - sc16 S i) := by show _ = _; rw [List.length_drop, hk.out]
    generalize hDL0 : D.drop (sa16 S i) = DL at *
    generalize hXL0 : X.drop (sc16 S i) = XL at *
    have HDL0 : Hid (D.drop (sa16 S i) = DL) := hDL0
    have HXL0 : Hid (X.drop (sc16 S i) = XL) := hXL0
    clear hDL0 hXL0
    obtain ⟨dl, hdl⟩ : ∃ dl, dl = DL.length := ⟨_, rfl⟩
    obtain ⟨xl, hxl⟩ : ∃ xl, xl = XL.length := ⟨_, rfl⟩
    rw [← hdl] at y0 hDc
    rw [← hxl] at y1 hXc
    have h1 : ad ≤ dl := by have := HMO.out; have := HLD.out; omega
    have h2 : cp ≤ xl := by have := HMO.out; have := HLX.out; omega
    have h3 : ad ≤ pc := by omega
    have h3i : (ad : Int) ≤ (pc : Int) := by omega
    have HO2 : Hid (Oi16 W R J l S D X bY bD bX Bw W3.heap.size i E F2 V2) := O2
    have HDL : Hid (dl = DL.length) := hdl
    have HXL : Hid (xl = XL.length) := hxl
    clear O2 hdl hxl
    obtain ⟨b0, hb0⟩ : ∃ b0, b0 = sa16 S i + sc16 S i := ⟨_, rfl⟩
    rw [← hb0] at HOA HOC
    have hj0 : J (b0 + 0) F2 V2 := by rw [hb0]; exact HO2.out.j
    have HB0 : Hid (b0 = sa16 S i + sc16 S i) := hb0
    clear hb0
    have hF2Y : F2 bY := HO2.out.fY
    have hlo2 := HO2.out.lo
    have hkr2 := HO2.out.kr
    gi_wp2
    gi_loopw [25] (fun t25 wr => ∃ j : Nat, j ≤ ad ∧ t25 = .int .i64 (j : Int) ∧ J (b0 + j) F2 wr ∧ Kr16 (fun k => F2 k ∨ R k) V2 wr) (fun t25 _ => ad - (intOf t25).toNat)
    case atStart => exact ⟨0, Nat.zero_le _, rfl, hj0, Kr16.refl _ _⟩
    case round =>
      obtain ⟨j, hj, rfl, hJj, hkj⟩ := hrel
      have hYw := hkj.cell hYc (.inl hF2Y)
      have hloj : Lo16 W.heap.size F2 wr := fun k x => ⟨(hlo2 k x).1, Nat.lt_of_lt_of_le (hlo2 k x).2 hkj.size⟩
      have hkRj : Kr16 R W wr := hkr2.trans (hkj.mono fun k x => .inr x)
      by_cases hlt : j < ad
      · have hji : (j : Int) < (ad : Int) := by omega
        have hj0i : (0 : Int) ≤ (j : Int) := by omega
        obtain ⟨b, off, rfl, c1⟩ := (hDs.kr hkj (fun x o e hl => .inr (hDr x o e hl))).at_ j (by rw [← HDL.out]; omega)
        have hv := hDs.bd j
        obtain ⟨fn, tmps, assign, body, hy, hR⟩ := hY (b0 + j) _ F2 wr (HOA.out j hlt) hJj hloj hkRj
        have hw1 : IntKind.i64.wrap (p + (j : Int)) = p + (j : Int) := IntWalk.i64_in _ (by omega)
        have HKJ : Hid (Kr16 (fun k => F2 k ∨ R k) V2 wr) := hkj
        clear hJj hkj hkRj hloj hDs hXs hDr
        generalize DL.getD j 0 = dv at *
        gi_wp2
        refine (roundIn_any16 hR).mono ?_
        rintro e W4 hyd
        cases e with
        | returned v =>
          obtain ⟨rfl, hJ3, hk3⟩ := hyd
          have HJ3 : Hid (J (b0 + (j + 1)) F2 W4) := hJ3
          have HK3 : Hid (Kr16 (fun k => F2 k ∨ R k) V2 W4) := HKJ.out.trans hk3
          clear hJ3 hk3 hR hy HKJ
          gi_wp2
          go_roundw
          case rel => exact ⟨j + 1, by omega, by simp, HJ3.out, HK3.out⟩
          case measure => simp [intOf]; omega
        | panicked ch =>
          obtain ⟨hx, hk3⟩ := hyd
          have HO := HO2.out
          have HX : Hid (bp16 (fun i E V => ∃ F, Oi16 W R J l S D X bY bD bX Bw W3.heap.size i E F V) (fun ch E V => ∃ F, (∀ k, E k → F k) ∧ Lo16 W.heap.size F V ∧ PX ch F V) i E (fun k => E k ∨ Rw k) V2 (.panic ch) { tmps := #[], defers := [] } W4) := by
            refine ⟨rfl, ⟨F2, HO.ef, fun k x => ⟨(hlo2 k x).1, Nat.lt_of_lt_of_le (hlo2 k x).2 (HKJ.out.trans hk3).size⟩, hx⟩, (HKJ.out.trans hk3).mono ?_⟩
            rintro k (x | x)
            · exact .inl (HO.ef k x)
            · rcases HRw.out k x with rfl | y
              · exact .inl HO.fw
              · exact .inr y
          clear hx hk3 hR hy HKJ HO
          gi_wp2
          exact HX.out
        | outgrown => exact hyd.elim
      · have hj2 : j = ad := by omega
        subst hj2
        have hneg : ¬ (j : Int) < (j : Int) := by omega
        obtain ⟨V3, rfl⟩ : ∃ V3, V3 = wr := ⟨_, rfl⟩
        have HO := HO2.out
        have e0 := hkj.cell a0 (.inl F2o)
        have e1 := hkj.cell a1 (.inl F2o)
        have e2 := hkj.cell y0 (.inl HO.fD)
        have e3 := hkj.cell y1 (.inl HO.fX)
        have hXs3 := hXs.kr hkj (fun x o e hl => .inr (hXr x o e hl))
        have h4 : cp ≤ yc := by omega
        have h4i : (cp : Int) ≤ (yc : Int) := by omega
        have HK3 : Hid (Kr16 (fun k => F2 k ∨ R k) V2 V3) := hkj
        have HLO3 : Hid (Lo16 W.heap.size F2 V3) := hloj
        have HKR3 : Hid (Kr16 R W V3) := hkRj
        have hj30 : J (b0 + j + 0) F2 V3 := hJj
        clear hJj hkj hloj hkRj a0 a1 y0 y1 hj0 hj hlt HO
        gi_wp2
        gi_loopw [44] (fun t44 wr => ∃ r : Nat, r ≤ cp ∧ t44 = .int .i64 (r : Int) ∧ J (b0 + j + r) F2 wr ∧ Kr16 (fun k => F2 k ∨ R k) V3 wr) (fun t44 _ => cp - (intOf t44).toNat)
        case atStart => exact ⟨0, Nat.zero_le _, rfl, hj30, Kr16.refl _ _⟩
        case round =>
          obtain ⟨r, hr, rfl, hJr, hkq⟩ := hrel
          have hYq := hkq.cell hYw (.inl hF2Y)
          have hloq : Lo16 W.heap.size F2 wr := fun k x => ⟨(HLO3.out k x).1, Nat.lt_of_lt_of_le (HLO3.out k x).2 hkq.size⟩
          have hkRq : Kr16 R W wr := HKR3.out.trans (hkq.mono fun k x => .inr x)
          by_cases hlt : r < cp
          · have hri : (r : Int) < (cp : Int) := by omega
            have hr0i : (0 : Int) ≤ (r : Int) := by omega
            obtain ⟨b, off, rfl, c1⟩ := (hXs3.kr hkq (fun x o e hl => .inr (hXr x o e hl))).at_ r (by rw [← HXL.out]; omega)
            have hv := hXs3.bd r
            obtain ⟨fn, tmps, assign, body, hy, hR⟩ := hY (b0 + j + r) _ F2 wr (HOC.out r hlt) hJr hloq hkRq
            have HKJ : Hid (Kr16 (fun k => F2 k ∨ R k) V2 wr) := HK3.out.trans hkq
            have HKQ : Hid (Kr16 (fun k => F2 k ∨ R k) V3 wr) := hkq
            clear hJr hkq hkRq hloq hDs hXs hDr hXs3
            generalize XL.getD r 0 = dv at *
            gi_wp2
            refine (roundIn_any16 hR).mono ?_
            rintro e W4 hyd
            cases e with
            | returned v =>
              obtain ⟨rfl, hJ3, hk3⟩ := hyd
              have HJ3 : Hid (J (b0 + j + (r + 1)) F2 W4) := hJ3
              have HK4 : Hid (Kr16 (fun k => F2 k ∨ R k) V3 W4) := HKQ.out.trans hk3
              clear hJ3 hk3 hR hy HKJ HKQ
              gi_wp2
              go_roundw
              case rel => exact ⟨r + 1, by omega, by simp, HJ3.out, HK4.out⟩
              case measure => simp [intOf]; omega
            | panicked ch =>
              obtain ⟨hx, hk3⟩ := hyd
              have HO := HO2.out
              have HX : Hid (bp16 (fun i E V => ∃ F, Oi16 W R J l S D X bY bD bX Bw W3.heap.size i E F V) (fun ch E V => ∃ F, (∀ k, E k → F k) ∧ Lo16 W.heap.size F V ∧ PX ch F V) i E (fun k => E k ∨ Rw k) V2 (.panic ch) { tmps := #[], defers := [] } W4) := by
                refine ⟨rfl, ⟨F2, HO.ef, fun k x => ⟨(hlo2 k x).1, Nat.lt_of_lt_of_le (hlo2 k x).2 (HKJ.out.trans hk3).size⟩, hx⟩, (HKJ.out.trans hk3).mono ?_⟩
                rintro k (x | x)
                · exact .inl (HO.ef k x)
                · rcases HRw.out k x with rfl | y
                  · exact .inl HO.fw
                  · exact .inr y
              clear hx hk3 hR hy HKJ HO HKQ
              gi_wp2
              exact HX.out
            | outgrown => exact hyd.elim
          · have hr2 : r = cp := by omega
            subst hr2
            have hneg2 : ¬ (r : Int) < (r : Int) := by omega
            have HO := HO2.out
            have g0 := hkq.cell e0 (.inl F2o)
            have g1 := hkq.cell e1 (.inl F2o)
            have gK : Kr16 (fun k => F2 k ∨ R k) V2 wr := HK3.out.trans hkq
            have gD := gK.heap hDb (.inl HO.fD)
            have gX := gK.heap hXb (.inl HO.fX)
            rw [← HDL.out] at gD
            rw [← HXL.out] at gX
            have g2 := one_cell16 gD
            have g3 := one_cell16 gX
            have f2 := one_free16 (i := 0) gD
            have f3 := one_free16 (i := 0) gX
            have HGD : Hid (wr.heap[bD]? = some (.cells #[.slice pa dl pc] 23 (0, 0))) := gD
            have HGX : Hid (wr.heap[bX]? = some (.cells #[.slice ya xl yc] 23 (0, 0))) := gX
            have HGK : Hid (Kr16 (fun k => F2 k ∨ R k) V2 wr) := gK
            have HJr : Hid (J (b0 + j + r) F2 wr) := hJr
            have HLq : Hid (Lo16 W.heap.size F2 wr) := hloq
            have HRq : Hid (Kr16 R W wr) := hkRq
            have hri0 : (0 : Int) ≤ (r : Int) := by omega
            have hji0 : (0 : Int) ≤ (j : Int) := by omega
            have h1i : (j : Int) ≤ (dl : Int) := by omega
            have h2i : (r : Int) ≤ (xl : Int) := by omega
            have hne0 : os ≠ bD ∧ os ≠ bX := by have := HOSN.out; omega
            clear gD gX gK hJr hloq hkRq hkq HO e0 e1 e2 e3 hlt hr
            gi_wp2
            refine round_region16 (fun V => V.cell? ⟨os, 0, none⟩ = some (.int .i64 (j : Int)) ∧ V.cell? ⟨os, 0 + 1, none⟩ = some (.int .i64 (r : Int)) ∧ V.cell? ⟨bX, 0, none⟩ = some (.slice ya xl yc)) 9 (by kernel_rfl) (by kernel_rfl) ⟨g0, g1, g3⟩ (fun hHeld => ?_)
            refine wpAnyK_take (i := 1) (v := .pointer (some ⟨os, 0, none⟩)) rfl (by kernel_rfl) (by kernel_rfl) (by kernel_rfl) (by kernel_rfl) (fun _ _ _ h => nomatch h.1) (Or.inl ⟨by rfl, fun w hSw => by go_simp⟩) hHeld ?_
            simp only [List.getElem_toArray, List.getElem_cons_zero, List.getElem_cons_succ, Act.put, List.setIfInBounds_toArray, List.set_cons_zero, List.set_cons_succ]
            refine wpAnyK_take (i := 2) (v := .int .i64 (j : Int)) rfl (by kernel_rfl) (by kernel_rfl) (by kernel_rfl) (by kernel_rfl) (fun _ _ _ h => nomatch h.1) (Or.inl ⟨by rfl, fun w hSw => by go_simp⟩) hHeld ?_
            simp only [List.getElem_toArray, List.getElem_cons_zero, List.getElem_cons_succ, Act.put, List.setIfInBounds_toArray, List.set_cons_zero, List.set_cons_succ]
            refine wpAnyK_take (i := 4) (v := .slice ya xl yc) rfl (by kernel_rfl) (by kernel_rfl) (by kernel_rfl) (by kernel_rfl) (fun _ _ _ h => nomatch h.1) (Or.inl ⟨by rfl, fun w hSw => by go_simp⟩) hHeld ?_
            simp only [List.getElem_toArray, List.getElem_cons_zero, List.getElem_cons_succ, Act.put, List.setIfInBounds_toArray, List.set_cons_zero, List.set_cons_succ]
            refine wpAnyK_take (i := 5) (v := .pointer (some ⟨os, 0 + 1, none⟩)) rfl (by kernel_rfl) (by kernel_rfl) (by kernel_rfl) (by kernel_rfl) (fun _ _ _ h => nomatch h.1) (Or.inl ⟨by rfl, fun w hSw => by go_simp⟩) hHeld ?_
            simp only [List.getElem_toArray, List.getElem_cons_zero, List.getElem_cons_succ, Act.put, List.setIfInBounds_toArray, List.set_cons_zero, List.set_cons_succ]
            refine wpAnyK_take (i := 6) (v := .int .i64 (r : Int)) rfl (by kernel_rfl) (by kernel_rfl) (by kernel_rfl) (by kernel_rfl) (fun _ _ _ h => nomatch h.1) (Or.inl ⟨by rfl, fun w hSw => by go_simp⟩) hHeld ?_
            simp only [List.getElem_toArray, List.getElem_cons_zero, List.getElem_cons_succ, Act.put, List.setIfInBounds_toArray, List.set_cons_zero, List.set_cons_succ]
            refine wpAnyK_take (i := 7) (v := .slice (if yc = r then ya else ya.map (fun x => x.add r)) (xl - r) (yc - r)) rfl (by kernel_rfl) (by kernel_rfl) (by kernel_rfl) (by kernel_rfl) (fun _ _ _ h => nomatch h.1) (Or.inl ⟨by rfl, fun w hSw => by go_simp⟩) hHeld ?_
            simp only [List.getElem_toArray, List.getElem_cons_zero, List.getElem_cons_succ, Act.put, List.setIfInBounds_toArray, List.set_cons_zero, List.set_cons_succ]
            obtain ⟨ya2, hya2⟩ : ∃ ya2, ya2 = rs16 ya yc r := ⟨_, rfl⟩
            rw [show (if yc = r then ya else ya.map (fun x => x.add r)) = ya2 from hya2.symm]
            have HYA : Hid (ya2 = rs16 ya yc r) := hya2
            obtain ⟨xl2, hxl2⟩ : ∃ x, x = xl - r := ⟨_, rfl⟩
            obtain ⟨yc2, hyc2⟩ : ∃ x, x = yc - r := ⟨_, rfl⟩
            rw [← hxl2, ← hyc2]
            have HXL2 : Hid (xl2 = xl - r) := hxl2
            have HYC2 : Hid (yc2 = yc - r) := hyc2
            clear hya2 hxl2 hyc2
            refine wpAnyK_one (i := 0) (by kernel_rfl) rfl (fun K hK => ?_)
            (try simp only [List.getElem_toArray, List.getElem_cons_zero, Act.put, List.setIfInBounds_toArray, List.set_cons_zero, List.set_cons_succ])
            go_simp
            refine hK.out _ _ (fun _ => ⟨g0, g1, g3⟩) (fun hHeld0 => ?_)
            have hHeld := hHeld0 (by decide)
            clear hHeld0 hK K
            (try simp only [List.getElem_toArray, List.getElem_cons_zero, List.getElem_cons_succ, Act.put, List.setIfInBounds_toArray, List.set_cons_zero, List.set_cons_succ])
            refine wpAnyK_one (i := 3) (by kernel_rfl) rfl (fun K hK => ?_)
            (try simp only [List.getElem_toArray, List.getElem_cons_zero, List.getElem_cons_succ, Act.put, List.setIfInBounds_toArray, List.set_cons_zero, List.set_cons_succ])
            go_simp
            obtain ⟨pa2, hpa2⟩ : ∃ pa2, pa2 = rs16 pa pc j := ⟨_, rfl⟩
            rw [show (if pc = j then pa else pa.map (fun x => x.add j)) = pa2 from hpa2.symm]
            have HPA : Hid (pa2 = rs16 pa pc j) := hpa2
            obtain ⟨dl2, hdl2⟩ : ∃ x, x = dl - j := ⟨_, rfl⟩
            obtain ⟨pc2, hpc2⟩ : ∃ x, x = pc - j := ⟨_, rfl⟩
            rw [← hdl2, ← hpc2]
            have HDL2 : Hid (dl2 = dl - j) := hdl2
            have HPC2 : Hid (pc2 = pc - j) := hpc2
            clear hpa2 hdl2 hpc2
            refine hK.out _ _ (fun _ => ⟨g0, g1, g3⟩) (fun hHeld0 => ?_)
            have hHeld := hHeld0 (by decide)
            clear hHeld0 hK K
            (try simp only [List.getElem_toArray, List.getElem_cons_zero, List.getElem_cons_succ, Act.put, List.setIfInBounds_toArray, List.set_cons_zero, List.set_cons_succ])
            refine wpAnyK_one (i := 8) (by kernel_rfl) rfl (fun K hK => ?_)
            simp only [List.getElem_toArray, List.getElem_cons_zero, List.getElem_cons_succ, Act.put]
            go_simp
            have hXD : bX ≠ bD := Ne.symm HNE.out.1
            have k3 := cell_far16 (w := wr.drew) (b := bD) (i := 0) (v := .slice pa2 dl2 pc2) g3 hXD
            have k4 : (wr.drew.setCell ⟨bD, 0, none⟩ (.slice pa2 dl2 pc2)).frozen? ⟨bX, 0, none⟩ = false := one_free16 ((heap_setCell_other _ _ _ _ hXD).trans HGX.out)
            refine hK.out _ _ (fun _ => ⟨cell_far16 g0 hne0.1, cell_far16 g1 hne0.1, k3⟩) (fun hHeld0 => ?_)
            have hHeld := hHeld0 (by decide)
            clear hHeld0 hK K
            refine wpAnyK_one (i := 9) (by kernel_rfl) rfl (fun K hK => ?_)
            simp only [List.getElem_toArray, List.getElem_cons_zero, List.getElem_cons_succ, Act.put]
            go_simp
            refine hK.out _ _ (fun h => absurd rfl h) (fun _ => ?_)
            clear hK K
            refine wpAnyK_done (by kernel_rfl) ?_ _
            refine ⟨rfl, ?_⟩
            have HO := HO2.out
            obtain ⟨V', hV'⟩ : ∃ V', V' = ((wr.setCell ⟨bD, 0, none⟩ (.slice pa2 dl2 pc2)).setCell ⟨bX, 0, none⟩ (.slice ya2 xl2 yc2)).drew := ⟨_, rfl⟩
            have kp' : Kp (fun k => k = bD ∨ k = bX) wr V' := by
              rw [hV']
              exact ((Kp.set (S := fun k => k = bD ∨ k = bX) (.inl rfl) _).trans (Kp.set (S := fun k => k = bD ∨ k = bX) (.inr rfl) _) (fun _ _ h => h)).drew
            have hD' : V'.heap[bD]? = some (.cells #[.slice pa2 dl2 pc2] 23 (0, 0)) := by rw [hV']; exact (heap_setCell_other _ _ _ _ HNE.out.1).trans (one_set16 HGD.out _)
            have hX' : V'.heap[bX]? = some (.cells #[.slice ya2 xl2 yc2] 23 (0, 0)) := by rw [hV']; exact one_set16 ((heap_setCell_other _ _ _ _ hXD).trans HGX.out) _
            have hY' : V'.heap[bY]? = some (.cells #[.func (.yield l) #[] #[]] 140 (0, 0)) := kp'.heap (HGK.out.heap HO.hY (.inl HO.fY)) (by have := HNE.out; rintro (x | x) <;> omega)
            have kR : Kr16 R wr V' := Kr16.of_kp kp' (by
              rintro k x (y | y)
              · have := hRW k x; have := HNE.out; omega
              · have := hRW k x; have := HNE.out; omega)
            have sD := seg_rs16 (d := j) (c := pc) (hDs.kr HGK.out (fun x o e hl => .inr (hDr x o e hl))) (by rw [← HDL.out]; exact h1) (by rw [← HDL.out]; exact hDc)
            have sX := seg_rs16 (d := r) (c := yc) (hXs.kr HGK.out (fun x o e hl => .inr (hXr x o e hl))) (by rw [← HXL.out]; exact h2) (by rw [← HXL.out]; exact hXc)
            rw [← HPA.out] at sD
            rw [← HYA.out] at sX
            have lD : (DL.drop j).length = dl2 := by rw [List.length_drop, ← HDL.out, HDL2.out]
            have lX : (XL.drop r).length = xl2 := by rw [List.length_drop, ← HXL.out, HXL2.out]
            have rD : ∀ x off, pa2 = some ⟨x, off, none⟩ → 0 < (DL.drop j).length → R x := fun x off e hl => by
              obtain ⟨o, ho⟩ := sD.2 x off e hl
              exact hDr x o ho (by rw [List.length_drop] at hl; omega)
            have rX : ∀ x off, ya2 = some ⟨x, off, none⟩ → 0 < (XL.drop r).length → R x := fun x off e hl => by
              obtain ⟨o, ho⟩ := sX.2 x off e hl
              exact hXr x o ho (by rw [List.length_drop] at hl; omega)
            have lo' : Lo16 W.heap.size F2 V' := fun k x => ⟨(HLq.out k x).1, Nat.lt_of_lt_of_le (HLq.out k x).2 kp'.size⟩
            rw [← hV']
            have hH := HH.out
            refine ⟨⟨F2, HO.ef, HO.fY, HO.fD, HO.fX, HO.fw, lo', ?_, hY', ?_, ?_, HRq.out.trans kR, ?_⟩, ?_⟩
            · have := hJ _ F2 F2 wr V' HJr.out HLq.out (kp'.mono (by rintro k _ (x | x); rw [x]; exact HO.fD; rw [x]; exact HO.fX)) (fun k x => x) (fun k x => .inl x) lo'
              rw [show sa16 S (i + 1) + sc16 S (i + 1) = b0 + j + r by simp only [sa16, sc16]; rw [HB0.out, hH.1, hH.2]; omega]
              exact this
            · rw [show D.drop (sa16 S (i + 1)) = DL.drop j by simp only [sa16]; rw [← HDL0.out, List.drop_drop, hH.1]]
              exact ⟨pa2, pc2, by rw [lD]; exact hD', sD.1.kr kR rD, by rw [lD, HDL2.out, HPC2.out]; omega, rD⟩
            · rw [show X.drop (sc16 S (i + 1)) = XL.drop r by simp only [sc16]; rw [← HXL0.out, List.drop_drop, hH.2]]
              exact ⟨ya2, yc2, by rw [lX]; exact hX', sX.1.kr kR rX, by rw [lX, HXL2.out, HYC2.out]; omega, rX⟩
            · have := HO.sz; have := HGK.out.size; have := kp'.size; omega
            · refine ⟨Nat.le_trans HGK.out.size kp'.size, ?_⟩
              rintro k hk x
              have hkF : F2 k ∨ R k := by
                rcases x with x | x
                · exact .inl (HO.ef k x)
                · rcases HRw.out k x with rfl | y
                  · exact .inl HO.fw
                  · exact .inr y
              refine (kp'.block k (Nat.lt_of_lt_of_le hk HGK.out.size) ?_).trans (HGK.out.block k hk hkF)
              rintro y
              have := HNE.out
              rcases x with x | x
              · have := HLOA.out k x
                rcases y with y | y <;> omega
              · rcases HRw.out k x with z | z
                · rcases y with y | y <;> omega
                · have := hRW k z
                  rcases y with y | y <;> omega
  · rintro Dd E V hED hlo ⟨F, hF⟩ hD
    rw [wl16_len] at hF
    have hlD := hF.ef _ hED
    have hkp : Kp F V (V.putObj Dd (.deferred none)) := Kp.put16 hlD _
    have hlo2 : Lo16 W.heap.size F (V.putObj Dd (.deferred none)) := fun k x => ⟨(hF.lo k x).1, Nat.lt_of_lt_of_le (hF.lo k x).2 hkp.size⟩
    refine ⟨by simp, .inl ⟨_, _, rfl, run_takeDeferred hD, ?_⟩⟩
    refine ⟨_, results_none rfl _ _ _, F, ?_, ?_⟩
    · rw [HBY.out]; exact hlo2
    · rw [ol16_len, og16_len]
      exact hJ _ F F V _ hF.j hF.lo hkp (fun k x => x) (fun k x => .inl x) hlo2
  · rintro ch Dd E V hED hlo ⟨F, f1, f2, f3⟩ hD
    have hkp : Kp F V (V.putObj Dd (.deferred none)) := Kp.put16 (f1 _ hED) _
    have hlo2 : Lo16 W.heap.size F (V.putObj Dd (.deferred none)) := fun k x => ⟨(f2 k x).1, Nat.lt_of_lt_of_le (f2 k x).2 hkp.size⟩
    refine ⟨by simp, .inl ⟨_, _, rfl, run_takeDeferred hD, ?_⟩⟩
    refine ⟨F, ?_, ?_⟩
    · rw [HBY.out]; exact hlo2
    · exact hP ch F F V _ f3 f2 hkp (fun k x => x) (fun k x => .inl x) hlo2
end Go.Proofs.Ytodioefbfchckaa
