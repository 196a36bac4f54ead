import Derived.Test.YtmpbaabmpcejdaaTellI
import Derived.Test.YtmpbaabmpcejdaaLend
namespace Go.Proofs.Ytmpbaabmpcejdaa
open Go.RowKit Go.Shelf
set_option linter.unusedVariables false
attribute [local go_sem] Oper.semAt_some

theorem kept_at2 (a b : Option Addr) (xs zs : List Int) (n ca cap : Nat) (w : World) (hx : Seg w b xs) (hn : xs.length = n) (hs : Seg w a zs) (hnil : a = none → cap = 0) (hl : zs.length ≤ 140737488351232) :
    Calls Try.prog 17 #[.slice b n ca, .slice a zs.length cap] w fun e w' => e = .returned (.bool (xs == lentL zs)) ∧ Below w.heap.size w w' := by
  subst hn
  exact kept_any a b xs zs ca cap w hx hs hnil hl
theorem seg_four (w : World) : Seg (w.alloc (.cells #[.int .u8 5, .int .u8 128, .int .u8 1, .int .u8 7] 5)) (some ⟨w.heap.size, 0, none⟩) [5, 128, 1, 7] := by
  refine ⟨fun i hi => ⟨w.heap.size, 0, rfl, ?_⟩, by decide, ?_⟩
  · simp only [List.length_cons, List.length_nil] at hi
    match i, hi with
    | 0, _ => simp
    | 1, _ => simp
    | 2, _ => simp
    | 3, _ => simp
  · exact getD_bd (by decide) (by intro z hz; simp at hz; omega)
/-- Pairs lie where a slice leads. -/
def SegP (w : World) (a : Option Addr) (L : List (Int × Int)) : Prop := ∀ i, i < L.length → ∃ g, a = some ⟨g, 0, none⟩ ∧ w.cell? ⟨g, i * 2, none⟩ = some (.int .i64 (L.getD i (0, 0)).1) ∧ w.cell? ⟨g, i * 2 + 1, none⟩ = some (.int .u64 (L.getD i (0, 0)).2)
theorem SegP.below {w w' : World} {a : Option Addr} {L : List (Int × Int)} (h : SegP w a L) (hb : Below w.heap.size w w') : SegP w' a L := by
  intro i hi
  obtain ⟨g, ha, h1, h2⟩ := h i hi
  have hlt := World.block_lt_of_cell? w _ h1
  exact ⟨g, ha, (hb.cell (p := ⟨g, i * 2, none⟩) hlt).trans h1, (hb.cell (p := ⟨g, i * 2 + 1, none⟩) hlt).trans h2⟩
theorem SegP.grown {w w' : World} {a : Option Addr} {L : List (Int × Int)} {row : Nat} (h : SegP w a L) (hg : w.grownBy w' (some row)) (hne : ∀ g, a = some ⟨g, 0, none⟩ → g ≠ row) : SegP w' a L := by
  intro i hi
  obtain ⟨g, ha, h1, h2⟩ := h i hi
  exact ⟨g, ha, hg.cell h1 (by intro e; cases e; exact hne _ ha rfl), hg.cell h2 (by intro e; cases e; exact hne _ ha rfl)⟩
theorem rowP_shape {w : World} {base : Nat} {e : TypeId} {v : Value} {L : List (Int × Int)} (h : w.ownsRow base e 2 v L.length (cellsP L)) : ∃ a cap, v = .slice a L.length cap ∧ SegP w a L ∧ ∀ g, a = some ⟨g, 0, none⟩ → base ≤ g := by
  rcases h.2 with ⟨rfl, h0⟩ | ⟨g, cap, cur, rfl, hb, hh, hc, _, _, ht⟩
  · refine ⟨none, 0, by rw [h0], fun i hi => by omega, fun g e => by cases e⟩
  · refine ⟨_, cap, rfl, fun i hi => ⟨g, rfl, ?_, ?_⟩, fun g' e => by cases e; exact hb⟩
    · rw [h.cellAt (i * 2) (by omega)]; exact (cellsP_get L i hi).1
    · rw [h.cellAt (i * 2 + 1) (by omega)]; exact (cellsP_get L i hi).2
theorem tells_four : tells [5, 128, 1, 7] = [(0, 5), (1, 128), (3, 7)] := by decide

/-- The law for a range over a function, the loop's variables laid by a function of the frame. -/
theorem range_at {F : Fence} {n : Nat} {P : Program} {α : Type} {g : Operand} {ps : Array Tmp} {assign body : Code} {Q : Exit → Act → World → Prop} {a : Act} {w : World}
    (s : α → Array Value → Array Value) (hro : F.round = none) (h1 : 1 ≤ n) {gf : Nat} {lb : Array Value} (hg : a.eval g = .func (.func gf) #[] lb) (hFg : F.fn gf) (eg : ∀ args w, (callFunc gf args).run P w = .ok (.enter gf args) w)
    {encs : α → Array Value} {Kp : World → World → Prop} {S Sp : List α → Prop} {N : Nat} {w0 : World} (hseq : SeqStopsK F (n - 1) P gf lb encs Kp S Sp N w0)
    (hKt : ∀ {A B C : World}, Kp A B → Kp B C → Kp A C) (hKb : ∀ (W : World) (l : Nat) (o o' : Obj), w.heap.size ≤ l → W.heap[l]? = some o → o.isCells = false → o.isWalk = false → Kp W (W.putObj l o')) (hb0 : Below w0.heap.size w0 w) (hps : ∀ x, (encs x).size = ps.size)
    (I : List α → World → Prop) (Ix : Code → List α → World → Prop) (hI : OwnFrom w.heap.size I) (hIx : ∀ c, OwnFrom w.heap.size (Ix c)) (h0 : I [] w)
    (hassign : ∀ (l : Nat) (x : α) (W : World) (K : Act → World → Prop), K { tmps := s x a.tmps, defers := [] } W →
      assign.wpIn (F.inRound l) (n - 1 - 1) P (Exit.then K (fun _ _ _ => False)) { tmps := (ps.zip (encs x)).foldl (fun t (p, v) => t.setIfInBounds p v) a.tmps, defers := [] } W)
    (hbody : ∀ (l : Nat) (pre : List α) (x : α) (W : World), I pre W → pre.length < N → body.wpIn (F.inRound l) (n - 1 - 1) P (ownPostK Kp I Ix (pre ++ [x]) W) { tmps := s x a.tmps, defers := [] } W)
    (hdone : ∀ (D : Nat) (xs : List α) (W : World), w.heap.size ≤ D → S xs → I xs W → W.heap[D]? = some (.deferred (some [])) → Q .normal { a with defers := { target := .collected D, args := #[] } :: a.defers } W)
    (hstop : ∀ (D : Nat) (c : Code) (pre : List α) (W : World), w.heap.size ≤ D → Sp pre → Ix c pre W → W.heap[D]? = some (.deferred (some [])) → c.wpIn F n P Q { a with defers := { target := .collected D, args := #[] } :: a.defers } W) :
    (Code.rangeFunc g ps assign body).wpIn F n P Q a w :=
  wpIn_rangeFunc_ownF hro h1 hg hFg eg hseq hKt hKb hb0 hps I Ix hI hIx h0 (fun x => { tmps := s x a.tmps, defers := [] }) hassign hbody hdone hstop

/-- The same, where all ways out lead to one place. -/
theorem range_to {F : Fence} {n : Nat} {P : Program} {α : Type} {g : Operand} {ps : Array Tmp} {assign body : Code} {Q : Exit → Act → World → Prop} {a : Act} {w : World}
    (s : α → Array Value → Array Value) (hro : F.round = none) (h1 : 1 ≤ n) {gf : Nat} {lb : Array Value} (hg : a.eval g = .func (.func gf) #[] lb) (hFg : F.fn gf) (eg : ∀ args w, (callFunc gf args).run P w = .ok (.enter gf args) w)
    {encs : α → Array Value} {Kp : World → World → Prop} {S Sp : List α → Prop} {N : Nat} {w0 : World} (hseq : SeqStopsK F (n - 1) P gf lb encs Kp S Sp N w0)
    (hKt : ∀ {A B C : World}, Kp A B → Kp B C → Kp A C) (hKb : ∀ (W : World) (l : Nat) (o o' : Obj), w.heap.size ≤ l → W.heap[l]? = some o → o.isCells = false → o.isWalk = false → Kp W (W.putObj l o')) (hb0 : Below w0.heap.size w0 w) (hps : ∀ x, (encs x).size = ps.size)
    (I : List α → World → Prop) (Ix : Code → List α → World → Prop) (J : World → Prop) (hI : OwnFrom w.heap.size I) (hIx : ∀ c, OwnFrom w.heap.size (Ix c)) (h0 : I [] w)
    (hassign : ∀ (l : Nat) (x : α) (W : World) (K : Act → World → Prop), K { tmps := s x a.tmps, defers := [] } W →
      assign.wpIn (F.inRound l) (n - 1 - 1) P (Exit.then K (fun _ _ _ => False)) { tmps := (ps.zip (encs x)).foldl (fun t (p, v) => t.setIfInBounds p v) a.tmps, defers := [] } W)
    (hbody : ∀ (l : Nat) (pre : List α) (x : α) (W : World), I pre W → pre.length < N → body.wpIn (F.inRound l) (n - 1 - 1) P (ownPostK Kp I Ix (pre ++ [x]) W) { tmps := s x a.tmps, defers := [] } W)
    (hdone : ∀ (xs : List α) (W : World), S xs → I xs W → J W)
    (hstop : ∀ (c : Code) (pre : List α) (W : World), Sp pre → Ix c pre W → J W ∧ ∀ a', Q .normal a' W → c.wpIn F n P Q a' W)
    (hnext : ∀ (D : Nat) (W : World), w.heap.size ≤ D → J W → W.heap[D]? = some (.deferred (some [])) → Q .normal { a with defers := { target := .collected D, args := #[] } :: a.defers } W) :
    (Code.rangeFunc g ps assign body).wpIn F n P Q a w :=
  range_at s hro h1 hg hFg eg hseq hKt hKb hb0 hps I Ix hI hIx h0 hassign hbody (fun D xs W hD hS hi hK => hnext D W hD (hdone xs W hS hi) hK)
    (fun D c pre W hD hS hi hK => (hstop c pre W hS hi).2 _ (hnext D W hD (hstop c pre W hS hi).1 hK))

theorem in_block {id : Nat} {R : Exit → Act → World → Prop} {a : Act} {w : World} (h : Exit.inBlock id R .normal a w) : Exit.inBlock id R (.exit id) a w := by
  simp only [Exit.inBlock, if_true]; exact h
theorem pre_at {L pre : List (Int × Int)} {x : Int × Int} (h : pre ++ [x] <+: L) : pre.length < L.length ∧ L.getD pre.length (0, 0) = x := by
  obtain ⟨t, rfl⟩ := h
  simp
theorem len_snoc (pre : List (Int × Int)) (x : Int × Int) : ((pre ++ [x]).length : Int) = (pre.length : Int) + 1 := by simp
theorem take_snoc {L pre : List (Int × Int)} {x : Int × Int} (HP : pre = L.take pre.length) (hlt : pre.length < L.length) (hx : L.getD pre.length (0, 0) = x) : pre ++ [x] = L.take (pre ++ [x]).length := by
  rw [List.length_append, List.length_singleton, List.take_add_one, ← HP, List.getElem?_eq_getElem hlt]
  rw [List.getD_eq_getElem?_getD, List.getElem?_eq_getElem hlt] at hx
  simp at hx
  simp [hx]

theorem put_below {l : Nat} {V : World} {o o' : Obj} (h : V.heap[l]? = some o) : Below l V (V.putObj l o') := by
  have hg := grownBy_putObj' V l o'
  exact ⟨hg.os, hg.tape, hg.output, hg.size, fun k hk => hg.block k (by have := (Array.getElem?_eq_some_iff.1 h).1; omega) (by intro e; cases e; omega)⟩
theorem keepB_set (n₀ B : Nat) (W : World) (v : Value) : KeepB n₀ B W (W.setCell ⟨B, 0, none⟩ v) := by
  refine ⟨?_, fun k hk hn => ?_⟩
  · show W.heap.size ≤ (W.heap.modify B _).size
    rw [Array.size_modify]; exact Nat.le_refl _
  · show (W.heap.modify B _)[k]? = _
    rw [Array.getElem?_modify, if_neg (fun e => hn e.symm)]
def four : List (Int × Int) := [(0, 5), (1, 128), (3, 7)]
def sums : List Int := [0, 50, 51281, 51281073]
def SumIs (pre : List (Int × Int)) (s : Int) : Prop := pre <+: four → s = sums.getD pre.length 0
theorem sum_next {pre : List (Int × Int)} {x1 x2 s : Int} (h : pre ++ [(x1, x2)] <+: four) (hs : SumIs pre s) :
    (pre.length = 0 ∧ x1 = 0 ∧ x2 = 5 ∧ s = 0) ∨ (pre.length = 1 ∧ x1 = 1 ∧ x2 = 128 ∧ s = 50) ∨ (pre.length = 2 ∧ x1 = 3 ∧ x2 = 7 ∧ s = 51281) := by
  have h' := pre_at h
  have hs' := hs ((List.prefix_append _ _).trans h)
  generalize pre.length = k at *
  obtain ⟨hk, hx⟩ := h'
  match k, hk with
  | 0, _ => left; simp [four] at hx; simp [sums] at hs'; omega
  | 1, _ => right; left; simp [four] at hx; simp [sums] at hs'; omega
  | 2, _ => right; right; simp [four] at hx; simp [sums] at hs'; omega

/-- What the law's loop reads, in a world. -/
structure TellAt (W : World) (B0 Bw : Nat) (aW : Option Addr) (L : List (Int × Int)) (cw : Nat) (leave : Int) (Bs : Nat) (aB : Option Addr) (zs : List Int) (cB : Nat) : Prop where
  cl : W.cell? ⟨B0, 0, none⟩ = some (.int .i64 leave)
  br : Boxed W (B0 + 1) 4 (.bool false)
  cw : W.cell? ⟨Bw, 0, none⟩ = some (.slice aW L.length cw)
  sp : SegP W aW L
  cb : W.cell? ⟨Bs, 0, none⟩ = some (.slice aB zs.length cB)
  sb : Seg W aB zs
theorem TellAt.below {W W' : World} {B0 Bw : Nat} {aW : Option Addr} {L : List (Int × Int)} {cw : Nat} {leave : Int} {Bs : Nat} {aB : Option Addr} {zs : List Int} {cB : Nat} (h : TellAt W B0 Bw aW L cw leave Bs aB zs cB) (hb : Below W.heap.size W W') : TellAt W' B0 Bw aW L cw leave Bs aB zs cB :=
  ⟨(hb.cell (p := ⟨B0, 0, none⟩) (World.block_lt_of_cell? _ _ h.cl)).trans h.cl, (hb.block _ h.br.lt).trans h.br, (hb.cell (p := ⟨Bw, 0, none⟩) (World.block_lt_of_cell? _ _ h.cw)).trans h.cw, h.sp.below hb, (hb.cell (p := ⟨Bs, 0, none⟩) (World.block_lt_of_cell? _ _ h.cb)).trans h.cb, h.sb.old hb⟩

set_option maxRecDepth 100000 in
set_option maxHeartbeats 4000000 in
theorem numTells_in (w : World) (a : Option Addr) (zs : List Int) (cap : Nat) (hs : Seg w a zs) (hcap : zs.length ≤ cap) (hnil : a = none → cap = 0) (hl : zs.length ≤ 1048576) (leave : Int) (hl0 : -9223372036854775808 ≤ leave) (hl1 : leave ≤ 9223372036854775807) :
    CallsIn Fence.wide 20 Try.prog 7 #[.slice a zs.length cap, .int .i64 leave] w fun e w' => e = .returned (.bool true) ∧ Below w.heap.size w w' := by
  refine callsIn_of_wp_marks Try.func7 rfl trivial ?_ rfl
  simp only [Try.ntmps7, List.size_toArray, List.length_cons, List.length_nil, Nat.reduceAdd, Nat.reduceSub, Array.replicate_succ, Array.replicate_zero, List.push_toArray, List.append_toArray, List.nil_append, List.cons_append]
  have bL := Boxed.new w 3 (.int .i64 leave)
  have bR := Boxed.new (w.alloc (.cells #[.int .i64 leave] 3)) 4 (.bool false)
  rw [World.size_alloc] at bR
  have bL := bL.alloc (.cells #[.bool false] 4)
  have hb0 : Below w.heap.size w ((w.alloc (.cells #[.int .i64 leave] 3)).alloc (.cells #[.bool false] 4)) := ((Below.refl _ _).alloc (Nat.le_refl _) _).alloc (by simp) _
  have hz0 : ((w.alloc (.cells #[.int .i64 leave] 3)).alloc (.cells #[.bool false] 4)).heap.size = w.heap.size + 2 := by simp
  gi_wp2_with fail
  refine ⟨trivial, ?_⟩
  have hs0 := hs.old hb0
  generalize (w.alloc (.cells #[.int .i64 leave] 3)).alloc (.cells #[.bool false] 4) = w0 at *
  refine (callsIn_wide.2 (lend_any a zs cap _ hs0 hnil (by omega))).mono ?_
  rintro e w1 ⟨g, cap', rfl, hown, hb1⟩
  obtain ⟨hn, a', c', hv, hseg, hblk, hcc, _⟩ := own_seg hown (M := 255) (by decide) (lent_bd hs.mem)
  have ha : a' = some ⟨g, 0, none⟩ := by simp at hv; exact hv.1.symm
  have hc' : c' = cap' := by simp at hv; exact hv.2.symm
  subst ha hc'
  have hgw : w0.heap.size ≤ g ∧ g < w1.heap.size := ⟨(hblk _ rfl).2.2.1, (hblk _ rfl).2.2.2⟩
  clear hv hn hblk
  have hpart : Seg w1 (some ⟨g, 0, none⟩) zs := by have := hseg.take zs.length; unfold lentL at this; rwa [List.take_left] at this
  have hs1 := hs0.old hb1
  have hz1 := hb1.size
  gi_wp2_with fail
  refine ⟨trivial, ?_⟩
  refine (callsIn_wide.2 (all_any _ zs _ _ hpart (by intro e; cases e) (by omega))).mono ?_
  rintro e w2 ⟨Bs, aB, cB, rfl, hBc, hBs1, hBs2, hOB⟩
  have hs2 := hs1.old hOB.b
  have hz2 := hOB.b.size
  have hown2 := own_below hown hOB.b
  gi_wp2_with fail
  refine ⟨trivial, ?_⟩
  refine (callsIn_wide.2 (rall_any a zs cap _ hs2 hcap hnil hl)).mono ?_
  rintro e w3 ⟨wv, rfl, hownW, hb3⟩
  have hz3 := hb3.size
  obtain ⟨aW, cW, rfl, hP3, hPb⟩ := rowP_shape hownW
  have hown3 := own_below hown2 hb3
  have hs3 := hs2.old hb3
  have hLl := tells_len zs hs.mem
  generalize hLd : tells zs = L at *
  have HL : Hid (tells zs = L) := hLd
  clear hownW hLd
  have hbW : Below w3.heap.size w3 (w3.alloc (.cells #[.slice aW L.length cW] 52)) := (Below.refl _ _).alloc (Nat.le_refl _) _
  have bW := Boxed.new w3 52 (.slice aW L.length cW)
  have hown4 := own_below hown3 hbW
  have hs4 := hs3.old hbW
  have hP4 := hP3.below hbW
  have hz4 : (w3.alloc (.cells #[.slice aW L.length cW] 52)).heap.size = w3.heap.size + 1 := by simp
  have hq := eql_all_nil
  gi_wp2_with fail
  generalize w3.alloc (.cells #[.slice aW L.length cW] 52) = w4 at *
  refine ⟨trivial, ?_⟩
  have hsegL : Seg w4 (some ⟨g, 0, none⟩) (lentL zs) := by
    obtain ⟨_, a2, c2, hv, hsg, _⟩ := own_seg hown4 (M := 255) (by decide) (lent_bd hs.mem)
    cases hv
    exact hsg
  have hll : (lentL zs).length = zs.length + 5 := by simp [lentL]
  refine (callsIn_wide.2 (kept_at2 a (some ⟨g, 0, none⟩) (lentL zs) zs _ c' cap _ hsegL hll hs4 hnil (by omega))).mono ?_
  rintro e w5 ⟨rfl, hb5⟩
  have hz5 := hb5.size
  have hbt : (lentL zs == lentL zs) = true := by simp
  rw [hbt]
  clear hbt hll hsegL
  gi_wp2_with fail
  refine ⟨trivial, ?_⟩
  refine (callsIn_wide.2 (all_any _ [5, 128, 1, 7] 4 _ (seg_four w5) (by intro e; cases e) (by simp))).mono ?_
  rintro e w6 ⟨Bq, aq, cq, rfl, _, _, _, hOq⟩
  have hb6 : Below w5.heap.size w5 w6 := ((Below.refl _ _).alloc (Nat.le_refl _) _).trans (hOq.b.mono (by simp))
  have hz6 := hb6.size
  have hown6 := own_below (own_below hown4 hb5) hb6
  gi_wp2_with fail
  gi_loopw [41] (fun t wr => ∃ (k : Nat) (ys : List Value), k ≤ zs.length + 5 ∧ t = .int .i64 k ∧ wr.ownsRow w0.heap.size 5 1 (.slice (some ⟨g, 0, none⟩) (zs.length + 5) c') (zs.length + 5) ys ∧ w6.grownBy wr (some g)) (fun t _ => zs.length + 5 - (intOf t).toNat)
  case atStart => exact ⟨0, _, Nat.zero_le _, rfl, hown6, World.grownBy.refl _ _⟩
  case round =>
    obtain ⟨k, ys, hk, rfl, hownr, hgr⟩ := hrel
    by_cases hlt : k < zs.length + 5
    · have hlti : (k : Int) < (zs.length : Int) + 5 := by omega
      have hc := hownr.cellAt k (by omega)
      have hf := hownr.frozenAt k
      have hst := hownr.stored k (.int .u8 3)
      have hyl := hownr.1
      obtain ⟨u, hu⟩ : ∃ u, wr.cell? ⟨g, k, none⟩ = some u := by rw [hc]; exact ⟨_, List.getElem?_eq_getElem (by omega)⟩
      clear hc hq
      gi_wp2
      go_roundw
      case rel => exact ⟨k + 1, _, by omega, by go_num, hst.1, grownBy_trans hgr hst.2⟩
      case measure => simp [intOf]; omega
    · obtain rfl : k = zs.length + 5 := by omega
      have hz0' : w0.heap.size = w.heap.size + 2 := hz0
      have hgne : g ≠ w.heap.size ∧ g ≠ w.heap.size + 1 ∧ g ≠ Bs ∧ g ≠ w3.heap.size := ⟨by omega, by omega, by omega, by omega⟩
      have hb06 : Below w0.heap.size w0 w6 := hb1.trans ((hOB.b.mono hz1).trans ((hb3.mono (by omega)).trans ((hbW.mono (by omega)).trans ((hb5.mono (by omega)).trans (hb6.mono (by omega))))))
      have hbr : Below w.heap.size w wr := hb0.trans ((hb06.mono (by omega)).trans (below_of_grown hgr (by omega) (by omega)))
      have cL : wr.cell? ⟨w.heap.size, 0, none⟩ = some (.int .i64 leave) := hgr.cell ((hb06.cell (p := ⟨w.heap.size, 0, none⟩) (by show w.heap.size < _; omega)).trans bL.cell) (by intro e; cases e; exact hgne.1 rfl)
      have bRr : Boxed wr (w.heap.size + 1) 4 (.bool false) := by
        show wr.heap[_]? = _
        rw [hgr.block _ (by omega) (by intro e; cases e; exact hgne.2.1 rfl), hb06.block _ (by omega)]
        exact bR
      have hb46 : Below w4.heap.size w4 w6 := hb5.trans (hb6.mono hz5)
      have hcW : wr.cell? ⟨w3.heap.size, 0, none⟩ = some (.slice aW L.length cW) := hgr.cell ((hb46.cell (p := ⟨w3.heap.size, 0, none⟩) (by show w3.heap.size < _; omega)).trans bW.cell) (by intro e; cases e; exact hgne.2.2.2 rfl)
      have hPr : SegP wr aW L := (hP4.below hb46).grown hgr (fun g' e => by have := hPb g' e; omega)
      have hb26 : Below w2.heap.size w2 w6 := hb3.trans ((hbW.mono hz3).trans (hb46.mono (by omega)))
      have hcB : wr.cell? ⟨Bs, 0, none⟩ = some (.slice aB zs.length cB) := hgr.cell ((hb26.cell (p := ⟨Bs, 0, none⟩) hBs2).trans hBc) (by intro e; cases e; exact hgne.2.2.1 rfl)
      have hzr := hgr.size
      have hsBr : Seg wr aB zs := (hOB.seg.old hb26).grown hgr (fun b off e _ => by have := hOB.new _ e; intro e2; cases e2; simp at this; omega)
      have hT : TellAt wr w.heap.size w3.heap.size aW L cW leave Bs aB zs cB := ⟨cL, bRr, hcW, hPr, hcB, hsBr⟩
      have hle := hOB.le
      have hsm := hs.mem
      clear hlt hk hownr hown6 hown4 hown3 hown2 hown hq hP3 hP4 hs0 hs1 hs2 hs3 hs4 hpart hseg hgr cL bRr hcW hPr hcB hsBr hOB hOq hb06 hb46 hb26 hb0 hb1 hb3 hb5 hb6 hbW bR bL bW hBc hz0 hz1 hz2 hz3 hz4 hz5 hz6 hzr hz0' hgne hgw hcc hs
      gi_wp2_with fail
      refine wpIn_loop_rounds 3 ?_
      rw [roundsIn_succ]
      gi_wp2_with fail
      have hbx : Below wr.heap.size wr ((wr.alloc (.cells #[.int .i64 0] 3)).alloc (.cells #[.int .i64 0] 3)) := ((Below.refl _ _).alloc (Nat.le_refl _) _).alloc (by simp) _
      have bO : Boxed ((wr.alloc (.cells #[.int .i64 0] 3)).alloc (.cells #[.int .i64 0] 3)) wr.heap.size 3 (.int .i64 0) := (Boxed.new wr 3 (.int .i64 0)).alloc _
      have bI : Boxed ((wr.alloc (.cells #[.int .i64 0] 3)).alloc (.cells #[.int .i64 0] 3)) (wr.heap.size + 1) 3 (.int .i64 0) := by have := Boxed.new (wr.alloc (.cells #[.int .i64 0] 3)) 3 (.int .i64 0); rwa [World.size_alloc] at this
      have hzx : ((wr.alloc (.cells #[.int .i64 0] 3)).alloc (.cells #[.int .i64 0] 3)).heap.size = wr.heap.size + 2 := by simp
      have e5 : ((zs.length + 5 : Nat) : Int) = (zs.length : Int) + 5 := by omega
      rw [e5]
      generalize (wr.alloc (.cells #[.int .i64 0] 3)).alloc (.cells #[.int .i64 0] 3) = wx at *
      have hTx := hT.below hbx
      have hneL : w.heap.size ≠ wr.heap.size + 1 := by have := hbr.size; omega
      refine range_to (fun (x : Int × Int) A => (((A.setIfInBounds 53 (.int .i64 x.1)).setIfInBounds 54 (.int .u64 x.2)).setIfInBounds 12 (.int .i64 x.1)).setIfInBounds 13 (.int .u64 x.2)) rfl (by decide) rfl trivial (enters_of Try.func35 (by kernel_rfl) rfl)
        (tell_stops 19 (by decide) Bs wr.heap.size wr.heap.size aB zs cB hl hle wx (fun b off e h => ⟨hT.sb.lt b off e h, Nat.ne_of_lt (hT.sb.lt b off e h)⟩) (World.block_lt_of_cell? _ _ hT.cb) (Nat.ne_of_lt (World.block_lt_of_cell? _ _ hT.cb)) (by omega) hTx.cb hTx.sb) KeepB.trans (keepB_b (by omega)) (Below.refl _ _) (fun _ => rfl)
        (fun pre W => (pre = L.take pre.length ∧ ∀ j, j < pre.length → leave ≠ (j : Int)) ∧ (Boxed W (wr.heap.size + 1) 3 (.int .i64 pre.length) ∧ Boxed W wr.heap.size 3 (.int .i64 0)) ∧ Below wr.heap.size wr W)
        (fun c pre W => (c = .ret ∧ ¬ pre <+: L) ∨ (c = .exit 4 ∧ 0 ≤ leave ∧ Boxed W (wr.heap.size + 1) 3 (.int .i64 pre.length) ∧ Boxed W wr.heap.size 3 (.int .i64 0) ∧ Below wr.heap.size wr W))
        (fun W => ∃ n : Nat, (leave < 0 → n = L.length) ∧ Boxed W (wr.heap.size + 1) 3 (.int .i64 n) ∧ Boxed W wr.heap.size 3 (.int .i64 0) ∧ Below wr.heap.size wr W)
        ?hI ?hIx ?h0 ?assign ?body ?done ?stop ?next
      case hI => exact OwnFrom.and (ownFrom_pure _ (fun pre => pre = L.take pre.length ∧ ∀ j, j < pre.length → leave ≠ (j : Int))) (OwnFrom.and (OwnFrom.and (Own.from (boxed_own (wr.heap.size + 1) 3 (fun pre : List (Int × Int) => .int .i64 pre.length)) _) (Own.from (boxed_own wr.heap.size 3 (fun _ => .int .i64 0)) _)) (ownFrom_below (Nat.le_refl _) (by omega)))
      case hIx =>
        intro c s A B row hs hg hr
        rcases hs with hs | ⟨e, hl, hB, hC, hb⟩
        · exact .inl hs
        · exact .inr ⟨e, hl, boxed_own (wr.heap.size + 1) 3 (fun pre : List (Int × Int) => .int .i64 pre.length) s A B row hB hg (fun r e => (hr r e).2), boxed_own wr.heap.size 3 (fun _ : List (Int × Int) => .int .i64 0) s A B row hC hg (fun r e => (hr r e).2), ownFrom_below (Nat.le_refl _) (by omega) s A B row hb hg hr⟩
      case h0 => exact ⟨⟨rfl, by simp⟩, ⟨bI, bO⟩, hbx⟩
      case assign =>
        intro l x W K hK
        gi_wp2
        exact hK
      case body =>
        rintro l pre ⟨x1, x2⟩ W ⟨⟨hp1, hp2⟩, ⟨bI, bO⟩, hb⟩ hpl
        have HP : Hid (pre = L.take pre.length) := hp1
        clear hp1
        have hTW := hT.below hb
        have cI := bI.cell
        have fI := bI.frozen
        have cO := bO.cell
        have cl := hTW.cl
        have cw := hTW.cw
        have cr := hTW.br.cell
        have fr := hTW.br.frozen
        by_cases hlt : pre.length < L.length
        · obtain ⟨gW, rfl, hc1, hc2⟩ := hTW.sp pre.length hlt
          have hlti : (pre.length : Int) < (L.length : Int) := by omega
          generalize hLi : L.getD pre.length (0, 0) = p at hc1 hc2
          have HLi : Hid (L.getD pre.length (0, 0) = p) := hLi
          clear hLi
          obtain ⟨p1, p2⟩ := p
          dsimp only at hc1 hc2
          by_cases h12 : x1 = p1 ∧ x2 = p2
          · obtain ⟨rfl, rfl⟩ := h12
            have HS := take_snoc HP.out hlt HLi.out
            by_cases h3 : leave = (pre.length : Int)
            · subst h3
              clear HS
              gi_wp2
              exact ⟨KeepsOthers.setCell _ _ _, .inr ⟨rfl, by omega, by rw [len_snoc]; exact bI.set _, bO.other (by omega) _, hb.setCell (p := ⟨wr.heap.size + 1, 0, none⟩) (by simp) _⟩⟩
            · have HS' : Hid (pre ++ [(x1, x2)] = L.take (pre ++ [(x1, x2)]).length) := HS
              clear HS
              have hne3 : ((pre.length : Int) == leave) = false := by simp; omega
              gi_wp2
              exact ⟨KeepsOthers.setCell _ _ _, .of_below ((Below.refl _ _).setCell (p := ⟨wr.heap.size + 1, 0, none⟩) (by simp) _), ⟨HS'.out, fun j hj => by
                rw [List.length_append, List.length_singleton] at hj
                by_cases hj' : j = pre.length
                · rw [hj']; exact h3
                · exact hp2 j (by omega)⟩, ⟨by rw [len_snoc]; exact bI.set _, bO.other (by omega) _⟩, hb.setCell (p := ⟨wr.heap.size + 1, 0, none⟩) (by simp) _⟩
          · have HN : Hid (¬ pre ++ [(x1, x2)] <+: L) := fun h => h12 (by have := (pre_at h).2; rw [HLi.out] at this; simpa [eq_comm] using this)
            by_cases h1 : x1 = p1
            · subst h1
              have hbn : (x2 != p2) = true := by simpa using h12
              clear h12
              gi_wp2
              exact ⟨KeepsOthers.setCell _ _ _, .inl ⟨rfl, HN.out⟩⟩
            · have hbn : (x1 != p1) = true := by simpa using h1
              clear h12 h1
              gi_wp2
              exact ⟨KeepsOthers.setCell _ _ _, .inl ⟨rfl, HN.out⟩⟩
        · have hgt : (L.length : Int) ≤ (pre.length : Int) := by omega
          have HN : Hid (¬ pre ++ [(x1, x2)] <+: L) := fun h => hlt (pre_at h).1
          clear hlt
          gi_wp2
          exact ⟨KeepsOthers.setCell _ _ _, .inl ⟨rfl, HN.out⟩⟩
      case done =>
        rintro ys W hys ⟨⟨_, hp2⟩, ⟨bI, bO⟩, hb⟩
        rw [HL.out] at hys
        subst hys
        exact ⟨ys.length, fun _ => rfl, bI, bO, hb⟩
      case stop =>
        rintro c pre W hp (⟨rfl, hn⟩ | ⟨rfl, h0, hB, hC, hb⟩)
        · exact absurd (HL.out ▸ hp) hn
        · exact ⟨⟨_, fun h => by omega, hB, hC, hb⟩, fun a' h => wpIn_exit (in_block h)⟩
      case next =>
        rintro D1 W1 hD1 ⟨n, hn, bI, bO, hb⟩ hK1
        have hRD : w.heap.size + 1 < D1 := by have := hT.br.lt; omega
        replace hT := hT.below hb
        replace hbr := hbr.trans (hb.mono hbr.size)
        have cI := bI.cell
        have cO := bO.cell
        have cl := hT.cl
        have cw := hT.cw
        clear hTx bI bO hb hbx hneL hzx
        by_cases hneg : leave < 0
        all_goals
          have hn' : leave < 0 → (n : Int) = (L.length : Int) := fun h => by rw [hn h]
          first | (replace hn' := hn' hneg) | clear hn'
          clear hn
          gi_wp2_with fail
          clear cI cO cl cw
          rw [roundsIn_succ]
          gi_wp2_with fail
          have hbx : Below W1.heap.size W1 ((W1.alloc (.cells #[.int .i64 1] 3)).alloc (.cells #[.int .i64 0] 3)) := ((Below.refl _ _).alloc (Nat.le_refl _) _).alloc (by simp) _
          have bO : Boxed ((W1.alloc (.cells #[.int .i64 1] 3)).alloc (.cells #[.int .i64 0] 3)) W1.heap.size 3 (.int .i64 1) := (Boxed.new W1 3 (.int .i64 1)).alloc _
          have bI : Boxed ((W1.alloc (.cells #[.int .i64 1] 3)).alloc (.cells #[.int .i64 0] 3)) (W1.heap.size + 1) 3 (.int .i64 0) := by have := Boxed.new (W1.alloc (.cells #[.int .i64 1] 3)) 3 (.int .i64 0); rwa [World.size_alloc] at this
          have hzx : ((W1.alloc (.cells #[.int .i64 1] 3)).alloc (.cells #[.int .i64 0] 3)).heap.size = W1.heap.size + 2 := by simp
          generalize (W1.alloc (.cells #[.int .i64 1] 3)).alloc (.cells #[.int .i64 0] 3) = wx at *
          have hTx := hT.below hbx
          have hneL : w.heap.size ≠ W1.heap.size + 1 := by have := hbr.size; omega
          refine range_to (fun (x : Int × Int) A => (((A.setIfInBounds 53 (.int .i64 x.1)).setIfInBounds 54 (.int .u64 x.2)).setIfInBounds 12 (.int .i64 x.1)).setIfInBounds 13 (.int .u64 x.2)) rfl (by decide) rfl trivial (enters_of Try.func35 (by kernel_rfl) rfl)
            (tell_stops 19 (by decide) Bs W1.heap.size W1.heap.size aB zs cB hl hle wx (fun b off e h => ⟨hT.sb.lt b off e h, Nat.ne_of_lt (hT.sb.lt b off e h)⟩) (World.block_lt_of_cell? _ _ hT.cb) (Nat.ne_of_lt (World.block_lt_of_cell? _ _ hT.cb)) (by omega) hTx.cb hTx.sb) KeepB.trans (keepB_b (by omega)) (Below.refl _ _) (fun _ => rfl)
            (fun pre W => (pre = L.take pre.length) ∧ (Boxed W (W1.heap.size + 1) 3 (.int .i64 pre.length) ∧ Boxed W W1.heap.size 3 (.int .i64 1)) ∧ Below W1.heap.size W1 W)
            (fun c pre W => c = .ret ∧ ¬ pre <+: L)
            (fun W => Boxed W (W1.heap.size + 1) 3 (.int .i64 L.length) ∧ Boxed W W1.heap.size 3 (.int .i64 1) ∧ Below W1.heap.size W1 W)
            ?hI ?hIx ?h0 ?assign ?body ?done ?stop ?next
          case hI => exact OwnFrom.and (ownFrom_pure _ (fun pre => pre = L.take pre.length)) (OwnFrom.and (OwnFrom.and (Own.from (boxed_own (W1.heap.size + 1) 3 (fun pre : List (Int × Int) => .int .i64 pre.length)) _) (Own.from (boxed_own W1.heap.size 3 (fun _ => .int .i64 1)) _)) (ownFrom_below (Nat.le_refl _) (by omega)))
          case hIx => exact fun c s A B row hs hg hr => hs
          case h0 => exact ⟨rfl, ⟨bI, bO⟩, hbx⟩
          case assign =>
            intro l x W K hK
            gi_wp2
            exact hK
          case body =>
            rintro l pre ⟨x1, x2⟩ W ⟨hp1, ⟨bI, bO⟩, hb⟩ hpl
            have HP : Hid (pre = L.take pre.length) := hp1
            clear hp1
            have hTW := hT.below hb
            have cI := bI.cell
            have fI := bI.frozen
            have cO := bO.cell
            have cl := hTW.cl
            have cw := hTW.cw
            have cr := hTW.br.cell
            have fr := hTW.br.frozen
            by_cases hlt : pre.length < L.length
            · obtain ⟨gW, rfl, hc1, hc2⟩ := hTW.sp pre.length hlt
              have hlti : (pre.length : Int) < (L.length : Int) := by omega
              generalize hLi : L.getD pre.length (0, 0) = p at hc1 hc2
              have HLi : Hid (L.getD pre.length (0, 0) = p) := hLi
              clear hLi
              obtain ⟨p1, p2⟩ := p
              dsimp only at hc1 hc2
              by_cases h12 : x1 = p1 ∧ x2 = p2
              · obtain ⟨rfl, rfl⟩ := h12
                have HS := take_snoc HP.out hlt HLi.out
                have HS' : Hid (pre ++ [(x1, x2)] = L.take (pre ++ [(x1, x2)]).length) := HS
                clear HS
                gi_wp2
                exact ⟨KeepsOthers.setCell _ _ _, .of_below ((Below.refl _ _).setCell (p := ⟨W1.heap.size + 1, 0, none⟩) (by simp) _), HS'.out, ⟨by rw [len_snoc]; exact bI.set _, bO.other (by omega) _⟩, hb.setCell (p := ⟨W1.heap.size + 1, 0, none⟩) (by simp) _⟩
              · have HN : Hid (¬ pre ++ [(x1, x2)] <+: L) := fun h => h12 (by have := (pre_at h).2; rw [HLi.out] at this; simpa [eq_comm] using this)
                by_cases h1 : x1 = p1
                · subst h1
                  have hbn : (x2 != p2) = true := by simpa using h12
                  clear h12
                  gi_wp2
                  exact ⟨KeepsOthers.setCell _ _ _, rfl, HN.out⟩
                · have hbn : (x1 != p1) = true := by simpa using h1
                  clear h12 h1
                  gi_wp2
                  exact ⟨KeepsOthers.setCell _ _ _, rfl, HN.out⟩
            · have hgt : (L.length : Int) ≤ (pre.length : Int) := by omega
              have HN : Hid (¬ pre ++ [(x1, x2)] <+: L) := fun h => hlt (pre_at h).1
              clear hlt
              gi_wp2
              exact ⟨KeepsOthers.setCell _ _ _, rfl, HN.out⟩
          case done =>
            rintro ys W hys ⟨_, ⟨bI, bO⟩, hb⟩
            rw [HL.out] at hys
            subst hys
            exact ⟨bI, bO, hb⟩
          case stop =>
            rintro c pre W hp ⟨rfl, hn⟩
            exact absurd (HL.out ▸ hp) hn
          case next =>
            rintro D2 W hD2 ⟨bI, bO, hb⟩ hK2
            have hTW := hT.below hb
            have hD12 : D1 < D2 := by have := (Array.getElem?_eq_some_iff.1 hK1).1; omega
            replace hK1 := (hb.block D1 (Array.getElem?_eq_some_iff.1 hK1).1).trans hK1
            have hbW := hbr.trans (hb.mono hbr.size)
            have cI := bI.cell
            have cO := bO.cell
            have cl := hTW.cl
            have cw := hTW.cw
            have bR := hTW.br
            clear hTx bI bO hb hT hbr hbx hneL hzx
            gi_wp2_with fail
            rw [roundsIn_succ]
            gi_wp2_with fail
            clear cI cO cl cw
            refine ⟨trivial, ?_⟩
            have hbz : Below W.heap.size W ((W.alloc (.cells #[.int .i64 2] 3)).alloc (.cells #[.int .u64 0] 23)) := ((Below.refl _ _).alloc (Nat.le_refl _) _).alloc (by simp) _
            have bS : Boxed ((W.alloc (.cells #[.int .i64 2] 3)).alloc (.cells #[.int .u64 0] 23)) (W.heap.size + 1) 23 (.int .u64 0) := by have := Boxed.new (W.alloc (.cells #[.int .i64 2] 3)) 23 (.int .u64 0); rwa [World.size_alloc] at this
            have hsf := seg_four ((W.alloc (.cells #[.int .i64 2] 3)).alloc (.cells #[.int .u64 0] 23))
            have hzz : ((W.alloc (.cells #[.int .i64 2] 3)).alloc (.cells #[.int .u64 0] 23)).heap.size = W.heap.size + 1 + 1 := by simp
            rw [hzz] at hsf
            generalize (W.alloc (.cells #[.int .i64 2] 3)).alloc (.cells #[.int .u64 0] 23) = wz at *
            have bS := bS.alloc (.cells #[.int .u8 5, .int .u8 128, .int .u8 1, .int .u8 7] 5)
            have hbz2 : Below W.heap.size W (wz.alloc (.cells #[.int .u8 5, .int .u8 128, .int .u8 1, .int .u8 7] 5)) := hbz.alloc (by omega) _
            have hzz2 : (wz.alloc (.cells #[.int .u8 5, .int .u8 128, .int .u8 1, .int .u8 7] 5)).heap.size = W.heap.size + 3 := by simp; omega
            generalize wz.alloc (.cells #[.int .u8 5, .int .u8 128, .int .u8 1, .int .u8 7] 5) = wy at *
            refine (callsIn_wide.2 (all_any _ [5, 128, 1, 7] 4 _ hsf (by intro e; cases e) (by simp))).mono ?_
            rintro e w7 ⟨Bp, ap, cp, rfl, hcp, hBp1, hBp2, hOp⟩
            have bS : Boxed w7 (W.heap.size + 1) 23 (.int .u64 0) := (hOp.b.block _ bS.lt).trans bS
            have hz7 := hOp.b.size
            gi_wp2_with fail
            have hbW7 : Below W.heap.size W w7 := hbz2.trans (hOp.b.mono (by omega))
            refine range_to (fun (x : Int × Int) A => (((A.setIfInBounds 112 (.int .i64 x.1)).setIfInBounds 113 (.int .u64 x.2)).setIfInBounds 15 (.int .i64 x.1)).setIfInBounds 16 (.int .u64 x.2)) rfl (by decide) rfl trivial (enters_of Try.func35 (by kernel_rfl) rfl)
              (tell_stops 19 (by decide) Bp w7.heap.size (W.heap.size + 1) ap [5, 128, 1, 7] cp (by decide) hOp.le w7 (fun b off e h => ⟨hOp.seg.lt b off e h, by have := hOp.new _ e; simp at this; omega⟩) hBp2 (by omega) (Nat.le_refl _) hcp hOp.seg) KeepB.trans (keepB_b (Nat.le_refl _)) (Below.refl _ _) (fun _ => rfl)
              (fun pre V => ∃ s, SumIs pre s ∧ Boxed V (W.heap.size + 1) 23 (.int .u64 s) ∧ Below W.heap.size W V)
              (fun _ _ _ => False)
              (fun V => Boxed V (W.heap.size + 1) 23 (.int .u64 51281073) ∧ Below W.heap.size W V)
              ?hI ?hIx ?h0 ?assign ?body ?done ?stop ?next
            case hI =>
              rintro pre A B row ⟨s, h1, h2, h3⟩ hg hr
              exact ⟨s, h1, boxed_own (W.heap.size + 1) 23 (fun _ : Unit => .int .u64 s) () A B row h2 hg (fun r e => (hr r e).2), ownFrom_below (β := Unit) (B := w7.heap.size) (Nat.le_refl _) (by omega) () A B row h3 hg hr⟩
            case hIx => exact fun c s A B row hs hg hr => hs
            case h0 => exact ⟨0, fun _ => rfl, bS, hbW7⟩
            case assign =>
              intro l x V K hK
              gi_wp2
              exact hK
            case body =>
              rintro l pre ⟨x1, x2⟩ V ⟨s, hsi, bS, hb⟩ hpl
              have cS := bS.cell
              have fS := bS.frozen
              have hps : ∀ v, KeepB w7.heap.size (W.heap.size + 1) V (V.setCell ⟨W.heap.size + 1, 0, none⟩ v) := fun v => keepB_set _ _ _ _
              by_cases hpf : pre ++ [(x1, x2)] <+: four
              · have hl1 : (pre ++ [(x1, x2)]).length = pre.length + 1 := by simp
                rcases sum_next hpf hsi with ⟨hk, rfl, rfl, rfl⟩ | ⟨hk, rfl, rfl, rfl⟩ | ⟨hk, rfl, rfl, rfl⟩
                all_goals
                  have HK : Hid (pre.length = _) := hk
                  have HL1 : Hid (List.length _ = _) := hl1
                  clear hk hpf hsi hl1 hpl
                  gi_wp2
                  exact ⟨KeepsOthers.setCell _ _ _, hps _, _, fun _ => by rw [HL1.out, HK.out]; rfl, bS.set _, hb.setCell (p := ⟨W.heap.size + 1, 0, none⟩) (by simp) _⟩
              · have HN : Hid (¬ pre ++ [(x1, x2)] <+: four) := hpf
                clear hpf hsi hpl
                gi_wp2
                exact ⟨KeepsOthers.setCell _ _ _, hps _, _, fun h => absurd h HN.out, bS.set _, hb.setCell (p := ⟨W.heap.size + 1, 0, none⟩) (by simp) _⟩
            case done =>
              rintro ys V hys ⟨s, hsi, bS, hb⟩
              have hy : ys = four := hys.trans tells_four
              subst hy
              have := hsi (List.prefix_refl _)
              subst this
              exact ⟨bS, hb⟩
            case stop => exact fun c pre V hp h => h.elim
            case next =>
              rintro D3 V hD3 ⟨bS, hb⟩ hK3
              have cS := bS.cell
              have bR3 : Boxed V (w.heap.size + 1) 4 (.bool false) := (hb.block _ bR.lt).trans bR
              have cR := bR3.cell
              have fR := bR3.frozen
              have hlt2 := (Array.getElem?_eq_some_iff.1 hK2).1
              have hlt1 := (Array.getElem?_eq_some_iff.1 hK1).1
              have hltR := bR.lt
              have hz3' := hb.size
              gi_wp2
              have hK3' := (KeepsOthers.setCell V ⟨w.heap.size + 1, 0, none⟩ (.bool true)).same D3 _ hK3 rfl
              have hK2' := (KeepsOthers.setCell V ⟨w.heap.size + 1, 0, none⟩ (.bool true)).same D2 _ ((hb.block D2 hlt2).trans hK2) rfl
              have hK1' := (KeepsOthers.setCell V ⟨w.heap.size + 1, 0, none⟩ (.bool true)).same D1 _ ((hb.block D1 hlt1).trans hK1) rfl
              have bT := bR3.set (.bool true)
              have hbV : Below w.heap.size w (V.setCell ⟨w.heap.size + 1, 0, none⟩ (.bool true)) := (hbW.trans (hb.mono hbW.size)).setCell (p := ⟨w.heap.size + 1, 0, none⟩) (by simp) _
              generalize V.setCell ⟨w.heap.size + 1, 0, none⟩ (.bool true) = V0 at *
              refine ⟨by simp, .inl ⟨_, _, rfl, run_takeDeferred hK3', ?_⟩⟩
              have g3 : Below W.heap.size V0 (V0.putObj D3 (.deferred none)) := belowK_b (w := w7) (by omega) V0 D3 _ _ hD3 hK3' rfl rfl
              replace hK2' := (g3.block D2 hlt2).trans hK2'
              replace hK1' := (g3.block D1 hlt1).trans hK1'
              replace bT : Boxed _ _ _ _ := (g3.block _ hltR).trans bT
              replace hbV := hbV.trans (g3.mono hbW.size)
              generalize V0.putObj D3 (.deferred none) = V1 at *
              refine ⟨by simp, .inl ⟨_, _, rfl, run_takeDeferred hK2', ?_⟩⟩
              have g2 : Below D2 V1 (V1.putObj D2 (.deferred none)) := put_below hK2'
              replace hK1' := (g2.block D1 hD12).trans hK1'
              replace bT : Boxed _ _ _ _ := (g2.block _ (by omega)).trans bT
              replace hbV := hbV.trans (g2.mono (by omega))
              generalize V1.putObj D2 (.deferred none) = V2 at *
              refine ⟨by simp, .inl ⟨_, _, rfl, run_takeDeferred hK1', ?_⟩⟩
              have g1 : Below D1 V2 (V2.putObj D1 (.deferred none)) := put_below hK1'
              replace bT : Boxed _ _ _ _ := (g1.block _ hRD).trans bT
              replace hbV := hbV.trans (g1.mono (by omega))
              have hc5 := bT.cell
              refine ⟨.bool true, ?_, rfl, hbV⟩
              simp [results, Try.f7, go_sem, hc5]

theorem numTells_walk (w : World) (a : Option Addr) (zs : List Int) (cap : Nat) (hs : Seg w a zs) (hcap : zs.length ≤ cap) (hnil : a = none → cap = 0) (hl : zs.length ≤ 1048576) (leave : Int) (hl0 : -9223372036854775808 ≤ leave) (hl1 : leave ≤ 9223372036854775807) :
    Calls Try.prog 7 #[.slice a zs.length cap, .int .i64 leave] w fun e w' => e = .returned (.bool true) ∧ Below w.heap.size w w' :=
  (callsIn_wide (n := 20)).1 (numTells_in w a zs cap hs hcap hnil hl leave hl0 hl1)
end Go.Proofs.Ytmpbaabmpcejdaa
