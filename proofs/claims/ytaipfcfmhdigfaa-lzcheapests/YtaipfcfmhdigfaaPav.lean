import Derived.Test.YtaipfcfmhdigfaaPau
import Derived.Laws.Rows
import Derived.Laws.ResultCell
namespace Go.Proofs.Ytaipfcfmhdigfaa
open Go.RowKit
set_option linter.unusedVariables false

/-! The landed lz: the cheapest first token of a place. -/
structure SegR (w : World) (a : Option Addr) (R : List (Nat × Nat)) : Prop where
  at_ : ∀ i, i < R.length → ∃ b off, a = some ⟨b, off, none⟩ ∧ w.cell? ⟨b, off + i * 2, none⟩ = some (.int .u16 ((R.getD i (0, 0)).1 : Int)) ∧ w.cell? ⟨b, off + i * 2 + 1, none⟩ = some (.int .u16 ((R.getD i (0, 0)).2 : Int))
theorem SegR.old {w w' : World} {a : Option Addr} {R : List (Nat × Nat)} (h : SegR w a R) (hb : Below w.heap.size w w') : SegR w' a R :=
  ⟨fun i hi => by
    obtain ⟨b, off, e, c1, c2⟩ := h.at_ i hi
    have hl := World.block_lt_of_cell? w _ c1
    exact ⟨b, off, e, (hb.cell (p := ⟨b, off + i * 2, none⟩) hl).trans c1, (hb.cell (p := ⟨b, off + i * 2 + 1, none⟩) hl).trans c2⟩⟩
/-- What is paid from the places behind on. -/
def CsAt (w : World) (D : List Int) (W : Nat) (c : Pr7) (p cg cof : Nat) : Prop := ∀ l, 1 ≤ l → p + l ≤ D.length → w.cell? ⟨cg, cof + l, none⟩ = some (.int .i64 (lea7 D W c (p + l)).1)
theorem CsAt.old {w w' : World} {D : List Int} {W : Nat} {c : Pr7} {p cg cof : Nat} (h : CsAt w D W c p cg cof) (hb : Below w.heap.size w w') : CsAt w' D W c p cg cof := fun l h1 h2 => by
  have c1 := h l h1 h2
  exact (hb.cell (p := ⟨cg, cof + l, none⟩) (World.block_lt_of_cell? w _ c1)).trans c1
structure RchAt (w : World) (b : Nat) (x y : Int) : Prop where
  hp : w.heap[b]? = some (.cells #[.int .u16 x, .int .u16 y] 88 (0, 0))
theorem RchAt.c0 {w : World} {b : Nat} {x y : Int} (h : RchAt w b x y) : w.cell? ⟨b, 0, none⟩ = some (.int .u16 x) := by have := h.hp; simp [World.cell?, this]
theorem RchAt.c1 {w : World} {b : Nat} {x y : Int} (h : RchAt w b x y) : w.cell? ⟨b, 1, none⟩ = some (.int .u16 y) := by have := h.hp; simp [World.cell?, this]
theorem RchAt.fr {w : World} {b : Nat} {x y : Int} (h : RchAt w b x y) (k : Nat) : w.frozen? ⟨b, k, none⟩ = false := by have := h.hp; simp [World.frozen?, this]
theorem RchAt.lt {w : World} {b : Nat} {x y : Int} (h : RchAt w b x y) : b < w.heap.size := (Array.getElem?_eq_some_iff.1 h.hp).1
theorem RchAt.of_block {w w' : World} {b : Nat} {x y : Int} (h : RchAt w b x y) (hb : w'.heap[b]? = w.heap[b]?) : RchAt w' b x y := ⟨hb.trans h.hp⟩
theorem RchAt.set0 {w : World} {b : Nat} {x y : Int} (h : RchAt w b x y) (u : Int) : RchAt (w.setCell ⟨b, 0, none⟩ (.int .u16 u)) b u y := by
  have := h.hp
  exact ⟨by simp [World.setCell, Array.getElem?_modify, this]⟩
theorem RchAt.set1 {w : World} {b : Nat} {x y : Int} (h : RchAt w b x y) (u : Int) : RchAt (w.setCell ⟨b, 1, none⟩ (.int .u16 u)) b x u := by
  have := h.hp
  exact ⟨by simp [World.setCell, Array.getElem?_modify, this]⟩
theorem rch_new (w : World) (x y : Int) : RchAt (w.alloc (.cells #[.int .u16 x, .int .u16 y] 88)) w.heap.size x y := ⟨heap_alloc_new w _⟩
/-- How far the search for the cheapest token is. -/
structure ChT7 (D : List Int) (W : Nat) (c : Pr7) (p j : Nat) (w wr : World) (bb : Nat) (least bl bd : Int) : Prop where
  eq : ∃ z, lea7 D W c p = chg7 D W c p (tab7 D W c (D.length - (p + 1))) j (least, ⟨z, bl, bd⟩)
  best : RchAt wr bb bl bd
  lo : 0 ≤ least
  hi : least ≤ 2199023255552
  b1 : 0 ≤ bl ∧ bl ≤ 65535
  b2 : 0 ≤ bd ∧ bd ≤ 65535
  bel : Below w.heap.size w wr
  old : w.heap.size ≤ bb
theorem chi_keep {D : List Int} {W : Nat} {c : Pr7} {p l d : Nat} {w wr wr' : World} {bb : Nat} {least bl bd : Int} (h : ChT7 D W c p (l - 2) w wr bb least bl bd) (hp : p < D.length) (h3 : 3 ≤ l) (hl : p + l ≤ D.length) (hd : nst7 D p l W = d) (hd1 : 1 ≤ d) (hc : ¬ mc7 c d + (lea7 D W c (p + l)).1 < least) (hb : Below w.heap.size w wr') (hr : RchAt wr' bb bl bd) : ChT7 D W c p (l - 1 - 2) w wr' bb least bl bd := by
  obtain ⟨z, e⟩ := h.eq
  rw [chg7_one hp h3 hl hd hd1, if_neg hc] at e
  exact ⟨⟨z, e⟩, hr, h.lo, h.hi, h.b1, h.b2, hb, h.old⟩
theorem chi_take {D : List Int} {W : Nat} {c : Pr7} {p l d : Nat} {w wr wr' : World} {bb : Nat} {least bl bd cost : Int} (h : ChT7 D W c p (l - 2) w wr bb least bl bd) (hp : p < D.length) (h3 : 3 ≤ l) (h258 : l ≤ 258) (hl : p + l ≤ D.length) (hd : nst7 D p l W = d) (hd1 : 1 ≤ d) (hd2 : d ≤ 32768) (hco : cost = mc7 c d + (lea7 D W c (p + l)).1) (hc : cost < least) (hc0 : 0 ≤ cost) (hb : Below w.heap.size w wr') (hr : RchAt wr' bb (l : Int) (d : Int)) : ChT7 D W c p (l - 1 - 2) w wr' bb cost (l : Int) (d : Int) := by
  obtain ⟨z, e⟩ := h.eq
  rw [chg7_one hp h3 hl hd hd1, if_pos (show mc7 c d + (lea7 D W c (p + l)).1 < least by rw [← hco]; exact hc)] at e
  exact ⟨⟨0, by rw [hco]; exact e⟩, hr, hc0, by have := h.hi; omega, by omega, by omega, hb, h.old⟩
theorem mul_bdt {f b : Int} (h1 : 0 ≤ f) (h2 : f ≤ 1048576) (h3 : 0 ≤ b) (h4 : b ≤ 16) : 0 ≤ f * b ∧ f * b ≤ 16777216 := by
  refine ⟨Int.mul_nonneg h1 h3, ?_⟩
  have := Int.mul_le_mul h2 h4 h3 (by omega)
  omega
theorem lea7_bdt {D : List Int} {W : Nat} {c : Pr7} (hc : ¬ badP c) (hl : D.length ≤ 1048576) {q : Nat} (hq : q ≤ D.length) : 0 ≤ (lea7 D W c q).1 ∧ (lea7 D W c q).1 ≤ 1099511627776 := by
  have hg : 0 ≤ c.lit ∧ c.lit ≤ 1048576 ∧ 0 ≤ c.mat ∧ 0 ≤ c.far := by unfold badP at hc; omega
  refine ⟨lea7_nonneg hg.1 hg.2.2.1 hg.2.2.2 (D.length - q) q hq (by omega), ?_⟩
  have h1 := lea7_le D W c hg.2.2.2 q hq
  have h2 : c.lit * ((D.length - q : Nat) : Int) ≤ 1048576 * 1048576 := Int.mul_le_mul hg.2.1 (by omega) (by omega) (by omega)
  omega
def cellT (w : World) (b : Nat) : Nat := (intOf ((w.cell? ⟨b, 0, none⟩).getD (.int .i64 0))).toNat
theorem cellT_of {w : World} {b : Nat} {k : IntKind} {n : Int} (h : w.cell? ⟨b, 0, none⟩ = some (.int k n)) : cellT w b = n.toNat := by unfold cellT; rw [h]; rfl
theorem results_ct7 {P : Program} {fn : Func} {p u : Tmp} {ty : TypeId} (h : fn.results = #[.cell p ty, .tmp u]) (tmps : Array Value) (w : World) (g : Nat) (t : TypeId) (cs : Array Value) (fr : Nat × Nat) (d : TypeDesc)
    (hp : tmps.getD p undef = .pointer (some ⟨g, 0, none⟩)) (hg : w.heap[g]? = some (.cells cs t fr))
    (hu : P.underlying ty = some d) (hd : (match d with | .struct _ | .array _ _ => true | _ => false) = true) (hi : (P.info? ty).map (·.size) = some cs.size) :
    (results fn tmps).run P w = .ok (.tuple #[.agg cs, tmps.getD u undef]) w := by
  rw [results_cell_tmp h, hp]
  simp [asAddr, Result.andThen, run_loadVar_row w g t ty cs fr d hg hu hd hi]
set_option maxRecDepth 100000 in
set_option maxHeartbeats 8000000 in
theorem pchp7 (D : List Int) (W : Nat) (c : Pr7) (p n : Nat) (hn : Hid (D.length = n)) (hc : ¬ badP c) (hp : p < n) (hl : n ≤ 1048576) (hW : W ≤ 32768) (ma : Option Addr) (mn mc cg cof cn cc : Nat) (w : World) (hm : SegR w ma (rec7 D p W)) (hmn : Hid ((rec7 D p W).length = mn)) (hcs : CsAt w D W c p cg cof) (hcn : cn = n - p + 1) :
    Calls Try.prog 49 #[.slice ma mn mc, .slice (some ⟨cg, cof, none⟩) cn cc, price7 c] w fun e w' => e = .returned (.tuple #[.agg #[.int .u16 (lea7 D W c p).2.len, .int .u16 (lea7 D W c p).2.dist], .int .i64 (lea7 D W c p).1]) ∧ Below w.heap.size w w' := by
  have hpD : p < D.length := by rw [hn.out]; exact hp
  have hg : 0 ≤ c.lit ∧ c.lit ≤ 1048576 ∧ 0 ≤ c.mat ∧ c.mat ≤ 1048576 ∧ 0 ≤ c.far ∧ c.far ≤ 1048576 := by unfold badP at hc; omega
  have HLB : Hid (∀ q, q ≤ n → 0 ≤ (lea7 D W c q).1 ∧ (lea7 D W c q).1 ≤ 1099511627776) := fun q hq => lea7_bdt hc (by rw [hn.out]; exact hl) (by rw [hn.out]; exact hq)
  have c1 := hcs 1 (by omega) (by omega)
  have hb1 := HLB.out (p + 1) (by omega)
  have hst := lea7_step D W c p hpD
  rw [lit7_eq D W c p hpD, chg7_start] at hst
  have HST : Hid (lea7 D W c p = chg7 D W c p (tab7 D W c (D.length - (p + 1))) (nl7 (rec7 D p W) (rec7 D p W).length - 2) (c.lit + (lea7 D W c (p + 1)).1, ⟨D.getD p 0, 0, 0⟩)) := hst
  have HCS : Hid (CsAt w D W c p cg cof) := hcs
  have HM : Hid (SegR w ma (rec7 D p W)) := hm
  have hcg := World.block_lt_of_cell? w _ c1
  have hmnb : mn ≤ 256 := by have := rec7_len D p W; rw [hmn.out] at this; exact this
  rw [hmn.out] at HST
  generalize (lea7 D W c (p + 1)).1 = v1 at *
  obtain ⟨lt, mt, fr⟩ := c
  unfold price7
  simp only at hg ⊢
  obtain ⟨wA, hwA⟩ : ∃ wA, wA = w.alloc (.cells #[.int .i64 lt, .int .i64 mt, .int .i64 fr] 67) := ⟨_, rfl⟩
  have bA : Below w.heap.size w wA := by rw [hwA]; exact below_box _ _
  have hA : wA.heap[w.heap.size]? = some (.cells #[.int .i64 lt, .int .i64 mt, .int .i64 fr] 67 (0, 0)) := by rw [hwA]; exact heap_alloc_new w _
  obtain ⟨wB, hwB⟩ : ∃ wB, wB = wA.alloc (.cells #[.int .u16 0, .int .u16 0] 88) := ⟨_, rfl⟩
  have bB : Below wA.heap.size wA wB := by rw [hwB]; exact below_box _ _
  have hRB : RchAt wB wA.heap.size 0 0 := by rw [hwB]; exact rch_new wA 0 0
  have HWA : Hid (wA = w.alloc (.cells #[.int .i64 lt, .int .i64 mt, .int .i64 fr] 67)) := hwA
  have HWB : Hid (wB = wA.alloc (.cells #[.int .u16 0, .int .u16 0] 88)) := hwB
  obtain ⟨pb, hpb⟩ : ∃ pb, pb = w.heap.size := ⟨_, rfl⟩
  obtain ⟨rb, hrb⟩ : ∃ rb, rb = wA.heap.size := ⟨_, rfl⟩
  have HPB : Hid (pb = w.heap.size) := hpb
  have HRB : Hid (w.heap.size + 1 = rb) := by show _ = _; rw [hrb, hwA]; simp
  rw [← hpb] at hA
  rw [← hrb] at hRB
  have hplt : pb < wA.heap.size := (Array.getElem?_eq_some_iff.1 hA).1
  have hBp : wB.heap[pb]? = some (.cells #[.int .i64 lt, .int .i64 mt, .int .i64 fr] 67 (0, 0)) := (bB.block pb hplt).trans hA
  have p0 : wB.cell? ⟨pb, 0, none⟩ = some (.int .i64 lt) := three_cell0 hBp
  have HP : Hid (wB.heap[pb]? = some (.cells #[.int .i64 lt, .int .i64 mt, .int .i64 fr] 67 (0, 0))) := hBp
  have BB : Below w.heap.size w wB := bA.trans (bB.mono bA.size)
  have c1B := (BB.cell (p := ⟨cg, cof + 1, none⟩) hcg).trans c1
  have hpB : pb < wB.heap.size := Nat.lt_of_lt_of_le hplt bB.size
  have hcB : cg < wB.heap.size := Nat.lt_of_lt_of_le hcg BB.size
  have HRR : Hid (RchAt wB rb 0 0) := hRB
  have hwv : IntKind.i64.wrap (lt + v1) = lt + v1 := IntWalk.i64_in _ (by omega)
  have hc1n : (1 : Int) < (cn : Int) := by omega
  have hwm : IntKind.i64.wrap ((mn : Int) - 1) = (mn : Int) - 1 := IntWalk.i64_in _ (by omega)
  have HCN : Hid (cn = n - p + 1) := hcn
  clear hwA hwB hst hcs hm c1 hA hRB hBp hpb hrb hcn
  go_enter Try.func49, Try.ntmps49
  go_wp2_with fail
  rw [← HWA.out, HRB.out, ← HWB.out, ← HPB.out]
  go_region
  have hRC : RchAt ((wB.alloc (.cells #[.int .u16 0, .int .u16 0] 88)).drew) wB.heap.size 0 0 := ⟨heap_alloc_new wB _⟩
  have bC : Below wB.heap.size wB ((wB.alloc (.cells #[.int .u16 0, .int .u16 0] 88)).drew) := by
    have b1 : Below wB.heap.size wB (wB.alloc (.cells #[.int .u16 0, .int .u16 0] 88)) := below_box _ _
    exact ⟨b1.os, b1.tape, b1.output, b1.size, b1.block⟩
  generalize (wB.alloc (.cells #[.int .u16 0, .int .u16 0] 88)).drew = wC at *
  obtain ⟨bb, hbb⟩ : ∃ bb, bb = wB.heap.size := ⟨_, rfl⟩
  have hbbI : wB.heap.size ≤ bb := by omega
  have HCI : Hid (ChT7 D W ⟨lt, mt, fr⟩ p (nl7 (rec7 D p W) mn - 2) w wC bb (lt + v1) 0 0) := by
    rw [← hbb] at hRC
    exact ⟨⟨_, HST.out⟩, hRC, by omega, by omega, by omega, by omega, BB.trans (bC.mono BB.size), Nat.le_trans BB.size hbbI⟩
  have HPC : Hid (wC.heap[pb]? = some (.cells #[.int .i64 lt, .int .i64 mt, .int .i64 fr] 67 (0, 0))) := (bC.block pb hpB).trans HP.out
  have hrbl : rb < wB.heap.size := HRR.out.lt
  have HRC : Hid (RchAt wC rb 0 0) := HRR.out.of_block (bC.block rb hrbl)
  have hne1 : bb ≠ pb := by omega
  have hne2 : bb ≠ rb := by omega
  rw [← hbb]
  clear HST HP HRR hRC c1B p0 hbb
  go_wp2_with fail
  go_loopw [9, 10] (fun t9 t10 wr => ∃ (k : Nat) (least bl bd : Int), k ≤ mn ∧ t9 = .int .i64 least ∧ t10 = .int .i64 ((k : Int) - 1) ∧ ChT7 D W ⟨lt, mt, fr⟩ p (nl7 (rec7 D p W) k - 2) w wr bb least bl bd ∧ Hid (wr.heap[pb]? = some (.cells #[.int .i64 lt, .int .i64 mt, .int .i64 fr] 67 (0, 0))) ∧ Hid (RchAt wr rb 0 0)) (fun _ t10 _ => (intOf t10 + 1).toNat)
  case atStart => exact ⟨mn, lt + v1, 0, 0, by omega, rfl, rfl, HCI.out, HPC, HRC⟩
  case round =>
    clear HCI HPC HRC
    obtain ⟨k, least, bl, bd, hk, rfl, rfl, hI, HPr, HRr⟩ := hrel
    by_cases hk0 : k = 0
    · subst hk0
      obtain ⟨z, hz⟩ := hI.eq
      have HE : Hid (lea7 D W ⟨lt, mt, fr⟩ p = (least, ⟨z, bl, bd⟩)) := hz
      have e0 := hI.best.c0
      have e1 := hI.best.c1
      have hr0 := HRr.out.c0
      have hr1 := HRr.out.c1
      have hrf := HRr.out.fr
      have HFIN : Hid (RchAt ((wr.setCell ⟨rb, 0, none⟩ (.int .u16 bl)).setCell ⟨rb, 1, none⟩ (.int .u16 bd)) rb bl bd ∧ Below w.heap.size w ((wr.setCell ⟨rb, 0, none⟩ (.int .u16 bl)).setCell ⟨rb, 1, none⟩ (.int .u16 bd))) := by
        have hwr : w.heap.size ≤ rb := by have := HRB.out; omega
        exact ⟨(HRr.out.set0 bl).set1 bd, (hI.bel.setCell (p := ⟨rb, 0, none⟩) hwr _).setCell (p := ⟨rb, 1, none⟩) hwr _⟩
      clear hI hz
      go_wp2_with fail
      refine bodyPost_ret (v := .tuple #[.agg #[.int .u16 bl, .int .u16 bd], .int .i64 least]) (results_ct7 (fn := Try.f49) (p := 6) (u := 7) (ty := 88) rfl _ _ rb _ _ _ _ rfl HFIN.out.1.hp Try.underlying88 rfl (by kernel_rfl)) rfl ?_
      exact ⟨by rw [HE.out], HFIN.out.2⟩
    · obtain ⟨j, hj⟩ : ∃ j, k = j + 1 := ⟨k - 1, by omega⟩
      have hjm : j < (rec7 D p W).length := by rw [hmn.out]; omega
      have hrcb := (rec7_rc D p W).bd _ (rc7_mem hjm)
      have hlimj := al7_fits (D := D) (q := p - ((rec7 D p W).getD j (0, 0)).2) (p := p) (by omega)
      rw [hn.out] at hlimj
      have HAT : Hid (∀ l, nl7 (rec7 D p W) j < l → l ≤ ((rec7 D p W).getD j (0, 0)).1 → 3 ≤ l ∧ nst7 D p l W = ((rec7 D p W).getD j (0, 0)).2) := fun l h1 h2 => rec7_at hjm h1 h2
      have hnlb := nl7_bd D p W j (by omega)
      have hnlk : nl7 (rec7 D p W) (j + 1) = ((rec7 D p W).getD j (0, 0)).1 := by unfold nl7; rw [if_neg (by omega)]; rfl
      have hnle : nl7 (rec7 D p W) j ≤ ((rec7 D p W).getD j (0, 0)).1 := by
        unfold nl7
        split
        · omega
        · exact Nat.le_of_lt (rc7_inc (rec7_rc D p W).inc (show j - 1 < j by omega) hjm)
      obtain ⟨mab, mao, hma, s0, s1⟩ := (HM.out.old hI.bel).at_ j hjm
      have hprev : 0 < j → wr.cell? ⟨mab, mao + (j - 1) * 2, none⟩ = some (.int .u16 (nl7 (rec7 D p W) j : Int)) := fun h0 => by
        obtain ⟨b', o', e', q0, q1⟩ := (HM.out.old hI.bel).at_ (j - 1) (by omega)
        rw [hma] at e'
        cases e'
        unfold nl7
        rw [if_neg (by omega)]
        exact q0
      have hjk : ((k : Int) - 1) = (j : Int) := by omega
      have hkge : (0 : Int) ≤ (k : Int) - 1 := by omega
      have hjmn : (j : Int) < (mn : Int) := by omega
      subst hma
      rw [hj, hnlk] at hI
      generalize ((rec7 D p W).getD j (0, 0)).1 = nj at *
      generalize ((rec7 D p W).getD j (0, 0)).2 = dj at *
      have hbits := bits7_le 16 dj (by omega)
      have hmb := mul_bdt (f := fr) (b := (bits7 dj : Int)) (by omega) (by omega) (by omega) (by omega)
      obtain ⟨price, hprice⟩ : ∃ price, price = mc7 ⟨lt, mt, fr⟩ dj := ⟨_, rfl⟩
      have HPRI : Hid (price = mc7 ⟨lt, mt, fr⟩ dj) := hprice
      have hpe : price = mt + fr * (bits7 dj : Int) := hprice
      have hwm1 : IntKind.i64.wrap (fr * (bits7 dj : Int)) = fr * (bits7 dj : Int) := IntWalk.i64_in _ (by omega)
      have hwm2 : IntKind.i64.wrap (mt + fr * (bits7 dj : Int)) = price := by rw [IntWalk.i64_in _ (by omega), hpe]
      have hpb9 : 0 ≤ price ∧ price ≤ 17825792 := by omega
      have CLn : Hid (∀ W1, Calls Try.prog 53 #[.int .u16 (dj : Int)] W1 fun e w' => e = .returned (.int .i64 (bits7 dj : Int)) ∧ w' = W1) := fun W1 => plen16 dj W1 (by omega)
      obtain ⟨nlj, hnlj⟩ : ∃ nlj, nlj = nl7 (rec7 D p W) j := ⟨_, rfl⟩
      have HNL : Hid (nlj = nl7 (rec7 D p W) j) := hnlj
      rw [← hnlj] at hprev
      have HJ : Hid (k = j + 1) := hj
      have HI8 : Hid (ChT7 D W ⟨lt, mt, fr⟩ p (nj - 2) w wr bb least bl bd) := hI
      have bM : Below wr.heap.size wr (wr.alloc (.cells #[.int .u16 (nj : Int), .int .u16 (dj : Int)] 88)) := below_box _ _
      have hMB := rch_new wr (nj : Int) (dj : Int)
      obtain ⟨wM, hwM⟩ : ∃ wM, wM = wr.alloc (.cells #[.int .u16 (nj : Int), .int .u16 (dj : Int)] 88) := ⟨_, rfl⟩
      obtain ⟨mb, hmbe⟩ : ∃ mb, mb = wr.heap.size := ⟨_, rfl⟩
      rw [← hwM, ← hmbe] at hMB
      rw [← hwM] at bM
      have HWM : Hid (wM = wr.alloc (.cells #[.int .u16 (nj : Int), .int .u16 (dj : Int)] 88)) := hwM
      have HMBE : Hid (mb = wr.heap.size) := hmbe
      have hbl9 := hI.best.lt
      have hpl9 : pb < wr.heap.size := (Array.getElem?_eq_some_iff.1 HPr.out).1
      have hrl9 := HRr.out.lt
      have hmo : w.heap.size ≤ mb := by rw [hmbe]; exact hI.bel.size
      have hbm : bb ≠ mb := by omega
      have hmp : pb ≠ mb := by omega
      have hmr : rb ≠ mb := by omega
      have HPM : Hid (wM.heap[pb]? = some (.cells #[.int .i64 lt, .int .i64 mt, .int .i64 fr] 67 (0, 0))) := (bM.block pb hpl9).trans HPr.out
      have HRM : Hid (RchAt wM rb 0 0) := HRr.out.of_block (bM.block rb hrl9)
      have HIM : Hid (ChT7 D W ⟨lt, mt, fr⟩ p (nj - 2) w wM bb least bl bd) := ⟨hI.eq, hI.best.of_block (bM.block bb hbl9), hI.lo, hI.hi, hI.b1, hI.b2, hI.bel.trans (bM.mono hI.bel.size), hI.old⟩
      have HMM9 : Hid (RchAt wM mb (nj : Int) (dj : Int)) := hMB
      have g1 : wM.cell? ⟨pb, 1, none⟩ = some (.int .i64 mt) := three_cell1 HPM.out
      have g2 : wM.cell? ⟨pb, 2, none⟩ = some (.int .i64 fr) := three_cell2 HPM.out
      have g3 := hMB.c1
      have hmal : mab < wr.heap.size := World.block_lt_of_cell? wr _ s0
      have hprM : 0 < j → wM.cell? ⟨mab, mao + (j - 1) * 2, none⟩ = some (.int .u16 (nlj : Int)) := fun h0 => (bM.cell (p := ⟨mab, mao + (j - 1) * 2, none⟩) hmal).trans (hprev h0)
      have HI9 : Hid (ChT7 D W ⟨lt, mt, fr⟩ p (nj - 2) w wM.drew bb least bl bd) := ⟨HIM.out.eq, ⟨HIM.out.best.hp⟩, HIM.out.lo, HIM.out.hi, HIM.out.b1, HIM.out.b2, HIM.out.bel.drew, HIM.out.old⟩
      have HMB : Hid (RchAt wM.drew mb (nj : Int) (dj : Int)) := ⟨HMM9.out.hp⟩
      have HPr9 : Hid (wM.drew.heap[pb]? = some (.cells #[.int .i64 lt, .int .i64 mt, .int .i64 fr] 67 (0, 0))) := HPM.out
      have HRr9 : Hid (RchAt wM.drew rb 0 0) := ⟨HRM.out.hp⟩
      have HJ0 : Hid (j = 0 → nlj = 2) := fun h => by rw [hnlj, h]; rfl
      clear hI hwM hmbe hMB hprice hpe hj hnlj
      rw [hjk]
      by_cases hj0 : 0 < j
      · have hj0i : (0 : Int) < (j : Int) := by omega
        have hpc := hprev hj0
        have hwj : IntKind.i64.wrap ((j : Int) - 1) = ((j - 1 : Nat) : Int) := by rw [IntWalk.i64_in _ (by omega)]; omega
        obtain ⟨j1, hj1⟩ : ∃ j1, j1 = j - 1 := ⟨_, rfl⟩
        rw [← hj1] at hwj hpc
        have hj1i : (j : Int) - 1 = (j1 : Int) := by omega
        have hj1m : (j1 : Int) < (mn : Int) := by omega
        clear hprM hprev hj1
        go_wp2_with fail
        rw [← HWM.out, ← HMBE.out]
        go_region_held3 (fun w' => w'.cell? ⟨pb, 1, none⟩ = some (.int .i64 mt) ∧ w'.cell? ⟨pb, 2, none⟩ = some (.int .i64 fr) ∧ w'.cell? ⟨mb, 1, none⟩ = some (.int .u16 (dj : Int))) (first | go_keep | assumption)
          (first | (go_at_call 53; refine (CLn.out _).mono ?_; rintro e w9 ⟨rfl, hw9⟩; subst hw9))
        clear g1 g2 g3 s0 s1 hpc CLn HI8 HIM HMM9 HPM HRM HPr HRr
        go_wp2
        go_loopw [9] (fun t9 wr => ∃ (l : Nat) (least bl bd : Int), nl7 (rec7 D p W) j ≤ l ∧ l ≤ nj ∧ t9 = .int .i64 least ∧ ChT7 D W ⟨lt, mt, fr⟩ p (l - 2) w wr bb least bl bd ∧ RchAt wr mb (l : Int) (dj : Int) ∧ Hid (wr.heap[pb]? = some (.cells #[.int .i64 lt, .int .i64 mt, .int .i64 fr] 67 (0, 0))) ∧ Hid (RchAt wr rb 0 0)) (fun _ wr => cellT wr mb)
        case atStart => exact ⟨nj, least, bl, bd, by omega, by omega, rfl, HI9.out, HMB.out, HPr9, HRr9⟩
        case round =>
          clear HI9 HMB HPr9 HRr9
          obtain ⟨l, least, bl, bd, hl1, hl2, rfl, hI, hM, HPr, HRr⟩ := hrel
          have m0 := hM.c0
          have m1 := hM.c1
          have mf := hM.fr
          have HME : Hid (cellT wr mb = l) := by show _ = _; rw [cellT_of m0]; simp
          by_cases hsh : nl7 (rec7 D p W) j < l
          · obtain ⟨h3, hnst⟩ := HAT.out l hsh hl2
            have hshi : (nlj : Int) < (l : Int) := by have := HNL.out; omega
            have hshn : nlj < l := by omega
            have hcl := (HCS.out.old hI.bel) l (by omega) (by rw [hn.out]; omega)
            have hlb := HLB.out (p + l) (by omega)
            have hln : (l : Int) < (cn : Int) := by have := HCN.out; omega
            obtain ⟨cost, hcost⟩ : ∃ cost, cost = mc7 ⟨lt, mt, fr⟩ dj + (lea7 D W ⟨lt, mt, fr⟩ (p + l)).1 := ⟨_, rfl⟩
            have hpr : price = mc7 ⟨lt, mt, fr⟩ dj := HPRI.out
            have HCO : Hid (cost = mc7 ⟨lt, mt, fr⟩ dj + (lea7 D W ⟨lt, mt, fr⟩ (p + l)).1) := hcost
            obtain ⟨vl, hvl⟩ : ∃ vl, vl = (lea7 D W ⟨lt, mt, fr⟩ (p + l)).1 := ⟨_, rfl⟩
            rw [← hvl] at hcl hlb hcost
            clear hvl
            rw [← hpr] at hcost
            have hwc : IntKind.i64.wrap (price + vl) = cost := by rw [IntWalk.i64_in _ (by omega)]; omega
            have hci : price + vl = cost := by omega
            have hc0 : 0 ≤ cost := by omega
            have hwl : IntKind.u16.wrap ((l : Int) - 1) = ((l - 1 : Nat) : Int) := by rw [IntKind.wrap_u16]; omega
            obtain ⟨l1, hl1e⟩ : ∃ l1, l1 = l - 1 := ⟨_, rfl⟩
            rw [← hl1e] at hwl
            have e0 := hI.best.c0
            have e1 := hI.best.c1
            have ef := hI.best.fr
            have hold := hI.old
            have HI : Hid (ChT7 D W ⟨lt, mt, fr⟩ p (l - 2) w wr bb least bl bd) := hI
            have HMM : Hid (RchAt wr mb (l : Int) (dj : Int)) := hM
            have h1l : nl7 (rec7 D p W) j ≤ l1 ∧ l1 ≤ nj := by omega
            have hll : l1 < l := by omega
            by_cases hlt : cost < least
            · have HZ : Hid (ChT7 D W ⟨lt, mt, fr⟩ p (l1 - 2) w (((wr.setCell ⟨bb, 0, none⟩ (.int .u16 (l : Int))).setCell ⟨bb, 1, none⟩ (.int .u16 (dj : Int))).setCell ⟨mb, 0, none⟩ (.int .u16 (l1 : Int))) bb cost (l : Int) (dj : Int) ∧ RchAt (((wr.setCell ⟨bb, 0, none⟩ (.int .u16 (l : Int))).setCell ⟨bb, 1, none⟩ (.int .u16 (dj : Int))).setCell ⟨mb, 0, none⟩ (.int .u16 (l1 : Int))) mb (l1 : Int) (dj : Int) ∧ (((wr.setCell ⟨bb, 0, none⟩ (.int .u16 (l : Int))).setCell ⟨bb, 1, none⟩ (.int .u16 (dj : Int))).setCell ⟨mb, 0, none⟩ (.int .u16 (l1 : Int))).heap[pb]? = wr.heap[pb]? ∧ (((wr.setCell ⟨bb, 0, none⟩ (.int .u16 (l : Int))).setCell ⟨bb, 1, none⟩ (.int .u16 (dj : Int))).setCell ⟨mb, 0, none⟩ (.int .u16 (l1 : Int))).heap[rb]? = wr.heap[rb]?) := by
                have r1 := (HI.out.best.set0 (l : Int)).set1 (dj : Int)
                have r2 : RchAt (((wr.setCell ⟨bb, 0, none⟩ (.int .u16 (l : Int))).setCell ⟨bb, 1, none⟩ (.int .u16 (dj : Int))).setCell ⟨mb, 0, none⟩ (.int .u16 (l1 : Int))) bb (l : Int) (dj : Int) := r1.of_block (Below.heap_setCell _ _ _ _ hbm)
                have bz : Below w.heap.size w (((wr.setCell ⟨bb, 0, none⟩ (.int .u16 (l : Int))).setCell ⟨bb, 1, none⟩ (.int .u16 (dj : Int))).setCell ⟨mb, 0, none⟩ (.int .u16 (l1 : Int))) := ((HI.out.bel.setCell (p := ⟨bb, 0, none⟩) hold _).setCell (p := ⟨bb, 1, none⟩) hold _).setCell (p := ⟨mb, 0, none⟩) hmo _
                have r3 : RchAt ((wr.setCell ⟨bb, 0, none⟩ (.int .u16 (l : Int))).setCell ⟨bb, 1, none⟩ (.int .u16 (dj : Int))) mb (l : Int) (dj : Int) := HMM.out.of_block ((Below.heap_setCell _ _ _ _ (Ne.symm hbm)).trans (Below.heap_setCell _ _ _ _ (Ne.symm hbm)))
                refine ⟨by rw [hl1e]; exact chi_take HI.out hpD h3 (by omega) (by rw [hn.out]; omega) hnst (by omega) (by omega) HCO.out hlt hc0 (by rw [← hl1e]; exact bz) (by rw [← hl1e]; exact r2), r3.set0 _, ?_, ?_⟩
                · exact (Below.heap_setCell _ _ _ _ hmp).trans ((Below.heap_setCell _ _ _ _ (Ne.symm hne1)).trans (Below.heap_setCell _ _ _ _ (Ne.symm hne1)))
                · exact (Below.heap_setCell _ _ _ _ hmr).trans ((Below.heap_setCell _ _ _ _ (Ne.symm hne2)).trans (Below.heap_setCell _ _ _ _ (Ne.symm hne2)))
              clear hI hM hcost hpr hl1e
              go_wp2_with fail
              go_roundw
              case rel => exact ⟨l1, cost, (l : Int), (dj : Int), h1l.1, h1l.2, rfl, HZ.out.1, HZ.out.2.1, HZ.out.2.2.1.trans HPr.out, HRr.out.of_block HZ.out.2.2.2⟩
              case measure => rw [HME.out, cellT_of HZ.out.2.1.c0]; simp; omega
            · have HZ : Hid (ChT7 D W ⟨lt, mt, fr⟩ p (l1 - 2) w (wr.setCell ⟨mb, 0, none⟩ (.int .u16 (l1 : Int))) bb least bl bd ∧ RchAt (wr.setCell ⟨mb, 0, none⟩ (.int .u16 (l1 : Int))) mb (l1 : Int) (dj : Int) ∧ (wr.setCell ⟨mb, 0, none⟩ (.int .u16 (l1 : Int))).heap[pb]? = wr.heap[pb]? ∧ (wr.setCell ⟨mb, 0, none⟩ (.int .u16 (l1 : Int))).heap[rb]? = wr.heap[rb]?) := by
                refine ⟨by rw [hl1e]; exact chi_keep HI.out hpD h3 (by rw [hn.out]; omega) hnst (by omega) (by rw [← HCO.out]; exact hlt) (HI.out.bel.setCell (p := ⟨mb, 0, none⟩) hmo _) (HI.out.best.of_block (Below.heap_setCell _ _ _ _ hbm)), HMM.out.set0 _, Below.heap_setCell _ _ _ _ hmp, Below.heap_setCell _ _ _ _ hmr⟩
              clear hI hM hcost hpr hl1e
              go_wp2_with fail
              go_roundw
              case rel => exact ⟨l1, least, bl, bd, h1l.1, h1l.2, rfl, HZ.out.1, HZ.out.2.1, HZ.out.2.2.1.trans HPr.out, HRr.out.of_block HZ.out.2.2.2⟩
              case measure => rw [HME.out, cellT_of HZ.out.2.1.c0]; simp; omega
          · have HL : Hid (l = nl7 (rec7 D p W) j) := by show _ = _; omega
            have hshi : ¬ (nlj : Int) < (l : Int) := by have := HNL.out; omega
            have hshn : ¬ nlj < l := by have := HNL.out; omega
            have HI : Hid (ChT7 D W ⟨lt, mt, fr⟩ p (nl7 (rec7 D p W) j - 2) w wr bb least bl bd) := by rw [← HL.out]; exact hI
            clear hI hM
            go_wp2_with fail
            go_roundw
            case rel => exact ⟨j, least, bl, bd, by omega, rfl, by first | rfl | (have := HJ.out; congr 1; omega), HI.out, HPr, HRr⟩
            case measure => simp [intOf] <;> omega
      · have hj0i : ¬ (0 : Int) < (j : Int) := by omega
        obtain rfl : nlj = 2 := HJ0.out (by omega)
        clear hprM hprev
        go_wp2_with fail
        rw [← HWM.out, ← HMBE.out]
        go_region_held3 (fun w' => w'.cell? ⟨pb, 1, none⟩ = some (.int .i64 mt) ∧ w'.cell? ⟨pb, 2, none⟩ = some (.int .i64 fr) ∧ w'.cell? ⟨mb, 1, none⟩ = some (.int .u16 (dj : Int))) (first | go_keep | assumption)
          (first | (go_at_call 53; refine (CLn.out _).mono ?_; rintro e w9 ⟨rfl, hw9⟩; subst hw9))
        clear g1 g2 g3 s0 s1 CLn HI8 HIM HMM9 HPM HRM HPr HRr
        go_wp2
        go_loopw [9] (fun t9 wr => ∃ (l : Nat) (least bl bd : Int), nl7 (rec7 D p W) j ≤ l ∧ l ≤ nj ∧ t9 = .int .i64 least ∧ ChT7 D W ⟨lt, mt, fr⟩ p (l - 2) w wr bb least bl bd ∧ RchAt wr mb (l : Int) (dj : Int) ∧ Hid (wr.heap[pb]? = some (.cells #[.int .i64 lt, .int .i64 mt, .int .i64 fr] 67 (0, 0))) ∧ Hid (RchAt wr rb 0 0)) (fun _ wr => cellT wr mb)
        case atStart => exact ⟨nj, least, bl, bd, by omega, by omega, rfl, HI9.out, HMB.out, HPr9, HRr9⟩
        case round =>
          clear HI9 HMB HPr9 HRr9
          obtain ⟨l, least, bl, bd, hl1, hl2, rfl, hI, hM, HPr, HRr⟩ := hrel
          have m0 := hM.c0
          have m1 := hM.c1
          have mf := hM.fr
          have HME : Hid (cellT wr mb = l) := by show _ = _; rw [cellT_of m0]; simp
          by_cases hsh : nl7 (rec7 D p W) j < l
          · obtain ⟨h3, hnst⟩ := HAT.out l hsh hl2
            have hshi : (2 : Int) < (l : Int) := by have := HNL.out; omega
            have hshn : 2 < l := by omega
            have hcl := (HCS.out.old hI.bel) l (by omega) (by rw [hn.out]; omega)
            have hlb := HLB.out (p + l) (by omega)
            have hln : (l : Int) < (cn : Int) := by have := HCN.out; omega
            obtain ⟨cost, hcost⟩ : ∃ cost, cost = mc7 ⟨lt, mt, fr⟩ dj + (lea7 D W ⟨lt, mt, fr⟩ (p + l)).1 := ⟨_, rfl⟩
            have hpr : price = mc7 ⟨lt, mt, fr⟩ dj := HPRI.out
            have HCO : Hid (cost = mc7 ⟨lt, mt, fr⟩ dj + (lea7 D W ⟨lt, mt, fr⟩ (p + l)).1) := hcost
            obtain ⟨vl, hvl⟩ : ∃ vl, vl = (lea7 D W ⟨lt, mt, fr⟩ (p + l)).1 := ⟨_, rfl⟩
            rw [← hvl] at hcl hlb hcost
            clear hvl
            rw [← hpr] at hcost
            have hwc : IntKind.i64.wrap (price + vl) = cost := by rw [IntWalk.i64_in _ (by omega)]; omega
            have hci : price + vl = cost := by omega
            have hc0 : 0 ≤ cost := by omega
            have hwl : IntKind.u16.wrap ((l : Int) - 1) = ((l - 1 : Nat) : Int) := by rw [IntKind.wrap_u16]; omega
            obtain ⟨l1, hl1e⟩ : ∃ l1, l1 = l - 1 := ⟨_, rfl⟩
            rw [← hl1e] at hwl
            have e0 := hI.best.c0
            have e1 := hI.best.c1
            have ef := hI.best.fr
            have hold := hI.old
            have HI : Hid (ChT7 D W ⟨lt, mt, fr⟩ p (l - 2) w wr bb least bl bd) := hI
            have HMM : Hid (RchAt wr mb (l : Int) (dj : Int)) := hM
            have h1l : nl7 (rec7 D p W) j ≤ l1 ∧ l1 ≤ nj := by omega
            have hll : l1 < l := by omega
            by_cases hlt : cost < least
            · have HZ : Hid (ChT7 D W ⟨lt, mt, fr⟩ p (l1 - 2) w (((wr.setCell ⟨bb, 0, none⟩ (.int .u16 (l : Int))).setCell ⟨bb, 1, none⟩ (.int .u16 (dj : Int))).setCell ⟨mb, 0, none⟩ (.int .u16 (l1 : Int))) bb cost (l : Int) (dj : Int) ∧ RchAt (((wr.setCell ⟨bb, 0, none⟩ (.int .u16 (l : Int))).setCell ⟨bb, 1, none⟩ (.int .u16 (dj : Int))).setCell ⟨mb, 0, none⟩ (.int .u16 (l1 : Int))) mb (l1 : Int) (dj : Int) ∧ (((wr.setCell ⟨bb, 0, none⟩ (.int .u16 (l : Int))).setCell ⟨bb, 1, none⟩ (.int .u16 (dj : Int))).setCell ⟨mb, 0, none⟩ (.int .u16 (l1 : Int))).heap[pb]? = wr.heap[pb]? ∧ (((wr.setCell ⟨bb, 0, none⟩ (.int .u16 (l : Int))).setCell ⟨bb, 1, none⟩ (.int .u16 (dj : Int))).setCell ⟨mb, 0, none⟩ (.int .u16 (l1 : Int))).heap[rb]? = wr.heap[rb]?) := by
                have r1 := (HI.out.best.set0 (l : Int)).set1 (dj : Int)
                have r2 : RchAt (((wr.setCell ⟨bb, 0, none⟩ (.int .u16 (l : Int))).setCell ⟨bb, 1, none⟩ (.int .u16 (dj : Int))).setCell ⟨mb, 0, none⟩ (.int .u16 (l1 : Int))) bb (l : Int) (dj : Int) := r1.of_block (Below.heap_setCell _ _ _ _ hbm)
                have bz : Below w.heap.size w (((wr.setCell ⟨bb, 0, none⟩ (.int .u16 (l : Int))).setCell ⟨bb, 1, none⟩ (.int .u16 (dj : Int))).setCell ⟨mb, 0, none⟩ (.int .u16 (l1 : Int))) := ((HI.out.bel.setCell (p := ⟨bb, 0, none⟩) hold _).setCell (p := ⟨bb, 1, none⟩) hold _).setCell (p := ⟨mb, 0, none⟩) hmo _
                have r3 : RchAt ((wr.setCell ⟨bb, 0, none⟩ (.int .u16 (l : Int))).setCell ⟨bb, 1, none⟩ (.int .u16 (dj : Int))) mb (l : Int) (dj : Int) := HMM.out.of_block ((Below.heap_setCell _ _ _ _ (Ne.symm hbm)).trans (Below.heap_setCell _ _ _ _ (Ne.symm hbm)))
                refine ⟨by rw [hl1e]; exact chi_take HI.out hpD h3 (by omega) (by rw [hn.out]; omega) hnst (by omega) (by omega) HCO.out hlt hc0 (by rw [← hl1e]; exact bz) (by rw [← hl1e]; exact r2), r3.set0 _, ?_, ?_⟩
                · exact (Below.heap_setCell _ _ _ _ hmp).trans ((Below.heap_setCell _ _ _ _ (Ne.symm hne1)).trans (Below.heap_setCell _ _ _ _ (Ne.symm hne1)))
                · exact (Below.heap_setCell _ _ _ _ hmr).trans ((Below.heap_setCell _ _ _ _ (Ne.symm hne2)).trans (Below.heap_setCell _ _ _ _ (Ne.symm hne2)))
              clear hI hM hcost hpr hl1e
              go_wp2_with fail
              go_roundw
              case rel => exact ⟨l1, cost, (l : Int), (dj : Int), h1l.1, h1l.2, rfl, HZ.out.1, HZ.out.2.1, HZ.out.2.2.1.trans HPr.out, HRr.out.of_block HZ.out.2.2.2⟩
              case measure => rw [HME.out, cellT_of HZ.out.2.1.c0]; simp; omega
            · have HZ : Hid (ChT7 D W ⟨lt, mt, fr⟩ p (l1 - 2) w (wr.setCell ⟨mb, 0, none⟩ (.int .u16 (l1 : Int))) bb least bl bd ∧ RchAt (wr.setCell ⟨mb, 0, none⟩ (.int .u16 (l1 : Int))) mb (l1 : Int) (dj : Int) ∧ (wr.setCell ⟨mb, 0, none⟩ (.int .u16 (l1 : Int))).heap[pb]? = wr.heap[pb]? ∧ (wr.setCell ⟨mb, 0, none⟩ (.int .u16 (l1 : Int))).heap[rb]? = wr.heap[rb]?) := by
                refine ⟨by rw [hl1e]; exact chi_keep HI.out hpD h3 (by rw [hn.out]; omega) hnst (by omega) (by rw [← HCO.out]; exact hlt) (HI.out.bel.setCell (p := ⟨mb, 0, none⟩) hmo _) (HI.out.best.of_block (Below.heap_setCell _ _ _ _ hbm)), HMM.out.set0 _, Below.heap_setCell _ _ _ _ hmp, Below.heap_setCell _ _ _ _ hmr⟩
              clear hI hM hcost hpr hl1e
              go_wp2_with fail
              go_roundw
              case rel => exact ⟨l1, least, bl, bd, h1l.1, h1l.2, rfl, HZ.out.1, HZ.out.2.1, HZ.out.2.2.1.trans HPr.out, HRr.out.of_block HZ.out.2.2.2⟩
              case measure => rw [HME.out, cellT_of HZ.out.2.1.c0]; simp; omega
          · have HL : Hid (l = nl7 (rec7 D p W) j) := by show _ = _; omega
            have hshi : ¬ (2 : Int) < (l : Int) := by have := HNL.out; omega
            have hshn : ¬ 2 < l := by have := HNL.out; omega
            have HI : Hid (ChT7 D W ⟨lt, mt, fr⟩ p (nl7 (rec7 D p W) j - 2) w wr bb least bl bd) := by rw [← HL.out]; exact hI
            clear hI hM
            go_wp2_with fail
            go_roundw
            case rel => exact ⟨j, least, bl, bd, by omega, rfl, by first | rfl | (have := HJ.out; congr 1; omega), HI.out, HPr, HRr⟩
            case measure => simp [intOf] <;> omega
end Go.Proofs.Ytaipfcfmhdigfaa
