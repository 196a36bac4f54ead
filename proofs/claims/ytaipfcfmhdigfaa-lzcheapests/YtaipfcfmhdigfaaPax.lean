import Derived.Test.YtaipfcfmhdigfaaPaw
namespace Go.Proofs.Ytaipfcfmhdigfaa
open Go.RowKit
set_option linter.unusedVariables false

/-! The landed lz: the plan. -/
structure RowS (w : World) (g n : Nat) (F : Nat → Int × Int) : Prop where
  at_ : ∀ q, q < n → w.cell? ⟨g, q * 2, none⟩ = some (.int .u16 (F q).1) ∧ w.cell? ⟨g, q * 2 + 1, none⟩ = some (.int .u16 (F q).2)
  fr : ∀ k, w.frozen? ⟨g, k, none⟩ = false
theorem RowS.of_block {w w' : World} {g n : Nat} {F : Nat → Int × Int} (h : RowS w g n F) (hb : w'.heap[g]? = w.heap[g]?) : RowS w' g n F :=
  ⟨fun q hq => ⟨(World.cell?_of_block (a := ⟨g, q * 2, none⟩) hb).trans (h.at_ q hq).1, (World.cell?_of_block (a := ⟨g, q * 2 + 1, none⟩) hb).trans (h.at_ q hq).2⟩, fun k => (frozen_block hb k).trans (h.fr k)⟩
def updS (F : Nat → Int × Int) (i : Nat) (x : Int × Int) : Nat → Int × Int := fun k => if k = i then x else F k
theorem RowS.set {w : World} {g n i : Nat} {F : Nat → Int × Int} (h : RowS w g n F) (hi : i < n) (x y : Int) : RowS ((w.setCell ⟨g, i * 2, none⟩ (.int .u16 x)).setCell ⟨g, i * 2 + 1, none⟩ (.int .u16 y)) g n (updS F i (x, y)) := by
  refine ⟨fun q hq => ?_, fun k => by rw [World.frozen?_setCell, World.frozen?_setCell]; exact h.fr k⟩
  unfold updS
  by_cases e : q = i
  · subst e
    rw [if_pos rfl]
    have t := h.at_ q hq
    refine ⟨?_, ?_⟩
    · rw [sc_other7 (by omega)]; exact sc_same7 t.1
    · exact sc_same7 (by rw [sc_other7 (by omega)]; exact t.2)
  · rw [if_neg e]
    have t := h.at_ q hq
    refine ⟨?_, ?_⟩
    · rw [sc_other7 (by omega), sc_other7 (by omega)]; exact t.1
    · rw [sc_other7 (by omega), sc_other7 (by omega)]; exact t.2
theorem rowS_made (w : World) (n : Nat) (t : TypeId) : RowS (w.alloc (.cells (madeCells #[.int .u16 0, .int .u16 0] (n * 2)) t)) w.heap.size n (fun _ => (0, 0)) := by
  obtain ⟨wA, hA⟩ : ∃ wA, wA = w.alloc (.cells (madeCells #[.int .u16 0, .int .u16 0] (n * 2)) t) := ⟨_, rfl⟩
  rw [← hA]
  have h : wA.heap[w.heap.size]? = some (.cells (madeCells #[.int .u16 0, .int .u16 0] (n * 2)) t (0, 0)) := by rw [hA]; exact heap_alloc_new w _
  refine ⟨fun q hq => ⟨?_, ?_⟩, fun k => by simp [World.frozen?, h]⟩
  · simp [World.cell?, h, madeCells, show q * 2 < n * 2 by omega]
  · simp [World.cell?, h, madeCells, show q * 2 + 1 < n * 2 by omega, show (q * 2 + 1) % 2 = 1 by omega]
theorem make_rch7 (n : Nat) (h : n ≤ 4194304) (w : World) : (Instr.makeSlice 83 (.int .i64 (n : Int)) (.int .i64 (n : Int))).run Try.prog w = .ok (.slice (some ⟨w.heap.size, 0, none⟩) n n) (w.alloc (.cells (madeCells #[.int .u16 0, .int .u16 0] (n * 2)) 88)) := by
  obtain ⟨i0, hi, hz0, hz1, hz2⟩ := info_parts info_rch
  have := run_make (P := Try.prog) w 83 88 i0 _ Try.underlying83 hi hz0 .i64 .i64 (n : Int) (n : Int) (by omega) (by omega) (by rw [hz2]; omega) (by omega)
  rw [hz1] at this
  simpa [Value.cells] using this
def cst7 (D : List Int) (W : Nat) (c : Pr7) (k : Nat) : Nat → Int := fun q => if k ≤ q then (lea7 D W c q).1 else 0
def stp7 (D : List Int) (W : Nat) (c : Pr7) (k : Nat) : Nat → Int × Int := fun q => if k ≤ q then ((lea7 D W c q).2.len, (lea7 D W c q).2.dist) else (0, 0)
structure PL7 (D : List Int) (W n : Nat) (c : Pr7) (pb fd eg cg sg k : Nat) (la : Option Addr) (ln lc : Nat) (w wr : World) : Prop where
  px : wr.heap[pb]? = some (.cells #[.int .i64 c.lit, .int .i64 c.mat, .int .i64 c.far] 67 (0, 0))
  pf : Two7 wr fd (.slice la ln lc) (.slice (some ⟨eg, 0, none⟩) n n)
  ls : SegR wr la (rcs7 D W n)
  en : RowI wr eg n (ends7 D W n)
  cs : RowI wr cg (n + 1) (cst7 D W c k)
  st : RowS wr sg n (stp7 D W c k)
  bel : Below w.heap.size w wr
  cgl : cg < wr.heap.size
  sgl : sg < wr.heap.size
theorem PL7.old {D : List Int} {W n : Nat} {c : Pr7} {pb fd eg cg sg k : Nat} {la : Option Addr} {ln lc : Nat} {w wr w2 : World} (h : PL7 D W n c pb fd eg cg sg k la ln lc w wr) (hb : Below wr.heap.size wr w2) (hegl : eg < wr.heap.size) : PL7 D W n c pb fd eg cg sg k la ln lc w w2 :=
  ⟨(hb.block pb (Array.getElem?_eq_some_iff.1 h.px).1).trans h.px, h.pf.of_block (hb.block fd h.pf.lt), h.ls.old hb, h.en.of_block (hb.block eg hegl), h.cs.of_block (hb.block cg h.cgl), h.st.of_block (hb.block sg h.sgl), h.bel.trans (hb.mono h.bel.size), Nat.lt_of_lt_of_le h.cgl hb.size, Nat.lt_of_lt_of_le h.sgl hb.size⟩
structure Dp7 (pb fd eg cg sg : Nat) (la : Option Addr) (B : Nat) : Prop where
  a1 : sg ≠ pb ∧ sg ≠ fd ∧ sg ≠ eg ∧ sg ≠ cg
  a2 : cg ≠ pb ∧ cg ≠ fd ∧ cg ≠ eg
  a3 : ∀ x, la = some x → x.block ≠ sg ∧ x.block ≠ cg
  a4 : B ≤ sg ∧ B ≤ cg
theorem PL7.next {D : List Int} {W n : Nat} {c : Pr7} {pb fd eg cg sg p : Nat} {la : Option Addr} {ln lc : Nat} {w wr w5 : World} (h : PL7 D W n c pb fd eg cg sg (p + 1) la ln lc w w5) (hd : Dp7 pb fd eg cg sg la w.heap.size) (hp : p < n) :
    PL7 D W n c pb fd eg cg sg p la ln lc w (((w5.setCell ⟨sg, p * 2, none⟩ (.int .u16 (lea7 D W c p).2.len)).setCell ⟨sg, p * 2 + 1, none⟩ (.int .u16 (lea7 D W c p).2.dist)).setCell ⟨cg, p, none⟩ (.int .i64 (lea7 D W c p).1)) := by
  obtain ⟨⟨a1, a2, a3, a4⟩, ⟨b1, b2, b3⟩, d, e1, e2⟩ := hd
  have k1 : Kp (fun k => k = sg ∨ k = cg) w5 (((w5.setCell ⟨sg, p * 2, none⟩ (.int .u16 (lea7 D W c p).2.len)).setCell ⟨sg, p * 2 + 1, none⟩ (.int .u16 (lea7 D W c p).2.dist)).setCell ⟨cg, p, none⟩ (.int .i64 (lea7 D W c p).1)) :=
    ((Kp.set (S := fun k => k = sg ∨ k = cg) (.inl rfl) _).trans (Kp.set (S := fun k => k = sg ∨ k = cg) (.inl rfl) _) (fun _ _ e => e)).trans (Kp.set (S := fun k => k = sg ∨ k = cg) (.inr rfl) _) (fun _ _ e => e)
  have hpx := k1.heap h.px (by rintro (e | e); exact a1 e.symm; exact b1 e.symm)
  have hfdl := h.pf.lt
  have hcs1 : RowI ((w5.setCell ⟨sg, p * 2, none⟩ (.int .u16 (lea7 D W c p).2.len)).setCell ⟨sg, p * 2 + 1, none⟩ (.int .u16 (lea7 D W c p).2.dist)) cg (n + 1) (cst7 D W c (p + 1)) := h.cs.of_block ((Below.heap_setCell _ _ _ _ (Ne.symm a4)).trans (Below.heap_setCell _ _ _ _ (Ne.symm a4)))
  have hcs2 := hcs1.set (i := p) (by omega) (lea7 D W c p).1
  have hst2 := h.st.set hp (lea7 D W c p).2.len (lea7 D W c p).2.dist
  have ec : updI (cst7 D W c (p + 1)) p (lea7 D W c p).1 = cst7 D W c p := by
    funext q
    unfold updI cst7
    by_cases e : q = p
    · subst e; rw [if_pos rfl, if_pos (Nat.le_refl _)]
    · rw [if_neg e]
      by_cases e2 : p + 1 ≤ q
      · rw [if_pos e2, if_pos (by omega)]
      · rw [if_neg e2, if_neg (by omega)]
  have es : updS (stp7 D W c (p + 1)) p ((lea7 D W c p).2.len, (lea7 D W c p).2.dist) = stp7 D W c p := by
    funext q
    unfold updS stp7
    by_cases e : q = p
    · subst e; rw [if_pos rfl, if_pos (Nat.le_refl _)]
    · rw [if_neg e]
      by_cases e2 : p + 1 ≤ q
      · rw [if_pos e2, if_pos (by omega)]
      · rw [if_neg e2, if_neg (by omega)]
  rw [ec] at hcs2
  rw [es] at hst2
  refine ⟨hpx, h.pf.of_block (k1.block fd hfdl (by rintro (e | e); exact a2 e.symm; exact b2 e.symm)), ⟨fun i hi => ?_⟩, ?_, hcs2, hst2.of_block (Below.heap_setCell _ _ _ _ a4), ((h.bel.setCell (p := ⟨sg, p * 2, none⟩) e1 _).setCell (p := ⟨sg, p * 2 + 1, none⟩) e1 _).setCell (p := ⟨cg, p, none⟩) e2 _, Nat.lt_of_lt_of_le h.cgl k1.size, Nat.lt_of_lt_of_le h.sgl k1.size⟩
  · obtain ⟨b, off, e, c0, c1⟩ := h.ls.at_ i hi
    have hbl := World.block_lt_of_cell? w5 _ c0
    obtain ⟨d1, d2⟩ := d _ e
    have hb := k1.block b hbl (by rintro (e | e); exact d1 e; exact d2 e)
    exact ⟨b, off, e, (World.cell?_of_block (a := ⟨b, off + i * 2, none⟩) hb).trans c0, (World.cell?_of_block (a := ⟨b, off + i * 2 + 1, none⟩) hb).trans c1⟩
  · have hegk : (((w5.setCell ⟨sg, p * 2, none⟩ (.int .u16 (lea7 D W c p).2.len)).setCell ⟨sg, p * 2 + 1, none⟩ (.int .u16 (lea7 D W c p).2.dist)).setCell ⟨cg, p, none⟩ (.int .i64 (lea7 D W c p).1)).heap[eg]? = w5.heap[eg]? := (Below.heap_setCell _ _ _ _ (Ne.symm b3)).trans ((Below.heap_setCell _ _ _ _ (Ne.symm a3)).trans (Below.heap_setCell _ _ _ _ (Ne.symm a3)))
    exact h.en.of_block hegk
theorem PL7.csAt {D : List Int} {W n : Nat} {c : Pr7} {pb fd eg cg sg p : Nat} {la : Option Addr} {ln lc : Nat} {w wr : World} (h : PL7 D W n c pb fd eg cg sg (p + 1) la ln lc w wr) (hn : D.length = n) : CsAt wr D W c p cg p := fun l h1 h2 => by
  have := h.cs.at_ (p + l) (by omega)
  unfold cst7 at this
  rw [if_pos (by omega)] at this
  exact this
end Go.Proofs.Ytaipfcfmhdigfaa

namespace Go.Proofs.Ytaipfcfmhdigfaa
open Go.RowKit
set_option linter.unusedVariables false

theorem reach_fit {D : List Int} {W : Nat} {c : Pr7} {p : Nat} (hp : p < D.length) (hW : W ≤ 32768) : 0 ≤ (lea7 D W c p).2.len ∧ (lea7 D W c p).2.len ≤ 258 ∧ 0 ≤ (lea7 D W c p).2.dist ∧ (lea7 D W c p).2.dist ≤ 32768 := by
  rcases (lea7_spec D W c p hp).2.2 with h | ⟨l, h1, h2, h3, h4, h5⟩
  · rw [h]; simp
  · rw [h5]
    simp only
    rcases nst7_spec D p l W with ⟨e, _⟩ | ⟨e1, e2, _⟩
    · exact absurd e h4
    · omega
set_option maxRecDepth 100000 in
set_option maxHeartbeats 8000000 in
theorem pplan7 (D : List Int) (a : Option Addr) (n cap W : Nat) (c : Pr7) (hn : Hid (D.length = n)) (hc : ¬ badP c) (w : World) (hs : Seg w a D) (hl : n ≤ 1048576) (hW : W ≤ 32768) :
    Calls Try.prog 41 #[.slice a n cap, .int .i64 (W : Int), price7 c] w fun e w' => ∃ sg, e = .returned (.tuple #[.slice (some ⟨sg, 0, none⟩) n n, .int .i64 (lea7 D W c 0).1]) ∧ RowS w' sg n (stp7 D W c 0) ∧ sg < w'.heap.size ∧ w.heap.size ≤ sg ∧ Below w.heap.size w w' := by
  have hlen : D.length = n := hn.out
  have HC : Hid (¬ badP c) := hc
  have HPX0 : price7 c = .agg #[.int .i64 c.lit, .int .i64 c.mat, .int .i64 c.far] := rfl
  obtain ⟨wA, hwA⟩ : ∃ wA, wA = w.alloc (.cells #[.int .i64 c.lit, .int .i64 c.mat, .int .i64 c.far] 67) := ⟨_, rfl⟩
  have bA : Below w.heap.size w wA := by rw [hwA]; exact below_box _ _
  have hpx : wA.heap[w.heap.size]? = some (.cells #[.int .i64 c.lit, .int .i64 c.mat, .int .i64 c.far] 67 (0, 0)) := by rw [hwA]; exact heap_alloc_new w _
  obtain ⟨pb, hpb⟩ : ∃ pb, pb = w.heap.size := ⟨_, rfl⟩
  rw [← hpb] at hpx
  have HWA : Hid (wA = w.alloc (.cells #[.int .i64 c.lit, .int .i64 c.mat, .int .i64 c.far] 67)) := hwA
  have HPB : Hid (pb = w.heap.size) := hpb
  have hpbA : pb < wA.heap.size := (Array.getElem?_eq_some_iff.1 hpx).1
  have CM := pmat7 D a n cap W hn wA (hs.old bA) hl hW
  have hmk1 := make_rch7 n (by omega)
  have hmk2 := make_ints7t (n + 1) (by omega)
  have hwn1 : IntKind.i64.wrap ((n : Int) + 1) = ((n + 1 : Nat) : Int) := by rw [IntWalk.i64_in _ (by omega)]; omega
  obtain ⟨n1, hn1⟩ : ∃ n1, n1 = n + 1 := ⟨_, rfl⟩
  rw [← hn1] at hmk2 hwn1
  have hn1i : (n : Int) + 1 = (n1 : Int) := by omega
  have HN1 : Hid (n1 = n + 1) := hn1
  have hwm1 : IntKind.i64.wrap ((n : Int) - 1) = (n : Int) - 1 := IntWalk.i64_in _ (by omega)
  have HPA : Hid (wA.heap[pb]? = some (.cells #[.int .i64 c.lit, .int .i64 c.mat, .int .i64 c.far] 67 (0, 0))) := hpx
  have HLEN : Hid (D.length = n) := hlen
  have HLEA : Hid (∀ q, q < n → 0 ≤ (lea7 D W c q).2.len ∧ (lea7 D W c q).2.len ≤ 258 ∧ 0 ≤ (lea7 D W c q).2.dist ∧ (lea7 D W c q).2.dist ≤ 32768) := fun q hq => reach_fit (by omega) hW
  rw [HPX0]
  clear hwA hpb hpx hs hn1 hlen HPX0
  go_enter Try.func41, Try.ntmps41
  go_wp2_with fail
  rw [← HWA.out, ← HPB.out]
  refine CM.mono ?_
  rintro e w1 ⟨la, ln, lc, eg, rfl, hQ⟩
  have hfa := own_facts2 hQ.own
  have hsegr := own_segR hQ.own hQ.len
  have hb1 := hQ.bel
  have hegl := hQ.egl
  have hego := hQ.ego
  obtain ⟨w2, hw2⟩ : ∃ w2, w2 = w1.alloc (.cells #[.slice la ln lc, .slice (some ⟨eg, 0, none⟩) n n] 101) := ⟨_, rfl⟩
  have b2 : Below w1.heap.size w1 w2 := by rw [hw2]; exact below_box _ _
  obtain ⟨fd, hfd⟩ : ∃ fd, fd = w1.heap.size := ⟨_, rfl⟩
  have hfd2 : Two7 w2 fd (.slice la ln lc) (.slice (some ⟨eg, 0, none⟩) n n) := by rw [hw2, hfd]; exact ⟨heap_alloc_new w1 _⟩
  have hz2 : w2.heap.size = fd + 1 := by rw [hw2, hfd]; simp
  obtain ⟨w3, hw3⟩ : ∃ w3, w3 = w2.alloc (.cells (madeCells #[.int .u16 0, .int .u16 0] (n * 2)) 88) := ⟨_, rfl⟩
  have b3 : Below w2.heap.size w2 w3 := by rw [hw3]; exact (Below.refl _ _).alloc (Nat.le_refl _) _
  obtain ⟨sg, hsg⟩ : ∃ sg, sg = w2.heap.size := ⟨_, rfl⟩
  have hsg3 : RowS w3 sg n (fun _ => (0, 0)) := by rw [hw3, hsg]; exact rowS_made w2 n _
  have hz3 : w3.heap.size = sg + 1 := by rw [hw3, hsg]; simp
  obtain ⟨w4, hw4⟩ : ∃ w4, w4 = w3.alloc (.cells (madeCells #[.int .i64 0] n1) 3) := ⟨_, rfl⟩
  have b4 : Below w3.heap.size w3 w4 := by rw [hw4]; exact (Below.refl _ _).alloc (Nat.le_refl _) _
  obtain ⟨cg, hcg⟩ : ∃ cg, cg = w3.heap.size := ⟨_, rfl⟩
  have hcg4 : RowI w4 cg n1 (fun _ => 0) := by rw [hw4, hcg]; exact rowI_made w3 n1 _
  have hz4 : w4.heap.size = cg + 1 := by rw [hw4, hcg]; simp
  have HW2 : Hid (w2 = w1.alloc (.cells #[.slice la ln lc, .slice (some ⟨eg, 0, none⟩) n n] 101)) := hw2
  have HFD : Hid (fd = w1.heap.size) := hfd
  have HW3 : Hid (w3 = w2.alloc (.cells (madeCells #[.int .u16 0, .int .u16 0] (n * 2)) 88)) := hw3
  have HSG : Hid (fd + 1 = sg) := by show _ = _; rw [hsg, hz2]
  have HW4 : Hid (w4 = w3.alloc (.cells (madeCells #[.int .i64 0] n1) 3)) := hw4
  have HCG : Hid (sg + 1 = cg) := by show _ = _; rw [hcg, hz3]
  have B14 : Below w1.heap.size w1 w4 := (b2.trans (b3.mono b2.size)).trans (b4.mono (Nat.le_trans b2.size b3.size))
  have B24 : Below w2.heap.size w2 w4 := b3.trans (b4.mono b3.size)
  have Bw1 : Below w.heap.size w w1 := bA.trans (hb1.mono bA.size)
  have HD : Hid (Dp7 pb fd eg cg sg la w.heap.size) := by
    have h1 := HPB.out
    have h2 := bA.size
    have h3 := hb1.size
    refine ⟨by omega, by omega, fun x e => ?_, by omega⟩
    obtain ⟨g, rfl, q1, q2⟩ := hfa.2.2 x e
    simp only
    omega
  have HPL : Hid (PL7 D W n c pb fd eg cg sg n la ln lc w w4) := by
    have e1 : cst7 D W c n = updI (fun _ => 0) n (lea7 D W c n).1 ∨ True := .inr trivial
    have hcs : RowI w4 cg (n + 1) (cst7 D W c n) := by
      refine ⟨fun q hq => ?_, hcg4.fr⟩
      rw [hcg4.at_ q (by have := HN1.out; omega)]
      unfold cst7
      by_cases h : n ≤ q
      · rw [if_pos h, show q = D.length by rw [HLEN.out]; omega, lea7_end]
      · rw [if_neg h]
    have hst : RowS w4 sg n (stp7 D W c n) := by
      have h0 := hsg3.of_block (b4.block sg (by omega))
      refine ⟨fun q hq => ?_, h0.fr⟩
      unfold stp7
      rw [if_neg (by omega)]
      exact h0.at_ q hq
    exact ⟨(B14.block pb (Nat.lt_of_lt_of_le hpbA hb1.size)).trans ((hb1.block pb hpbA).trans HPA.out), hfd2.of_block (B24.block fd (by omega)), hsegr.old B14, hQ.ends.of_block (B14.block eg hegl), hcs, hst, Bw1.trans (B14.mono Bw1.size), by omega, by omega⟩
  have HEGL : Hid (eg < w4.heap.size) := by show _ < _; have := B14.size; omega
  have HLN : Hid ((rcs7 D W n).length = ln) := hQ.len
  clear hw2 hfd hw3 hsg hw4 hcg hfd2 hsg3 hcg4 hQ hsegr hz2 hz3 hz4 CM
  go_wp2_with fail
  rw [← HW2.out, ← HFD.out, HSG.out, ← HW3.out, HCG.out, ← HW4.out]
  go_loopw [11] (fun ti wr => ∃ k : Nat, k ≤ n ∧ ti = .int .i64 ((k : Int) - 1) ∧ PL7 D W n c pb fd eg cg sg k la ln lc w wr ∧ Hid (eg < wr.heap.size)) (fun ti _ => (intOf ti + 1).toNat)
  case atStart => exact ⟨n, by omega, rfl, HPL.out, HEGL⟩
  case round =>
    clear HPL HEGL
    obtain ⟨k, hk, rfl, hP, HE⟩ := hrel
    by_cases hk0 : k = 0
    · subst hk0
      have c0 := hP.cs.at_ 0 (by omega)
      have HV : Hid (cst7 D W c 0 0 = (lea7 D W c 0).1) := by show _ = _; unfold cst7; rw [if_pos (Nat.le_refl _)]
      rw [HV.out] at c0
      have h0n : (0 : Int) < (n1 : Int) := by have := HN1.out; omega
      have HFIN : Hid (∀ k, RowS (wr.drewN k) sg n (stp7 D W c 0) ∧ sg < (wr.drewN k).heap.size ∧ w.heap.size ≤ sg ∧ Below w.heap.size w (wr.drewN k)) := fun k => ⟨hP.st.of_block rfl, hP.sgl, HD.out.a4.1, ⟨hP.bel.os, hP.bel.tape, hP.bel.output, hP.bel.size, hP.bel.block⟩⟩
      clear hP HV
      go_wp2_with fail
      go_quiet (fail)
      go_wp2
      go_ret2
      exact ⟨sg, rfl, HFIN.out _⟩
    · obtain ⟨p, hp⟩ : ∃ p, k = p + 1 := ⟨k - 1, by omega⟩
      subst hp
      have hkp : ((p + 1 : Nat) : Int) - 1 = (p : Int) := by omega
      have hpn : p < n := by omega
      have hpi : (p : Int) < (n : Int) := by omega
      have hp0 : (0 : Int) ≤ (p : Int) := by omega
      have hpn1 : (p : Int) ≤ (n1 : Int) := by have := HN1.out; omega
      have hpn2 : (p : Int) < (n1 : Int) := by have := HN1.out; omega
      have hcp : ¬ n1 = p := by have := HN1.out; omega
      have hwp : IntKind.i64.wrap ((p : Int) - 1) = (p : Int) - 1 := IntWalk.i64_in _ (by omega)
      have hd9 : Below wr.heap.size wr wr.drew := ⟨rfl, rfl, rfl, Nat.le_refl _, fun _ _ => rfl⟩
      have hPd := hP.old hd9 HE.out
      have HPd : Hid (PL7 D W n c pb fd eg cg sg (p + 1) la ln lc w wr.drew) := hPd
      have CAT : Hid (∀ W1, SegR W1 la (rcs7 D W n) → RowI W1 eg n (ends7 D W n) → Calls Try.prog 50 #[.agg #[.slice la ln lc, .slice (some ⟨eg, 0, none⟩) n n], .int .i64 (p : Int)] W1 fun e w' => ∃ ma mc, e = .returned (.slice ma (rec7 D p W).length mc) ∧ SegR w' ma (rec7 D p W) ∧ Below W1.heap.size W1 w') := fun W1 h1 h2 =>
        pat7 D W n p la ln lc eg W1 h1 HLN.out hfa.1 hfa.2.1 (fun x e => by obtain ⟨g, e1, _⟩ := hfa.2.2 x e; exact ⟨g, e1⟩) h2 hpn hl
      have CCH : Hid (∀ W1 ma mc, SegR W1 ma (rec7 D p W) → PL7 D W n c pb fd eg cg sg (p + 1) la ln lc w W1 → Calls Try.prog 49 #[.slice ma (rec7 D p W).length mc, .slice (some ⟨cg, p, none⟩) (n1 - p) (n1 - p), .agg #[.int .i64 c.lit, .int .i64 c.mat, .int .i64 c.far]] W1 fun e w' => e = .returned (.tuple #[.agg #[.int .u16 (lea7 D W c p).2.len, .int .u16 (lea7 D W c p).2.dist], .int .i64 (lea7 D W c p).1]) ∧ Below W1.heap.size W1 w') := fun W1 ma mc h1 h2 =>
        pchp7 D W c p n hn HC.out hpn hl hW ma _ mc cg p (n1 - p) (n1 - p) W1 h1 (show Hid _ from rfl) (h2.csAt HLEN.out) (by have := HN1.out; omega)
      have HNX : Hid (∀ W1, PL7 D W n c pb fd eg cg sg (p + 1) la ln lc w W1 → PL7 D W n c pb fd eg cg sg p la ln lc w (((W1.setCell ⟨sg, p * 2, none⟩ (.int .u16 (lea7 D W c p).2.len)).setCell ⟨sg, p * 2 + 1, none⟩ (.int .u16 (lea7 D W c p).2.dist)).setCell ⟨cg, p, none⟩ (.int .i64 (lea7 D W c p).1))) := fun W1 h1 => h1.next (wr := W1) HD.out hpn
      have p0 : wr.cell? ⟨pb, 0, none⟩ = some (.int .i64 c.lit) := three_cell0 hP.px
      have p1 : wr.cell? ⟨pb, 1, none⟩ = some (.int .i64 c.mat) := three_cell1 hP.px
      have p2 : wr.cell? ⟨pb, 2, none⟩ = some (.int .i64 c.far) := three_cell2 hP.px
      have f0 := hP.pf.c0
      have f1 := hP.pf.c1
      have hdd := HD.out
      have hSx : ∀ W1, PL7 D W n c pb fd eg cg sg (p + 1) la ln lc w W1 → (W1.cell? ⟨pb, 0, none⟩ = some (.int .i64 c.lit) ∧ W1.cell? ⟨pb, 1, none⟩ = some (.int .i64 c.mat) ∧ W1.cell? ⟨pb, 2, none⟩ = some (.int .i64 c.far) ∧ W1.cell? ⟨fd, 0, none⟩ = some (.slice la ln lc) ∧ W1.cell? ⟨fd, 1, none⟩ = some (.slice (some ⟨eg, 0, none⟩) n n)) := fun W1 h1 => ⟨three_cell0 h1.px, three_cell1 h1.px, three_cell2 h1.px, h1.pf.c0, h1.pf.c1⟩
      have HSX : Hid (∀ W1, PL7 D W n c pb fd eg cg sg (p + 1) la ln lc w W1 → (W1.cell? ⟨pb, 0, none⟩ = some (.int .i64 c.lit) ∧ W1.cell? ⟨pb, 1, none⟩ = some (.int .i64 c.mat) ∧ W1.cell? ⟨pb, 2, none⟩ = some (.int .i64 c.far) ∧ W1.cell? ⟨fd, 0, none⟩ = some (.slice la ln lc) ∧ W1.cell? ⟨fd, 1, none⟩ = some (.slice (some ⟨eg, 0, none⟩) n n))) := hSx
      have HKS : Hid (∀ (W1 : World) (b i : Nat) (x : Value), (b = sg ∨ b = cg) → (W1.cell? ⟨pb, 0, none⟩ = some (.int .i64 c.lit) ∧ W1.cell? ⟨pb, 1, none⟩ = some (.int .i64 c.mat) ∧ W1.cell? ⟨pb, 2, none⟩ = some (.int .i64 c.far) ∧ W1.cell? ⟨fd, 0, none⟩ = some (.slice la ln lc) ∧ W1.cell? ⟨fd, 1, none⟩ = some (.slice (some ⟨eg, 0, none⟩) n n)) → ((W1.setCell ⟨b, i, none⟩ x).cell? ⟨pb, 0, none⟩ = some (.int .i64 c.lit) ∧ (W1.setCell ⟨b, i, none⟩ x).cell? ⟨pb, 1, none⟩ = some (.int .i64 c.mat) ∧ (W1.setCell ⟨b, i, none⟩ x).cell? ⟨pb, 2, none⟩ = some (.int .i64 c.far) ∧ (W1.setCell ⟨b, i, none⟩ x).cell? ⟨fd, 0, none⟩ = some (.slice la ln lc) ∧ (W1.setCell ⟨b, i, none⟩ x).cell? ⟨fd, 1, none⟩ = some (.slice (some ⟨eg, 0, none⟩) n n))) := fun W1 b i x hb h => by
        have hb1 : b ≠ pb := by rcases hb with rfl | rfl; exact hdd.a1.1; exact hdd.a2.1
        have hb2 : b ≠ fd := by rcases hb with rfl | rfl; exact hdd.a1.2.1; exact hdd.a2.2.1
        have k : ∀ q j, b ≠ q → (W1.setCell ⟨b, i, none⟩ x).cell? ⟨q, j, none⟩ = W1.cell? ⟨q, j, none⟩ := fun q j e => World.cell?_setCell_other _ _ _ _ (by intro e2; cases e2; exact e rfl)
        rw [k pb 0 hb1, k pb 1 hb1, k pb 2 hb1, k fd 0 hb2, k fd 1 hb2]
        exact h
      have hsc := hdd.a1.2.2.2
      generalize (lea7 D W c p).1 = v9 at *
      generalize (lea7 D W c p).2.len = zl at *
      generalize (lea7 D W c p).2.dist = zd at *
      generalize (rec7 D p W).length = rl at *
      clear hP hPd hSx hdd
      rw [hkp]
      go_wp2_with fail
      go_region_held3 (fun w' => w'.cell? ⟨pb, 0, none⟩ = some (.int .i64 c.lit) ∧ w'.cell? ⟨pb, 1, none⟩ = some (.int .i64 c.mat) ∧ w'.cell? ⟨pb, 2, none⟩ = some (.int .i64 c.far) ∧ w'.cell? ⟨fd, 0, none⟩ = some (.slice la ln lc) ∧ w'.cell? ⟨fd, 1, none⟩ = some (.slice (some ⟨eg, 0, none⟩) n n)) (first | go_keep | assumption | exact HKS.out _ _ _ _ (.inl rfl) (HKS.out _ _ _ _ (.inl rfl) (by assumption)) | exact HKS.out _ _ _ _ (.inr rfl) (by assumption))
        (first
          | (go_at_call 50
             refine (CAT.out _ HPd.out.ls HPd.out.en).mono ?_
             rintro e w5 ⟨ma, mc, rfl, hR5, b5⟩
             have hP5 := HPd.out.old b5 HE.out
             have he5 : eg < w5.heap.size := Nat.lt_of_lt_of_le HE.out b5.size
             have HP5 : Hid (PL7 D W n c pb fd eg cg sg (p + 1) la ln lc w w5) := hP5
             have HR5 : Hid (SegR w5 ma (rec7 D p W)) := hR5
             have hS5 := HSX.out w5 hP5
             clear hP5 hR5)
          | (go_at_call 49
             refine (CCH.out w5 ma mc HR5.out HP5.out).mono ?_
             rintro e w6 ⟨rfl, b6⟩
             have hP6 := HP5.out.old b6 he5
             have HP6 : Hid (PL7 D W n c pb fd eg cg sg (p + 1) la ln lc w w6) := hP6
             have he6 : eg < w6.heap.size := Nat.lt_of_lt_of_le he5 b6.size
             have hS6 := HSX.out w6 hP6
             have s0 := (hP6.st.at_ p hpn).1
             have s1 := (hP6.st.at_ p hpn).2
             have sf := hP6.st.fr
             have k0 := hP6.cs.at_ p (by omega)
             have kf := hP6.cs.fr
             clear hP6))
      all_goals go_wp2
      all_goals go_roundw
      case rel => exact ⟨p, by omega, rfl, HNX.out w6 HP6.out, (by show eg < _; simpa using he6)⟩
      case measure => simp [intOf] <;> omega
end Go.Proofs.Ytaipfcfmhdigfaa
