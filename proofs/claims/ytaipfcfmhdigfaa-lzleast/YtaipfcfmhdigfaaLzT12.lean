
import Derived.Test.YtaipfcfmhdigfaaLzT11
namespace Go.Proofs.Ytaipfcfmhdigfaa
open Go.RowKit
set_option linter.unusedVariables false

/-! The landed lz: the plan. -/
structure RowS (w : World) (g n : Nat) (F : Nat → Int × Int) : Prop where
  at_ : ∀ q, q < n → w.cell? ⟨g, q * 2, none⟩ = some (.int .u16 (F q).1) ∧ w.cell? ⟨g, q * 2 + 1, none⟩ = some (.int .u16 (F q).2)
  fr : ∀ k, w.frozen? ⟨g, k, none⟩ = false
theorem RowS.of_block {w w' : World} {g n : Nat} {F : Nat → Int × Int} (h : RowS w g n F) (hb : w'.heap[g]? = w.heap[g]?) : RowS w' g n F :=
  ⟨fun q hq => ⟨(World.cell?_of_block (a := ⟨g, q * 2, none⟩) hb).trans (h.at_ q hq).1, (World.cell?_of_block (a := ⟨g, q * 2 + 1, none⟩) hb).trans (h.at_ q hq).2⟩, fun k => (frozen_block hb k).trans (h.fr k)⟩
def updS (F : Nat → Int × Int) (i : Nat) (x : Int × Int) : Nat → Int × Int := fun k => if k = i then x else F k
theorem RowS.set {w : World} {g n i : Nat} {F : Nat → Int × Int} (h : RowS w g n F) (hi : i < n) (x y : Int) : RowS ((w.setCell ⟨g, i * 2, none⟩ (.int .u16 x)).setCell ⟨g, i * 2 + 1, none⟩ (.int .u16 y)) g n (updS F i (x, y)) := by
  refine ⟨fun q hq => ?_, fun k => by rw [World.frozen?_setCell, World.frozen?_setCell]; exact h.fr k⟩
  unfold updS
  by_cases e : q = i
  · subst e
    rw [if_pos rfl]
    have t := h.at_ q hq
    refine ⟨?_, ?_⟩
    · rw [sc_other7 (by omega)]; exact sc_same7 t.1
    · exact sc_same7 (by rw [sc_other7 (by omega)]; exact t.2)
  · rw [if_neg e]
    have t := h.at_ q hq
    refine ⟨?_, ?_⟩
    · rw [sc_other7 (by omega), sc_other7 (by omega)]; exact t.1
    · rw [sc_other7 (by omega), sc_other7 (by omega)]; exact t.2
theorem rowS_made (w : World) (n : Nat) (t : TypeId) : RowS (w.alloc (.cells (madeCells #[.int .u16 0, .int .u16 0] (n * 2)) t)) w.heap.size n (fun _ => (0, 0)) := by
  obtain ⟨wA, hA⟩ : ∃ wA, wA = w.alloc (.cells (madeCells #[.int .u16 0, .int .u16 0] (n * 2)) t) := ⟨_, rfl⟩
  rw [← hA]
  have h : wA.heap[w.heap.size]? = some (.cells (madeCells #[.int .u16 0, .int .u16 0] (n * 2)) t (0, 0)) := by rw [hA]; exact heap_alloc_new w _
  refine ⟨fun q hq => ⟨?_, ?_⟩, fun k => by simp [World.frozen?, h]⟩
  · simp [World.cell?, h, madeCells, show q * 2 < n * 2 by omega]
  · simp [World.cell?, h, madeCells, show q * 2 + 1 < n * 2 by omega, show (q * 2 + 1) % 2 = 1 by omega]
theorem make_rch7 (n : Nat) (h : n ≤ 4194304) (w : World) : (Instr.makeSlice 83 (.int .i64 (n : Int)) (.int .i64 (n : Int))).run Try.prog w = .ok (.slice (some ⟨w.heap.size, 0, none⟩) n n) (w.alloc (.cells (madeCells #[.int .u16 0, .int .u16 0] (n * 2)) 88)) := by
  obtain ⟨i0, hi, hz0, hz1, hz2⟩ := info_parts info_rch
  have := run_make (P := Try.prog) w 83 88 i0 _ Try.underlying83 hi hz0 .i64 .i64 (n : Int) (n : Int) (by omega) (by omega) (by rw [hz2]; omega) (by omega)
  rw [hz1] at this
  simpa [Value.cells] using this
def cst7 (D : List Int) (W : Nat) (c : Pr7) (k : Nat) : Nat → Int := fun q => if k ≤ q then (lea7 D W c q).1 else 0
def stp7 (D : List Int) (W : Nat) (c : Pr7) (k : Nat) : Nat → Int × Int := fun q => if k ≤ q then ((lea7 D W c q).2.len, (lea7 D W c q).2.dist) else (0, 0)
structure PL7 (D : List Int) (W n : Nat) (c : Pr7) (pb fd eg cg sg k : Nat) (la : Option Addr) (ln lc : Nat) (w wr : World) : Prop where
  px : wr.heap[pb]? = some (.cells #[.int .i64 c.lit, .int .i64 c.mat, .int .i64 c.far] 67 (0, 0))
  pf : Two7 wr fd (.slice la ln lc) (.slice (some ⟨eg, 0, none⟩) n n)
  ls : SegR wr la (rcs7 D W n)
  en : RowI wr eg n (ends7 D W n)
  cs : RowI wr cg (n + 1) (cst7 D W c k)
  st : RowS wr sg n (stp7 D W c k)
  bel : Below w.heap.size w wr
  cgl : cg < wr.heap.size
  sgl : sg < wr.heap.size
theorem PL7.old {D : List Int} {W n : Nat} {c : Pr7} {pb fd eg cg sg k : Nat} {la : Option Addr} {ln lc : Nat} {w wr w2 : World} (h : PL7 D W n c pb fd eg cg sg k la ln lc w wr) (hb : Below wr.heap.size wr w2) (hegl : eg < wr.heap.size) : PL7 D W n c pb fd eg cg sg k la ln lc w w2 :=
  ⟨(hb.block pb (Array.getElem?_eq_some_iff.1 h.px).1).trans h.px, h.pf.of_block (hb.block fd h.pf.lt), h.ls.old hb, h.en.of_block (hb.block eg hegl), h.cs.of_block (hb.block cg h.cgl), h.st.of_block (hb.block sg h.sgl), h.bel.trans (hb.mono h.bel.size), Nat.lt_of_lt_of_le h.cgl hb.size, Nat.lt_of_lt_of_le h.sgl hb.size⟩
structure Dp7 (pb fd eg cg sg : Nat) (la : Option Addr) (B : Nat) : Prop where
  a1 : sg ≠ pb ∧ sg ≠ fd ∧ sg ≠ eg ∧ sg ≠ cg
  a2 : cg ≠ pb ∧ cg ≠ fd ∧ cg ≠ eg
  a3 : ∀ x, la = some x → x.block ≠ sg ∧ x.block ≠ cg
  a4 : B ≤ sg ∧ B ≤ cg
theorem PL7.next {D : List Int} {W n : Nat} {c : Pr7} {pb fd eg cg sg p : Nat} {la : Option Addr} {ln lc : Nat} {w wr w5 : World} (h : PL7 D W n c pb fd eg cg sg (p + 1) la ln lc w w5) (hd : Dp7 pb fd eg cg sg la w.heap.size) (hp : p < n) :
    PL7 D W n c pb fd eg cg sg p la ln lc w (((w5.setCell ⟨sg, p * 2, none⟩ (.int .u16 (lea7 D W c p).2.len)).setCell ⟨sg, p * 2 + 1, none⟩ (.int .u16 (lea7 D W c p).2.dist)).setCell ⟨cg, p, none⟩ (.int .i64 (lea7 D W c p).1)) := by
  obtain ⟨⟨a1, a2, a3, a4⟩, ⟨b1, b2, b3⟩, d, e1, e2⟩ := hd
  have k1 : Kp (fun k => k = sg ∨ k = cg) w5 (((w5.setCell ⟨sg, p * 2, none⟩ (.int .u16 (lea7 D W c p).2.len)).setCell ⟨sg, p * 2 + 1, none⟩ (.int .u16 (lea7 D W c p).2.dist)).setCell ⟨cg, p, none⟩ (.int .i64 (lea7 D W c p).1)) :=
    ((Kp.set (S := fun k => k = sg ∨ k = cg) (.inl rfl) _).trans (Kp.set (S := fun k => k = sg ∨ k = cg) (.inl rfl) _) (fun _ _ e => e)).trans (Kp.set (S := fun k => k = sg ∨ k = cg) (.inr rfl) _) (fun _ _ e => e)
  have hpx := k1.heap h.px (by rintro (e | e); exact a1 e.symm; exact b1 e.symm)
  have hfdl := h.pf.lt
  have hcs1 : RowI ((w5.setCell ⟨sg, p * 2, none⟩ (.int .u16 (lea7 D W c p).2.len)).setCell ⟨sg, p * 2 + 1, none⟩ (.int .u16 (lea7 D W c p).2.dist)) cg (n + 1) (cst7 D W c (p + 1)) := h.cs.of_block ((Below.heap_setCell _ _ _ _ (Ne.symm a4)).trans (Below.heap_setCell _ _ _ _ (Ne.symm a4)))
  have hcs2 := hcs1.set (i := p) (by omega) (lea7 D W c p).1
  have hst2 := h.st.set hp (lea7 D W c p).2.len (lea7 D W c p).2.dist
  have ec : updI (cst7 D W c (p + 1)) p (lea7 D W c p).1 = cst7 D W c p := by
    funext q
    unfold updI cst7
    by_cases e : q = p
    · subst e; rw [if_pos rfl, if_pos (Nat.le_refl _)]
    · rw [if_neg e]
      by_cases e2 : p + 1 ≤ q
      · rw [if_pos e2, if_pos (by omega)]
      · rw [if_neg e2, if_neg (by omega)]
  have es : updS (stp7 D W c (p + 1)) p ((lea7 D W c p).2.len, (lea7 D W c p).2.dist) = stp7 D W c p := by
    funext q
    unfold updS stp7
    by_cases e : q = p
    · subst e; rw [if_pos rfl, if_pos (Nat.le_refl _)]
    · rw [if_neg e]
      by_cases e2 : p + 1 ≤ q
      · rw [if_pos e2, if_pos (by omega)]
      · rw [if_neg e2, if_neg (by omega)]
  rw [ec] at hcs2
  rw [es] at hst2
  refine ⟨hpx, h.pf.of_block (k1.block fd hfdl (by rintro (e | e); exact a2 e.symm; exact b2 e.symm)), ⟨fun i hi => ?_⟩, ?_, hcs2, hst2.of_block (Below.heap_setCell _ _ _ _ a4), ((h.bel.setCell (p := ⟨sg, p * 2, none⟩) e1 _).setCell (p := ⟨sg, p * 2 + 1, none⟩) e1 _).setCell (p := ⟨cg, p, none⟩) e2 _, Nat.lt_of_lt_of_le h.cgl k1.size, Nat.lt_of_lt_of_le h.sgl k1.size⟩
  · obtain ⟨b, off, e, c0, c1⟩ := h.ls.at_ i hi
    have hbl := World.block_lt_of_cell? w5 _ c0
    obtain ⟨d1, d2⟩ := d _ e
    have hb := k1.block b hbl (by rintro (e | e); exact d1 e; exact d2 e)
    exact ⟨b, off, e, (World.cell?_of_block (a := ⟨b, off + i * 2, none⟩) hb).trans c0, (World.cell?_of_block (a := ⟨b, off + i * 2 + 1, none⟩) hb).trans c1⟩
  · have hegk : (((w5.setCell ⟨sg, p * 2, none⟩ (.int .u16 (lea7 D W c p).2.len)).setCell ⟨sg, p * 2 + 1, none⟩ (.int .u16 (lea7 D W c p).2.dist)).setCell ⟨cg, p, none⟩ (.int .i64 (lea7 D W c p).1)).heap[eg]? = w5.heap[eg]? := (Below.heap_setCell _ _ _ _ (Ne.symm b3)).trans ((Below.heap_setCell _ _ _ _ (Ne.symm a3)).trans (Below.heap_setCell _ _ _ _ (Ne.symm a3)))
    exact h.en.of_block hegk
theorem PL7.csAt {D : List Int} {W n : Nat} {c : Pr7} {pb fd eg cg sg p : Nat} {la : Option Addr} {ln lc : Nat} {w wr : World} (h : PL7 D W n c pb fd eg cg sg (p + 1) la ln lc w wr) (hn : D.length = n) : CsAt wr D W c p cg p := fun l h1 h2 => by
  have := h.cs.at_ (p + l) (by omega)
  unfold cst7 at this
  rw [if_pos (by omega)] at this
  exact this
end Go.Proofs.Ytaipfcfmhdigfaa
