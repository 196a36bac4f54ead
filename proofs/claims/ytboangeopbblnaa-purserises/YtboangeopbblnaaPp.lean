import Derived.Test.YtboangeopbblnaaProg
import Derived.WalkKit
import Derived.WalkSpells
import Derived.Test.YtboangeopbblnaaPc
import Derived.Test.YtboangeopbblnaaPb
import Derived.Laws.AppendOwnNone
import Derived.Deep.QuietTactic
import Derived.BigQuiet
import Derived.Deep.RegionHeld3
import Derived.Test.YtboangeopbblnaaPo
import Derived.Deep.AppendLies
import Derived.Test.YtboangeopbblnaaPn
import Derived.Test.YtboangeopbblnaaPe
import Derived.WalkLawsBesides
import Derived.Deep.OwnRows
import Derived.Laws.CopyOwn
import Derived.Test.YtboangeopbblnaaPi
import Derived.Test.YtboangeopbblnaaPk
import Derived.Laws.MakeOwn
import Derived.Deep.RegionLaw
import Derived.Test.YtboangeopbblnaaPj
namespace Go.Proofs.Ytboangeopbblnaa
open Go.RowKit
set_option linter.unusedVariables false
structure TkAt (w : World) (g o : Nat) (t : Tok7) : Prop where
  c0 : w.cell? ⟨g, o, none⟩ = some (.int .u8 t.lit)
  c1 : w.cell? ⟨g, o + 1, none⟩ = some (.int .i64 t.len)
  c2 : w.cell? ⟨g, o + 2, none⟩ = some (.int .i64 t.dist)
theorem TkAt.of_block {w w' : World} {g o : Nat} {x : Tok7} (h : TkAt w g o x) (hb : w'.heap[g]? = w.heap[g]?) : TkAt w' g o x :=
  ⟨(World.cell?_of_block (a := ⟨g, o, none⟩) hb).trans h.c0, (World.cell?_of_block (a := ⟨g, o + 1, none⟩) hb).trans h.c1, (World.cell?_of_block (a := ⟨g, o + 2, none⟩) hb).trans h.c2⟩
theorem TkAt.lt {w : World} {g o : Nat} {x : Tok7} (h : TkAt w g o x) : g < w.heap.size := World.block_lt_of_cell? w _ h.c0
abbrev tk0 : Tok7 := ⟨0, 0, 0⟩
def Tok7.Fit (t : Tok7) : Prop := (0 ≤ t.lit ∧ t.lit ≤ 255) ∧ (-9223372036854775808 ≤ t.len ∧ t.len ≤ 9223372036854775807) ∧ (-9223372036854775808 ≤ t.dist ∧ t.dist ≤ 9223372036854775807)
structure SegT (w : World) (a : Option Addr) (l : List Tok7) : Prop where
  at_ : ∀ i, i < l.length → ∃ b off, a = some ⟨b, off, none⟩ ∧ TkAt w b (off + i * 3) (l.getD i tk0)
  fit : ∀ t ∈ l, t.Fit
theorem SegT.nil (w : World) (a : Option Addr) : SegT w a [] := ⟨fun i h => by simp at h, fun t h => by simp at h⟩
theorem SegT.kp {w w' : World} {S : Nat → Prop} {a : Option Addr} {l : List Tok7} (h : SegT w a l) (hb : Kp S w w') (hn : ∀ b off, a = some ⟨b, off, none⟩ → 0 < l.length → ¬ S b) : SegT w' a l := by
  refine ⟨fun i hi => ?_, h.fit⟩
  obtain ⟨b, off, ha, ht⟩ := h.at_ i hi
  exact ⟨b, off, ha, ht.of_block (hb.block b ht.lt (hn b off ha (by omega)))⟩
theorem SegT.old {w w' : World} {a : Option Addr} {l : List Tok7} (h : SegT w a l) (hb : Below w.heap.size w w') : SegT w' a l := h.kp (S := fun _ => False) (Kp.of_below hb) (fun _ _ _ _ e => e)
theorem SegT.lt {w : World} {a : Option Addr} {l : List Tok7} (h : SegT w a l) : ∀ b off, a = some ⟨b, off, none⟩ → 0 < l.length → b < w.heap.size := by
  intro b off e hl
  obtain ⟨b', off', ha, ht⟩ := h.at_ 0 hl
  rw [e] at ha
  cases ha
  exact ht.lt
theorem SegT.take {w : World} {a : Option Addr} {l : List Tok7} (h : SegT w a l) (n : Nat) : SegT w a (l.take n) := by
  refine ⟨fun i hi => ?_, fun t ht => h.fit t (List.mem_of_mem_take ht)⟩
  rw [List.length_take] at hi
  obtain ⟨b, off, ha, ht⟩ := h.at_ i (by omega)
  refine ⟨b, off, ha, ?_⟩
  have : (l.take n).getD i tk0 = l.getD i tk0 := by simp [List.getD, show i < n by omega]
  rw [this]
  exact ht
end Go.Proofs.Ytboangeopbblnaa

namespace Go.Proofs.Ytboangeopbblnaa
open Go.RowKit
set_option linter.unusedVariables false
structure LkAt (w : World) (g : Nat) (win chain : Int) (lazy : Bool) : Prop where
  c0 : w.cell? ⟨g, 0, none⟩ = some (.int .i64 win)
  c1 : w.cell? ⟨g, 1, none⟩ = some (.int .i64 chain)
  c2 : w.cell? ⟨g, 2, none⟩ = some (.bool lazy)
theorem LkAt.of_block {w w' : World} {g : Nat} {win chain : Int} {lazy : Bool} (h : LkAt w g win chain lazy) (hb : w'.heap[g]? = w.heap[g]?) : LkAt w' g win chain lazy :=
  ⟨(World.cell?_of_block (a := ⟨g, 0, none⟩) hb).trans h.c0, (World.cell?_of_block (a := ⟨g, 1, none⟩) hb).trans h.c1, (World.cell?_of_block (a := ⟨g, 2, none⟩) hb).trans h.c2⟩
theorem LkAt.lt {w : World} {g : Nat} {win chain : Int} {lazy : Bool} (h : LkAt w g win chain lazy) : g < w.heap.size := World.block_lt_of_cell? w _ h.c0
end Go.Proofs.Ytboangeopbblnaa

namespace Go.Proofs.Ytboangeopbblnaa
open Go.RowKit
set_option linter.unusedVariables false
/-- A tally in memory: its size, its more bits, how often each symbol stands there. -/
structure Ta9 (w : World) (b : Nat) (X : List Int) : Prop where
  len : X.length = 318
  hp : w.heap[b]? = some (.cells (arr X) 179 (0, 0))
  bd : ∀ z ∈ X, 0 ≤ z ∧ z ≤ 1125899906842624
theorem Ta9.lt {w : World} {b : Nat} {X : List Int} (h : Ta9 w b X) : b < w.heap.size := (Array.getElem?_eq_some_iff.1 h.hp).1
theorem Ta9.keep {w w' : World} {b : Nat} {X : List Int} (h : Ta9 w b X) (hb : w'.heap[b]? = w.heap[b]?) : Ta9 w' b X := ⟨h.len, hb.trans h.hp, h.bd⟩
theorem Ta9.cell {w : World} {b : Nat} {X : List Int} (h : Ta9 w b X) {i : Nat} (hi : i < 318) : w.cell? ⟨b, i, none⟩ = some (.int .i64 (X.getD i 0)) := by
  refine (cell_of_row w b i _ _ _ h.hp).trans ?_
  have : i < X.length := by rw [h.len]; exact hi
  simp [arr, List.getD, this]
theorem Ta9.free {w : World} {b : Nat} {X : List Int} (h : Ta9 w b X) (i : Nat) : w.frozen? ⟨b, i, none⟩ = false := frozen_of_row w b i _ _ h.hp
theorem Ta9.get {w : World} {b : Nat} {X : List Int} (h : Ta9 w b X) (i : Nat) : 0 ≤ X.getD i 0 ∧ X.getD i 0 ≤ 1125899906842624 := by
  by_cases hi : i < X.length
  · have hm : X.getD i 0 ∈ X := by simp only [List.getD, List.getElem?_eq_getElem hi, Option.getD_some]; exact List.getElem_mem hi
    exact h.bd _ hm
  · simp only [List.getD, List.getElem?_eq_none (Nat.le_of_not_lt hi), Option.getD_none]; omega
theorem Ta9.set {w : World} {b : Nat} {X : List Int} (h : Ta9 w b X) {i : Nat} (hi : i < 318) (v : Int) (hv : 0 ≤ v ∧ v ≤ 1125899906842624) : Ta9 (w.setCell ⟨b, i, none⟩ (.int .i64 v)) b (X.set i v) := by
  refine ⟨by rw [List.length_set]; exact h.len, ?_, fun z hz => ?_⟩
  · rw [heap_setCell_same w b i _ _ _ h.hp]
    simp [arr, List.map_set]
  · rcases List.mem_or_eq_of_mem_set hz with h1 | rfl
    · exact h.bd z h1
    · exact hv
end Go.Proofs.Ytboangeopbblnaa

namespace Go.Proofs.Ytboangeopbblnaa
open Go.RowKit
set_option linter.unusedVariables false
theorem De.kp11 {w w' : World} {d n : Nat} {zs : List Int} {Q : Nat → Prop} (h : De w d n zs) (hk : Kp Q w w') (hn : ¬ Q d) : De w' d n zs := h.keep (hk.block d (by obtain ⟨S, _, _, q⟩ := h.row; exact (Array.getElem?_eq_some_iff.1 q).1) hn)
section
variable {W wr : World} {b g S : Nat} {L K K0 : List Int} {H : List Bool} {t dl dd hd : Nat} {win lim nx most : Int} {last : Bool} {bf tk pg : Nat}
end
end Go.Proofs.Ytboangeopbblnaa

namespace Go.Proofs.Ytboangeopbblnaa
open Go.RowKit
set_option linter.unusedVariables false
/-- Ints at an offset of a block. -/
structure Cel8 (w : World) (b o : Nat) (L : List Int) : Prop where
  at_ : ∀ i, i < L.length → w.cell? ⟨b, o + i, none⟩ = some (.int .i64 (L.getD i 0))
/-- The decoder within a reader of lengths. -/
structure De8 (w : World) (b most : Nat) (zs : List Int) : Prop where
  ok : errC zs = 0
  mo : 1 ≤ most ∧ most ≤ 288
  row : ∃ S, S.length = 288 ∧ SymOk zs S zs.length ∧ Cel8 w b 347 (dl most zs S)
theorem De8.keep {w w' : World} {b n : Nat} {zs : List Int} (h : De8 w b n zs) (hb : ∀ i, i < 306 → w'.cell? ⟨b, 347 + i, none⟩ = w.cell? ⟨b, 347 + i, none⟩) : De8 w' b n zs := by
  obtain ⟨S, h1, h2, h3⟩ := h.row
  exact ⟨h.ok, h.mo, S, h1, h2, ⟨fun i hi => (hb i (by simp [dl, tbl_len h1] at hi; omega)).trans (h3.at_ i hi)⟩⟩
end Go.Proofs.Ytboangeopbblnaa

namespace Go.Proofs.Ytboangeopbblnaa
open Go.RowKit
set_option linter.unusedVariables false
/-- A block that holds a reader of lengths: what stands ahead of its decoder, and the code that is loaded. -/
structure Rb8 (w : World) (b : Nat) (pre : List Value) (zs : List Int) : Prop where
  ok : errC zs = 0
  len : pre.length = 347
  row : ∃ S, S.length = 288 ∧ SymOk zs S zs.length ∧ w.heap[b]? = some (.cells (pre ++ (dl 19 zs S).map (Value.int .i64)).toArray 126 (0, 0))
theorem pre_cell8 {w : World} {b : Nat} {pre post : List Value} {t : TypeId} (h : w.heap[b]? = some (.cells (pre ++ post).toArray t (0, 0))) {i : Nat} {v : Value} (hv : pre[i]? = some v) : w.cell? ⟨b, i, none⟩ = some v := by
  refine (cell_of_row w _ i _ _ _ h).trans ?_
  have := (List.getElem?_eq_some_iff.1 hv).1
  simp [List.getElem?_append_left this, hv]
theorem Rb8.lt {w : World} {b : Nat} {pre : List Value} {zs : List Int} (h : Rb8 w b pre zs) : b < w.heap.size := by
  obtain ⟨S, _, _, h⟩ := h.row
  exact (Array.getElem?_eq_some_iff.1 h).1
theorem Rb8.keep {w w' : World} {b : Nat} {pre : List Value} {zs : List Int} (h : Rb8 w b pre zs) (hb : w'.heap[b]? = w.heap[b]?) : Rb8 w' b pre zs := by
  obtain ⟨S, h1, h2, h3⟩ := h.row
  exact ⟨h.ok, h.len, S, h1, h2, hb.trans h3⟩
end Go.Proofs.Ytboangeopbblnaa

namespace Go.Proofs.Ytboangeopbblnaa
open Go.RowKit
set_option linter.unusedVariables false
def tld8 (ck : List Int → Int) (lit dist : List Int) : Prop := 257 ≤ lit.length ∧ lit.length ≤ 286 ∧ dist.length ≤ 30 ∧ ck lit = 0 ∧ ck dist = 0 ∧ lit.getD 256 0 ≠ 0
instance (ck : List Int → Int) (lit dist : List Int) : Decidable (tld8 ck lit dist) := by unfold tld8; infer_instance
end Go.Proofs.Ytboangeopbblnaa

namespace Go.Proofs.Ytboangeopbblnaa
open Go.RowKit
set_option linter.unusedVariables false
theorem WrL.below {w w' : World} {b B N : Nat} {v : Value} {L : List Bool} (h : WrL w b B v L) (hk : Kp (WS b v) w w') (h1 : N ≤ b) (h2 : N ≤ B) : Below N w w' :=
  hk.below (fun i e => by
    rcases e with e | e
    · omega
    · have := (h.own_lt i e).1; omega) (by have := h.b_lt; omega)
end Go.Proofs.Ytboangeopbblnaa
