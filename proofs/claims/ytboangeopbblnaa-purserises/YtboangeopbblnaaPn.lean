import Derived.Test.YtboangeopbblnaaPm
import Derived.WalkKit
import Derived.Test.YtboangeopbblnaaPe
import Derived.Test.YtboangeopbblnaaProg
import Derived.Test.YtboangeopbblnaaPb
import Derived.Deep.AppendLies
import Derived.Deep.QuietTactic
import Derived.BigQuiet
import Derived.Laws.Rows
import Derived.Laws.Tables
import Derived.Laws.CopyOwn
namespace Go.Proofs.Ytboangeopbblnaa
open Go.RowKit
set_option linter.unusedVariables false
set_option linter.unusedSimpArgs false
theorem cons_cell0 {w : World} {b : Nat} {x y : Value} {Sf : List Value} {T : TypeId} (h : w.heap[b]? = some (.cells (x :: y :: Sf).toArray T (0, 0))) : w.cell? ⟨b, 0, none⟩ = some x := by simp [World.cell?, h]
theorem cons_cell1 {w : World} {b : Nat} {x y : Value} {Sf : List Value} {T : TypeId} (h : w.heap[b]? = some (.cells (x :: y :: Sf).toArray T (0, 0))) : w.cell? ⟨b, 1, none⟩ = some y := by simp [World.cell?, h]
theorem cons_free {w : World} {b : Nat} {c : Array Value} {T : TypeId} (h : w.heap[b]? = some (.cells c T (0, 0))) (i : Nat) : w.frozen? ⟨b, i, none⟩ = false := by simp [World.frozen?, h]
theorem cons_set1 {w : World} {b : Nat} {x y : Value} {Sf : List Value} {T : TypeId} (h : w.heap[b]? = some (.cells (x :: y :: Sf).toArray T (0, 0))) (u : Value) : (w.setCell ⟨b, 1, none⟩ u).heap[b]? = some (.cells (x :: u :: Sf).toArray T (0, 0)) := by
  simp [World.setCell, Array.getElem?_modify, h]
structure RPkO (T : TypeId) (Sf : List Value) (w : World) (b g S : Nat) (L K : List Int) : Prop where
  hp : w.heap[b]? = some (.cells (.slice (some ⟨g, 0, none⟩) S S :: .int .i64 (L.length : Int) :: Sf).toArray T (0, 0))
  hk : w.heap[g]? = some (.cells (K.map (Value.int .u8)).toArray 5 (0, 0))
  rd : Rnd S L K
  ne : b ≠ g
  bd : ∀ z ∈ L, 0 ≤ z ∧ z ≤ 255
  s1 : 1 ≤ S
  s2 : S ≤ 32768
variable {T : TypeId} {Sf : List Value} {w w' : World} {b g S : Nat} {F Q : Nat → Prop} {L K : List Int}
theorem RPkO.b_lt (h : RPkO T Sf w b g S L K) : b < w.heap.size := (Array.getElem?_eq_some_iff.1 h.hp).1
theorem RPkO.g_lt (h : RPkO T Sf w b g S L K) : g < w.heap.size := (Array.getElem?_eq_some_iff.1 h.hk).1
theorem RPkO.c0 (h : RPkO T Sf w b g S L K) : w.cell? ⟨b, 0, none⟩ = some (.slice (some ⟨g, 0, none⟩) S S) := cons_cell0 h.hp
theorem RPkO.c1 (h : RPkO T Sf w b g S L K) : w.cell? ⟨b, 1, none⟩ = some (.int .i64 (L.length : Int)) := cons_cell1 h.hp
theorem RPkO.kp (h : RPkO T Sf w b g S L K) (hk : Kp Q w w') (hn : Dj (FP b g) Q) : RPkO T Sf w' b g S L K :=
  ⟨hk.heap h.hp (fun e => hn b (.inl rfl) e), hk.heap h.hk (fun e => hn g (.inr rfl) e), h.rd, h.ne, h.bd, h.s1, h.s2⟩
theorem RPkO.old (h : RPkO T Sf w b g S L K) (hb : Below w.heap.size w w') : RPkO T Sf w' b g S L K := h.kp (Q := fun _ => False) (Kp.of_below hb) (fun _ _ e => e)
theorem RPkO.drew (h : RPkO T Sf w b g S L K) : RPkO T Sf w.drew b g S L K := ⟨h.hp, h.hk, h.rd, h.ne, h.bd, h.s1, h.s2⟩
theorem RPkO.seg (h : RPkO T Sf w b g S L K) : Seg w (some ⟨g, 0, none⟩) K := by
  refine ⟨fun i hi => ⟨g, 0, rfl, ?_⟩, by decide, getD_bd (by decide) h.rd.bd⟩
  rw [Nat.zero_add]
  simp [World.cell?, h.hk, List.getD, hi]

set_option maxRecDepth 100000 in
theorem pmade_o (h : RPkO T Sf w b g S L K) : Calls Try.prog 58 #[.pointer (some ⟨b, 0, none⟩)] w fun e w' => e = .returned (.bool true) ∧ w' = w := by
  have c0 := h.c0
  have h1 : (0 : Int) < (S : Int) := by have := h.s1; omega
  have h2 : 0 < S := h.s1
  clear h
  go_enter Try.func58, Try.ntmps58
  go_wp2_with fail
  go_ret
  exact ⟨rfl, rfl⟩
set_option maxRecDepth 100000 in
theorem proom_o (h : RPkO T Sf w b g S L K) : Calls Try.prog 52 #[.pointer (some ⟨b, 0, none⟩)] w fun e w' => e = .returned (.int .i64 (S : Int)) ∧ w' = w := by
  have c0 := h.c0
  clear h
  go_enter Try.func52, Try.ntmps52
  go_wp2_with fail
  go_ret
  exact ⟨rfl, rfl⟩
set_option maxRecDepth 100000 in
set_option maxHeartbeats 1000000 in
theorem preset_k_o (h : RPkO T Sf w b g S L K) : Calls Try.prog 50 #[.pointer (some ⟨b, 0, none⟩)] w fun e w' => e = .returned (.tuple #[]) ∧ RPkO T Sf w' b g S [] (List.replicate S 0) ∧ Kp (FP b g) w w' := by
  have CM := pmade_o h
  have c0 := h.c0
  have hne := h.ne
  have h1 := h.s1
  have h2 := h.s2
  have hcl := fun ty => run_clear6 (g := g) ty K S h.rd.len h1 h.hk
  obtain ⟨wC, hwC⟩ : ∃ wC, wC = w.setRow g ((List.replicate S (0 : Int)).map (Value.int .u8)).toArray := ⟨_, rfl⟩
  rw [← hwC] at hcl
  have kC : Kp (fun x => x = g) w wC := by rw [hwC]; exact Kp.setRow (Q := fun x => x = g) rfl _ _
  have hgC : wC.heap[g]? = some (.cells ((List.replicate S (0 : Int)).map (Value.int .u8)).toArray 5 (0, 0)) := by rw [hwC]; exact setRow_heap w g _ _ _ _ h.hk
  have hbC := kC.heap h.hp hne
  have c1C := cons_cell1 hbC
  have f1C := cons_free hbC 1
  have HB : Hid _ := hbC
  have HG : Hid _ := hgC
  clear hwC h hbC hgC
  go_enter Try.func50, Try.ntmps50
  go_wp2_with fail
  refine CM.mono ?_
  rintro e w1 ⟨rfl, rfl⟩
  go_wp2_with fail
  go_end0
  have k5 : Kp (fun x => x = b) wC (wC.setCell ⟨b, 1, none⟩ (.int .i64 0)) := Kp.set (S := fun x => x = b) rfl _
  refine ⟨rfl, ⟨cons_set1 HB.out _, k5.heap HG.out (fun e => hne e.symm), ⟨by simp, noughts_bd6 S, by simp⟩, hne, by simp, h1, h2⟩, (kC.mono (S' := FP b g) (fun _ _ e => .inr e)).trans k5 (fun _ _ e => .inl e)⟩
end Go.Proofs.Ytboangeopbblnaa

namespace Go.Proofs.Ytboangeopbblnaa
set_option linter.unusedVariables false
structure Rn8 where
  sy : Int
  ct : Int
def lst8 (s : Int) : Int := if s = 16 ∨ s = 17 then 3 else if s = 18 then 11 else 1
def grt8 (s : Int) : Int := if s = 16 then 6 else if s = 17 then 10 else if s = 18 then 138 else 1
def mor8 (s : Int) : Nat := if s = 16 then 2 else if s = 17 then 3 else if s = 18 then 7 else 0
def bad8 (r : Rn8) (n : Nat) : Prop := r.sy < 0 ∨ 18 < r.sy ∨ r.ct < lst8 r.sy ∨ grt8 r.sy < r.ct ∨ (r.sy = 16 ∧ n = 0)
instance (r : Rn8) (n : Nat) : Decidable (bad8 r n) := by unfold bad8; infer_instance
end Go.Proofs.Ytboangeopbblnaa

namespace Go.Proofs.Ytboangeopbblnaa
open Go.RowKit
set_option linter.unusedVariables false
def snsL : List Int := [0, 1, 0, 1, 1, 0, 2, 1, 0, 3, 1, 0, 4, 1, 0, 5, 1, 0, 6, 1, 0, 7, 1, 0, 8, 1, 0, 9, 1, 0, 10, 1, 0, 11, 1, 0, 12, 1, 0, 13, 1, 0, 14, 1, 0, 15, 1, 0, -1, 3, 2, 0, 3, 3, 0, 11, 7]
def ordL : List Int := [16, 17, 18, 0, 8, 7, 9, 6, 10, 5, 11, 4, 12, 3, 13, 2, 14, 1, 15]
abbrev TabS (w : World) : Prop := SegZ w (some ⟨0, 0, none⟩) snsL
end Go.Proofs.Ytboangeopbblnaa

namespace Go.Proofs.Ytboangeopbblnaa
open Go.RowKit
set_option linter.unusedVariables false
structure SegN (w : World) (a : Option Addr) (R : List Rn8) : Prop where
  at_ : ∀ i, i < R.length → ∃ b off, a = some ⟨b, off, none⟩ ∧ w.cell? ⟨b, off + i * 2, none⟩ = some (.int .i64 (R.getD i ⟨0, 0⟩).sy) ∧ w.cell? ⟨b, off + i * 2 + 1, none⟩ = some (.int .i64 (R.getD i ⟨0, 0⟩).ct)
theorem SegN.old {w w' : World} {a : Option Addr} {R : List Rn8} (h : SegN w a R) (hb : Below w.heap.size w w') : SegN w' a R :=
  ⟨fun i hi => by
    obtain ⟨b, off, e, c1, c2⟩ := h.at_ i hi
    have hl := World.block_lt_of_cell? w _ c1
    exact ⟨b, off, e, (hb.cell (p := ⟨b, off + i * 2, none⟩) hl).trans c1, (hb.cell (p := ⟨b, off + i * 2 + 1, none⟩) hl).trans c2⟩⟩
end Go.Proofs.Ytboangeopbblnaa

namespace Go.Proofs.Ytboangeopbblnaa
open Go.RowKit
set_option linter.unusedVariables false
def may8 (zs : List Int) : Prop := zs.length ≤ 320 ∧ ∀ z ∈ zs, 0 ≤ z ∧ z ≤ 15
instance (zs : List Int) : Decidable (may8 zs) := by unfold may8; infer_instance
end Go.Proofs.Ytboangeopbblnaa

namespace Go.Proofs.Ytboangeopbblnaa
open Go.RowKit
set_option linter.unusedVariables false
theorem TabS.below {w w' : World} {B : Nat} (h : TabS w) (hb : Below B w w') (hB : B = w.heap.size) : TabS w' := by subst hB; exact SegZ.old h hb
end Go.Proofs.Ytboangeopbblnaa

namespace Go.Proofs.Ytboangeopbblnaa
open Go.RowKit
set_option linter.unusedVariables false
theorem TabS.one {w : World} (h : TabS w) (i : Nat) (z : Int) (hi : i < 57) (hz : snsL.getD i 0 = z) : w.cell? ⟨0, i, none⟩ = some (.int .i64 z) := by
  obtain ⟨b, o, e, c⟩ := h.at_ i hi
  cases e
  rw [Nat.zero_add, hz] at c
  exact c
end Go.Proofs.Ytboangeopbblnaa

namespace Go.Proofs.Ytboangeopbblnaa
open Go.RowKit
set_option linter.unusedVariables false
theorem Kp.cellN {S : Nat → Prop} {a b : World} {k o : Nat} {v : Value} (h : Kp S a b) (hc : a.cell? ⟨k, o, none⟩ = some v) (hn : ¬ S k) : b.cell? ⟨k, o, none⟩ = some v := by
  have hl := World.block_lt_of_cell? a _ hc
  have := h.block k hl hn
  simp only [World.cell?] at hc ⊢
  rw [this]
  exact hc
theorem SegN.kp {S : Nat → Prop} {a b : World} {la : Option Addr} {L : List Rn8} (h : SegN a la L) (hk : Kp S a b) (hn : ∀ g o, la = some ⟨g, o, none⟩ → ¬ S g) : SegN b la L :=
  ⟨fun i hi => by
    obtain ⟨g, o, e, c1, c2⟩ := h.at_ i hi
    exact ⟨g, o, e, hk.cellN c1 (hn _ _ e), hk.cellN c2 (hn _ _ e)⟩⟩
end Go.Proofs.Ytboangeopbblnaa
