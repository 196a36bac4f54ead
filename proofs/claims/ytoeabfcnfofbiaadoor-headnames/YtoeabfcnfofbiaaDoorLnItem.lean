
import Derived.Test.YtoeabfcnfofbiaaDoorBtMem
import Derived.Test.YtoeabfcnfofbiaaDoorProg
import Derived.WalkKit
import Derived.WalkSpells
import Derived.BigQuiet
import Derived.BigRegion
import Derived.Deep.QuietTactic
import Derived.Deep.MidRow
namespace Go.Proofs.YtoeabfcnfofbiaaDoor
open Go.RowKit
set_option linter.unusedVariables false

/-! Items: four cells. -/
structure Im where
  wt : Int
  sy : Int
  fs : Option Addr
  sn : Option Addr
def Im.val (x : Im) : Value := .agg #[.int .i64 x.wt, .int .i64 x.sy, .pointer x.fs, .pointer x.sn]
structure ItAt (w : World) (g o : Nat) (x : Im) : Prop where
  c0 : w.cell? ⟨g, o, none⟩ = some (.int .i64 x.wt)
  c1 : w.cell? ⟨g, o + 1, none⟩ = some (.int .i64 x.sy)
  c2 : w.cell? ⟨g, o + 2, none⟩ = some (.pointer x.fs)
  c3 : w.cell? ⟨g, o + 3, none⟩ = some (.pointer x.sn)
theorem ItAt.of_block {w w' : World} {g o : Nat} {x : Im} (h : ItAt w g o x) (hb : w'.heap[g]? = w.heap[g]?) : ItAt w' g o x :=
  ⟨(World.cell?_of_block (a := ⟨g, o, none⟩) hb).trans h.c0, (World.cell?_of_block (a := ⟨g, o + 1, none⟩) hb).trans h.c1, (World.cell?_of_block (a := ⟨g, o + 2, none⟩) hb).trans h.c2, (World.cell?_of_block (a := ⟨g, o + 3, none⟩) hb).trans h.c3⟩
theorem ItAt.lt {w : World} {g o : Nat} {x : Im} (h : ItAt w g o x) : g < w.heap.size := World.block_lt_of_cell? w _ h.c0
/-- A row of items. -/
structure RowAt (w : World) (g off n : Nat) (X : Nat → Im) : Prop where
  at_ : ∀ k, k < n → ItAt w g (off + k * 4) (X k)
theorem RowAt.of_block {w w' : World} {g off n : Nat} {X : Nat → Im} (h : RowAt w g off n X) (hb : w'.heap[g]? = w.heap[g]?) : RowAt w' g off n X := ⟨fun k hk => (h.at_ k hk).of_block hb⟩
theorem RowAt.drewN {w : World} {g off n : Nat} {X : Nat → Im} (h : RowAt w g off n X) (q : Nat) : RowAt (w.drewN q) g off n X := h.of_block rfl
/-- Four cells set. -/
def setIt (w : World) (g o : Nat) (x : Im) : World := (((w.setCell ⟨g, o, none⟩ (.int .i64 x.wt)).setCell ⟨g, o + 1, none⟩ (.int .i64 x.sy)).setCell ⟨g, o + 2, none⟩ (.pointer x.fs)).setCell ⟨g, o + 3, none⟩ (.pointer x.sn)

theorem sc_same {w : World} {g o : Nat} {v : Value} {u : Value} (h : w.cell? ⟨g, o, none⟩ = some u) : (w.setCell ⟨g, o, none⟩ v).cell? ⟨g, o, none⟩ = some v := World.cell?_setCell_same _ _ _ h
theorem sc_other {w : World} {g o p : Nat} {v : Value} (h : o ≠ p) : (w.setCell ⟨g, o, none⟩ v).cell? ⟨g, p, none⟩ = w.cell? ⟨g, p, none⟩ := World.cell?_setCell_other _ _ _ _ (by intro e; cases e; exact h rfl)
theorem setIt_same {w : World} {g o : Nat} {x y : Im} (h : ItAt w g o y) : ItAt (setIt w g o x) g o x := by
  unfold setIt
  refine ⟨?_, ?_, ?_, ?_⟩
  · rw [sc_other (by omega), sc_other (by omega), sc_other (by omega)]; exact sc_same h.c0
  · rw [sc_other (by omega), sc_other (by omega)]; exact sc_same (by rw [sc_other (by omega)]; exact h.c1)
  · rw [sc_other (by omega)]; exact sc_same (by rw [sc_other (by omega), sc_other (by omega)]; exact h.c2)
  · exact sc_same (by rw [sc_other (by omega), sc_other (by omega), sc_other (by omega)]; exact h.c3)
theorem setIt_cell {w : World} {g o p : Nat} {x : Im} (h : p < o ∨ o + 4 ≤ p) : (setIt w g o x).cell? ⟨g, p, none⟩ = w.cell? ⟨g, p, none⟩ := by
  unfold setIt
  rw [sc_other (by omega), sc_other (by omega), sc_other (by omega), sc_other (by omega)]
theorem setIt_other {w : World} {g o p : Nat} {x y : Im} (h : p + 4 ≤ o ∨ o + 4 ≤ p) (hy : ItAt w g p y) : ItAt (setIt w g o x) g p y :=
  ⟨by rw [setIt_cell (by omega)]; exact hy.c0, by rw [setIt_cell (by omega)]; exact hy.c1, by rw [setIt_cell (by omega)]; exact hy.c2, by rw [setIt_cell (by omega)]; exact hy.c3⟩
theorem setIt_grown (w : World) (g o : Nat) (x : Im) : w.grownBy (setIt w g o x) (some g) := grownBy_set (grownBy_set (grownBy_set (grownBy_set (World.grownBy.refl _ _) _) _) _) _
def upd (X : Nat → Im) (i : Nat) (x : Im) : Nat → Im := fun k => if k = i then x else X k
theorem RowAt.set {w : World} {g off n i : Nat} {X : Nat → Im} (h : RowAt w g off n X) (hi : i < n) (x : Im) : RowAt (setIt w g (off + i * 4) x) g off n (upd X i x) := by
  refine ⟨fun k hk => ?_⟩
  unfold upd
  by_cases e : k = i
  · subst e; rw [if_pos rfl]; exact setIt_same (h.at_ k hk)
  · rw [if_neg e]; exact setIt_other (by omega) (h.at_ k hk)
def swI (X : Nat → Im) (i j : Nat) : Nat → Im := upd (upd X i (X j)) j (X i)
theorem swI_at (X : Nat → Im) (i j k : Nat) : swI X i j k = if k = j then X i else if k = i then X j else X k := rfl
theorem RowAt.swap {w : World} {g off n i j : Nat} {X : Nat → Im} (h : RowAt w g off n X) (hi : i < n) (hj : j < n) : RowAt (setIt (setIt w g (off + i * 4) (X j)) g (off + j * 4) (X i)) g off n (swI X i j) := (h.set hi _).set hj _
theorem free_set {w : World} {g : Nat} (hf : ∀ k, w.frozen? ⟨g, k, none⟩ = false) (o : Nat) (v : Value) : ∀ k, (w.setCell ⟨g, o, none⟩ v).frozen? ⟨g, k, none⟩ = false := by
  intro k
  rw [← hf k]
  simp
theorem free_setIt {w : World} {g : Nat} (hf : ∀ k, w.frozen? ⟨g, k, none⟩ = false) (o : Nat) (x : Im) : ∀ k, (setIt w g o x).frozen? ⟨g, k, none⟩ = false := free_set (free_set (free_set (free_set hf _ _) _ _) _ _) _ _

end Go.Proofs.YtoeabfcnfofbiaaDoor
