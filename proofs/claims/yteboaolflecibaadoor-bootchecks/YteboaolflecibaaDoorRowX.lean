import Derived.Test.YteboaolflecibaaDoorBtMem
import Derived.Laws.Rows
import Derived.Laws.Tables
import Derived.Deep.MidRow
namespace Go.Proofs.YteboaolflecibaaDoor
open Go.RowKit
set_option linter.unusedVariables false
set_option linter.unusedSimpArgs false
theorem modify_congr25 {α : Type} (a : Array α) (i : Nat) (f g : α → α) (x : α) (hx : a[i]? = some x) (h : f x = g x) : a.modify i f = a.modify i g := by
  apply Array.ext_getElem?
  intro j
  rw [Array.getElem?_modify, Array.getElem?_modify]
  by_cases e : i = j
  · subst e; simp [hx, h]
  · simp [e]
theorem setCell_row25 {w : World} {b i : Nat} {v : Value} {cs : Array Value} {t : TypeId} {fr : Nat × Nat} (h : w.heap[b]? = some (.cells cs t fr)) : w.setCell ⟨b, i, none⟩ v = w.setRow b (cs.setIfInBounds i v) := by
  unfold World.setCell World.setRow
  simp only
  congr 1
  exact modify_congr25 _ _ _ _ _ h (by simp)
theorem setRow_self25 {w : World} {b : Nat} {c : Array Value} {t : TypeId} {fr : Nat × Nat} (h : w.heap[b]? = some (.cells c t fr)) : w.setRow b c = w := by
  obtain ⟨hp, tp, dr, os, ou⟩ := w
  simp only [World.setRow, World.mk.injEq, and_true, true_and]
  apply Array.ext_getElem?
  intro j
  rw [Array.getElem?_modify]
  by_cases e : b = j
  · subst e
    simp only at h
    simp [h]
  · simp [e]
end Go.Proofs.YteboaolflecibaaDoor
