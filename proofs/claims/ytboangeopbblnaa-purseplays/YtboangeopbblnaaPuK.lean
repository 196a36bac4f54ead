
import Derived.Test.YtboangeopbblnaaPuJ
import Derived.Sort.Walk0
import Derived.Laws.Strings
import Derived.Laws.Cover1
namespace Go.Proofs.Ytboangeopbblnaa
open Go.RowKit Go.Maps Go.WideMaps Go.MuLone Go.Shelf
set_option linter.unusedVariables false
set_option linter.unusedSimpArgs false
set_option maxRecDepth 100000

/-! Rows of strings, of ints; strings held against each other. -/
theorem own_at23 {w : World} {B n : Nat} {t : TypeId} {v : Value} {xs : List Value} (h : w.ownsRow B t 1 v n xs) :
    ∃ ra rc, v = .slice ra n rc ∧ n = xs.length ∧ ∀ j x, xs[j]? = some x → ∃ g, ra = some ⟨g, 0, none⟩ ∧ B ≤ g ∧ g < w.heap.size ∧ w.cell? ⟨g, j, none⟩ = some x := by
  have hn : n = xs.length := by have := h.1; omega
  rcases h.2 with ⟨h1, h0⟩ | ⟨g, cp, cur, h1, h2, h3, h4, h5, h6, h7⟩
  · subst h0
    refine ⟨none, 0, h1, hn, fun j x hx => ?_⟩
    have : xs = [] := List.eq_nil_of_length_eq_zero hn.symm
    subst this; simp at hx
  · refine ⟨_, _, h1, hn, fun j x hx => ⟨g, rfl, h2, (Array.getElem?_eq_some_iff.1 h3).1, ?_⟩⟩
    have hc := h.cells (g := g) (by rw [h1]; rfl) j x hx
    have hadd : (⟨g, 0, none⟩ : Addr).add j = ⟨g, 0 + j, none⟩ := by unfold Addr.add; split <;> simp_all
    rw [hadd, Nat.zero_add] at hc
    exact hc
theorem str_leq23 {P : Program} {a b : ByteArray} (h : kb23 b < kb23 a) (t : TypeId) (w : World) : (binOp .leq t (.string a) (.string b)).run P w = .ok (.bool false) w := by
  have h1 : Op.bytesLess a.toList b.toList = false := by
    rw [ByteArray.toList_eq, ByteArray.toList_eq, bytesLess_eq]
    exact decide_eq_false (fun e => List.lt_irrefl _ (List.lt_trans e h))
  have h2 : (a.toList == b.toList) = false := by
    rw [ByteArray.toList_eq, ByteArray.toList_eq]
    exact beq_eq_false_iff_ne.2 (fun e => by unfold kb23 at h; rw [e] at h; exact List.lt_irrefl _ h)
  rw [binOp_string_leq, h1, h2]
  rfl
theorem str_facts23 {a b : ByteArray} (h : kb23 b < kb23 a) : Op.bytesLess a.toList b.toList = false ∧ ¬ a.toList = b.toList := by
  rw [ByteArray.toList_eq, ByteArray.toList_eq, bytesLess_eq]
  exact ⟨decide_eq_false (fun e => List.lt_irrefl _ (List.lt_trans e h)), fun e => by unfold kb23 at h; rw [e] at h; exact List.lt_irrefl _ h⟩
theorem str_neq23 {P : Program} (a : ByteArray) (t : TypeId) (w : World) : (binOp .neq t (.string a) (.string a)).run P w = .ok (.bool false) w := by
  rw [binOp_string_neq]
  simp
/-- The most that was held, told step by step. -/
theorem hS23_pk (S : Pu23) (h : Ok23 S) (s : ByteArray) (n : Int) : (hS23 S s n).pk = max S.pk (hs23 (hS23 S s n).L) := by
  unfold hS23
  by_cases c : hE23 S s n = 0
  · rw [if_pos c]
  · rw [if_neg c]; have := h.hb; omega
theorem hS23_len (S : Pu23) (s : ByteArray) (n : Int) : (hS23 S s n).L.length = S.L.length := by
  unfold hS23
  by_cases c : hE23 S s n = 0
  · rw [if_pos c]; exact up23_len _ _ _
  · rw [if_neg c]
end Go.Proofs.Ytboangeopbblnaa
