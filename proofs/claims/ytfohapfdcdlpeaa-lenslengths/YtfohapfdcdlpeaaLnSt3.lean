
import Derived.Test.YtfohapfdcdlpeaaLnCp3
namespace Go.Proofs.Ytfohapfdcdlpeaa
open Go.RowKit
set_option linter.unusedVariables false

theorem own_free3 {w : World} {base n g cap : Nat} {e : TypeId} {xs : List Value} (h : w.ownsRow base e 3 (.slice (some ⟨g, 0, none⟩) n cap) n xs) (j : Nat) : w.frozen? ⟨g, j, none⟩ = false := by
  rcases h.2 with ⟨h', _⟩ | ⟨g', cap', cur, h', _, hg, _⟩
  · simp at h'
  · simp only [Value.slice.injEq, Option.some.injEq, Addr.mk.injEq, and_true, true_and] at h'
    obtain ⟨rfl, rfl⟩ := h'
    exact frozen_of_row w g j cur e hg
/-- What the store of an item of three cells leaves: the list with one put in. -/
theorem ins_stored {w : World} {base g cap N k p : Nat} {e : TypeId} {L : List Rm} {z : List Value} (hL : L.length = k) (hp : p ≤ k) (hz : z.length = 3) (x : Rm)
    (h : w.ownsRow base e 3 (.slice (some ⟨g, 0, none⟩) (k + 1) cap) (k + 1) (splice (flatR N L ++ z) ((p + 1) * 3) (((flatR N L ++ z).drop (p * 3)).take ((k - p) * 3)))) :
    (((w.setCell ⟨g, p * 3, none⟩ (.int .i64 x.wt)).setCell ⟨g, p * 3 + 1, none⟩ (.bool x.lf)).setCell ⟨g, p * 3 + 2, none⟩ (.slice (some ⟨x.gc, 0, none⟩) N N)).ownsRow base e 3 (.slice (some ⟨g, 0, none⟩) (k + 1) cap) (k + 1) (flatR N (L.take p ++ x :: L.drop p))
      ∧ w.grownBy (((w.setCell ⟨g, p * 3, none⟩ (.int .i64 x.wt)).setCell ⟨g, p * 3 + 1, none⟩ (.bool x.lf)).setCell ⟨g, p * 3 + 2, none⟩ (.slice (some ⟨x.gc, 0, none⟩) N N)) (some g) := by
  obtain ⟨h1, g1⟩ := h.stored (p * 3) (.int .i64 x.wt)
  obtain ⟨h2, g2⟩ := h1.stored (p * 3 + 1) (.bool x.lf)
  obtain ⟨h3, g3⟩ := h2.stored (p * 3 + 2) (.slice (some ⟨x.gc, 0, none⟩) N N)
  have e1 := ins_cells N L p (by omega) z hz x
  rw [hL] at e1
  rw [e1] at h3
  exact ⟨h3, grownBy_trans (grownBy_trans g1 g2) g3⟩
/-- The cells that are stored over. -/
theorem ins_there {w : World} {base g cap N k p : Nat} {e : TypeId} {xs : List Value} (hp : p ≤ k) (h : w.ownsRow base e 3 (.slice (some ⟨g, 0, none⟩) (k + 1) cap) (k + 1) xs) : ∃ y0 y1 y2, w.cell? ⟨g, p * 3, none⟩ = some y0 ∧ w.cell? ⟨g, p * 3 + 1, none⟩ = some y1 ∧ w.cell? ⟨g, p * 3 + 2, none⟩ = some y2 := by
  have hl := h.1
  have c0 := h.cellAt (p * 3) (by omega)
  have c1 := h.cellAt (p * 3 + 1) (by omega)
  have c2 := h.cellAt (p * 3 + 2) (by omega)
  rw [List.getElem?_eq_getElem (by omega)] at c0 c1 c2
  exact ⟨_, _, _, c0, c1, c2⟩
/-- Blocks of ints stay where a row of items grows and is written. -/
theorem leaves_keep {W1 w2 w3 w4 w5 : World} {g2 q : Nat} (BQ : Below W1.heap.size W1 w2) (hk : ∀ q, IntB w2 q → w3.heap[q]? = w2.heap[q]? ∧ q ≠ g2) (h4 : w3.drew.grownBy w4 (some g2)) (h5 : w4.grownBy w5 (some g2)) (h : IntB W1 q) : w5.heap[q]? = W1.heap[q]? := by
  have e1 := BQ.block q h.lt
  have i2 := h.keep e1
  obtain ⟨e2, hne⟩ := hk q i2
  have i3 := i2.keep e2
  have e3 : w4.heap[q]? = w3.heap[q]? := h4.block q i3.lt (by simpa using hne)
  have i4 := i3.keep e3
  have e4 := h5.block q i4.lt (by simpa using hne)
  rw [e4, e3, e2, e1]
theorem itF_ins (A : List (Nat × Nat)) (p : Nat) (x : Nat × Nat) : itF (A.take p ++ x :: A.drop p) = (itF A).take p ++ (x.1, [x.2]) :: (itF A).drop p := by
  simp [itF, List.map_take, List.map_drop]
/-- What the row means with one put in. -/
theorem leaves_mean {zs : List Int} {N i v p k gc : Nat} {W1 w5 : World} {L : List Rm} (hz : zs.getD i 0 = (v : Int)) (hv : ¬ v = 0) (hp : p ≤ k) (hL : L.length = k) (hM : M3 N W1 L (itF (LFk zs i))) (hk : ∀ x ∈ L, w5.heap[x.gc]? = W1.heap[x.gc]?)
    (hs : SegZ W1 (some ⟨gc, 0, none⟩) (cnt N [i])) (hg : w5.heap[gc]? = W1.heap[gc]?) (hlo : ∀ j, j < p → (L.getD j rm0).wt ≤ (v : Int)) (hex : p = (LFk zs i).length ∨ v < ((LFk zs i).getD p (0, 0)).1) :
    M3 N w5 (L.take p ++ (⟨(v : Int), true, gc⟩ : Rm) :: L.drop p) (itF (LFk zs (i + 1))) := by
  have hl := hM.len
  rw [itF_len] at hl
  have e1 : LFk zs (i + 1) = (LFk zs i).take p ++ (v, i) :: (LFk zs i).drop p := by
    rw [LFk_put (by rw [hz]; omega), hz]
    refine insP_at _ _ p (by omega) (fun j hj => ?_) hex
    have h1 := hM.wt j (by omega)
    have h2 := hlo j hj
    have h3 : ((itF (LFk zs i)).getD j it0).1 = ((LFk zs i).getD j (0, 0)).1 := by
      have h4 : j < (LFk zs i).length := by omega
      simp [itF, List.getD, h4]
    rw [h1, h3] at h2
    show _ ≤ ((v : Int)).toNat
    omega
  rw [e1, itF_ins]
  refine (hM.keep hk).ins (M3.one rfl ?_) p
  exact hs.of_cells fun b off j u _ ha hc => by
    cases ha
    exact (World.cell?_of_block (a := ⟨gc, 0 + j, none⟩) hg).trans hc
end Go.Proofs.Ytfohapfdcdlpeaa
