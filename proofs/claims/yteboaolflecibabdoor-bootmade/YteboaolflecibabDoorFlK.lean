import Derived.Test.YteboaolflecibabDoorFlJ
namespace Go.Proofs.YteboaolflecibabDoor
open Go.RowKit Go.Shelf
set_option linter.unusedVariables false
set_option linter.unusedSimpArgs false
theorem Fl21.old {w w' : World} {b : Nat} {F : Nat → Prop} {S : Fs21} (h : Fl21 w b F S) (hb : Below w.heap.size w w') : Fl21 w' b F S := by
  obtain ⟨m, c, f, ta, tc, la, lc, V, h1, h2, h3, h4, h5, h6⟩ := h
  exact ⟨m, c, f, ta, tc, la, lc, V, h1.old hb, h2, h3, h4, h5, fun k e => Nat.lt_of_lt_of_le (h6 k e) hb.size⟩
theorem Fn21.from {w w1 w' : World} {b : Nat} {F : Nat → Prop} {S : Fs21} (h : Fn21 w1 w' b F S) (hb : Below w.heap.size w w1) : Fn21 w w' b F S := by
  obtain ⟨F', h1, h2, h3⟩ := h
  exact ⟨F', h1, fun k e => by rcases h2 k e with h | h; (exact .inl h); (exact .inr (Nat.le_trans hb.size h)), (Kp.of_below hb).trans h3 (fun _ _ e => e)⟩
theorem Fl21.lt {w : World} {b : Nat} {F : Nat → Prop} {S : Fs21} (h : Fl21 w b F S) : b < w.heap.size := by
  obtain ⟨m, c, f, ta, tc, la, lc, V, h1, _⟩ := h
  exact h1.bl
theorem Fl21.kp {w w' : World} {b : Nat} {F : Nat → Prop} {S : Fs21} (h : Fl21 w b F S) (hk : ∀ k, F k → w'.heap[k]? = w.heap[k]?) (hs : w.heap.size ≤ w'.heap.size) : Fl21 w' b F S := by
  obtain ⟨m, c, f, ta, tc, la, lc, V, h1, h2, h3, h4, h5, h6⟩ := h
  exact ⟨m, c, f, ta, tc, la, lc, V, h1.kp (hk b h2) (hk m h3) (fun k e => hk k (h4 k e)) (fun k e => hk k (h5 k e)) hs, h2, h3, h4, h5, fun k e => Nat.lt_of_lt_of_le (h6 k e) hs⟩
end Go.Proofs.YteboaolflecibabDoor
