
import Derived.Test.YtjoghmdjnkdokaaDoorRfH
import Derived.Deep.RegionLaw
import Derived.Deep.CutRange
namespace Go.Proofs.YtjoghmdjnkdokaaDoor
open Go.RowKit Go.Shelf
set_option linter.unusedVariables false
set_option linter.unusedSimpArgs false

/-! The document's flash: New, walked. -/
/-- What holds while New lays area a: the areas ahead are laid, cur is a's slice. -/
structure Nd21 (w W : World) (b p q : Nat) (ac : Int) (sl : Array Value) (S : Fs21) (a : Nat) (g c : Nat → Nat) (A : Nat → List Pd21) (cur : Value) : Prop where
  bl : Below w.heap.size w W
  gs : W.heap[w.heap.size]? = some (.cells sl 27 (0, 0))
  hp : W.heap[b]? = some (.cells #[.int .i64 (p : Int), .int .i64 (q : Int), .int .i64 ac, (if 0 < a then .slice (some ⟨g 0, 0, none⟩) (A 0).length (c 0) else if a = 0 then cur else .slice none 0 0), (if 1 < a then .slice (some ⟨g 1, 0, none⟩) (A 1).length (c 1) else if a = 1 then cur else .slice none 0 0), .slice none 0 0, .slice none 0 0, .bool false, .int .i64 0, .slice none 0 0, .int .i64 0] 46 (0, 0))
  ar : ∀ x, x < a → Ac21 w.heap.size W S x (g x) (c x) (A x)
  gi : ∀ x y, x < a → y < a → x ≠ y → g x ≠ g y
  bN : w.heap.size ≤ b
section
variable {w W W' : World} {b p q : Nat} {ac : Int} {sl : Array Value} {S : Fs21} {a : Nat} {g c : Nat → Nat} {A : Nat → List Pd21} {cur : Value}
theorem Nd21.lt (h : Nd21 w W b p q ac sl S a g c A cur) : b < W.heap.size := (Array.getElem?_eq_some_iff.1 h.hp).1
theorem Nd21.cel (h : Nd21 w W b p q ac sl S a g c A cur) (ha : a < 2) : W.cell? ⟨b, 3 + a, none⟩ = some cur := by
  rcases (show a = 0 ∨ a = 1 by omega) with rfl | rfl
  · simp [World.cell?, h.hp]
  · simp [World.cell?, h.hp]
theorem Nd21.fr (h : Nd21 w W b p q ac sl S a g c A cur) (i : Nat) : W.frozen? ⟨b, i, none⟩ = false := by simp [World.frozen?, h.hp]
/-- Only new blocks. -/
theorem Nd21.old (h : Nd21 w W b p q ac sl S a g c A cur) (hb : Below W.heap.size W W') : Nd21 w W' b p q ac sl S a g c A cur := by
  have hkb : KB21 W W' := fun k cur e => hb.block k (Array.getElem?_eq_some_iff.1 e).1
  refine ⟨h.bl.trans (hb.mono h.bl.size), (hb.block _ (Array.getElem?_eq_some_iff.1 h.gs).1).trans h.gs, (hb.block b h.lt).trans h.hp, fun x hx => ?_, h.gi, h.bN⟩
  obtain ⟨X, hX⟩ := (h.ar x hx).1
  exact (h.ar x hx).kb hkb (hb.block _ (Array.getElem?_eq_some_iff.1 hX).1)
/-- The area's slice anew: all is kept but b and a row of pages that is none of the laid ones. -/
theorem Nd21.put (h : Nd21 w W b p q ac sl S a g c A cur) (ha : a < 2) {Q : Nat → Prop} {W1 : World} (hk : Kp Q W W1) (hQ : ∀ k, Q k → w.heap.size ≤ k ∧ (∀ x, x < a → k ≠ g x) ∧ k ≠ b ∧ (∀ cur : Array Value, W.heap[k]? ≠ some (Obj.cells cur 5 (0, 0))) ∧ (∀ cur : Array Value, W.heap[k]? ≠ some (Obj.cells cur 27 (0, 0)))) (v : Value) :
    Nd21 w (W1.setCell ⟨b, 3 + a, none⟩ v) b p q ac sl S a g c A v := by
  have hk2 : Kp (fun k => k = b ∨ Q k) W (W1.setCell ⟨b, 3 + a, none⟩ v) := (hk.mono (fun _ _ e => .inr e)).trans (Kp.set (S := fun k => k = b ∨ Q k) (.inl rfl) _) (fun _ _ e => e)
  have hkb : KB21 W (W1.setCell ⟨b, 3 + a, none⟩ v) := fun k cur e => hk2.block k (Array.getElem?_eq_some_iff.1 e).1 (fun q => by
    rcases q with q | q
    · subst q; rw [h.hp] at e; injection e with e; injection e with _ e _; exact absurd e (by decide)
    · exact (hQ k q).2.2.2.1 cur e)
  have hb1 : W1.heap[b]? = W.heap[b]? := hk.block b h.lt (fun e => (hQ b e).2.2.1 rfl)
  refine ⟨h.bl.trans (hk2.below (fun i e => ?_) h.bl.size), ?_, ?_, fun x hx => ?_, h.gi, h.bN⟩
  · rcases e with e | e
    · rw [e]; exact h.bN
    · exact (hQ i e).1
  · refine (hk2.block _ (Array.getElem?_eq_some_iff.1 h.gs).1 (fun q => ?_)).trans h.gs
    rcases q with q | q
    · have := h.hp; rw [← q, h.gs] at this; injection this with e; injection e with _ e _; exact absurd e (by decide)
    · exact (hQ _ q).2.2.2.2 _ h.gs
  · have := hb1.trans h.hp
    rcases (show a = 0 ∨ a = 1 by omega) with rfl | rfl
    · simp [World.setCell, Array.getElem?_modify, this]
    · simp [World.setCell, Array.getElem?_modify, this]
  · obtain ⟨X, hX⟩ := (h.ar x hx).1
    refine (h.ar x hx).kb hkb (hk2.block _ (Array.getElem?_eq_some_iff.1 hX).1 (fun q => ?_))
    rcases q with q | q
    · have := h.hp; rw [← q, hX] at this; injection this with e; injection e with _ e _; exact absurd e (by decide)
    · exact (hQ _ q).2.1 x hx rfl
end
theorem Nd21.next {w W : World} {b p q : Nat} {ac : Int} {sl : Array Value} {S : Fs21} {a : Nat} {g c : Nat → Nat} {A : Nat → List Pd21} {r cap n : Nat} {L : List Pd21} (h : Nd21 w W b p q ac sl S a g c A (.slice (some ⟨r, 0, none⟩) n cap)) (ha : a < 2) (hL : L.length = n) (hac : Ac21 w.heap.size W S a r cap L) (hr : ∀ x, x < a → r ≠ g x) :
    ∃ g' c' A', Nd21 w W b p q ac sl S (a + 1) g' c' A' (.slice none 0 0) := by
  refine ⟨fun x => if x = a then r else g x, fun x => if x = a then cap else c x, fun x => if x = a then L else A x, h.bl, h.gs, ?_, fun x hx => ?_, fun x y hx hy hne => ?_, h.bN⟩
  · have := h.hp
    rcases (show a = 0 ∨ a = 1 by omega) with rfl | rfl
    · simpa [hL] using this
    · simpa [hL] using this
  · by_cases e : x = a
    · subst e; simpa using hac
    · simpa [e] using h.ar x (by omega)
  · by_cases e : x = a
    · have e2 : ¬ y = a := by omega
      simp only [e, if_true, e2, if_false]; exact hr y (by omega)
    · by_cases e2 : y = a
      · simp only [e, if_false, e2, if_true]; exact fun q => hr x (by omega) q.symm
      · simp only [e, e2, if_false]; exact h.gi x y (by omega) (by omega) hne
end Go.Proofs.YtjoghmdjnkdokaaDoor
