import Derived.Test.YteboaolflecibabDoorFlI
namespace Go.Proofs.YteboaolflecibabDoor
open Go.RowKit Go.Shelf
set_option linter.unusedVariables false
set_option linter.unusedSimpArgs false
def up21 (pa : Int → Int → Option Sh21) (x y : Int) (s : Sh21) : Int → Int → Option Sh21 := fun x' y' => if x' = x ∧ y' = y then some s else pa x' y'
def Fl21 (w : World) (b : Nat) (F : Nat → Prop) (S : Fs21) : Prop := ∃ m c f ta tc la lc V, Fi21 w b m c f ta tc la lc V S ∧ F b ∧ F m ∧ (∀ k, (Value.slice la S.lg.length lc).ownBlock = some k → F k) ∧ (∀ k, V k → F k) ∧ (∀ k, F k → k < w.heap.size)
/-- What a call of a device leaves: the device anew, and all else as it was. -/
def Fn21 (w w' : World) (b : Nat) (F : Nat → Prop) (S' : Fs21) : Prop := ∃ F', Fl21 w' b F' S' ∧ (∀ k, F' k → F k ∨ w.heap.size ≤ k) ∧ Kp F w w'
section
variable {w w' : World} {b m c tc lc : Nat} {f : Int → Int → Option Value} {ta la : Option Addr} {V V' : Nat → Prop} {S S' : Fs21}
theorem Fi21.put (h : Fi21 w b m c f ta tc la lc V S) (hk : Kp (fun k => k = m) w w') {f' : Int → Int → Option Value} {x y : Int} {v : Value} {s : Sh21} (hm : Mv21 w' m (c + 1) (fun x' y' => if x' = x ∧ y' = y then some v else f x' y')) (hV : ∀ k, V k → V' k)
    (hv : Sv21 w V' v s) (hc : c + 1 ≤ 8200 + S.lg.length) (vb : ¬ V' b) (vm : ¬ V' m) (vl : ∀ k, (Value.slice la S.lg.length lc).ownBlock = some k → ¬ V' k) (vs : ∀ k, V' k → k < w.heap.size) :
    Fi21 w' b m (c + 1) (fun x' y' => if x' = x ∧ y' = y then some v else f x' y') ta tc la lc V' { S with pa := up21 S.pa x y s } := by
  have hv' : ∀ k, V' k → w'.heap[k]? = w.heap[k]? := fun k e => hk.block k (vs k e) (fun e' => vm (e' ▸ e))
  refine ⟨(hk.block b h.bl (fun e => h.bm e)).trans h.hp, hm, fun x' y' => ?_, h.ht.kp (fun k e => hv' k (hV k e)) hV, ?_, hc, vb, vm, vl, fun k e => Nat.lt_of_lt_of_le (vs k e) hk.size⟩
  · simp only [up21]
    by_cases e : x' = x ∧ y' = y
    · rw [if_pos e, if_pos e]
      exact .inr ⟨s, v, rfl, rfl, hv.kp hv' (fun _ e => e)⟩
    · rw [if_neg e, if_neg e]
      rcases h.hf x' y' with h | ⟨s, v, q1, q2, q3⟩
      · exact .inl h
      · exact .inr ⟨s, v, q1, q2, q3.kp (fun k e => hv' k (hV k e)) hV⟩
  · refine ⟨h.hl.1, ?_⟩
    rcases h.hl.2 with q | ⟨g, cap, cur, q1, q2, q3, q4⟩
    · exact .inl q
    · have := h.lo (k := g) (by rw [q1]; rfl)
      exact .inr ⟨g, cap, cur, q1, q2, (hk.block g this.1 this.2.2).trans q3, q4⟩
end
end Go.Proofs.YteboaolflecibabDoor
