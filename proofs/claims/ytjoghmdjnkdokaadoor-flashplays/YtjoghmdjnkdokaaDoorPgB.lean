
import Derived.Test.YtjoghmdjnkdokaaDoorPgA
import Derived.Deep.OwnRows
import Derived.Deep.RegionHeld3
namespace Go.Proofs.YtjoghmdjnkdokaaDoor
open Go.RowKit Go.Shelf
set_option linter.unusedVariables false
set_option linter.unusedSimpArgs false

/-! The landed page: New, left. -/
section
variable {w w' : World} {v s g b pg : Nat} {F : Nat → Prop} {S : Fs21} {P P' : Pw22}
theorem seven_set22 {w : World} {b : Nat} {x0 x1 x2 x3 x4 x5 x6 : Value} {t : TypeId} (h : w.heap[b]? = some (.cells #[x0, x1, x2, x3, x4, x5, x6] t (0, 0))) (u : Value) :
    (w.setCell ⟨b, 3, none⟩ u).heap[b]? = some (.cells #[x0, x1, x2, u, x4, x5, x6] t (0, 0)) ∧ (w.setCell ⟨b, 4, none⟩ u).heap[b]? = some (.cells #[x0, x1, x2, x3, u, x5, x6] t (0, 0)) ∧ (w.setCell ⟨b, 5, none⟩ u).heap[b]? = some (.cells #[x0, x1, x2, x3, x4, u, x6] t (0, 0)) ∧ (w.setCell ⟨b, 6, none⟩ u).heap[b]? = some (.cells #[x0, x1, x2, x3, x4, x5, u] t (0, 0)) := by
  simp [World.setCell, Array.getElem?_modify, h]
theorem set_other22 (w : World) {s i k : Nat} (u : Value) (h : k ≠ s) : (w.setCell ⟨s, i, none⟩ u).heap[k]? = w.heap[k]? := by
  have h' : ¬ s = k := fun e => h e.symm
  simp [World.setCell, Array.getElem?_modify, h']
theorem Wr22.setC (h : Wr22 w v s g b pg P) (x : Int) : Wr22 (w.setCell ⟨s, 6, none⟩ (.int .i64 x)) v s g b pg { P with cl := x } := by
  obtain ⟨Y, hY, hl⟩ := h.hg
  exact ⟨(set_other22 w _ h.ne_vs).trans h.hv, (seven_set22 h.hs _).2.2.2, Y, (set_other22 w _ h.ne_sg.symm).trans hY, hl⟩
theorem Wr22.setW (h : Wr22 w v s g b pg P) (n : Nat) : Wr22 (w.setCell ⟨s, 5, none⟩ (.int .i64 (n : Int))) v s g b pg { P with wn := n } := by
  obtain ⟨Y, hY, hl⟩ := h.hg
  exact ⟨(set_other22 w _ h.ne_vs).trans h.hv, (seven_set22 h.hs _).2.2.1, Y, (set_other22 w _ h.ne_sg.symm).trans hY, hl⟩
theorem Wr22.setP (h : Wr22 w v s g b pg P) (n : Nat) : Wr22 (w.setCell ⟨s, 4, none⟩ (.int .i64 (n : Int))) v s g b pg { P with pn := n } := by
  obtain ⟨Y, hY, hl⟩ := h.hg
  exact ⟨(set_other22 w _ h.ne_vs).trans h.hv, (seven_set22 h.hs _).2.1, Y, (set_other22 w _ h.ne_sg.symm).trans hY, hl⟩
theorem Wr22.setH (h : Wr22 w v s g b pg P) : Wr22 (w.setCell ⟨s, 3, none⟩ (.int .i64 0)) v s g b pg { P with bf := [] } := by
  obtain ⟨Y, hY, hl, hb⟩ := h.hg
  exact ⟨(set_other22 w _ h.ne_vs).trans h.hv, (seven_set22 h.hs _).1, P.bf ++ Y, (set_other22 w _ h.ne_sg.symm).trans hY, by simpa using hl, hb⟩
theorem Pe22.put (h : Pe22 w v s g b F S P) (hk : Kp (fun k => k = s ∨ k = g) w w') (hw : Wr22 w' v s g b S.pg P') : Pn22 w w' v s g b F S P' := by
  refine ⟨F, ⟨h.fl.kp (fun k e => ?_) hk.size, hw, h.nv, h.ns, h.ng⟩, fun _ e => .inl e, hk.mono (fun i _ e => .inr e)⟩
  have hlt : k < w.heap.size := by
    obtain ⟨m, c, f, ta, tc, la, lc, V, h1, h2, h3, h4, h5, h6⟩ := h.fl
    exact h6 k e
  refine hk.block k hlt (fun q => ?_)
  rcases q with q | q
  · exact h.ns (q ▸ e)
  · exact h.ng (q ▸ e)
def mx22 (S : Fs21) : Nat := S.pg * S.ps
theorem mx22_bd (hO : Ok21 S) : mx22 S ≤ 16777216 := by
  have h1 := hO.pg
  have h2 := hO.ps
  unfold mx22
  have := Nat.mul_le_mul h1.2 h2.2
  omega
theorem info_u8z22 : (Tryd.prog.info? 5).map (fun i => (i.zero, i.size, i.bytes)) = some (some (.int .u8 0), 1, 1) := by kernel_rfl
theorem made_zeros22 (n : Nat) : madeCells #[.int .u8 0] n = ((List.replicate n (0 : Int)).map (Value.int .u8)).toArray := by
  apply Array.toList_inj.1
  rw [toList_madeCells_one]
  simp
theorem run_make22 (n : Nat) (h : n ≤ 281474976710656) (w : World) :
    (Instr.makeSlice 22 (.int .i64 (n : Int)) (.int .i64 (n : Int))).run Tryd.prog w = .ok (.slice (some ⟨w.heap.size, 0, none⟩) n n) (w.alloc (.cells ((List.replicate n (0 : Int)).map (Value.int .u8)).toArray 5)) := by
  rw [← made_zeros22]
  exact run_make_row' 22 5 (.int .u8 0) 1 Tryd.underlying22 info_u8z22 rfl .i64 .i64 n (by omega) (by omega) w
theorem flds22 (p q : Int) (W : World) : (Instr.field 29 (.agg #[.int .i64 p, .int .i64 q]) 0).run Tryd.prog W = .ok (.int .i64 p) W := by kernel_rfl
/-- What New leaves. -/
def Nw22 (w w' : World) (b : Nat) (F : Nat → Prop) (S : Fs21) (e : Ending) : Prop := ∃ v s g, e = .returned (.tuple #[.pointer (some ⟨v, 0, none⟩), .int .i64 0]) ∧ Pe22 w' v s g b F S ⟨1 - S.ac, [], 0, 0, 0⟩ ∧ Below w.heap.size w w' ∧ w.heap.size ≤ v ∧ w.heap.size ≤ s ∧ w.heap.size ≤ g
end
end Go.Proofs.YtjoghmdjnkdokaaDoor
