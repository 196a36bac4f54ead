import Derived.Test.YtmjlpfmacblcpaaDoorBoTa
import Derived.Test.YtmjlpfmacblcpaaDoorBoX0
import Derived.Test.YtmjlpfmacblcpaaDoorAnK
import Derived.Deep.MidRow
namespace Go.Proofs.YtmjlpfmacblcpaaDoor
open Go.RowKit Go.Shelf
set_option linter.unusedVariables false
set_option linter.unusedSimpArgs false
theorem ld_good25 {W : World} {b : Nat} {t : TypeId} {fr : Nat × Nat} {r : Rc25} (h : W.heap[b]? = some (.cells r.cs t fr)) : W.rangeAt b 1 r.g.cs.toList := range25 h (fun j v hv => by
  match j with
  | 0 => exact hv
  | 1 => exact hv
  | 2 => exact hv
  | 3 => exact hv
  | n + 4 => cases hv)
theorem ld_next25 {W : World} {b : Nat} {t : TypeId} {fr : Nat × Nat} {r : Rc25} (h : W.heap[b]? = some (.cells r.cs t fr)) : W.rangeAt b 5 r.n.cs.toList := range25 h (fun j v hv => by
  match j with
  | 0 => exact hv
  | 1 => exact hv
  | 2 => exact hv
  | 3 => exact hv
  | n + 4 => cases hv)
theorem wpList_ldI25 {P : Program} {ops : Array Oper} {rest : List Oper} {op : Oper} {a : Act} {w : World} {Q : Exit → Act → World → Prop} (hgd : op.guard = none) (ty : TypeId) (x : Operand) (ho : op.op = .load ty x)
    (b o : Nat) (hx : a.eval x = .pointer (some ⟨b, o, none⟩)) (i : Im25) (d : TypeDesc) (hc : w.rangeAt b o i.cs.toList) (hu : P.underlying ty = some d) (hd : d.isRow = true) (hi : (P.info? ty).map (·.size) = some 4)
    (h : wpList P ops Q rest (a.put op.dst (.agg i.cs)) w) : wpList P ops Q (op :: rest) a w :=
  wpList_load_mid hgd ty x ho b o hx i.cs.toList d hc hu hd hi h
theorem yields_img25 {P : Program} {ops : Array Oper} {S : World → Prop} {op : Oper} {a : Act} (hw : Region.wanted op (yielded ops a.tmps) = true) (ty : TypeId) (x : Operand) (ho : op.op = .load ty x)
    (b o : Nat) (hx : a.eval x = .pointer (some ⟨b, o, none⟩)) (i : Im25) (d : TypeDesc) (hS : ∀ w, S w → w.rangeAt b o i.cs.toList) (hu : P.underlying ty = some d) (hd : d.isRow = true) (hi : (P.info? ty).map (·.size) = some 4) : YieldsIf P ops S op (.agg i.cs) a :=
  yieldsIf_load_mid hw ty x ho b o hx i.cs.toList d hS hu hd hi
/-- A guarded operation whose guard is met is as one without a guard. -/
theorem wpList_ung25 {P : Program} {ops : Array Oper} {Q : Exit → Act → World → Prop} {a : Act} {w : World} {rest : List Oper} {o : Oper} (hw : Region.wanted o (yielded ops a.tmps) = true) (h : wpList P ops Q ({ o with guard := none } :: rest) a w) : wpList P ops Q (o :: rest) a w := by
  unfold wpList at h ⊢
  rw [if_pos hw]
  rw [if_pos (by simp [Region.wanted])] at h
  exact h
/-- What holds at the head of BootTries' loop, and behind the switch of its round. -/
structure St25 (w wr : World) (ba : Nat) (r : Rc25) (l : Int) : Prop where
  row : wr.heap[ba]? = some (.cells r.cs 63 (0, 0))
  below : Below w.heap.size w wr
  iv : Iv25 r l
theorem St25.at_ {w wr : World} {ba : Nat} {r : Rc25} {l : Int} (h : St25 w wr ba r l) : 0 ≤ r.t ∧ r.t ≤ l ∧ l ≤ 15 ∧ 0 ≤ l := ⟨h.iv.1.2.1.1, h.iv.2.1, h.iv.2.2, by have := h.iv.1.2.1.1; have := h.iv.2.1; omega⟩
end Go.Proofs.YtmjlpfmacblcpaaDoor
