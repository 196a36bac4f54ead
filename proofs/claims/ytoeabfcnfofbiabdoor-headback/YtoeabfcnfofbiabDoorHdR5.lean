
import Derived.Test.YtoeabfcnfofbiabDoorHdR4
import Derived.Test.YtoeabfcnfofbiabDoorLnInfo
import Derived.Deep.RegionHeld3
namespace Go.Proofs.YtoeabfcnfofbiabDoor
open Go.RowKit
set_option linter.unusedVariables false

/-! The document's Lens: the walk. -/
/-- A number behind a row of the call's own. -/
theorem wpList_appI {P : Program} {ops : Array Oper} {rest : List Oper} {o : Oper} {a : Act} {Q : Exit → Act → World → Prop} (hgd : o.guard = none) (s x : Operand) (t : TypeId)
    (ho : o.op = .call { callee := .builtin .append, args := #[s, x], argTypes := #[t, t] })
    (base : Nat) (e : TypeId) (i : TypeInfo) (z : Value) (bytes : Nat) (ht : P.underlying t = some (.slice e)) (hi : P.info? e = some i) (hz : i.zero = some z)
    (hsize : i.size = 1) (hby : i.bytes = bytes) (hzs : z.cells.size = 1) (w0 : World) (y : Int)
    {ra : Option Addr} {n rc : Nat} {l : List Int} (hown : w0.ownsRow base e 1 (.slice ra n rc) n (l.map (Value.int .i64))) (hs : a.eval s = .slice ra n rc) (hx : a.eval x = .slice (some ⟨w0.heap.size, 0, none⟩) 1 1)
    (h63 : n + 1 ≤ 140737488355328) (hbytes : (n + 1) * bytes ≤ 140737488355328) (hbase : base ≤ w0.heap.size)
    (h : ∀ (g : Nat) (c : Nat) (w' : World), w'.ownsRow base e 1 (.slice (some ⟨g, 0, none⟩) (n + 1) c) (n + 1) ((l ++ [y]).map (Value.int .i64)) → Kp (fun k => (Value.slice ra n rc).ownBlock = some k) w0 w' → ((Value.slice ra n rc).ownBlock = some g ∨ g = w0.heap.size + 1) → wpList P ops Q rest (a.put o.dst (.slice (some ⟨g, 0, none⟩) (n + 1) c)) w') : wpList P ops Q (o :: rest) a (w0.alloc (.cells #[.int .i64 y] e)) := by
  have hnew : ∀ j u, ([.int .i64 y] : List Value)[j]? = some u → (w0.alloc (.cells #[.int .i64 y] e)).cell? ((⟨w0.heap.size, 0, none⟩ : Addr).add j) = some u := by
    intro j u hu
    have hadd : (⟨w0.heap.size, 0, none⟩ : Addr).add j = ⟨w0.heap.size, j, none⟩ := by unfold Addr.add; split <;> simp_all
    rw [hadd]
    have hh := heap_alloc_new w0 (.cells #[.int .i64 y] e)
    simp only [World.cell?, hh]
    simpa using hu
  refine wpList_append_lies _ hgd s x t ho base e i z 1 bytes ht hi hz hsize hby hzs (by decide) _ n (l.map (Value.int .i64)) hs (hown.alloc _) ⟨w0.heap.size, 0, none⟩ 1 1 [.int .i64 y] hx rfl hnew (by intro u hu; simp only [List.mem_cons, List.not_mem_nil, or_false] at hu; subst hu; rfl) (by decide) (by unfold maxLen; omega) hbytes (by simp; omega) (w0.heap.size + 1) (by simp) ?_
  intro g c w' h1 h2 h3 _
  refine h g c w' (by rw [List.map_append]; exact h1) ?_ h3
  exact (Kp.alloc w0 _).trans (Kp.grown (S := fun k => (Value.slice ra n rc).ownBlock = some k) h2 (fun i e => e)) (fun _ _ e => e)
theorem end8_get : ∀ (l : List Int), 0 < l.length → end8 l = l.getD (l.length - 1) 0
  | [], h => by simp at h
  | [x], _ => rfl
  | x :: y :: r, _ => by
    have := end8_get (y :: r) (by simp)
    simpa [end8, List.getD] using this
theorem lng8_at {R : List Rn8} {i : Nat} (h : i < R.length) (out : List Int) : lng8 (R.drop i) out = if bad8 (R.getD i ⟨0, 0⟩) out.length then none else if 320 < (out ++ List.replicate (R.getD i ⟨0, 0⟩).ct.toNat (val8 (R.getD i ⟨0, 0⟩) out)).length then none else lng8 (R.drop (i + 1)) (out ++ List.replicate (R.getD i ⟨0, 0⟩).ct.toNat (val8 (R.getD i ⟨0, 0⟩) out)) := by
  have hd : R.drop i = R.getD i ⟨0, 0⟩ :: R.drop (i + 1) := by rw [List.drop_eq_getElem_cons h]; simp [List.getD, h]
  rw [hd, lng8]
def lzs8 (R : List Rn8) : List Int := (lens8 R).getD []
def ler8 (R : List Rn8) : Int := if (lens8 R).isSome then 0 else 81
theorem lzs8_none {R : List Rn8} (h : lens8 R = none) : lzs8 R = [] ∧ ler8 R = 81 := by unfold lzs8 ler8; rw [h]; exact ⟨rfl, rfl⟩
theorem lzs8_some {R : List Rn8} {l : List Int} (h : lens8 R = some l) : lzs8 R = l ∧ ler8 R = 0 := by unfold lzs8 ler8; rw [h]; exact ⟨rfl, rfl⟩
def LsQ (w : World) (ty : TypeId) (zs : List Int) (er : Int) (e : Ending) (w' : World) : Prop := ∃ oa oc, e = .returned (.tuple #[.slice oa zs.length oc, .int .i64 er]) ∧ w'.ownsRow w.heap.size ty 1 (.slice oa zs.length oc) zs.length (zs.map (Value.int .i64)) ∧ Below w.heap.size w w'
/-- How far Lens has come. -/
def LnI (R : List Rn8) (w wr : World) (ty : TypeId) (n : Nat) (to ti : Value) : Prop := ∃ (i m oc : Nat) (oa : Option Addr) (out : List Int), i ≤ n ∧ m ≤ 320 ∧ ti = .int .i64 (i : Int) ∧ to = .slice oa m oc ∧ out.length = m ∧ (∀ z ∈ out, 0 ≤ z ∧ z ≤ 15) ∧ lens8 R = lng8 (R.drop i) out ∧ wr.ownsRow w.heap.size ty 1 (.slice oa m oc) m (out.map (Value.int .i64)) ∧ Below w.heap.size w wr
/-- How far it has come within a run. -/
def LnK (out : List Int) (v : Int) (w wq : World) (ty : TypeId) (A c m : Nat) (to tk : Value) : Prop := ∃ (k m' oc : Nat) (oa : Option Addr), k ≤ c ∧ tk = .int .i64 (k : Int) ∧ to = .slice oa m' oc ∧ m' = m + k ∧ wq.ownsRow w.heap.size ty 1 (.slice oa m' oc) m' ((out ++ List.replicate k v).map (Value.int .i64)) ∧ Below w.heap.size w wq ∧ wq.cell? ⟨A, 1, none⟩ = some (.int .i64 (c : Int)) ∧ (Value.slice oa m' oc).ownBlock ≠ some A
theorem lst8_ge (s : Int) : 1 ≤ lst8 s := by unfold lst8; split; omega; split <;> omega
theorem grt8_le (s : Int) : grt8 s ≤ 138 := by unfold grt8; split; omega; split; omega; split <;> omega
end Go.Proofs.YtoeabfcnfofbiabDoor
