import Derived.Test.YtmfpdchfofffeaaGreatDoorProg
import Derived.Test.YtmfpdchfofffeaaGreatDoorLnSeg
import Derived.WalkKit
import Derived.WalkSpells
import Derived.BigQuiet
import Derived.Deep.QuietTactic
import Derived.WalkLawsBesides
import Derived.Deep.OwnRows
import Derived.Deep.AppendLies
namespace Go.Proofs.YtmfpdchfofffeaaGreatDoor
open Go.RowKit
set_option linter.unusedVariables false
theorem info_i12 : (Tryz.prog.info? 3).map (fun i => (i.zero, i.size, i.bytes)) = some (some (.int .i64 0), 1, 8) := by kernel_rfl
theorem info_b12 : (Tryz.prog.info? 4).map (fun i => (i.zero, i.size, i.bytes)) = some (some (.bool false), 1, 1) := by kernel_rfl
def vi12 (A : List Int) : Array Value := (A.map (Value.int .i64)).toArray
def vb12 (A : List Bool) : Array Value := (A.map Value.bool).toArray
structure Rz12 (w : World) (g : Nat) (A : List Int) : Prop where
  hp : w.heap[g]? = some (.cells (vi12 A) 3 (0, 0))
structure Rb12 (w : World) (g : Nat) (A : List Bool) : Prop where
  hp : w.heap[g]? = some (.cells (vb12 A) 4 (0, 0))
theorem run_make_i12 (n : Nat) (h : n * 8 ≤ 140737488355328) (w : World) :
    (Instr.makeSlice 95 (.int .i64 (n : Int)) (.int .i64 (n : Int))).run Tryz.prog w = .ok (.slice (some ⟨w.heap.size, 0, none⟩) n n) (w.alloc (.cells (vi12 (List.replicate n 0)) 3)) := by
  have e : madeCells #[.int .i64 0] n = vi12 (List.replicate n 0) := by
    apply Array.toList_inj.1
    rw [toList_madeCells_one]
    simp [vi12]
  rw [← e]
  exact run_make_row' 95 3 (.int .i64 0) 8 Tryz.underlying95 info_i12 rfl .i64 .i64 n (by omega) (by omega) w
theorem run_make_b12 (n : Nat) (h : n ≤ 140737488355328) (w : World) :
    (Instr.makeSlice 281 (.int .i64 (n : Int)) (.int .i64 (n : Int))).run Tryz.prog w = .ok (.slice (some ⟨w.heap.size, 0, none⟩) n n) (w.alloc (.cells (vb12 (List.replicate n false)) 4)) := by
  have e : madeCells #[.bool false] n = vb12 (List.replicate n false) := by
    apply Array.toList_inj.1
    rw [toList_madeCells_one]
    simp [vb12]
  rw [← e]
  exact run_make_row' 281 4 (.bool false) 1 Tryz.underlying281 info_b12 rfl .i64 .i64 n (by omega) (by omega) w
theorem Rz12.new (w : World) (A : List Int) : Rz12 (w.alloc (.cells (vi12 A) 3)) w.heap.size A := ⟨heap_alloc_new w _⟩
theorem Rb12.new (w : World) (A : List Bool) : Rb12 (w.alloc (.cells (vb12 A) 4)) w.heap.size A := ⟨heap_alloc_new w _⟩
theorem Rz12.lt {w : World} {g : Nat} {A : List Int} (h : Rz12 w g A) : g < w.heap.size := (Array.getElem?_eq_some_iff.1 h.hp).1
theorem Rb12.lt {w : World} {g : Nat} {A : List Bool} (h : Rb12 w g A) : g < w.heap.size := (Array.getElem?_eq_some_iff.1 h.hp).1
theorem Rz12.cell {w : World} {g : Nat} {A : List Int} (h : Rz12 w g A) {i : Nat} (hi : i < A.length) : w.cell? ⟨g, i, none⟩ = some (.int .i64 (A.getD i 0)) := by
  simp [World.cell?, h.hp, vi12, hi, List.getD]
theorem Rb12.cell {w : World} {g : Nat} {A : List Bool} (h : Rb12 w g A) {i : Nat} (hi : i < A.length) : w.cell? ⟨g, i, none⟩ = some (.bool (A.getD i false)) := by
  simp [World.cell?, h.hp, vb12, hi, List.getD]
theorem Rz12.free {w : World} {g : Nat} {A : List Int} (h : Rz12 w g A) (i : Nat) : w.frozen? ⟨g, i, none⟩ = false := by simp [World.frozen?, h.hp]
theorem Rb12.free {w : World} {g : Nat} {A : List Bool} (h : Rb12 w g A) (i : Nat) : w.frozen? ⟨g, i, none⟩ = false := by simp [World.frozen?, h.hp]
theorem Rz12.set {w : World} {g : Nat} {A : List Int} (h : Rz12 w g A) (i : Nat) (x : Int) : Rz12 (w.setCell ⟨g, i, none⟩ (.int .i64 x)) g (A.set i x) := by
  refine ⟨?_⟩
  simp [World.setCell, Array.getElem?_modify, h.hp, vi12, List.map_set]
theorem Rb12.set {w : World} {g : Nat} {A : List Bool} (h : Rb12 w g A) (i : Nat) (x : Bool) : Rb12 (w.setCell ⟨g, i, none⟩ (.bool x)) g (A.set i x) := by
  refine ⟨?_⟩
  simp [World.setCell, Array.getElem?_modify, h.hp, vb12, List.map_set]
theorem Rz12.kp {w w' : World} {S : Nat → Prop} {g : Nat} {A : List Int} (h : Rz12 w g A) (hk : Kp S w w') (hn : ¬ S g) : Rz12 w' g A := ⟨hk.heap h.hp hn⟩
theorem Rb12.kp {w w' : World} {S : Nat → Prop} {g : Nat} {A : List Bool} (h : Rb12 w g A) (hk : Kp S w w') (hn : ¬ S g) : Rb12 w' g A := ⟨hk.heap h.hp hn⟩
theorem Rz12.old {w w' : World} {g : Nat} {A : List Int} (h : Rz12 w g A) (hb : Below w.heap.size w w') : Rz12 w' g A := ⟨(hb.block g h.lt).trans h.hp⟩
theorem Rb12.old {w w' : World} {g : Nat} {A : List Bool} (h : Rb12 w g A) (hb : Below w.heap.size w w') : Rb12 w' g A := ⟨(hb.block g h.lt).trans h.hp⟩
theorem Rz12.drew {w : World} {g : Nat} {A : List Int} (h : Rz12 w g A) : Rz12 w.drew g A := ⟨h.hp⟩
theorem Rb12.drew {w : World} {g : Nat} {A : List Bool} (h : Rb12 w g A) : Rb12 w.drew g A := ⟨h.hp⟩
theorem Rz12.drewN {w : World} {g : Nat} {A : List Int} (h : Rz12 w g A) (n : Nat) : Rz12 (w.drewN n) g A := ⟨h.hp⟩
theorem Rb12.drewN {w : World} {g : Nat} {A : List Bool} (h : Rb12 w g A) (n : Nat) : Rb12 (w.drewN n) g A := ⟨h.hp⟩
theorem Rz12.seg {w : World} {g : Nat} {A : List Int} (h : Rz12 w g A) (hb : ∀ z ∈ A, -9223372036854775808 ≤ z ∧ z ≤ 9223372036854775807) : SegZ w (some ⟨g, 0, none⟩) A :=
  ⟨fun i hi => ⟨g, 0, rfl, by rw [Nat.zero_add]; exact h.cell hi⟩, getD_bdz hb⟩
theorem Rb12.seg {w : World} {g : Nat} {A : List Bool} (h : Rb12 w g A) : SegB w (some ⟨g, 0, none⟩) A :=
  ⟨fun i hi => ⟨g, 0, rfl, by rw [Nat.zero_add]; exact h.cell hi⟩⟩
theorem Rz12.own {w : World} {g base : Nat} {A : List Int} (h : Rz12 w g A) (hb : base ≤ g) (hl : A.length ≤ 140737488355328) : w.ownsRow base 3 1 (.slice (some ⟨g, 0, none⟩) A.length A.length) A.length (A.map (Value.int .i64)) :=
  ⟨by simp, .inr ⟨g, A.length, _, rfl, hb, h.hp, Nat.le_refl _, by unfold maxLen; omega, by simp [vi12], by simp [vi12, List.take_of_length_le]⟩⟩
theorem Rb12.own {w : World} {g base : Nat} {A : List Bool} (h : Rb12 w g A) (hb : base ≤ g) (hl : A.length ≤ 140737488355328) : w.ownsRow base 4 1 (.slice (some ⟨g, 0, none⟩) A.length A.length) A.length (A.map Value.bool) :=
  ⟨by simp, .inr ⟨g, A.length, _, rfl, hb, h.hp, Nat.le_refl _, by unfold maxLen; omega, by simp [vb12], by simp [vb12, List.take_of_length_le]⟩⟩
theorem getD_set12 {α : Type} {d : α} (A : List α) (i : Nat) (x : α) (k : Nat) (hi : i < A.length) : (A.set i x).getD k d = if k = i then x else A.getD k d := by
  simp only [List.getD, List.getElem?_set]
  by_cases e : i = k
  · subst e; simp [hi]
  · have e' : ¬ k = i := fun h => e h.symm
    simp [e, e']
theorem ext12 {α : Type} {d : α} {A B : List α} (hl : A.length = B.length) (h : ∀ i, i < A.length → A.getD i d = B.getD i d) : A = B := by
  refine List.ext_getElem hl fun i h1 h2 => ?_
  have := h i h1
  simpa [List.getD, h1, h2] using this
theorem wpList_ap12 {P : Program} {ops : Array Oper} {rest : List Oper} {o : Oper} {a : Act} {Q : Exit → Act → World → Prop} (hgd : o.guard = none) (s x : Operand) (t : TypeId)
    (ho : o.op = .call { callee := .builtin .append, args := #[s, x], argTypes := #[t, t] })
    (base : Nat) (e : TypeId) (i : TypeInfo) (z : Value) (bytes : Nat) (ht : P.underlying t = some (.slice e)) (hi : P.info? e = some i) (hz : i.zero = some z)
    (hsize : i.size = 1) (hby : i.bytes = bytes) (hzs : z.cells.size = 1) (w0 : World) (y : Int)
    {ra : Option Addr} {n rc : Nat} {l : List Int} (hown : w0.ownsRow base e 1 (.slice ra n rc) n (l.map (Value.int .i64))) (hs : a.eval s = .slice ra n rc) (hx : a.eval x = .slice (some ⟨w0.heap.size, 0, none⟩) 1 1)
    (h63 : n + 1 ≤ 140737488355328) (hbytes : (n + 1) * bytes ≤ 140737488355328) (hbase : base ≤ w0.heap.size)
    (h : ∀ (g : Nat) (c : Nat) (w' : World), w'.ownsRow base e 1 (.slice (some ⟨g, 0, none⟩) (n + 1) c) (n + 1) ((l ++ [y]).map (Value.int .i64)) → Kp (fun k => (Value.slice ra n rc).ownBlock = some k) w0 w' → ((Value.slice ra n rc).ownBlock = some g ∨ g = w0.heap.size + 1) → wpList P ops Q rest (a.put o.dst (.slice (some ⟨g, 0, none⟩) (n + 1) c)) w') : wpList P ops Q (o :: rest) a (w0.alloc (.cells #[.int .i64 y] e)) := by
  have hnew : ∀ j u, ([.int .i64 y] : List Value)[j]? = some u → (w0.alloc (.cells #[.int .i64 y] e)).cell? ((⟨w0.heap.size, 0, none⟩ : Addr).add j) = some u := by
    intro j u hu
    have hadd : (⟨w0.heap.size, 0, none⟩ : Addr).add j = ⟨w0.heap.size, j, none⟩ := by unfold Addr.add; split <;> simp_all
    rw [hadd]
    have hh := heap_alloc_new w0 (.cells #[.int .i64 y] e)
    simp only [World.cell?, hh]
    simpa using hu
  refine wpList_append_lies _ hgd s x t ho base e i z 1 bytes ht hi hz hsize hby hzs (by decide) _ n (l.map (Value.int .i64)) hs (hown.alloc _) ⟨w0.heap.size, 0, none⟩ 1 1 [.int .i64 y] hx rfl hnew (by intro u hu; simp only [List.mem_cons, List.not_mem_nil, or_false] at hu; subst hu; rfl) (by decide) (by unfold maxLen; omega) hbytes (by simp; omega) (w0.heap.size + 1) (by simp) ?_
  intro g c w' h1 h2 h3 _
  refine h g c w' (by rw [List.map_append]; exact h1) ?_ h3
  exact (Kp.alloc w0 _).trans (Kp.grown (S := fun k => (Value.slice ra n rc).ownBlock = some k) h2 (fun i e => e)) (fun _ _ e => e)
def gb12 (L : List Bool) (k : Nat) : Bool := L.getD k false
end Go.Proofs.YtmfpdchfofffeaaGreatDoor
