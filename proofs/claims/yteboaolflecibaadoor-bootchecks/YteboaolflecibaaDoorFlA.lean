import Derived.Test.YteboaolflecibaaDoorBtMem
import Derived.Test.YteboaolflecibaaDoorEdK
import Derived.Maps.OwnSet
import Derived.DeepKeys4
import Derived.WideKeyPair
import Derived.Laws.Rows
namespace Go.Proofs.YteboaolflecibaaDoor
open Go.RowKit Go.Maps Go.WideMaps
set_option linter.unusedVariables false
set_option maxRecDepth 100000
def In21 (x : Int) : Prop := -9223372036854775808 ≤ x ∧ x ≤ 9223372036854775807
def k21 (x y : Int) : Lit := .string (keyBytes [.int .i64 x, .int .i64 y])
def rd21 (v : Value) : Option (DataW Value × List MemPlace) := some (.held v, [])
/-- Block m is a map that leads the place x, y to the value f x y. -/
def Mv21 (w : World) (m c : Nat) (f : Int → Int → Option Value) : Prop := ∃ D : DataW Value, w.ownsMap Tryd.prog 116 rd21 m c D ∧
  ∀ x y, In21 x → In21 y → (f x y = none ∧ Maps.has D (k21 x y) = false) ∨ (∃ v, f x y = some v ∧ Maps.has D (k21 x y) = true ∧ ∀ d, D.atKey (k21 x y) d = .held v)
theorem Mv21.lt {w : World} {m c : Nat} {f : Int → Int → Option Value} (h : Mv21 w m c f) : m < w.heap.size := by
  obtain ⟨D, ho, _⟩ := h
  exact ho.lt
theorem Mv21.block {w w' : World} {m c : Nat} {f : Int → Int → Option Value} (h : Mv21 w m c f) (hb : w'.heap[m]? = w.heap[m]?) : Mv21 w' m c f := by
  obtain ⟨D, ⟨es, clock, h1, h2⟩, h3⟩ := h
  exact ⟨D, ⟨es, clock, hb.trans h1, h2⟩, h3⟩
theorem Mv21.no {w : World} {m c : Nat} {f : Int → Int → Option Value} (h : Mv21 w m c f) {cs : Array Value} {t : TypeId} {p : Nat × Nat} : w.heap[m]? ≠ some (.cells cs t p) := by
  obtain ⟨D, ⟨es, clock, h1, h2⟩, h3⟩ := h
  rw [h1]; simp
theorem Mv21.made (w : World) : Mv21 (w.alloc (.map #[] 0)) w.heap.size 0 (fun _ _ => none) :=
  ⟨_, World.ownsMap_made _ _ _ _, fun x y _ _ => .inl ⟨rfl, rfl⟩⟩
end Go.Proofs.YteboaolflecibaaDoor
