
import Derived.Test.YtkpfailmmcelcaaSu2
namespace Go.Proofs.Ytkpfailmmcelcaa
open Go.RowKit
set_option linter.unusedVariables false

/-! The landed suffix: made, Array. -/
theorem run_neq_func13 {P : Program} (w : World) {t : TypeId} {a b : Array TypeId} {c : Bool} (f : Fn) (x y : Array Value) (h : P.underlying t = some (.func a b c)) :
    (binOp .neq t (.func f x y) .nilFunc).run P w = .ok (.bool true) w := by
  have k : ∀ d : Nat, (Op.equalIn (d + 1) t (.func f x y) .nilFunc).run P w = .ok false w := fun d => by simp [Op.equalIn, run_underlying h]
  simp only [binOp]
  simp [Op.equal, Op.maxDepth, k 9999]
theorem run_neq_nilfunc13 {P : Program} (w : World) {t : TypeId} {a b : Array TypeId} {c : Bool} (h : P.underlying t = some (.func a b c)) :
    (binOp .neq t .nilFunc .nilFunc).run P w = .ok (.bool false) w := by
  have k : ∀ d : Nat, (Op.equalIn (d + 1) t .nilFunc .nilFunc).run P w = .ok true w := fun d => by simp [Op.equalIn, run_underlying h]
  simp only [binOp]
  simp [Op.equal, Op.maxDepth, k 9999]
set_option maxRecDepth 100000 in
theorem pmade13 (b : Nat) (da : Option Addr) (dc : Nat) (aa : Option Addr) (ac gb gr n : Nat) (z : List Int) (A : List Nat) (w : World) (h : Ix13 w b da dc aa ac gb gr n z A) :
    Calls Try.prog 39 #[.pointer (some ⟨b, 0, none⟩)] w fun e w' => e = .returned (.bool true) ∧ w' = w := by
  have c2 := h.c2
  have HE := fun f x y => run_neq_func13 (P := Try.prog) w f x y Try.underlying62
  clear h
  go_enter Try.func39, Try.ntmps39
  go_wp2_with fail
  go_ret
  exact ⟨rfl, rfl⟩
def RowI13 (w w' : World) (n : Nat) (L : List Int) (ra : Option Addr) (rc : Nat) : Prop := w'.ownsRow w.heap.size 3 1 (.slice ra n rc) n (L.map (Value.int .i64))
def AnI13 (w : World) (n : Nat) (L : List Int) (e : Ending) (w' : World) : Prop := ∃ ra rc, e = .returned (.slice ra n rc) ∧ (ra = none → rc = 0) ∧ w'.ownsRow w.heap.size 3 1 (.slice ra n rc) n (L.map (Value.int .i64)) ∧ Below w.heap.size w w'
def AnB13 (w : World) (n : Nat) (L : List Int) (e : Ending) (w' : World) : Prop := ∃ ra rc, e = .returned (.slice ra n rc) ∧ (ra = none → rc = 0) ∧ w'.ownsRow w.heap.size 5 1 (.slice ra n rc) n (L.map (Value.int .u8)) ∧ Below w.heap.size w w'
end Go.Proofs.Ytkpfailmmcelcaa
