import Derived.Test.YtmfpdchfofffeaaGreatDoorSu2
namespace Go.Proofs.YtmfpdchfofffeaaGreatDoor
open Go.RowKit
set_option linter.unusedVariables false
theorem run_neq_func13 {P : Program} (w : World) {t : TypeId} {a b : Array TypeId} {c : Bool} (f : Fn) (x y : Array Value) (h : P.underlying t = some (.func a b c)) :
    (binOp .neq t (.func f x y) .nilFunc).run P w = .ok (.bool true) w := by
  have k : ∀ d : Nat, (Op.equalIn (d + 1) t (.func f x y) .nilFunc).run P w = .ok false w := fun d => by simp [Op.equalIn, run_underlying h]
  simp only [binOp]
  simp [Op.equal, Op.maxDepth, k 9999]
set_option maxRecDepth 100000 in
theorem pmade13 (b : Nat) (da : Option Addr) (dc : Nat) (aa : Option Addr) (ac gb gr n : Nat) (z : List Int) (A : List Nat) (w : World) (h : Ix13 w b da dc aa ac gb gr n z A) :
    Calls Tryz.prog 73 #[.pointer (some ⟨b, 0, none⟩)] w fun e w' => e = .returned (.bool true) ∧ w' = w := by
  have c2 := h.c2
  have HE := fun f x y => run_neq_func13 (P := Tryz.prog) w f x y Tryz.underlying137
  clear h
  go_enter Tryz.func73, Tryz.ntmps73
  go_wp2_with fail
  go_ret
  exact ⟨rfl, rfl⟩
def AnB13 (w : World) (n : Nat) (L : List Int) (e : Ending) (w' : World) : Prop := ∃ ra rc, e = .returned (.slice ra n rc) ∧ (ra = none → rc = 0) ∧ w'.ownsRow w.heap.size 5 1 (.slice ra n rc) n (L.map (Value.int .u8)) ∧ Below w.heap.size w w'
end Go.Proofs.YtmfpdchfofffeaaGreatDoor
