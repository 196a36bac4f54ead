import Derived.Test.YtmfpdchfofffeaaGreatDoorProg
import Derived.Test.YtmfpdchfofffeaaGreatDoorBtMem
import Derived.Test.YtmfpdchfofffeaaGreatDoorEd2
import Derived.Laws.EntriesVeiled
namespace Go.Proofs.YtmfpdchfofffeaaGreatDoor
open Go.RowKit
set_option linter.unusedVariables false
structure Hd18 where
  o : Int
  n : Int
  so : Int
  sn : Int
  wi : Int
  lo : Int
def Hd18.cs (h : Hd18) : Array Value := #[.int .i64 h.o, .int .i64 h.n, .int .u32 h.so, .int .u32 h.sn, .int .i64 h.wi, .int .i64 h.lo]
def Hd18.Ok (h : Hd18) : Prop := (0 ≤ h.o ∧ h.o ≤ 16777216) ∧ (0 ≤ h.n ∧ h.n ≤ 16777216) ∧ (64 ≤ h.wi ∧ h.wi ≤ 65536) ∧ 1 ≤ h.lo ∧ h.lo ≤ 32768
instance (h : Hd18) : Decidable h.Ok := by unfold Hd18.Ok; infer_instance
def bt18 (p : Nat) : Value := .func (.func 167) #[] #[.pointer (some ⟨p, 0, none⟩), .pointer (some ⟨p + 1, 0, none⟩)]
def fl18 (B : Nat) : Array Value := #[.func (.func 126) #[] #[], bt18 B, .func (.func 128) #[] #[], bt18 (B + 2), .func (.func 129) #[] #[], bt18 (B + 4), .func (.func 130) #[] #[], bt18 (B + 6)]
set_option maxRecDepth 100000 in
theorem pbtw18 (x y : Int) (w : World) : Calls Tryz.prog 127 #[.int .i64 x, .int .i64 y] w fun e w' => e = .returned (.func (.func 167) #[] #[.pointer (some ⟨w.heap.size, 0, none⟩), .pointer (some ⟨w.heap.size + 1, 0, none⟩)]) ∧ w' = (w.alloc (.cells #[.int .i64 x] 3)).alloc (.cells #[.int .i64 y] 3) := by
  have hmf : ∀ (fn : Fn) (first cap : Array Value) (w : World), (Instr.makeFunc fn first cap).run Tryz.prog w = .ok (.func fn first cap) w := fun _ _ _ _ => rfl
  go_enter Tryz.func127, Tryz.ntmps127
  go_wp2
  go_ret
  exact ⟨rfl, rfl⟩
end Go.Proofs.YtmfpdchfofffeaaGreatDoor
