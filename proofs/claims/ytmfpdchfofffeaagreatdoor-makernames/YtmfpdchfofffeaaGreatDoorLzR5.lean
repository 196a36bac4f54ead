import Derived.Test.YtmfpdchfofffeaaGreatDoorLzR4
namespace Go.Proofs.YtmfpdchfofffeaaGreatDoor
open Go.RowKit
set_option linter.unusedVariables false
structure LkAt (w : World) (g : Nat) (win chain : Int) (lazy : Bool) : Prop where
  c0 : w.cell? ⟨g, 0, none⟩ = some (.int .i64 win)
  c1 : w.cell? ⟨g, 1, none⟩ = some (.int .i64 chain)
  c2 : w.cell? ⟨g, 2, none⟩ = some (.bool lazy)
theorem LkAt.of_block {w w' : World} {g : Nat} {win chain : Int} {lazy : Bool} (h : LkAt w g win chain lazy) (hb : w'.heap[g]? = w.heap[g]?) : LkAt w' g win chain lazy :=
  ⟨(World.cell?_of_block (a := ⟨g, 0, none⟩) hb).trans h.c0, (World.cell?_of_block (a := ⟨g, 1, none⟩) hb).trans h.c1, (World.cell?_of_block (a := ⟨g, 2, none⟩) hb).trans h.c2⟩
theorem LkAt.lt {w : World} {g : Nat} {win chain : Int} {lazy : Bool} (h : LkAt w g win chain lazy) : g < w.heap.size := World.block_lt_of_cell? w _ h.c0
end Go.Proofs.YtmfpdchfofffeaaGreatDoor
