import Derived.Test.YtmfpdchfofffeaaGreatDoorCu8
namespace Go.Proofs.YtmfpdchfofffeaaGreatDoor
open Go.RowKit Go.Shelf
set_option linter.unusedVariables false
attribute [local go_sem] Oper.semAt_some
/-- Up to edit.Check's answer. -/
structure Ch17 (w : World) (sa : Option Addr) (n sc : Nat) (da : Option Addr) (m dc : Nat) (xa : Option Addr) (k xc : Nat) (win : Int) (w2 : World) : Prop where
  bl : Below w.heap.size w w2
  qe : w2.heap[w.heap.size]? = some (.cells #[.slice sa n sc, .slice da m dc, .slice xa k xc] 48 (0, 0))
  qw : w2.heap[w.heap.size + 1]? = some (.cells #[.int .i64 win] 3 (0, 0))
theorem Ch17.next {w : World} {sa : Option Addr} {n sc : Nat} {da : Option Addr} {m dc : Nat} {xa : Option Addr} {k xc : Nat} {win : Int} {w2 w3 : World} (h : Ch17 w sa n sc da m dc xa k xc win w2) (hb : Below w2.heap.size w2 w3) : Ch17 w sa n sc da m dc xa k xc win w3 :=
  ⟨h.bl.trans (hb.mono h.bl.size), (hb.block _ (Array.getElem?_eq_some_iff.1 h.qe).1).trans h.qe, (hb.block _ (Array.getElem?_eq_some_iff.1 h.qw).1).trans h.qw⟩
end Go.Proofs.YtmfpdchfofffeaaGreatDoor
