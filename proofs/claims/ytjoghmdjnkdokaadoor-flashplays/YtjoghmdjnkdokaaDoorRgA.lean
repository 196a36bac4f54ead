
import Derived.Test.YtjoghmdjnkdokaaDoorRfG
import Derived.Test.YtjoghmdjnkdokaaDoorPgA
namespace Go.Proofs.YtjoghmdjnkdokaaDoor
open Go.RowKit Go.Shelf
set_option linter.unusedVariables false
set_option linter.unusedSimpArgs false

/-! The document's page writer (sapperref22): the same state Pw22 as the landed writer's. Failed is cl, unless cl = 221 (Over). -/
structure Rw22 (w : World) (u b : Nat) (ha : Option Addr) (hc : Nat) (P : Pw22) : Prop where
  hu : w.heap[u]? = some (.cells #[.pointer (some ⟨b, 0, none⟩), .int .i64 P.ar, .slice ha P.bf.length hc, .int .i64 (P.wn : Int), .int .i64 (P.pn : Int), .int .i64 (if P.cl = 221 then 0 else P.cl), .bool (decide (P.cl = 221))] 186 (0, 0))
  ow : w.ownsRow 0 5 1 (.slice ha P.bf.length hc) P.bf.length (P.bf.map (Value.int .u8))
  ne : ∀ k, (Value.slice ha P.bf.length hc).ownBlock = some k → k ≠ u
  bd : ∀ y ∈ P.bf, 0 ≤ y ∧ y ≤ 255
theorem Rw22.cel {w : World} {u b : Nat} {ha : Option Addr} {hc : Nat} {P : Pw22} (h : Rw22 w u b ha hc P) {i : Nat} {v : Value} (hi : (#[.pointer (some ⟨b, 0, none⟩), .int .i64 P.ar, .slice ha P.bf.length hc, .int .i64 (P.wn : Int), .int .i64 (P.pn : Int), .int .i64 (if P.cl = 221 then 0 else P.cl), .bool (decide (P.cl = 221))] : Array Value)[i]? = some v) : w.cell? ⟨u, i, none⟩ = some v := by
  simp only [World.cell?, h.hu]; exact hi
end Go.Proofs.YtjoghmdjnkdokaaDoor
