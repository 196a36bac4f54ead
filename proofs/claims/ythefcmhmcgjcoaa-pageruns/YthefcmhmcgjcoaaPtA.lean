
import Derived.Test.YthefcmhmcgjcoaaSeg
namespace Go.Proofs.Ythefcmhmcgjcoaa
open Go.RowKit
set_option linter.unusedVariables false

/-- A part: where its bytes lie, the bytes, the capacity. -/
structure Part where
  a : Option Addr
  zs : List Int
  cap : Nat
def Part.val (p : Part) : Value := .slice p.a p.zs.length p.cap
def noPart : Part := ⟨none, [], 0⟩
/-- Parts lie where a slice's address leads, and the bytes of each where it leads. -/
structure Parts (w : World) (a : Option Addr) (ps : List Part) : Prop where
  at_ : ∀ i, i < ps.length → ∃ b off, a = some ⟨b, off, none⟩ ∧ w.cell? ⟨b, off + i, none⟩ = some (ps.getD i noPart).val
  seg : ∀ i, i < ps.length → Seg w (ps.getD i noPart).a (ps.getD i noPart).zs
  len : ∀ i, i < ps.length → (ps.getD i noPart).zs.length ≤ 9223372036854775807
end Go.Proofs.Ythefcmhmcgjcoaa
