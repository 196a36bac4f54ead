import Derived.Test.YtnofaodahcfldabDoorPush
import Derived.Test.YtnofaodahcfldabDoorOwnSeg
namespace Go.Proofs.YtnofaodahcfldabDoor
open Go.RowKit
set_option linter.unusedVariables false

/-- 'q := append([]byte(nil), p...)', p not empty. -/
theorem wpList_copy {P : Program} {ops : Array Oper} {rest : List Oper} {o : Oper} {a : Act} {Q : Exit → Act → World → Prop} (hgd : o.guard = none) (x : Operand) (t : TypeId)
    (ho : o.op = .call { callee := .builtin .append, args := #[.const (.slice none 0 0), x], argTypes := #[t, t] })
    (e : TypeId) (ht : P.underlying t = some (.slice e)) (hinfo : (P.info? e).map (fun i => (i.zero, i.size, i.bytes)) = some (some (.int .u8 0), 1, 1))
    {w : World} {ao : Option Addr} {zs : List Int} {cap : Nat} (hseg : Seg w ao zs) (hnil : ao = none → cap = 0) (hx : a.eval x = .slice ao zs.length cap) (hpos : 0 < zs.length) (hl : zs.length ≤ 140737488351232)
    (h : ∀ g cap' w', w'.ownsRow w.heap.size e 1 (.slice (some ⟨g, 0, none⟩) zs.length cap') zs.length (zs.map (Value.int .u8)) → zs.length ≤ cap' → w.heap.size ≤ g → Below w.heap.size w w' → wpList P ops Q rest (a.put o.dst (.slice (some ⟨g, 0, none⟩) zs.length cap')) w') :
    wpList P ops Q (o :: rest) a w := by
  obtain ⟨i0, hi, hz0, hz1, hz2⟩ := info_parts hinfo
  refine wpList_append_seg hgd (.const (.slice none 0 0)) x t ho w.heap.size e i0 (.int .u8 0) 1 ht hi hz0 hz1 hz2 rfl (World.ownsRow_nil _ _ _ _) hseg hnil rfl hx (by omega) (by omega) (Nat.le_refl _) ?_
  intro v' w' hown _ hb
  rw [List.nil_append, Nat.zero_add] at hown
  obtain ⟨g, cap', rfl, hc, hg, _⟩ := own_shape hown hpos
  exact h g cap' w' hown hc hg hb
end Go.Proofs.YtnofaodahcfldabDoor
