
import Derived.Test.YtiocdhkompekpaaFlB
import Derived.Test.YtiocdhkompekpaaOpen
import Derived.WalkKit
import Derived.ProofKit
import Derived.OpenShut
import Derived.SizedLaws
import Derived.Deep.Slices
import Derived.Lib.SmallJoins
namespace Go.Proofs.Ytiocdhkompekpaa
open Go.ChangeShapes Go.WideShapes Go.ChangeAt Go.RowKit Go.Deep
set_option linter.unusedVariables false
set_option maxRecDepth 100000

/-! A call, a script, a set-up that came in. -/
structure Oq21 where
  c : Int
  a : Int
  p : Int
  n : Int
  ba : Option Addr
  b : List Int
  bc : Nat
theorem cells_in21 : Try.prog.cellsOf 3 = 1 := by kernel_rfl
theorem cells_sl21 : Try.prog.cellsOf 26 = 1 := by kernel_rfl
theorem cells_u821 : Try.prog.cellsOf 5 = 1 := by kernel_rfl
structure Of21 (W : World) (o : Oq21) : Prop where
  sg : Seg W o.ba o.b
  cap : o.b.length ≤ o.bc
  nil : o.ba = none → o.bc = 0
  c : In21 o.c
  a : In21 o.a
  p : In21 o.p
  n : In21 o.n
theorem slc21 {H : Type} {enc : TypeId × Value → H} {W : World} {k : Nat} {v : Value} {y : DataW H × List MemPlace} (g : DataW.trod enc Try.prog W 0 (fun _ => true) true k 26 [v] = some y) :
    ∃ (ba : Option Addr) (p : List Int) (bc : Nat), v = .slice ba p.length bc ∧ Seg W ba p ∧ p.length ≤ bc ∧ (ba = none → bc = 0) ∧ ((y.1 = .nil ∧ p.length = 0) ∨ ∃ elems spare, y.1 = .slice elems spare ∧ elems.length = p.length) := by
  obtain ⟨ba, bl, bc, rfl⟩ : ∃ ba bl bc, v = .slice ba bl bc := by
    rcases open_ints Try.underlying26 Try.underlying5 cells_u821 g with ⟨hcs, _⟩ | ⟨x, l, c, zs, hcs, _⟩
    · simp at hcs; exact ⟨_, _, _, hcs⟩
    · simp at hcs; exact ⟨_, _, _, hcs⟩
  have ht : DataW.Trod enc Try.prog W 0 (fun _ => true) true 26 (.slice ba bl bc) y.1 y.2 := ⟨k, by simpa [Value.cells] using g⟩
  obtain ⟨p, hp, hseg, hcap, hnil, hd⟩ := open_seg (k := .u8) (M := 255) Try.underlying26 Try.underlying5 cells_u821 (by decide) (fun n hn => bounds_u8 hn) ht
  subst hp
  exact ⟨ba, p, bc, rfl, hseg, hcap, hnil, hd⟩
/-- A script in memory. -/
structure Ss21 (W : World) (a : Option Addr) (len : Nat) (O : Nat → Oq21) : Prop where
  at_ : ∀ i, i < len → ∃ g off, a = some ⟨g, off, none⟩ ∧ W.cell? ⟨g, off + i * 5, none⟩ = some (.int .i64 (O i).c) ∧ W.cell? ⟨g, off + i * 5 + 1, none⟩ = some (.int .i64 (O i).a) ∧ W.cell? ⟨g, off + i * 5 + 2, none⟩ = some (.int .i64 (O i).p) ∧ W.cell? ⟨g, off + i * 5 + 3, none⟩ = some (.int .i64 (O i).n) ∧ W.cell? ⟨g, off + i * 5 + 4, none⟩ = some (.slice (O i).ba (O i).b.length (O i).bc)
  of : ∀ i, i < len → Of21 W (O i)
/-- A set-up that came in. -/
structure Su21 where
  p : Int
  q : Int
  ac : Int
  a0 : Option Addr
  l0 : List Int
  k0 : Nat
  a1 : Option Addr
  l1 : List Int
  k1 : Nat
structure Sf21 (W : World) (s : Su21) : Prop where
  s0 : Seg W s.a0 s.l0
  s1 : Seg W s.a1 s.l1
  z0 : s.l0.length ≤ s.k0
  z1 : s.l1.length ≤ s.k1
  p : In21 s.p
  q : In21 s.q
  ac : In21 s.ac
end Go.Proofs.Ytiocdhkompekpaa
