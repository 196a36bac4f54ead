import Derived.Test.YtmpbaabmpcejdabTakesW
import Derived.WalkKit
import Derived.ProofKit
import Derived.OpenShut
import Derived.Deep.SlicePairs
namespace Go.Proofs.Ytmpbaabmpcejdab
open Go.ChangeShapes Go.WideShapes Go.ChangeAt Go.RowKit Go.Deep
set_option linter.unusedVariables false

theorem cells_op : Try.prog.cellsOf 30 = 2 := by kernel_rfl
theorem cells_u8 : Try.prog.cellsOf 5 = 1 := by kernel_rfl
theorem cells_bool : Try.prog.cellsOf 4 = 1 := by kernel_rfl

def boolOf : Value → Bool | .bool b => b | _ => false

theorem open_op {H : Type} {enc : TypeId × Value → H} {W : World} {a : Option Addr} {len cap : Nat} {d : DataW H} {p : List MemPlace}
    (h : DataW.Trod enc Try.prog W 0 (fun _ => true) true 22 (.slice a len cap) d p) :
    ∃ (xb : Nat → Int) (xr : Nat → Bool), SegOp W a len xb xr ∧ ((d = .nil ∧ len = 0) ∨ ∃ elems spare, d = .slice elems spare ∧ elems.length = len) := by
  obtain ⟨fuel, hf⟩ := h
  rcases open_slice_pairs Try.underlying22 Try.underlying30 cells_op rfl rfl cells_u8 cells_bool hf with ⟨hcs, hx⟩ | ⟨x, l, c, m, n, V0, V1, D0, D1, P0, P1, hcs, _, hl, hm, hmm, hx, hat⟩
  · simp [Value.cells] at hcs
    obtain ⟨rfl, rfl, rfl⟩ := hcs
    simp only [Prod.mk.injEq] at hx
    exact ⟨fun _ => 0, fun _ => false, ⟨fun i hi => by omega, fun i hi => by omega⟩, Or.inl ⟨hx.1, rfl⟩⟩
  · simp [Value.cells] at hcs
    obtain ⟨rfl, rfl, rfl⟩ := hcs
    simp only [Prod.mk.injEq] at hx
    simp only [if_true] at hmm
    subst hmm
    have key : ∀ i, i < m → ∃ (z : Int) (r : Bool), V0 i = .int .u8 z ∧ V1 i = .bool r ∧ (Lit.int .u8 z).wf = true := by
      intro i hi
      obtain ⟨_, _, h3, h4⟩ := hat i hi
      obtain ⟨z, e0, _, wz⟩ := DataW.trod_int Try.underlying5 h3
      obtain ⟨r, e1, _⟩ := DataW.trod_bool Try.underlying4 h4
      simp at e0 e1
      exact ⟨z, r, e0, e1, wz⟩
    refine ⟨fun i => intOf (V0 i), fun i => boolOf (V1 i), ⟨fun i hi => ?_, fun i hi => ?_⟩, Or.inr ⟨_, _, hx.1, by simp⟩⟩
    · obtain ⟨z, r, e0, e1, wz⟩ := key i (by omega)
      obtain ⟨h1, h2, _⟩ := hat i (by omega)
      obtain ⟨b, off, spot⟩ := x
      have hs : spot = none := by
        obtain ⟨h5, _⟩ := hat 0 (by omega)
        simpa [Addr.add] using World.cell?_spot h5
      subst hs
      have hadd : ∀ j, (⟨b, off, none⟩ : Addr).add j = ⟨b, off + j, none⟩ := by intro j; unfold Addr.add; split <;> simp_all
      rw [hadd] at h1 h2
      refine ⟨b, off, rfl, ?_, ?_⟩
      · rw [h1, e0]; rfl
      · rw [Nat.add_assoc, h2, e1]; rfl
    · obtain ⟨z, r, e0, e1, wz⟩ := key i (by omega)
      have := bounds_u8 wz
      rw [e0]
      exact this
end Go.Proofs.Ytmpbaabmpcejdab
