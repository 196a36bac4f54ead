
import Derived.Test.YtoeabfcnfofbiaaDoorHdR1
import Derived.Test.YtoeabfcnfofbiaaDoorOpen
import Derived.WalkKit
import Derived.ProofKit
import Derived.OpenShut
import Derived.Deep.Slices
import Derived.Lib.SmallJoins
namespace Go.Proofs.YtoeabfcnfofbiaaDoor
open Go.ChangeShapes Go.WideShapes Go.ChangeAt Go.RowKit Go.Deep
set_option linter.unusedVariables false
set_option maxRecDepth 100000

theorem cells_run8 : Tryd.prog.cellsOf 38 = 2 := by kernel_rfl
theorem cells_int8 : Tryd.prog.cellsOf 3 = 1 := by kernel_rfl
/-- One run, off its two cells. -/
theorem one_run8 {H : Type} {enc : TypeId × Value → H} {W : World} {n : Nat} {cs : List Value} {x : DataW H × List MemPlace} (h : DataW.trod enc Tryd.prog W 0 (fun _ => true) true n 38 cs = some x) (hl : cs.length = 2) :
    ∃ t : Rn8, cs = [.int .i64 t.sy, .int .i64 t.ct] := by
  obtain ⟨xs, k, _, _, _, hxl, hf⟩ := DataW.trod_struct Tryd.underlying38 h
  match cs, hl with
  | [v0, v1], _ =>
    match xs, hxl with
    | [y0, y1], _ =>
      have g0 := hf 0 _ rfl
      have g1 := hf 1 _ rfl
      simp [cells_int8] at g0 g1
      obtain ⟨V, e0, _, w0⟩ := DataW.trod_int Tryd.underlying3 g0
      obtain ⟨N, e1, _, w1⟩ := DataW.trod_int Tryd.underlying3 g1
      simp at e0 e1
      subst e0 e1
      exact ⟨⟨V, N⟩, rfl⟩
theorem open_runs8 {H : Type} {enc : TypeId × Value → H} {W : World} {a : Option Addr} {len cap : Nat} {d : DataW H} {p : List MemPlace}
    (h : DataW.Trod enc Tryd.prog W 0 (fun _ => true) true 32 (.slice a len cap) d p) :
    ∃ l : List Rn8, l.length = len ∧ SegN W a l ∧ len ≤ cap ∧ (a = none → cap = 0) ∧ ((d = .nil ∧ len = 0) ∨ ∃ elems spare, d = .slice elems spare ∧ elems.length = len) := by
  haveI : Inhabited Rn8 := ⟨⟨0, 0⟩⟩
  obtain ⟨fuel, hf⟩ := h
  rcases open_slice Tryd.underlying32 hf with ⟨hcs, hx⟩ | ⟨x, l, c, m, n, D, Pl, hcs, _, hl, hm, hmm, hx, hat⟩
  · simp [Value.cells] at hcs
    obtain ⟨rfl, rfl, rfl⟩ := hcs
    simp only [Prod.mk.injEq] at hx
    exact ⟨[], rfl, ⟨fun i hi => by simp at hi⟩, by omega, fun _ => rfl, Or.inl ⟨hx.1, rfl⟩⟩
  · simp [Value.cells] at hcs
    obtain ⟨rfl, rfl, rfl⟩ := hcs
    simp only [Prod.mk.injEq] at hx
    simp only [if_true] at hmm
    subst hmm
    rw [cells_run8] at hat
    have key : ∀ i, i < m → ∃ q : Rn8, W.cell? (x.add (i * 2)) = some (.int .i64 q.sy) ∧ W.cell? (x.add (i * 2 + 1)) = some (.int .i64 q.ct) := by
      intro i hi
      obtain ⟨cs', h1, h2⟩ := hat i hi
      obtain ⟨_, hlen, hcell⟩ := World.cells?_some h1
      obtain ⟨t, rfl⟩ := one_run8 h2 hlen
      have e0 := hcell 0 (by omega)
      have e1 := hcell 1 (by omega)
      rw [add_add] at e0 e1
      exact ⟨t, by simpa using e0, by simpa using e1⟩
    obtain ⟨q, hq⟩ := choose_lt key
    refine ⟨(List.range len).map q, by simp, ⟨fun i hi => ?_⟩, by omega, (fun h => by cases h), Or.inr ⟨_, _, hx.1, by simp⟩⟩
    have hi2 : i < len := by simpa using hi
    obtain ⟨h1, h2⟩ := hq i (by omega)
    obtain ⟨b, off, spot⟩ := x
    have hs : spot = none := by
      obtain ⟨h5, _⟩ := hq 0 (by omega)
      simpa [Addr.add] using World.cell?_spot h5
    subst hs
    have hadd : ∀ j, (⟨b, off, none⟩ : Addr).add j = ⟨b, off + j, none⟩ := by intro j; unfold Addr.add; split <;> simp_all
    rw [hadd] at h1 h2
    have hg : ((List.range len).map q).getD i ⟨0, 0⟩ = q i := by simp [List.getD, hi2]
    rw [hg]
    exact ⟨b, off, rfl, h1, by rw [Nat.add_assoc]; exact h2⟩
end Go.Proofs.YtoeabfcnfofbiaaDoor
