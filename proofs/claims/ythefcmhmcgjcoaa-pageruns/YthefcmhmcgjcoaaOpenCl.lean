
import Derived.Test.YthefcmhmcgjcoaaOpenFl
import Derived.Test.YthefcmhmcgjcoaaPtS
namespace Go.Proofs.Ythefcmhmcgjcoaa
open Go.ChangeShapes Go.WideShapes Go.ChangeAt Go.RowKit Go.Deep
set_option linter.unusedVariables false
set_option maxRecDepth 100000

/-! A row of calls of a writer that came in. -/
structure Oc22 where
  c : Int
  ba : Option Addr
  b : List Int
  bc : Nat
  n : Int
theorem cells_cl22 : Try.prog.cellsOf 71 = 3 := by kernel_rfl
theorem bytes_u22 : Try.prog.bytesOf 5 = 1 := by kernel_rfl
structure Oe22 (W : World) (o : Oc22) : Prop where
  sg : Seg W o.ba o.b
  cap : o.b.length ≤ o.bc
  nil : o.ba = none → o.bc = 0
  ln : o.b.length ≤ 140737488351232
  c : In21 o.c
  n : In21 o.n
theorem one_cl22 {H : Type} {enc : TypeId × Value → H} {W : World} {n : Nat} {cs : List Value} {x : DataW H × List MemPlace} (h : DataW.trod enc Try.prog W 0 (fun _ => true) true n 71 cs = some x) (hl : cs.length = 3)
    (hw : ∀ m ∈ x.1.weights Try.prog 71, m ≤ reachBytes) :
    ∃ (o : Oc22), cs = [.int .i64 o.c, .slice o.ba o.b.length o.bc, .int .i64 o.n] ∧ Oe22 W o := by
  obtain ⟨xs, k, _, hx, _, hxl, hf⟩ := DataW.trod_struct Try.underlying71 h
  match cs, hl with
  | [v0, v1, v2], _ =>
    match xs, hxl with
    | [y0, y1, y2], _ =>
      have g0 := hf 0 _ rfl
      have g1 := hf 1 _ rfl
      have g2 := hf 2 _ rfl
      simp [cells_in21, cells_sl21] at g0 g1 g2
      obtain ⟨V0, e0, _, w0⟩ := DataW.trod_int Try.underlying3 g0
      obtain ⟨V2, e2, _, w2⟩ := DataW.trod_int Try.underlying3 g2
      simp at e0 e2
      subst e0 e2
      obtain ⟨ba, p, bc, rfl, hs, hc, hn, hd⟩ := slc21 g1
      refine ⟨⟨V0, ba, p, bc, V2⟩, rfl, ⟨hs, hc, hn, ?_, bounds_i64 w0, bounds_i64 w2⟩⟩
      rcases hd with ⟨_, h0⟩ | ⟨elems, spare, h1, h2⟩
      · show p.length ≤ _; omega
      · have hm : (elems.length + spare.length) * Try.prog.bytesOf 5 ∈ x.1.weights Try.prog 71 := by
          rw [hx]
          simp only [DataW.weights, Try.underlying71]
          refine DataW.weights_mem_each (j := 1) (t := 22) (d := y1.1) rfl rfl _ ?_
          rw [h1]
          simp [DataW.weights, Try.underlying22]
        have := hw _ hm
        rw [bytes_u22] at this
        simp only [reachBytes] at this
        show p.length ≤ _
        omega
/-- A row of calls in memory. -/
structure Sc22 (W : World) (a : Option Addr) (len : Nat) (O : Nat → Oc22) : Prop where
  at_ : ∀ i, i < len → ∃ g off, a = some ⟨g, off, none⟩ ∧ W.cell? ⟨g, off + i * 3, none⟩ = some (.int .i64 (O i).c) ∧ W.cell? ⟨g, off + i * 3 + 1, none⟩ = some (.slice (O i).ba (O i).b.length (O i).bc) ∧ W.cell? ⟨g, off + i * 3 + 2, none⟩ = some (.int .i64 (O i).n)
  of : ∀ i, i < len → Oe22 W (O i)
theorem open_calls22 {H : Type} {enc : TypeId × Value → H} {W : World} {a : Option Addr} {len cap : Nat} {d : DataW H} {pl : List MemPlace}
    (h : DataW.Trod enc Try.prog W 0 (fun _ => true) true 56 (.slice a len cap) d pl) (hw : (d.weights Try.prog 56).all (· ≤ reachBytes) = true) :
    ∃ O : Nat → Oc22, Sc22 W a len O ∧ ((d = .nil ∧ len = 0) ∨ ∃ elems spare, d = .slice elems spare ∧ elems.length = len) := by
  obtain ⟨fuel, hf⟩ := h
  rcases open_slice Try.underlying56 hf with ⟨hcs, hx⟩ | ⟨x, l, c, m, n, D, Pl, hcs, _, hl, hm, hmm, hx, hat⟩
  · simp [Value.cells] at hcs
    obtain ⟨rfl, rfl, rfl⟩ := hcs
    simp only [Prod.mk.injEq] at hx
    exact ⟨fun _ => ⟨0, none, [], 0, 0⟩, ⟨fun i hi => by omega, fun i hi => by omega⟩, Or.inl ⟨hx.1, rfl⟩⟩
  · simp [Value.cells] at hcs
    obtain ⟨rfl, rfl, rfl⟩ := hcs
    simp only [Prod.mk.injEq] at hx
    simp only [if_true] at hmm
    subst hmm
    rw [cells_cl22] at hat
    have hwi : ∀ i, i < len → ∀ y ∈ (D i).weights Try.prog 71, y ≤ reachBytes := fun i hi y hy => by
      rw [hx.1] at hw
      have hm : y ∈ DataW.weightsAll Try.prog 71 ((List.range len).map D) := weightsAll_mem hy (List.mem_map.2 ⟨i, List.mem_range.2 hi, rfl⟩)
      have := List.all_eq_true.1 hw y (by simp only [DataW.weights, Try.underlying56, List.mem_cons, List.mem_append]; exact .inr (.inl hm))
      simpa using this
    have key : ∀ i, i < len → ∃ o : Oc22, W.cell? (x.add (i * 3)) = some (.int .i64 o.c) ∧ W.cell? (x.add (i * 3 + 1)) = some (.slice o.ba o.b.length o.bc) ∧ W.cell? (x.add (i * 3 + 2)) = some (.int .i64 o.n) ∧ Oe22 W o := by
      intro i hi
      obtain ⟨cs', h1, h2⟩ := hat i (by omega)
      obtain ⟨_, hlen, hcell⟩ := World.cells?_some h1
      obtain ⟨o, rfl, hO⟩ := one_cl22 h2 hlen (hwi i hi)
      have e0 := hcell 0 (by omega)
      have e1 := hcell 1 (by omega)
      have e2 := hcell 2 (by omega)
      rw [add_add] at e0 e1 e2
      exact ⟨o, by simpa using e0, by simpa using e1, by simpa using e2, hO⟩
    haveI : Inhabited Oc22 := ⟨⟨0, none, [], 0, 0⟩⟩
    obtain ⟨q, hq⟩ := choose_lt key
    refine ⟨q, ⟨fun i hi => ?_, fun i hi => (hq i (by omega)).2.2.2⟩, Or.inr ⟨_, _, hx.1, by simp⟩⟩
    obtain ⟨h0, h1, h2, _⟩ := hq i (by omega)
    obtain ⟨b, off, spot⟩ := x
    have hs : spot = none := by
      obtain ⟨h5, _⟩ := hq 0 (by omega)
      simpa [Addr.add] using World.cell?_spot h5
    subst hs
    have hadd : ∀ j, (⟨b, off, none⟩ : Addr).add j = ⟨b, off + j, none⟩ := by intro j; unfold Addr.add; split <;> simp_all
    rw [hadd] at h0 h1 h2
    exact ⟨b, off, rfl, h0, by rw [Nat.add_assoc]; exact h1, by rw [Nat.add_assoc]; exact h2⟩
end Go.Proofs.Ythefcmhmcgjcoaa
