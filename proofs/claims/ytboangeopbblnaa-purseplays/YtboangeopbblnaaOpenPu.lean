
import Derived.Test.YtboangeopbblnaaOpen
import Derived.WalkKit
import Derived.ProofKit
import Derived.OpenShut
import Derived.SizedLaws
import Derived.Deep.Slices
import Derived.Lib.SmallJoins
import Derived.ChangeArms
import Derived.Test.YtboangeopbblnaaProg
namespace Go.Proofs.Ytboangeopbblnaa
open Go.ChangeShapes Go.WideShapes Go.ChangeAt Go.RowKit Go.Deep
set_option linter.unusedVariables false
set_option maxRecDepth 100000

/-! A call of a purse, a script of such calls, that came in. -/
structure Oq23 where
  h : Bool
  s : ByteArray
  n : Int
theorem cells_op23 : Try.prog.cellsOf 30 = 3 := by kernel_rfl
theorem cells_bo23 : Try.prog.cellsOf 4 = 1 := by kernel_rfl
theorem cells_in23 : Try.prog.cellsOf 3 = 1 := by kernel_rfl
theorem cells_st23 : Try.prog.cellsOf 9 = 1 := by kernel_rfl
structure Of23 (o : Oq23) : Prop where
  s : o.s.size ≤ 9223372036854775807
  n : -9223372036854775808 ≤ o.n ∧ o.n ≤ 9223372036854775807
theorem one_op23 {H : Type} {enc : TypeId × Value → H} {W : World} {n : Nat} {cs : List Value} {x : DataW H × List MemPlace} (h : DataW.trod enc Try.prog W 0 (fun _ => true) true n 30 cs = some x) (hl : cs.length = 3) :
    ∃ (o : Oq23), cs = [.bool o.h, .string o.s, .int .i64 o.n] ∧ Of23 o := by
  obtain ⟨xs, k, _, hx, _, hxl, hf⟩ := DataW.trod_struct Try.underlying30 h
  match cs, hl with
  | [v0, v1, v2], _ =>
    match xs, hxl with
    | [y0, y1, y2], _ =>
      have g0 := hf 0 _ rfl
      have g1 := hf 1 _ rfl
      have g2 := hf 2 _ rfl
      simp [cells_in23, cells_bo23, cells_st23] at g0 g1 g2
      obtain ⟨V0, e0, _⟩ := DataW.trod_bool Try.underlying4 g0
      obtain ⟨V1, e1, _, w1⟩ := DataW.trod_string Try.underlying9 g1
      obtain ⟨V2, e2, _, w2⟩ := DataW.trod_int Try.underlying3 g2
      simp at e0 e1 e2
      subst e0 e1 e2
      refine ⟨⟨V0, V1, V2⟩, rfl, ⟨?_, bounds_i64 w2⟩⟩
      unfold maxLen at w1
      exact w1
theorem open_opv23 {H : Type} {enc : TypeId × Value → H} {W : World} {r : Reach} {b0 : Nat} {v : Value} {d : DataW H} {pl : List MemPlace}
    (hv : Value.okWide Try.prog W r b0 30 v) (h : DataW.Trod enc Try.prog W 0 (fun _ => true) true 30 v d pl) :
    ∃ o : Oq23, v = .agg #[.bool o.h, .string o.s, .int .i64 o.n] ∧ Of23 o := by
  obtain ⟨cs, rfl, hsz⟩ := okWide_struct Try.underlying30 hv
  rw [cells_op23] at hsz
  obtain ⟨fuel, hf⟩ := h
  obtain ⟨l⟩ := cs
  obtain ⟨o, ho, h2⟩ := one_op23 (cs := l) (by simpa [Value.cells] using hf) (by simpa using hsz)
  exact ⟨o, by rw [ho], h2⟩
/-- A script in memory. -/
structure Ss23 (W : World) (a : Option Addr) (len : Nat) (O : Nat → Oq23) : Prop where
  at_ : ∀ i, i < len → ∃ g off, a = some ⟨g, off, none⟩ ∧ W.cell? ⟨g, off + i * 3, none⟩ = some (.bool (O i).h) ∧ W.cell? ⟨g, off + i * 3 + 1, none⟩ = some (.string (O i).s) ∧ W.cell? ⟨g, off + i * 3 + 2, none⟩ = some (.int .i64 (O i).n)
  of : ∀ i, i < len → Of23 (O i)
theorem open_script23 {H : Type} {enc : TypeId × Value → H} {W : World} {a : Option Addr} {len cap : Nat} {d : DataW H} {pl : List MemPlace}
    (h : DataW.Trod enc Try.prog W 0 (fun _ => true) true 23 (.slice a len cap) d pl) :
    ∃ O : Nat → Oq23, Ss23 W a len O ∧ ((d = .nil ∧ len = 0) ∨ ∃ elems spare, d = .slice elems spare ∧ elems.length = len) := by
  obtain ⟨fuel, hf⟩ := h
  rcases open_slice Try.underlying23 hf with ⟨hcs, hx⟩ | ⟨x, l, c, m, n, D, Pl, hcs, _, hl, hm, hmm, hx, hat⟩
  · simp [Value.cells] at hcs
    obtain ⟨rfl, rfl, rfl⟩ := hcs
    simp only [Prod.mk.injEq] at hx
    exact ⟨fun _ => ⟨false, ByteArray.empty, 0⟩, ⟨fun i hi => by omega, fun i hi => by omega⟩, Or.inl ⟨hx.1, rfl⟩⟩
  · simp [Value.cells] at hcs
    obtain ⟨rfl, rfl, rfl⟩ := hcs
    simp only [Prod.mk.injEq] at hx
    simp only [if_true] at hmm
    subst hmm
    rw [cells_op23] at hat
    have key : ∀ i, i < m → ∃ o : Oq23, W.cell? (x.add (i * 3)) = some (.bool o.h) ∧ W.cell? (x.add (i * 3 + 1)) = some (.string o.s) ∧ W.cell? (x.add (i * 3 + 2)) = some (.int .i64 o.n) ∧ Of23 o := by
      intro i hi
      obtain ⟨cs', h1, h2⟩ := hat i hi
      obtain ⟨_, hlen, hcell⟩ := World.cells?_some h1
      obtain ⟨o, rfl, hO⟩ := one_op23 h2 hlen
      have e0 := hcell 0 (by omega)
      have e1 := hcell 1 (by omega)
      have e2 := hcell 2 (by omega)
      rw [add_add] at e0 e1 e2
      exact ⟨o, by simpa using e0, by simpa using e1, by simpa using e2, hO⟩
    haveI : Inhabited Oq23 := ⟨⟨false, ByteArray.empty, 0⟩⟩
    obtain ⟨q, hq⟩ := choose_lt key
    refine ⟨q, ⟨fun i hi => ?_, fun i hi => (hq i (by omega)).2.2.2⟩, Or.inr ⟨_, _, hx.1, by simp⟩⟩
    obtain ⟨h0, h1, h2, _⟩ := hq i (by omega)
    obtain ⟨b, off, spot⟩ := x
    have hs : spot = none := by
      obtain ⟨h5, _⟩ := hq 0 (by omega)
      simpa [Addr.add] using World.cell?_spot h5
    subst hs
    have hadd : ∀ j, (⟨b, off, none⟩ : Addr).add j = ⟨b, off + j, none⟩ := by intro j; unfold Addr.add; split <;> simp_all
    rw [hadd] at h0 h1 h2
    exact ⟨b, off, rfl, h0, by rw [Nat.add_assoc]; exact h1, by rw [Nat.add_assoc]; exact h2⟩
end Go.Proofs.Ytboangeopbblnaa
