import Derived.Test.YteboaolflecibaaDoorPa
import Derived.WalkKit
import Derived.ProofKit
import Derived.OpenShut
import Derived.SizedLaws
import Derived.Test.YteboaolflecibaaDoorPi
import Derived.Lib.SmallJoins
import Derived.Test.YteboaolflecibaaDoorPp
import Derived.Test.YteboaolflecibaaDoorPg
import Derived.Deep.CutRange
import Derived.Test.YteboaolflecibaaDoorPc
import Derived.Test.YteboaolflecibaaDoorPl
import Derived.Test.YteboaolflecibaaDoorProg
import Derived.Test.YteboaolflecibaaDoorPj
import Derived.WalkSpells
import Derived.WalkLawsBesides
namespace Go.Proofs.YteboaolflecibaaDoor
open Go.ChangeShapes Go.WideShapes Go.ChangeAt Go.RowKit
set_option linter.unusedVariables false
/-- A slice of whole numbers that came in: what lies there, and how it was read. -/
theorem open_seg {H : Type} {enc : TypeId × Value → H} {P : Program} {W : World} {T e : TypeId} {k : IntKind} {M : Int} {a : Option Addr} {len cap : Nat} {d : DataW H} {p : List MemPlace}
    (hT : P.underlying T = some (.slice e)) (he : P.underlying e = some (.int k)) (hc : P.cellsOf e = 1) (hM : 0 ≤ M) (hwf : ∀ n, (Lit.int k n).wf = true → 0 ≤ n ∧ n ≤ M)
    (h : DataW.Trod enc P W 0 (fun _ => true) true T (.slice a len cap) d p) :
    ∃ zs : List Int, zs.length = len ∧ SegK k M W a zs ∧ len ≤ cap ∧ (a = none → cap = 0) ∧ ((d = .nil ∧ len = 0) ∨ ∃ elems spare, d = .slice elems spare ∧ elems.length = len) := by
  obtain ⟨fuel, hf⟩ := h
  rcases open_ints hT he hc hf with ⟨hcs, hx⟩ | ⟨x, l, c, zs, hcs, _, hl, hm, hz, hx, hcell, hwz⟩
  · simp [Value.cells] at hcs
    obtain ⟨rfl, rfl, rfl⟩ := hcs
    simp only [Prod.mk.injEq] at hx
    exact ⟨[], rfl, SegK.nil hM _ _, Nat.le_refl _, fun _ => rfl, Or.inl ⟨hx.1, rfl⟩⟩
  · simp [Value.cells] at hcs
    obtain ⟨rfl, rfl, rfl⟩ := hcs
    simp only [Prod.mk.injEq] at hx
    simp only [if_true] at hz
    refine ⟨zs.take len, by simp; omega, ⟨fun i hi => ?_, hM, getD_bd hM ?_⟩, hl, (by intro h; cases h), Or.inr ⟨_, _, hx.1, by simp [ChangeShapes.lits]; omega⟩⟩
    · simp at hi
      have hi2 : i < len := by omega
      have h1 := hcell i (by omega)
      obtain ⟨b, off, spot⟩ := x
      have hs : spot = none := by
        have := hcell 0 (by omega)
        simpa [Addr.add] using World.cell?_spot this
      subst hs
      refine ⟨b, off, rfl, ?_⟩
      have hadd : (⟨b, off, none⟩ : Addr).add i = ⟨b, off + i, none⟩ := by unfold Addr.add; split <;> simp_all
      rw [hadd] at h1
      rw [h1]
      simp [List.getD, hi2]
    · intro z hz1
      exact hwf z (hwz z (List.mem_of_mem_take hz1))
end Go.Proofs.YteboaolflecibaaDoor

namespace Go.Proofs.YteboaolflecibaaDoor
open Go.ChangeShapes Go.WideShapes Go.ChangeAt Go.RowKit
set_option linter.unusedVariables false
set_option maxRecDepth 100000
def Im25.wd (i : Im25) : Prop := 0 ≤ i.m ∧ i.m ≤ 4294967295
end Go.Proofs.YteboaolflecibaaDoor

namespace Go.Proofs.YteboaolflecibaaDoor
open Go.RowKit Go.Shelf
set_option linter.unusedVariables false
set_option linter.unusedSimpArgs false
theorem yields_row25 {P : Program} {ops : Array Oper} {S : World → Prop} {op : Oper} {a : Act} (hw : Region.wanted op (yielded ops a.tmps) = true) (ty : TypeId) (x : Operand) (ho : op.op = .load ty x) (g : Nat) (hx : a.eval x = .pointer (some ⟨g, 0, none⟩)) (t : TypeId) (cs : Array Value) (fr : Nat × Nat) (d : TypeDesc) (hS : ∀ w, S w → w.heap[g]? = some (.cells cs t fr))
    (hu : P.underlying ty = some d) (hd : (match d with | .struct _ | .array _ _ => true | _ => false) = true) (hi : (P.info? ty).map (·.size) = some cs.size) : YieldsIf P ops S op (.agg cs) a :=
  .inl ⟨hw, fun w hw' => by
    unfold execOp
    simp only [ho, hx, Instr.loadAt, Instr.sureAddr, Sem.run_bind, Sem.run_pure, Result.andThen_ok, run_loadVar_row w g t ty cs fr d (hS w hw') hu hd hi]⟩
end Go.Proofs.YteboaolflecibaaDoor

namespace Go.Proofs.YteboaolflecibaaDoor
open Go.RowKit
set_option linter.unusedVariables false
theorem unfL_drop_le : ∀ (zs : List Int) (k : Nat), (∀ z ∈ zs, 0 ≤ z ∧ z ≤ 255) → unfL (zs.drop k) ≤ unfL zs
  | zs, 0, _ => by simp
  | [], k + 1, _ => by simp
  | z :: r, k + 1, h => by
    have h1 := unfL_drop_le r k (fun y hy => h y (by simp [hy]))
    have h2 := unfL_pos r (fun y hy => h y (by simp [hy]))
    have hz := h z (by simp)
    simp only [List.drop_succ_cons, unfL]
    omega

set_option maxRecDepth 100000 in
set_option maxHeartbeats 1000000 in
theorem runfix_ok (a : Option Addr) (zs : List Int) (cap s : Nat) (w : World) (hs : Seg w a zs) (hl : zs.length ≤ 140737488355328) (h1 : 1 ≤ s) (h8 : s ≤ 8) (hn : s ≤ zs.length) :
    Calls Tryd.prog 81 #[.slice a zs.length cap, .int .i64 s] w fun e w' => e = .returned (.tuple #[.int .u64 (unfL (zs.take s)), .int .i64 0]) ∧ w' = w := by
  have a1 : decide ((s : Int) < 1) = false := by simp; omega
  have hn' : (s : Int) ≤ (zs.length : Int) := by omega
  have hmem : ∀ z ∈ zs.take s, 0 ≤ z ∧ z ≤ 255 := fun z hz => hs.mem z (List.mem_of_mem_take hz)
  have htl : (zs.take s).length = s := by simp; omega
  have hU : unfL (zs.take s) ≤ 18446744073709551615 := by
    have hu := (unfL_pos (zs.take s) hmem).2
    rw [htl, p256] at hu
    have := Nat.pow_le_pow_right (n := 2) (by decide) (show 8 * s ≤ 64 by omega)
    have e : ∀ j : Nat, (2 : Int) ^ j = ((2 ^ j : Nat) : Int) := fun j => by simp
    rw [e] at hu
    omega
  obtain ⟨b, off, rfl, _⟩ := hs.at_ 0 (by omega)
  go_enter Tryd.func81, Tryd.ntmps81
  go_wp2
  go_loop [6, 7] (fun t i => ∃ k : Nat, k ≤ s ∧ i = .int .i64 ((k : Int) - 1) ∧ t = .int .u64 (unfL ((zs.take s).drop k))) (fun _ i => (intOf i + 1).toNat)
  case atStart => exact ⟨s, Nat.le_refl _, rfl, by rw [List.drop_of_length_le (by omega)]; rfl⟩
  case round =>
    obtain ⟨k, hk, rfl, rfl⟩ := hrel
    by_cases hlt : 0 < k
    · obtain ⟨k, rfl⟩ : ∃ j, k = j + 1 := ⟨k - 1, by omega⟩
      obtain ⟨b', off', hb', hcell⟩ := hs.at_ k (by omega)
      cases hb'
      have hx := hs.bd k
      have h2 := unfL_drop_le (zs.take s) k hmem
      have h3 := (unfL_pos ((zs.take s).drop (k + 1)) (fun z hz => hmem z (List.mem_of_mem_drop hz))).1
      have HD : Hid (unfL ((zs.take s).drop k) = zs.getD k 0 + 256 * unfL ((zs.take s).drop (k + 1))) := by
        show unfL _ = _
        rw [drop_cons (by omega)]
        have : (zs.take s).getD k 0 = zs.getD k 0 := by simp [List.getD, show k < s by omega]
        rw [this]; rfl
      rw [HD.out] at h2
      have hi : ((k + 1 : Nat) : Int) - 1 = (k : Int) := by omega
      rw [hi]
      generalize zs.getD k 0 = x at *
      generalize unfL ((zs.take s).drop (k + 1)) = V at *
      have hkl : (k : Int) < (zs.length : Int) := by omega
      clear hmem htl
      go_wp2
      go_round
      case rel => exact ⟨k, by omega, by go_num, by rw [HD.out]; go_num⟩
      case measure => simp [intOf]
    · obtain rfl : k = 0 := by omega
      clear hmem htl
      go_wp2
      go_ret2
      exact ⟨rfl, rfl⟩
end Go.Proofs.YteboaolflecibaaDoor
