import Derived.WalkKit
import Derived.Deep.Draws
import Derived.OneCell
import Derived.WalkSpells
import Derived.Laws.AppendOwnNone
import Derived.RangeFuncNested
import Derived.RangeFuncBound
import Derived.RangeFuncCalls
import Derived.RangeFuncLeaves
import Derived.Shelf.Abstract
import Derived.OwnWalkIn
import Derived.TacticsInMore
import Derived.LoopNIn
import Derived.LoopIn
import Derived.Test.YtmjlpfmacblcpaaDoorProg
import Derived.StillTailTactics
import Derived.OrdersIn
import Derived.OrdersHeld
import Derived.Deep.RegionHeld
import Derived.Maps.OwnSet
import Derived.DeepKeys4
import Derived.WideKeyPair
import Derived.Laws.Rows
import Derived.Deep.RegionHeld3
import Derived.Lib.SmallJoins
import Derived.Deep.CutRange
import Derived.Deep.QuietTactic
namespace Go.Proofs.YtmjlpfmacblcpaaDoor
open Go.RowKit
theorem two_cell0 {w : World} {b : Nat} {u v : Value} {t : TypeId} (h : w.heap[b]? = some (.cells #[u, v] t (0, 0))) : w.cell? ⟨b, 0, none⟩ = some u := by simp [World.cell?, h]
theorem two_cell1 {w : World} {b : Nat} {u v : Value} {t : TypeId} (h : w.heap[b]? = some (.cells #[u, v] t (0, 0))) : w.cell? ⟨b, 1, none⟩ = some v := by simp [World.cell?, h]
theorem two_free {w : World} {b : Nat} {u v : Value} {t : TypeId} (h : w.heap[b]? = some (.cells #[u, v] t (0, 0))) (i : Nat) : w.frozen? ⟨b, i, none⟩ = false := by simp [World.frozen?, h]
theorem two_set0 {w : World} {b : Nat} {u v : Value} {t : TypeId} (h : w.heap[b]? = some (.cells #[u, v] t (0, 0))) (x : Value) : (w.setCell ⟨b, 0, none⟩ x).heap[b]? = some (.cells #[x, v] t (0, 0)) := by
  simp [World.setCell, Array.getElem?_modify, h]
theorem two_set1 {w : World} {b : Nat} {u v : Value} {t : TypeId} (h : w.heap[b]? = some (.cells #[u, v] t (0, 0))) (x : Value) : (w.setCell ⟨b, 1, none⟩ x).heap[b]? = some (.cells #[u, x] t (0, 0)) := by
  simp [World.setCell, Array.getElem?_modify, h]

theorem grownBy_trans {a b c : World} {row : Option Nat} (h : a.grownBy b row) (k : b.grownBy c row) : a.grownBy c row :=
  ⟨k.os.trans h.os, k.tape.trans h.tape, k.output.trans h.output, Nat.le_trans h.size k.size, fun i hi hne => (k.block i (Nat.lt_of_lt_of_le hi h.size) hne).trans (h.block i hi hne)⟩
theorem grownBy_drew {a b : World} {row : Option Nat} (h : a.grownBy b row) : a.grownBy b.drew row := ⟨h.os, h.tape, h.output, h.size, h.block⟩
theorem grownBy_set {a w : World} {b i : Nat} (h : a.grownBy w (some b)) (x : Value) : a.grownBy (w.setCell ⟨b, i, none⟩ x) (some b) :=
  grownBy_trans h ⟨rfl, rfl, rfl, by simp [World.setCell], fun k _ hne => Below.heap_setCell _ _ _ _ (fun e => hne (by rw [e]))⟩
theorem below_of_grown {a w : World} {b B : Nat} (h : a.grownBy w (some b)) (hB : B ≤ b) (hs : B ≤ a.heap.size) : Below B a w :=
  (Below.refl B a).grown h hs (by intro k e; cases e; exact hB)

end Go.Proofs.YtmjlpfmacblcpaaDoor

namespace Go.Proofs.YtmjlpfmacblcpaaDoor
open Go.RowKit
set_option linter.unusedVariables false
/-- Bytes lie where a slice's address leads. -/
structure SegK (k : IntKind) (M : Int) (w : World) (a : Option Addr) (zs : List Int) : Prop where
  at_ : ∀ i, i < zs.length → ∃ b off, a = some ⟨b, off, none⟩ ∧ w.cell? ⟨b, off + i, none⟩ = some (.int k (zs.getD i 0))
  pos : 0 ≤ M
  bd : ∀ i, 0 ≤ zs.getD i 0 ∧ zs.getD i 0 ≤ M
abbrev Seg (w : World) (a : Option Addr) (zs : List Int) : Prop := SegK .u8 255 w a zs
abbrev Seg64 (w : World) (a : Option Addr) (zs : List Int) : Prop := SegK .u64 18446744073709551615 w a zs
variable {k : IntKind} {M : Int}
theorem SegK.nil (hM : 0 ≤ M) (w : World) (a : Option Addr) : SegK k M w a [] := ⟨fun i h => by simp at h, hM, fun i => by simp [hM]⟩
theorem SegK.of_cells {w w' : World} {a : Option Addr} {zs : List Int} (h : SegK k M w a zs) (hc : ∀ b off i v, i < zs.length → a = some ⟨b, off, none⟩ → w.cell? ⟨b, off + i, none⟩ = some v → w'.cell? ⟨b, off + i, none⟩ = some v) : SegK k M w' a zs :=
  ⟨fun i hi => by obtain ⟨b, off, ha, hcl⟩ := h.at_ i hi; exact ⟨b, off, ha, hc b off i _ hi ha hcl⟩, h.pos, h.bd⟩
theorem SegK.below {w w' : World} {a : Option Addr} {zs : List Int} {B : Nat} (h : SegK k M w a zs) (hb : Below B w w') (hB : ∀ b off, a = some ⟨b, off, none⟩ → 0 < zs.length → b < B) : SegK k M w' a zs :=
  h.of_cells fun b off i v hi ha hcl => (hb.cell (p := ⟨b, off + i, none⟩) (hB b off ha (by omega))).trans hcl
theorem SegK.lt {w : World} {a : Option Addr} {zs : List Int} (h : SegK k M w a zs) : ∀ b off, a = some ⟨b, off, none⟩ → 0 < zs.length → b < w.heap.size := by
  intro b off ha hl
  obtain ⟨b', off', ha', hc⟩ := h.at_ 0 hl
  rw [ha] at ha'
  cases ha'
  exact World.block_lt_of_cell? w _ hc
theorem SegK.old {w w' : World} {a : Option Addr} {zs : List Int} (h : SegK k M w a zs) (hb : Below w.heap.size w w') : SegK k M w' a zs := h.below hb h.lt
theorem SegK.drewN {w : World} {a : Option Addr} {zs : List Int} (h : SegK k M w a zs) (n : Nat) : SegK k M (w.drewN n) a zs := ⟨h.at_, h.pos, h.bd⟩
theorem SegK.drew {w : World} {a : Option Addr} {zs : List Int} (h : SegK k M w a zs) : SegK k M w.drew a zs := ⟨h.at_, h.pos, h.bd⟩
theorem SegK.alloc {w : World} {a : Option Addr} {zs : List Int} (h : SegK k M w a zs) (o : Obj) : SegK k M (w.alloc o) a zs := h.old ((Below.refl _ _).alloc (Nat.le_refl _) o)
theorem SegK.grown {w w' : World} {a : Option Addr} {zs : List Int} {row : Option Nat} (h : SegK k M w a zs) (hg : w.grownBy w' row) (hne : ∀ b off, a = some ⟨b, off, none⟩ → 0 < zs.length → some b ≠ row) : SegK k M w' a zs :=
  h.of_cells fun b off i v hi ha hcl => hg.cell hcl (hne b off ha (by omega))
theorem SegK.take {w : World} {a : Option Addr} {zs : List Int} (h : SegK k M w a zs) (m : Nat) : SegK k M w a (zs.take m) := by
  refine ⟨fun i hi => ?_, h.pos, fun i => ?_⟩
  · simp at hi
    obtain ⟨b, off, ha, hc⟩ := h.at_ i (by omega)
    refine ⟨b, off, ha, ?_⟩
    rw [hc]
    have hk : i < m := by omega
    simp [List.getD, hk]
  · have := h.bd i
    simp only [List.getD, List.getElem?_take]
    split
    · exact this
    · simp [h.pos]
theorem SegK.mem {w : World} {a : Option Addr} {zs : List Int} (h : SegK k M w a zs) : ∀ z ∈ zs, 0 ≤ z ∧ z ≤ M := by
  intro z hz
  obtain ⟨i, hi, rfl⟩ := List.mem_iff_getElem.1 hz
  have := h.bd i
  simpa [List.getD, hi] using this
theorem SegK.drop {w : World} {b off : Nat} {zs : List Int} (h : SegK k M w (some ⟨b, off, none⟩) zs) (m : Nat) : SegK k M w (some ⟨b, off + m, none⟩) (zs.drop m) := by
  refine ⟨fun i hi => ?_, h.pos, fun i => ?_⟩
  · simp at hi
    obtain ⟨b', off', ha, hc⟩ := h.at_ (m + i) (by omega)
    cases ha
    refine ⟨b, off + m, rfl, ?_⟩
    rw [Nat.add_assoc, hc]
    simp [List.getD]
  · have := h.bd (m + i)
    simpa [List.getD] using this
end Go.Proofs.YtmjlpfmacblcpaaDoor

namespace Go.Proofs.YtmjlpfmacblcpaaDoor
open Go.RowKit
set_option linter.unusedVariables false
/-- 'out = append(out, y)', y one cell that lies in a block of its own, out the call's own row. -/
theorem wpList_push {P : Program} {ops : Array Oper} {rest : List Oper} {o : Oper} {a : Act} {Q : Exit → Act → World → Prop} (hgd : o.guard = none) (s x : Operand) (t : TypeId)
    (ho : o.op = .call { callee := .builtin .append, args := #[s, x], argTypes := #[t, t] })
    (base : Nat) (e : TypeId) (i : TypeInfo) (z : Value) (bytes : Nat) (ht : P.underlying t = some (.slice e)) (hi : P.info? e = some i) (hz : i.zero = some z)
    (hsize : i.size = 1) (hby : i.bytes = bytes) (hzs : z.cells.size = 1)
    (w0 : World) (y : Value) (hy : y.oneCell' = true) {v : Value} {n : Nat} {xs : List Value} (hown : w0.ownsRow base e 1 v n xs) (hs : a.eval s = v) (hx : a.eval x = .slice (some ⟨w0.heap.size, 0, none⟩) 1 1)
    (h63 : n + 1 ≤ 140737488355328) (hbytes : (n + 1) * bytes ≤ 140737488355328) (hbase : base ≤ w0.heap.size)
    (h : ∀ v' w', w'.ownsRow base e 1 v' (n + 1) (xs ++ [y]) → w0.grownBy w' v.ownBlock → Below base w0 w' → wpList P ops Q rest (a.put o.dst v') w') : wpList P ops Q (o :: rest) a (w0.alloc (.cells #[y] e)) := by
  refine wpList_append_own _ hgd s x t ho base e i z 1 bytes ht hi hz hsize hby hzs (by decide) v n xs hs (hown.alloc _) ⟨w0.heap.size, 0, none⟩ 1 1 [y] hx rfl (cell_one_new _ _ _) ?_ (by unfold maxLen; omega) hbytes (by simp; omega) ?_
  · intro u hu; simp at hu; subst hu; exact hy
  · intro v' w' h1 h2 _
    have hg : w0.grownBy w' v.ownBlock := grownBy_trans (World.grownBy_alloc w0 _ _) h2
    exact h v' w' h1 hg ((Below.refl _ _).grown hg hbase (fun k hk => (hown.lt k hk).1))

theorem seg_cells {k : IntKind} {M : Int} {w : World} {x : Addr} {zs : List Int} (h : SegK k M w (some x) zs) : ∀ j u, (zs.map (Value.int k))[j]? = some u → w.cell? (x.add j) = some u := by
  intro j u hu
  have hj : j < zs.length := by
    rcases Nat.lt_or_ge j zs.length with h | h
    · exact h
    · simp [List.getElem?_eq_none h] at hu
  obtain ⟨b, off, hx, hc⟩ := h.at_ j hj
  cases hx
  have hadd : (⟨b, off, none⟩ : Addr).add j = ⟨b, off + j, none⟩ := by unfold Addr.add; split <;> simp_all
  rw [hadd, hc]
  simp [hj] at hu
  subst hu
  simp [List.getD, hj]

/-- 'out = append(out, src...)', src whatever numbers lie there. -/
theorem wpList_append_seg {P : Program} {ops : Array Oper} {rest : List Oper} {o : Oper} {a : Act} {Q : Exit → Act → World → Prop} (hgd : o.guard = none) (s x : Operand) (t : TypeId)
    (ho : o.op = .call { callee := .builtin .append, args := #[s, x], argTypes := #[t, t] })
    (base : Nat) (e : TypeId) (i : TypeInfo) (z : Value) (bytes : Nat) (ht : P.underlying t = some (.slice e)) (hi : P.info? e = some i) (hz : i.zero = some z)
    (hsize : i.size = 1) (hby : i.bytes = bytes) (hzs : z.cells.size = 1)
    {w : World} {v : Value} {n : Nat} {xs : List Value} (hown : w.ownsRow base e 1 v n xs) {k : IntKind} {M : Int} {ao : Option Addr} {zs : List Int} {cap : Nat} (hseg : SegK k M w ao zs) (hnil : ao = none → cap = 0)
    (hs : a.eval s = v) (hx : a.eval x = .slice ao zs.length cap)
    (h63 : n + zs.length ≤ 140737488355328) (hbytes : (n + zs.length) * bytes ≤ 140737488355328) (hbase : base ≤ w.heap.size)
    (h : ∀ v' w', w'.ownsRow base e 1 v' (n + zs.length) (xs ++ zs.map (Value.int k)) → w.grownBy w' v.ownBlock → Below base w w' → wpList P ops Q rest (a.put o.dst v') w') : wpList P ops Q (o :: rest) a w := by
  cases ao with
  | none =>
    have hz : zs = [] := by
      cases zs with
      | nil => rfl
      | cons z r => obtain ⟨b, off, hx, _⟩ := hseg.at_ 0 (by simp); cases hx
    subst hz
    rw [hnil rfl] at hx
    refine wpList_append_own_none hgd s x t ho base e i 1 ht hi v n xs hs hown hx ?_
    exact h v w (by simpa using hown) (World.grownBy.refl _ _) (Below.refl _ _)
  | some ad =>
    refine wpList_append_own _ hgd s x t ho base e i z 1 bytes ht hi hz hsize hby hzs (by decide) v n xs hs hown ad zs.length cap (zs.map (Value.int k)) hx (by simp) (seg_cells hseg) (ints_oneCell _ _) (by unfold maxLen; omega) hbytes hbase ?_
    intro v' w' h1 h2 _
    exact h v' w' h1 h2 ((Below.refl _ _).grown h2 hbase (fun k hk => (hown.lt k hk).1))

/-- A row that holds something has a place. -/
theorem own_shape {w : World} {base n : Nat} {e : TypeId} {v : Value} {xs : List Value} (h : w.ownsRow base e 1 v n xs) (hn : 0 < n) : ∃ g cap, v = .slice (some ⟨g, 0, none⟩) n cap ∧ n ≤ cap ∧ base ≤ g ∧ g < w.heap.size := by
  rcases h.2 with ⟨_, h0⟩ | ⟨g, cap, cur, rfl, hg, hh, hc, _⟩
  · omega
  · exact ⟨g, cap, rfl, hc, hg, (Array.getElem?_eq_some_iff.1 hh).1⟩
end Go.Proofs.YtmjlpfmacblcpaaDoor

namespace Go.Proofs.YtmjlpfmacblcpaaDoor
open Go.RowKit
set_option linter.unusedVariables false
theorem getD_bd {zs : List Int} {M : Int} (hM : 0 ≤ M) (h : ∀ z ∈ zs, 0 ≤ z ∧ z ≤ M) (i : Nat) : 0 ≤ zs.getD i 0 ∧ zs.getD i 0 ≤ M := by
  by_cases hi : i < zs.length
  · have := h zs[i] (List.getElem_mem hi)
    simpa [List.getD, hi] using this
  · have : zs[i]? = none := List.getElem?_eq_none (by omega)
    simp [List.getD, this, hM]

/-- A row that the call owns, as bytes that lie there. -/
theorem own_seg {w : World} {base n : Nat} {e : TypeId} {v : Value} {k : IntKind} {M : Int} {zs : List Int} (h : w.ownsRow base e 1 v n (zs.map (Value.int k))) (hM : 0 ≤ M) (hb : ∀ z ∈ zs, 0 ≤ z ∧ z ≤ M) :
    n = zs.length ∧ ∃ a cap, v = .slice a n cap ∧ SegK k M w a zs ∧ (∀ x, a = some x → x.off = 0 ∧ x.spot = none ∧ base ≤ x.block ∧ x.block < w.heap.size) ∧ n ≤ cap ∧ v.ownBlock = a.map (·.block) := by
  have hl : zs.length = n := by simpa using h.1
  refine ⟨hl.symm, ?_⟩
  rcases h.2 with ⟨rfl, hn⟩ | ⟨g, cap, cur, rfl, hg, hh, hc, _, _, ht⟩
  · have : zs = [] := List.eq_nil_of_length_eq_zero (by omega)
    subst this
    exact ⟨none, 0, by rw [hn], SegK.nil hM _ _, by simp, by omega, rfl⟩
  · refine ⟨some ⟨g, 0, none⟩, cap, rfl, ⟨fun i hi => ⟨g, 0, rfl, ?_⟩, hM, getD_bd hM hb⟩, ?_, hc, rfl⟩
    · have := h.cells (g := g) rfl i (.int k (zs.getD i 0)) (by simp [List.getD, hi])
      have hadd : (⟨g, 0, none⟩ : Addr).add i = ⟨g, 0 + i, none⟩ := by unfold Addr.add; split <;> simp_all
      rw [hadd] at this
      exact this
    · intro x hx
      cases hx
      exact ⟨rfl, rfl, hg, (Array.getElem?_eq_some_iff.1 hh).1⟩

/-- What is owned stays owned where nothing that was there turned. -/
theorem own_below {w w' : World} {base n : Nat} {e : TypeId} {v : Value} {xs : List Value} (h : w.ownsRow base e 1 v n xs) (hb : Below w.heap.size w w') : w'.ownsRow base e 1 v n xs := by
  refine ⟨h.1, ?_⟩
  rcases h.2 with h2 | ⟨g, cap, cur, hv, hg, hh, r⟩
  · exact Or.inl h2
  · exact Or.inr ⟨g, cap, cur, hv, hg, by rw [hb.block g (Array.getElem?_eq_some_iff.1 hh).1]; exact hh, r⟩
end Go.Proofs.YtmjlpfmacblcpaaDoor

namespace Go.Proofs.YtmjlpfmacblcpaaDoor
open Go.RowKit
set_option linter.unusedVariables false
theorem three_cell0 {w : World} {b : Nat} {x y z : Value} {t : TypeId} (h : w.heap[b]? = some (.cells #[x, y, z] t (0, 0))) : w.cell? ⟨b, 0, none⟩ = some x := by simp [World.cell?, h]
theorem three_cell1 {w : World} {b : Nat} {x y z : Value} {t : TypeId} (h : w.heap[b]? = some (.cells #[x, y, z] t (0, 0))) : w.cell? ⟨b, 1, none⟩ = some y := by simp [World.cell?, h]
theorem three_cell2 {w : World} {b : Nat} {x y z : Value} {t : TypeId} (h : w.heap[b]? = some (.cells #[x, y, z] t (0, 0))) : w.cell? ⟨b, 2, none⟩ = some z := by simp [World.cell?, h]
theorem three_free {w : World} {b : Nat} {x y z : Value} {t : TypeId} (h : w.heap[b]? = some (.cells #[x, y, z] t (0, 0))) (i : Nat) : w.frozen? ⟨b, i, none⟩ = false := by simp [World.frozen?, h]
theorem three_set0 {w : World} {b : Nat} {x y z : Value} {t : TypeId} (h : w.heap[b]? = some (.cells #[x, y, z] t (0, 0))) (u : Value) : (w.setCell ⟨b, 0, none⟩ u).heap[b]? = some (.cells #[u, y, z] t (0, 0)) := by
  simp [World.setCell, Array.getElem?_modify, h]
theorem three_set1 {w : World} {b : Nat} {x y z : Value} {t : TypeId} (h : w.heap[b]? = some (.cells #[x, y, z] t (0, 0))) (u : Value) : (w.setCell ⟨b, 1, none⟩ u).heap[b]? = some (.cells #[x, u, z] t (0, 0)) := by
  simp [World.setCell, Array.getElem?_modify, h]
theorem three_set2 {w : World} {b : Nat} {x y z : Value} {t : TypeId} (h : w.heap[b]? = some (.cells #[x, y, z] t (0, 0))) (u : Value) : (w.setCell ⟨b, 2, none⟩ u).heap[b]? = some (.cells #[x, y, u] t (0, 0)) := by
  simp [World.setCell, Array.getElem?_modify, h]

structure Kp (S : Nat → Prop) (w w' : World) : Prop where
  os : w'.os = w.os
  tape : w'.tape = w.tape
  output : w'.output = w.output
  size : w.heap.size ≤ w'.heap.size
  block : ∀ k, k < w.heap.size → ¬ S k → w'.heap[k]? = w.heap[k]?
theorem Kp.refl (S : Nat → Prop) (w : World) : Kp S w w := ⟨rfl, rfl, rfl, Nat.le_refl _, fun _ _ _ => rfl⟩
theorem Kp.trans {S S' : Nat → Prop} {a b c : World} (h : Kp S a b) (k : Kp S' b c) (hs : ∀ i, i < a.heap.size → S' i → S i) : Kp S a c :=
  ⟨k.os.trans h.os, k.tape.trans h.tape, k.output.trans h.output, Nat.le_trans h.size k.size, fun i hi hn => (k.block i (Nat.lt_of_lt_of_le hi h.size) (fun e => hn (hs i hi e))).trans (h.block i hi hn)⟩
theorem Kp.mono {S S' : Nat → Prop} {a b : World} (h : Kp S a b) (hs : ∀ i, i < a.heap.size → S i → S' i) : Kp S' a b :=
  ⟨h.os, h.tape, h.output, h.size, fun i hi hn => h.block i hi (fun e => hn (hs i hi e))⟩
theorem Kp.grown {S : Nat → Prop} {a b : World} {row : Option Nat} (h : a.grownBy b row) (hs : ∀ i, row = some i → S i) : Kp S a b :=
  ⟨h.os, h.tape, h.output, h.size, fun i hi hn => h.block i hi (fun e => hn (hs i e.symm))⟩
theorem Kp.of_below {S : Nat → Prop} {a b : World} (h : Below a.heap.size a b) : Kp S a b := ⟨h.os, h.tape, h.output, h.size, fun i hi _ => h.block i hi⟩
theorem Kp.below {S : Nat → Prop} {a b : World} {B : Nat} (h : Kp S a b) (hs : ∀ i, S i → B ≤ i) (hB : B ≤ a.heap.size) : Below B a b :=
  ⟨h.os, h.tape, h.output, h.size, fun i hi => h.block i (Nat.lt_of_lt_of_le hi hB) (fun e => by have := hs i e; omega)⟩
theorem Kp.set {S : Nat → Prop} {w : World} {b i : Nat} (hb : S b) (x : Value) : Kp S w (w.setCell ⟨b, i, none⟩ x) :=
  .grown (grownBy_set (World.grownBy.refl _ _) _) (by intro j e; cases e; exact hb)
theorem Kp.alloc {S : Nat → Prop} (w : World) (o : Obj) : Kp S w (w.alloc o) := .of_below ((Below.refl _ _).alloc (Nat.le_refl _) _)
theorem Kp.drew {S : Nat → Prop} {a b : World} (h : Kp S a b) : Kp S a b.drew := ⟨h.os, h.tape, h.output, h.size, h.block⟩
theorem Kp.drewN {S : Nat → Prop} {a b : World} (h : Kp S a b) (n : Nat) : Kp S a (b.drewN n) := ⟨h.os, h.tape, h.output, h.size, h.block⟩
theorem Kp.heap {S : Nat → Prop} {a b : World} {k : Nat} {o : Obj} (h : Kp S a b) (hk : a.heap[k]? = some o) (hn : ¬ S k) : b.heap[k]? = some o := by
  rw [h.block k (Array.getElem?_eq_some_iff.1 hk).1 hn]; exact hk

theorem SegK.kp {k : IntKind} {M : Int} {w w' : World} {S : Nat → Prop} {a : Option Addr} {zs : List Int} (h : SegK k M w a zs) (hb : Kp S w w') (hn : ∀ b off, a = some ⟨b, off, none⟩ → 0 < zs.length → ¬ S b) : SegK k M w' a zs :=
  h.of_cells fun b off i v hi ha hcl => by
    have hlt : b < w.heap.size := World.block_lt_of_cell? w _ hcl
    rw [World.cell?_of_block (a := ⟨b, off + i, none⟩) (hb.block b hlt (hn b off ha (by omega)))]
    exact hcl

/-- The row lies at its old place, or in a new block. -/
def Fresh (w : World) (v v' : Value) : Prop := ∀ k, v'.ownBlock = some k → v.ownBlock = some k ∨ w.heap.size ≤ k

/-- An append onto a row of the call's own. -/
theorem run_app_st {P : Program} (t ty : TypeId) (base : Nat) (e : TypeId) (i : TypeInfo) (z : Value) (bytes : Nat) (ht : P.underlying t = some (.slice e)) (hi : P.info? e = some i) (hz : i.zero = some z)
    (hsize : i.size = 1) (hby : i.bytes = bytes) (hzs : z.cells.size = 1)
    (w : World) {v : Value} {n : Nat} {xs : List Value} (hown : w.ownsRow base e 1 v n xs) (a : Addr) (m c : Nat) (news : List Value) (hl : news.length = m) (hnews : ∀ j u, news[j]? = some u → w.cell? (a.add j) = some u) (h1 : ∀ u ∈ news, u.oneCell' = true)
    (h63 : n + m ≤ 140737488355328) (hbytes : (n + m) * bytes ≤ 140737488355328) (hbase : base ≤ w.heap.size) :
    ∃ v' w', (Builtin.append_ #[t, t] ty #[v, .slice (some a) m c]).run P w = .ok v' w' ∧ w'.ownsRow base e 1 v' (n + m) (xs ++ news) ∧ w.grownBy w' v.ownBlock ∧ (v' = .slice none 0 0 ↔ v = .slice none 0 0 ∧ m = 0) ∧ Fresh w v v' := by
  obtain ⟨v', w', hr, h2, h3, h4⟩ := run_append_own (P := P) w base t ty e i z 1 bytes ht hi hz hsize hby hzs (by decide) v n xs hown a m c news (by omega) hnews h1 (by unfold maxLen; omega) hbytes hbase
  refine ⟨v', w', hr, h2, h3, h4, ?_⟩
  subst hby
  rcases hown.2 with ⟨rfl, rfl⟩ | ⟨g, cap, cur, rfl, hbg, hg, hnc, hcm, hcs, htake⟩
  · by_cases hm : m = 0
    · rw [h4.2 ⟨rfl, hm⟩]
      intro k hk; cases hk
    · have hr2 := run_append_nil (P := P) w t ty e i z ht hi hz a m c news (by rw [hsize]; omega) hnews (by omega) (by omega) (by simp only [Nat.zero_add] at hbytes; omega)
      rw [hr] at hr2
      simp only [Result.ok.injEq] at hr2
      obtain ⟨rfl, rfl⟩ := hr2
      intro k hk; cases hk; exact .inr (Nat.le_refl _)
  · by_cases hroom : n + m ≤ cap
    · have hr2 := run_append_room (P := P) w t ty e i ht hi g n cap cur hg a m c news (by rw [hsize]; omega) hnews h1 hroom (by rw [hsize]; omega)
      rw [hr] at hr2
      simp only [Result.ok.injEq] at hr2
      obtain ⟨rfl, rfl⟩ := hr2
      intro k hk; exact .inl hk
    · have hr2 := run_append_grow (P := P) w t ty e i z ht hi hz ⟨g, 0, none⟩ n cap xs (by rw [hsize]; exact hown.1) (hown.cells (g := g) rfl) a m c news (by rw [hsize]; omega) hnews (by omega) (by omega) (growslice_fits (by omega) hbytes)
      rw [hr] at hr2
      simp only [Result.ok.injEq] at hr2
      obtain ⟨rfl, rfl⟩ := hr2
      intro k hk; cases hk; exact .inr (Nat.le_refl _)

/-- 'out = append(out, src...)', src whatever one-cell values lie there; the row is at its place, or in a new block. -/
theorem wpList_app {P : Program} {ops : Array Oper} {rest : List Oper} {o : Oper} {a : Act} {Q : Exit → Act → World → Prop} (hgd : o.guard = none) (s x : Operand) (t : TypeId)
    (ho : o.op = .call { callee := .builtin .append, args := #[s, x], argTypes := #[t, t] })
    (base : Nat) (e : TypeId) (i : TypeInfo) (z : Value) (bytes : Nat) (ht : P.underlying t = some (.slice e)) (hi : P.info? e = some i) (hz : i.zero = some z)
    (hsize : i.size = 1) (hby : i.bytes = bytes) (hzs : z.cells.size = 1)
    {w : World} {v : Value} {n : Nat} {xs : List Value} (hown : w.ownsRow base e 1 v n xs) {ad : Addr} {m cap : Nat} {news : List Value} (hl : news.length = m) (hnews : ∀ j u, news[j]? = some u → w.cell? (ad.add j) = some u) (h1 : ∀ u ∈ news, u.oneCell' = true)
    (hs : a.eval s = v) (hx : a.eval x = .slice (some ad) m cap)
    (h63 : n + m ≤ 140737488355328) (hbytes : (n + m) * bytes ≤ 140737488355328) (hbase : base ≤ w.heap.size)
    (h : ∀ (b : Option Addr) (c : Nat) (w' : World), w'.ownsRow base e 1 (.slice b (n + m) c) (n + m) (xs ++ news) → w.grownBy w' v.ownBlock → Fresh w v (.slice b (n + m) c) → (Value.slice b (n + m) c = .slice none 0 0 ↔ v = .slice none 0 0 ∧ m = 0) → wpList P ops Q rest (a.put o.dst (.slice b (n + m) c)) w') : wpList P ops Q (o :: rest) a w := by
  obtain ⟨v', w', hr, h2, h3, h4, h5⟩ := run_app_st (P := P) t o.type base e i z bytes ht hi hz hsize hby hzs w hown ad m cap news hl hnews h1 h63 hbytes hbase
  obtain ⟨b, c, rfl⟩ : ∃ b c, v' = .slice b (n + m) c := by
    rcases h2.2 with ⟨rfl, h0⟩ | ⟨g, cp, cur, rfl, _⟩
    · exact ⟨none, 0, by rw [h0]⟩
    · exact ⟨_, _, rfl⟩
  refine wpList_plain hgd fun K hK => ?_
  unfold Oper.wp execOp
  simp only [ho, resolve, invoke, builtin, Sem.run_bind, Sem.run_pure, Result.andThen_ok, List.map_toArray, List.map_cons, List.map_nil, hs, hx, hr]
  exact hK _ _ (h b c w' h2 h3 h5 h4)

/-- Numbers that lie somewhere, behind a row. -/
theorem wpList_appS {P : Program} {ops : Array Oper} {rest : List Oper} {o : Oper} {a : Act} {Q : Exit → Act → World → Prop} (hgd : o.guard = none) (s x : Operand) (t : TypeId)
    (ho : o.op = .call { callee := .builtin .append, args := #[s, x], argTypes := #[t, t] })
    (base : Nat) (e : TypeId) (i : TypeInfo) (z : Value) (bytes : Nat) (ht : P.underlying t = some (.slice e)) (hi : P.info? e = some i) (hz : i.zero = some z)
    (hsize : i.size = 1) (hby : i.bytes = bytes) (hzs : z.cells.size = 1)
    {w : World} {ra : Option Addr} {rc : Nat} {n : Nat} {xs : List Value} (hown : w.ownsRow base e 1 (.slice ra n rc) n xs) {k : IntKind} {M : Int} {ao : Option Addr} {zs : List Int} {cap : Nat} (hseg : SegK k M w ao zs) (hnil : ao = none → cap = 0)
    (hs : a.eval s = .slice ra n rc) (hx : a.eval x = .slice ao zs.length cap)
    (h63 : n + zs.length ≤ 140737488355328) (hbytes : (n + zs.length) * bytes ≤ 140737488355328) (hbase : base ≤ w.heap.size)
    (h : ∀ (b : Option Addr) (c : Nat) (w' : World), w'.ownsRow base e 1 (.slice b (n + zs.length) c) (n + zs.length) (xs ++ zs.map (Value.int k)) → w.grownBy w' (Value.slice ra n rc).ownBlock → Fresh w (.slice ra n rc) (.slice b (n + zs.length) c) → (Value.slice b (n + zs.length) c = .slice none 0 0 ↔ Value.slice ra n rc = .slice none 0 0 ∧ zs.length = 0) → wpList P ops Q rest (a.put o.dst (.slice b (n + zs.length) c)) w') : wpList P ops Q (o :: rest) a w := by
  cases ao with
  | none =>
    have hz : zs = [] := by
      cases zs with
      | nil => rfl
      | cons z r => obtain ⟨b, off, hx, _⟩ := hseg.at_ 0 (by simp); cases hx
    subst hz
    rw [hnil rfl] at hx
    refine wpList_append_own_none hgd s x t ho base e i 1 ht hi _ n xs hs hown hx ?_
    have := h ra rc w (by simpa using hown) (World.grownBy.refl _ _) (fun k hk => .inl hk) (by simp)
    simpa using this
  | some ad =>
    exact wpList_app hgd s x t ho base e i z bytes ht hi hz hsize hby hzs hown (by simp) (seg_cells hseg) (ints_oneCell _ _) hs hx h63 hbytes hbase h

structure SegB (w : World) (a : Option Addr) (L : List Bool) : Prop where
  at_ : ∀ i, i < L.length → ∃ b off, a = some ⟨b, off, none⟩ ∧ w.cell? ⟨b, off + i, none⟩ = some (.bool (L.getD i false))
theorem SegB.of_cells {w w' : World} {a : Option Addr} {L : List Bool} (h : SegB w a L) (hc : ∀ b off i v, i < L.length → a = some ⟨b, off, none⟩ → w.cell? ⟨b, off + i, none⟩ = some v → w'.cell? ⟨b, off + i, none⟩ = some v) : SegB w' a L :=
  ⟨fun i hi => by obtain ⟨b, off, ha, hcl⟩ := h.at_ i hi; exact ⟨b, off, ha, hc b off i _ hi ha hcl⟩⟩
theorem SegB.old {w w' : World} {a : Option Addr} {L : List Bool} (h : SegB w a L) (hb : Below w.heap.size w w') : SegB w' a L :=
  h.of_cells fun b off i v hi ha hcl => (hb.cell (p := ⟨b, off + i, none⟩) (World.block_lt_of_cell? w _ hcl)).trans hcl
theorem SegB.drop {w : World} {b off : Nat} {L : List Bool} (h : SegB w (some ⟨b, off, none⟩) L) (m : Nat) : SegB w (some ⟨b, off + m, none⟩) (L.drop m) := by
  refine ⟨fun i hi => ?_⟩
  simp at hi
  obtain ⟨b', off', ha, hc⟩ := h.at_ (m + i) (by omega)
  cases ha
  refine ⟨b, off + m, rfl, ?_⟩
  rw [Nat.add_assoc, hc]
  simp [List.getD]
end Go.Proofs.YtmjlpfmacblcpaaDoor

namespace Go.Proofs.YtmjlpfmacblcpaaDoor
open Go.RowKit
set_option linter.unusedVariables false
open Go.RowKit Go.Shelf
open Go.RowKit Go.Shelf
open Go.RowKit Go.Shelf
attribute [local go_sem] Oper.semAt_some
/-- Below n₀ nothing has turned, but for blocks of E. -/
structure KeepE (n₀ : Nat) (E : Nat → Prop) (W W' : World) : Prop where
  size : W.heap.size ≤ W'.heap.size
  block : ∀ k, k < n₀ → ¬ E k → W'.heap[k]? = W.heap[k]?
theorem KeepE.refl (n₀ : Nat) (E : Nat → Prop) (W : World) : KeepE n₀ E W W := ⟨Nat.le_refl _, fun _ _ _ => rfl⟩
theorem KeepE.trans {n₀ : Nat} {E : Nat → Prop} {A B C : World} (h : KeepE n₀ E A B) (k : KeepE n₀ E B C) : KeepE n₀ E A C := ⟨Nat.le_trans h.size k.size, fun i hi hn => (k.block i hi hn).trans (h.block i hi hn)⟩
theorem KeepE.of_below {n₀ : Nat} {E : Nat → Prop} {A B : World} (h : Below n₀ A B) : KeepE n₀ E A B := ⟨h.size, fun k hk _ => h.block k hk⟩
theorem KeepE.cell {n₀ : Nat} {E : Nat → Prop} {A B : World} (h : KeepE n₀ E A B) {p : Addr} (hp : p.block < n₀) (hn : ¬ E p.block) : B.cell? p = A.cell? p := World.cell?_of_block (w := A) (h.block p.block hp hn)
theorem KeepE.set {n₀ : Nat} {E : Nat → Prop} {W : World} {b i : Nat} (hb : n₀ ≤ b ∨ E b) (v : Value) : KeepE n₀ E W (W.setCell ⟨b, i, none⟩ v) := by
  refine ⟨by simp, fun k hk hn => heap_setCell_other _ _ _ _ ?_⟩
  intro e
  have e' : k = b := e
  subst e'
  rcases hb with h | h
  · omega
  · exact hn h
end Go.Proofs.YtmjlpfmacblcpaaDoor

namespace Go.Proofs.YtmjlpfmacblcpaaDoor
open Go.RowKit Go.Shelf
set_option linter.unusedVariables false
section
variable {P : Program} {ops : Array Oper} {Q : Exit → Act → World → Prop} {md : Region.Mode} {S : World → Prop} {fin : Nat}
def wpAnyK (P : Program) (md : Region.Mode) (ops : Array Oper) (Q : Exit → Act → World → Prop) (S : World → Prop) (fin : Nat) : Nat → Array Bool → Act → World → Prop
  | 0, listed, a, w => Region.ready md ops listed = [] ∧ Q .normal a w
  | fuel + 1, listed, a, w =>
    (Region.ready md ops listed = [] → Q .normal a w) ∧
    ∀ i ∈ Region.ready md ops listed, wpOp P ops Q i (fun a' w' => (i ≠ fin → S w') ∧ wpAnyK P md ops Q S fin fuel (listed.setIfInBounds i true) a' w') a w
theorem wpAny_of_K : ∀ (fuel : Nat) (listed : Array Bool) (a : Act) (w : World), wpAnyK P md ops Q S fin fuel listed a w → wpAny P md ops Q fuel listed a w
  | 0, _, _, _, h => h
  | fuel + 1, _, _, _, h => ⟨h.1, fun i hi => wpOp_mono (fun a' w' h' => wpAny_of_K fuel _ a' w' h'.2) (h.2 i hi)⟩
theorem wpAnyK_first {i : Nat} {oi : Oper} {v : Value} (hi : ops[i]? = some oi) (hsel : ∀ (j : Nat) (o : Oper) cs b, ops[j]? = some o → o.op ≠ .select cs b)
    (hQ : ∀ c a w, Q (.panic c) (a.put oi.dst v) w → Q (.panic c) a w) (hfin : ∀ o, ops[fin]? = some o → ∃ e ∈ o.after, Region.binds md e = true ∧ e.on = i) :
    ∀ (fuel : Nat) (listed : Array Bool) (a : Act) (w : World),
      (∀ j oj, ops[j]? = some oj → j ≠ i → listed.getD j true = false → (∀ e ∈ oj.after, Region.binds md e = true → e.on ≠ i) → oi.apart ops oj = true) →
      i ∈ Region.ready md ops listed → YieldsIf P ops S oi v a → S w →
      wpAnyK P md ops Q S fin fuel (listed.setIfInBounds i true) (a.put oi.dst v) w → wpAnyK P md ops Q S fin (fuel + 1) listed a w := by
  intro fuel
  induction fuel with
  | zero =>
    intro listed a w _ hr hy hS H
    refine ⟨fun h => (by rw [h] at hr; cases hr), fun j hj => ?_⟩
    by_cases hji : j = i
    · subst hji; exact hy.wpOp hi hS ⟨fun _ => hS, H⟩
    · have := ready_mono hj hji
      rw [H.1] at this
      cases this
  | succ fuel ih =>
    intro listed a w hfree hr hy hS H
    refine ⟨fun h => (by rw [h] at hr; cases hr), fun j hj => ?_⟩
    by_cases hji : j = i
    · subst hji; exact hy.wpOp hi hS ⟨fun _ => hS, H⟩
    · have h1 := H.2 j (ready_mono hj hji)
      obtain ⟨hjun, oj, hoj, hall⟩ := mem_ready.1 hj
      have hnot : ∀ e ∈ oj.after, Region.binds md e = true → e.on ≠ i := fun e he hb heq => by
        have h1 := hall e he hb
        have h0 := (mem_ready.1 hr).1
        rw [heq] at h1
        rcases Nat.lt_or_ge i listed.size with h' | h'
        · simp [h'] at h0 h1; rw [h0] at h1; cases h1
        · simp [Array.getElem?_eq_none h'] at h1
      have hjf : j ≠ fin := by
        intro e
        subst e
        obtain ⟨e, he, hb, ho⟩ := hfin oj hoj
        exact hnot e he hb ho
      have h2 := wpOp_putIf hoj (hfree j oj hoj hji hjun hnot) (fun cs b => hsel i oi cs b hi) (fun cs b => hsel j oj cs b hoj) hQ hy h1
      have hfree' : ∀ k ok, ops[k]? = some ok → k ≠ i → (listed.setIfInBounds j true).getD k true = false →
          (∀ e ∈ ok.after, Region.binds md e = true → e.on ≠ i) → oi.apart ops ok = true := fun k ok hk hki hun hno => by
        refine hfree k ok hk hki ?_ hno
        by_cases hjk : j = k
        · subst hjk; exact hjun
        · rw [getD_set_ne true hjk] at hun; exact hun
      refine wpOp_mono (fun a' w' h3 => ⟨h3.2.1, ih (listed.setIfInBounds j true) a' w' hfree' (ready_mono hr (Ne.symm hji)) h3.1 (h3.2.1 hjf) ?_⟩) h2
      rw [Array.setIfInBounds_comm _ _ hji]
      exact h3.2.2
def fin16 (md : Region.Mode) (ops : Array Oper) (fin i : Nat) : Bool := decide (ops.size ≤ fin) || Region.waitsFor md ops fin i
theorem fin16_spec {i : Nat} (h : fin16 md ops fin i = true) : ∀ o, ops[fin]? = some o → ∃ e ∈ o.after, Region.binds md e = true ∧ e.on = i := by
  intro o ho
  simp only [fin16, Bool.or_eq_true, decide_eq_true_eq] at h
  rcases h with h | h
  · rw [Array.getElem?_eq_none h] at ho; cases ho
  · obtain ⟨oj, hj, e, he, hb⟩ := Region.waitsFor_spec h
    rw [ho] at hj
    cases hj
    exact ⟨e, he, hb⟩
theorem wpAnyK_take {i : Nat} {oi : Oper} {v : Value} {fuel : Nat} {listed : Array Bool} {a : Act} {w : World} (hi : ops[i]? = some oi)
    (hs : Region.noSelect ops = true) (hf : Region.free md ops listed i = true) (hr : (Region.ready md ops listed).contains i = true) (hfin : fin16 md ops fin i = true)
    (hQ : ∀ c a w, Q (.panic c) (a.put oi.dst v) w → Q (.panic c) a w) (hy : YieldsIf P ops S oi v a) (hS : S w)
    (h : wpAnyK P md ops Q S fin fuel (listed.setIfInBounds i true) (a.put oi.dst v) w) : wpAnyK P md ops Q S fin (fuel + 1) listed a w :=
  wpAnyK_first hi (Region.noSelect_spec hs) hQ (fin16_spec hfin) fuel listed a w (Region.free_spec hi hf) (by simpa using hr) hy hS h
/-- The one that may come up. -/
theorem wpAnyK_one {i : Nat} {fuel : Nat} {listed : Array Bool} {a : Act} {w : World} {o : Oper} (hr : Region.ready md ops listed = [i]) (ho : ops[i]? = some o)
    (h : ∀ K' : Act → World → Prop, Shut (∀ a w, (i ≠ fin → S w) → ((i ≠ fin → S w) → wpAnyK P md ops Q S fin fuel (listed.setIfInBounds i true) a w) → K' a w) → if Region.wanted o (yielded ops a.tmps) = true then Oper.wp P o a w K' Q else K' (a.put o.dst undef) w) :
    wpAnyK P md ops Q S fin (fuel + 1) listed a w :=
  ⟨fun h0 => (by rw [hr] at h0; cases h0), fun j hj => by
    rw [hr] at hj
    have : j = i := by simpa using hj
    subst this
    exact wpOp_step ho (fun K' hK => h K' (fun a w hS hW => hK a w ⟨hS, hW hS⟩))⟩
theorem wpAnyK_done {listed : Array Bool} {a : Act} {w : World} (hr : Region.ready md ops listed = []) (h : Q .normal a w) :
    ∀ fuel, wpAnyK P md ops Q S fin fuel listed a w
  | 0 => ⟨hr, h⟩
  | _ + 1 => ⟨fun _ => h, by rw [hr]; simp⟩
end
/-- The same outside of a round. -/
theorem plain_region16 {P : Program} {id : Nat} {Q : Exit → Act → World → Prop} {a : Act} {w : World} {ops : Array Oper} (S : World → Prop) (fin : Nat) (hm : P.follows .mixedOrders = true) (hS : S w.drew)
    (h : S w.drew → wpAnyK P .any ops Q S fin ops.size (Array.replicate ops.size false) a w.drew) : (Code.region id ops true).wp P Q a w :=
  wp_region_any hm (wpAny_of_K _ _ _ _ (h hS))
end Go.Proofs.YtmjlpfmacblcpaaDoor

namespace Go.Proofs.YtmjlpfmacblcpaaDoor
open Go.RowKit Go.Maps Go.WideMaps
set_option linter.unusedVariables false
set_option maxRecDepth 100000
theorem kt21 : Tryd.prog.keyTypeAt 2 98 = true := by kernel_rfl
theorem tl21 : Tryd.prog.tiled 2 98 = true := by kernel_rfl
theorem law21 : Keyed Tryd.prog 98 := Keyed.of_law (deep_law (m := 2) (by omega) kt21 tl21 (by rw [Tryd.underlying98]))
theorem row21 : (98 : TypeId) < Tryd.prog.types.size := of_decide_eq_true (by kernel_rfl)
theorem size21 : ∃ m, Tryd.prog.types.size = m + 1 := Nat.exists_eq_succ_of_ne_zero (Nat.pos_iff_ne_zero.mp (Nat.lt_of_le_of_lt (Nat.zero_le _) row21))
theorem cells21 : Tryd.prog.cellsOf 98 = 2 := by kernel_rfl
theorem cellsI21 : Tryd.prog.cellsOf 3 = 1 := by kernel_rfl
theorem ktp21 : Tryd.prog.keyType 98 = true := by kernel_rfl
def In21 (x : Int) : Prop := -9223372036854775808 ≤ x ∧ x ≤ 9223372036854775807
def k21 (x y : Int) : Lit := .string (keyBytes [.int .i64 x, .int .i64 y])
theorem keyOf21 {x y : Int} (hx : In21 x) (hy : In21 y) : keyOf Tryd.prog 98 (.agg #[.int .i64 x, .int .i64 y]) = some (k21 x y) := by
  obtain ⟨m, hm⟩ := size21
  have wx : (Lit.int .i64 x).wf = true := WalkArith.wf_i64 hx
  have wy : (Lit.int .i64 y).wf = true := WalkArith.wf_i64 hy
  unfold keyOf k21
  simp only [Tryd.underlying98]
  rw [if_pos (by simp [ktp21, Value.formed, Tryd.underlying98, cells21]), hm]
  unfold Program.keyLits
  simp only [Tryd.underlying98, Value.cells]
  rw [if_pos (by rw [cells21]; simp)]
  simp [cellsI21, Program.keyLits, Tryd.underlying3, wx, wy]
theorem k21_inj {x y x' y' : Int} (hx : In21 x) (hy : In21 y) (hx' : In21 x') (hy' : In21 y') (h : k21 x y = k21 x' y') : x = x' ∧ y = y' := by
  have h1 := keyOf21 hx hy
  have h2 := keyOf21 hx' hy'
  rw [← h] at h2
  have := law21.inj h1 h2
  simpa using this
def rd21 (v : Value) : Option (DataW Value × List MemPlace) := some (.held v, [])
def zs21 : Value := .agg #[.slice none 0 0, .bool false, .int .i64 0]
theorem zero21 (w : World) : (zeroValue 89).run Tryd.prog w = .ok zs21 w := by kernel_rfl
/-- Block m is a map that leads the place x, y to the value f x y. -/
def Mv21 (w : World) (m c : Nat) (f : Int → Int → Option Value) : Prop := ∃ D : DataW Value, w.ownsMap Tryd.prog 98 rd21 m c D ∧
  ∀ x y, In21 x → In21 y → (f x y = none ∧ Maps.has D (k21 x y) = false) ∨ (∃ v, f x y = some v ∧ Maps.has D (k21 x y) = true ∧ ∀ d, D.atKey (k21 x y) d = .held v)
theorem Mv21.lt {w : World} {m c : Nat} {f : Int → Int → Option Value} (h : Mv21 w m c f) : m < w.heap.size := by
  obtain ⟨D, ho, _⟩ := h
  exact ho.lt
theorem Mv21.block {w w' : World} {m c : Nat} {f : Int → Int → Option Value} (h : Mv21 w m c f) (hb : w'.heap[m]? = w.heap[m]?) : Mv21 w' m c f := by
  obtain ⟨D, ⟨es, clock, h1, h2⟩, h3⟩ := h
  exact ⟨D, ⟨es, clock, hb.trans h1, h2⟩, h3⟩
theorem Mv21.no {w : World} {m c : Nat} {f : Int → Int → Option Value} (h : Mv21 w m c f) {cs : Array Value} {t : TypeId} {p : Nat × Nat} : w.heap[m]? ≠ some (.cells cs t p) := by
  obtain ⟨D, ⟨es, clock, h1, h2⟩, h3⟩ := h
  rw [h1]; simp
theorem Mv21.made (w : World) : Mv21 (w.alloc (.map #[] 0)) w.heap.size 0 (fun _ _ => none) :=
  ⟨_, World.ownsMap_made _ _ _ _, fun x y _ _ => .inl ⟨rfl, rfl⟩⟩
theorem Mv21.look {w : World} {m c : Nat} {f : Int → Int → Option Value} (h : Mv21 w m c f) {x y : Int} (hx : In21 x) (hy : In21 y) :
    (Instr.lookup 91 (.map (some m)) (.agg #[.int .i64 x, .int .i64 y]) true).run Tryd.prog w = .ok (.tuple #[(f x y).getD zs21, .bool (f x y).isSome]) w := by
  obtain ⟨D, ho, hD⟩ := h
  obtain ⟨v, ps, hr, hv⟩ := ho.look_ok (zd := .held zs21) (zp := []) law21 Tryd.underlying91 (zero21 w) rfl (keyOf21 hx hy)
  unfold rd21 at hv
  injection hv with hv
  injection hv with hv _
  rcases hD x y hx hy with ⟨h1, h2⟩ | ⟨u, h1, h2, h3⟩
  · rw [atKey_of_not_has h2] at hv
    injection hv with hv
    subst hv
    rw [hr, h1, h2]
    rfl
  · rw [h3] at hv
    injection hv with hv
    subst hv
    rw [hr, h1, h2]
    rfl
theorem Mv21.store {w : World} {m c : Nat} {f : Int → Int → Option Value} (h : Mv21 w m c f) (hc : c < maxLen) {x y : Int} (hx : In21 x) (hy : In21 y) (v : Value) :
    ∃ w', (Instr.mapUpdate 91 (.map (some m)) (.agg #[.int .i64 x, .int .i64 y]) v).run Tryd.prog w = .ok () w' ∧ Mv21 w' m (c + 1) (fun x' y' => if x' = x ∧ y' = y then some v else f x' y') ∧ w.grownBy w' (some m) := by
  obtain ⟨D, ho, hD⟩ := h
  have hm := ho.isMap
  obtain ⟨w', hr, ho', hg⟩ := ho.update (d := .held v) (ps := []) law21 Tryd.underlying91 hc (keyOf21 hx hy) rfl
  refine ⟨w', hr, ⟨_, ho', fun x' y' hx' hy' => ?_⟩, hg⟩
  dsimp only
  by_cases e : x' = x ∧ y' = y
  · obtain ⟨rfl, rfl⟩ := e
    rw [if_pos ⟨rfl, rfl⟩]
    exact .inr ⟨v, rfl, has_put_same hm (law21.key (keyOf21 hx hy)) _, fun d => atKey_put_same hm (law21.key (keyOf21 hx hy)) _ _⟩
  · rw [if_neg e]
    have hne : k21 x' y' ≠ k21 x y := fun h => e (k21_inj hx' hy' hx hy h)
    rw [has_put_other hne]
    rcases hD x' y' hx' hy' with h1 | ⟨u, h1, h2, h3⟩
    · exact .inl h1
    · exact .inr ⟨u, h1, h2, fun d => by rw [atKey_put_other hne, h3]⟩
end Go.Proofs.YtmjlpfmacblcpaaDoor

namespace Go.Proofs.YtmjlpfmacblcpaaDoor
open Go.RowKit Go.Maps Go.WideMaps
set_option linter.unusedVariables false
set_option linter.unusedSimpArgs false
theorem below_drewN21 {B : Nat} {a b : World} (h : Below B a b) (n : Nat) : Below B a (b.drewN n) := ⟨h.os, h.tape, h.output, h.size, h.block⟩
structure Sh21 where
  b : List Int
  er : Bool
  wr : Int
structure Fs21 where
  pg : Nat
  ps : Nat
  ac : Int
  on : Bool
  lm : Int
  pa : Int → Int → Option Sh21
  lf : Int
  tn : List Int
  lg : List (Int × Int × Int)
def pn21 (ps : Nat) (x : Int) : Int := if x < 0 ∨ 2 < x then 0 else if x = 2 then 2 else (ps : Int)
def ms21 (ps : Nat) (x y : Int) : Int := if y < 0 ∨ pn21 ps x ≤ y then 211 else 0
def st21 (on : Bool) : Int := if on then 0 else 213
def rf21 (on : Bool) (ps : Nat) (x y : Int) : Int := if on then ms21 ps x y else 213
def mb21 (p q : Int) : Bool := decide (64 ≤ p) && decide (p ≤ 4096) && decide (1 ≤ q) && decide (q ≤ 4096)
theorem pn21_bd (ps : Nat) (x : Int) (h : ps ≤ 4096) : 0 ≤ pn21 ps x ∧ pn21 ps x ≤ 4096 := by
  unfold pn21
  split
  · omega
  · split <;> omega

set_option maxRecDepth 100000 in
set_option maxHeartbeats 1000000 in
theorem pmay21 (p q : Int) (w : World) : Calls Tryd.prog 66 #[.agg #[.int .i64 p, .int .i64 q]] w fun e w' => e = .returned (.bool (mb21 p q)) ∧ Below w.heap.size w w' := by
  have hb : Below w.heap.size w (w.alloc (.cells #[.int .i64 p, .int .i64 q] 45)) := (Below.refl _ _).alloc (Nat.le_refl _) _
  by_cases h1 : 64 ≤ p
  · by_cases h2 : p ≤ 4096
    · by_cases h3 : 1 ≤ q
      · by_cases h4 : q ≤ 4096
        · have e : mb21 p q = true := by simp [mb21, h1, h2, h3, h4]
          rw [e]
          go_enter Tryd.func66, Tryd.ntmps66
          go_wp2
          go_ret
          exact ⟨by simp [h1, h2, h3, h4], hb⟩
        · have e : mb21 p q = false := by simp [mb21, h4]
          rw [e]
          go_enter Tryd.func66, Tryd.ntmps66
          go_wp2
          go_ret
          exact ⟨by simp [h1, h2, h3, h4], hb⟩
      · have e : mb21 p q = false := by simp [mb21, h3]
        rw [e]
        go_enter Tryd.func66, Tryd.ntmps66
        go_wp2
        go_ret
        exact ⟨by simp [h1, h2, h3], hb⟩
    · have e : mb21 p q = false := by simp [mb21, h2]
      rw [e]
      go_enter Tryd.func66, Tryd.ntmps66
      go_wp2
      go_ret
      exact ⟨by simp [h1, h2], hb⟩
  · have e : mb21 p q = false := by simp [mb21, h1]
    rw [e]
    go_enter Tryd.func66, Tryd.ntmps66
    go_wp2
    go_ret
    exact ⟨by simp [h1], hb⟩

set_option maxRecDepth 100000 in
set_option maxHeartbeats 1000000 in
theorem pmade21 (b pg : Nat) (w : World) (c0 : w.cell? ⟨b, 0, none⟩ = some (.int .i64 (pg : Int))) (hp : 64 ≤ pg) : Calls Tryd.prog 51 #[.pointer (some ⟨b, 0, none⟩)] w fun e w' => e = .returned (.bool true) ∧ w' = w := by
  have h1 : (0 : Int) < (pg : Int) := by omega
  have h2 : 0 < pg := by omega
  go_enter Tryd.func51, Tryd.ntmps51
  go_wp2
  go_ret
  exact ⟨by simp [h1, h2], rfl⟩
set_option maxRecDepth 100000 in
set_option maxHeartbeats 1000000 in
theorem pstop21 (b pg : Nat) (on : Bool) (w : World) (c0 : w.cell? ⟨b, 0, none⟩ = some (.int .i64 (pg : Int))) (hp : 64 ≤ pg) (c3 : w.cell? ⟨b, 3, none⟩ = some (.bool on)) : Calls Tryd.prog 47 #[.pointer (some ⟨b, 0, none⟩)] w fun e w' => e = .returned (.int .i64 (st21 on)) ∧ w' = w := by
  have HM := pmade21 b pg w c0 hp
  cases on
  all_goals
    go_enter Tryd.func47, Tryd.ntmps47
    go_wp2_with fail
    refine HM.mono ?_
    rintro e w1 ⟨rfl, hw⟩
    subst hw
    go_wp2_with fail
    go_ret
    exact ⟨rfl, rfl⟩
set_option maxRecDepth 100000 in
set_option maxHeartbeats 1000000 in
theorem ppof21 (b ps : Nat) (x : Int) (w : World) (c1 : w.cell? ⟨b, 1, none⟩ = some (.int .i64 (ps : Int))) : Calls Tryd.prog 40 #[.pointer (some ⟨b, 0, none⟩), .int .i64 x] w fun e w' => e = .returned (.int .i64 (pn21 ps x)) ∧ w' = w := by
  by_cases h1 : x < 0
  · have e : pn21 ps x = 0 := by simp [pn21, h1]
    rw [e]
    go_enter Tryd.func40, Tryd.ntmps40
    go_wp2
    go_ret
    exact ⟨rfl, rfl⟩
  · by_cases h2 : 2 < x
    · have e : pn21 ps x = 0 := by simp [pn21, h2]
      rw [e]
      go_enter Tryd.func40, Tryd.ntmps40
      go_wp2
      go_ret
      exact ⟨rfl, rfl⟩
    · by_cases h3 : x = 2
      · subst h3
        have e : pn21 ps 2 = 2 := by simp [pn21]
        rw [e]
        clear h1 h2
        go_enter Tryd.func40, Tryd.ntmps40
        go_wp2
        go_ret
        exact ⟨rfl, rfl⟩
      · have e : pn21 ps x = ps := by simp [pn21, h1, h2, h3]
        rw [e]
        have h4 : (x == 2) = false := by simp [h3]
        go_enter Tryd.func40, Tryd.ntmps40
        go_wp2
        go_ret
        exact ⟨rfl, rfl⟩
set_option maxRecDepth 100000 in
set_option maxHeartbeats 2000000 in
theorem pmiss21 (b ps : Nat) (x y : Int) (w : World) (c1 : w.cell? ⟨b, 1, none⟩ = some (.int .i64 (ps : Int))) : Calls Tryd.prog 98 #[.pointer (some ⟨b, 0, none⟩), .agg #[.int .i64 x, .int .i64 y]] w fun e w' => e = .returned (.int .i64 (ms21 ps x y)) ∧ Below w.heap.size w w' := by
  have hb : Below w.heap.size w (w.alloc (.cells #[.int .i64 x, .int .i64 y] 98)).drew := ((Below.refl _ _).alloc (Nat.le_refl _) _).drew
  have hlt : b < w.heap.size := World.block_lt_of_cell? w _ c1
  have HP : Hid (∀ W : World, W.cell? ⟨b, 1, none⟩ = some (.int .i64 (ps : Int)) → Calls Tryd.prog 40 #[.pointer (some ⟨b, 0, none⟩), .int .i64 x] W fun e w' => e = .returned (.int .i64 (pn21 ps x)) ∧ w' = W) := fun W h => ppof21 b ps x W h
  have d1 : ((w.alloc (.cells #[.int .i64 x, .int .i64 y] 98)).drew).cell? ⟨b, 1, none⟩ = some (.int .i64 (ps : Int)) := (hb.cell (p := ⟨b, 1, none⟩) hlt).trans c1
  by_cases h1 : y < 0
  · have e : ms21 ps x y = 211 := by simp [ms21, h1]
    rw [e]
    clear HP
    have h1' : decide (y < 0) = true := by simp [h1]
    go_enter Tryd.func98, Tryd.ntmps98
    go_wp2_with fail
    go_quiet (fail)
    go_wp2
    go_ret
    exact ⟨rfl, below_drewN21 ((Below.refl _ _).alloc (Nat.le_refl _) _) _⟩
  · have HN : Hid (ms21 ps x y = if pn21 ps x ≤ y then 211 else 0) := by simp [Hid, ms21, h1]
    rw [HN.out]
    generalize pn21 ps x = N at *
    have h1' : decide (y < 0) = false := by simp [h1]
    by_cases h2 : N ≤ y
    · have h2' : decide (N ≤ y) = true := by simp [h2]
      rw [if_pos h2]
      go_enter Tryd.func98, Tryd.ntmps98
      go_wp2_with fail
      go_quiet ((first | (go_at_call 40; exact Calls.quiet_of_same (HP.out _ (by exact d1)))))
      go_wp2
      go_ret
      exact ⟨rfl, below_drewN21 ((Below.refl _ _).alloc (Nat.le_refl _) _) _⟩
    · have h2' : decide (N ≤ y) = false := by simp [h2]
      rw [if_neg h2]
      go_enter Tryd.func98, Tryd.ntmps98
      go_wp2_with fail
      go_quiet ((first | (go_at_call 40; exact Calls.quiet_of_same (HP.out _ (by exact d1)))))
      go_wp2
      go_ret
      exact ⟨rfl, below_drewN21 ((Below.refl _ _).alloc (Nat.le_refl _) _) _⟩
set_option maxRecDepth 100000 in
set_option maxHeartbeats 2000000 in
theorem pref21 (b pg ps : Nat) (on : Bool) (x y : Int) (w : World) (c0 : w.cell? ⟨b, 0, none⟩ = some (.int .i64 (pg : Int))) (hp : 64 ≤ pg) (c1 : w.cell? ⟨b, 1, none⟩ = some (.int .i64 (ps : Int))) (c3 : w.cell? ⟨b, 3, none⟩ = some (.bool on)) :
    Calls Tryd.prog 92 #[.pointer (some ⟨b, 0, none⟩), .agg #[.int .i64 x, .int .i64 y]] w fun e w' => e = .returned (.int .i64 (rf21 on ps x y)) ∧ Below w.heap.size w w' := by
  have hlt : b < w.heap.size := World.block_lt_of_cell? w _ c1
  have hb : Below w.heap.size w (w.alloc (.cells #[.int .i64 x, .int .i64 y] 98)) := (Below.refl _ _).alloc (Nat.le_refl _) _
  have HS : Hid (∀ W : World, Below w.heap.size w W → Calls Tryd.prog 47 #[.pointer (some ⟨b, 0, none⟩)] W fun e w' => e = .returned (.int .i64 (st21 on)) ∧ w' = W) := fun W h => pstop21 b pg on W ((h.cell (p := ⟨b, 0, none⟩) hlt).trans c0) hp ((h.cell (p := ⟨b, 3, none⟩) hlt).trans c3)
  have HM : Hid (∀ W : World, Below w.heap.size w W → Calls Tryd.prog 98 #[.pointer (some ⟨b, 0, none⟩), .agg #[.int .i64 x, .int .i64 y]] W fun e w' => e = .returned (.int .i64 (ms21 ps x y)) ∧ Below W.heap.size W w') := fun W h => pmiss21 b ps x y W ((h.cell (p := ⟨b, 1, none⟩) hlt).trans c1)
  clear c0 c1 c3
  cases on
  · have e : rf21 false ps x y = 213 := rfl
    rw [e]
    clear e HM
    go_enter Tryd.func92, Tryd.ntmps92
    go_wp2_with fail
    refine (HS.out _ hb).mono ?_
    rintro e w1 ⟨rfl, hw⟩
    subst hw
    go_wp2_with fail
    go_ret
    exact ⟨rfl, hb⟩
  · have e : rf21 true ps x y = ms21 ps x y := rfl
    rw [e]
    clear e
    generalize ms21 ps x y = M at *
    go_enter Tryd.func92, Tryd.ntmps92
    go_wp2_with fail
    refine (HS.out _ hb).mono ?_
    rintro e w1 ⟨rfl, hw⟩
    subst hw
    go_wp2_with fail
    refine (HM.out _ hb).mono ?_
    rintro e w2 ⟨rfl, b2⟩
    go_wp2_with fail
    go_ret
    exact ⟨rfl, hb.trans (b2.mono (by simp))⟩
end Go.Proofs.YtmjlpfmacblcpaaDoor

namespace Go.Proofs.YtmjlpfmacblcpaaDoor
open Go.RowKit
set_option linter.unusedVariables false
/-- Whole numbers (of 64 bits, with a sign) lie where a slice's address leads. -/
structure SegZ (w : World) (a : Option Addr) (zs : List Int) : Prop where
  at_ : ∀ i, i < zs.length → ∃ b off, a = some ⟨b, off, none⟩ ∧ w.cell? ⟨b, off + i, none⟩ = some (.int .i64 (zs.getD i 0))
  bd : ∀ i, -9223372036854775808 ≤ zs.getD i 0 ∧ zs.getD i 0 ≤ 9223372036854775807

theorem getD_bdz {zs : List Int} (h : ∀ z ∈ zs, -9223372036854775808 ≤ z ∧ z ≤ 9223372036854775807) (i : Nat) : -9223372036854775808 ≤ zs.getD i 0 ∧ zs.getD i 0 ≤ 9223372036854775807 := by
  by_cases hi : i < zs.length
  · have := h zs[i] (List.getElem_mem hi)
    simpa [List.getD, hi] using this
  · have : zs[i]? = none := List.getElem?_eq_none (by omega)
    simp [List.getD, this]
theorem SegZ.nil (w : World) (a : Option Addr) : SegZ w a [] := ⟨fun i h => by simp at h, fun i => by simp⟩
theorem SegZ.of_cells {w w' : World} {a : Option Addr} {zs : List Int} (h : SegZ w a zs) (hc : ∀ b off i v, i < zs.length → a = some ⟨b, off, none⟩ → w.cell? ⟨b, off + i, none⟩ = some v → w'.cell? ⟨b, off + i, none⟩ = some v) : SegZ w' a zs :=
  ⟨fun i hi => by obtain ⟨b, off, ha, hcl⟩ := h.at_ i hi; exact ⟨b, off, ha, hc b off i _ hi ha hcl⟩, h.bd⟩
theorem SegZ.old {w w' : World} {a : Option Addr} {zs : List Int} (h : SegZ w a zs) (hb : Below w.heap.size w w') : SegZ w' a zs :=
  h.of_cells fun b off i v hi ha hcl => (hb.cell (p := ⟨b, off + i, none⟩) (World.block_lt_of_cell? w _ hcl)).trans hcl
theorem SegZ.kp {w w' : World} {S : Nat → Prop} {a : Option Addr} {zs : List Int} (h : SegZ w a zs) (hb : Kp S w w') (hn : ∀ b off, a = some ⟨b, off, none⟩ → 0 < zs.length → ¬ S b) : SegZ w' a zs :=
  h.of_cells fun b off i v hi ha hcl => by
    have hlt : b < w.heap.size := World.block_lt_of_cell? w _ hcl
    rw [World.cell?_of_block (a := ⟨b, off + i, none⟩) (hb.block b hlt (hn b off ha (by omega)))]
    exact hcl
theorem SegZ.lt {w : World} {a : Option Addr} {zs : List Int} (h : SegZ w a zs) : ∀ b off, a = some ⟨b, off, none⟩ → 0 < zs.length → b < w.heap.size := by
  intro b off ha hl
  obtain ⟨b', off', ha', hc⟩ := h.at_ 0 hl
  rw [ha] at ha'
  cases ha'
  exact World.block_lt_of_cell? w _ hc
theorem SegZ.drewN {w : World} {a : Option Addr} {zs : List Int} (h : SegZ w a zs) (n : Nat) : SegZ (w.drewN n) a zs := ⟨h.at_, h.bd⟩
theorem SegZ.drew {w : World} {a : Option Addr} {zs : List Int} (h : SegZ w a zs) : SegZ w.drew a zs := ⟨h.at_, h.bd⟩
theorem SegZ.alloc {w : World} {a : Option Addr} {zs : List Int} (h : SegZ w a zs) (o : Obj) : SegZ (w.alloc o) a zs := h.old ((Below.refl _ _).alloc (Nat.le_refl _) o)
theorem SegZ.mem {w : World} {a : Option Addr} {zs : List Int} (h : SegZ w a zs) : ∀ z ∈ zs, -9223372036854775808 ≤ z ∧ z ≤ 9223372036854775807 := by
  intro z hz
  obtain ⟨i, hi, rfl⟩ := List.mem_iff_getElem.1 hz
  have := h.bd i
  simpa [List.getD, hi] using this
theorem SegZ.take {w : World} {a : Option Addr} {zs : List Int} (h : SegZ w a zs) (m : Nat) : SegZ w a (zs.take m) := by
  refine ⟨fun i hi => ?_, getD_bdz fun z hz => h.mem z (List.mem_of_mem_take hz)⟩
  simp at hi
  obtain ⟨b, off, ha, hc⟩ := h.at_ i (by omega)
  refine ⟨b, off, ha, ?_⟩
  rw [hc]
  have hk : i < m := by omega
  simp [List.getD, hk]
theorem SegZ.left {w : World} {a : Option Addr} {xs ys : List Int} (h : SegZ w a (xs ++ ys)) : SegZ w a xs := by
  have := h.take xs.length
  simpa using this
theorem below_own {w w' : World} {base n : Nat} {e : TypeId} {v : Value} {xs : List Value} (hown : w.ownsRow base e 1 v n xs) (hg : w.grownBy w' v.ownBlock) (hb : base ≤ w.heap.size) : Below base w w' :=
  (Below.refl _ _).grown hg hb (fun k hk => (hown.lt k hk).1)
end Go.Proofs.YtmjlpfmacblcpaaDoor
