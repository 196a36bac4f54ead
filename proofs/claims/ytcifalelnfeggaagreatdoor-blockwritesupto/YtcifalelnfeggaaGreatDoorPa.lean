import Derived.Test.YtcifalelnfeggaaGreatDoorRows
import Derived.WalkKit
import Derived.Deep.Draws
import Derived.OneCell
import Derived.WalkSpells
import Derived.Laws.AppendOwnNone
import Derived.Test.YtcifalelnfeggaaGreatDoorProg
import Derived.Deep.AppendLies
import Derived.Deep.QuietTactic
import Derived.BigQuiet
namespace Go.Proofs.YtcifalelnfeggaaGreatDoor.UptoLemmas
set_option linter.unusedVariables false
theorem bulk_pos {H : Type} (d : DataW H) : 1 ≤ Rows.uptoBulk d := by
  unfold Rows.uptoBulk
  split <;> omega
theorem all_len {H : Type} : ∀ l : List (DataW H), l.length ≤ Rows.uptoBulkAll l
  | [] => by simp
  | d :: r => by
    have h1 := bulk_pos d
    have h2 := all_len r
    simp only [Rows.uptoBulkAll, List.length_cons]
    omega
theorem slice_le {H : Type} (elems spare : List (DataW H)) : elems.length + spare.length + 1 ≤ Rows.uptoBulk (.slice elems spare) := by
  have h1 := all_len elems
  have h2 := all_len spare
  simp only [Rows.uptoBulk]
  omega
end Go.Proofs.YtcifalelnfeggaaGreatDoor.UptoLemmas

namespace Go.Proofs.YtcifalelnfeggaaGreatDoor
open Go.RowKit

/-! A block of two cells. -/
theorem two_cell0 {w : World} {b : Nat} {u v : Value} {t : TypeId} (h : w.heap[b]? = some (.cells #[u, v] t (0, 0))) : w.cell? ⟨b, 0, none⟩ = some u := by simp [World.cell?, h]
theorem two_cell1 {w : World} {b : Nat} {u v : Value} {t : TypeId} (h : w.heap[b]? = some (.cells #[u, v] t (0, 0))) : w.cell? ⟨b, 1, none⟩ = some v := by simp [World.cell?, h]
theorem two_free {w : World} {b : Nat} {u v : Value} {t : TypeId} (h : w.heap[b]? = some (.cells #[u, v] t (0, 0))) (i : Nat) : w.frozen? ⟨b, i, none⟩ = false := by simp [World.frozen?, h]
theorem two_set0 {w : World} {b : Nat} {u v : Value} {t : TypeId} (h : w.heap[b]? = some (.cells #[u, v] t (0, 0))) (x : Value) : (w.setCell ⟨b, 0, none⟩ x).heap[b]? = some (.cells #[x, v] t (0, 0)) := by
  simp [World.setCell, Array.getElem?_modify, h]
theorem two_set1 {w : World} {b : Nat} {u v : Value} {t : TypeId} (h : w.heap[b]? = some (.cells #[u, v] t (0, 0))) (x : Value) : (w.setCell ⟨b, 1, none⟩ x).heap[b]? = some (.cells #[u, x] t (0, 0)) := by
  simp [World.setCell, Array.getElem?_modify, h]

/-! What one row's writer leaves of the others. -/
theorem grownBy_trans {a b c : World} {row : Option Nat} (h : a.grownBy b row) (k : b.grownBy c row) : a.grownBy c row :=
  ⟨k.os.trans h.os, k.tape.trans h.tape, k.output.trans h.output, Nat.le_trans h.size k.size, fun i hi hne => (k.block i (Nat.lt_of_lt_of_le hi h.size) hne).trans (h.block i hi hne)⟩
theorem grownBy_drew {a b : World} {row : Option Nat} (h : a.grownBy b row) : a.grownBy b.drew row := ⟨h.os, h.tape, h.output, h.size, h.block⟩
theorem grownBy_drewN {a b : World} {row : Option Nat} (h : a.grownBy b row) (n : Nat) : a.grownBy (b.drewN n) row := ⟨h.os, h.tape, h.output, h.size, h.block⟩
theorem grownBy_set {a w : World} {b i : Nat} (h : a.grownBy w (some b)) (x : Value) : a.grownBy (w.setCell ⟨b, i, none⟩ x) (some b) :=
  grownBy_trans h ⟨rfl, rfl, rfl, by simp [World.setCell], fun k _ hne => Below.heap_setCell _ _ _ _ (fun e => hne (by rw [e]))⟩
theorem grownBy_of_none {a w : World} {row : Option Nat} (h : a.grownBy w none) : a.grownBy w row := ⟨h.os, h.tape, h.output, h.size, fun k hk _ => h.block k hk (by simp)⟩
theorem below_of_grown {a w : World} {b B : Nat} (h : a.grownBy w (some b)) (hB : B ≤ b) (hs : B ≤ a.heap.size) : Below B a w :=
  (Below.refl B a).grown h hs (by intro k e; cases e; exact hB)

theorem ret3 {a a' b b' c c' : Value} (h : a = a') (h' : b = b') (h'' : c = c') : Ending.returned (.tuple #[a, b, c]) = .returned (.tuple #[a', b', c']) := by rw [h, h', h'']
end Go.Proofs.YtcifalelnfeggaaGreatDoor

namespace Go.Proofs.YtcifalelnfeggaaGreatDoor
open Go.RowKit
set_option linter.unusedVariables false

/-- Bytes lie where a slice's address leads. -/
structure SegK (k : IntKind) (M : Int) (w : World) (a : Option Addr) (zs : List Int) : Prop where
  at_ : ∀ i, i < zs.length → ∃ b off, a = some ⟨b, off, none⟩ ∧ w.cell? ⟨b, off + i, none⟩ = some (.int k (zs.getD i 0))
  pos : 0 ≤ M
  bd : ∀ i, 0 ≤ zs.getD i 0 ∧ zs.getD i 0 ≤ M
abbrev Seg (w : World) (a : Option Addr) (zs : List Int) : Prop := SegK .u8 255 w a zs
abbrev Seg64 (w : World) (a : Option Addr) (zs : List Int) : Prop := SegK .u64 18446744073709551615 w a zs
variable {k : IntKind} {M : Int}

theorem SegK.nil (hM : 0 ≤ M) (w : World) (a : Option Addr) : SegK k M w a [] := ⟨fun i h => by simp at h, hM, fun i => by simp [hM]⟩
theorem SegK.of_cells {w w' : World} {a : Option Addr} {zs : List Int} (h : SegK k M w a zs) (hc : ∀ b off i v, i < zs.length → a = some ⟨b, off, none⟩ → w.cell? ⟨b, off + i, none⟩ = some v → w'.cell? ⟨b, off + i, none⟩ = some v) : SegK k M w' a zs :=
  ⟨fun i hi => by obtain ⟨b, off, ha, hcl⟩ := h.at_ i hi; exact ⟨b, off, ha, hc b off i _ hi ha hcl⟩, h.pos, h.bd⟩
theorem SegK.below {w w' : World} {a : Option Addr} {zs : List Int} {B : Nat} (h : SegK k M w a zs) (hb : Below B w w') (hB : ∀ b off, a = some ⟨b, off, none⟩ → 0 < zs.length → b < B) : SegK k M w' a zs :=
  h.of_cells fun b off i v hi ha hcl => (hb.cell (p := ⟨b, off + i, none⟩) (hB b off ha (by omega))).trans hcl
theorem SegK.lt {w : World} {a : Option Addr} {zs : List Int} (h : SegK k M w a zs) : ∀ b off, a = some ⟨b, off, none⟩ → 0 < zs.length → b < w.heap.size := by
  intro b off ha hl
  obtain ⟨b', off', ha', hc⟩ := h.at_ 0 hl
  rw [ha] at ha'
  cases ha'
  exact World.block_lt_of_cell? w _ hc
theorem SegK.old {w w' : World} {a : Option Addr} {zs : List Int} (h : SegK k M w a zs) (hb : Below w.heap.size w w') : SegK k M w' a zs := h.below hb h.lt
theorem SegK.drewN {w : World} {a : Option Addr} {zs : List Int} (h : SegK k M w a zs) (n : Nat) : SegK k M (w.drewN n) a zs := ⟨h.at_, h.pos, h.bd⟩
theorem SegK.drew {w : World} {a : Option Addr} {zs : List Int} (h : SegK k M w a zs) : SegK k M w.drew a zs := ⟨h.at_, h.pos, h.bd⟩
theorem SegK.alloc {w : World} {a : Option Addr} {zs : List Int} (h : SegK k M w a zs) (o : Obj) : SegK k M (w.alloc o) a zs := h.old ((Below.refl _ _).alloc (Nat.le_refl _) o)
theorem SegK.grown {w w' : World} {a : Option Addr} {zs : List Int} {row : Option Nat} (h : SegK k M w a zs) (hg : w.grownBy w' row) (hne : ∀ b off, a = some ⟨b, off, none⟩ → 0 < zs.length → some b ≠ row) : SegK k M w' a zs :=
  h.of_cells fun b off i v hi ha hcl => hg.cell hcl (hne b off ha (by omega))
theorem SegK.take {w : World} {a : Option Addr} {zs : List Int} (h : SegK k M w a zs) (m : Nat) : SegK k M w a (zs.take m) := by
  refine ⟨fun i hi => ?_, h.pos, fun i => ?_⟩
  · simp at hi
    obtain ⟨b, off, ha, hc⟩ := h.at_ i (by omega)
    refine ⟨b, off, ha, ?_⟩
    rw [hc]
    have hk : i < m := by omega
    simp [List.getD, hk]
  · have := h.bd i
    simp only [List.getD, List.getElem?_take]
    split
    · exact this
    · simp [h.pos]
theorem SegK.mem {w : World} {a : Option Addr} {zs : List Int} (h : SegK k M w a zs) : ∀ z ∈ zs, 0 ≤ z ∧ z ≤ M := by
  intro z hz
  obtain ⟨i, hi, rfl⟩ := List.mem_iff_getElem.1 hz
  have := h.bd i
  simpa [List.getD, hi] using this
theorem SegK.drop {w : World} {b off : Nat} {zs : List Int} (h : SegK k M w (some ⟨b, off, none⟩) zs) (m : Nat) : SegK k M w (some ⟨b, off + m, none⟩) (zs.drop m) := by
  refine ⟨fun i hi => ?_, h.pos, fun i => ?_⟩
  · simp at hi
    obtain ⟨b', off', ha, hc⟩ := h.at_ (m + i) (by omega)
    cases ha
    refine ⟨b, off + m, rfl, ?_⟩
    rw [Nat.add_assoc, hc]
    simp [List.getD]
  · have := h.bd (m + i)
    simpa [List.getD] using this
end Go.Proofs.YtcifalelnfeggaaGreatDoor

namespace Go.Proofs.YtcifalelnfeggaaGreatDoor
open Go.RowKit
set_option linter.unusedVariables false

/-- 'out = append(out, y)', y one cell that lies in a block of its own, out the call's own row. -/
theorem wpList_push {P : Program} {ops : Array Oper} {rest : List Oper} {o : Oper} {a : Act} {Q : Exit → Act → World → Prop} (hgd : o.guard = none) (s x : Operand) (t : TypeId)
    (ho : o.op = .call { callee := .builtin .append, args := #[s, x], argTypes := #[t, t] })
    (base : Nat) (e : TypeId) (i : TypeInfo) (z : Value) (bytes : Nat) (ht : P.underlying t = some (.slice e)) (hi : P.info? e = some i) (hz : i.zero = some z)
    (hsize : i.size = 1) (hby : i.bytes = bytes) (hzs : z.cells.size = 1)
    (w0 : World) (y : Value) (hy : y.oneCell' = true) {v : Value} {n : Nat} {xs : List Value} (hown : w0.ownsRow base e 1 v n xs) (hs : a.eval s = v) (hx : a.eval x = .slice (some ⟨w0.heap.size, 0, none⟩) 1 1)
    (h63 : n + 1 ≤ 140737488355328) (hbytes : (n + 1) * bytes ≤ 140737488355328) (hbase : base ≤ w0.heap.size)
    (h : ∀ v' w', w'.ownsRow base e 1 v' (n + 1) (xs ++ [y]) → w0.grownBy w' v.ownBlock → Below base w0 w' → wpList P ops Q rest (a.put o.dst v') w') : wpList P ops Q (o :: rest) a (w0.alloc (.cells #[y] e)) := by
  refine wpList_append_own _ hgd s x t ho base e i z 1 bytes ht hi hz hsize hby hzs (by decide) v n xs hs (hown.alloc _) ⟨w0.heap.size, 0, none⟩ 1 1 [y] hx rfl (cell_one_new _ _ _) ?_ (by unfold maxLen; omega) hbytes (by simp; omega) ?_
  · intro u hu; simp at hu; subst hu; exact hy
  · intro v' w' h1 h2 _
    have hg : w0.grownBy w' v.ownBlock := grownBy_trans (World.grownBy_alloc w0 _ _) h2
    exact h v' w' h1 hg ((Below.refl _ _).grown hg hbase (fun k hk => (hown.lt k hk).1))

theorem seg_cells {k : IntKind} {M : Int} {w : World} {x : Addr} {zs : List Int} (h : SegK k M w (some x) zs) : ∀ j u, (zs.map (Value.int k))[j]? = some u → w.cell? (x.add j) = some u := by
  intro j u hu
  have hj : j < zs.length := by
    rcases Nat.lt_or_ge j zs.length with h | h
    · exact h
    · simp [List.getElem?_eq_none h] at hu
  obtain ⟨b, off, hx, hc⟩ := h.at_ j hj
  cases hx
  have hadd : (⟨b, off, none⟩ : Addr).add j = ⟨b, off + j, none⟩ := by unfold Addr.add; split <;> simp_all
  rw [hadd, hc]
  simp [hj] at hu
  subst hu
  simp [List.getD, hj]

/-- 'out = append(out, src...)', src whatever numbers lie there. -/
theorem wpList_append_seg {P : Program} {ops : Array Oper} {rest : List Oper} {o : Oper} {a : Act} {Q : Exit → Act → World → Prop} (hgd : o.guard = none) (s x : Operand) (t : TypeId)
    (ho : o.op = .call { callee := .builtin .append, args := #[s, x], argTypes := #[t, t] })
    (base : Nat) (e : TypeId) (i : TypeInfo) (z : Value) (bytes : Nat) (ht : P.underlying t = some (.slice e)) (hi : P.info? e = some i) (hz : i.zero = some z)
    (hsize : i.size = 1) (hby : i.bytes = bytes) (hzs : z.cells.size = 1)
    {w : World} {v : Value} {n : Nat} {xs : List Value} (hown : w.ownsRow base e 1 v n xs) {k : IntKind} {M : Int} {ao : Option Addr} {zs : List Int} {cap : Nat} (hseg : SegK k M w ao zs) (hnil : ao = none → cap = 0)
    (hs : a.eval s = v) (hx : a.eval x = .slice ao zs.length cap)
    (h63 : n + zs.length ≤ 140737488355328) (hbytes : (n + zs.length) * bytes ≤ 140737488355328) (hbase : base ≤ w.heap.size)
    (h : ∀ v' w', w'.ownsRow base e 1 v' (n + zs.length) (xs ++ zs.map (Value.int k)) → w.grownBy w' v.ownBlock → Below base w w' → wpList P ops Q rest (a.put o.dst v') w') : wpList P ops Q (o :: rest) a w := by
  cases ao with
  | none =>
    have hz : zs = [] := by
      cases zs with
      | nil => rfl
      | cons z r => obtain ⟨b, off, hx, _⟩ := hseg.at_ 0 (by simp); cases hx
    subst hz
    rw [hnil rfl] at hx
    refine wpList_append_own_none hgd s x t ho base e i 1 ht hi v n xs hs hown hx ?_
    exact h v w (by simpa using hown) (World.grownBy.refl _ _) (Below.refl _ _)
  | some ad =>
    refine wpList_append_own _ hgd s x t ho base e i z 1 bytes ht hi hz hsize hby hzs (by decide) v n xs hs hown ad zs.length cap (zs.map (Value.int k)) hx (by simp) (seg_cells hseg) (ints_oneCell _ _) (by unfold maxLen; omega) hbytes hbase ?_
    intro v' w' h1 h2 _
    exact h v' w' h1 h2 ((Below.refl _ _).grown h2 hbase (fun k hk => (hown.lt k hk).1))

/-- A row that holds something has a place. -/
theorem own_shape {w : World} {base n : Nat} {e : TypeId} {v : Value} {xs : List Value} (h : w.ownsRow base e 1 v n xs) (hn : 0 < n) : ∃ g cap, v = .slice (some ⟨g, 0, none⟩) n cap ∧ n ≤ cap ∧ base ≤ g ∧ g < w.heap.size := by
  rcases h.2 with ⟨_, h0⟩ | ⟨g, cap, cur, rfl, hg, hh, hc, _⟩
  · omega
  · exact ⟨g, cap, rfl, hc, hg, (Array.getElem?_eq_some_iff.1 hh).1⟩
end Go.Proofs.YtcifalelnfeggaaGreatDoor

namespace Go.Proofs.YtcifalelnfeggaaGreatDoor
open Go.RowKit
set_option linter.unusedVariables false

theorem getD_bd {zs : List Int} {M : Int} (hM : 0 ≤ M) (h : ∀ z ∈ zs, 0 ≤ z ∧ z ≤ M) (i : Nat) : 0 ≤ zs.getD i 0 ∧ zs.getD i 0 ≤ M := by
  by_cases hi : i < zs.length
  · have := h zs[i] (List.getElem_mem hi)
    simpa [List.getD, hi] using this
  · have : zs[i]? = none := List.getElem?_eq_none (by omega)
    simp [List.getD, this, hM]

/-- A row that the call owns, as bytes that lie there. -/
theorem own_seg {w : World} {base n : Nat} {e : TypeId} {v : Value} {k : IntKind} {M : Int} {zs : List Int} (h : w.ownsRow base e 1 v n (zs.map (Value.int k))) (hM : 0 ≤ M) (hb : ∀ z ∈ zs, 0 ≤ z ∧ z ≤ M) :
    n = zs.length ∧ ∃ a cap, v = .slice a n cap ∧ SegK k M w a zs ∧ (∀ x, a = some x → x.off = 0 ∧ x.spot = none ∧ base ≤ x.block ∧ x.block < w.heap.size) ∧ n ≤ cap ∧ v.ownBlock = a.map (·.block) := by
  have hl : zs.length = n := by simpa using h.1
  refine ⟨hl.symm, ?_⟩
  rcases h.2 with ⟨rfl, hn⟩ | ⟨g, cap, cur, rfl, hg, hh, hc, _, _, ht⟩
  · have : zs = [] := List.eq_nil_of_length_eq_zero (by omega)
    subst this
    exact ⟨none, 0, by rw [hn], SegK.nil hM _ _, by simp, by omega, rfl⟩
  · refine ⟨some ⟨g, 0, none⟩, cap, rfl, ⟨fun i hi => ⟨g, 0, rfl, ?_⟩, hM, getD_bd hM hb⟩, ?_, hc, rfl⟩
    · have := h.cells (g := g) rfl i (.int k (zs.getD i 0)) (by simp [List.getD, hi])
      have hadd : (⟨g, 0, none⟩ : Addr).add i = ⟨g, 0 + i, none⟩ := by unfold Addr.add; split <;> simp_all
      rw [hadd] at this
      exact this
    · intro x hx
      cases hx
      exact ⟨rfl, rfl, hg, (Array.getElem?_eq_some_iff.1 hh).1⟩

/-- What is owned stays owned where nothing that was there turned. -/
theorem own_below {w w' : World} {base n : Nat} {e : TypeId} {v : Value} {xs : List Value} (h : w.ownsRow base e 1 v n xs) (hb : Below w.heap.size w w') : w'.ownsRow base e 1 v n xs := by
  refine ⟨h.1, ?_⟩
  rcases h.2 with h2 | ⟨g, cap, cur, hv, hg, hh, r⟩
  · exact Or.inl h2
  · exact Or.inr ⟨g, cap, cur, hv, hg, by rw [hb.block g (Array.getElem?_eq_some_iff.1 hh).1]; exact hh, r⟩
theorem own_base {w : World} {base base' n : Nat} {e : TypeId} {v : Value} {xs : List Value} (h : w.ownsRow base e 1 v n xs) (hb : base' ≤ base) : w.ownsRow base' e 1 v n xs := by
  refine ⟨h.1, ?_⟩
  rcases h.2 with h2 | ⟨g, cap, cur, hv, hg, r⟩
  · exact Or.inl h2
  · exact Or.inr ⟨g, cap, cur, hv, by omega, r⟩
end Go.Proofs.YtcifalelnfeggaaGreatDoor

namespace Go.Proofs.YtcifalelnfeggaaGreatDoor
open Go.RowKit
set_option linter.unusedVariables false

/-! A block of three cells. -/
theorem three_cell0 {w : World} {b : Nat} {x y z : Value} {t : TypeId} (h : w.heap[b]? = some (.cells #[x, y, z] t (0, 0))) : w.cell? ⟨b, 0, none⟩ = some x := by simp [World.cell?, h]
theorem three_cell1 {w : World} {b : Nat} {x y z : Value} {t : TypeId} (h : w.heap[b]? = some (.cells #[x, y, z] t (0, 0))) : w.cell? ⟨b, 1, none⟩ = some y := by simp [World.cell?, h]
theorem three_cell2 {w : World} {b : Nat} {x y z : Value} {t : TypeId} (h : w.heap[b]? = some (.cells #[x, y, z] t (0, 0))) : w.cell? ⟨b, 2, none⟩ = some z := by simp [World.cell?, h]
theorem three_free {w : World} {b : Nat} {x y z : Value} {t : TypeId} (h : w.heap[b]? = some (.cells #[x, y, z] t (0, 0))) (i : Nat) : w.frozen? ⟨b, i, none⟩ = false := by simp [World.frozen?, h]
theorem three_set0 {w : World} {b : Nat} {x y z : Value} {t : TypeId} (h : w.heap[b]? = some (.cells #[x, y, z] t (0, 0))) (u : Value) : (w.setCell ⟨b, 0, none⟩ u).heap[b]? = some (.cells #[u, y, z] t (0, 0)) := by
  simp [World.setCell, Array.getElem?_modify, h]
theorem three_set1 {w : World} {b : Nat} {x y z : Value} {t : TypeId} (h : w.heap[b]? = some (.cells #[x, y, z] t (0, 0))) (u : Value) : (w.setCell ⟨b, 1, none⟩ u).heap[b]? = some (.cells #[x, u, z] t (0, 0)) := by
  simp [World.setCell, Array.getElem?_modify, h]
theorem three_set2 {w : World} {b : Nat} {x y z : Value} {t : TypeId} (h : w.heap[b]? = some (.cells #[x, y, z] t (0, 0))) (u : Value) : (w.setCell ⟨b, 2, none⟩ u).heap[b]? = some (.cells #[x, y, u] t (0, 0)) := by
  simp [World.setCell, Array.getElem?_modify, h]

/-! What is kept: all blocks outside S. -/
structure Kp (S : Nat → Prop) (w w' : World) : Prop where
  os : w'.os = w.os
  tape : w'.tape = w.tape
  output : w'.output = w.output
  size : w.heap.size ≤ w'.heap.size
  block : ∀ k, k < w.heap.size → ¬ S k → w'.heap[k]? = w.heap[k]?
theorem Kp.refl (S : Nat → Prop) (w : World) : Kp S w w := ⟨rfl, rfl, rfl, Nat.le_refl _, fun _ _ _ => rfl⟩
theorem Kp.trans {S S' : Nat → Prop} {a b c : World} (h : Kp S a b) (k : Kp S' b c) (hs : ∀ i, i < a.heap.size → S' i → S i) : Kp S a c :=
  ⟨k.os.trans h.os, k.tape.trans h.tape, k.output.trans h.output, Nat.le_trans h.size k.size, fun i hi hn => (k.block i (Nat.lt_of_lt_of_le hi h.size) (fun e => hn (hs i hi e))).trans (h.block i hi hn)⟩
theorem Kp.mono {S S' : Nat → Prop} {a b : World} (h : Kp S a b) (hs : ∀ i, i < a.heap.size → S i → S' i) : Kp S' a b :=
  ⟨h.os, h.tape, h.output, h.size, fun i hi hn => h.block i hi (fun e => hn (hs i hi e))⟩
theorem Kp.grown {S : Nat → Prop} {a b : World} {row : Option Nat} (h : a.grownBy b row) (hs : ∀ i, row = some i → S i) : Kp S a b :=
  ⟨h.os, h.tape, h.output, h.size, fun i hi hn => h.block i hi (fun e => hn (hs i e.symm))⟩
theorem Kp.of_below {S : Nat → Prop} {a b : World} (h : Below a.heap.size a b) : Kp S a b := ⟨h.os, h.tape, h.output, h.size, fun i hi _ => h.block i hi⟩
theorem Kp.below {S : Nat → Prop} {a b : World} {B : Nat} (h : Kp S a b) (hs : ∀ i, S i → B ≤ i) (hB : B ≤ a.heap.size) : Below B a b :=
  ⟨h.os, h.tape, h.output, h.size, fun i hi => h.block i (Nat.lt_of_lt_of_le hi hB) (fun e => by have := hs i e; omega)⟩
theorem Kp.set {S : Nat → Prop} {w : World} {b i : Nat} (hb : S b) (x : Value) : Kp S w (w.setCell ⟨b, i, none⟩ x) :=
  .grown (grownBy_set (World.grownBy.refl _ _) _) (by intro j e; cases e; exact hb)
theorem Kp.alloc {S : Nat → Prop} (w : World) (o : Obj) : Kp S w (w.alloc o) := .of_below ((Below.refl _ _).alloc (Nat.le_refl _) _)
theorem Kp.drew {S : Nat → Prop} {a b : World} (h : Kp S a b) : Kp S a b.drew := ⟨h.os, h.tape, h.output, h.size, h.block⟩
theorem Kp.drewN {S : Nat → Prop} {a b : World} (h : Kp S a b) (n : Nat) : Kp S a (b.drewN n) := ⟨h.os, h.tape, h.output, h.size, h.block⟩
theorem Kp.heap {S : Nat → Prop} {a b : World} {k : Nat} {o : Obj} (h : Kp S a b) (hk : a.heap[k]? = some o) (hn : ¬ S k) : b.heap[k]? = some o := by
  rw [h.block k (Array.getElem?_eq_some_iff.1 hk).1 hn]; exact hk

theorem own_kp {w w' : World} {S : Nat → Prop} {base n : Nat} {e : TypeId} {v : Value} {xs : List Value} (h : w.ownsRow base e 1 v n xs) (hb : Kp S w w') (hn : ∀ k, v.ownBlock = some k → ¬ S k) : w'.ownsRow base e 1 v n xs := by
  refine ⟨h.1, ?_⟩
  rcases h.2 with h2 | ⟨g, cap, cur, hv, hg, hh, r⟩
  · exact Or.inl h2
  · exact Or.inr ⟨g, cap, cur, hv, hg, hb.heap hh (hn g (by rw [hv]; rfl)), r⟩
theorem SegK.kp {k : IntKind} {M : Int} {w w' : World} {S : Nat → Prop} {a : Option Addr} {zs : List Int} (h : SegK k M w a zs) (hb : Kp S w w') (hn : ∀ b off, a = some ⟨b, off, none⟩ → 0 < zs.length → ¬ S b) : SegK k M w' a zs :=
  h.of_cells fun b off i v hi ha hcl => by
    have hlt : b < w.heap.size := World.block_lt_of_cell? w _ hcl
    rw [World.cell?_of_block (a := ⟨b, off + i, none⟩) (hb.block b hlt (hn b off ha (by omega)))]
    exact hcl

/-- The row lies at its old place, or in a new block. -/
def Fresh (w : World) (v v' : Value) : Prop := ∀ k, v'.ownBlock = some k → v.ownBlock = some k ∨ w.heap.size ≤ k

/-- An append onto a row of the call's own. -/
theorem run_app_st {P : Program} (t ty : TypeId) (base : Nat) (e : TypeId) (i : TypeInfo) (z : Value) (bytes : Nat) (ht : P.underlying t = some (.slice e)) (hi : P.info? e = some i) (hz : i.zero = some z)
    (hsize : i.size = 1) (hby : i.bytes = bytes) (hzs : z.cells.size = 1)
    (w : World) {v : Value} {n : Nat} {xs : List Value} (hown : w.ownsRow base e 1 v n xs) (a : Addr) (m c : Nat) (news : List Value) (hl : news.length = m) (hnews : ∀ j u, news[j]? = some u → w.cell? (a.add j) = some u) (h1 : ∀ u ∈ news, u.oneCell' = true)
    (h63 : n + m ≤ 140737488355328) (hbytes : (n + m) * bytes ≤ 140737488355328) (hbase : base ≤ w.heap.size) :
    ∃ v' w', (Builtin.append_ #[t, t] ty #[v, .slice (some a) m c]).run P w = .ok v' w' ∧ w'.ownsRow base e 1 v' (n + m) (xs ++ news) ∧ w.grownBy w' v.ownBlock ∧ (v' = .slice none 0 0 ↔ v = .slice none 0 0 ∧ m = 0) ∧ Fresh w v v' := by
  obtain ⟨v', w', hr, h2, h3, h4⟩ := run_append_own (P := P) w base t ty e i z 1 bytes ht hi hz hsize hby hzs (by decide) v n xs hown a m c news (by omega) hnews h1 (by unfold maxLen; omega) hbytes hbase
  refine ⟨v', w', hr, h2, h3, h4, ?_⟩
  subst hby
  rcases hown.2 with ⟨rfl, rfl⟩ | ⟨g, cap, cur, rfl, hbg, hg, hnc, hcm, hcs, htake⟩
  · by_cases hm : m = 0
    · rw [h4.2 ⟨rfl, hm⟩]
      intro k hk; cases hk
    · have hr2 := run_append_nil (P := P) w t ty e i z ht hi hz a m c news (by rw [hsize]; omega) hnews (by omega) (by omega) (by simp only [Nat.zero_add] at hbytes; omega)
      rw [hr] at hr2
      simp only [Result.ok.injEq] at hr2
      obtain ⟨rfl, rfl⟩ := hr2
      intro k hk; cases hk; exact .inr (Nat.le_refl _)
  · by_cases hroom : n + m ≤ cap
    · have hr2 := run_append_room (P := P) w t ty e i ht hi g n cap cur hg a m c news (by rw [hsize]; omega) hnews h1 hroom (by rw [hsize]; omega)
      rw [hr] at hr2
      simp only [Result.ok.injEq] at hr2
      obtain ⟨rfl, rfl⟩ := hr2
      intro k hk; exact .inl hk
    · have hr2 := run_append_grow (P := P) w t ty e i z ht hi hz ⟨g, 0, none⟩ n cap xs (by rw [hsize]; exact hown.1) (hown.cells (g := g) rfl) a m c news (by rw [hsize]; omega) hnews (by omega) (by omega) (growslice_fits (by omega) hbytes)
      rw [hr] at hr2
      simp only [Result.ok.injEq] at hr2
      obtain ⟨rfl, rfl⟩ := hr2
      intro k hk; cases hk; exact .inr (Nat.le_refl _)

/-- 'out = append(out, src...)', src whatever one-cell values lie there; the row is at its place, or in a new block. -/
theorem wpList_app {P : Program} {ops : Array Oper} {rest : List Oper} {o : Oper} {a : Act} {Q : Exit → Act → World → Prop} (hgd : o.guard = none) (s x : Operand) (t : TypeId)
    (ho : o.op = .call { callee := .builtin .append, args := #[s, x], argTypes := #[t, t] })
    (base : Nat) (e : TypeId) (i : TypeInfo) (z : Value) (bytes : Nat) (ht : P.underlying t = some (.slice e)) (hi : P.info? e = some i) (hz : i.zero = some z)
    (hsize : i.size = 1) (hby : i.bytes = bytes) (hzs : z.cells.size = 1)
    {w : World} {v : Value} {n : Nat} {xs : List Value} (hown : w.ownsRow base e 1 v n xs) {ad : Addr} {m cap : Nat} {news : List Value} (hl : news.length = m) (hnews : ∀ j u, news[j]? = some u → w.cell? (ad.add j) = some u) (h1 : ∀ u ∈ news, u.oneCell' = true)
    (hs : a.eval s = v) (hx : a.eval x = .slice (some ad) m cap)
    (h63 : n + m ≤ 140737488355328) (hbytes : (n + m) * bytes ≤ 140737488355328) (hbase : base ≤ w.heap.size)
    (h : ∀ (b : Option Addr) (c : Nat) (w' : World), w'.ownsRow base e 1 (.slice b (n + m) c) (n + m) (xs ++ news) → w.grownBy w' v.ownBlock → Fresh w v (.slice b (n + m) c) → (Value.slice b (n + m) c = .slice none 0 0 ↔ v = .slice none 0 0 ∧ m = 0) → wpList P ops Q rest (a.put o.dst (.slice b (n + m) c)) w') : wpList P ops Q (o :: rest) a w := by
  obtain ⟨v', w', hr, h2, h3, h4, h5⟩ := run_app_st (P := P) t o.type base e i z bytes ht hi hz hsize hby hzs w hown ad m cap news hl hnews h1 h63 hbytes hbase
  obtain ⟨b, c, rfl⟩ : ∃ b c, v' = .slice b (n + m) c := by
    rcases h2.2 with ⟨rfl, h0⟩ | ⟨g, cp, cur, rfl, _⟩
    · exact ⟨none, 0, by rw [h0]⟩
    · exact ⟨_, _, rfl⟩
  refine wpList_plain hgd fun K hK => ?_
  unfold Oper.wp execOp
  simp only [ho, resolve, invoke, builtin, Sem.run_bind, Sem.run_pure, Result.andThen_ok, List.map_toArray, List.map_cons, List.map_nil, hs, hx, hr]
  exact hK _ _ (h b c w' h2 h3 h5 h4)

/-- One value, which lies in a block of its own, behind a row. -/
theorem wpList_app1 {P : Program} {ops : Array Oper} {rest : List Oper} {o : Oper} {a : Act} {Q : Exit → Act → World → Prop} (hgd : o.guard = none) (s x : Operand) (t : TypeId)
    (ho : o.op = .call { callee := .builtin .append, args := #[s, x], argTypes := #[t, t] })
    (base : Nat) (e : TypeId) (i : TypeInfo) (z : Value) (bytes : Nat) (ht : P.underlying t = some (.slice e)) (hi : P.info? e = some i) (hz : i.zero = some z)
    (hsize : i.size = 1) (hby : i.bytes = bytes) (hzs : z.cells.size = 1)
    (w0 : World) (y : Value) (hy : y.oneCell' = true) {v : Value} {n : Nat} {xs : List Value} (hown : w0.ownsRow base e 1 v n xs) (hs : a.eval s = v) (hx : a.eval x = .slice (some ⟨w0.heap.size, 0, none⟩) 1 1)
    (h63 : n + 1 ≤ 140737488355328) (hbytes : (n + 1) * bytes ≤ 140737488355328) (hbase : base ≤ w0.heap.size)
    (h : ∀ (g c : Nat) (w' : World), w'.ownsRow base e 1 (.slice (some ⟨g, 0, none⟩) (n + 1) c) (n + 1) (xs ++ [y]) → w0.grownBy w' v.ownBlock → Fresh w0 v (.slice (some ⟨g, 0, none⟩) (n + 1) c) → wpList P ops Q rest (a.put o.dst (.slice (some ⟨g, 0, none⟩) (n + 1) c)) w') : wpList P ops Q (o :: rest) a (w0.alloc (.cells #[y] e)) := by
  refine wpList_app hgd s x t ho base e i z bytes ht hi hz hsize hby hzs (hown.alloc _) (news := [y]) rfl (cell_one_new _ _ _) (by intro u hu; simp at hu; subst hu; exact hy) hs hx h63 hbytes (by simp; omega) ?_
  intro b c w' h1 h2 h3 _
  obtain ⟨g, cap, hv, _⟩ := own_shape h1 (Nat.succ_pos n)
  simp only [Value.slice.injEq] at hv
  obtain ⟨rfl, _, rfl⟩ := hv
  refine h g c w' h1 (grownBy_trans (World.grownBy_alloc w0 _ _) h2) ?_
  intro k hk
  rcases h3 k hk with e | e
  · exact .inl e
  · right; simp at e; omega

/-- Numbers that lie somewhere, behind a row. -/
theorem wpList_appS {P : Program} {ops : Array Oper} {rest : List Oper} {o : Oper} {a : Act} {Q : Exit → Act → World → Prop} (hgd : o.guard = none) (s x : Operand) (t : TypeId)
    (ho : o.op = .call { callee := .builtin .append, args := #[s, x], argTypes := #[t, t] })
    (base : Nat) (e : TypeId) (i : TypeInfo) (z : Value) (bytes : Nat) (ht : P.underlying t = some (.slice e)) (hi : P.info? e = some i) (hz : i.zero = some z)
    (hsize : i.size = 1) (hby : i.bytes = bytes) (hzs : z.cells.size = 1)
    {w : World} {ra : Option Addr} {rc : Nat} {n : Nat} {xs : List Value} (hown : w.ownsRow base e 1 (.slice ra n rc) n xs) {k : IntKind} {M : Int} {ao : Option Addr} {zs : List Int} {cap : Nat} (hseg : SegK k M w ao zs) (hnil : ao = none → cap = 0)
    (hs : a.eval s = .slice ra n rc) (hx : a.eval x = .slice ao zs.length cap)
    (h63 : n + zs.length ≤ 140737488355328) (hbytes : (n + zs.length) * bytes ≤ 140737488355328) (hbase : base ≤ w.heap.size)
    (h : ∀ (b : Option Addr) (c : Nat) (w' : World), w'.ownsRow base e 1 (.slice b (n + zs.length) c) (n + zs.length) (xs ++ zs.map (Value.int k)) → w.grownBy w' (Value.slice ra n rc).ownBlock → Fresh w (.slice ra n rc) (.slice b (n + zs.length) c) → (Value.slice b (n + zs.length) c = .slice none 0 0 ↔ Value.slice ra n rc = .slice none 0 0 ∧ zs.length = 0) → wpList P ops Q rest (a.put o.dst (.slice b (n + zs.length) c)) w') : wpList P ops Q (o :: rest) a w := by
  cases ao with
  | none =>
    have hz : zs = [] := by
      cases zs with
      | nil => rfl
      | cons z r => obtain ⟨b, off, hx, _⟩ := hseg.at_ 0 (by simp); cases hx
    subst hz
    rw [hnil rfl] at hx
    refine wpList_append_own_none hgd s x t ho base e i 1 ht hi _ n xs hs hown hx ?_
    have := h ra rc w (by simpa using hown) (World.grownBy.refl _ _) (fun k hk => .inl hk) (by simp)
    simpa using this
  | some ad =>
    exact wpList_app hgd s x t ho base e i z bytes ht hi hz hsize hby hzs hown (by simp) (seg_cells hseg) (ints_oneCell _ _) hs hx h63 hbytes hbase h

/-! Bits that lie somewhere. -/
structure SegB (w : World) (a : Option Addr) (L : List Bool) : Prop where
  at_ : ∀ i, i < L.length → ∃ b off, a = some ⟨b, off, none⟩ ∧ w.cell? ⟨b, off + i, none⟩ = some (.bool (L.getD i false))
theorem SegB.of_cells {w w' : World} {a : Option Addr} {L : List Bool} (h : SegB w a L) (hc : ∀ b off i v, i < L.length → a = some ⟨b, off, none⟩ → w.cell? ⟨b, off + i, none⟩ = some v → w'.cell? ⟨b, off + i, none⟩ = some v) : SegB w' a L :=
  ⟨fun i hi => by obtain ⟨b, off, ha, hcl⟩ := h.at_ i hi; exact ⟨b, off, ha, hc b off i _ hi ha hcl⟩⟩
theorem SegB.old {w w' : World} {a : Option Addr} {L : List Bool} (h : SegB w a L) (hb : Below w.heap.size w w') : SegB w' a L :=
  h.of_cells fun b off i v hi ha hcl => (hb.cell (p := ⟨b, off + i, none⟩) (World.block_lt_of_cell? w _ hcl)).trans hcl
theorem SegB.drop {w : World} {b off : Nat} {L : List Bool} (h : SegB w (some ⟨b, off, none⟩) L) (m : Nat) : SegB w (some ⟨b, off + m, none⟩) (L.drop m) := by
  refine ⟨fun i hi => ?_⟩
  simp at hi
  obtain ⟨b', off', ha, hc⟩ := h.at_ (m + i) (by omega)
  cases ha
  refine ⟨b, off + m, rfl, ?_⟩
  rw [Nat.add_assoc, hc]
  simp [List.getD]
theorem segB_cells {w : World} {x : Addr} {L : List Bool} (h : SegB w (some x) L) : ∀ j u, (L.map Value.bool)[j]? = some u → w.cell? (x.add j) = some u := by
  intro j u hu
  have hj : j < L.length := by
    rcases Nat.lt_or_ge j L.length with h | h
    · exact h
    · simp [List.getElem?_eq_none h] at hu
  obtain ⟨b, off, hx, hc⟩ := h.at_ j hj
  cases hx
  have hadd : (⟨b, off, none⟩ : Addr).add j = ⟨b, off + j, none⟩ := by unfold Addr.add; split <;> simp_all
  rw [hadd, hc]
  simp [hj] at hu
  subst hu
  simp [List.getD, hj]
theorem own_segB {w : World} {base n : Nat} {e : TypeId} {a : Option Addr} {cap : Nat} {L : List Bool} (h : w.ownsRow base e 1 (.slice a n cap) n (L.map Value.bool)) : SegB w a L := by
  rcases h.2 with ⟨h0, hn⟩ | ⟨g, cp, cur, hv, hg, hh, hc, _, _, ht⟩
  · have : L = [] := List.eq_nil_of_length_eq_zero (by have := h.1; simp at this; omega)
    subst this
    exact ⟨fun i hi => by simp at hi⟩
  · simp only [Value.slice.injEq] at hv
    obtain ⟨rfl, _, rfl⟩ := hv
    refine ⟨fun i hi => ⟨g, 0, rfl, ?_⟩⟩
    have := h.cells (g := g) rfl i (.bool (L.getD i false)) (by simp [List.getD, hi])
    have hadd : (⟨g, 0, none⟩ : Addr).add i = ⟨g, 0 + i, none⟩ := by unfold Addr.add; split <;> simp_all
    rw [hadd] at this
    exact this
theorem bools_oneCell (L : List Bool) : ∀ u ∈ L.map Value.bool, u.oneCell' = true := by
  intro u hu
  simp only [List.mem_map] at hu
  obtain ⟨b, _, rfl⟩ := hu
  rfl
end Go.Proofs.YtcifalelnfeggaaGreatDoor

namespace Go.Proofs.YtcifalelnfeggaaGreatDoor
open Go.RowKit
set_option linter.unusedVariables false

/-- Whole numbers (of 64 bits, with a sign) lie where a slice's address leads. -/
structure SegZ (w : World) (a : Option Addr) (zs : List Int) : Prop where
  at_ : ∀ i, i < zs.length → ∃ b off, a = some ⟨b, off, none⟩ ∧ w.cell? ⟨b, off + i, none⟩ = some (.int .i64 (zs.getD i 0))
  bd : ∀ i, -9223372036854775808 ≤ zs.getD i 0 ∧ zs.getD i 0 ≤ 9223372036854775807

theorem getD_bdz {zs : List Int} (h : ∀ z ∈ zs, -9223372036854775808 ≤ z ∧ z ≤ 9223372036854775807) (i : Nat) : -9223372036854775808 ≤ zs.getD i 0 ∧ zs.getD i 0 ≤ 9223372036854775807 := by
  by_cases hi : i < zs.length
  · have := h zs[i] (List.getElem_mem hi)
    simpa [List.getD, hi] using this
  · have : zs[i]? = none := List.getElem?_eq_none (by omega)
    simp [List.getD, this]
theorem SegZ.nil (w : World) (a : Option Addr) : SegZ w a [] := ⟨fun i h => by simp at h, fun i => by simp⟩
theorem SegZ.of_cells {w w' : World} {a : Option Addr} {zs : List Int} (h : SegZ w a zs) (hc : ∀ b off i v, i < zs.length → a = some ⟨b, off, none⟩ → w.cell? ⟨b, off + i, none⟩ = some v → w'.cell? ⟨b, off + i, none⟩ = some v) : SegZ w' a zs :=
  ⟨fun i hi => by obtain ⟨b, off, ha, hcl⟩ := h.at_ i hi; exact ⟨b, off, ha, hc b off i _ hi ha hcl⟩, h.bd⟩
theorem SegZ.old {w w' : World} {a : Option Addr} {zs : List Int} (h : SegZ w a zs) (hb : Below w.heap.size w w') : SegZ w' a zs :=
  h.of_cells fun b off i v hi ha hcl => (hb.cell (p := ⟨b, off + i, none⟩) (World.block_lt_of_cell? w _ hcl)).trans hcl
theorem SegZ.kp {w w' : World} {S : Nat → Prop} {a : Option Addr} {zs : List Int} (h : SegZ w a zs) (hb : Kp S w w') (hn : ∀ b off, a = some ⟨b, off, none⟩ → 0 < zs.length → ¬ S b) : SegZ w' a zs :=
  h.of_cells fun b off i v hi ha hcl => by
    have hlt : b < w.heap.size := World.block_lt_of_cell? w _ hcl
    rw [World.cell?_of_block (a := ⟨b, off + i, none⟩) (hb.block b hlt (hn b off ha (by omega)))]
    exact hcl
theorem SegZ.lt {w : World} {a : Option Addr} {zs : List Int} (h : SegZ w a zs) : ∀ b off, a = some ⟨b, off, none⟩ → 0 < zs.length → b < w.heap.size := by
  intro b off ha hl
  obtain ⟨b', off', ha', hc⟩ := h.at_ 0 hl
  rw [ha] at ha'
  cases ha'
  exact World.block_lt_of_cell? w _ hc
theorem SegZ.drewN {w : World} {a : Option Addr} {zs : List Int} (h : SegZ w a zs) (n : Nat) : SegZ (w.drewN n) a zs := ⟨h.at_, h.bd⟩
theorem SegZ.drew {w : World} {a : Option Addr} {zs : List Int} (h : SegZ w a zs) : SegZ w.drew a zs := ⟨h.at_, h.bd⟩
theorem SegZ.alloc {w : World} {a : Option Addr} {zs : List Int} (h : SegZ w a zs) (o : Obj) : SegZ (w.alloc o) a zs := h.old ((Below.refl _ _).alloc (Nat.le_refl _) o)
theorem SegZ.mem {w : World} {a : Option Addr} {zs : List Int} (h : SegZ w a zs) : ∀ z ∈ zs, -9223372036854775808 ≤ z ∧ z ≤ 9223372036854775807 := by
  intro z hz
  obtain ⟨i, hi, rfl⟩ := List.mem_iff_getElem.1 hz
  have := h.bd i
  simpa [List.getD, hi] using this
theorem SegZ.take {w : World} {a : Option Addr} {zs : List Int} (h : SegZ w a zs) (m : Nat) : SegZ w a (zs.take m) := by
  refine ⟨fun i hi => ?_, getD_bdz fun z hz => h.mem z (List.mem_of_mem_take hz)⟩
  simp at hi
  obtain ⟨b, off, ha, hc⟩ := h.at_ i (by omega)
  refine ⟨b, off, ha, ?_⟩
  rw [hc]
  have hk : i < m := by omega
  simp [List.getD, hk]
theorem SegZ.left {w : World} {a : Option Addr} {xs ys : List Int} (h : SegZ w a (xs ++ ys)) : SegZ w a xs := by
  have := h.take xs.length
  simpa using this
theorem segZ_cells {w : World} {x : Addr} {zs : List Int} (h : SegZ w (some x) zs) : ∀ j u, (zs.map (Value.int .i64))[j]? = some u → w.cell? (x.add j) = some u := by
  intro j u hu
  have hj : j < zs.length := by
    rcases Nat.lt_or_ge j zs.length with h | h
    · exact h
    · simp [List.getElem?_eq_none h] at hu
  obtain ⟨b, off, hx, hc⟩ := h.at_ j hj
  cases hx
  have hadd : (⟨b, off, none⟩ : Addr).add j = ⟨b, off + j, none⟩ := by unfold Addr.add; split <;> simp_all
  rw [hadd, hc]
  simp [hj] at hu
  subst hu
  simp [List.getD, hj]
/-- A row that the call owns, as numbers that lie there. -/
theorem own_segZ {w : World} {base n : Nat} {e : TypeId} {a : Option Addr} {cap : Nat} {zs : List Int} (h : w.ownsRow base e 1 (.slice a n cap) n (zs.map (Value.int .i64))) (hb : ∀ z ∈ zs, -9223372036854775808 ≤ z ∧ z ≤ 9223372036854775807) :
    SegZ w a zs := by
  have hl : zs.length = n := by simpa using h.1
  rcases h.2 with ⟨h1, hn⟩ | ⟨g, cap', cur, hv, hg, hh, hc, _, _, ht⟩
  · have : zs = [] := List.eq_nil_of_length_eq_zero (by omega)
    subst this
    exact SegZ.nil _ _
  · simp only [Value.slice.injEq] at hv
    obtain ⟨rfl, _, rfl⟩ := hv
    refine ⟨fun i hi => ⟨g, 0, rfl, ?_⟩, getD_bdz hb⟩
    have := h.cells (g := g) rfl i (.int .i64 (zs.getD i 0)) (by simp [List.getD, hi])
    have hadd : (⟨g, 0, none⟩ : Addr).add i = ⟨g, 0 + i, none⟩ := by unfold Addr.add; split <;> simp_all
    rw [hadd] at this
    exact this
/-- Numbers that lie somewhere, behind a row. -/
theorem wpList_appZ {P : Program} {ops : Array Oper} {rest : List Oper} {o : Oper} {a : Act} {Q : Exit → Act → World → Prop} (hgd : o.guard = none) (s x : Operand) (t : TypeId)
    (ho : o.op = .call { callee := .builtin .append, args := #[s, x], argTypes := #[t, t] })
    (base : Nat) (e : TypeId) (i : TypeInfo) (z : Value) (bytes : Nat) (ht : P.underlying t = some (.slice e)) (hi : P.info? e = some i) (hz : i.zero = some z)
    (hsize : i.size = 1) (hby : i.bytes = bytes) (hzs : z.cells.size = 1)
    {w : World} {ra : Option Addr} {rc : Nat} {n : Nat} {xs : List Value} (hown : w.ownsRow base e 1 (.slice ra n rc) n xs) {ao : Option Addr} {zs : List Int} {cap : Nat} (hseg : SegZ w ao zs) (hnil : ao = none → cap = 0)
    (hs : a.eval s = .slice ra n rc) (hx : a.eval x = .slice ao zs.length cap)
    (h63 : n + zs.length ≤ 140737488355328) (hbytes : (n + zs.length) * bytes ≤ 140737488355328) (hbase : base ≤ w.heap.size)
    (h : ∀ (b : Option Addr) (c : Nat) (w' : World), w'.ownsRow base e 1 (.slice b (n + zs.length) c) (n + zs.length) (xs ++ zs.map (Value.int .i64)) → w.grownBy w' (Value.slice ra n rc).ownBlock → Fresh w (.slice ra n rc) (.slice b (n + zs.length) c) → (Value.slice b (n + zs.length) c = .slice none 0 0 ↔ Value.slice ra n rc = .slice none 0 0 ∧ zs.length = 0) → wpList P ops Q rest (a.put o.dst (.slice b (n + zs.length) c)) w') : wpList P ops Q (o :: rest) a w := by
  cases ao with
  | none =>
    have hz : zs = [] := by
      cases zs with
      | nil => rfl
      | cons z r => obtain ⟨b, off, hx, _⟩ := hseg.at_ 0 (by simp); cases hx
    subst hz
    rw [hnil rfl] at hx
    refine wpList_append_own_none hgd s x t ho base e i 1 ht hi _ n xs hs hown hx ?_
    have := h ra rc w (by simpa using hown) (World.grownBy.refl _ _) (fun k hk => .inl hk) (by simp)
    simpa using this
  | some ad =>
    exact wpList_app hgd s x t ho base e i z bytes ht hi hz hsize hby hzs hown (by simp) (segZ_cells hseg) (ints_oneCell _ _) hs hx h63 hbytes hbase h
theorem below_own {w w' : World} {base n : Nat} {e : TypeId} {v : Value} {xs : List Value} (hown : w.ownsRow base e 1 v n xs) (hg : w.grownBy w' v.ownBlock) (hb : base ≤ w.heap.size) : Below base w w' :=
  (Below.refl _ _).grown hg hb (fun k hk => (hown.lt k hk).1)
theorem take_snocZ {zs : List Int} {k : Nat} (hk : k < zs.length) : zs.take (k + 1) = zs.take k ++ [zs.getD k 0] := by
  rw [List.take_add_one]
  simp [List.getD, hk]
end Go.Proofs.YtcifalelnfeggaaGreatDoor

namespace Go.Proofs.YtcifalelnfeggaaGreatDoor
set_option linter.unusedVariables false

/-! Layer 8 (head), without a program: lengths as runs, and back (P8.1, P8.2, P8.7). -/
structure Rn8 where
  sy : Int
  ct : Int
def lst8 (s : Int) : Int := if s = 16 ∨ s = 17 then 3 else if s = 18 then 11 else 1
def grt8 (s : Int) : Int := if s = 16 then 6 else if s = 17 then 10 else if s = 18 then 138 else 1
def mor8 (s : Int) : Nat := if s = 16 then 2 else if s = 17 then 3 else if s = 18 then 7 else 0
def bad8 (r : Rn8) (n : Nat) : Prop := r.sy < 0 ∨ 18 < r.sy ∨ r.ct < lst8 r.sy ∨ grt8 r.sy < r.ct ∨ (r.sy = 16 ∧ n = 0)
instance (r : Rn8) (n : Nat) : Decidable (bad8 r n) := by unfold bad8; infer_instance
def end8 : List Int → Int
  | [] => 0
  | [x] => x
  | _ :: r => end8 r
theorem end8_app (x : Int) : ∀ l : List Int, end8 (l ++ [x]) = x
  | [] => rfl
  | [y] => rfl
  | y :: z :: r => by
    have := end8_app x (z :: r)
    simpa [end8] using this
theorem end8_rep (v : Int) (l : List Int) : ∀ n, 0 < n → end8 (l ++ List.replicate n v) = v
  | 0, h => by omega
  | n + 1, _ => by rw [List.replicate_succ', ← List.append_assoc, end8_app]
def val8 (r : Rn8) (out : List Int) : Int := if r.sy = 16 then end8 out else if 15 < r.sy then 0 else r.sy
/-- What runs say behind lengths; none: they are no lengths. -/
def lng8 : List Rn8 → List Int → Option (List Int)
  | [], out => some out
  | r :: l, out => if bad8 r out.length then none else if 320 < (out ++ List.replicate r.ct.toNat (val8 r out)).length then none else lng8 l (out ++ List.replicate r.ct.toNat (val8 r out))
def lens8 (l : List Rn8) : Option (List Int) := lng8 l []
def pre8 (v : Int) : List Int → Nat
  | [] => 0
  | x :: r => if x = v then pre8 v r + 1 else 0
theorem pre8_le (v : Int) : ∀ l, pre8 v l ≤ l.length
  | [] => Nat.le_refl _
  | x :: r => by
    rw [pre8]
    split
    · have := pre8_le v r; simp; omega
    · simp
theorem pre8_take (v : Int) : ∀ (l : List Int) (n : Nat), n ≤ pre8 v l → l.take n = List.replicate n v
  | l, 0, _ => by simp
  | [], n + 1, h => by simp [pre8] at h
  | x :: r, n + 1, h => by
    rw [pre8] at h
    split at h
    · rename_i e
      rw [List.take_succ_cons, List.replicate_succ, e, pre8_take v r n (by omega)]
    · omega
def rep8 : Nat → Nat → List Rn8
  | 0, _ => []
  | f + 1, k => if 3 ≤ k then ⟨16, (min k 6 : Nat)⟩ :: rep8 f (k - min k 6) else []
def row8 (v : Int) (k : Nat) : List Rn8 := if v = 0 then (if 11 ≤ k then [⟨18, (min k 138 : Nat)⟩] else if 3 ≤ k then [⟨17, k⟩] else [⟨0, 1⟩]) else ⟨v, 1⟩ :: rep8 (k - 1) (k - 1)
def sum8 : List Rn8 → Nat
  | [] => 0
  | r :: l => r.ct.toNat + sum8 l
theorem rep8_sum : ∀ f k, sum8 (rep8 f k) ≤ k
  | 0, k => by simp [rep8, sum8]
  | f + 1, k => by
    rw [rep8]
    split
    · have := rep8_sum f (k - min k 6)
      simp only [sum8, Int.toNat_natCast]
      omega
    · simp [sum8]
theorem row8_sum {v : Int} {k : Nat} (hk : 1 ≤ k) : 1 ≤ sum8 (row8 v k) ∧ sum8 (row8 v k) ≤ k := by
  unfold row8
  split
  · split
    · simp only [sum8, Int.toNat_natCast]; omega
    · split
      · simp only [sum8, Int.toNat_natCast]; omega
      · simp [sum8]; omega
  · have := rep8_sum (k - 1) (k - 1)
    simp only [sum8]
    have e : (1 : Int).toNat = 1 := rfl
    rw [e]
    omega
def rung8 : Nat → List Int → List Rn8
  | 0, _ => []
  | _ + 1, [] => []
  | f + 1, v :: r => row8 v (pre8 v (v :: r)) ++ rung8 f ((v :: r).drop (sum8 (row8 v (pre8 v (v :: r)))))
def runs8 (l : List Int) : List Rn8 := rung8 l.length l
theorem lng8_one {r : Rn8} {l : List Rn8} {out : List Int} (h : ¬ bad8 r out.length) (hl : out.length + r.ct.toNat ≤ 320) : lng8 (r :: l) out = lng8 l (out ++ List.replicate r.ct.toNat (val8 r out)) := by
  rw [lng8, if_neg h, if_neg (by simp; omega)]
theorem lng8_rep {v : Int} (rest : List Rn8) : ∀ (f k : Nat) (out : List Int), 0 < out.length → end8 out = v → out.length + k ≤ 320 → lng8 (rep8 f k ++ rest) out = lng8 rest (out ++ List.replicate (sum8 (rep8 f k)) v)
  | 0, k, out, _, _, _ => by simp [rep8, sum8]
  | f + 1, k, out, h1, h2, h3 => by
    rw [rep8]
    split
    · rename_i hk
      have hv : val8 ⟨16, (min k 6 : Nat)⟩ out = v := by unfold val8; rw [if_pos rfl]; exact h2
      have hne : ¬ out = [] := by intro e; rw [e] at h1; simp at h1
      rw [List.cons_append, lng8_one (by unfold bad8 lst8 grt8; simp [hne]; omega) (by simp; omega), hv, lng8_rep rest f (k - min k 6) _ (by simp; omega) (end8_rep v out _ (by simp; omega)) (by simp; omega)]
      simp only [sum8, Int.toNat_natCast, List.append_assoc, List.replicate_append_replicate]
    · simp [sum8]
theorem lng8_row {v : Int} {k : Nat} (rest : List Rn8) (out : List Int) (hv : 0 ≤ v ∧ v ≤ 15) (hk : 1 ≤ k) (hl : out.length + k ≤ 320) : lng8 (row8 v k ++ rest) out = lng8 rest (out ++ List.replicate (sum8 (row8 v k)) v) := by
  unfold row8
  by_cases h0 : v = 0
  · rw [if_pos h0]
    subst h0
    split
    · rw [List.singleton_append, lng8_one (by unfold bad8 lst8 grt8; simp; omega) (by simp; omega)]
      simp [sum8, val8]
    · split
      · rw [List.singleton_append, lng8_one (by unfold bad8 lst8 grt8; simp; omega) (by simp; omega)]
        simp [sum8, val8]
      · rw [List.singleton_append, lng8_one (by unfold bad8 lst8 grt8; simp) (by simp; omega)]
        simp [sum8, val8]
  · rw [if_neg h0, List.cons_append]
    have e16 : ¬ v = 16 := by omega
    have e17 : ¬ v = 17 := by omega
    have e18 : ¬ v = 18 := by omega
    have hb : ¬ bad8 ⟨v, 1⟩ out.length := by unfold bad8 lst8 grt8; simp [e16, e17, e18]; omega
    have hvv : val8 ⟨v, 1⟩ out = v := by unfold val8; simp [e16]; omega
    rw [lng8_one hb (by simp; omega), hvv]
    have e1 : (1 : Int).toNat = 1 := rfl
    simp only [sum8, e1]
    rw [lng8_rep rest (k - 1) (k - 1) _ (by simp) (end8_rep v out 1 (by omega)) (by simp; omega), List.append_assoc, List.replicate_append_replicate]
theorem lng8_runs : ∀ (f : Nat) (l out : List Int), (∀ z ∈ l, 0 ≤ z ∧ z ≤ 15) → l.length ≤ f → out.length + l.length ≤ 320 → lng8 (rung8 f l) out = some (out ++ l)
  | 0, l, out, _, h, _ => by
    have : l = [] := List.length_eq_zero_iff.1 (by omega)
    subst this
    simp [rung8, lng8]
  | f + 1, [], out, _, _, _ => by simp [rung8, lng8]
  | f + 1, v :: r, out, hb, hf, hl => by
    have hp : 1 ≤ pre8 v (v :: r) := by rw [pre8, if_pos rfl]; omega
    have hpl := pre8_le v (v :: r)
    have hs := row8_sum (v := v) hp
    rw [rung8, lng8_row _ out (hb v (List.mem_cons_self ..)) hp (by omega)]
    have ht := pre8_take v (v :: r) (sum8 (row8 v (pre8 v (v :: r)))) hs.2
    generalize sum8 (row8 v (pre8 v (v :: r))) = n at *
    rw [lng8_runs f ((v :: r).drop n) _ (fun z hz => hb z (List.mem_of_mem_drop hz)) (by simp only [List.length_drop, List.length_cons] at *; omega) (by simp only [List.length_append, List.length_replicate, List.length_drop, List.length_cons] at *; omega), ← ht, List.append_assoc, List.take_append_drop]
/-- P8.7. -/
theorem lens8_runs8 {l : List Int} (hb : ∀ z ∈ l, 0 ≤ z ∧ z ≤ 15) (hl : l.length ≤ 320) : lens8 (runs8 l) = some l := by
  have := lng8_runs l.length l [] hb (Nat.le_refl _) (by simpa using hl)
  simpa [lens8, runs8] using this
end Go.Proofs.YtcifalelnfeggaaGreatDoor

namespace Go.Proofs.YtcifalelnfeggaaGreatDoor
open Go.RowKit
set_option linter.unusedVariables false

/-! The two tables of package head, where the program's text lays them. -/
def snsL : List Int := [0, 1, 0, 1, 1, 0, 2, 1, 0, 3, 1, 0, 4, 1, 0, 5, 1, 0, 6, 1, 0, 7, 1, 0, 8, 1, 0, 9, 1, 0, 10, 1, 0, 11, 1, 0, 12, 1, 0, 13, 1, 0, 14, 1, 0, 15, 1, 0, -1, 3, 2, 0, 3, 3, 0, 11, 7]
def ordL : List Int := [16, 17, 18, 0, 8, 7, 9, 6, 10, 5, 11, 4, 12, 3, 13, 2, 14, 1, 15]
abbrev TabS (w : World) : Prop := SegZ w (some ⟨0, 0, none⟩) snsL
abbrev TabO (w : World) : Prop := SegZ w (some ⟨1, 0, none⟩) ordL
/-- Which length a symbol stands for, as the table has it. -/
def sln8 (s : Int) : Int := if s = 16 then -1 else if 15 < s then 0 else s
theorem sns_get : ∀ k : Fin 19, snsL.getD (k.val * 3) 0 = sln8 k.val ∧ snsL.getD (k.val * 3 + 1) 0 = lst8 k.val ∧ snsL.getD (k.val * 3 + 2) 0 = mor8 k.val := by decide
theorem TabS.at8 {w : World} (h : TabS w) (k : Nat) (hk : k < 19) : w.cell? ⟨0, k * 3, none⟩ = some (.int .i64 (sln8 k)) ∧ w.cell? ⟨0, k * 3 + 1, none⟩ = some (.int .i64 (lst8 k)) ∧ w.cell? ⟨0, k * 3 + 2, none⟩ = some (.int .i64 (mor8 k : Int)) := by
  have hl : snsL.length = 57 := rfl
  obtain ⟨e1, e2, e3⟩ := sns_get ⟨k, hk⟩
  simp only at e1 e2 e3
  refine ⟨?_, ?_, ?_⟩
  · obtain ⟨b, o, e, c⟩ := h.at_ (k * 3) (by omega)
    cases e
    rw [Nat.zero_add, e1] at c
    exact c
  · obtain ⟨b, o, e, c⟩ := h.at_ (k * 3 + 1) (by omega)
    cases e
    rw [Nat.zero_add, e2] at c
    exact c
  · obtain ⟨b, o, e, c⟩ := h.at_ (k * 3 + 2) (by omega)
    cases e
    rw [Nat.zero_add, e3] at c
    exact c
theorem TabO.at8 {w : World} (h : TabO w) (k : Nat) (hk : k < 19) : w.cell? ⟨1, k, none⟩ = some (.int .i64 (ordL.getD k 0)) := by
  obtain ⟨b, o, e, c⟩ := h.at_ k (by show k < 19; exact hk)
  cases e
  rw [Nat.zero_add] at c
  exact c
theorem grt8_lst (s : Int) (h : s ≤ 18) : grt8 s = lst8 s + 2 ^ mor8 s - 1 := by
  unfold grt8 lst8 mor8
  by_cases h1 : s = 16
  · simp [h1]
  · by_cases h2 : s = 17
    · simp [h2]
    · by_cases h3 : s = 18
      · simp [h3]
      · simp [h1, h2, h3]
end Go.Proofs.YtcifalelnfeggaaGreatDoor

namespace Go.Proofs.YtcifalelnfeggaaGreatDoor
open Go.RowKit
set_option linter.unusedVariables false

/-! Runs in memory: two cells each. The document's least, greatest, more, row. -/
structure SegN (w : World) (a : Option Addr) (R : List Rn8) : Prop where
  at_ : ∀ i, i < R.length → ∃ b off, a = some ⟨b, off, none⟩ ∧ w.cell? ⟨b, off + i * 2, none⟩ = some (.int .i64 (R.getD i ⟨0, 0⟩).sy) ∧ w.cell? ⟨b, off + i * 2 + 1, none⟩ = some (.int .i64 (R.getD i ⟨0, 0⟩).ct)
theorem SegN.old {w w' : World} {a : Option Addr} {R : List Rn8} (h : SegN w a R) (hb : Below w.heap.size w w') : SegN w' a R :=
  ⟨fun i hi => by
    obtain ⟨b, off, e, c1, c2⟩ := h.at_ i hi
    have hl := World.block_lt_of_cell? w _ c1
    exact ⟨b, off, e, (hb.cell (p := ⟨b, off + i * 2, none⟩) hl).trans c1, (hb.cell (p := ⟨b, off + i * 2 + 1, none⟩) hl).trans c2⟩⟩
def flatN (L : List Rn8) : List Value := L.flatMap fun x => [.int .i64 x.sy, .int .i64 x.ct]
theorem flatN_app (l r : List Rn8) : flatN (l ++ r) = flatN l ++ flatN r := by unfold flatN; rw [List.flatMap_append]
theorem flatN_get : ∀ (l : List Rn8) (k : Nat) (x : Rn8), l[k]? = some x → (flatN l)[k * 2]? = some (.int .i64 x.sy) ∧ (flatN l)[k * 2 + 1]? = some (.int .i64 x.ct)
  | [], k, x, h => by simp at h
  | t :: r, 0, x, h => by
    simp at h
    subst h
    simp [flatN]
  | t :: r, k + 1, x, h => by
    have := flatN_get r k x (by simpa using h)
    have e : flatN (t :: r) = .int .i64 t.sy :: .int .i64 t.ct :: flatN r := rfl
    rw [e, show (k + 1) * 2 = k * 2 + 1 + 1 by omega]
    simpa [List.getElem?_cons_succ, show k * 2 + 1 + 1 + 1 = (k * 2 + 1) + 1 + 1 by omega] using this
theorem own_segN {w : World} {base n cap : Nat} {e : TypeId} {b : Option Addr} {l : List Rn8} (h : w.ownsRow base e 2 (.slice b n cap) n (flatN l)) (hl : l.length = n) : SegN w b l := by
  refine ⟨fun k hk => ?_⟩
  rcases h.2 with ⟨_, h0⟩ | ⟨g, cp, cur, hv, _⟩
  · omega
  simp only [Value.slice.injEq] at hv
  obtain ⟨rfl, _, rfl⟩ := hv
  have hc : ∀ j u, (flatN l)[j]? = some u → w.cell? ⟨g, j, none⟩ = some u := by
    intro j u hu
    have := h.cells (g := g) rfl j u hu
    have hadd : (⟨g, 0, none⟩ : Addr).add j = ⟨g, j, none⟩ := by unfold Addr.add; split <;> simp_all
    rwa [hadd] at this
  have hg : l[k]? = some (l.getD k ⟨0, 0⟩) := by simp [List.getD, show k < l.length by omega]
  obtain ⟨q0, q1⟩ := flatN_get l k _ hg
  exact ⟨g, 0, rfl, by rw [Nat.zero_add]; exact hc _ _ q0, by rw [Nat.zero_add]; exact hc _ _ q1⟩
theorem own_belowN {w w' : World} {base n sz : Nat} {e : TypeId} {v : Value} {xs : List Value} (h : w.ownsRow base e sz v n xs) (hb : Below w.heap.size w w') : w'.ownsRow base e sz v n xs := by
  refine ⟨h.1, ?_⟩
  rcases h.2 with h | ⟨g, cap, cur, h1, h2, h3, h4⟩
  · exact .inl h
  · exact .inr ⟨g, cap, cur, h1, h2, (hb.block g (Array.getElem?_eq_some_iff.1 h3).1).trans h3, h4⟩
theorem own_baseN {w : World} {base base' n sz : Nat} {e : TypeId} {v : Value} {xs : List Value} (h : w.ownsRow base e sz v n xs) (hb : base' ≤ base) : w.ownsRow base' e sz v n xs := by
  refine ⟨h.1, ?_⟩
  rcases h.2 with h | ⟨g, cap, cur, h1, h2, h3⟩
  · exact .inl h
  · exact .inr ⟨g, cap, cur, h1, Nat.le_trans hb h2, h3⟩
/-- A row of one run that was just made. -/
theorem own_oneN (w : World) (e : TypeId) (x : Rn8) : (w.alloc (.cells #[.int .i64 x.sy, .int .i64 x.ct] e)).ownsRow w.heap.size e 2 (.slice (some ⟨w.heap.size, 0, none⟩) 1 1) 1 (flatN [x]) :=
  ⟨rfl, .inr ⟨w.heap.size, 1, _, rfl, Nat.le_refl _, heap_alloc_new w _, Nat.le_refl _, by unfold maxLen; omega, rfl, rfl⟩⟩
/-- A run behind a row of the call's own. -/
theorem wpList_appN {P : Program} {ops : Array Oper} {rest : List Oper} {o : Oper} {a : Act} {Q : Exit → Act → World → Prop} (hgd : o.guard = none) (s x : Operand) (t : TypeId)
    (ho : o.op = .call { callee := .builtin .append, args := #[s, x], argTypes := #[t, t] })
    (base : Nat) (e : TypeId) (i : TypeInfo) (z : Value) (bytes : Nat) (ht : P.underlying t = some (.slice e)) (hi : P.info? e = some i) (hz : i.zero = some z)
    (hsize : i.size = 2) (hby : i.bytes = bytes) (hzs : z.cells.size = 2) (w0 : World) (y : Rn8)
    {ra : Option Addr} {n rc : Nat} {l : List Rn8} (hown : w0.ownsRow base e 2 (.slice ra n rc) n (flatN l)) (hs : a.eval s = .slice ra n rc) (hx : a.eval x = .slice (some ⟨w0.heap.size, 0, none⟩) 1 1)
    (h63 : n + 1 ≤ 140737488355328) (hbytes : (n + 1) * bytes ≤ 140737488355328) (hbase : base ≤ w0.heap.size)
    (h : ∀ (g : Nat) (c : Nat) (w' : World), w'.ownsRow base e 2 (.slice (some ⟨g, 0, none⟩) (n + 1) c) (n + 1) (flatN (l ++ [y])) → Kp (fun k => (Value.slice ra n rc).ownBlock = some k) w0 w' → ((Value.slice ra n rc).ownBlock = some g ∨ g = w0.heap.size + 1) → wpList P ops Q rest (a.put o.dst (.slice (some ⟨g, 0, none⟩) (n + 1) c)) w') : wpList P ops Q (o :: rest) a (w0.alloc (.cells #[.int .i64 y.sy, .int .i64 y.ct] e)) := by
  have hnew : ∀ j u, ([.int .i64 y.sy, .int .i64 y.ct] : List Value)[j]? = some u → (w0.alloc (.cells #[.int .i64 y.sy, .int .i64 y.ct] e)).cell? ((⟨w0.heap.size, 0, none⟩ : Addr).add j) = some u := by
    intro j u hu
    have hadd : (⟨w0.heap.size, 0, none⟩ : Addr).add j = ⟨w0.heap.size, j, none⟩ := by unfold Addr.add; split <;> simp_all
    rw [hadd]
    have hh := heap_alloc_new w0 (.cells #[.int .i64 y.sy, .int .i64 y.ct] e)
    simp only [World.cell?, hh]
    simpa using hu
  refine wpList_append_lies _ hgd s x t ho base e i z 2 bytes ht hi hz hsize hby hzs (by decide) _ n (flatN l) hs (hown.alloc _) ⟨w0.heap.size, 0, none⟩ 1 1 [.int .i64 y.sy, .int .i64 y.ct] hx rfl hnew (by intro u hu; simp only [List.mem_cons, List.not_mem_nil, or_false] at hu; rcases hu with rfl | rfl <;> rfl) (by decide) (by unfold maxLen; omega) hbytes (by simp; omega) (w0.heap.size + 1) (by simp) ?_
  intro g c w' h1 h2 h3 _
  refine h g c w' (by rw [flatN_app]; exact h1) ?_ h3
  exact (Kp.alloc w0 _).trans (Kp.grown (S := fun k => (Value.slice ra n rc).ownBlock = some k) h2 (fun i e => e)) (fun _ _ e => e)
theorem info_run8 : (Tryz.prog.info? 148).map (fun i => (i.zero, i.size, i.bytes)) = some (some (.agg #[.int .i64 0, .int .i64 0]), 2, 16) := by kernel_rfl
set_option maxRecDepth 100000 in
theorem rleast8 (s : Int) (w : World) : Calls Tryz.prog 88 #[.int .i64 s] w fun e w' => e = .returned (.int .i64 (lst8 s)) ∧ w' = w := by
  unfold lst8
  by_cases h1 : s = 16
  · rw [if_pos (.inl h1)]
    subst h1
    go_enter Tryz.func88, Tryz.ntmps88
    go_wp2_with fail
    go_ret
    exact ⟨rfl, rfl⟩
  · by_cases h2 : s = 17
    · rw [if_pos (.inr h2)]
      subst h2
      go_enter Tryz.func88, Tryz.ntmps88
      go_wp2_with fail
      go_ret
      exact ⟨rfl, rfl⟩
    · rw [if_neg (by omega)]
      by_cases h3 : s = 18
      · rw [if_pos h3]
        subst h3
        go_enter Tryz.func88, Tryz.ntmps88
        go_wp2_with fail
        go_ret
        exact ⟨rfl, rfl⟩
      · rw [if_neg h3]
        have b1 : (s == 16) = false := by simp [h1]
        have b2 : (s == 17) = false := by simp [h2]
        go_enter Tryz.func88, Tryz.ntmps88
        go_wp2_with fail
        go_ret
        exact ⟨rfl, rfl⟩
set_option maxRecDepth 100000 in
theorem rmore8 (s : Int) (w : World) : Calls Tryz.prog 89 #[.int .i64 s] w fun e w' => e = .returned (.int .i64 (mor8 s : Int)) ∧ w' = w := by
  unfold mor8
  by_cases h1 : s = 16
  · rw [if_pos h1]
    subst h1
    go_enter Tryz.func89, Tryz.ntmps89
    go_wp2_with fail
    go_ret
    exact ⟨rfl, rfl⟩
  · rw [if_neg h1]
    by_cases h2 : s = 17
    · rw [if_pos h2]
      subst h2
      go_enter Tryz.func89, Tryz.ntmps89
      go_wp2_with fail
      go_ret
      exact ⟨rfl, rfl⟩
    · rw [if_neg h2]
      by_cases h3 : s = 18
      · rw [if_pos h3]
        subst h3
        go_enter Tryz.func89, Tryz.ntmps89
        go_wp2_with fail
        go_ret
        exact ⟨rfl, rfl⟩
      · rw [if_neg h3]
        go_enter Tryz.func89, Tryz.ntmps89
        go_wp2_with fail
        go_ret
        exact ⟨rfl, rfl⟩
end Go.Proofs.YtcifalelnfeggaaGreatDoor

namespace Go.Proofs.YtcifalelnfeggaaGreatDoor
open Go.RowKit
set_option linter.unusedVariables false

/-! The document's row, Runs. -/
theorem rep8_fuel : ∀ (f g k : Nat), k ≤ f → k ≤ g → rep8 f k = rep8 g k
  | 0, 0, k, _, _ => rfl
  | 0, g + 1, k, h, _ => by rw [rep8, rep8, if_neg (by omega)]
  | f + 1, 0, k, _, h => by rw [rep8, rep8, if_neg (by omega)]
  | f + 1, g + 1, k, h1, h2 => by
    rw [rep8, rep8]
    split
    · rw [rep8_fuel f g (k - min k 6) (by omega) (by omega)]
    · rfl
theorem rep8_step {k : Nat} (h : 3 ≤ k) : rep8 k k = ⟨16, (min k 6 : Nat)⟩ :: rep8 (k - min k 6) (k - min k 6) := by
  rw [show k = (k - 1) + 1 by omega, rep8, if_pos (by omega), rep8_fuel (k - 1) (k - 1 + 1 - min (k - 1 + 1) 6) _ (by omega) (by omega)]
theorem rep8_stop {k : Nat} (h : ¬ 3 ≤ k) : rep8 k k = [] := by
  cases k with
  | zero => rfl
  | succ k => rw [rep8, if_neg h]
def NQ (w : World) (ty : TypeId) (R : List Rn8) (e : Ending) (w' : World) : Prop := ∃ oa oc, e = .returned (.slice oa R.length oc) ∧ w'.ownsRow w.heap.size ty 2 (.slice oa R.length oc) R.length (flatN R) ∧ Below w.heap.size w w'
set_option maxRecDepth 100000 in
set_option maxHeartbeats 2000000 in
theorem rrow8 (v : Int) (k : Nat) (hk : 1 ≤ k) (hkb : k ≤ 1048576) (w : World) : Calls Tryz.prog 113 #[.int .i64 v, .int .i64 (k : Int)] w (NQ w 148 (row8 v k)) := by
  obtain ⟨i0, hi, hz0, hz1, hz2⟩ := info_parts info_run8
  have hone : ∀ x : Rn8, ∀ W, W = w.alloc (.cells #[.int .i64 x.sy, .int .i64 x.ct] 148) → NQ w 148 [x] (.returned (.slice (some ⟨w.heap.size, 0, none⟩) 1 1)) W := fun x W e => by
    subst e
    exact ⟨_, 1, rfl, own_oneN w _ x, (Below.refl _ _).alloc (Nat.le_refl _) _⟩
  have HONE : Hid (∀ x : Rn8, ∀ W, W = w.alloc (.cells #[.int .i64 x.sy, .int .i64 x.ct] 148) → NQ w 148 [x] (.returned (.slice (some ⟨w.heap.size, 0, none⟩) 1 1)) W) := hone
  clear hone
  unfold row8
  by_cases h0 : v = 0
  · rw [if_pos h0]
    subst h0
    by_cases h1 : 11 ≤ k
    · rw [if_pos h1]
      have h1i : 11 ≤ (k : Int) := by omega
      by_cases h2 : 138 < k
      · have h2i : 138 < (k : Int) := by omega
        have hm : min k 138 = 138 := by omega
        rw [hm]
        go_enter Tryz.func113, Tryz.ntmps113
        go_wp2_with fail
        go_ret
        exact HONE.out ⟨18, 138⟩ _ rfl
      · have h2i : ¬ 138 < (k : Int) := by omega
        have hm : min k 138 = k := by omega
        rw [hm]
        go_enter Tryz.func113, Tryz.ntmps113
        go_wp2_with fail
        go_ret
        exact HONE.out ⟨18, k⟩ _ rfl
    · rw [if_neg h1]
      have h1i : ¬ 11 ≤ (k : Int) := by omega
      by_cases h2 : 3 ≤ k
      · rw [if_pos h2]
        have h2i : 3 ≤ (k : Int) := by omega
        go_enter Tryz.func113, Tryz.ntmps113
        go_wp2_with fail
        go_ret
        exact HONE.out ⟨17, k⟩ _ rfl
      · rw [if_neg h2]
        have h2i : ¬ 3 ≤ (k : Int) := by omega
        go_enter Tryz.func113, Tryz.ntmps113
        go_wp2_with fail
        go_ret
        exact HONE.out ⟨0, 1⟩ _ rfl
  · rw [if_neg h0]
    have hb0 : (v == 0) = false := by simp [h0]
    have hw1 : IntKind.i64.wrap ((k : Int) - 1) = ((k - 1 : Nat) : Int) := by rw [IntWalk.i64_in _ (by omega)]; omega
    obtain ⟨k1, hk1⟩ : ∃ k1, k1 = k - 1 := ⟨_, rfl⟩
    rw [← hk1] at hw1 ⊢
    have hki : (k : Int) - 1 = (k1 : Int) := by omega
    have own0 := own_oneN w 148 ⟨v, 1⟩
    have b0 : Below w.heap.size w (w.alloc (.cells #[.int .i64 v, .int .i64 1] 148)) := (Below.refl _ _).alloc (Nat.le_refl _) _
    have HO : Hid ((w.alloc (.cells #[.int .i64 v, .int .i64 1] 148)).ownsRow w.heap.size 148 2 (.slice (some ⟨w.heap.size, 0, none⟩) 1 1) 1 (flatN [⟨v, 1⟩])) := own0
    clear hk1 own0 HONE
    go_enter Tryz.func113, Tryz.ntmps113
    go_wp2_with fail
    go_loopw [1, 5] (fun t1 t5 wr => ∃ (j m oc : Nat) (oa : Option Addr) (R : List Rn8), j ≤ k1 ∧ t1 = .int .i64 (j : Int) ∧ t5 = .slice oa m oc ∧ R.length = m ∧ m + j ≤ k1 + 1 ∧ ⟨v, 1⟩ :: rep8 k1 k1 = R ++ rep8 j j ∧ wr.ownsRow w.heap.size 148 2 (.slice oa m oc) m (flatN R) ∧ Below w.heap.size w wr) (fun t1 _ _ => (intOf t1).toNat)
    case atStart => exact ⟨k1, 1, 1, _, [⟨v, 1⟩], by omega, rfl, rfl, rfl, by omega, rfl, HO.out, b0⟩
    case round =>
      clear HO b0
      obtain ⟨j, m, oc, oa, R, hjk, rfl, rfl, hRl, hmj, hrep, OO, BR⟩ := hrel
      have HRL : Hid (R.length = m) := hRl
      have HRP : Hid (⟨v, 1⟩ :: rep8 k1 k1 = R ++ rep8 j j) := hrep
      clear hRl hrep
      by_cases h3 : 3 ≤ j
      · have h3i : 3 ≤ (j : Int) := by omega
        obtain ⟨q, hq⟩ : ∃ q, q = min j 6 := ⟨_, rfl⟩
        have HST : Hid (rep8 j j = ⟨16, q⟩ :: rep8 (j - q) (j - q)) := by show _ = _; rw [rep8_step h3, ← hq]
        have hw2 : IntKind.i64.wrap ((j : Int) - (q : Int)) = ((j - q : Nat) : Int) := by rw [IntWalk.i64_in _ (by omega)]; omega
        obtain ⟨jq, hjq⟩ : ∃ jq, jq = j - q := ⟨_, rfl⟩
        rw [← hjq] at hw2 HST
        have hji : (j : Int) - (q : Int) = (jq : Int) := by omega
        have hsz := BR.size
        by_cases h6 : 6 < j
        · have h6i : 6 < (j : Int) := by omega
          obtain rfl : q = 6 := by omega
          have hjl : jq < j ∧ m + 1 + jq ≤ k1 + 1 := by omega
          have hw6 : IntKind.i64.wrap ((j : Int) - 6) = (jq : Int) := hw2
          have hj6 : (j : Int) - 6 = (jq : Int) := by omega
          clear hq hjq
          go_wp2_with (first | (at_builtin; refine wpList_appN rfl (.tmp 33) (.tmp 36) 144 rfl w.heap.size 148 i0 _ 16 Tryz.underlying144 hi hz0 hz1 hz2 rfl wr ⟨16, 6⟩ OO rfl rfl (by omega) (by omega) hsz ?_; intro ga gc w3 own3 hk3 hat3))
          have B3 : Below w.heap.size w w3 := BR.trans (hk3.below (fun q e => (OO.lt q e).1) hsz)
          have HR3 : Hid (⟨v, 1⟩ :: rep8 k1 k1 = (R ++ [⟨16, 6⟩]) ++ rep8 jq jq) := by show _ = _; rw [HRP.out, HST.out, List.append_assoc]; rfl
          have HL3 : Hid ((R ++ [(⟨16, 6⟩ : Rn8)]).length = m + 1) := by show _ = _; rw [List.length_append, HRL.out]; rfl
          clear HRP HST hk3 hat3
          go_wp2_with fail
          go_roundw
          case rel => exact ⟨jq, m + 1, gc, _, R ++ [⟨16, 6⟩], by omega, rfl, rfl, HL3.out, by omega, HR3.out, own3, B3⟩
          case measure => simp [intOf]; omega
        · have h6i : ¬ 6 < (j : Int) := by omega
          obtain rfl : q = j := by omega
          obtain rfl : jq = 0 := by omega
          clear hq hjq
          go_wp2_with (first | (at_builtin; refine wpList_appN rfl (.tmp 33) (.tmp 36) 144 rfl w.heap.size 148 i0 _ 16 Tryz.underlying144 hi hz0 hz1 hz2 rfl wr ⟨16, q⟩ OO rfl rfl (by omega) (by omega) hsz ?_; intro ga gc w3 own3 hk3 hat3))
          have B3 : Below w.heap.size w w3 := BR.trans (hk3.below (fun q e => (OO.lt q e).1) hsz)
          have HR3 : Hid (⟨v, 1⟩ :: rep8 k1 k1 = (R ++ [⟨16, q⟩]) ++ rep8 0 0) := by show _ = _; rw [HRP.out, HST.out, List.append_assoc]; rfl
          have HL3 : Hid ((R ++ [(⟨16, q⟩ : Rn8)]).length = m + 1) := by show _ = _; rw [List.length_append, HRL.out]; rfl
          clear HRP HST hk3 hat3
          go_wp2_with fail
          go_roundw
          case rel => exact ⟨0, m + 1, gc, _, R ++ [⟨16, q⟩], by omega, by simp, rfl, HL3.out, by omega, HR3.out, own3, B3⟩
          case measure => simp [intOf]; omega
      · have h3i : ¬ 3 ≤ (j : Int) := by omega
        have HE : Hid (⟨v, 1⟩ :: rep8 k1 k1 = R) := by show _ = _; rw [HRP.out, rep8_stop h3, List.append_nil]
        clear HRP
        go_wp2_with fail
        go_ret
        refine ⟨oa, oc, ?_, ?_, BR⟩
        · rw [HE.out, HRL.out]; rfl
        · rw [HE.out, HRL.out]; exact OO
end Go.Proofs.YtcifalelnfeggaaGreatDoor

namespace Go.Proofs.YtcifalelnfeggaaGreatDoor
open Go.RowKit
set_option linter.unusedVariables false

/-! The document's Runs. -/
theorem pre8_iff (v : Int) : ∀ (l : List Int) (k : Nat), k ≤ pre8 v l ↔ k ≤ l.length ∧ ∀ j, j < k → l.getD j 0 = v
  | [], k => by
    rw [pre8]
    constructor
    · intro h; exact ⟨h, fun j hj => by omega⟩
    · intro h; exact h.1
  | x :: r, 0 => by simp
  | x :: r, k + 1 => by
    rw [pre8]
    by_cases e : x = v
    · rw [if_pos e]
      have ih := pre8_iff v r k
      constructor
      · intro h
        obtain ⟨h1, h2⟩ := ih.1 (by omega)
        refine ⟨by simp; omega, fun j hj => ?_⟩
        cases j with
        | zero => simpa using e
        | succ j => simpa using h2 j (by omega)
      · rintro ⟨h1, h2⟩
        have := ih.2 ⟨by simp at h1; omega, fun j hj => by simpa using h2 (j + 1) (by omega)⟩
        omega
    · rw [if_neg e]
      constructor
      · intro h; omega
      · rintro ⟨_, h2⟩
        exact absurd (by simpa using h2 0 (by omega)) e
theorem rung8_fuel : ∀ (f g : Nat) (l : List Int), l.length ≤ f → l.length ≤ g → rung8 f l = rung8 g l
  | 0, 0, l, _, _ => rfl
  | 0, g + 1, l, h, _ => by
    have : l = [] := List.length_eq_zero_iff.1 (by omega)
    subst this
    rfl
  | f + 1, 0, l, _, h => by
    have : l = [] := List.length_eq_zero_iff.1 (by omega)
    subst this
    rfl
  | f + 1, g + 1, [], _, _ => rfl
  | f + 1, g + 1, v :: r, h1, h2 => by
    have hp : 1 ≤ pre8 v (v :: r) := by rw [pre8, if_pos rfl]; omega
    have hs := row8_sum (v := v) hp
    rw [rung8, rung8, rung8_fuel f g _ (by simp only [List.length_drop, List.length_cons] at *; omega) (by simp only [List.length_drop, List.length_cons] at *; omega)]
theorem rung8_at {zs : List Int} {i : Nat} (h : i < zs.length) : rung8 (zs.length - i) (zs.drop i) = row8 (zs.getD i 0) (pre8 (zs.getD i 0) (zs.drop i)) ++ rung8 (zs.length - (i + sum8 (row8 (zs.getD i 0) (pre8 (zs.getD i 0) (zs.drop i))))) (zs.drop (i + sum8 (row8 (zs.getD i 0) (pre8 (zs.getD i 0) (zs.drop i))))) := by
  have hd : zs.drop i = zs.getD i 0 :: zs.drop (i + 1) := by rw [List.drop_eq_getElem_cons h]; simp [List.getD, h]
  have hp : 1 ≤ pre8 (zs.getD i 0) (zs.drop i) := by rw [hd, pre8, if_pos rfl]; omega
  have hs := row8_sum (v := zs.getD i 0) hp
  have e : rung8 (zs.length - i) (zs.drop i) = row8 (zs.getD i 0) (pre8 (zs.getD i 0) (zs.drop i)) ++ rung8 (zs.length - i - 1) ((zs.drop i).drop (sum8 (row8 (zs.getD i 0) (pre8 (zs.getD i 0) (zs.drop i))))) := by
    have hf : zs.length - i = (zs.length - i - 1) + 1 := by omega
    rw [hf]
    conv => lhs; rw [hd]
    rw [rung8, ← hd]
    rfl
  rw [e, List.drop_drop, rung8_fuel (zs.length - i - 1) (zs.length - (i + sum8 (row8 (zs.getD i 0) (pre8 (zs.getD i 0) (zs.drop i))))) _ (by simp only [List.length_drop]; omega) (by simp only [List.length_drop]; omega)]
def may8 (zs : List Int) : Prop := zs.length ≤ 320 ∧ ∀ z ∈ zs, 0 ≤ z ∧ z ≤ 15
instance (zs : List Int) : Decidable (may8 zs) := by unfold may8; infer_instance
def rns8 (zs : List Int) : List Rn8 := if may8 zs then runs8 zs else []
def rer8 (zs : List Int) : Int := if may8 zs then 0 else 80
theorem sum8_take : ∀ (R : List Rn8) (x : Nat), x < R.length → sum8 (R.take (x + 1)) = sum8 (R.take x) + (R.getD x ⟨0, 0⟩).ct.toNat
  | [], x, h => by simp at h
  | r :: R, 0, _ => by simp [sum8]
  | r :: R, x + 1, h => by
    have := sum8_take R x (by simpa using h)
    simp only [List.take_succ_cons, sum8] at *
    rw [this]
    simp [List.getD]
    omega
theorem row8_ct (v : Int) (k : Nat) (hk : 1 ≤ k) : ∀ r ∈ row8 v k, 1 ≤ r.ct ∧ r.ct ≤ k := by
  have hrep : ∀ f j, ∀ r ∈ rep8 f j, 1 ≤ r.ct ∧ r.ct ≤ (j : Int) := by
    intro f
    induction f with
    | zero => intro j r h; simp [rep8] at h
    | succ f ih =>
      intro j r h
      rw [rep8] at h
      split at h
      · rcases List.mem_cons.1 h with rfl | h
        · simp only; omega
        · have := ih _ r h; omega
      · simp at h
  intro r h
  unfold row8 at h
  split at h
  · split at h
    · simp at h; subst h; simp only; omega
    · split at h
      · simp at h; subst h; simp only; omega
      · simp at h; subst h; simp only; omega
  · rcases List.mem_cons.1 h with rfl | h
    · simp only; omega
    · have := hrep _ _ r h; omega
theorem sum8_len : ∀ (R : List Rn8), (∀ r ∈ R, 1 ≤ r.ct) → R.length ≤ sum8 R
  | [], _ => by simp
  | r :: R, h => by
    have h1 := h r (by simp)
    have := sum8_len R fun x hx => h x (by simp [hx])
    simp only [sum8, List.length_cons]
    omega
theorem sum8_takele : ∀ (R : List Rn8) (x : Nat), sum8 (R.take x) ≤ sum8 R
  | [], x => by simp
  | r :: R, 0 => by simp [sum8]
  | r :: R, x + 1 => by
    have := sum8_takele R x
    simp only [List.take_succ_cons, sum8]
    omega
theorem take_snocN {R : List Rn8} {x : Nat} (h : x < R.length) : R.take (x + 1) = R.take x ++ [R.getD x ⟨0, 0⟩] := by
  rw [List.take_succ_eq_append_getElem h]; simp [List.getD, h]
theorem may8_at {zs : List Int} {i : Nat} (hi : i < zs.length) (h : may8 zs) : 0 ≤ zs.getD i 0 ∧ zs.getD i 0 ≤ 15 := h.2 _ (by simp [List.getD, hi])
theorem may8_all {zs : List Int} (hl : zs.length ≤ 320) (h : ∀ j, j < zs.length → 0 ≤ zs.getD j 0 ∧ zs.getD j 0 ≤ 15) : may8 zs := ⟨hl, fun z hz => by
  obtain ⟨i, hi, rfl⟩ := List.mem_iff_getElem.1 hz
  have := h i hi
  simpa [List.getD, hi] using this⟩
end Go.Proofs.YtcifalelnfeggaaGreatDoor

namespace Go.Proofs.YtcifalelnfeggaaGreatDoor
set_option linter.unusedVariables false

/-! Layer 8: what the runs of lengths are like. -/
def ok8 (r : Rn8) : Prop := 0 ≤ r.sy ∧ r.sy ≤ 18 ∧ lst8 r.sy ≤ r.ct ∧ r.ct ≤ grt8 r.sy
theorem rep8_ok : ∀ (f k : Nat), ∀ r ∈ rep8 f k, ok8 r
  | 0, k, r, h => by simp [rep8] at h
  | f + 1, k, r, h => by
    rw [rep8] at h
    split at h
    · rcases List.mem_cons.1 h with rfl | h
      · unfold ok8 lst8 grt8
        simp
        omega
      · exact rep8_ok f _ r h
    · simp at h
theorem row8_ok {v : Int} {k : Nat} (hv : 0 ≤ v ∧ v ≤ 15) (hk : 1 ≤ k) : ∀ r ∈ row8 v k, ok8 r := by
  intro r h
  unfold row8 at h
  split at h
  · split at h
    · simp at h; subst h; unfold ok8 lst8 grt8; simp; omega
    · split at h
      · simp at h; subst h; unfold ok8 lst8 grt8; simp; omega
      · simp at h; subst h; unfold ok8 lst8 grt8; simp
  · rcases List.mem_cons.1 h with rfl | h
    · have e16 : ¬ v = 16 := by omega
      have e17 : ¬ v = 17 := by omega
      have e18 : ¬ v = 18 := by omega
      unfold ok8 lst8 grt8
      simp [e16, e17, e18]
      omega
    · exact rep8_ok _ _ r h
theorem row8_len {v : Int} {k : Nat} (hk : 1 ≤ k) : (row8 v k).length ≤ sum8 (row8 v k) := sum8_len _ fun r hr => (row8_ct v k hk r hr).1
theorem rung8_ok : ∀ (f : Nat) (l : List Int), (∀ z ∈ l, 0 ≤ z ∧ z ≤ 15) → (∀ r ∈ rung8 f l, ok8 r) ∧ (rung8 f l).length ≤ l.length
  | 0, l, _ => by simp [rung8]
  | f + 1, [], _ => by simp [rung8]
  | f + 1, v :: t, h => by
    have hp : 1 ≤ pre8 v (v :: t) := by rw [pre8, if_pos rfl]; omega
    have hs := row8_sum (v := v) hp
    have hl := row8_len (v := v) hp
    have hpl := pre8_le v (v :: t)
    obtain ⟨i1, i2⟩ := rung8_ok f ((v :: t).drop (sum8 (row8 v (pre8 v (v :: t))))) fun z hz => h z (List.mem_of_mem_drop hz)
    rw [List.length_drop] at i2
    rw [rung8]
    refine ⟨fun r hr => ?_, ?_⟩
    · rcases List.mem_append.1 hr with hr | hr
      · exact row8_ok (h v (by simp)) hp r hr
      · exact i1 r hr
    · rw [List.length_append]
      omega
/-- The runs of lengths that may be: symbols 0 to 18, each count within its bounds; no more runs than lengths. -/
theorem runs8_ok {zs : List Int} (h : may8 zs) : (∀ r ∈ runs8 zs, ok8 r) ∧ (runs8 zs).length ≤ zs.length := rung8_ok zs.length zs h.2
theorem rns8_ok (zs : List Int) : (∀ r ∈ rns8 zs, ok8 r) ∧ (rns8 zs).length ≤ 320 := by
  unfold rns8
  split
  · rename_i h
    have h1 := runs8_ok h
    have h2 := h.1
    exact ⟨h1.1, by omega⟩
  · exact ⟨by simp, by simp⟩
theorem end8_mem : ∀ (l : List Int), 0 < l.length → end8 l ∈ l
  | [], h => by simp at h
  | [x], _ => by simp [end8]
  | x :: y :: r, _ => by
    have := end8_mem (y :: r) (by simp)
    rw [end8]
    · exact List.mem_cons_of_mem _ this
    · intro h; cases h
/-- Lengths that runs say: within 0 to 15, no more than 320. -/
theorem lng8_bd : ∀ (R : List Rn8) (out l : List Int), lng8 R out = some l → (∀ z ∈ out, 0 ≤ z ∧ z ≤ 15) → out.length ≤ 320 → (∀ z ∈ l, 0 ≤ z ∧ z ≤ 15) ∧ l.length ≤ 320
  | [], out, l, h, hb, hl => by
    rw [lng8] at h
    cases h
    exact ⟨hb, hl⟩
  | r :: R, out, l, h, hb, hl => by
    rw [lng8] at h
    split at h
    · cases h
    · rename_i hbad
      split at h
      · cases h
      · rename_i hlen
        refine lng8_bd R _ l h (fun z hz => ?_) (by omega)
        rcases List.mem_append.1 hz with hz | hz
        · exact hb z hz
        · rw [List.eq_of_mem_replicate hz]
          unfold val8
          unfold bad8 at hbad
          split
          · rename_i h16
            have hne : 0 < out.length := by
              by_cases e : out.length = 0
              · exact absurd (.inr (.inr (.inr (.inr ⟨h16, e⟩)))) hbad
              · omega
            exact hb _ (end8_mem out hne)
          · split <;> omega
theorem lens8_bd {R : List Rn8} {l : List Int} (h : lens8 R = some l) : (∀ z ∈ l, 0 ≤ z ∧ z ≤ 15) ∧ l.length ≤ 320 := lng8_bd R [] l h (by simp) (by simp)
end Go.Proofs.YtcifalelnfeggaaGreatDoor

namespace Go.Proofs.YtcifalelnfeggaaGreatDoor
set_option linter.unusedVariables false

/-! Layer 8: the program's own way to runs: a length that stands there k times, run by run. -/
def led8 (v : Int) (k : Nat) (again : Bool) : Rn8 := if v = 0 ∧ 11 ≤ k then ⟨18, (min k 138 : Nat)⟩ else if v = 0 ∧ 3 ≤ k then ⟨17, (min k 10 : Nat)⟩ else if ¬ v = 0 ∧ again = true ∧ 3 ≤ k then ⟨16, (min k 6 : Nat)⟩ else ⟨v, 1⟩
theorem led8_ct (v : Int) {k : Nat} (hk : 1 ≤ k) (again : Bool) : 1 ≤ (led8 v k again).ct ∧ (led8 v k again).ct ≤ k := by
  unfold led8
  split
  · simp only; omega
  · split
    · simp only; omega
    · split
      · simp only; omega
      · simp only; omega
def spd8 : Nat → Int → Nat → Bool → List Rn8
  | 0, _, _, _ => []
  | f + 1, v, k, again => if k = 0 then [] else led8 v k again :: spd8 f v (k - (led8 v k again).ct.toNat) true
theorem spd8_fuel (v : Int) : ∀ (f g k : Nat) (again : Bool), k ≤ f → k ≤ g → spd8 f v k again = spd8 g v k again
  | 0, 0, k, again, _, _ => rfl
  | 0, g + 1, k, again, h, _ => by rw [spd8, spd8, if_pos (by omega)]
  | f + 1, 0, k, again, _, h => by rw [spd8, spd8, if_pos (by omega)]
  | f + 1, g + 1, k, again, h1, h2 => by
    rw [spd8, spd8]
    split
    · rfl
    · have := led8_ct v (k := k) (by omega) again
      rw [spd8_fuel v f g _ true (by omega) (by omega)]
theorem spd8_zero (f : Nat) (k : Nat) : spd8 f 0 k true = spd8 f 0 k false := by
  cases f with
  | zero => rfl
  | succ f =>
    have e : led8 0 k true = led8 0 k false := by simp [led8]
    rw [spd8, spd8, e]
theorem pre8_rep (v : Int) (rest : List Int) (hr : rest.head? ≠ some v) : ∀ k, pre8 v (List.replicate k v ++ rest) = k
  | 0 => by
    cases rest with
    | nil => rfl
    | cons x r =>
      have : ¬ x = v := fun e => hr (by simp [e])
      simp [pre8, this]
  | k + 1 => by
    rw [List.replicate_succ, List.cons_append, pre8, if_pos rfl, pre8_rep v rest hr k]
/-- A step of the document's runs at k lengths v. -/
theorem rung8_rep {v : Int} {rest : List Int} (hr : rest.head? ≠ some v) {k : Nat} (hk : 1 ≤ k) (f : Nat) (hf : k + rest.length ≤ f) :
    rung8 f (List.replicate k v ++ rest) = row8 v k ++ rung8 f (List.replicate (k - sum8 (row8 v k)) v ++ rest) := by
  obtain ⟨f, rfl⟩ : ∃ g, f = g + 1 := ⟨f - 1, by omega⟩
  obtain ⟨k, rfl⟩ : ∃ j, k = j + 1 := ⟨k - 1, by omega⟩
  have hs := row8_sum (v := v) hk
  have hp := pre8_rep v rest hr (k + 1)
  have hd : (List.replicate (k + 1) v ++ rest).drop (sum8 (row8 v (k + 1))) = List.replicate (k + 1 - sum8 (row8 v (k + 1))) v ++ rest := by
    rw [List.drop_append_of_le_length (by simpa using hs.2), List.drop_replicate]
  have e : List.replicate (k + 1) v ++ rest = v :: (List.replicate k v ++ rest) := by rw [List.replicate_succ, List.cons_append]
  rw [e] at hp hd
  rw [e, rung8, hp, hd, rung8_fuel f (f + 1) _ (by simp; omega) (by simp; omega)]
theorem led8_more {v : Int} (hv : ¬ v = 0) {j : Nat} (hj : 3 ≤ j) : led8 v j true = ⟨16, (min j 6 : Nat)⟩ := by unfold led8; simp [hv, hj]
theorem led8_less {v : Int} (hv : ¬ v = 0) {j : Nat} (hj : ¬ 3 ≤ j) (b : Bool) : led8 v j b = ⟨v, 1⟩ := by unfold led8; simp [hv, hj]
theorem led8_first {v : Int} (hv : ¬ v = 0) (j : Nat) : led8 v j false = ⟨v, 1⟩ := by unfold led8; simp [hv]
/-- What stands behind the first run of a length that is not nought. -/
theorem spd8_rep {v : Int} (hv : ¬ v = 0) : ∀ (f j : Nat), j ≤ f → spd8 f v j true = rep8 f j ++ spd8 f v (j - sum8 (rep8 f j)) true ∧ j - sum8 (rep8 f j) < 3
  | 0, j, h => by simp [spd8, rep8, sum8]; omega
  | f + 1, j, h => by
    rw [rep8]
    by_cases h3 : 3 ≤ j
    · rw [if_pos h3]
      obtain ⟨i1, i2⟩ := spd8_rep hv f (j - min j 6) (by omega)
      simp only [sum8, Int.toNat_natCast]
      have hss := rep8_sum f (j - min j 6)
      refine ⟨?_, by omega⟩
      conv => lhs; rw [spd8, if_neg (by omega), led8_more hv h3]
      simp only [Int.toNat_natCast]
      rw [i1, List.cons_append, show j - (min j 6 + sum8 (rep8 f (j - min j 6))) = j - min j 6 - sum8 (rep8 f (j - min j 6)) by omega, spd8_fuel v f (f + 1) _ true (by omega) (by omega)]
    · rw [if_neg h3]
      simp [sum8]
      omega
/-- Few lengths: one run each. -/
theorem rung8_few {v : Int} (hv : ¬ v = 0) {rest : List Int} (hr : rest.head? ≠ some v) (f : Nat) : ∀ (m : Nat), m < 3 → m + rest.length ≤ f → rung8 f (List.replicate m v ++ rest) = spd8 m v m true ++ rung8 f rest
  | 0, _, _ => by simp [spd8]
  | m + 1, hm, hf => by
    have hrow : row8 v (m + 1) = [⟨v, 1⟩] := by
      unfold row8
      rw [if_neg hv]
      have : rep8 (m + 1 - 1) (m + 1 - 1) = [] := by
        cases m with
        | zero => rfl
        | succ m => rw [show m + 1 + 1 - 1 = m + 1 by omega, rep8, if_neg (by omega)]
      rw [this]
    rw [rung8_rep hr (by omega) f hf, hrow]
    have e1 : sum8 [(⟨v, 1⟩ : Rn8)] = 1 := by simp [sum8]
    rw [e1, show m + 1 - 1 = m by omega, rung8_few hv hr f m (by omega) (by omega), spd8, if_neg (by omega), led8_less hv (by omega)]
    simp
/-- THE STRETCH: what the program lays down for k lengths v is what the document does. -/
theorem rung8_spd {v : Int} {rest : List Int} (hr : rest.head? ≠ some v) (f : Nat) : ∀ (k : Nat), k + rest.length ≤ f → rung8 f (List.replicate k v ++ rest) = spd8 k v k false ++ rung8 f rest := by
  intro k
  induction k using Nat.strongRecOn with
  | ind k ih =>
    intro hf
    by_cases hk : k = 0
    · subst hk; simp [spd8]
    · by_cases hv : v = 0
      · subst hv
        obtain ⟨j, rfl⟩ : ∃ j, k = j + 1 := ⟨k - 1, by omega⟩
        have hrow : row8 0 (j + 1) = [led8 0 (j + 1) false] := by
          unfold row8 led8
          by_cases h11 : 11 ≤ j + 1
          · simp [h11]
          · by_cases h3 : 3 ≤ j + 1
            · have : min (j + 1) 10 = j + 1 := by omega
              simp [h11, h3, this]
            · simp [h11, h3]
        have hct := led8_ct 0 (k := j + 1) (by omega) false
        rw [rung8_rep hr (by omega) f hf, hrow, spd8, if_neg (by omega)]
        have es : sum8 [led8 0 (j + 1) false] = (led8 0 (j + 1) false).ct.toNat := by simp [sum8]
        rw [es, ih _ (by omega) (by omega), spd8_zero, spd8_fuel 0 j (j + 1 - (led8 0 (j + 1) false).ct.toNat) _ false (by omega) (by omega)]
        simp
      · obtain ⟨j, rfl⟩ : ∃ j, k = j + 1 := ⟨k - 1, by omega⟩
        obtain ⟨s1, s2⟩ := spd8_rep hv j j (Nat.le_refl _)
        have hrow : row8 v (j + 1) = ⟨v, 1⟩ :: rep8 j j := by unfold row8; rw [if_neg hv]; rfl
        have es : sum8 (⟨v, 1⟩ :: rep8 j j) = 1 + sum8 (rep8 j j) := by simp [sum8]
        have hss := rep8_sum j j
        rw [rung8_rep hr (by omega) f hf, hrow, es, show j + 1 - (1 + sum8 (rep8 j j)) = j - sum8 (rep8 j j) by omega, rung8_few hv hr f _ s2 (by omega), spd8, if_neg (by omega), led8_first hv]
        have e1 : (1 : Int).toNat = 1 := rfl
        simp only [e1, Nat.add_sub_cancel]
        rw [s1, spd8_fuel v (j - sum8 (rep8 j j)) j _ true (by omega) (by omega)]
        simp
/-- At a place: the stretch there, and what stands behind. -/
theorem rung8_str {zs : List Int} {i : Nat} (h : i < zs.length) : rung8 (zs.length - i) (zs.drop i) = spd8 (pre8 (zs.getD i 0) (zs.drop i)) (zs.getD i 0) (pre8 (zs.getD i 0) (zs.drop i)) false ++ rung8 (zs.length - (i + pre8 (zs.getD i 0) (zs.drop i))) (zs.drop (i + pre8 (zs.getD i 0) (zs.drop i))) := by
  obtain ⟨v, hv⟩ : ∃ v, v = zs.getD i 0 := ⟨_, rfl⟩
  obtain ⟨k, hk⟩ : ∃ k, k = pre8 v (zs.drop i) := ⟨_, rfl⟩
  rw [← hv, ← hk]
  have hpl := pre8_le v (zs.drop i)
  rw [← hk, List.length_drop] at hpl
  have hsp : zs.drop i = List.replicate k v ++ zs.drop (i + k) := by
    have := pre8_take v (zs.drop i) k (by omega)
    rw [← this, ← List.drop_drop, List.take_append_drop]
  have hr : (zs.drop (i + k)).head? ≠ some v := by
    intro e
    have e1 : k + 1 ≤ pre8 v (zs.drop i) := by
      rw [pre8_iff]
      rw [List.head?_drop] at e
      have hlt : i + k < zs.length := by
        rcases Nat.lt_or_ge (i + k) zs.length with h | h
        · exact h
        · simp [List.getElem?_eq_none h] at e
      refine ⟨by rw [List.length_drop]; omega, fun j hj => ?_⟩
      by_cases e2 : j = k
      · subst e2
        simp [List.getD, e]
      · have := (pre8_iff v (zs.drop i) k).1 (by omega)
        exact this.2 j (by omega)
    omega
  have hg : (zs.drop (i + k)).length ≤ zs.length - (i + k) := by rw [List.length_drop]; omega
  conv => lhs; rw [hsp]
  rw [rung8_spd hr _ k (by rw [List.length_drop]; omega), rung8_fuel (zs.length - i) (zs.length - (i + k)) _ (by rw [List.length_drop]; omega) hg]
theorem spd8_ct (v : Int) : ∀ (f k : Nat) (again : Bool), ∀ r ∈ spd8 f v k again, 1 ≤ r.ct ∧ r.ct ≤ k
  | 0, k, again, r, h => by simp [spd8] at h
  | f + 1, k, again, r, h => by
    rw [spd8] at h
    split at h
    · simp at h
    · have hc := led8_ct v (k := k) (by omega) again
      rcases List.mem_cons.1 h with rfl | h
      · exact hc
      · have := spd8_ct v f _ true r h
        omega
theorem spd8_len (v : Int) : ∀ (f k : Nat) (again : Bool), (spd8 f v k again).length ≤ k
  | 0, k, again => by simp [spd8]
  | f + 1, k, again => by
    rw [spd8]
    split
    · simp
    · have hc := led8_ct v (k := k) (by omega) again
      have := spd8_len v f (k - (led8 v k again).ct.toNat) true
      rw [List.length_cons]
      omega
end Go.Proofs.YtcifalelnfeggaaGreatDoor
