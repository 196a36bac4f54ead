import Derived.WalkKit
import Derived.Deep.Draws
import Derived.OneCell
import Derived.WalkSpells
import Derived.Laws.AppendOwnNone
import Derived.RangeFuncNested
import Derived.RangeFuncBound
import Derived.RangeFuncCalls
import Derived.RangeFuncLeaves
import Derived.Shelf.Abstract
import Derived.OwnWalkIn
import Derived.TacticsInMore
import Derived.LoopNIn
import Derived.LoopIn
import Derived.Test.YtpodakndckflgaaGreatDoorProg
import Derived.Deep.QuietTactic
import Derived.BigQuiet
import Derived.Deep.RegionHeld3
import Derived.Laws.EntriesVeiled
import Derived.StillTailTactics
import Derived.OrdersIn
import Derived.OrdersHeld
import Derived.Deep.RegionHeld
namespace Go.Proofs.YtpodakndckflgaaGreatDoor
open Go.RowKit
theorem grownBy_trans {a b c : World} {row : Option Nat} (h : a.grownBy b row) (k : b.grownBy c row) : a.grownBy c row :=
  ⟨k.os.trans h.os, k.tape.trans h.tape, k.output.trans h.output, Nat.le_trans h.size k.size, fun i hi hne => (k.block i (Nat.lt_of_lt_of_le hi h.size) hne).trans (h.block i hi hne)⟩
theorem grownBy_set {a w : World} {b i : Nat} (h : a.grownBy w (some b)) (x : Value) : a.grownBy (w.setCell ⟨b, i, none⟩ x) (some b) :=
  grownBy_trans h ⟨rfl, rfl, rfl, by simp [World.setCell], fun k _ hne => Below.heap_setCell _ _ _ _ (fun e => hne (by rw [e]))⟩
end Go.Proofs.YtpodakndckflgaaGreatDoor

namespace Go.Proofs.YtpodakndckflgaaGreatDoor
open Go.RowKit
set_option linter.unusedVariables false
/-- Bytes lie where a slice's address leads. -/
structure SegK (k : IntKind) (M : Int) (w : World) (a : Option Addr) (zs : List Int) : Prop where
  at_ : ∀ i, i < zs.length → ∃ b off, a = some ⟨b, off, none⟩ ∧ w.cell? ⟨b, off + i, none⟩ = some (.int k (zs.getD i 0))
  pos : 0 ≤ M
  bd : ∀ i, 0 ≤ zs.getD i 0 ∧ zs.getD i 0 ≤ M
abbrev Seg (w : World) (a : Option Addr) (zs : List Int) : Prop := SegK .u8 255 w a zs
abbrev Seg64 (w : World) (a : Option Addr) (zs : List Int) : Prop := SegK .u64 18446744073709551615 w a zs
variable {k : IntKind} {M : Int}
theorem SegK.nil (hM : 0 ≤ M) (w : World) (a : Option Addr) : SegK k M w a [] := ⟨fun i h => by simp at h, hM, fun i => by simp [hM]⟩
theorem SegK.of_cells {w w' : World} {a : Option Addr} {zs : List Int} (h : SegK k M w a zs) (hc : ∀ b off i v, i < zs.length → a = some ⟨b, off, none⟩ → w.cell? ⟨b, off + i, none⟩ = some v → w'.cell? ⟨b, off + i, none⟩ = some v) : SegK k M w' a zs :=
  ⟨fun i hi => by obtain ⟨b, off, ha, hcl⟩ := h.at_ i hi; exact ⟨b, off, ha, hc b off i _ hi ha hcl⟩, h.pos, h.bd⟩
theorem SegK.below {w w' : World} {a : Option Addr} {zs : List Int} {B : Nat} (h : SegK k M w a zs) (hb : Below B w w') (hB : ∀ b off, a = some ⟨b, off, none⟩ → 0 < zs.length → b < B) : SegK k M w' a zs :=
  h.of_cells fun b off i v hi ha hcl => (hb.cell (p := ⟨b, off + i, none⟩) (hB b off ha (by omega))).trans hcl
theorem SegK.lt {w : World} {a : Option Addr} {zs : List Int} (h : SegK k M w a zs) : ∀ b off, a = some ⟨b, off, none⟩ → 0 < zs.length → b < w.heap.size := by
  intro b off ha hl
  obtain ⟨b', off', ha', hc⟩ := h.at_ 0 hl
  rw [ha] at ha'
  cases ha'
  exact World.block_lt_of_cell? w _ hc
theorem SegK.old {w w' : World} {a : Option Addr} {zs : List Int} (h : SegK k M w a zs) (hb : Below w.heap.size w w') : SegK k M w' a zs := h.below hb h.lt
theorem SegK.drewN {w : World} {a : Option Addr} {zs : List Int} (h : SegK k M w a zs) (n : Nat) : SegK k M (w.drewN n) a zs := ⟨h.at_, h.pos, h.bd⟩
theorem SegK.drew {w : World} {a : Option Addr} {zs : List Int} (h : SegK k M w a zs) : SegK k M w.drew a zs := ⟨h.at_, h.pos, h.bd⟩
theorem SegK.alloc {w : World} {a : Option Addr} {zs : List Int} (h : SegK k M w a zs) (o : Obj) : SegK k M (w.alloc o) a zs := h.old ((Below.refl _ _).alloc (Nat.le_refl _) o)
theorem SegK.grown {w w' : World} {a : Option Addr} {zs : List Int} {row : Option Nat} (h : SegK k M w a zs) (hg : w.grownBy w' row) (hne : ∀ b off, a = some ⟨b, off, none⟩ → 0 < zs.length → some b ≠ row) : SegK k M w' a zs :=
  h.of_cells fun b off i v hi ha hcl => hg.cell hcl (hne b off ha (by omega))
theorem SegK.take {w : World} {a : Option Addr} {zs : List Int} (h : SegK k M w a zs) (m : Nat) : SegK k M w a (zs.take m) := by
  refine ⟨fun i hi => ?_, h.pos, fun i => ?_⟩
  · simp at hi
    obtain ⟨b, off, ha, hc⟩ := h.at_ i (by omega)
    refine ⟨b, off, ha, ?_⟩
    rw [hc]
    have hk : i < m := by omega
    simp [List.getD, hk]
  · have := h.bd i
    simp only [List.getD, List.getElem?_take]
    split
    · exact this
    · simp [h.pos]
theorem SegK.mem {w : World} {a : Option Addr} {zs : List Int} (h : SegK k M w a zs) : ∀ z ∈ zs, 0 ≤ z ∧ z ≤ M := by
  intro z hz
  obtain ⟨i, hi, rfl⟩ := List.mem_iff_getElem.1 hz
  have := h.bd i
  simpa [List.getD, hi] using this
theorem SegK.drop {w : World} {b off : Nat} {zs : List Int} (h : SegK k M w (some ⟨b, off, none⟩) zs) (m : Nat) : SegK k M w (some ⟨b, off + m, none⟩) (zs.drop m) := by
  refine ⟨fun i hi => ?_, h.pos, fun i => ?_⟩
  · simp at hi
    obtain ⟨b', off', ha, hc⟩ := h.at_ (m + i) (by omega)
    cases ha
    refine ⟨b, off + m, rfl, ?_⟩
    rw [Nat.add_assoc, hc]
    simp [List.getD]
  · have := h.bd (m + i)
    simpa [List.getD] using this
end Go.Proofs.YtpodakndckflgaaGreatDoor

namespace Go.Proofs.YtpodakndckflgaaGreatDoor
open Go.RowKit
set_option linter.unusedVariables false
/-- 'out = append(out, y)', y one cell that lies in a block of its own, out the call's own row. -/
theorem wpList_push {P : Program} {ops : Array Oper} {rest : List Oper} {o : Oper} {a : Act} {Q : Exit → Act → World → Prop} (hgd : o.guard = none) (s x : Operand) (t : TypeId)
    (ho : o.op = .call { callee := .builtin .append, args := #[s, x], argTypes := #[t, t] })
    (base : Nat) (e : TypeId) (i : TypeInfo) (z : Value) (bytes : Nat) (ht : P.underlying t = some (.slice e)) (hi : P.info? e = some i) (hz : i.zero = some z)
    (hsize : i.size = 1) (hby : i.bytes = bytes) (hzs : z.cells.size = 1)
    (w0 : World) (y : Value) (hy : y.oneCell' = true) {v : Value} {n : Nat} {xs : List Value} (hown : w0.ownsRow base e 1 v n xs) (hs : a.eval s = v) (hx : a.eval x = .slice (some ⟨w0.heap.size, 0, none⟩) 1 1)
    (h63 : n + 1 ≤ 140737488355328) (hbytes : (n + 1) * bytes ≤ 140737488355328) (hbase : base ≤ w0.heap.size)
    (h : ∀ v' w', w'.ownsRow base e 1 v' (n + 1) (xs ++ [y]) → w0.grownBy w' v.ownBlock → Below base w0 w' → wpList P ops Q rest (a.put o.dst v') w') : wpList P ops Q (o :: rest) a (w0.alloc (.cells #[y] e)) := by
  refine wpList_append_own _ hgd s x t ho base e i z 1 bytes ht hi hz hsize hby hzs (by decide) v n xs hs (hown.alloc _) ⟨w0.heap.size, 0, none⟩ 1 1 [y] hx rfl (cell_one_new _ _ _) ?_ (by unfold maxLen; omega) hbytes (by simp; omega) ?_
  · intro u hu; simp at hu; subst hu; exact hy
  · intro v' w' h1 h2 _
    have hg : w0.grownBy w' v.ownBlock := grownBy_trans (World.grownBy_alloc w0 _ _) h2
    exact h v' w' h1 hg ((Below.refl _ _).grown hg hbase (fun k hk => (hown.lt k hk).1))

/-- A row that holds something has a place. -/
theorem own_shape {w : World} {base n : Nat} {e : TypeId} {v : Value} {xs : List Value} (h : w.ownsRow base e 1 v n xs) (hn : 0 < n) : ∃ g cap, v = .slice (some ⟨g, 0, none⟩) n cap ∧ n ≤ cap ∧ base ≤ g ∧ g < w.heap.size := by
  rcases h.2 with ⟨_, h0⟩ | ⟨g, cap, cur, rfl, hg, hh, hc, _⟩
  · omega
  · exact ⟨g, cap, rfl, hc, hg, (Array.getElem?_eq_some_iff.1 hh).1⟩
end Go.Proofs.YtpodakndckflgaaGreatDoor

namespace Go.Proofs.YtpodakndckflgaaGreatDoor
open Go.RowKit
set_option linter.unusedVariables false
theorem getD_bd {zs : List Int} {M : Int} (hM : 0 ≤ M) (h : ∀ z ∈ zs, 0 ≤ z ∧ z ≤ M) (i : Nat) : 0 ≤ zs.getD i 0 ∧ zs.getD i 0 ≤ M := by
  by_cases hi : i < zs.length
  · have := h zs[i] (List.getElem_mem hi)
    simpa [List.getD, hi] using this
  · have : zs[i]? = none := List.getElem?_eq_none (by omega)
    simp [List.getD, this, hM]

/-- A row that the call owns, as bytes that lie there. -/
theorem own_seg {w : World} {base n : Nat} {e : TypeId} {v : Value} {k : IntKind} {M : Int} {zs : List Int} (h : w.ownsRow base e 1 v n (zs.map (Value.int k))) (hM : 0 ≤ M) (hb : ∀ z ∈ zs, 0 ≤ z ∧ z ≤ M) :
    n = zs.length ∧ ∃ a cap, v = .slice a n cap ∧ SegK k M w a zs ∧ (∀ x, a = some x → x.off = 0 ∧ x.spot = none ∧ base ≤ x.block ∧ x.block < w.heap.size) ∧ n ≤ cap ∧ v.ownBlock = a.map (·.block) := by
  have hl : zs.length = n := by simpa using h.1
  refine ⟨hl.symm, ?_⟩
  rcases h.2 with ⟨rfl, hn⟩ | ⟨g, cap, cur, rfl, hg, hh, hc, _, _, ht⟩
  · have : zs = [] := List.eq_nil_of_length_eq_zero (by omega)
    subst this
    exact ⟨none, 0, by rw [hn], SegK.nil hM _ _, by simp, by omega, rfl⟩
  · refine ⟨some ⟨g, 0, none⟩, cap, rfl, ⟨fun i hi => ⟨g, 0, rfl, ?_⟩, hM, getD_bd hM hb⟩, ?_, hc, rfl⟩
    · have := h.cells (g := g) rfl i (.int k (zs.getD i 0)) (by simp [List.getD, hi])
      have hadd : (⟨g, 0, none⟩ : Addr).add i = ⟨g, 0 + i, none⟩ := by unfold Addr.add; split <;> simp_all
      rw [hadd] at this
      exact this
    · intro x hx
      cases hx
      exact ⟨rfl, rfl, hg, (Array.getElem?_eq_some_iff.1 hh).1⟩

/-- What is owned stays owned where nothing that was there turned. -/
theorem own_below {w w' : World} {base n : Nat} {e : TypeId} {v : Value} {xs : List Value} (h : w.ownsRow base e 1 v n xs) (hb : Below w.heap.size w w') : w'.ownsRow base e 1 v n xs := by
  refine ⟨h.1, ?_⟩
  rcases h.2 with h2 | ⟨g, cap, cur, hv, hg, hh, r⟩
  · exact Or.inl h2
  · exact Or.inr ⟨g, cap, cur, hv, hg, by rw [hb.block g (Array.getElem?_eq_some_iff.1 hh).1]; exact hh, r⟩
theorem own_base {w : World} {base base' n : Nat} {e : TypeId} {v : Value} {xs : List Value} (h : w.ownsRow base e 1 v n xs) (hb : base' ≤ base) : w.ownsRow base' e 1 v n xs := by
  refine ⟨h.1, ?_⟩
  rcases h.2 with h2 | ⟨g, cap, cur, hv, hg, r⟩
  · exact Or.inl h2
  · exact Or.inr ⟨g, cap, cur, hv, by omega, r⟩
end Go.Proofs.YtpodakndckflgaaGreatDoor

namespace Go.Proofs.YtpodakndckflgaaGreatDoor
open Go.RowKit
set_option linter.unusedVariables false
structure Kp (S : Nat → Prop) (w w' : World) : Prop where
  os : w'.os = w.os
  tape : w'.tape = w.tape
  output : w'.output = w.output
  size : w.heap.size ≤ w'.heap.size
  block : ∀ k, k < w.heap.size → ¬ S k → w'.heap[k]? = w.heap[k]?
theorem Kp.refl (S : Nat → Prop) (w : World) : Kp S w w := ⟨rfl, rfl, rfl, Nat.le_refl _, fun _ _ _ => rfl⟩
theorem Kp.trans {S S' : Nat → Prop} {a b c : World} (h : Kp S a b) (k : Kp S' b c) (hs : ∀ i, i < a.heap.size → S' i → S i) : Kp S a c :=
  ⟨k.os.trans h.os, k.tape.trans h.tape, k.output.trans h.output, Nat.le_trans h.size k.size, fun i hi hn => (k.block i (Nat.lt_of_lt_of_le hi h.size) (fun e => hn (hs i hi e))).trans (h.block i hi hn)⟩
theorem Kp.mono {S S' : Nat → Prop} {a b : World} (h : Kp S a b) (hs : ∀ i, i < a.heap.size → S i → S' i) : Kp S' a b :=
  ⟨h.os, h.tape, h.output, h.size, fun i hi hn => h.block i hi (fun e => hn (hs i hi e))⟩
theorem Kp.grown {S : Nat → Prop} {a b : World} {row : Option Nat} (h : a.grownBy b row) (hs : ∀ i, row = some i → S i) : Kp S a b :=
  ⟨h.os, h.tape, h.output, h.size, fun i hi hn => h.block i hi (fun e => hn (hs i e.symm))⟩
theorem Kp.of_below {S : Nat → Prop} {a b : World} (h : Below a.heap.size a b) : Kp S a b := ⟨h.os, h.tape, h.output, h.size, fun i hi _ => h.block i hi⟩
theorem Kp.below {S : Nat → Prop} {a b : World} {B : Nat} (h : Kp S a b) (hs : ∀ i, S i → B ≤ i) (hB : B ≤ a.heap.size) : Below B a b :=
  ⟨h.os, h.tape, h.output, h.size, fun i hi => h.block i (Nat.lt_of_lt_of_le hi hB) (fun e => by have := hs i e; omega)⟩
theorem Kp.set {S : Nat → Prop} {w : World} {b i : Nat} (hb : S b) (x : Value) : Kp S w (w.setCell ⟨b, i, none⟩ x) :=
  .grown (grownBy_set (World.grownBy.refl _ _) _) (by intro j e; cases e; exact hb)
theorem Kp.alloc {S : Nat → Prop} (w : World) (o : Obj) : Kp S w (w.alloc o) := .of_below ((Below.refl _ _).alloc (Nat.le_refl _) _)
theorem Kp.drew {S : Nat → Prop} {a b : World} (h : Kp S a b) : Kp S a b.drew := ⟨h.os, h.tape, h.output, h.size, h.block⟩
theorem Kp.drewN {S : Nat → Prop} {a b : World} (h : Kp S a b) (n : Nat) : Kp S a (b.drewN n) := ⟨h.os, h.tape, h.output, h.size, h.block⟩
theorem Kp.heap {S : Nat → Prop} {a b : World} {k : Nat} {o : Obj} (h : Kp S a b) (hk : a.heap[k]? = some o) (hn : ¬ S k) : b.heap[k]? = some o := by
  rw [h.block k (Array.getElem?_eq_some_iff.1 hk).1 hn]; exact hk

theorem own_kp {w w' : World} {S : Nat → Prop} {base n : Nat} {e : TypeId} {v : Value} {xs : List Value} (h : w.ownsRow base e 1 v n xs) (hb : Kp S w w') (hn : ∀ k, v.ownBlock = some k → ¬ S k) : w'.ownsRow base e 1 v n xs := by
  refine ⟨h.1, ?_⟩
  rcases h.2 with h2 | ⟨g, cap, cur, hv, hg, hh, r⟩
  · exact Or.inl h2
  · exact Or.inr ⟨g, cap, cur, hv, hg, hb.heap hh (hn g (by rw [hv]; rfl)), r⟩
theorem SegK.kp {k : IntKind} {M : Int} {w w' : World} {S : Nat → Prop} {a : Option Addr} {zs : List Int} (h : SegK k M w a zs) (hb : Kp S w w') (hn : ∀ b off, a = some ⟨b, off, none⟩ → 0 < zs.length → ¬ S b) : SegK k M w' a zs :=
  h.of_cells fun b off i v hi ha hcl => by
    have hlt : b < w.heap.size := World.block_lt_of_cell? w _ hcl
    rw [World.cell?_of_block (a := ⟨b, off + i, none⟩) (hb.block b hlt (hn b off ha (by omega)))]
    exact hcl

/-- The row lies at its old place, or in a new block. -/
def Fresh (w : World) (v v' : Value) : Prop := ∀ k, v'.ownBlock = some k → v.ownBlock = some k ∨ w.heap.size ≤ k

structure SegB (w : World) (a : Option Addr) (L : List Bool) : Prop where
  at_ : ∀ i, i < L.length → ∃ b off, a = some ⟨b, off, none⟩ ∧ w.cell? ⟨b, off + i, none⟩ = some (.bool (L.getD i false))
theorem SegB.of_cells {w w' : World} {a : Option Addr} {L : List Bool} (h : SegB w a L) (hc : ∀ b off i v, i < L.length → a = some ⟨b, off, none⟩ → w.cell? ⟨b, off + i, none⟩ = some v → w'.cell? ⟨b, off + i, none⟩ = some v) : SegB w' a L :=
  ⟨fun i hi => by obtain ⟨b, off, ha, hcl⟩ := h.at_ i hi; exact ⟨b, off, ha, hc b off i _ hi ha hcl⟩⟩
theorem SegB.old {w w' : World} {a : Option Addr} {L : List Bool} (h : SegB w a L) (hb : Below w.heap.size w w') : SegB w' a L :=
  h.of_cells fun b off i v hi ha hcl => (hb.cell (p := ⟨b, off + i, none⟩) (World.block_lt_of_cell? w _ hcl)).trans hcl
theorem SegB.drop {w : World} {b off : Nat} {L : List Bool} (h : SegB w (some ⟨b, off, none⟩) L) (m : Nat) : SegB w (some ⟨b, off + m, none⟩) (L.drop m) := by
  refine ⟨fun i hi => ?_⟩
  simp at hi
  obtain ⟨b', off', ha, hc⟩ := h.at_ (m + i) (by omega)
  cases ha
  refine ⟨b, off + m, rfl, ?_⟩
  rw [Nat.add_assoc, hc]
  simp [List.getD]
end Go.Proofs.YtpodakndckflgaaGreatDoor

namespace Go.Proofs.YtpodakndckflgaaGreatDoor
open Go.RowKit Go.Shelf
set_option linter.unusedVariables false
structure Kr16 (D : Nat → Prop) (W W' : World) : Prop where
  size : W.heap.size ≤ W'.heap.size
  block : ∀ k, k < W.heap.size → D k → W'.heap[k]? = W.heap[k]?
theorem Kr16.refl (D : Nat → Prop) (W : World) : Kr16 D W W := ⟨Nat.le_refl _, fun _ _ _ => rfl⟩
theorem Kr16.trans {D : Nat → Prop} {A B C : World} (h : Kr16 D A B) (k : Kr16 D B C) : Kr16 D A C :=
  ⟨Nat.le_trans h.size k.size, fun i hi hd => (k.block i (Nat.lt_of_lt_of_le hi h.size) hd).trans (h.block i hi hd)⟩
theorem Kr16.mono {D D' : Nat → Prop} {A B : World} (h : Kr16 D A B) (hd : ∀ k, D' k → D k) : Kr16 D' A B := ⟨h.size, fun k hk hx => h.block k hk (hd k hx)⟩
theorem Kr16.of_kp {S D : Nat → Prop} {A B : World} (h : Kp S A B) (hd : ∀ k, D k → ¬ S k) : Kr16 D A B := ⟨h.size, fun k hk hx => h.block k hk (hd k hx)⟩
theorem Kr16.heap {D : Nat → Prop} {A B : World} {k : Nat} {o : Obj} (h : Kr16 D A B) (hk : A.heap[k]? = some o) (hd : D k) : B.heap[k]? = some o :=
  (h.block k (Array.getElem?_eq_some_iff.1 hk).1 hd).trans hk
theorem Kr16.cell {D : Nat → Prop} {A B : World} {p : Addr} {v : Value} (h : Kr16 D A B) (hp : A.cell? p = some v) (hd : D p.block) : B.cell? p = some v := by
  rw [World.cell?_of_block (w := A) (h.block p.block (World.block_lt_of_cell? A _ hp) hd)]; exact hp
/-- Where the iterator's own blocks lie. -/
def Lo16 (B : Nat) (E : Nat → Prop) (W : World) : Prop := ∀ k, E k → B ≤ k ∧ k < W.heap.size
/-- What is said abides the iterator's doings. -/
def Abd16 {β : Type} (B : Nat) (J : β → (Nat → Prop) → World → Prop) : Prop :=
  ∀ s E E' W W', J s E W → Lo16 B E W → Kp E W W' → (∀ k, E k → E' k) → (∀ k, E' k → E k ∨ W.heap.size ≤ k) → Lo16 B E' W' → J s E' W'
/-- What a yield must do. -/
def Yd16 (J : Nat → (Nat → Prop) → World → Prop) (PX : List PanicEntry → (Nat → Prop) → World → Prop) (i : Nat) (E D : Nat → Prop) (W : World) : Ending → World → Prop
  | .returned v, W' => v = .bool true ∧ J (i + 1) E W' ∧ Kr16 D W W'
  | .panicked ch, W' => PX ch E W' ∧ Kr16 D W W'
  | .outgrown, _ => False
/-- How an iterator ends. -/
def Rs16 (J : Nat → (Nat → Prop) → World → Prop) (PX : List PanicEntry → (Nat → Prop) → World → Prop) (m B : Nat) : Ending → World → Prop
  | .returned _, W' => ∃ E, Lo16 B E W' ∧ J m E W'
  | .panicked ch, W' => ∃ E, Lo16 B E W' ∧ PX ch E W'
  | .outgrown, _ => False
/-- An iterator: it tells L, one after the other. -/
def Seq16 (n : Nat) (P : Program) (g : Nat) (lb : Array Value) (L : List (Array Value)) (R : Nat → Prop) (w : World) : Prop :=
  ∀ (l : Nat) (J : Nat → (Nat → Prop) → World → Prop) (PX : List PanicEntry → (Nat → Prop) → World → Prop) (W : World), Kr16 R w W → Abd16 W.heap.size J → Abd16 W.heap.size PX →
    (∀ i v E W1, L[i]? = some v → J i E W1 → Lo16 W.heap.size E W1 → Kr16 R W W1 → YieldAt Fence.wide (n - 1) P l v W1 (Yd16 J PX i E (fun k => E k ∨ R k) W1)) →
    J 0 (fun _ => False) W → CallsIn Fence.wide n P g (#[.func (.yield l) #[] #[]] ++ lb) W (Rs16 J PX L.length W.heap.size)
theorem Seq16.later {n : Nat} {P : Program} {g : Nat} {lb : Array Value} {L : List (Array Value)} {R : Nat → Prop} {w w' : World} (h : Seq16 n P g lb L R w) (hk : Kr16 R w w') : Seq16 n P g lb L R w' :=
  fun l J PX W hW hJ hP hY h0 => h l J PX W (hk.trans hW) hJ hP hY h0

/-- What the loop's left sides leave: the body is walked from there. -/
def As16 (I : Nat → (Nat → Prop) → World → Prop) (l i : Nat) (E D : Nat → Prop) (W : World) (B : Act → World → Prop) (a1 : Act) (W1 : World) : Prop :=
  Kr16 D W W1 ∧ I i E W1 ∧ ∀ W2, Kp (fun k => k = l) W1 W2 → (∃ r, W2.heap[l]? = some (.loop r)) → I i E W2 → B a1 W2
theorem As16.mk {I : Nat → (Nat → Prop) → World → Prop} {l i : Nat} {E D : Nat → Prop} {W : World} {B : Act → World → Prop} {a1 : Act} {W1 : World} (h1 : Kr16 D W W1) (h2 : I i E W1) (h3 : ∀ W2, Kp (fun k => k = l) W1 W2 → (∃ r, W2.heap[l]? = some (.loop r)) → I i E W2 → B a1 W2) : As16 I l i E D W B a1 W1 := ⟨h1, h2, h3⟩
end Go.Proofs.YtpodakndckflgaaGreatDoor

namespace Go.Proofs.YtpodakndckflgaaGreatDoor
set_option linter.unusedVariables false
abbrev St16 := Int × Int × Int
abbrev z16 : St16 := (0, 0, 0)
def may16 (s : St16) : Bool := decide (0 ≤ s.1 ∧ s.1 ≤ 16777216 ∧ 0 ≤ s.2.1 ∧ s.2.1 ≤ 16777216 ∧ -16777216 ≤ s.2.2 ∧ s.2.2 ≤ 16777216)
def ad16 (S : List St16) (i : Nat) : Nat := (S.getD i z16).1.toNat
def cp16 (S : List St16) (i : Nat) : Nat := (S.getD i z16).2.1.toNat
/-- How much is added, copied by the first i steps; where they lead. -/
def sa16 (S : List St16) : Nat → Nat
  | 0 => 0
  | i + 1 => sa16 S i + ad16 S i
def sc16 (S : List St16) : Nat → Nat
  | 0 => 0
  | i + 1 => sc16 S i + cp16 S i
/-- The first i steps may be. -/
def Ok16 (S : List St16) (i : Nat) : Prop := ∀ j, j < i → may16 (S.getD j z16) = true
theorem Ok16.zero (S : List St16) : Ok16 S 0 := fun j h => by omega
theorem Ok16.succ {S : List St16} {i : Nat} (h : Ok16 S i) (hm : may16 (S.getD i z16) = true) : Ok16 S (i + 1) := fun j hj => by
  rcases Nat.lt_or_ge j i with h1 | h1
  · exact h j h1
  · have : j = i := by omega
    subst this; exact hm
theorem Ok16.all {S : List St16} (h : Ok16 S S.length) : S.all may16 = true := by
  rw [List.all_eq_true]
  intro x hx
  obtain ⟨j, hj, rfl⟩ := List.getElem_of_mem hx
  have := h j hj
  simpa [List.getD, hj] using this
theorem Ok16.mono {S : List St16} {i j : Nat} (h : Ok16 S i) (hj : j ≤ i) : Ok16 S j := fun k hk => h k (by omega)
/-- The origins of the bytes: place, value, own. -/
abbrev Og16 := Int × Int × Bool
/-- What is made of old. -/
def by16 (z : List Int) (o : Og16) : Int := if o.2.2 = true then o.2.1 else (z.getD o.1.toNat 0 + o.2.1) % 256
end Go.Proofs.YtpodakndckflgaaGreatDoor

namespace Go.Proofs.YtpodakndckflgaaGreatDoor
open Go.RowKit
set_option linter.unusedVariables false
structure SpAt (w : World) (g o : Nat) (s : St16) : Prop where
  c0 : w.cell? ⟨g, o, none⟩ = some (.int .i64 s.1)
  c1 : w.cell? ⟨g, o + 1, none⟩ = some (.int .i64 s.2.1)
  c2 : w.cell? ⟨g, o + 2, none⟩ = some (.int .i64 s.2.2)
theorem SpAt.of_block {w w' : World} {g o : Nat} {x : St16} (h : SpAt w g o x) (hb : w'.heap[g]? = w.heap[g]?) : SpAt w' g o x :=
  ⟨(World.cell?_of_block (a := ⟨g, o, none⟩) hb).trans h.c0, (World.cell?_of_block (a := ⟨g, o + 1, none⟩) hb).trans h.c1, (World.cell?_of_block (a := ⟨g, o + 2, none⟩) hb).trans h.c2⟩
theorem SpAt.lt {w : World} {g o : Nat} {x : St16} (h : SpAt w g o x) : g < w.heap.size := World.block_lt_of_cell? w _ h.c0
def Fit16 (s : St16) : Prop := (-9223372036854775808 ≤ s.1 ∧ s.1 ≤ 9223372036854775807) ∧ (-9223372036854775808 ≤ s.2.1 ∧ s.2.1 ≤ 9223372036854775807) ∧ (-9223372036854775808 ≤ s.2.2 ∧ s.2.2 ≤ 9223372036854775807)
structure SegS (w : World) (a : Option Addr) (l : List St16) : Prop where
  at_ : ∀ i, i < l.length → ∃ b off, a = some ⟨b, off, none⟩ ∧ SpAt w b (off + i * 3) (l.getD i z16)
  fit : ∀ t ∈ l, Fit16 t
theorem SegS.nil (w : World) (a : Option Addr) : SegS w a [] := ⟨fun i h => by simp at h, fun t h => by simp at h⟩
theorem SegS.kp {w w' : World} {S : Nat → Prop} {a : Option Addr} {l : List St16} (h : SegS w a l) (hb : Kp S w w') (hn : ∀ b off, a = some ⟨b, off, none⟩ → 0 < l.length → ¬ S b) : SegS w' a l := by
  refine ⟨fun i hi => ?_, h.fit⟩
  obtain ⟨b, off, ha, ht⟩ := h.at_ i hi
  exact ⟨b, off, ha, ht.of_block (hb.block b ht.lt (hn b off ha (by omega)))⟩
theorem SegS.old {w w' : World} {a : Option Addr} {l : List St16} (h : SegS w a l) (hb : Below w.heap.size w w') : SegS w' a l := h.kp (S := fun _ => False) (Kp.of_below hb) (fun _ _ _ _ e => e)
theorem SegS.drew {w : World} {a : Option Addr} {l : List St16} (h : SegS w a l) : SegS w.drew a l := h.old ((Below.refl _ _).drew)
theorem SegS.lt {w : World} {a : Option Addr} {l : List St16} (h : SegS w a l) : ∀ b off, a = some ⟨b, off, none⟩ → 0 < l.length → b < w.heap.size := by
  intro b off e hl
  obtain ⟨b', off', ha, ht⟩ := h.at_ 0 hl
  rw [e] at ha
  cases ha
  exact ht.lt
theorem below_box16 {w : World} (cs : Array Value) (t : TypeId) : Below w.heap.size w (w.alloc (.cells cs t)) := (Below.refl _ _).alloc (Nat.le_refl _) _
end Go.Proofs.YtpodakndckflgaaGreatDoor

namespace Go.Proofs.YtpodakndckflgaaGreatDoor
open Go.RowKit Go.Shelf
set_option linter.unusedVariables false
attribute [local go_sem] Oper.semAt_some
/-- A closure's box: one block more. -/
structure Cb16 (w : World) (v : Array Value) (t : TypeId) (w' : World) : Prop where
  bl : Below w.heap.size w w'
  sz : w'.heap.size = w.heap.size + 1
  cl : w'.heap[w.heap.size]? = some (.cells v t (0, 0))
theorem cb16 (w : World) (v : Array Value) (t : TypeId) : Cb16 w v t (w.alloc (.cells v t)) := ⟨below_box16 _ _, by simp, heap_alloc_new w _⟩
theorem SegS.kr {w w' : World} {D : Nat → Prop} {a : Option Addr} {l : List St16} (h : SegS w a l) (hb : Kr16 D w w') (hn : ∀ b off, a = some ⟨b, off, none⟩ → 0 < l.length → D b) : SegS w' a l := by
  refine ⟨fun i hi => ?_, h.fit⟩
  obtain ⟨b, off, ha, ht⟩ := h.at_ i hi
  exact ⟨b, off, ha, ht.of_block (hb.block b ht.lt (hn b off ha (by omega)))⟩
end Go.Proofs.YtpodakndckflgaaGreatDoor

namespace Go.Proofs.YtpodakndckflgaaGreatDoor
open Go.RowKit
set_option linter.unusedVariables false
structure Hd18 where
  o : Int
  n : Int
  so : Int
  sn : Int
  wi : Int
  lo : Int
def Hd18.cs (h : Hd18) : Array Value := #[.int .i64 h.o, .int .i64 h.n, .int .u32 h.so, .int .u32 h.sn, .int .i64 h.wi, .int .i64 h.lo]
def Hd18.Ok (h : Hd18) : Prop := (0 ≤ h.o ∧ h.o ≤ 16777216) ∧ (0 ≤ h.n ∧ h.n ≤ 16777216) ∧ (64 ≤ h.wi ∧ h.wi ≤ 65536) ∧ 1 ≤ h.lo ∧ h.lo ≤ 32768
instance (h : Hd18) : Decidable h.Ok := by unfold Hd18.Ok; infer_instance
def bt18 (p : Nat) : Value := .func (.func 80) #[] #[.pointer (some ⟨p, 0, none⟩), .pointer (some ⟨p + 1, 0, none⟩)]
def fl18 (B : Nat) : Array Value := #[.func (.func 58) #[] #[], bt18 B, .func (.func 60) #[] #[], bt18 (B + 2), .func (.func 61) #[] #[], bt18 (B + 4), .func (.func 62) #[] #[], bt18 (B + 6)]
set_option maxRecDepth 100000 in
theorem pbtw18 (x y : Int) (w : World) : Calls Tryz.prog 59 #[.int .i64 x, .int .i64 y] w fun e w' => e = .returned (.func (.func 80) #[] #[.pointer (some ⟨w.heap.size, 0, none⟩), .pointer (some ⟨w.heap.size + 1, 0, none⟩)]) ∧ w' = (w.alloc (.cells #[.int .i64 x] 3)).alloc (.cells #[.int .i64 y] 3) := by
  have hmf : ∀ (fn : Fn) (first cap : Array Value) (w : World), (Instr.makeFunc fn first cap).run Tryz.prog w = .ok (.func fn first cap) w := fun _ _ _ _ => rfl
  go_enter Tryz.func59, Tryz.ntmps59
  go_wp2
  go_ret
  exact ⟨rfl, rfl⟩
end Go.Proofs.YtpodakndckflgaaGreatDoor

namespace Go.Proofs.YtpodakndckflgaaGreatDoor
open Go.RowKit
set_option linter.unusedVariables false
open Go.RowKit Go.Shelf
open Go.RowKit Go.Shelf
open Go.RowKit Go.Shelf
attribute [local go_sem] Oper.semAt_some
/-- Below n₀ nothing has turned, but for blocks of E. -/
structure KeepE (n₀ : Nat) (E : Nat → Prop) (W W' : World) : Prop where
  size : W.heap.size ≤ W'.heap.size
  block : ∀ k, k < n₀ → ¬ E k → W'.heap[k]? = W.heap[k]?
theorem KeepE.refl (n₀ : Nat) (E : Nat → Prop) (W : World) : KeepE n₀ E W W := ⟨Nat.le_refl _, fun _ _ _ => rfl⟩
theorem KeepE.trans {n₀ : Nat} {E : Nat → Prop} {A B C : World} (h : KeepE n₀ E A B) (k : KeepE n₀ E B C) : KeepE n₀ E A C := ⟨Nat.le_trans h.size k.size, fun i hi hn => (k.block i hi hn).trans (h.block i hi hn)⟩
theorem KeepE.of_below {n₀ : Nat} {E : Nat → Prop} {A B : World} (h : Below n₀ A B) : KeepE n₀ E A B := ⟨h.size, fun k hk _ => h.block k hk⟩
theorem KeepE.cell {n₀ : Nat} {E : Nat → Prop} {A B : World} (h : KeepE n₀ E A B) {p : Addr} (hp : p.block < n₀) (hn : ¬ E p.block) : B.cell? p = A.cell? p := World.cell?_of_block (w := A) (h.block p.block hp hn)
theorem KeepE.set {n₀ : Nat} {E : Nat → Prop} {W : World} {b i : Nat} (hb : n₀ ≤ b ∨ E b) (v : Value) : KeepE n₀ E W (W.setCell ⟨b, i, none⟩ v) := by
  refine ⟨by simp, fun k hk hn => heap_setCell_other _ _ _ _ ?_⟩
  intro e
  have e' : k = b := e
  subst e'
  rcases hb with h | h
  · omega
  · exact hn h
end Go.Proofs.YtpodakndckflgaaGreatDoor

namespace Go.Proofs.YtpodakndckflgaaGreatDoor
open Go.RowKit Go.Shelf
set_option linter.unusedVariables false
section
variable {P : Program} {ops : Array Oper} {Q : Exit → Act → World → Prop} {md : Region.Mode} {S : World → Prop} {fin : Nat}
def wpAnyK (P : Program) (md : Region.Mode) (ops : Array Oper) (Q : Exit → Act → World → Prop) (S : World → Prop) (fin : Nat) : Nat → Array Bool → Act → World → Prop
  | 0, listed, a, w => Region.ready md ops listed = [] ∧ Q .normal a w
  | fuel + 1, listed, a, w =>
    (Region.ready md ops listed = [] → Q .normal a w) ∧
    ∀ i ∈ Region.ready md ops listed, wpOp P ops Q i (fun a' w' => (i ≠ fin → S w') ∧ wpAnyK P md ops Q S fin fuel (listed.setIfInBounds i true) a' w') a w
theorem wpAny_of_K : ∀ (fuel : Nat) (listed : Array Bool) (a : Act) (w : World), wpAnyK P md ops Q S fin fuel listed a w → wpAny P md ops Q fuel listed a w
  | 0, _, _, _, h => h
  | fuel + 1, _, _, _, h => ⟨h.1, fun i hi => wpOp_mono (fun a' w' h' => wpAny_of_K fuel _ a' w' h'.2) (h.2 i hi)⟩
theorem wpAnyK_first {i : Nat} {oi : Oper} {v : Value} (hi : ops[i]? = some oi) (hsel : ∀ (j : Nat) (o : Oper) cs b, ops[j]? = some o → o.op ≠ .select cs b)
    (hQ : ∀ c a w, Q (.panic c) (a.put oi.dst v) w → Q (.panic c) a w) (hfin : ∀ o, ops[fin]? = some o → ∃ e ∈ o.after, Region.binds md e = true ∧ e.on = i) :
    ∀ (fuel : Nat) (listed : Array Bool) (a : Act) (w : World),
      (∀ j oj, ops[j]? = some oj → j ≠ i → listed.getD j true = false → (∀ e ∈ oj.after, Region.binds md e = true → e.on ≠ i) → oi.apart ops oj = true) →
      i ∈ Region.ready md ops listed → YieldsIf P ops S oi v a → S w →
      wpAnyK P md ops Q S fin fuel (listed.setIfInBounds i true) (a.put oi.dst v) w → wpAnyK P md ops Q S fin (fuel + 1) listed a w := by
  intro fuel
  induction fuel with
  | zero =>
    intro listed a w _ hr hy hS H
    refine ⟨fun h => (by rw [h] at hr; cases hr), fun j hj => ?_⟩
    by_cases hji : j = i
    · subst hji; exact hy.wpOp hi hS ⟨fun _ => hS, H⟩
    · have := ready_mono hj hji
      rw [H.1] at this
      cases this
  | succ fuel ih =>
    intro listed a w hfree hr hy hS H
    refine ⟨fun h => (by rw [h] at hr; cases hr), fun j hj => ?_⟩
    by_cases hji : j = i
    · subst hji; exact hy.wpOp hi hS ⟨fun _ => hS, H⟩
    · have h1 := H.2 j (ready_mono hj hji)
      obtain ⟨hjun, oj, hoj, hall⟩ := mem_ready.1 hj
      have hnot : ∀ e ∈ oj.after, Region.binds md e = true → e.on ≠ i := fun e he hb heq => by
        have h1 := hall e he hb
        have h0 := (mem_ready.1 hr).1
        rw [heq] at h1
        rcases Nat.lt_or_ge i listed.size with h' | h'
        · simp [h'] at h0 h1; rw [h0] at h1; cases h1
        · simp [Array.getElem?_eq_none h'] at h1
      have hjf : j ≠ fin := by
        intro e
        subst e
        obtain ⟨e, he, hb, ho⟩ := hfin oj hoj
        exact hnot e he hb ho
      have h2 := wpOp_putIf hoj (hfree j oj hoj hji hjun hnot) (fun cs b => hsel i oi cs b hi) (fun cs b => hsel j oj cs b hoj) hQ hy h1
      have hfree' : ∀ k ok, ops[k]? = some ok → k ≠ i → (listed.setIfInBounds j true).getD k true = false →
          (∀ e ∈ ok.after, Region.binds md e = true → e.on ≠ i) → oi.apart ops ok = true := fun k ok hk hki hun hno => by
        refine hfree k ok hk hki ?_ hno
        by_cases hjk : j = k
        · subst hjk; exact hjun
        · rw [getD_set_ne true hjk] at hun; exact hun
      refine wpOp_mono (fun a' w' h3 => ⟨h3.2.1, ih (listed.setIfInBounds j true) a' w' hfree' (ready_mono hr (Ne.symm hji)) h3.1 (h3.2.1 hjf) ?_⟩) h2
      rw [Array.setIfInBounds_comm _ _ hji]
      exact h3.2.2
def fin16 (md : Region.Mode) (ops : Array Oper) (fin i : Nat) : Bool := decide (ops.size ≤ fin) || Region.waitsFor md ops fin i
theorem fin16_spec {i : Nat} (h : fin16 md ops fin i = true) : ∀ o, ops[fin]? = some o → ∃ e ∈ o.after, Region.binds md e = true ∧ e.on = i := by
  intro o ho
  simp only [fin16, Bool.or_eq_true, decide_eq_true_eq] at h
  rcases h with h | h
  · rw [Array.getElem?_eq_none h] at ho; cases ho
  · obtain ⟨oj, hj, e, he, hb⟩ := Region.waitsFor_spec h
    rw [ho] at hj
    cases hj
    exact ⟨e, he, hb⟩
theorem wpAnyK_take {i : Nat} {oi : Oper} {v : Value} {fuel : Nat} {listed : Array Bool} {a : Act} {w : World} (hi : ops[i]? = some oi)
    (hs : Region.noSelect ops = true) (hf : Region.free md ops listed i = true) (hr : (Region.ready md ops listed).contains i = true) (hfin : fin16 md ops fin i = true)
    (hQ : ∀ c a w, Q (.panic c) (a.put oi.dst v) w → Q (.panic c) a w) (hy : YieldsIf P ops S oi v a) (hS : S w)
    (h : wpAnyK P md ops Q S fin fuel (listed.setIfInBounds i true) (a.put oi.dst v) w) : wpAnyK P md ops Q S fin (fuel + 1) listed a w :=
  wpAnyK_first hi (Region.noSelect_spec hs) hQ (fin16_spec hfin) fuel listed a w (Region.free_spec hi hf) (by simpa using hr) hy hS h
/-- The one that may come up. -/
theorem wpAnyK_one {i : Nat} {fuel : Nat} {listed : Array Bool} {a : Act} {w : World} {o : Oper} (hr : Region.ready md ops listed = [i]) (ho : ops[i]? = some o)
    (h : ∀ K' : Act → World → Prop, Shut (∀ a w, (i ≠ fin → S w) → ((i ≠ fin → S w) → wpAnyK P md ops Q S fin fuel (listed.setIfInBounds i true) a w) → K' a w) → if Region.wanted o (yielded ops a.tmps) = true then Oper.wp P o a w K' Q else K' (a.put o.dst undef) w) :
    wpAnyK P md ops Q S fin (fuel + 1) listed a w :=
  ⟨fun h0 => (by rw [hr] at h0; cases h0), fun j hj => by
    rw [hr] at hj
    have : j = i := by simpa using hj
    subst this
    exact wpOp_step ho (fun K' hK => h K' (fun a w hS hW => hK a w ⟨hS, hW hS⟩))⟩
theorem wpAnyK_done {listed : Array Bool} {a : Act} {w : World} (hr : Region.ready md ops listed = []) (h : Q .normal a w) :
    ∀ fuel, wpAnyK P md ops Q S fin fuel listed a w
  | 0 => ⟨hr, h⟩
  | _ + 1 => ⟨fun _ => h, by rw [hr]; simp⟩
end
/-- The same outside of a round. -/
theorem plain_region16 {P : Program} {id : Nat} {Q : Exit → Act → World → Prop} {a : Act} {w : World} {ops : Array Oper} (S : World → Prop) (fin : Nat) (hm : P.follows .mixedOrders = true) (hS : S w.drew)
    (h : S w.drew → wpAnyK P .any ops Q S fin ops.size (Array.replicate ops.size false) a w.drew) : (Code.region id ops true).wp P Q a w :=
  wp_region_any hm (wpAny_of_K _ _ _ _ (h hS))
end Go.Proofs.YtpodakndckflgaaGreatDoor

namespace Go.Proofs.YtpodakndckflgaaGreatDoor
open Go.RowKit Go.Shelf
set_option linter.unusedVariables false
attribute [local go_sem] Oper.semAt_some
theorem one_cell16 {w : World} {b : Nat} {x : Value} {t : TypeId} (h : w.heap[b]? = some (.cells #[x] t (0, 0))) : w.cell? ⟨b, 0, none⟩ = some x := by simp [World.cell?, h]
theorem one_set16 {w : World} {b : Nat} {x : Value} {t : TypeId} (h : w.heap[b]? = some (.cells #[x] t (0, 0))) (u : Value) : (w.setCell ⟨b, 0, none⟩ u).heap[b]? = some (.cells #[u] t (0, 0)) := by
  simp [World.setCell, Array.getElem?_modify, h]
theorem below_drewN16 {B : Nat} {a b : World} (h : Below B a b) (n : Nat) : Below B a (b.drewN n) := ⟨h.os, h.tape, h.output, h.size, h.block⟩
structure Sq16 (w : World) (f1 f2 : Nat) (x y : Int) (W : World) : Prop where
  h1 : W.heap[f1]? = some (.cells #[.int .i64 x] 3 (0, 0))
  h2 : W.heap[f2]? = some (.cells #[.int .i64 y] 3 (0, 0))
  bl : Below w.heap.size w W
theorem Sq16.kp {w W W' : World} {f1 f2 : Nat} {x y : Int} {E : Nat → Prop} (h : Sq16 w f1 f2 x y W) (hk : Kp E W W') (h1 : ¬ E f1) (h2 : ¬ E f2) (hE : ∀ k, E k → w.heap.size ≤ k) : Sq16 w f1 f2 x y W' :=
  ⟨hk.heap h.h1 h1, hk.heap h.h2 h2, h.bl.trans (hk.below hE h.bl.size)⟩
end Go.Proofs.YtpodakndckflgaaGreatDoor
