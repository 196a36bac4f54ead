import Derived.WalkKit
import Derived.WalkSpells
import Derived.Test.YtboangeopbblnaaPb
import Derived.Laws.AppendOwnNone
namespace Go.Proofs.Ytboangeopbblnaa
open Go.RowKit
set_option linter.unusedVariables false
theorem three_cell0 {w : World} {b : Nat} {x y z : Value} {t : TypeId} (h : w.heap[b]? = some (.cells #[x, y, z] t (0, 0))) : w.cell? ⟨b, 0, none⟩ = some x := by simp [World.cell?, h]
theorem three_cell1 {w : World} {b : Nat} {x y z : Value} {t : TypeId} (h : w.heap[b]? = some (.cells #[x, y, z] t (0, 0))) : w.cell? ⟨b, 1, none⟩ = some y := by simp [World.cell?, h]
theorem three_cell2 {w : World} {b : Nat} {x y z : Value} {t : TypeId} (h : w.heap[b]? = some (.cells #[x, y, z] t (0, 0))) : w.cell? ⟨b, 2, none⟩ = some z := by simp [World.cell?, h]
structure Kp (S : Nat → Prop) (w w' : World) : Prop where
  os : w'.os = w.os
  tape : w'.tape = w.tape
  output : w'.output = w.output
  size : w.heap.size ≤ w'.heap.size
  block : ∀ k, k < w.heap.size → ¬ S k → w'.heap[k]? = w.heap[k]?
theorem Kp.refl (S : Nat → Prop) (w : World) : Kp S w w := ⟨rfl, rfl, rfl, Nat.le_refl _, fun _ _ _ => rfl⟩
theorem Kp.trans {S S' : Nat → Prop} {a b c : World} (h : Kp S a b) (k : Kp S' b c) (hs : ∀ i, i < a.heap.size → S' i → S i) : Kp S a c :=
  ⟨k.os.trans h.os, k.tape.trans h.tape, k.output.trans h.output, Nat.le_trans h.size k.size, fun i hi hn => (k.block i (Nat.lt_of_lt_of_le hi h.size) (fun e => hn (hs i hi e))).trans (h.block i hi hn)⟩
theorem Kp.mono {S S' : Nat → Prop} {a b : World} (h : Kp S a b) (hs : ∀ i, i < a.heap.size → S i → S' i) : Kp S' a b :=
  ⟨h.os, h.tape, h.output, h.size, fun i hi hn => h.block i hi (fun e => hn (hs i hi e))⟩
theorem Kp.grown {S : Nat → Prop} {a b : World} {row : Option Nat} (h : a.grownBy b row) (hs : ∀ i, row = some i → S i) : Kp S a b :=
  ⟨h.os, h.tape, h.output, h.size, fun i hi hn => h.block i hi (fun e => hn (hs i e.symm))⟩
theorem Kp.of_below {S : Nat → Prop} {a b : World} (h : Below a.heap.size a b) : Kp S a b := ⟨h.os, h.tape, h.output, h.size, fun i hi _ => h.block i hi⟩
theorem Kp.below {S : Nat → Prop} {a b : World} {B : Nat} (h : Kp S a b) (hs : ∀ i, S i → B ≤ i) (hB : B ≤ a.heap.size) : Below B a b :=
  ⟨h.os, h.tape, h.output, h.size, fun i hi => h.block i (Nat.lt_of_lt_of_le hi hB) (fun e => by have := hs i e; omega)⟩
theorem Kp.set {S : Nat → Prop} {w : World} {b i : Nat} (hb : S b) (x : Value) : Kp S w (w.setCell ⟨b, i, none⟩ x) :=
  .grown (grownBy_set (World.grownBy.refl _ _) _) (by intro j e; cases e; exact hb)
theorem Kp.alloc {S : Nat → Prop} (w : World) (o : Obj) : Kp S w (w.alloc o) := .of_below ((Below.refl _ _).alloc (Nat.le_refl _) _)
theorem Kp.drew {S : Nat → Prop} {a b : World} (h : Kp S a b) : Kp S a b.drew := ⟨h.os, h.tape, h.output, h.size, h.block⟩
theorem Kp.drewN {S : Nat → Prop} {a b : World} (h : Kp S a b) (n : Nat) : Kp S a (b.drewN n) := ⟨h.os, h.tape, h.output, h.size, h.block⟩
theorem Kp.heap {S : Nat → Prop} {a b : World} {k : Nat} {o : Obj} (h : Kp S a b) (hk : a.heap[k]? = some o) (hn : ¬ S k) : b.heap[k]? = some o := by
  rw [h.block k (Array.getElem?_eq_some_iff.1 hk).1 hn]; exact hk

theorem own_kp {w w' : World} {S : Nat → Prop} {base n : Nat} {e : TypeId} {v : Value} {xs : List Value} (h : w.ownsRow base e 1 v n xs) (hb : Kp S w w') (hn : ∀ k, v.ownBlock = some k → ¬ S k) : w'.ownsRow base e 1 v n xs := by
  refine ⟨h.1, ?_⟩
  rcases h.2 with h2 | ⟨g, cap, cur, hv, hg, hh, r⟩
  · exact Or.inl h2
  · exact Or.inr ⟨g, cap, cur, hv, hg, hb.heap hh (hn g (by rw [hv]; rfl)), r⟩
theorem SegK.kp {k : IntKind} {M : Int} {w w' : World} {S : Nat → Prop} {a : Option Addr} {zs : List Int} (h : SegK k M w a zs) (hb : Kp S w w') (hn : ∀ b off, a = some ⟨b, off, none⟩ → 0 < zs.length → ¬ S b) : SegK k M w' a zs :=
  h.of_cells fun b off i v hi ha hcl => by
    have hlt : b < w.heap.size := World.block_lt_of_cell? w _ hcl
    rw [World.cell?_of_block (a := ⟨b, off + i, none⟩) (hb.block b hlt (hn b off ha (by omega)))]
    exact hcl

/-- The row lies at its old place, or in a new block. -/
def Fresh (w : World) (v v' : Value) : Prop := ∀ k, v'.ownBlock = some k → v.ownBlock = some k ∨ w.heap.size ≤ k

structure SegB (w : World) (a : Option Addr) (L : List Bool) : Prop where
  at_ : ∀ i, i < L.length → ∃ b off, a = some ⟨b, off, none⟩ ∧ w.cell? ⟨b, off + i, none⟩ = some (.bool (L.getD i false))
theorem SegB.of_cells {w w' : World} {a : Option Addr} {L : List Bool} (h : SegB w a L) (hc : ∀ b off i v, i < L.length → a = some ⟨b, off, none⟩ → w.cell? ⟨b, off + i, none⟩ = some v → w'.cell? ⟨b, off + i, none⟩ = some v) : SegB w' a L :=
  ⟨fun i hi => by obtain ⟨b, off, ha, hcl⟩ := h.at_ i hi; exact ⟨b, off, ha, hc b off i _ hi ha hcl⟩⟩
theorem SegB.old {w w' : World} {a : Option Addr} {L : List Bool} (h : SegB w a L) (hb : Below w.heap.size w w') : SegB w' a L :=
  h.of_cells fun b off i v hi ha hcl => (hb.cell (p := ⟨b, off + i, none⟩) (World.block_lt_of_cell? w _ hcl)).trans hcl
theorem SegB.drop {w : World} {b off : Nat} {L : List Bool} (h : SegB w (some ⟨b, off, none⟩) L) (m : Nat) : SegB w (some ⟨b, off + m, none⟩) (L.drop m) := by
  refine ⟨fun i hi => ?_⟩
  simp at hi
  obtain ⟨b', off', ha, hc⟩ := h.at_ (m + i) (by omega)
  cases ha
  refine ⟨b, off + m, rfl, ?_⟩
  rw [Nat.add_assoc, hc]
  simp [List.getD]
theorem own_segB {w : World} {base n : Nat} {e : TypeId} {a : Option Addr} {cap : Nat} {L : List Bool} (h : w.ownsRow base e 1 (.slice a n cap) n (L.map Value.bool)) : SegB w a L := by
  rcases h.2 with ⟨h0, hn⟩ | ⟨g, cp, cur, hv, hg, hh, hc, _, _, ht⟩
  · have : L = [] := List.eq_nil_of_length_eq_zero (by have := h.1; simp at this; omega)
    subst this
    exact ⟨fun i hi => by simp at hi⟩
  · simp only [Value.slice.injEq] at hv
    obtain ⟨rfl, _, rfl⟩ := hv
    refine ⟨fun i hi => ⟨g, 0, rfl, ?_⟩⟩
    have := h.cells (g := g) rfl i (.bool (L.getD i false)) (by simp [List.getD, hi])
    have hadd : (⟨g, 0, none⟩ : Addr).add i = ⟨g, 0 + i, none⟩ := by unfold Addr.add; split <;> simp_all
    rw [hadd] at this
    exact this
end Go.Proofs.Ytboangeopbblnaa
