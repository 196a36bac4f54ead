import Derived.WalkKit
import Derived.Deep.Draws
import Derived.OneCell
import Derived.WalkSpells
import Derived.Laws.AppendOwnNone
import Derived.Test.YtmfpdchfofffeaaGreatDoorProg
import Derived.BigQuiet
import Derived.Deep.QuietTactic
import Derived.WalkLawsBesides
import Derived.Deep.OwnRows
import Derived.Deep.AppendLies
import Derived.Below
namespace Go.Proofs.YtmfpdchfofffeaaGreatDoor
open Go.RowKit
theorem two_cell0 {w : World} {b : Nat} {u v : Value} {t : TypeId} (h : w.heap[b]? = some (.cells #[u, v] t (0, 0))) : w.cell? ⟨b, 0, none⟩ = some u := by simp [World.cell?, h]
theorem two_cell1 {w : World} {b : Nat} {u v : Value} {t : TypeId} (h : w.heap[b]? = some (.cells #[u, v] t (0, 0))) : w.cell? ⟨b, 1, none⟩ = some v := by simp [World.cell?, h]
theorem two_free {w : World} {b : Nat} {u v : Value} {t : TypeId} (h : w.heap[b]? = some (.cells #[u, v] t (0, 0))) (i : Nat) : w.frozen? ⟨b, i, none⟩ = false := by simp [World.frozen?, h]
theorem two_set0 {w : World} {b : Nat} {u v : Value} {t : TypeId} (h : w.heap[b]? = some (.cells #[u, v] t (0, 0))) (x : Value) : (w.setCell ⟨b, 0, none⟩ x).heap[b]? = some (.cells #[x, v] t (0, 0)) := by
  simp [World.setCell, Array.getElem?_modify, h]
theorem two_set1 {w : World} {b : Nat} {u v : Value} {t : TypeId} (h : w.heap[b]? = some (.cells #[u, v] t (0, 0))) (x : Value) : (w.setCell ⟨b, 1, none⟩ x).heap[b]? = some (.cells #[u, x] t (0, 0)) := by
  simp [World.setCell, Array.getElem?_modify, h]

theorem grownBy_trans {a b c : World} {row : Option Nat} (h : a.grownBy b row) (k : b.grownBy c row) : a.grownBy c row :=
  ⟨k.os.trans h.os, k.tape.trans h.tape, k.output.trans h.output, Nat.le_trans h.size k.size, fun i hi hne => (k.block i (Nat.lt_of_lt_of_le hi h.size) hne).trans (h.block i hi hne)⟩
theorem grownBy_drew {a b : World} {row : Option Nat} (h : a.grownBy b row) : a.grownBy b.drew row := ⟨h.os, h.tape, h.output, h.size, h.block⟩
theorem grownBy_set {a w : World} {b i : Nat} (h : a.grownBy w (some b)) (x : Value) : a.grownBy (w.setCell ⟨b, i, none⟩ x) (some b) :=
  grownBy_trans h ⟨rfl, rfl, rfl, by simp [World.setCell], fun k _ hne => Below.heap_setCell _ _ _ _ (fun e => hne (by rw [e]))⟩
theorem below_of_grown {a w : World} {b B : Nat} (h : a.grownBy w (some b)) (hB : B ≤ b) (hs : B ≤ a.heap.size) : Below B a w :=
  (Below.refl B a).grown h hs (by intro k e; cases e; exact hB)

end Go.Proofs.YtmfpdchfofffeaaGreatDoor

namespace Go.Proofs.YtmfpdchfofffeaaGreatDoor
open Go.RowKit
set_option linter.unusedVariables false
/-- Bytes lie where a slice's address leads. -/
structure SegK (k : IntKind) (M : Int) (w : World) (a : Option Addr) (zs : List Int) : Prop where
  at_ : ∀ i, i < zs.length → ∃ b off, a = some ⟨b, off, none⟩ ∧ w.cell? ⟨b, off + i, none⟩ = some (.int k (zs.getD i 0))
  pos : 0 ≤ M
  bd : ∀ i, 0 ≤ zs.getD i 0 ∧ zs.getD i 0 ≤ M
abbrev Seg (w : World) (a : Option Addr) (zs : List Int) : Prop := SegK .u8 255 w a zs
abbrev Seg64 (w : World) (a : Option Addr) (zs : List Int) : Prop := SegK .u64 18446744073709551615 w a zs
variable {k : IntKind} {M : Int}
theorem SegK.nil (hM : 0 ≤ M) (w : World) (a : Option Addr) : SegK k M w a [] := ⟨fun i h => by simp at h, hM, fun i => by simp [hM]⟩
theorem SegK.of_cells {w w' : World} {a : Option Addr} {zs : List Int} (h : SegK k M w a zs) (hc : ∀ b off i v, i < zs.length → a = some ⟨b, off, none⟩ → w.cell? ⟨b, off + i, none⟩ = some v → w'.cell? ⟨b, off + i, none⟩ = some v) : SegK k M w' a zs :=
  ⟨fun i hi => by obtain ⟨b, off, ha, hcl⟩ := h.at_ i hi; exact ⟨b, off, ha, hc b off i _ hi ha hcl⟩, h.pos, h.bd⟩
theorem SegK.below {w w' : World} {a : Option Addr} {zs : List Int} {B : Nat} (h : SegK k M w a zs) (hb : Below B w w') (hB : ∀ b off, a = some ⟨b, off, none⟩ → 0 < zs.length → b < B) : SegK k M w' a zs :=
  h.of_cells fun b off i v hi ha hcl => (hb.cell (p := ⟨b, off + i, none⟩) (hB b off ha (by omega))).trans hcl
theorem SegK.lt {w : World} {a : Option Addr} {zs : List Int} (h : SegK k M w a zs) : ∀ b off, a = some ⟨b, off, none⟩ → 0 < zs.length → b < w.heap.size := by
  intro b off ha hl
  obtain ⟨b', off', ha', hc⟩ := h.at_ 0 hl
  rw [ha] at ha'
  cases ha'
  exact World.block_lt_of_cell? w _ hc
theorem SegK.old {w w' : World} {a : Option Addr} {zs : List Int} (h : SegK k M w a zs) (hb : Below w.heap.size w w') : SegK k M w' a zs := h.below hb h.lt
theorem SegK.drewN {w : World} {a : Option Addr} {zs : List Int} (h : SegK k M w a zs) (n : Nat) : SegK k M (w.drewN n) a zs := ⟨h.at_, h.pos, h.bd⟩
theorem SegK.drew {w : World} {a : Option Addr} {zs : List Int} (h : SegK k M w a zs) : SegK k M w.drew a zs := ⟨h.at_, h.pos, h.bd⟩
theorem SegK.alloc {w : World} {a : Option Addr} {zs : List Int} (h : SegK k M w a zs) (o : Obj) : SegK k M (w.alloc o) a zs := h.old ((Below.refl _ _).alloc (Nat.le_refl _) o)
theorem SegK.grown {w w' : World} {a : Option Addr} {zs : List Int} {row : Option Nat} (h : SegK k M w a zs) (hg : w.grownBy w' row) (hne : ∀ b off, a = some ⟨b, off, none⟩ → 0 < zs.length → some b ≠ row) : SegK k M w' a zs :=
  h.of_cells fun b off i v hi ha hcl => hg.cell hcl (hne b off ha (by omega))
theorem SegK.take {w : World} {a : Option Addr} {zs : List Int} (h : SegK k M w a zs) (m : Nat) : SegK k M w a (zs.take m) := by
  refine ⟨fun i hi => ?_, h.pos, fun i => ?_⟩
  · simp at hi
    obtain ⟨b, off, ha, hc⟩ := h.at_ i (by omega)
    refine ⟨b, off, ha, ?_⟩
    rw [hc]
    have hk : i < m := by omega
    simp [List.getD, hk]
  · have := h.bd i
    simp only [List.getD, List.getElem?_take]
    split
    · exact this
    · simp [h.pos]
theorem SegK.mem {w : World} {a : Option Addr} {zs : List Int} (h : SegK k M w a zs) : ∀ z ∈ zs, 0 ≤ z ∧ z ≤ M := by
  intro z hz
  obtain ⟨i, hi, rfl⟩ := List.mem_iff_getElem.1 hz
  have := h.bd i
  simpa [List.getD, hi] using this
theorem SegK.drop {w : World} {b off : Nat} {zs : List Int} (h : SegK k M w (some ⟨b, off, none⟩) zs) (m : Nat) : SegK k M w (some ⟨b, off + m, none⟩) (zs.drop m) := by
  refine ⟨fun i hi => ?_, h.pos, fun i => ?_⟩
  · simp at hi
    obtain ⟨b', off', ha, hc⟩ := h.at_ (m + i) (by omega)
    cases ha
    refine ⟨b, off + m, rfl, ?_⟩
    rw [Nat.add_assoc, hc]
    simp [List.getD]
  · have := h.bd (m + i)
    simpa [List.getD] using this
end Go.Proofs.YtmfpdchfofffeaaGreatDoor

namespace Go.Proofs.YtmfpdchfofffeaaGreatDoor
open Go.RowKit
set_option linter.unusedVariables false
/-- 'out = append(out, y)', y one cell that lies in a block of its own, out the call's own row. -/
theorem wpList_push {P : Program} {ops : Array Oper} {rest : List Oper} {o : Oper} {a : Act} {Q : Exit → Act → World → Prop} (hgd : o.guard = none) (s x : Operand) (t : TypeId)
    (ho : o.op = .call { callee := .builtin .append, args := #[s, x], argTypes := #[t, t] })
    (base : Nat) (e : TypeId) (i : TypeInfo) (z : Value) (bytes : Nat) (ht : P.underlying t = some (.slice e)) (hi : P.info? e = some i) (hz : i.zero = some z)
    (hsize : i.size = 1) (hby : i.bytes = bytes) (hzs : z.cells.size = 1)
    (w0 : World) (y : Value) (hy : y.oneCell' = true) {v : Value} {n : Nat} {xs : List Value} (hown : w0.ownsRow base e 1 v n xs) (hs : a.eval s = v) (hx : a.eval x = .slice (some ⟨w0.heap.size, 0, none⟩) 1 1)
    (h63 : n + 1 ≤ 140737488355328) (hbytes : (n + 1) * bytes ≤ 140737488355328) (hbase : base ≤ w0.heap.size)
    (h : ∀ v' w', w'.ownsRow base e 1 v' (n + 1) (xs ++ [y]) → w0.grownBy w' v.ownBlock → Below base w0 w' → wpList P ops Q rest (a.put o.dst v') w') : wpList P ops Q (o :: rest) a (w0.alloc (.cells #[y] e)) := by
  refine wpList_append_own _ hgd s x t ho base e i z 1 bytes ht hi hz hsize hby hzs (by decide) v n xs hs (hown.alloc _) ⟨w0.heap.size, 0, none⟩ 1 1 [y] hx rfl (cell_one_new _ _ _) ?_ (by unfold maxLen; omega) hbytes (by simp; omega) ?_
  · intro u hu; simp at hu; subst hu; exact hy
  · intro v' w' h1 h2 _
    have hg : w0.grownBy w' v.ownBlock := grownBy_trans (World.grownBy_alloc w0 _ _) h2
    exact h v' w' h1 hg ((Below.refl _ _).grown hg hbase (fun k hk => (hown.lt k hk).1))

theorem seg_cells {k : IntKind} {M : Int} {w : World} {x : Addr} {zs : List Int} (h : SegK k M w (some x) zs) : ∀ j u, (zs.map (Value.int k))[j]? = some u → w.cell? (x.add j) = some u := by
  intro j u hu
  have hj : j < zs.length := by
    rcases Nat.lt_or_ge j zs.length with h | h
    · exact h
    · simp [List.getElem?_eq_none h] at hu
  obtain ⟨b, off, hx, hc⟩ := h.at_ j hj
  cases hx
  have hadd : (⟨b, off, none⟩ : Addr).add j = ⟨b, off + j, none⟩ := by unfold Addr.add; split <;> simp_all
  rw [hadd, hc]
  simp [hj] at hu
  subst hu
  simp [List.getD, hj]

end Go.Proofs.YtmfpdchfofffeaaGreatDoor

namespace Go.Proofs.YtmfpdchfofffeaaGreatDoor
open Go.RowKit
set_option linter.unusedVariables false
theorem getD_bd {zs : List Int} {M : Int} (hM : 0 ≤ M) (h : ∀ z ∈ zs, 0 ≤ z ∧ z ≤ M) (i : Nat) : 0 ≤ zs.getD i 0 ∧ zs.getD i 0 ≤ M := by
  by_cases hi : i < zs.length
  · have := h zs[i] (List.getElem_mem hi)
    simpa [List.getD, hi] using this
  · have : zs[i]? = none := List.getElem?_eq_none (by omega)
    simp [List.getD, this, hM]

/-- A row that the call owns, as bytes that lie there. -/
theorem own_seg {w : World} {base n : Nat} {e : TypeId} {v : Value} {k : IntKind} {M : Int} {zs : List Int} (h : w.ownsRow base e 1 v n (zs.map (Value.int k))) (hM : 0 ≤ M) (hb : ∀ z ∈ zs, 0 ≤ z ∧ z ≤ M) :
    n = zs.length ∧ ∃ a cap, v = .slice a n cap ∧ SegK k M w a zs ∧ (∀ x, a = some x → x.off = 0 ∧ x.spot = none ∧ base ≤ x.block ∧ x.block < w.heap.size) ∧ n ≤ cap ∧ v.ownBlock = a.map (·.block) := by
  have hl : zs.length = n := by simpa using h.1
  refine ⟨hl.symm, ?_⟩
  rcases h.2 with ⟨rfl, hn⟩ | ⟨g, cap, cur, rfl, hg, hh, hc, _, _, ht⟩
  · have : zs = [] := List.eq_nil_of_length_eq_zero (by omega)
    subst this
    exact ⟨none, 0, by rw [hn], SegK.nil hM _ _, by simp, by omega, rfl⟩
  · refine ⟨some ⟨g, 0, none⟩, cap, rfl, ⟨fun i hi => ⟨g, 0, rfl, ?_⟩, hM, getD_bd hM hb⟩, ?_, hc, rfl⟩
    · have := h.cells (g := g) rfl i (.int k (zs.getD i 0)) (by simp [List.getD, hi])
      have hadd : (⟨g, 0, none⟩ : Addr).add i = ⟨g, 0 + i, none⟩ := by unfold Addr.add; split <;> simp_all
      rw [hadd] at this
      exact this
    · intro x hx
      cases hx
      exact ⟨rfl, rfl, hg, (Array.getElem?_eq_some_iff.1 hh).1⟩

/-- What is owned stays owned where nothing that was there turned. -/
theorem own_below {w w' : World} {base n : Nat} {e : TypeId} {v : Value} {xs : List Value} (h : w.ownsRow base e 1 v n xs) (hb : Below w.heap.size w w') : w'.ownsRow base e 1 v n xs := by
  refine ⟨h.1, ?_⟩
  rcases h.2 with h2 | ⟨g, cap, cur, hv, hg, hh, r⟩
  · exact Or.inl h2
  · exact Or.inr ⟨g, cap, cur, hv, hg, by rw [hb.block g (Array.getElem?_eq_some_iff.1 hh).1]; exact hh, r⟩
theorem own_base {w : World} {base base' n : Nat} {e : TypeId} {v : Value} {xs : List Value} (h : w.ownsRow base e 1 v n xs) (hb : base' ≤ base) : w.ownsRow base' e 1 v n xs := by
  refine ⟨h.1, ?_⟩
  rcases h.2 with h2 | ⟨g, cap, cur, hv, hg, r⟩
  · exact Or.inl h2
  · exact Or.inr ⟨g, cap, cur, hv, by omega, r⟩
end Go.Proofs.YtmfpdchfofffeaaGreatDoor

namespace Go.Proofs.YtmfpdchfofffeaaGreatDoor
open Go.RowKit
set_option linter.unusedVariables false
theorem three_cell0 {w : World} {b : Nat} {x y z : Value} {t : TypeId} (h : w.heap[b]? = some (.cells #[x, y, z] t (0, 0))) : w.cell? ⟨b, 0, none⟩ = some x := by simp [World.cell?, h]
theorem three_cell1 {w : World} {b : Nat} {x y z : Value} {t : TypeId} (h : w.heap[b]? = some (.cells #[x, y, z] t (0, 0))) : w.cell? ⟨b, 1, none⟩ = some y := by simp [World.cell?, h]
theorem three_cell2 {w : World} {b : Nat} {x y z : Value} {t : TypeId} (h : w.heap[b]? = some (.cells #[x, y, z] t (0, 0))) : w.cell? ⟨b, 2, none⟩ = some z := by simp [World.cell?, h]
structure Kp (S : Nat → Prop) (w w' : World) : Prop where
  os : w'.os = w.os
  tape : w'.tape = w.tape
  output : w'.output = w.output
  size : w.heap.size ≤ w'.heap.size
  block : ∀ k, k < w.heap.size → ¬ S k → w'.heap[k]? = w.heap[k]?
theorem Kp.refl (S : Nat → Prop) (w : World) : Kp S w w := ⟨rfl, rfl, rfl, Nat.le_refl _, fun _ _ _ => rfl⟩
theorem Kp.trans {S S' : Nat → Prop} {a b c : World} (h : Kp S a b) (k : Kp S' b c) (hs : ∀ i, i < a.heap.size → S' i → S i) : Kp S a c :=
  ⟨k.os.trans h.os, k.tape.trans h.tape, k.output.trans h.output, Nat.le_trans h.size k.size, fun i hi hn => (k.block i (Nat.lt_of_lt_of_le hi h.size) (fun e => hn (hs i hi e))).trans (h.block i hi hn)⟩
theorem Kp.mono {S S' : Nat → Prop} {a b : World} (h : Kp S a b) (hs : ∀ i, i < a.heap.size → S i → S' i) : Kp S' a b :=
  ⟨h.os, h.tape, h.output, h.size, fun i hi hn => h.block i hi (fun e => hn (hs i hi e))⟩
theorem Kp.grown {S : Nat → Prop} {a b : World} {row : Option Nat} (h : a.grownBy b row) (hs : ∀ i, row = some i → S i) : Kp S a b :=
  ⟨h.os, h.tape, h.output, h.size, fun i hi hn => h.block i hi (fun e => hn (hs i e.symm))⟩
theorem Kp.of_below {S : Nat → Prop} {a b : World} (h : Below a.heap.size a b) : Kp S a b := ⟨h.os, h.tape, h.output, h.size, fun i hi _ => h.block i hi⟩
theorem Kp.below {S : Nat → Prop} {a b : World} {B : Nat} (h : Kp S a b) (hs : ∀ i, S i → B ≤ i) (hB : B ≤ a.heap.size) : Below B a b :=
  ⟨h.os, h.tape, h.output, h.size, fun i hi => h.block i (Nat.lt_of_lt_of_le hi hB) (fun e => by have := hs i e; omega)⟩
theorem Kp.set {S : Nat → Prop} {w : World} {b i : Nat} (hb : S b) (x : Value) : Kp S w (w.setCell ⟨b, i, none⟩ x) :=
  .grown (grownBy_set (World.grownBy.refl _ _) _) (by intro j e; cases e; exact hb)
theorem Kp.alloc {S : Nat → Prop} (w : World) (o : Obj) : Kp S w (w.alloc o) := .of_below ((Below.refl _ _).alloc (Nat.le_refl _) _)
theorem Kp.drew {S : Nat → Prop} {a b : World} (h : Kp S a b) : Kp S a b.drew := ⟨h.os, h.tape, h.output, h.size, h.block⟩
theorem Kp.drewN {S : Nat → Prop} {a b : World} (h : Kp S a b) (n : Nat) : Kp S a (b.drewN n) := ⟨h.os, h.tape, h.output, h.size, h.block⟩
theorem Kp.heap {S : Nat → Prop} {a b : World} {k : Nat} {o : Obj} (h : Kp S a b) (hk : a.heap[k]? = some o) (hn : ¬ S k) : b.heap[k]? = some o := by
  rw [h.block k (Array.getElem?_eq_some_iff.1 hk).1 hn]; exact hk

theorem own_kp {w w' : World} {S : Nat → Prop} {base n : Nat} {e : TypeId} {v : Value} {xs : List Value} (h : w.ownsRow base e 1 v n xs) (hb : Kp S w w') (hn : ∀ k, v.ownBlock = some k → ¬ S k) : w'.ownsRow base e 1 v n xs := by
  refine ⟨h.1, ?_⟩
  rcases h.2 with h2 | ⟨g, cap, cur, hv, hg, hh, r⟩
  · exact Or.inl h2
  · exact Or.inr ⟨g, cap, cur, hv, hg, hb.heap hh (hn g (by rw [hv]; rfl)), r⟩
theorem SegK.kp {k : IntKind} {M : Int} {w w' : World} {S : Nat → Prop} {a : Option Addr} {zs : List Int} (h : SegK k M w a zs) (hb : Kp S w w') (hn : ∀ b off, a = some ⟨b, off, none⟩ → 0 < zs.length → ¬ S b) : SegK k M w' a zs :=
  h.of_cells fun b off i v hi ha hcl => by
    have hlt : b < w.heap.size := World.block_lt_of_cell? w _ hcl
    rw [World.cell?_of_block (a := ⟨b, off + i, none⟩) (hb.block b hlt (hn b off ha (by omega)))]
    exact hcl

/-- The row lies at its old place, or in a new block. -/
def Fresh (w : World) (v v' : Value) : Prop := ∀ k, v'.ownBlock = some k → v.ownBlock = some k ∨ w.heap.size ≤ k

/-- An append onto a row of the call's own. -/
theorem run_app_st {P : Program} (t ty : TypeId) (base : Nat) (e : TypeId) (i : TypeInfo) (z : Value) (bytes : Nat) (ht : P.underlying t = some (.slice e)) (hi : P.info? e = some i) (hz : i.zero = some z)
    (hsize : i.size = 1) (hby : i.bytes = bytes) (hzs : z.cells.size = 1)
    (w : World) {v : Value} {n : Nat} {xs : List Value} (hown : w.ownsRow base e 1 v n xs) (a : Addr) (m c : Nat) (news : List Value) (hl : news.length = m) (hnews : ∀ j u, news[j]? = some u → w.cell? (a.add j) = some u) (h1 : ∀ u ∈ news, u.oneCell' = true)
    (h63 : n + m ≤ 140737488355328) (hbytes : (n + m) * bytes ≤ 140737488355328) (hbase : base ≤ w.heap.size) :
    ∃ v' w', (Builtin.append_ #[t, t] ty #[v, .slice (some a) m c]).run P w = .ok v' w' ∧ w'.ownsRow base e 1 v' (n + m) (xs ++ news) ∧ w.grownBy w' v.ownBlock ∧ (v' = .slice none 0 0 ↔ v = .slice none 0 0 ∧ m = 0) ∧ Fresh w v v' := by
  obtain ⟨v', w', hr, h2, h3, h4⟩ := run_append_own (P := P) w base t ty e i z 1 bytes ht hi hz hsize hby hzs (by decide) v n xs hown a m c news (by omega) hnews h1 (by unfold maxLen; omega) hbytes hbase
  refine ⟨v', w', hr, h2, h3, h4, ?_⟩
  subst hby
  rcases hown.2 with ⟨rfl, rfl⟩ | ⟨g, cap, cur, rfl, hbg, hg, hnc, hcm, hcs, htake⟩
  · by_cases hm : m = 0
    · rw [h4.2 ⟨rfl, hm⟩]
      intro k hk; cases hk
    · have hr2 := run_append_nil (P := P) w t ty e i z ht hi hz a m c news (by rw [hsize]; omega) hnews (by omega) (by omega) (by simp only [Nat.zero_add] at hbytes; omega)
      rw [hr] at hr2
      simp only [Result.ok.injEq] at hr2
      obtain ⟨rfl, rfl⟩ := hr2
      intro k hk; cases hk; exact .inr (Nat.le_refl _)
  · by_cases hroom : n + m ≤ cap
    · have hr2 := run_append_room (P := P) w t ty e i ht hi g n cap cur hg a m c news (by rw [hsize]; omega) hnews h1 hroom (by rw [hsize]; omega)
      rw [hr] at hr2
      simp only [Result.ok.injEq] at hr2
      obtain ⟨rfl, rfl⟩ := hr2
      intro k hk; exact .inl hk
    · have hr2 := run_append_grow (P := P) w t ty e i z ht hi hz ⟨g, 0, none⟩ n cap xs (by rw [hsize]; exact hown.1) (hown.cells (g := g) rfl) a m c news (by rw [hsize]; omega) hnews (by omega) (by omega) (growslice_fits (by omega) hbytes)
      rw [hr] at hr2
      simp only [Result.ok.injEq] at hr2
      obtain ⟨rfl, rfl⟩ := hr2
      intro k hk; cases hk; exact .inr (Nat.le_refl _)

/-- 'out = append(out, src...)', src whatever one-cell values lie there; the row is at its place, or in a new block. -/
theorem wpList_app {P : Program} {ops : Array Oper} {rest : List Oper} {o : Oper} {a : Act} {Q : Exit → Act → World → Prop} (hgd : o.guard = none) (s x : Operand) (t : TypeId)
    (ho : o.op = .call { callee := .builtin .append, args := #[s, x], argTypes := #[t, t] })
    (base : Nat) (e : TypeId) (i : TypeInfo) (z : Value) (bytes : Nat) (ht : P.underlying t = some (.slice e)) (hi : P.info? e = some i) (hz : i.zero = some z)
    (hsize : i.size = 1) (hby : i.bytes = bytes) (hzs : z.cells.size = 1)
    {w : World} {v : Value} {n : Nat} {xs : List Value} (hown : w.ownsRow base e 1 v n xs) {ad : Addr} {m cap : Nat} {news : List Value} (hl : news.length = m) (hnews : ∀ j u, news[j]? = some u → w.cell? (ad.add j) = some u) (h1 : ∀ u ∈ news, u.oneCell' = true)
    (hs : a.eval s = v) (hx : a.eval x = .slice (some ad) m cap)
    (h63 : n + m ≤ 140737488355328) (hbytes : (n + m) * bytes ≤ 140737488355328) (hbase : base ≤ w.heap.size)
    (h : ∀ (b : Option Addr) (c : Nat) (w' : World), w'.ownsRow base e 1 (.slice b (n + m) c) (n + m) (xs ++ news) → w.grownBy w' v.ownBlock → Fresh w v (.slice b (n + m) c) → (Value.slice b (n + m) c = .slice none 0 0 ↔ v = .slice none 0 0 ∧ m = 0) → wpList P ops Q rest (a.put o.dst (.slice b (n + m) c)) w') : wpList P ops Q (o :: rest) a w := by
  obtain ⟨v', w', hr, h2, h3, h4, h5⟩ := run_app_st (P := P) t o.type base e i z bytes ht hi hz hsize hby hzs w hown ad m cap news hl hnews h1 h63 hbytes hbase
  obtain ⟨b, c, rfl⟩ : ∃ b c, v' = .slice b (n + m) c := by
    rcases h2.2 with ⟨rfl, h0⟩ | ⟨g, cp, cur, rfl, _⟩
    · exact ⟨none, 0, by rw [h0]⟩
    · exact ⟨_, _, rfl⟩
  refine wpList_plain hgd fun K hK => ?_
  unfold Oper.wp execOp
  simp only [ho, resolve, invoke, builtin, Sem.run_bind, Sem.run_pure, Result.andThen_ok, List.map_toArray, List.map_cons, List.map_nil, hs, hx, hr]
  exact hK _ _ (h b c w' h2 h3 h5 h4)

/-- Numbers that lie somewhere, behind a row. -/
theorem wpList_appS {P : Program} {ops : Array Oper} {rest : List Oper} {o : Oper} {a : Act} {Q : Exit → Act → World → Prop} (hgd : o.guard = none) (s x : Operand) (t : TypeId)
    (ho : o.op = .call { callee := .builtin .append, args := #[s, x], argTypes := #[t, t] })
    (base : Nat) (e : TypeId) (i : TypeInfo) (z : Value) (bytes : Nat) (ht : P.underlying t = some (.slice e)) (hi : P.info? e = some i) (hz : i.zero = some z)
    (hsize : i.size = 1) (hby : i.bytes = bytes) (hzs : z.cells.size = 1)
    {w : World} {ra : Option Addr} {rc : Nat} {n : Nat} {xs : List Value} (hown : w.ownsRow base e 1 (.slice ra n rc) n xs) {k : IntKind} {M : Int} {ao : Option Addr} {zs : List Int} {cap : Nat} (hseg : SegK k M w ao zs) (hnil : ao = none → cap = 0)
    (hs : a.eval s = .slice ra n rc) (hx : a.eval x = .slice ao zs.length cap)
    (h63 : n + zs.length ≤ 140737488355328) (hbytes : (n + zs.length) * bytes ≤ 140737488355328) (hbase : base ≤ w.heap.size)
    (h : ∀ (b : Option Addr) (c : Nat) (w' : World), w'.ownsRow base e 1 (.slice b (n + zs.length) c) (n + zs.length) (xs ++ zs.map (Value.int k)) → w.grownBy w' (Value.slice ra n rc).ownBlock → Fresh w (.slice ra n rc) (.slice b (n + zs.length) c) → (Value.slice b (n + zs.length) c = .slice none 0 0 ↔ Value.slice ra n rc = .slice none 0 0 ∧ zs.length = 0) → wpList P ops Q rest (a.put o.dst (.slice b (n + zs.length) c)) w') : wpList P ops Q (o :: rest) a w := by
  cases ao with
  | none =>
    have hz : zs = [] := by
      cases zs with
      | nil => rfl
      | cons z r => obtain ⟨b, off, hx, _⟩ := hseg.at_ 0 (by simp); cases hx
    subst hz
    rw [hnil rfl] at hx
    refine wpList_append_own_none hgd s x t ho base e i 1 ht hi _ n xs hs hown hx ?_
    have := h ra rc w (by simpa using hown) (World.grownBy.refl _ _) (fun k hk => .inl hk) (by simp)
    simpa using this
  | some ad =>
    exact wpList_app hgd s x t ho base e i z bytes ht hi hz hsize hby hzs hown (by simp) (seg_cells hseg) (ints_oneCell _ _) hs hx h63 hbytes hbase h

structure SegB (w : World) (a : Option Addr) (L : List Bool) : Prop where
  at_ : ∀ i, i < L.length → ∃ b off, a = some ⟨b, off, none⟩ ∧ w.cell? ⟨b, off + i, none⟩ = some (.bool (L.getD i false))
theorem SegB.of_cells {w w' : World} {a : Option Addr} {L : List Bool} (h : SegB w a L) (hc : ∀ b off i v, i < L.length → a = some ⟨b, off, none⟩ → w.cell? ⟨b, off + i, none⟩ = some v → w'.cell? ⟨b, off + i, none⟩ = some v) : SegB w' a L :=
  ⟨fun i hi => by obtain ⟨b, off, ha, hcl⟩ := h.at_ i hi; exact ⟨b, off, ha, hc b off i _ hi ha hcl⟩⟩
theorem SegB.old {w w' : World} {a : Option Addr} {L : List Bool} (h : SegB w a L) (hb : Below w.heap.size w w') : SegB w' a L :=
  h.of_cells fun b off i v hi ha hcl => (hb.cell (p := ⟨b, off + i, none⟩) (World.block_lt_of_cell? w _ hcl)).trans hcl
theorem SegB.drop {w : World} {b off : Nat} {L : List Bool} (h : SegB w (some ⟨b, off, none⟩) L) (m : Nat) : SegB w (some ⟨b, off + m, none⟩) (L.drop m) := by
  refine ⟨fun i hi => ?_⟩
  simp at hi
  obtain ⟨b', off', ha, hc⟩ := h.at_ (m + i) (by omega)
  cases ha
  refine ⟨b, off + m, rfl, ?_⟩
  rw [Nat.add_assoc, hc]
  simp [List.getD]
end Go.Proofs.YtmfpdchfofffeaaGreatDoor

namespace Go.Proofs.YtmfpdchfofffeaaGreatDoor
open Go.RowKit
set_option linter.unusedVariables false
/-- Whole numbers (of 64 bits, with a sign) lie where a slice's address leads. -/
structure SegZ (w : World) (a : Option Addr) (zs : List Int) : Prop where
  at_ : ∀ i, i < zs.length → ∃ b off, a = some ⟨b, off, none⟩ ∧ w.cell? ⟨b, off + i, none⟩ = some (.int .i64 (zs.getD i 0))
  bd : ∀ i, -9223372036854775808 ≤ zs.getD i 0 ∧ zs.getD i 0 ≤ 9223372036854775807

theorem getD_bdz {zs : List Int} (h : ∀ z ∈ zs, -9223372036854775808 ≤ z ∧ z ≤ 9223372036854775807) (i : Nat) : -9223372036854775808 ≤ zs.getD i 0 ∧ zs.getD i 0 ≤ 9223372036854775807 := by
  by_cases hi : i < zs.length
  · have := h zs[i] (List.getElem_mem hi)
    simpa [List.getD, hi] using this
  · have : zs[i]? = none := List.getElem?_eq_none (by omega)
    simp [List.getD, this]
theorem SegZ.nil (w : World) (a : Option Addr) : SegZ w a [] := ⟨fun i h => by simp at h, fun i => by simp⟩
theorem SegZ.of_cells {w w' : World} {a : Option Addr} {zs : List Int} (h : SegZ w a zs) (hc : ∀ b off i v, i < zs.length → a = some ⟨b, off, none⟩ → w.cell? ⟨b, off + i, none⟩ = some v → w'.cell? ⟨b, off + i, none⟩ = some v) : SegZ w' a zs :=
  ⟨fun i hi => by obtain ⟨b, off, ha, hcl⟩ := h.at_ i hi; exact ⟨b, off, ha, hc b off i _ hi ha hcl⟩, h.bd⟩
theorem SegZ.old {w w' : World} {a : Option Addr} {zs : List Int} (h : SegZ w a zs) (hb : Below w.heap.size w w') : SegZ w' a zs :=
  h.of_cells fun b off i v hi ha hcl => (hb.cell (p := ⟨b, off + i, none⟩) (World.block_lt_of_cell? w _ hcl)).trans hcl
theorem SegZ.kp {w w' : World} {S : Nat → Prop} {a : Option Addr} {zs : List Int} (h : SegZ w a zs) (hb : Kp S w w') (hn : ∀ b off, a = some ⟨b, off, none⟩ → 0 < zs.length → ¬ S b) : SegZ w' a zs :=
  h.of_cells fun b off i v hi ha hcl => by
    have hlt : b < w.heap.size := World.block_lt_of_cell? w _ hcl
    rw [World.cell?_of_block (a := ⟨b, off + i, none⟩) (hb.block b hlt (hn b off ha (by omega)))]
    exact hcl
theorem SegZ.lt {w : World} {a : Option Addr} {zs : List Int} (h : SegZ w a zs) : ∀ b off, a = some ⟨b, off, none⟩ → 0 < zs.length → b < w.heap.size := by
  intro b off ha hl
  obtain ⟨b', off', ha', hc⟩ := h.at_ 0 hl
  rw [ha] at ha'
  cases ha'
  exact World.block_lt_of_cell? w _ hc
theorem SegZ.drewN {w : World} {a : Option Addr} {zs : List Int} (h : SegZ w a zs) (n : Nat) : SegZ (w.drewN n) a zs := ⟨h.at_, h.bd⟩
theorem SegZ.drew {w : World} {a : Option Addr} {zs : List Int} (h : SegZ w a zs) : SegZ w.drew a zs := ⟨h.at_, h.bd⟩
theorem SegZ.alloc {w : World} {a : Option Addr} {zs : List Int} (h : SegZ w a zs) (o : Obj) : SegZ (w.alloc o) a zs := h.old ((Below.refl _ _).alloc (Nat.le_refl _) o)
theorem SegZ.mem {w : World} {a : Option Addr} {zs : List Int} (h : SegZ w a zs) : ∀ z ∈ zs, -9223372036854775808 ≤ z ∧ z ≤ 9223372036854775807 := by
  intro z hz
  obtain ⟨i, hi, rfl⟩ := List.mem_iff_getElem.1 hz
  have := h.bd i
  simpa [List.getD, hi] using this
theorem SegZ.take {w : World} {a : Option Addr} {zs : List Int} (h : SegZ w a zs) (m : Nat) : SegZ w a (zs.take m) := by
  refine ⟨fun i hi => ?_, getD_bdz fun z hz => h.mem z (List.mem_of_mem_take hz)⟩
  simp at hi
  obtain ⟨b, off, ha, hc⟩ := h.at_ i (by omega)
  refine ⟨b, off, ha, ?_⟩
  rw [hc]
  have hk : i < m := by omega
  simp [List.getD, hk]
theorem SegZ.left {w : World} {a : Option Addr} {xs ys : List Int} (h : SegZ w a (xs ++ ys)) : SegZ w a xs := by
  have := h.take xs.length
  simpa using this
theorem segZ_cells {w : World} {x : Addr} {zs : List Int} (h : SegZ w (some x) zs) : ∀ j u, (zs.map (Value.int .i64))[j]? = some u → w.cell? (x.add j) = some u := by
  intro j u hu
  have hj : j < zs.length := by
    rcases Nat.lt_or_ge j zs.length with h | h
    · exact h
    · simp [List.getElem?_eq_none h] at hu
  obtain ⟨b, off, hx, hc⟩ := h.at_ j hj
  cases hx
  have hadd : (⟨b, off, none⟩ : Addr).add j = ⟨b, off + j, none⟩ := by unfold Addr.add; split <;> simp_all
  rw [hadd, hc]
  simp [hj] at hu
  subst hu
  simp [List.getD, hj]
/-- A row that the call owns, as numbers that lie there. -/
theorem own_segZ {w : World} {base n : Nat} {e : TypeId} {a : Option Addr} {cap : Nat} {zs : List Int} (h : w.ownsRow base e 1 (.slice a n cap) n (zs.map (Value.int .i64))) (hb : ∀ z ∈ zs, -9223372036854775808 ≤ z ∧ z ≤ 9223372036854775807) :
    SegZ w a zs := by
  have hl : zs.length = n := by simpa using h.1
  rcases h.2 with ⟨h1, hn⟩ | ⟨g, cap', cur, hv, hg, hh, hc, _, _, ht⟩
  · have : zs = [] := List.eq_nil_of_length_eq_zero (by omega)
    subst this
    exact SegZ.nil _ _
  · simp only [Value.slice.injEq] at hv
    obtain ⟨rfl, _, rfl⟩ := hv
    refine ⟨fun i hi => ⟨g, 0, rfl, ?_⟩, getD_bdz hb⟩
    have := h.cells (g := g) rfl i (.int .i64 (zs.getD i 0)) (by simp [List.getD, hi])
    have hadd : (⟨g, 0, none⟩ : Addr).add i = ⟨g, 0 + i, none⟩ := by unfold Addr.add; split <;> simp_all
    rw [hadd] at this
    exact this
theorem below_own {w w' : World} {base n : Nat} {e : TypeId} {v : Value} {xs : List Value} (hown : w.ownsRow base e 1 v n xs) (hg : w.grownBy w' v.ownBlock) (hb : base ≤ w.heap.size) : Below base w w' :=
  (Below.refl _ _).grown hg hb (fun k hk => (hown.lt k hk).1)
theorem take_snocZ {zs : List Int} {k : Nat} (hk : k < zs.length) : zs.take (k + 1) = zs.take k ++ [zs.getD k 0] := by
  rw [List.take_add_one]
  simp [List.getD, hk]
end Go.Proofs.YtmfpdchfofffeaaGreatDoor

namespace Go.Proofs.YtmfpdchfofffeaaGreatDoor
open Go.RowKit
set_option linter.unusedVariables false
theorem info_i12 : (Tryz.prog.info? 3).map (fun i => (i.zero, i.size, i.bytes)) = some (some (.int .i64 0), 1, 8) := by kernel_rfl
theorem info_b12 : (Tryz.prog.info? 4).map (fun i => (i.zero, i.size, i.bytes)) = some (some (.bool false), 1, 1) := by kernel_rfl
def vi12 (A : List Int) : Array Value := (A.map (Value.int .i64)).toArray
def vb12 (A : List Bool) : Array Value := (A.map Value.bool).toArray
structure Rz12 (w : World) (g : Nat) (A : List Int) : Prop where
  hp : w.heap[g]? = some (.cells (vi12 A) 3 (0, 0))
structure Rb12 (w : World) (g : Nat) (A : List Bool) : Prop where
  hp : w.heap[g]? = some (.cells (vb12 A) 4 (0, 0))
theorem run_make_i12 (n : Nat) (h : n * 8 ≤ 140737488355328) (w : World) :
    (Instr.makeSlice 95 (.int .i64 (n : Int)) (.int .i64 (n : Int))).run Tryz.prog w = .ok (.slice (some ⟨w.heap.size, 0, none⟩) n n) (w.alloc (.cells (vi12 (List.replicate n 0)) 3)) := by
  have e : madeCells #[.int .i64 0] n = vi12 (List.replicate n 0) := by
    apply Array.toList_inj.1
    rw [toList_madeCells_one]
    simp [vi12]
  rw [← e]
  exact run_make_row' 95 3 (.int .i64 0) 8 Tryz.underlying95 info_i12 rfl .i64 .i64 n (by omega) (by omega) w
theorem run_make_b12 (n : Nat) (h : n ≤ 140737488355328) (w : World) :
    (Instr.makeSlice 281 (.int .i64 (n : Int)) (.int .i64 (n : Int))).run Tryz.prog w = .ok (.slice (some ⟨w.heap.size, 0, none⟩) n n) (w.alloc (.cells (vb12 (List.replicate n false)) 4)) := by
  have e : madeCells #[.bool false] n = vb12 (List.replicate n false) := by
    apply Array.toList_inj.1
    rw [toList_madeCells_one]
    simp [vb12]
  rw [← e]
  exact run_make_row' 281 4 (.bool false) 1 Tryz.underlying281 info_b12 rfl .i64 .i64 n (by omega) (by omega) w
theorem Rz12.new (w : World) (A : List Int) : Rz12 (w.alloc (.cells (vi12 A) 3)) w.heap.size A := ⟨heap_alloc_new w _⟩
theorem Rb12.new (w : World) (A : List Bool) : Rb12 (w.alloc (.cells (vb12 A) 4)) w.heap.size A := ⟨heap_alloc_new w _⟩
theorem Rz12.lt {w : World} {g : Nat} {A : List Int} (h : Rz12 w g A) : g < w.heap.size := (Array.getElem?_eq_some_iff.1 h.hp).1
theorem Rb12.lt {w : World} {g : Nat} {A : List Bool} (h : Rb12 w g A) : g < w.heap.size := (Array.getElem?_eq_some_iff.1 h.hp).1
theorem Rz12.cell {w : World} {g : Nat} {A : List Int} (h : Rz12 w g A) {i : Nat} (hi : i < A.length) : w.cell? ⟨g, i, none⟩ = some (.int .i64 (A.getD i 0)) := by
  simp [World.cell?, h.hp, vi12, hi, List.getD]
theorem Rb12.cell {w : World} {g : Nat} {A : List Bool} (h : Rb12 w g A) {i : Nat} (hi : i < A.length) : w.cell? ⟨g, i, none⟩ = some (.bool (A.getD i false)) := by
  simp [World.cell?, h.hp, vb12, hi, List.getD]
theorem Rz12.free {w : World} {g : Nat} {A : List Int} (h : Rz12 w g A) (i : Nat) : w.frozen? ⟨g, i, none⟩ = false := by simp [World.frozen?, h.hp]
theorem Rb12.free {w : World} {g : Nat} {A : List Bool} (h : Rb12 w g A) (i : Nat) : w.frozen? ⟨g, i, none⟩ = false := by simp [World.frozen?, h.hp]
theorem Rz12.set {w : World} {g : Nat} {A : List Int} (h : Rz12 w g A) (i : Nat) (x : Int) : Rz12 (w.setCell ⟨g, i, none⟩ (.int .i64 x)) g (A.set i x) := by
  refine ⟨?_⟩
  simp [World.setCell, Array.getElem?_modify, h.hp, vi12, List.map_set]
theorem Rb12.set {w : World} {g : Nat} {A : List Bool} (h : Rb12 w g A) (i : Nat) (x : Bool) : Rb12 (w.setCell ⟨g, i, none⟩ (.bool x)) g (A.set i x) := by
  refine ⟨?_⟩
  simp [World.setCell, Array.getElem?_modify, h.hp, vb12, List.map_set]
theorem Rz12.kp {w w' : World} {S : Nat → Prop} {g : Nat} {A : List Int} (h : Rz12 w g A) (hk : Kp S w w') (hn : ¬ S g) : Rz12 w' g A := ⟨hk.heap h.hp hn⟩
theorem Rb12.kp {w w' : World} {S : Nat → Prop} {g : Nat} {A : List Bool} (h : Rb12 w g A) (hk : Kp S w w') (hn : ¬ S g) : Rb12 w' g A := ⟨hk.heap h.hp hn⟩
theorem Rz12.old {w w' : World} {g : Nat} {A : List Int} (h : Rz12 w g A) (hb : Below w.heap.size w w') : Rz12 w' g A := ⟨(hb.block g h.lt).trans h.hp⟩
theorem Rb12.old {w w' : World} {g : Nat} {A : List Bool} (h : Rb12 w g A) (hb : Below w.heap.size w w') : Rb12 w' g A := ⟨(hb.block g h.lt).trans h.hp⟩
theorem Rz12.drew {w : World} {g : Nat} {A : List Int} (h : Rz12 w g A) : Rz12 w.drew g A := ⟨h.hp⟩
theorem Rb12.drew {w : World} {g : Nat} {A : List Bool} (h : Rb12 w g A) : Rb12 w.drew g A := ⟨h.hp⟩
theorem Rz12.drewN {w : World} {g : Nat} {A : List Int} (h : Rz12 w g A) (n : Nat) : Rz12 (w.drewN n) g A := ⟨h.hp⟩
theorem Rb12.drewN {w : World} {g : Nat} {A : List Bool} (h : Rb12 w g A) (n : Nat) : Rb12 (w.drewN n) g A := ⟨h.hp⟩
theorem Rz12.seg {w : World} {g : Nat} {A : List Int} (h : Rz12 w g A) (hb : ∀ z ∈ A, -9223372036854775808 ≤ z ∧ z ≤ 9223372036854775807) : SegZ w (some ⟨g, 0, none⟩) A :=
  ⟨fun i hi => ⟨g, 0, rfl, by rw [Nat.zero_add]; exact h.cell hi⟩, getD_bdz hb⟩
theorem Rb12.seg {w : World} {g : Nat} {A : List Bool} (h : Rb12 w g A) : SegB w (some ⟨g, 0, none⟩) A :=
  ⟨fun i hi => ⟨g, 0, rfl, by rw [Nat.zero_add]; exact h.cell hi⟩⟩
theorem Rz12.own {w : World} {g base : Nat} {A : List Int} (h : Rz12 w g A) (hb : base ≤ g) (hl : A.length ≤ 140737488355328) : w.ownsRow base 3 1 (.slice (some ⟨g, 0, none⟩) A.length A.length) A.length (A.map (Value.int .i64)) :=
  ⟨by simp, .inr ⟨g, A.length, _, rfl, hb, h.hp, Nat.le_refl _, by unfold maxLen; omega, by simp [vi12], by simp [vi12, List.take_of_length_le]⟩⟩
theorem Rb12.own {w : World} {g base : Nat} {A : List Bool} (h : Rb12 w g A) (hb : base ≤ g) (hl : A.length ≤ 140737488355328) : w.ownsRow base 4 1 (.slice (some ⟨g, 0, none⟩) A.length A.length) A.length (A.map Value.bool) :=
  ⟨by simp, .inr ⟨g, A.length, _, rfl, hb, h.hp, Nat.le_refl _, by unfold maxLen; omega, by simp [vb12], by simp [vb12, List.take_of_length_le]⟩⟩
theorem getD_set12 {α : Type} {d : α} (A : List α) (i : Nat) (x : α) (k : Nat) (hi : i < A.length) : (A.set i x).getD k d = if k = i then x else A.getD k d := by
  simp only [List.getD, List.getElem?_set]
  by_cases e : i = k
  · subst e; simp [hi]
  · have e' : ¬ k = i := fun h => e h.symm
    simp [e, e']
theorem ext12 {α : Type} {d : α} {A B : List α} (hl : A.length = B.length) (h : ∀ i, i < A.length → A.getD i d = B.getD i d) : A = B := by
  refine List.ext_getElem hl fun i h1 h2 => ?_
  have := h i h1
  simpa [List.getD, h1, h2] using this
theorem wpList_ap12 {P : Program} {ops : Array Oper} {rest : List Oper} {o : Oper} {a : Act} {Q : Exit → Act → World → Prop} (hgd : o.guard = none) (s x : Operand) (t : TypeId)
    (ho : o.op = .call { callee := .builtin .append, args := #[s, x], argTypes := #[t, t] })
    (base : Nat) (e : TypeId) (i : TypeInfo) (z : Value) (bytes : Nat) (ht : P.underlying t = some (.slice e)) (hi : P.info? e = some i) (hz : i.zero = some z)
    (hsize : i.size = 1) (hby : i.bytes = bytes) (hzs : z.cells.size = 1) (w0 : World) (y : Int)
    {ra : Option Addr} {n rc : Nat} {l : List Int} (hown : w0.ownsRow base e 1 (.slice ra n rc) n (l.map (Value.int .i64))) (hs : a.eval s = .slice ra n rc) (hx : a.eval x = .slice (some ⟨w0.heap.size, 0, none⟩) 1 1)
    (h63 : n + 1 ≤ 140737488355328) (hbytes : (n + 1) * bytes ≤ 140737488355328) (hbase : base ≤ w0.heap.size)
    (h : ∀ (g : Nat) (c : Nat) (w' : World), w'.ownsRow base e 1 (.slice (some ⟨g, 0, none⟩) (n + 1) c) (n + 1) ((l ++ [y]).map (Value.int .i64)) → Kp (fun k => (Value.slice ra n rc).ownBlock = some k) w0 w' → ((Value.slice ra n rc).ownBlock = some g ∨ g = w0.heap.size + 1) → wpList P ops Q rest (a.put o.dst (.slice (some ⟨g, 0, none⟩) (n + 1) c)) w') : wpList P ops Q (o :: rest) a (w0.alloc (.cells #[.int .i64 y] e)) := by
  have hnew : ∀ j u, ([.int .i64 y] : List Value)[j]? = some u → (w0.alloc (.cells #[.int .i64 y] e)).cell? ((⟨w0.heap.size, 0, none⟩ : Addr).add j) = some u := by
    intro j u hu
    have hadd : (⟨w0.heap.size, 0, none⟩ : Addr).add j = ⟨w0.heap.size, j, none⟩ := by unfold Addr.add; split <;> simp_all
    rw [hadd]
    have hh := heap_alloc_new w0 (.cells #[.int .i64 y] e)
    simp only [World.cell?, hh]
    simpa using hu
  refine wpList_append_lies _ hgd s x t ho base e i z 1 bytes ht hi hz hsize hby hzs (by decide) _ n (l.map (Value.int .i64)) hs (hown.alloc _) ⟨w0.heap.size, 0, none⟩ 1 1 [.int .i64 y] hx rfl hnew (by intro u hu; simp only [List.mem_cons, List.not_mem_nil, or_false] at hu; subst hu; rfl) (by decide) (by unfold maxLen; omega) hbytes (by simp; omega) (w0.heap.size + 1) (by simp) ?_
  intro g c w' h1 h2 h3 _
  refine h g c w' (by rw [List.map_append]; exact h1) ?_ h3
  exact (Kp.alloc w0 _).trans (Kp.grown (S := fun k => (Value.slice ra n rc).ownBlock = some k) h2 (fun i e => e)) (fun _ _ e => e)
def gb12 (L : List Bool) (k : Nat) : Bool := L.getD k false
end Go.Proofs.YtmfpdchfofffeaaGreatDoor

namespace Go.Proofs.YtmfpdchfofffeaaGreatDoor
set_option linter.unusedVariables false
open Classical in
noncomputable def cn12 (P : Nat → Prop) : Nat → Nat
  | 0 => 0
  | n + 1 => cn12 P n + (if P n then 1 else 0)
theorem cn12_le {P Q : Nat → Prop} : ∀ {n : Nat}, (∀ i, i < n → P i → Q i) → cn12 P n ≤ cn12 Q n
  | 0, _ => Nat.le_refl _
  | n + 1, h => by
    have ih := cn12_le (n := n) (fun i hi => h i (by omega))
    have hn := h n (by omega)
    unfold cn12
    by_cases hp : P n
    · simp [hp, hn hp]; omega
    · simp [hp]; omega
theorem cn12_congr {P Q : Nat → Prop} {n : Nat} (h : ∀ i, i < n → (P i ↔ Q i)) : cn12 P n = cn12 Q n :=
  Nat.le_antisymm (cn12_le fun i hi => (h i hi).1) (cn12_le fun i hi => (h i hi).2)
theorem cn12_or {P Q R : Nat → Prop} : ∀ {n : Nat}, (∀ i, i < n → (P i ↔ Q i ∨ R i)) → (∀ i, i < n → ¬ (Q i ∧ R i)) → cn12 P n = cn12 Q n + cn12 R n
  | 0, _, _ => rfl
  | n + 1, h, hd => by
    have ih := cn12_or (n := n) (fun i hi => h i (by omega)) (fun i hi => hd i (by omega))
    have h1 := h n (by omega)
    have h2 := hd n (by omega)
    unfold cn12
    by_cases hq : Q n
    · have hr : ¬ R n := fun hr => h2 ⟨hq, hr⟩
      have hp : P n := h1.2 (Or.inl hq)
      simp [hp, hq, hr]; omega
    · by_cases hr : R n
      · have hp : P n := h1.2 (Or.inr hr)
        simp [hp, hq, hr]; omega
      · have hp : ¬ P n := fun hp => by rcases h1.1 hp with h | h; exact hq h; exact hr h
        simp [hp, hq, hr]; omega
theorem cn12_none {P : Nat → Prop} : ∀ {n : Nat}, (∀ i, i < n → ¬ P i) → cn12 P n = 0
  | 0, _ => rfl
  | n + 1, h => by
    unfold cn12
    simp [h n (by omega), cn12_none (n := n) (fun i hi => h i (by omega))]
theorem cn12_one {j : Nat} : ∀ {n : Nat}, j < n → cn12 (fun i => i = j) n = 1
  | 0, h => by omega
  | n + 1, h => by
    unfold cn12
    by_cases e : n = j
    · subst e
      simp [cn12_none (P := fun i => i = n) (n := n) (fun i hi => by omega)]
    · simp [e, cn12_one (j := j) (n := n) (by omega)]
theorem cn12_all {P : Nat → Prop} : ∀ {n : Nat}, (∀ i, i < n → P i) → cn12 P n = n
  | 0, _ => rfl
  | n + 1, h => by
    unfold cn12
    simp [h n (by omega), cn12_all (n := n) (fun i hi => h i (by omega))]
theorem cn12_upd {P Q : Nat → Prop} {n j : Nat} (hj : j < n) (hp : ¬ P j) (h : ∀ i, i < n → (Q i ↔ P i ∨ i = j)) : cn12 Q n = cn12 P n + 1 := by
  have h1 : cn12 Q n = cn12 P n + cn12 (fun i => i = j) n := cn12_or h (fun i hi => by rintro ⟨a, rfl⟩; exact hp a)
  rw [h1, cn12_one hj]
theorem cn12_lt {P Q : Nat → Prop} {n j : Nat} (h : ∀ i, i < n → P i → Q i) (hj : j < n) (hp : ¬ P j) (hq : Q j) : cn12 P n < cn12 Q n := by
  have h1 : cn12 (fun i => P i ∨ i = j) n = cn12 P n + 1 := cn12_upd hj hp (fun i _ => Iff.rfl)
  have h2 : cn12 (fun i => P i ∨ i = j) n ≤ cn12 Q n := cn12_le (fun i hi hh => by rcases hh with hh | rfl; exact h i hi hh; exact hq)
  omega

noncomputable def bk12 (n : Nat) (s : Nat → Int) (v : Int) : Nat := cn12 (fun i => s i < v) n
noncomputable def tc12 (n : Nat) (s : Nat → Int) (T : Nat → Prop) (v : Int) : Nat := cn12 (fun i => T i ∧ s i = v) n
theorem bk12_mono {n : Nat} {s : Nat → Int} {u v : Int} (h : u ≤ v) : bk12 n s u ≤ bk12 n s v := cn12_le fun i _ hi => by omega
theorem bk12_le (n : Nat) (s : Nat → Int) (v : Int) : bk12 n s v ≤ n := by
  have h1 : cn12 (fun i => s i < v) n ≤ cn12 (fun _ => True) n := cn12_le fun _ _ _ => trivial
  rw [cn12_all (P := fun _ => True) (fun _ _ => trivial)] at h1
  exact h1
theorem bk12_succ (n : Nat) (s : Nat → Int) (T : Nat → Prop) (v : Int) : bk12 n s (v + 1) = bk12 n s v + tc12 n s T v + tc12 n s (fun i => ¬ T i) v := by
  have h1 : bk12 n s (v + 1) = bk12 n s v + cn12 (fun i => s i = v) n := cn12_or (fun i _ => by omega) (fun i _ => by omega)
  have h2 : cn12 (fun i => s i = v) n = tc12 n s T v + tc12 n s (fun i => ¬ T i) v :=
    cn12_or (fun i _ => ⟨fun h => by by_cases ht : T i; exact Or.inl ⟨ht, h⟩; exact Or.inr ⟨ht, h⟩, fun h => by rcases h with h | h; exact h.2; exact h.2⟩) (fun i _ => by rintro ⟨a, b⟩; exact b.1 a.1)
  omega
theorem bk12_one {n : Nat} {s : Nat → Int} {q : Nat} {u v : Int} (h1 : bk12 n s u ≤ q) (h2 : q < bk12 n s (u + 1)) (h3 : bk12 n s v ≤ q) (h4 : q < bk12 n s (v + 1)) : u = v := by
  rcases Int.lt_trichotomy u v with h | h | h
  · have := bk12_mono (n := n) (s := s) (show u + 1 ≤ v by omega); omega
  · exact h
  · have := bk12_mono (n := n) (s := s) (show v + 1 ≤ u by omega); omega

def In12 (n : Nat) (R : Nat → Int) (j : Nat) : Prop := ∃ q, q < n ∧ R q = (j : Int)
structure St12 (n : Nat) (s : Nat → Int) (T U : Nat → Prop) (R : Nat → Int) (h : Int → Int) : Prop where
  ok : ∀ q, q < n → R q = -1 ∨ ∃ j : Nat, j < n ∧ R q = (j : Int) ∧ bk12 n s (s j) ≤ q ∧ q < bk12 n s (s j + 1)
  inj : ∀ q q', q < n → q' < n → R q = R q' → 0 ≤ R q → q = q'
  hd : ∀ i, i < n → h (s i) = ((bk12 n s (s i) + cn12 (fun j => T j ∧ s j = s i ∧ In12 n R j) n : Nat) : Int)
  lo : ∀ q j : Nat, q < n → j < n → R q = (j : Int) → T j → (q : Int) < h (s j)
  hi : ∀ q j : Nat, q < n → j < n → R q = (j : Int) → ¬ T j → bk12 n s (s j) + tc12 n s T (s j) ≤ q
  fl : ∀ i q, i < n → q < n → bk12 n s (s i) ≤ q → (q : Int) < h (s i) → 0 ≤ R q
  oth : ∀ j, j < n → ¬ T j → (In12 n R j ↔ U j)
def pR12 (R : Nat → Int) (h : Int → Int) (s : Nat → Int) (j : Nat) : Nat → Int := fun q => if (q : Int) = h (s j) then (j : Int) else R q
def pH12 (h : Int → Int) (s : Nat → Int) (j : Nat) : Int → Int := fun v => if v = s j then h v + 1 else h v
theorem St12.congr {n : Nat} {s : Nat → Int} {T U : Nat → Prop} {R R' : Nat → Int} {h h' : Int → Int} (H : St12 n s T U R h) (hR : ∀ q, q < n → R' q = R q) (hh : ∀ i, i < n → h' (s i) = h (s i)) : St12 n s T U R' h' := by
  have hin : ∀ j, In12 n R' j ↔ In12 n R j := fun j => ⟨fun ⟨q, h1, h2⟩ => ⟨q, h1, by rw [← hR q h1]; exact h2⟩, fun ⟨q, h1, h2⟩ => ⟨q, h1, by rw [hR q h1]; exact h2⟩⟩
  refine ⟨fun q hq => ?_, fun q q' hq hq' e e0 => ?_, fun i hi => ?_, fun q j hq hj e ht => ?_, fun q j hq hj e ht => ?_, fun i q hi hq e1 e2 => ?_, fun j hj ht => ?_⟩
  · rw [hR q hq]; exact H.ok q hq
  · rw [hR q hq, hR q' hq'] at e; rw [hR q hq] at e0; exact H.inj q q' hq hq' e e0
  · rw [hh i hi, H.hd i hi, cn12_congr (Q := fun j => T j ∧ s j = s i ∧ In12 n R' j)]
    intro j _; rw [hin j]
  · rw [hR q hq] at e; rw [hh j hj]; exact H.lo q j hq hj e ht
  · rw [hR q hq] at e; exact H.hi q j hq hj e ht
  · rw [hh i hi] at e2; rw [hR q hq]; exact H.fl i q hi hq e1 e2
  · rw [hin j]; exact H.oth j hj ht
/-- The place that a suffix is put into lies in its bucket, and is empty. -/
theorem St12.place {n : Nat} {s : Nat → Int} {T U : Nat → Prop} {R : Nat → Int} {h : Int → Int} (H : St12 n s T U R h) {j : Nat} (hj : j < n) (ht : T j) (hn : ¬ In12 n R j) :
    ∃ P : Nat, h (s j) = (P : Int) ∧ bk12 n s (s j) ≤ P ∧ P < bk12 n s (s j) + tc12 n s T (s j) ∧ P < bk12 n s (s j + 1) ∧ P < n ∧ R P = -1 := by
  have e := H.hd j hj
  have hlt : cn12 (fun i => T i ∧ s i = s j ∧ In12 n R i) n < tc12 n s T (s j) :=
    cn12_lt (j := j) (fun i _ hh => ⟨hh.1, hh.2.1⟩) hj (fun hh => hn hh.2.2) ⟨ht, rfl⟩
  have hs := bk12_succ n s T (s j)
  have hb := bk12_le n s (s j + 1)
  refine ⟨_, e, by omega, by omega, by omega, by omega, ?_⟩
  generalize hP : bk12 n s (s j) + cn12 (fun i => T i ∧ s i = s j ∧ In12 n R i) n = P at e
  have hPn : P < n := by omega
  rcases H.ok P hPn with h0 | ⟨i, hi, h1, h2, h3⟩
  · exact h0
  · exfalso
    have ev : s i = s j := bk12_one h2 h3 (by omega) (by omega)
    by_cases hti : T i
    · have := H.lo P i hPn hi h1 hti
      rw [ev, e] at this
      omega
    · have := H.hi P i hPn hi h1 hti
      rw [ev] at this
      omega
theorem St12.put {n : Nat} {s : Nat → Int} {T U : Nat → Prop} {R : Nat → Int} {h : Int → Int} (H : St12 n s T U R h) {j : Nat} (hj : j < n) (ht : T j) (hn : ¬ In12 n R j) : St12 n s T U (pR12 R h s j) (pH12 h s j) := by
  obtain ⟨P, eP, hP1, hP2, hP3, hPn, hPe⟩ := H.place hj ht hn
  have rP : ∀ q : Nat, pR12 R h s j q = if q = P then (j : Int) else R q := by
    intro q; unfold pR12; rw [eP]
    by_cases e : q = P
    · simp [e]
    · have : ¬ (q : Int) = (P : Int) := by omega
      simp [e, this]
  have hin : ∀ i, In12 n (pR12 R h s j) i ↔ In12 n R i ∨ i = j := by
    intro i
    constructor
    · rintro ⟨q, hq, e⟩
      rw [rP] at e
      by_cases eq : q = P
      · rw [if_pos eq] at e; right; omega
      · rw [if_neg eq] at e; left; exact ⟨q, hq, e⟩
    · rintro (⟨q, hq, e⟩ | rfl)
      · refine ⟨q, hq, ?_⟩
        rw [rP, if_neg]
        · exact e
        · intro eq; rw [eq, hPe] at e; omega
      · exact ⟨P, hPn, by rw [rP, if_pos rfl]⟩
  refine ⟨fun q hq => ?_, fun q q' hq hq' e e0 => ?_, fun i hi => ?_, fun q i hq hi e hti => ?_, fun q i hq hi e hti => ?_, fun i q hi hq e1 e2 => ?_, fun i hi hti => ?_⟩
  · rw [rP]
    by_cases eq : q = P
    · rw [if_pos eq]; right; exact ⟨j, hj, rfl, by omega, by omega⟩
    · rw [if_neg eq]; exact H.ok q hq
  · rw [rP, rP] at e
    rw [rP] at e0
    by_cases eq : q = P
    · by_cases eq' : q' = P
      · omega
      · rw [if_pos eq, if_neg eq'] at e
        exact absurd ⟨q', hq', e.symm⟩ hn
    · by_cases eq' : q' = P
      · rw [if_neg eq, if_pos eq'] at e
        exact absurd ⟨q, hq, e⟩ hn
      · rw [if_neg eq, if_neg eq'] at e
        rw [if_neg eq] at e0
        exact H.inj q q' hq hq' e e0
  · unfold pH12
    rw [H.hd i hi]
    by_cases ev : s i = s j
    · rw [if_pos ev, cn12_upd (P := fun k => T k ∧ s k = s i ∧ In12 n R k) (Q := fun k => T k ∧ s k = s i ∧ In12 n (pR12 R h s j) k) hj (fun hh => hn hh.2.2) (fun k _ => ?_)]
      · omega
      · rw [hin k]
        constructor
        · rintro ⟨a, b, c | c⟩
          · exact Or.inl ⟨a, b, c⟩
          · exact Or.inr c
        · rintro (⟨a, b, c⟩ | rfl)
          · exact ⟨a, b, Or.inl c⟩
          · exact ⟨ht, ev.symm, Or.inr rfl⟩
    · rw [if_neg ev, cn12_congr (Q := fun k => T k ∧ s k = s i ∧ In12 n (pR12 R h s j) k) (fun k _ => ?_)]
      rw [hin k]
      constructor
      · rintro ⟨a, b, c⟩; exact ⟨a, b, Or.inl c⟩
      · rintro ⟨a, b, c | rfl⟩
        · exact ⟨a, b, c⟩
        · exact absurd b.symm ev
  · unfold pH12
    rw [rP] at e
    by_cases eq : q = P
    · rw [if_pos eq] at e
      have : i = j := by omega
      subst this
      rw [if_pos rfl]; omega
    · rw [if_neg eq] at e
      have := H.lo q i hq hi e hti
      by_cases ev : s i = s j
      · rw [if_pos ev]; omega
      · rw [if_neg ev]; exact this
  · rw [rP] at e
    by_cases eq : q = P
    · rw [if_pos eq] at e
      have : i = j := by omega
      subst this
      exact absurd ht hti
    · rw [if_neg eq] at e
      exact H.hi q i hq hi e hti
  · unfold pH12 at e2
    rw [rP]
    by_cases eq : q = P
    · rw [if_pos eq]; omega
    · rw [if_neg eq]
      by_cases ev : s i = s j
      · rw [if_pos ev] at e2
        refine H.fl i q hi hq e1 ?_
        rw [ev] at e2 ⊢; omega
      · rw [if_neg ev] at e2
        exact H.fl i q hi hq e1 e2
  · rw [hin i]
    constructor
    · rintro (hh | rfl)
      · exact (H.oth i hi hti).1 hh
      · exact absurd ht hti
    · intro hu; exact Or.inl ((H.oth i hi hti).2 hu)

structure Fr12 (n : Nat) (s : Nat → Int) (T U D : Nat → Prop) (le : Nat → Nat → Prop) : Prop where
  dn : ∀ j, j + 1 < n → T j → s (j + 1) ≤ s j
  sm : ∀ j, j + 1 < n → T j → s (j + 1) = s j → T (j + 1)
  nx : ∀ j, j < n → T j → D j ∨ (j + 1 < n ∧ (T (j + 1) ∨ U (j + 1)))
  nd : ∀ j, D j → ¬ j + 1 < n
  l1 : ∀ i j, i < n → j < n → s i < s j → le i j
  l2 : ∀ i j, i < n → j < n → s i = s j → T i → ¬ T j → le i j
  l3 : ∀ i j, i + 1 < n → j + 1 < n → s i = s j → T i → T j → le (i + 1) (j + 1) → le i j
  l4 : ∀ i j, i < n → j + 1 < n → s i = s j → T i → T j → D i → le i j
structure Pg12 (n : Nat) (s : Nat → Int) (T U D : Nat → Prop) (le : Nat → Nat → Prop) (p : Nat) (R : Nat → Int) (h : Int → Int) : Prop where
  st : St12 n s T U R h
  who : ∀ j, j < n → T j → (In12 n R j ↔ D j ∨ ∃ q, q < p ∧ q < n ∧ R q = ((j + 1 : Nat) : Int))
  so : ∀ q q' i j : Nat, q < q' → q' < n → i < n → j < n → R q = (i : Int) → R q' = (j : Int) → le i j
theorem Pg12.congr {n : Nat} {s : Nat → Int} {T U D : Nat → Prop} {le : Nat → Nat → Prop} {p : Nat} {R R' : Nat → Int} {h h' : Int → Int} (H : Pg12 n s T U D le p R h) (hR : ∀ q, q < n → R' q = R q) (hh : ∀ i, i < n → h' (s i) = h (s i)) : Pg12 n s T U D le p R' h' := by
  refine ⟨H.st.congr hR hh, fun j hj ht => ?_, fun q q' i j a b c d e f => ?_⟩
  · have hin : In12 n R' j ↔ In12 n R j := ⟨fun ⟨q, h1, h2⟩ => ⟨q, h1, by rw [← hR q h1]; exact h2⟩, fun ⟨q, h1, h2⟩ => ⟨q, h1, by rw [hR q h1]; exact h2⟩⟩
    rw [hin, H.who j hj ht]
    constructor
    · rintro (a | ⟨q, a, b, c⟩)
      · exact Or.inl a
      · exact Or.inr ⟨q, a, b, by rw [hR q b]; exact c⟩
    · rintro (a | ⟨q, a, b, c⟩)
      · exact Or.inl a
      · exact Or.inr ⟨q, a, b, by rw [← hR q b]; exact c⟩
  · rw [hR q (by omega)] at e; rw [hR q' b] at f
    exact H.so q q' i j a b c d e f
/-- What is put in stands rightly to all that is there. -/
theorem St12.so_put {n : Nat} {s : Nat → Int} {T U : Nat → Prop} {le : Nat → Nat → Prop} {R : Nat → Int} {h : Int → Int} (l1 : ∀ i j, i < n → j < n → s i < s j → le i j) (l2 : ∀ i j, i < n → j < n → s i = s j → T i → ¬ T j → le i j) (H : St12 n s T U R h)
    (so : ∀ q q' i j : Nat, q < q' → q' < n → i < n → j < n → R q = (i : Int) → R q' = (j : Int) → le i j) {j : Nat} (hj : j < n) (ht : T j) (hn : ¬ In12 n R j)
    (hle : ∀ i, i < n → T i → s i = s j → In12 n R i → le i j) :
    ∀ q q' i k : Nat, q < q' → q' < n → i < n → k < n → pR12 R h s j q = (i : Int) → pR12 R h s j q' = (k : Int) → le i k := by
  obtain ⟨P, eP, hP1, hP2, hP3, hPn, hPe⟩ := H.place hj ht hn
  have rP : ∀ q : Nat, pR12 R h s j q = if q = P then (j : Int) else R q := by
    intro q; unfold pR12; rw [eP]
    by_cases e : q = P
    · simp [e]
    · have : ¬ (q : Int) = (P : Int) := by omega
      simp [e, this]
  intro q q' i k a b hi hk e1 e2
  rw [rP] at e1 e2
  by_cases eq : q = P
  · have eq' : ¬ q' = P := by omega
    rw [if_pos eq] at e1; rw [if_neg eq'] at e2
    obtain rfl : j = i := by omega
    rcases H.ok q' b with h0 | ⟨k', _, h1, h2, h3⟩
    · omega
    · obtain rfl : k' = k := by omega
      by_cases ev : s k' = s j
      · refine l2 j k' hj hk ev.symm ht ?_
        intro htk
        have := H.lo q' k' b hk h1 htk
        rw [ev, eP] at this; omega
      · refine l1 j k' hj hk ?_
        rcases Int.lt_trichotomy (s k') (s j) with h | h | h
        · have := bk12_mono (n := n) (s := s) (show s k' + 1 ≤ s j by omega); omega
        · exact absurd h ev
        · exact h
  · rw [if_neg eq] at e1
    by_cases eq' : q' = P
    · rw [if_pos eq'] at e2
      obtain rfl : j = k := by omega
      rcases H.ok q (by omega) with h0 | ⟨i', _, h1, h2, h3⟩
      · omega
      · obtain rfl : i' = i := by omega
        by_cases ev : s i' = s j
        · by_cases hti : T i'
          · exact hle i' hi hti ev ⟨q, by omega, h1⟩
          · have := H.hi q i' (by omega) hi h1 hti
            rw [ev] at this; omega
        · refine l1 i' j hi hj ?_
          rcases Int.lt_trichotomy (s i') (s j) with h | h | h
          · exact h
          · exact absurd h ev
          · have := bk12_mono (n := n) (s := s) (show s j + 1 ≤ s i' by omega); omega
    · rw [if_neg eq'] at e2
      exact so q q' i k a b hi hk e1 e2
/-- One place more, where nothing is put. -/
theorem Pg12.skip {n : Nat} {s : Nat → Int} {T U D : Nat → Prop} {le : Nat → Nat → Prop} {p : Nat} {R : Nat → Int} {h : Int → Int} (H : Pg12 n s T U D le p R h) (hno : ∀ j : Nat, R p = ((j + 1 : Nat) : Int) → j < n → T j → False) : Pg12 n s T U D le (p + 1) R h := by
  refine ⟨H.st, fun j hj ht => ?_, H.so⟩
  rw [H.who j hj ht]
  constructor
  · rintro (a | ⟨q, a, b, c⟩)
    · exact Or.inl a
    · exact Or.inr ⟨q, by omega, b, c⟩
  · rintro (a | ⟨q, a, b, c⟩)
    · exact Or.inl a
    · by_cases e : q = p
      · subst e; exact (hno j c hj ht).elim
      · exact Or.inr ⟨q, by omega, b, c⟩
theorem Pg12.new {n : Nat} {s : Nat → Int} {T U D : Nat → Prop} {le : Nat → Nat → Prop} {p : Nat} {R : Nat → Int} {h : Int → Int} (F : Fr12 n s T U D le) (H : Pg12 n s T U D le p R h) (hp : p < n) {j : Nat} (hj : j < n) (e : R p = ((j + 1 : Nat) : Int)) (ht : T j) : j + 1 < n ∧ ¬ In12 n R j := by
  have h1 : j + 1 < n := by
    rcases H.st.ok p hp with h0 | ⟨k, hk, h1, _⟩ <;> omega
  refine ⟨h1, fun hin => ?_⟩
  rcases (H.who j hj ht).1 hin with hd | ⟨q, a, b, c⟩
  · exact F.nd j hd h1
  · have := H.st.inj q p b hp (by rw [c, e]) (by omega)
    omega
/-- One place more, where a suffix leads to another one. -/
theorem Pg12.step {n : Nat} {s : Nat → Int} {T U D : Nat → Prop} {le : Nat → Nat → Prop} {p : Nat} {R : Nat → Int} {h : Int → Int} (F : Fr12 n s T U D le) (H : Pg12 n s T U D le p R h) (hp : p < n) {j : Nat} (hj : j < n) (e : R p = ((j + 1 : Nat) : Int)) (ht : T j) :
    (p : Int) < h (s j) ∧ Pg12 n s T U D le (p + 1) (pR12 R h s j) (pH12 h s j) := by
  obtain ⟨h1, hn⟩ := H.new F hp hj e ht
  obtain ⟨P, eP, hP1, hP2, hP3, hPn, hPe⟩ := H.st.place hj ht hn
  have hlt : p < P := by
    rcases H.st.ok p hp with h0 | ⟨k, hk, hk1, hk2, hk3⟩
    · omega
    · obtain rfl : k = j + 1 := by omega
      have d := F.dn j h1 ht
      by_cases ev : s (j + 1) = s j
      · have := H.st.lo p (j + 1) hp hk hk1 (F.sm j h1 ht ev)
        rw [ev, eP] at this; omega
      · have := bk12_mono (n := n) (s := s) (show s (j + 1) + 1 ≤ s j by omega); omega
  have rP : ∀ q : Nat, pR12 R h s j q = if q = P then (j : Int) else R q := by
    intro q; unfold pR12; rw [eP]
    by_cases e : q = P
    · simp [e]
    · have : ¬ (q : Int) = (P : Int) := by omega
      simp [e, this]
  refine ⟨by rw [eP]; omega, H.st.put hj ht hn, fun i hi hti => ?_, ?_⟩
  · have hin : In12 n (pR12 R h s j) i ↔ In12 n R i ∨ i = j := by
      constructor
      · rintro ⟨q, hq, e⟩
        rw [rP] at e
        by_cases eq : q = P
        · rw [if_pos eq] at e; right; omega
        · rw [if_neg eq] at e; left; exact ⟨q, hq, e⟩
      · rintro (⟨q, hq, e⟩ | rfl)
        · refine ⟨q, hq, ?_⟩
          rw [rP, if_neg]
          · exact e
          · intro eq; rw [eq, hPe] at e; omega
        · exact ⟨P, hPn, by rw [rP, if_pos rfl]⟩
    rw [hin, H.who i hi hti]
    constructor
    · rintro ((a | ⟨q, a, b, c⟩) | rfl)
      · exact Or.inl a
      · exact Or.inr ⟨q, by omega, b, by rw [rP, if_neg (by omega)]; exact c⟩
      · exact Or.inr ⟨p, by omega, hp, by rw [rP, if_neg (by omega)]; exact e⟩
    · rintro (a | ⟨q, a, b, c⟩)
      · exact Or.inl (Or.inl a)
      · rw [rP, if_neg (by omega)] at c
        by_cases eq : q = p
        · subst eq; right; omega
        · exact Or.inl (Or.inr ⟨q, by omega, b, c⟩)
  · refine St12.so_put F.l1 F.l2 H.st H.so hj ht hn ?_
    intro i hi hti ev hin
    rcases (H.who i hi hti).1 hin with hd | ⟨q, a, b, c⟩
    · exact F.l4 i j hi h1 ev hti ht hd
    · have hi1 : i + 1 < n := by
        rcases H.st.ok q b with h0 | ⟨k, hk, hk1, _⟩ <;> omega
      exact F.l3 i j hi1 h1 ev hti ht (H.so q p (i + 1) (j + 1) a hp hi1 h1 c e)
/-- Behind the pass all of them are there. -/
theorem Pg12.all {n : Nat} {s : Nat → Int} {T U D : Nat → Prop} {le : Nat → Nat → Prop} {R : Nat → Int} {h : Int → Int} (F : Fr12 n s T U D le) (H : Pg12 n s T U D le n R h) : ∀ (d j : Nat), j < n → n ≤ j + d → T j → In12 n R j
  | 0, j, hj, hd, _ => by omega
  | d + 1, j, hj, hd, ht => by
    rw [H.who j hj ht]
    rcases F.nx j hj ht with h1 | ⟨h1, h2⟩
    · exact Or.inl h1
    · have hin : In12 n R (j + 1) := by
        by_cases ht1 : T (j + 1)
        · exact H.all F d (j + 1) h1 (by omega) ht1
        · rcases h2 with h2 | h2
          · exact absurd h2 ht1
          · exact (H.st.oth (j + 1) h1 ht1).2 h2
      obtain ⟨q, hq, e⟩ := hin
      exact Or.inr ⟨q, hq, hq, e⟩
/-- Behind the pass the place that is next stands behind all of them. -/
theorem Pg12.full {n : Nat} {s : Nat → Int} {T U D : Nat → Prop} {le : Nat → Nat → Prop} {R : Nat → Int} {h : Int → Int} (F : Fr12 n s T U D le) (H : Pg12 n s T U D le n R h) {i : Nat} (hi : i < n) : h (s i) = ((bk12 n s (s i) + tc12 n s T (s i) : Nat) : Int) := by
  rw [H.st.hd i hi]
  unfold tc12
  rw [cn12_congr (P := fun j => T j ∧ s j = s i ∧ In12 n R j) (Q := fun j => T j ∧ s j = s i)]
  intro j hj
  exact ⟨fun a => ⟨a.1, a.2.1⟩, fun a => ⟨a.1, a.2, H.all F (n - j) j hj (by omega) a.1⟩⟩
/-- A first one: nothing of its kind is there yet. -/
theorem Pg12.first {n : Nat} {s : Nat → Int} {T U D : Nat → Prop} {le : Nat → Nat → Prop} {R : Nat → Int} {h : Int → Int} (F : Fr12 n s T U D le) (H : St12 n s T U R h) (hno : ∀ j, j < n → T j → ¬ In12 n R j) {j : Nat} (hj : j < n) (ht : T j) (hD : ∀ i, i < n → T i → (D i ↔ i = j))
    (so : ∀ q q' i j : Nat, q < q' → q' < n → i < n → j < n → R q = (i : Int) → R q' = (j : Int) → le i j) : Pg12 n s T U D le 0 (pR12 R h s j) (pH12 h s j) := by
  have hn := hno j hj ht
  obtain ⟨P, eP, hP1, hP2, hP3, hPn, hPe⟩ := H.place hj ht hn
  refine ⟨H.put hj ht hn, fun i hi hti => ?_, St12.so_put F.l1 F.l2 H so hj ht hn (fun i hi hti _ hin => absurd hin (hno i hi hti))⟩
  constructor
  · rintro ⟨q, hq, e⟩
    left
    rw [hD i hi hti]
    unfold pR12 at e
    by_cases eq : (q : Int) = h (s j)
    · rw [if_pos eq] at e; omega
    · rw [if_neg eq] at e; exact absurd ⟨q, hq, e⟩ (hno i hi hti)
  · rintro (a | ⟨q, a, _⟩)
    · rw [hD i hi hti] at a
      subst a
      exact ⟨P, hPn, by unfold pR12; rw [if_pos eP.symm]⟩
    · omega
theorem Pg12.none {n : Nat} {s : Nat → Int} {T U D : Nat → Prop} {le : Nat → Nat → Prop} {R : Nat → Int} {h : Int → Int} (H : St12 n s T U R h) (hno : ∀ j, j < n → T j → ¬ In12 n R j) (hD : ∀ i, i < n → T i → ¬ D i)
    (so : ∀ q q' i j : Nat, q < q' → q' < n → i < n → j < n → R q = (i : Int) → R q' = (j : Int) → le i j) : Pg12 n s T U D le 0 R h := by
  refine ⟨H, fun i hi hti => ⟨fun a => absurd a (hno i hi hti), ?_⟩, so⟩
  rintro (a | ⟨q, a, _⟩)
  · exact absurd a (hD i hi hti)
  · omega
end Go.Proofs.YtmfpdchfofffeaaGreatDoor
