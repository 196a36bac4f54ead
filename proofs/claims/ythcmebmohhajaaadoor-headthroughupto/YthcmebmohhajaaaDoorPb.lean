import Derived.Test.YthcmebmohhajaaaDoorPa
import Derived.WalkKit
import Derived.Test.YthcmebmohhajaaaDoorProg
import Derived.WalkSpells
import Derived.BigQuiet
import Derived.Deep.QuietTactic
import Derived.Deep.WholeRow
import Derived.Laws.ResultCell
import Derived.Deep.MidRow
import Derived.Deep.RegionHeld3
namespace Go.Proofs.YthcmebmohhajaaaDoor
open Go.RowKit
set_option linter.unusedVariables false

/-! A block of three cells. -/
theorem three_cell0 {w : World} {b : Nat} {x y z : Value} {t : TypeId} (h : w.heap[b]? = some (.cells #[x, y, z] t (0, 0))) : w.cell? ⟨b, 0, none⟩ = some x := by simp [World.cell?, h]
theorem three_cell1 {w : World} {b : Nat} {x y z : Value} {t : TypeId} (h : w.heap[b]? = some (.cells #[x, y, z] t (0, 0))) : w.cell? ⟨b, 1, none⟩ = some y := by simp [World.cell?, h]
theorem three_cell2 {w : World} {b : Nat} {x y z : Value} {t : TypeId} (h : w.heap[b]? = some (.cells #[x, y, z] t (0, 0))) : w.cell? ⟨b, 2, none⟩ = some z := by simp [World.cell?, h]
theorem three_free {w : World} {b : Nat} {x y z : Value} {t : TypeId} (h : w.heap[b]? = some (.cells #[x, y, z] t (0, 0))) (i : Nat) : w.frozen? ⟨b, i, none⟩ = false := by simp [World.frozen?, h]
theorem three_set0 {w : World} {b : Nat} {x y z : Value} {t : TypeId} (h : w.heap[b]? = some (.cells #[x, y, z] t (0, 0))) (u : Value) : (w.setCell ⟨b, 0, none⟩ u).heap[b]? = some (.cells #[u, y, z] t (0, 0)) := by
  simp [World.setCell, Array.getElem?_modify, h]
theorem three_set1 {w : World} {b : Nat} {x y z : Value} {t : TypeId} (h : w.heap[b]? = some (.cells #[x, y, z] t (0, 0))) (u : Value) : (w.setCell ⟨b, 1, none⟩ u).heap[b]? = some (.cells #[x, u, z] t (0, 0)) := by
  simp [World.setCell, Array.getElem?_modify, h]
theorem three_set2 {w : World} {b : Nat} {x y z : Value} {t : TypeId} (h : w.heap[b]? = some (.cells #[x, y, z] t (0, 0))) (u : Value) : (w.setCell ⟨b, 2, none⟩ u).heap[b]? = some (.cells #[x, y, u] t (0, 0)) := by
  simp [World.setCell, Array.getElem?_modify, h]

/-! What is kept: all blocks outside S. -/
structure Kp (S : Nat → Prop) (w w' : World) : Prop where
  os : w'.os = w.os
  tape : w'.tape = w.tape
  output : w'.output = w.output
  size : w.heap.size ≤ w'.heap.size
  block : ∀ k, k < w.heap.size → ¬ S k → w'.heap[k]? = w.heap[k]?
theorem Kp.refl (S : Nat → Prop) (w : World) : Kp S w w := ⟨rfl, rfl, rfl, Nat.le_refl _, fun _ _ _ => rfl⟩
theorem Kp.trans {S S' : Nat → Prop} {a b c : World} (h : Kp S a b) (k : Kp S' b c) (hs : ∀ i, i < a.heap.size → S' i → S i) : Kp S a c :=
  ⟨k.os.trans h.os, k.tape.trans h.tape, k.output.trans h.output, Nat.le_trans h.size k.size, fun i hi hn => (k.block i (Nat.lt_of_lt_of_le hi h.size) (fun e => hn (hs i hi e))).trans (h.block i hi hn)⟩
theorem Kp.mono {S S' : Nat → Prop} {a b : World} (h : Kp S a b) (hs : ∀ i, i < a.heap.size → S i → S' i) : Kp S' a b :=
  ⟨h.os, h.tape, h.output, h.size, fun i hi hn => h.block i hi (fun e => hn (hs i hi e))⟩
theorem Kp.grown {S : Nat → Prop} {a b : World} {row : Option Nat} (h : a.grownBy b row) (hs : ∀ i, row = some i → S i) : Kp S a b :=
  ⟨h.os, h.tape, h.output, h.size, fun i hi hn => h.block i hi (fun e => hn (hs i e.symm))⟩
theorem Kp.of_below {S : Nat → Prop} {a b : World} (h : Below a.heap.size a b) : Kp S a b := ⟨h.os, h.tape, h.output, h.size, fun i hi _ => h.block i hi⟩
theorem Kp.below {S : Nat → Prop} {a b : World} {B : Nat} (h : Kp S a b) (hs : ∀ i, S i → B ≤ i) (hB : B ≤ a.heap.size) : Below B a b :=
  ⟨h.os, h.tape, h.output, h.size, fun i hi => h.block i (Nat.lt_of_lt_of_le hi hB) (fun e => by have := hs i e; omega)⟩
theorem Kp.set {S : Nat → Prop} {w : World} {b i : Nat} (hb : S b) (x : Value) : Kp S w (w.setCell ⟨b, i, none⟩ x) :=
  .grown (grownBy_set (World.grownBy.refl _ _) _) (by intro j e; cases e; exact hb)
theorem Kp.alloc {S : Nat → Prop} (w : World) (o : Obj) : Kp S w (w.alloc o) := .of_below ((Below.refl _ _).alloc (Nat.le_refl _) _)
theorem Kp.drew {S : Nat → Prop} {a b : World} (h : Kp S a b) : Kp S a b.drew := ⟨h.os, h.tape, h.output, h.size, h.block⟩
theorem Kp.drewN {S : Nat → Prop} {a b : World} (h : Kp S a b) (n : Nat) : Kp S a (b.drewN n) := ⟨h.os, h.tape, h.output, h.size, h.block⟩
theorem Kp.heap {S : Nat → Prop} {a b : World} {k : Nat} {o : Obj} (h : Kp S a b) (hk : a.heap[k]? = some o) (hn : ¬ S k) : b.heap[k]? = some o := by
  rw [h.block k (Array.getElem?_eq_some_iff.1 hk).1 hn]; exact hk

theorem own_kp {w w' : World} {S : Nat → Prop} {base n : Nat} {e : TypeId} {v : Value} {xs : List Value} (h : w.ownsRow base e 1 v n xs) (hb : Kp S w w') (hn : ∀ k, v.ownBlock = some k → ¬ S k) : w'.ownsRow base e 1 v n xs := by
  refine ⟨h.1, ?_⟩
  rcases h.2 with h2 | ⟨g, cap, cur, hv, hg, hh, r⟩
  · exact Or.inl h2
  · exact Or.inr ⟨g, cap, cur, hv, hg, hb.heap hh (hn g (by rw [hv]; rfl)), r⟩
theorem SegK.kp {k : IntKind} {M : Int} {w w' : World} {S : Nat → Prop} {a : Option Addr} {zs : List Int} (h : SegK k M w a zs) (hb : Kp S w w') (hn : ∀ b off, a = some ⟨b, off, none⟩ → 0 < zs.length → ¬ S b) : SegK k M w' a zs :=
  h.of_cells fun b off i v hi ha hcl => by
    have hlt : b < w.heap.size := World.block_lt_of_cell? w _ hcl
    rw [World.cell?_of_block (a := ⟨b, off + i, none⟩) (hb.block b hlt (hn b off ha (by omega)))]
    exact hcl

/-- The row lies at its old place, or in a new block. -/
def Fresh (w : World) (v v' : Value) : Prop := ∀ k, v'.ownBlock = some k → v.ownBlock = some k ∨ w.heap.size ≤ k

/-- An append onto a row of the call's own. -/
theorem run_app_st {P : Program} (t ty : TypeId) (base : Nat) (e : TypeId) (i : TypeInfo) (z : Value) (bytes : Nat) (ht : P.underlying t = some (.slice e)) (hi : P.info? e = some i) (hz : i.zero = some z)
    (hsize : i.size = 1) (hby : i.bytes = bytes) (hzs : z.cells.size = 1)
    (w : World) {v : Value} {n : Nat} {xs : List Value} (hown : w.ownsRow base e 1 v n xs) (a : Addr) (m c : Nat) (news : List Value) (hl : news.length = m) (hnews : ∀ j u, news[j]? = some u → w.cell? (a.add j) = some u) (h1 : ∀ u ∈ news, u.oneCell' = true)
    (h63 : n + m ≤ 140737488355328) (hbytes : (n + m) * bytes ≤ 140737488355328) (hbase : base ≤ w.heap.size) :
    ∃ v' w', (Builtin.append_ #[t, t] ty #[v, .slice (some a) m c]).run P w = .ok v' w' ∧ w'.ownsRow base e 1 v' (n + m) (xs ++ news) ∧ w.grownBy w' v.ownBlock ∧ (v' = .slice none 0 0 ↔ v = .slice none 0 0 ∧ m = 0) ∧ Fresh w v v' := by
  obtain ⟨v', w', hr, h2, h3, h4⟩ := run_append_own (P := P) w base t ty e i z 1 bytes ht hi hz hsize hby hzs (by decide) v n xs hown a m c news (by omega) hnews h1 (by unfold maxLen; omega) hbytes hbase
  refine ⟨v', w', hr, h2, h3, h4, ?_⟩
  subst hby
  rcases hown.2 with ⟨rfl, rfl⟩ | ⟨g, cap, cur, rfl, hbg, hg, hnc, hcm, hcs, htake⟩
  · by_cases hm : m = 0
    · rw [h4.2 ⟨rfl, hm⟩]
      intro k hk; cases hk
    · have hr2 := run_append_nil (P := P) w t ty e i z ht hi hz a m c news (by rw [hsize]; omega) hnews (by omega) (by omega) (by simp only [Nat.zero_add] at hbytes; omega)
      rw [hr] at hr2
      simp only [Result.ok.injEq] at hr2
      obtain ⟨rfl, rfl⟩ := hr2
      intro k hk; cases hk; exact .inr (Nat.le_refl _)
  · by_cases hroom : n + m ≤ cap
    · have hr2 := run_append_room (P := P) w t ty e i ht hi g n cap cur hg a m c news (by rw [hsize]; omega) hnews h1 hroom (by rw [hsize]; omega)
      rw [hr] at hr2
      simp only [Result.ok.injEq] at hr2
      obtain ⟨rfl, rfl⟩ := hr2
      intro k hk; exact .inl hk
    · have hr2 := run_append_grow (P := P) w t ty e i z ht hi hz ⟨g, 0, none⟩ n cap xs (by rw [hsize]; exact hown.1) (hown.cells (g := g) rfl) a m c news (by rw [hsize]; omega) hnews (by omega) (by omega) (growslice_fits (by omega) hbytes)
      rw [hr] at hr2
      simp only [Result.ok.injEq] at hr2
      obtain ⟨rfl, rfl⟩ := hr2
      intro k hk; cases hk; exact .inr (Nat.le_refl _)

/-- 'out = append(out, src...)', src whatever one-cell values lie there; the row is at its place, or in a new block. -/
theorem wpList_app {P : Program} {ops : Array Oper} {rest : List Oper} {o : Oper} {a : Act} {Q : Exit → Act → World → Prop} (hgd : o.guard = none) (s x : Operand) (t : TypeId)
    (ho : o.op = .call { callee := .builtin .append, args := #[s, x], argTypes := #[t, t] })
    (base : Nat) (e : TypeId) (i : TypeInfo) (z : Value) (bytes : Nat) (ht : P.underlying t = some (.slice e)) (hi : P.info? e = some i) (hz : i.zero = some z)
    (hsize : i.size = 1) (hby : i.bytes = bytes) (hzs : z.cells.size = 1)
    {w : World} {v : Value} {n : Nat} {xs : List Value} (hown : w.ownsRow base e 1 v n xs) {ad : Addr} {m cap : Nat} {news : List Value} (hl : news.length = m) (hnews : ∀ j u, news[j]? = some u → w.cell? (ad.add j) = some u) (h1 : ∀ u ∈ news, u.oneCell' = true)
    (hs : a.eval s = v) (hx : a.eval x = .slice (some ad) m cap)
    (h63 : n + m ≤ 140737488355328) (hbytes : (n + m) * bytes ≤ 140737488355328) (hbase : base ≤ w.heap.size)
    (h : ∀ (b : Option Addr) (c : Nat) (w' : World), w'.ownsRow base e 1 (.slice b (n + m) c) (n + m) (xs ++ news) → w.grownBy w' v.ownBlock → Fresh w v (.slice b (n + m) c) → (Value.slice b (n + m) c = .slice none 0 0 ↔ v = .slice none 0 0 ∧ m = 0) → wpList P ops Q rest (a.put o.dst (.slice b (n + m) c)) w') : wpList P ops Q (o :: rest) a w := by
  obtain ⟨v', w', hr, h2, h3, h4, h5⟩ := run_app_st (P := P) t o.type base e i z bytes ht hi hz hsize hby hzs w hown ad m cap news hl hnews h1 h63 hbytes hbase
  obtain ⟨b, c, rfl⟩ : ∃ b c, v' = .slice b (n + m) c := by
    rcases h2.2 with ⟨rfl, h0⟩ | ⟨g, cp, cur, rfl, _⟩
    · exact ⟨none, 0, by rw [h0]⟩
    · exact ⟨_, _, rfl⟩
  refine wpList_plain hgd fun K hK => ?_
  unfold Oper.wp execOp
  simp only [ho, resolve, invoke, builtin, Sem.run_bind, Sem.run_pure, Result.andThen_ok, List.map_toArray, List.map_cons, List.map_nil, hs, hx, hr]
  exact hK _ _ (h b c w' h2 h3 h5 h4)

/-- One value, which lies in a block of its own, behind a row. -/
theorem wpList_app1 {P : Program} {ops : Array Oper} {rest : List Oper} {o : Oper} {a : Act} {Q : Exit → Act → World → Prop} (hgd : o.guard = none) (s x : Operand) (t : TypeId)
    (ho : o.op = .call { callee := .builtin .append, args := #[s, x], argTypes := #[t, t] })
    (base : Nat) (e : TypeId) (i : TypeInfo) (z : Value) (bytes : Nat) (ht : P.underlying t = some (.slice e)) (hi : P.info? e = some i) (hz : i.zero = some z)
    (hsize : i.size = 1) (hby : i.bytes = bytes) (hzs : z.cells.size = 1)
    (w0 : World) (y : Value) (hy : y.oneCell' = true) {v : Value} {n : Nat} {xs : List Value} (hown : w0.ownsRow base e 1 v n xs) (hs : a.eval s = v) (hx : a.eval x = .slice (some ⟨w0.heap.size, 0, none⟩) 1 1)
    (h63 : n + 1 ≤ 140737488355328) (hbytes : (n + 1) * bytes ≤ 140737488355328) (hbase : base ≤ w0.heap.size)
    (h : ∀ (g c : Nat) (w' : World), w'.ownsRow base e 1 (.slice (some ⟨g, 0, none⟩) (n + 1) c) (n + 1) (xs ++ [y]) → w0.grownBy w' v.ownBlock → Fresh w0 v (.slice (some ⟨g, 0, none⟩) (n + 1) c) → wpList P ops Q rest (a.put o.dst (.slice (some ⟨g, 0, none⟩) (n + 1) c)) w') : wpList P ops Q (o :: rest) a (w0.alloc (.cells #[y] e)) := by
  refine wpList_app hgd s x t ho base e i z bytes ht hi hz hsize hby hzs (hown.alloc _) (news := [y]) rfl (cell_one_new _ _ _) (by intro u hu; simp at hu; subst hu; exact hy) hs hx h63 hbytes (by simp; omega) ?_
  intro b c w' h1 h2 h3 _
  obtain ⟨g, cap, hv, _⟩ := own_shape h1 (Nat.succ_pos n)
  simp only [Value.slice.injEq] at hv
  obtain ⟨rfl, _, rfl⟩ := hv
  refine h g c w' h1 (grownBy_trans (World.grownBy_alloc w0 _ _) h2) ?_
  intro k hk
  rcases h3 k hk with e | e
  · exact .inl e
  · right; simp at e; omega

/-- Numbers that lie somewhere, behind a row. -/
theorem wpList_appS {P : Program} {ops : Array Oper} {rest : List Oper} {o : Oper} {a : Act} {Q : Exit → Act → World → Prop} (hgd : o.guard = none) (s x : Operand) (t : TypeId)
    (ho : o.op = .call { callee := .builtin .append, args := #[s, x], argTypes := #[t, t] })
    (base : Nat) (e : TypeId) (i : TypeInfo) (z : Value) (bytes : Nat) (ht : P.underlying t = some (.slice e)) (hi : P.info? e = some i) (hz : i.zero = some z)
    (hsize : i.size = 1) (hby : i.bytes = bytes) (hzs : z.cells.size = 1)
    {w : World} {ra : Option Addr} {rc : Nat} {n : Nat} {xs : List Value} (hown : w.ownsRow base e 1 (.slice ra n rc) n xs) {k : IntKind} {M : Int} {ao : Option Addr} {zs : List Int} {cap : Nat} (hseg : SegK k M w ao zs) (hnil : ao = none → cap = 0)
    (hs : a.eval s = .slice ra n rc) (hx : a.eval x = .slice ao zs.length cap)
    (h63 : n + zs.length ≤ 140737488355328) (hbytes : (n + zs.length) * bytes ≤ 140737488355328) (hbase : base ≤ w.heap.size)
    (h : ∀ (b : Option Addr) (c : Nat) (w' : World), w'.ownsRow base e 1 (.slice b (n + zs.length) c) (n + zs.length) (xs ++ zs.map (Value.int k)) → w.grownBy w' (Value.slice ra n rc).ownBlock → Fresh w (.slice ra n rc) (.slice b (n + zs.length) c) → (Value.slice b (n + zs.length) c = .slice none 0 0 ↔ Value.slice ra n rc = .slice none 0 0 ∧ zs.length = 0) → wpList P ops Q rest (a.put o.dst (.slice b (n + zs.length) c)) w') : wpList P ops Q (o :: rest) a w := by
  cases ao with
  | none =>
    have hz : zs = [] := by
      cases zs with
      | nil => rfl
      | cons z r => obtain ⟨b, off, hx, _⟩ := hseg.at_ 0 (by simp); cases hx
    subst hz
    rw [hnil rfl] at hx
    refine wpList_append_own_none hgd s x t ho base e i 1 ht hi _ n xs hs hown hx ?_
    have := h ra rc w (by simpa using hown) (World.grownBy.refl _ _) (fun k hk => .inl hk) (by simp)
    simpa using this
  | some ad =>
    exact wpList_app hgd s x t ho base e i z bytes ht hi hz hsize hby hzs hown (by simp) (seg_cells hseg) (ints_oneCell _ _) hs hx h63 hbytes hbase h

/-! Bits that lie somewhere. -/
structure SegB (w : World) (a : Option Addr) (L : List Bool) : Prop where
  at_ : ∀ i, i < L.length → ∃ b off, a = some ⟨b, off, none⟩ ∧ w.cell? ⟨b, off + i, none⟩ = some (.bool (L.getD i false))
theorem SegB.of_cells {w w' : World} {a : Option Addr} {L : List Bool} (h : SegB w a L) (hc : ∀ b off i v, i < L.length → a = some ⟨b, off, none⟩ → w.cell? ⟨b, off + i, none⟩ = some v → w'.cell? ⟨b, off + i, none⟩ = some v) : SegB w' a L :=
  ⟨fun i hi => by obtain ⟨b, off, ha, hcl⟩ := h.at_ i hi; exact ⟨b, off, ha, hc b off i _ hi ha hcl⟩⟩
theorem SegB.old {w w' : World} {a : Option Addr} {L : List Bool} (h : SegB w a L) (hb : Below w.heap.size w w') : SegB w' a L :=
  h.of_cells fun b off i v hi ha hcl => (hb.cell (p := ⟨b, off + i, none⟩) (World.block_lt_of_cell? w _ hcl)).trans hcl
theorem SegB.drop {w : World} {b off : Nat} {L : List Bool} (h : SegB w (some ⟨b, off, none⟩) L) (m : Nat) : SegB w (some ⟨b, off + m, none⟩) (L.drop m) := by
  refine ⟨fun i hi => ?_⟩
  simp at hi
  obtain ⟨b', off', ha, hc⟩ := h.at_ (m + i) (by omega)
  cases ha
  refine ⟨b, off + m, rfl, ?_⟩
  rw [Nat.add_assoc, hc]
  simp [List.getD]
theorem segB_cells {w : World} {x : Addr} {L : List Bool} (h : SegB w (some x) L) : ∀ j u, (L.map Value.bool)[j]? = some u → w.cell? (x.add j) = some u := by
  intro j u hu
  have hj : j < L.length := by
    rcases Nat.lt_or_ge j L.length with h | h
    · exact h
    · simp [List.getElem?_eq_none h] at hu
  obtain ⟨b, off, hx, hc⟩ := h.at_ j hj
  cases hx
  have hadd : (⟨b, off, none⟩ : Addr).add j = ⟨b, off + j, none⟩ := by unfold Addr.add; split <;> simp_all
  rw [hadd, hc]
  simp [hj] at hu
  subst hu
  simp [List.getD, hj]
theorem own_segB {w : World} {base n : Nat} {e : TypeId} {a : Option Addr} {cap : Nat} {L : List Bool} (h : w.ownsRow base e 1 (.slice a n cap) n (L.map Value.bool)) : SegB w a L := by
  rcases h.2 with ⟨h0, hn⟩ | ⟨g, cp, cur, hv, hg, hh, hc, _, _, ht⟩
  · have : L = [] := List.eq_nil_of_length_eq_zero (by have := h.1; simp at this; omega)
    subst this
    exact ⟨fun i hi => by simp at hi⟩
  · simp only [Value.slice.injEq] at hv
    obtain ⟨rfl, _, rfl⟩ := hv
    refine ⟨fun i hi => ⟨g, 0, rfl, ?_⟩⟩
    have := h.cells (g := g) rfl i (.bool (L.getD i false)) (by simp [List.getD, hi])
    have hadd : (⟨g, 0, none⟩ : Addr).add i = ⟨g, 0 + i, none⟩ := by unfold Addr.add; split <;> simp_all
    rw [hadd] at this
    exact this
theorem bools_oneCell (L : List Bool) : ∀ u ∈ L.map Value.bool, u.oneCell' = true := by
  intro u hu
  simp only [List.mem_map] at hu
  obtain ⟨b, _, rfl⟩ := hu
  rfl
end Go.Proofs.YthcmebmohhajaaaDoor

namespace Go.Proofs.YthcmebmohhajaaaDoor
open Go.RowKit
set_option linter.unusedVariables false

/-- Whole numbers (of 64 bits, with a sign) lie where a slice's address leads. -/
structure SegZ (w : World) (a : Option Addr) (zs : List Int) : Prop where
  at_ : ∀ i, i < zs.length → ∃ b off, a = some ⟨b, off, none⟩ ∧ w.cell? ⟨b, off + i, none⟩ = some (.int .i64 (zs.getD i 0))
  bd : ∀ i, -9223372036854775808 ≤ zs.getD i 0 ∧ zs.getD i 0 ≤ 9223372036854775807

theorem getD_bdz {zs : List Int} (h : ∀ z ∈ zs, -9223372036854775808 ≤ z ∧ z ≤ 9223372036854775807) (i : Nat) : -9223372036854775808 ≤ zs.getD i 0 ∧ zs.getD i 0 ≤ 9223372036854775807 := by
  by_cases hi : i < zs.length
  · have := h zs[i] (List.getElem_mem hi)
    simpa [List.getD, hi] using this
  · have : zs[i]? = none := List.getElem?_eq_none (by omega)
    simp [List.getD, this]
theorem SegZ.nil (w : World) (a : Option Addr) : SegZ w a [] := ⟨fun i h => by simp at h, fun i => by simp⟩
theorem SegZ.of_cells {w w' : World} {a : Option Addr} {zs : List Int} (h : SegZ w a zs) (hc : ∀ b off i v, i < zs.length → a = some ⟨b, off, none⟩ → w.cell? ⟨b, off + i, none⟩ = some v → w'.cell? ⟨b, off + i, none⟩ = some v) : SegZ w' a zs :=
  ⟨fun i hi => by obtain ⟨b, off, ha, hcl⟩ := h.at_ i hi; exact ⟨b, off, ha, hc b off i _ hi ha hcl⟩, h.bd⟩
theorem SegZ.old {w w' : World} {a : Option Addr} {zs : List Int} (h : SegZ w a zs) (hb : Below w.heap.size w w') : SegZ w' a zs :=
  h.of_cells fun b off i v hi ha hcl => (hb.cell (p := ⟨b, off + i, none⟩) (World.block_lt_of_cell? w _ hcl)).trans hcl
theorem SegZ.kp {w w' : World} {S : Nat → Prop} {a : Option Addr} {zs : List Int} (h : SegZ w a zs) (hb : Kp S w w') (hn : ∀ b off, a = some ⟨b, off, none⟩ → 0 < zs.length → ¬ S b) : SegZ w' a zs :=
  h.of_cells fun b off i v hi ha hcl => by
    have hlt : b < w.heap.size := World.block_lt_of_cell? w _ hcl
    rw [World.cell?_of_block (a := ⟨b, off + i, none⟩) (hb.block b hlt (hn b off ha (by omega)))]
    exact hcl
theorem SegZ.lt {w : World} {a : Option Addr} {zs : List Int} (h : SegZ w a zs) : ∀ b off, a = some ⟨b, off, none⟩ → 0 < zs.length → b < w.heap.size := by
  intro b off ha hl
  obtain ⟨b', off', ha', hc⟩ := h.at_ 0 hl
  rw [ha] at ha'
  cases ha'
  exact World.block_lt_of_cell? w _ hc
theorem SegZ.drewN {w : World} {a : Option Addr} {zs : List Int} (h : SegZ w a zs) (n : Nat) : SegZ (w.drewN n) a zs := ⟨h.at_, h.bd⟩
theorem SegZ.drew {w : World} {a : Option Addr} {zs : List Int} (h : SegZ w a zs) : SegZ w.drew a zs := ⟨h.at_, h.bd⟩
theorem SegZ.alloc {w : World} {a : Option Addr} {zs : List Int} (h : SegZ w a zs) (o : Obj) : SegZ (w.alloc o) a zs := h.old ((Below.refl _ _).alloc (Nat.le_refl _) o)
theorem SegZ.mem {w : World} {a : Option Addr} {zs : List Int} (h : SegZ w a zs) : ∀ z ∈ zs, -9223372036854775808 ≤ z ∧ z ≤ 9223372036854775807 := by
  intro z hz
  obtain ⟨i, hi, rfl⟩ := List.mem_iff_getElem.1 hz
  have := h.bd i
  simpa [List.getD, hi] using this
theorem SegZ.take {w : World} {a : Option Addr} {zs : List Int} (h : SegZ w a zs) (m : Nat) : SegZ w a (zs.take m) := by
  refine ⟨fun i hi => ?_, getD_bdz fun z hz => h.mem z (List.mem_of_mem_take hz)⟩
  simp at hi
  obtain ⟨b, off, ha, hc⟩ := h.at_ i (by omega)
  refine ⟨b, off, ha, ?_⟩
  rw [hc]
  have hk : i < m := by omega
  simp [List.getD, hk]
theorem SegZ.left {w : World} {a : Option Addr} {xs ys : List Int} (h : SegZ w a (xs ++ ys)) : SegZ w a xs := by
  have := h.take xs.length
  simpa using this
theorem segZ_cells {w : World} {x : Addr} {zs : List Int} (h : SegZ w (some x) zs) : ∀ j u, (zs.map (Value.int .i64))[j]? = some u → w.cell? (x.add j) = some u := by
  intro j u hu
  have hj : j < zs.length := by
    rcases Nat.lt_or_ge j zs.length with h | h
    · exact h
    · simp [List.getElem?_eq_none h] at hu
  obtain ⟨b, off, hx, hc⟩ := h.at_ j hj
  cases hx
  have hadd : (⟨b, off, none⟩ : Addr).add j = ⟨b, off + j, none⟩ := by unfold Addr.add; split <;> simp_all
  rw [hadd, hc]
  simp [hj] at hu
  subst hu
  simp [List.getD, hj]
/-- A row that the call owns, as numbers that lie there. -/
theorem own_segZ {w : World} {base n : Nat} {e : TypeId} {a : Option Addr} {cap : Nat} {zs : List Int} (h : w.ownsRow base e 1 (.slice a n cap) n (zs.map (Value.int .i64))) (hb : ∀ z ∈ zs, -9223372036854775808 ≤ z ∧ z ≤ 9223372036854775807) :
    SegZ w a zs := by
  have hl : zs.length = n := by simpa using h.1
  rcases h.2 with ⟨h1, hn⟩ | ⟨g, cap', cur, hv, hg, hh, hc, _, _, ht⟩
  · have : zs = [] := List.eq_nil_of_length_eq_zero (by omega)
    subst this
    exact SegZ.nil _ _
  · simp only [Value.slice.injEq] at hv
    obtain ⟨rfl, _, rfl⟩ := hv
    refine ⟨fun i hi => ⟨g, 0, rfl, ?_⟩, getD_bdz hb⟩
    have := h.cells (g := g) rfl i (.int .i64 (zs.getD i 0)) (by simp [List.getD, hi])
    have hadd : (⟨g, 0, none⟩ : Addr).add i = ⟨g, 0 + i, none⟩ := by unfold Addr.add; split <;> simp_all
    rw [hadd] at this
    exact this
/-- Numbers that lie somewhere, behind a row. -/
theorem wpList_appZ {P : Program} {ops : Array Oper} {rest : List Oper} {o : Oper} {a : Act} {Q : Exit → Act → World → Prop} (hgd : o.guard = none) (s x : Operand) (t : TypeId)
    (ho : o.op = .call { callee := .builtin .append, args := #[s, x], argTypes := #[t, t] })
    (base : Nat) (e : TypeId) (i : TypeInfo) (z : Value) (bytes : Nat) (ht : P.underlying t = some (.slice e)) (hi : P.info? e = some i) (hz : i.zero = some z)
    (hsize : i.size = 1) (hby : i.bytes = bytes) (hzs : z.cells.size = 1)
    {w : World} {ra : Option Addr} {rc : Nat} {n : Nat} {xs : List Value} (hown : w.ownsRow base e 1 (.slice ra n rc) n xs) {ao : Option Addr} {zs : List Int} {cap : Nat} (hseg : SegZ w ao zs) (hnil : ao = none → cap = 0)
    (hs : a.eval s = .slice ra n rc) (hx : a.eval x = .slice ao zs.length cap)
    (h63 : n + zs.length ≤ 140737488355328) (hbytes : (n + zs.length) * bytes ≤ 140737488355328) (hbase : base ≤ w.heap.size)
    (h : ∀ (b : Option Addr) (c : Nat) (w' : World), w'.ownsRow base e 1 (.slice b (n + zs.length) c) (n + zs.length) (xs ++ zs.map (Value.int .i64)) → w.grownBy w' (Value.slice ra n rc).ownBlock → Fresh w (.slice ra n rc) (.slice b (n + zs.length) c) → (Value.slice b (n + zs.length) c = .slice none 0 0 ↔ Value.slice ra n rc = .slice none 0 0 ∧ zs.length = 0) → wpList P ops Q rest (a.put o.dst (.slice b (n + zs.length) c)) w') : wpList P ops Q (o :: rest) a w := by
  cases ao with
  | none =>
    have hz : zs = [] := by
      cases zs with
      | nil => rfl
      | cons z r => obtain ⟨b, off, hx, _⟩ := hseg.at_ 0 (by simp); cases hx
    subst hz
    rw [hnil rfl] at hx
    refine wpList_append_own_none hgd s x t ho base e i 1 ht hi _ n xs hs hown hx ?_
    have := h ra rc w (by simpa using hown) (World.grownBy.refl _ _) (fun k hk => .inl hk) (by simp)
    simpa using this
  | some ad =>
    exact wpList_app hgd s x t ho base e i z bytes ht hi hz hsize hby hzs hown (by simp) (segZ_cells hseg) (ints_oneCell _ _) hs hx h63 hbytes hbase h
theorem below_own {w w' : World} {base n : Nat} {e : TypeId} {v : Value} {xs : List Value} (hown : w.ownsRow base e 1 v n xs) (hg : w.grownBy w' v.ownBlock) (hb : base ≤ w.heap.size) : Below base w w' :=
  (Below.refl _ _).grown hg hb (fun k hk => (hown.lt k hk).1)
theorem take_snocZ {zs : List Int} {k : Nat} (hk : k < zs.length) : zs.take (k + 1) = zs.take k ++ [zs.getD k 0] := by
  rw [List.take_add_one]
  simp [List.getD, hk]
end Go.Proofs.YthcmebmohhajaaaDoor

namespace Go.Proofs.YthcmebmohhajaaaDoor
open Go.RowKit
set_option linter.unusedVariables false

theorem take_all_eq {xs ys : List Int} (h : xs.length = ys.length) {k : Nat} (hk : k = xs.length ∨ k = ys.length) (he : xs.take k = ys.take k) : xs = ys := by
  have : k = xs.length := by omega
  rw [List.take_of_length_le (by omega), List.take_of_length_le (by omega)] at he
  exact he

end Go.Proofs.YthcmebmohhajaaaDoor

namespace Go.Proofs.YthcmebmohhajaaaDoor
open Go.RowKit
set_option linter.unusedVariables false

/-- A count that may be. -/
def okF (z : Int) : Bool := decide (0 ≤ z ∧ z ≤ 1099511627776)
/-- The error that counts have. -/
def errOf (zs : List Int) : Int := if 288 < zs.length then 40 else if zs.all okF then 0 else 42
theorem errOf_many {zs : List Int} (h : 288 < zs.length) : errOf zs = 40 := by simp [errOf, h]
theorem errOf_bad {zs : List Int} (h : ¬ 288 < zs.length) {k : Nat} (hk : k < zs.length) (hb : ¬ (0 ≤ zs.getD k 0 ∧ zs.getD k 0 ≤ 1099511627776)) : errOf zs = 42 := by
  have : zs.all okF = false := by
    rw [List.all_eq_false]
    refine ⟨zs.getD k 0, ?_, by simp only [okF, hb]; decide⟩
    simp [List.getD, hk]
  simp [errOf, h, this]
theorem all_snoc {zs : List Int} {k : Nat} (hk : k < zs.length) (h : (zs.take k).all okF = true) (hb : 0 ≤ zs.getD k 0 ∧ zs.getD k 0 ≤ 1099511627776) : (zs.take (k + 1)).all okF = true := by
  rw [take_snocZ hk, List.all_append, h]
  simp only [List.all_cons, List.all_nil, okF, hb]
  simp
theorem errOf_ok {zs : List Int} (h : ¬ 288 < zs.length) (ha : (zs.take zs.length).all okF = true) : errOf zs = 0 := by
  rw [List.take_of_length_le (Nat.le_refl _)] at ha
  simp [errOf, h, ha]
theorem errOf_zero {zs : List Int} (h : errOf zs = 0) : zs.length ≤ 288 ∧ ∀ i, 0 ≤ zs.getD i 0 ∧ zs.getD i 0 ≤ 1099511627776 := by
  unfold errOf at h
  split at h
  · omega
  · rename_i h1
    split at h
    · rename_i h2
      refine ⟨by omega, fun i => ?_⟩
      by_cases hi : i < zs.length
      · have := List.all_eq_true.1 h2 zs[i] (List.getElem_mem hi)
        simpa [okF, List.getD, hi] using this
      · simp [List.getD, List.getElem?_eq_none (Nat.le_of_not_lt hi)]
    · omega
theorem errOf_range (zs : List Int) : errOf zs = 0 ∨ errOf zs = 40 ∨ errOf zs = 42 := by
  unfold errOf
  split
  · exact .inr (.inl rfl)
  · split
    · exact .inl rfl
    · exact .inr (.inr rfl)

set_option maxRecDepth 100000 in
theorem refusal_any (a : Option Addr) (zs : List Int) (cap : Nat) (w : World) (hs : SegZ w a zs) (hl : zs.length ≤ 9223372036854775807) :
    Calls Tryd.prog 70 #[.slice a zs.length cap] w fun e w' => e = .returned (.int .i64 (errOf zs)) ∧ w' = w := by
  by_cases hm : 288 < zs.length
  · have hmi : (288 : Int) < (zs.length : Int) := by omega
    have HE : Hid (errOf zs = 40) := errOf_many hm
    go_enter Tryd.func70, Tryd.ntmps70
    go_wp2
    go_ret
    exact ⟨by rw [HE.out] <;> rfl, rfl⟩
  · have hmi : ¬ (288 : Int) < (zs.length : Int) := by omega
    go_enter Tryd.func70, Tryd.ntmps70
    go_wp2
    go_loopw [10] (fun ti wr => ∃ k : Nat, k ≤ zs.length ∧ ti = .int .i64 k ∧ Hid ((zs.take k).all okF = true) ∧ wr = w) (fun ti _ => zs.length - (intOf ti).toNat)
    case atStart => exact ⟨0, Nat.zero_le _, rfl, (by simp : _ = _), rfl⟩
    case round =>
      obtain ⟨k, hk, rfl, HA, rfl⟩ := hrel
      by_cases h1 : k < zs.length
      · have h1i : (k : Int) < (zs.length : Int) := by omega
        obtain ⟨b1, o1, rfl, c1⟩ := hs.at_ k h1
        have b1 := hs.bd k
        have HB : Hid (¬ (0 ≤ zs.getD k 0 ∧ zs.getD k 0 ≤ 1099511627776) → errOf zs = 42) := errOf_bad hm h1
        have HC : Hid ((0 ≤ zs.getD k 0 ∧ zs.getD k 0 ≤ 1099511627776) → (zs.take (k + 1)).all okF = true) := all_snoc h1 HA.out
        generalize zs.getD k 0 = z at *
        by_cases h0 : z < 0
        · go_wp2
          go_ret
          exact ⟨by rw [HB.out (by omega)] <;> rfl, rfl⟩
        · by_cases h4 : 1099511627776 < z
          · go_wp2
            go_ret
            exact ⟨by rw [HB.out (by omega)] <;> rfl, rfl⟩
          · go_wp2
            go_roundw
            case rel => exact ⟨k + 1, by omega, by go_num, HC.out (by omega), trivial⟩
            case measure => simp [intOf]; omega
      · obtain rfl : k = zs.length := by omega
        have HE : Hid (errOf zs = 0) := errOf_ok hm HA.out
        clear h1
        go_wp2
        go_ret
        exact ⟨by rw [HE.out] <;> rfl, rfl⟩
end Go.Proofs.YthcmebmohhajaaaDoor

namespace Go.Proofs.YthcmebmohhajaaaDoor
open Go.RowKit
set_option linter.unusedVariables false

/-- An array of numbers. -/
def arr (A : List Int) : Array Value := (A.map (Value.int .i64)).toArray
theorem arr_size (A : List Int) : (arr A).size = A.length := by simp [arr]
theorem arr_cell {w : World} {b : Nat} {A : List Int} {t : TypeId} (h : w.heap[b]? = some (.cells (arr A) t (0, 0))) {i : Nat} (hi : i < A.length) : w.cell? ⟨b, i, none⟩ = some (.int .i64 (A.getD i 0)) := by
  rw [cell_of_row w b i (arr A) t (0, 0) h]
  simp [arr, List.getD, hi]
theorem arr_free {w : World} {b : Nat} {A : List Int} {t : TypeId} (h : w.heap[b]? = some (.cells (arr A) t (0, 0))) (i : Nat) : w.frozen? ⟨b, i, none⟩ = false := frozen_of_row w b i (arr A) t h
theorem arr_set {w : World} {b : Nat} {A : List Int} {t : TypeId} (h : w.heap[b]? = some (.cells (arr A) t (0, 0))) (i : Nat) (v : Int) : (w.setCell ⟨b, i, none⟩ (.int .i64 v)).heap[b]? = some (.cells (arr (A.set i v)) t (0, 0)) := by
  rw [heap_setCell_same w b i (arr A) t _ h]
  congr 2
  simp [arr, List.map_set]
theorem arr_one (A : List Int) : (arr A).all (·.oneCell') = true := by
  simp [arr, Value.oneCell']
theorem arr_info {A : List Int} (h : A.length = 16) : (Tryd.prog.info? 63).map (·.size) = some (arr A).size := by
  rw [arr_size, h]
  kernel_rfl
theorem grown_setRow (w : World) (g : Nat) (cs : Array Value) : w.grownBy (w.setRow g cs) (some g) := ⟨rfl, rfl, rfl, by simp [World.setRow], fun k _ hk => setRow_other w g k cs (fun e => hk (by rw [e]))⟩
theorem grown_drew {w w' : World} {r : Option Nat} (h : w.grownBy w' r) : w.grownBy w'.drew r := ⟨h.os, h.tape, h.output, h.size, h.block⟩
theorem grown_drewN {w w' : World} {r : Option Nat} (h : w.grownBy w' r) (n : Nat) : w.grownBy (w'.drewN n) r := ⟨h.os, h.tape, h.output, h.size, h.block⟩
theorem set_grown (w : World) (g i : Nat) (v : Value) : w.grownBy (w.setCell ⟨g, i, none⟩ v) (some g) := ⟨rfl, rfl, rfl, by simp, fun k _ hk => heap_setCell_other w ⟨g, i, none⟩ k v (fun e => hk (by simp [e]))⟩
theorem results_ct {P : Program} {fn : Func} {p u : Tmp} {ty : TypeId} (h : fn.results = #[.cell p ty, .tmp u]) (tmps : Array Value) (w : World) (g : Nat) (t : TypeId) (cs : Array Value) (fr : Nat × Nat) (d : TypeDesc)
    (hp : tmps.getD p undef = .pointer (some ⟨g, 0, none⟩)) (hg : w.heap[g]? = some (.cells cs t fr))
    (hu : P.underlying ty = some d) (hd : (match d with | .struct _ | .array _ _ => true | _ => false) = true) (hi : (P.info? ty).map (·.size) = some cs.size) :
    (results fn tmps).run P w = .ok (.tuple #[.agg cs, tmps.getD u undef]) w := by
  rw [results_cell_tmp h, hp]
  simp [asAddr, Result.andThen, run_loadVar_row w g t ty cs fr d hg hu hd hi]
def zero16 : Array Value := #[.int .i64 0, .int .i64 0, .int .i64 0, .int .i64 0, .int .i64 0, .int .i64 0, .int .i64 0, .int .i64 0, .int .i64 0, .int .i64 0, .int .i64 0, .int .i64 0, .int .i64 0, .int .i64 0, .int .i64 0, .int .i64 0]
theorem zero16_arr : zero16 = arr (List.replicate 16 0) := rfl
theorem zero16_one : zero16.all (·.oneCell') = true := by rw [zero16_arr]; exact arr_one _
theorem arr_range {w : World} {b : Nat} {A : List Int} {t : TypeId} (h : w.heap[b]? = some (.cells (arr A) t (0, 0))) : w.rangeAt b 0 (A.map (Value.int .i64)) := by
  intro j v hv
  rw [Nat.zero_add, cell_of_row w b j (arr A) t (0, 0) h]
  simpa [arr] using hv
theorem range_old {w w' : World} {b o : Nat} {cs : List Value} (h : w.rangeAt b o cs) (hb : Below w.heap.size w w') (hl : b < w.heap.size) : w'.rangeAt b o cs := fun j v hv => (hb.cell (p := ⟨b, o + j, none⟩) hl).trans (h j v hv)
/-- How many codes of each length there are, as the program has it. -/
def cnts (zs : List Int) : List Int := (List.range 16).map fun l => (cC zs l : Int)
theorem cnts_len (zs : List Int) : (cnts zs).length = 16 := by simp [cnts]
theorem cnts_get (zs : List Int) {l : Nat} (h : l < 16) : (cnts zs).getD l 0 = (cC zs l : Int) := by simp [cnts, List.getD, h]
def fsts (zs : List Int) : List Int := (List.range 16).map fun l => (cF zs l : Int)
theorem fsts_len (zs : List Int) : (fsts zs).length = 16 := by simp [fsts]
theorem fsts_get (zs : List Int) {l : Nat} (h : l < 16) : (fsts zs).getD l 0 = (cF zs l : Int) := by simp [fsts, List.getD, h]
theorem cS_le (zs : List Int) {m : Nat} (h : ∀ l, cC zs l ≤ m) : ∀ l, cS zs l ≤ l * m
  | 0 => Nat.zero_le _
  | l + 1 => by
    rw [cS_succ, Nat.succ_mul]
    exact Nat.add_le_add (cS_le zs h l) (h l)

set_option maxRecDepth 100000 in
set_option maxHeartbeats 400000 in
theorem total_any (zs : List Int) (hb : ∀ l, cC zs l ≤ 288) (w : World) :
    Calls Tryd.prog 93 #[.agg (arr (cnts zs))] w fun e w' => e = .returned (.int .i64 (tot zs : Int)) ∧ Below w.heap.size w w' := by
  go_enter Tryd.func93, Tryd.ntmps93
  go_wp2_with fail
  have h0 : (w.alloc (.cells (arr (cnts zs)) 63)).heap[w.heap.size]? = some (.cells (arr (cnts zs)) 63 (0, 0)) := heap_alloc_new w _
  have B0 : Below w.heap.size w (w.alloc (.cells (arr (cnts zs)) 63)) := (Below.refl _ _).alloc (Nat.le_refl _) _
  generalize w.alloc (.cells (arr (cnts zs)) 63) = W at *
  go_loopw [3, 5] (fun ts tj wr => ∃ j : Nat, j ≤ 16 ∧ tj = .int .i64 (j : Int) ∧ ts = .int .i64 (cS zs j : Int) ∧ wr = W) (fun _ tj _ => 16 - (intOf tj).toNat)
  case atStart => exact ⟨0, by omega, rfl, rfl, rfl⟩
  case round =>
    obtain ⟨j, hj, rfl, rfl, hwr⟩ := hrel
    subst hwr
    by_cases hj6 : j < 16
    · have hji : (j : Int) < 16 := by omega
      have c0 := arr_cell h0 (i := j) (by rw [cnts_len]; exact hj6)
      rw [cnts_get zs hj6] at c0
      have hs := cS_le zs hb j
      have hc := hb j
      have hs2 : j * 288 ≤ 16 * 288 := Nat.mul_le_mul_right _ hj
      have HS : Hid (cS zs (j + 1) = cS zs j + cC zs j) := cS_succ zs j
      generalize cS zs j = s at *
      generalize cC zs j = c at *
      obtain ⟨t, ht⟩ : ∃ t, t = s + c := ⟨_, rfl⟩
      have r1 : (s : Int) + (c : Int) = (t : Int) := by omega
      have HT : Hid (t = s + c) := ht
      have htb : t ≤ 100000 := by omega
      clear ht hs hc hs2
      go_wp2
      go_roundw
      case rel => exact ⟨j + 1, by omega, by go_num, by rw [HS.out, HT.out], trivial⟩
      case measure => simp [intOf]; omega
    · obtain rfl : j = 16 := by omega
      go_wp2
      go_ret
      exact ⟨rfl, B0⟩

set_option maxRecDepth 100000 in
set_option maxHeartbeats 400000 in
theorem pspace_any (zs : List Int) (hb : ∀ l, cC zs l ≤ 288) (w : World) :
    Calls Tryd.prog 92 #[.agg (arr (cnts zs))] w fun e w' => e = .returned (.int .i64 (spc zs : Int)) ∧ Below w.heap.size w w' := by
  go_enter Tryd.func92, Tryd.ntmps92
  go_wp2_with fail
  have h0 : (w.alloc (.cells (arr (cnts zs)) 63)).heap[w.heap.size]? = some (.cells (arr (cnts zs)) 63 (0, 0)) := heap_alloc_new w _
  have B0 : Below w.heap.size w (w.alloc (.cells (arr (cnts zs)) 63)) := (Below.refl _ _).alloc (Nat.le_refl _) _
  generalize w.alloc (.cells (arr (cnts zs)) 63) = W at *
  go_loopw [3, 5] (fun ts tj wr => ∃ j : Nat, j ≤ 16 ∧ tj = .int .i64 (j : Int) ∧ ts = .int .i64 (cP zs j : Int) ∧ wr = W) (fun _ tj _ => 16 - (intOf tj).toNat)
  case atStart => exact ⟨0, by omega, rfl, rfl, rfl⟩
  case round =>
    obtain ⟨j, hj, rfl, rfl, hwr⟩ := hrel
    subst hwr
    by_cases hj6 : j < 16
    · have hji : (j : Int) < 16 := by omega
      have c0 := arr_cell h0 (i := j) (by rw [cnts_len]; exact hj6)
      rw [cnts_get zs hj6] at c0
      have hs := cP_le zs j
      have hs1 := cS_le zs hb j
      have hc := hb j
      have hs2 : j * 288 ≤ 16 * 288 := Nat.mul_le_mul_right _ hj
      have HS : Hid (cP zs (j + 1) = cP zs j + cC zs j * 2 ^ (15 - j)) := cP_succ zs j
      have hpb : 2 ^ (15 - j) ≤ 2 ^ 15 := Nat.pow_le_pow_right (by decide) (by omega)
      have hcp : cC zs j * 2 ^ (15 - j) ≤ 288 * 2 ^ 15 := Nat.mul_le_mul hc hpb
      obtain ⟨q, hq⟩ : ∃ q, q = 15 - j := ⟨_, rfl⟩
      have rq : 15 - (j : Int) = (q : Int) := by omega
      rw [← hq] at HS hcp
      obtain ⟨x, hx⟩ : ∃ x, x = cC zs j * 2 ^ q := ⟨_, rfl⟩
      have hxb : x ≤ 10000000 := by rw [hx]; exact Nat.le_trans hcp (by decide)
      have hw : RowKit.wrap64 ((cC zs j : Int) * 2 ^ q) = (x : Int) := by
        rw [hx, show ((cC zs j : Int) * 2 ^ q) = ((cC zs j * 2 ^ q : Nat) : Int) by simp, ← IntWalk.i64_left]
        exact IntWalk.i64_in _ (by omega)
      rw [← hx] at HS
      have hq15 : q ≤ 15 := by omega
      generalize cP zs j = s at *
      generalize cC zs j = c at *
      obtain ⟨t, ht⟩ : ∃ t, t = s + x := ⟨_, rfl⟩
      have r1 : (s : Int) + (x : Int) = (t : Int) := by omega
      have HT : Hid (t = s + x) := ht
      have htb : t ≤ 1000000000 := by omega
      clear ht hs hc hs2 hx hcp hpb hs1 hq
      go_wp2
      go_roundw
      case rel => exact ⟨j + 1, by omega, by go_num, by rw [HS.out, HT.out], trivial⟩
      case measure => simp [intOf]; omega
    · obtain rfl : j = 16 := by omega
      go_wp2
      go_ret
      exact ⟨rfl, B0⟩
end Go.Proofs.YthcmebmohhajaaaDoor

namespace Go.Proofs.YthcmebmohhajaaaDoor
open Go.RowKit
set_option linter.unusedVariables false

def fstk (zs : List Int) (j : Nat) : List Int := (List.range 16).map fun l => if l ≤ j then (cF zs l : Int) else 0
theorem fstk_len (zs : List Int) (j : Nat) : (fstk zs j).length = 16 := by simp [fstk]
theorem fstk_get (zs : List Int) {j l : Nat} (h : l < 16) : (fstk zs j).getD l 0 = if l ≤ j then (cF zs l : Int) else 0 := by simp [fstk, List.getD, h]
theorem fstk_set (zs : List Int) {j : Nat} (h : j + 1 < 16) : (fstk zs j).set (j + 1) (cF zs (j + 1) : Int) = fstk zs (j + 1) := by
  apply List.ext_getElem (by simp [fstk])
  intro i h1 h2
  simp only [List.getElem_set, fstk, List.getElem_map, List.getElem_range]
  by_cases e : j + 1 = i
  · subst e; simp
  · rw [if_neg e]
    by_cases c : i ≤ j
    · rw [if_pos c, if_pos (by omega)]
    · rw [if_neg c, if_neg (by omega)]
theorem fstk_zero (zs : List Int) : fstk zs 0 = List.replicate 16 0 := by
  simp [fstk, List.range, List.range.loop, cF]
theorem fstk_all (zs : List Int) : fstk zs 15 = fsts zs := by
  simp only [fstk, fsts]
  apply List.map_congr_left
  intro l hl
  rw [List.mem_range] at hl
  rw [if_pos (by omega)]

set_option maxRecDepth 100000 in
set_option maxHeartbeats 4000000 in
theorem firsts_any (zs : List Int) (hb : ∀ l, cC zs l ≤ 288) (HFB : Hid (∀ l, l ≤ 15 → cF zs l ≤ 100000000)) (w : World) :
    Calls Tryd.prog 74 #[.agg (arr (cnts zs))] w fun e w' => e = .returned (.agg (arr (fsts zs))) ∧ Below w.heap.size w w' := by
  go_enter Tryd.func74, Tryd.ntmps74
  go_wp2_with fail
  have e0 : (#[.int .i64 0, .int .i64 0, .int .i64 0, .int .i64 0, .int .i64 0, .int .i64 0, .int .i64 0, .int .i64 0, .int .i64 0, .int .i64 0, .int .i64 0, .int .i64 0, .int .i64 0, .int .i64 0, .int .i64 0, .int .i64 0] : Array Value) = arr (fstk zs 0) := by rw [fstk_zero]; rfl
  rw [e0]
  have h0 : (w.alloc (.cells (arr (cnts zs)) 63)).heap[w.heap.size]? = some (.cells (arr (cnts zs)) 63 (0, 0)) := heap_alloc_new w _
  have B0 : Below w.heap.size w (w.alloc (.cells (arr (cnts zs)) 63)) := (Below.refl _ _).alloc (Nat.le_refl _) _
  have z0 : (w.alloc (.cells (arr (cnts zs)) 63)).heap.size = w.heap.size + 1 := by simp
  generalize w.alloc (.cells (arr (cnts zs)) 63) = W0 at *
  have h1 : (W0.alloc (.cells (arr (fstk zs 0)) 63)).heap[W0.heap.size]? = some (.cells (arr (fstk zs 0)) 63 (0, 0)) := heap_alloc_new _ _
  have B1 : Below W0.heap.size W0 (W0.alloc (.cells (arr (fstk zs 0)) 63)) := (Below.refl _ _).alloc (Nat.le_refl _) _
  have z1 : (W0.alloc (.cells (arr (fstk zs 0)) 63)).heap.size = W0.heap.size + 1 := by simp
  generalize W0.alloc (.cells (arr (fstk zs 0)) 63) = W1 at *
  have h2 : (W1.alloc (.cells (arr (fstk zs 0)) 63)).heap[W1.heap.size]? = some (.cells (arr (fstk zs 0)) 63 (0, 0)) := heap_alloc_new _ _
  have B2 : Below W1.heap.size W1 (W1.alloc (.cells (arr (fstk zs 0)) 63)) := (Below.refl _ _).alloc (Nat.le_refl _) _
  have z2 : (W1.alloc (.cells (arr (fstk zs 0)) 63)).heap.size = W1.heap.size + 1 := by simp
  generalize W1.alloc (.cells (arr (fstk zs 0)) 63) = W2 at *
  rw [← z0, ← z1]
  have ha := (B2.block w.heap.size (by omega)).trans ((B1.block w.heap.size (by omega)).trans h0)
  have hr := (B2.block W0.heap.size (by omega)).trans h1
  have BB : Below w.heap.size w W2 := B0.trans ((B1.mono (by omega)).trans (B2.mono (by omega)))
  obtain ⟨a, ea⟩ : ∃ a, a = w.heap.size := ⟨_, rfl⟩
  obtain ⟨r, er⟩ : ∃ r, r = W0.heap.size := ⟨_, rfl⟩
  obtain ⟨o, eo⟩ : ∃ o, o = W1.heap.size := ⟨_, rfl⟩
  have HN : Hid (a < r ∧ r < o ∧ w.heap.size = a) := ⟨by omega, by omega, ea.symm⟩
  rw [← ea, ← er, ← eo]
  rw [← ea] at ha
  rw [← er] at hr
  rw [← eo] at h2
  clear h0 h1 B0 B1 B2 z0 z1 z2 ea er eo
  go_loopw [5] (fun tj wr => ∃ j : Nat, j ≤ 15 ∧ tj = .int .i64 (j : Int) ∧ wr.heap[o]? = some (.cells (arr (fstk zs j)) 63 (0, 0)) ∧ W2.grownBy wr (some o)) (fun tj _ => 15 - (intOf tj).toNat)
  case atStart => exact ⟨0, by omega, rfl, h2, World.grownBy.refl _ _⟩
  case round =>
    obtain ⟨j, hj, rfl, ho, hg⟩ := hrel
    have ha2 := (hg.block a (by have := BB.size; have := HN.out; have := (Array.getElem?_eq_some_iff.1 ha).1; omega) (by have := HN.out; simp; omega)).trans ha
    have hr2 := (hg.block r (Array.getElem?_eq_some_iff.1 hr).1 (by have := HN.out; simp; omega)).trans hr
    by_cases hj6 : j < 15
    · have hji : (j : Int) < 15 := by omega
      have c0 := arr_cell ha2 (i := j) (by rw [cnts_len]; omega)
      rw [cnts_get zs (by omega)] at c0
      have d0 := arr_cell ho (i := j) (by rw [fstk_len]; omega)
      rw [fstk_get zs (by omega), if_pos (Nat.le_refl _)] at d0
      have d1 := arr_cell ho (i := j + 1) (by rw [fstk_len]; omega)
      have f1 := arr_free ho (j + 1)
      have HSET : Hid _ := arr_set ho (j + 1) (cF zs (j + 1) : Int)
      have HF : Hid (cF zs (j + 1) = 2 * (cF zs j + cC zs j)) := cF_succ zs j
      have hfb : cF zs j ≤ 100000000 := HFB.out j (by omega)
      have hcb := hb j
      generalize (fstk zs j).getD (j + 1) 0 = old at *
      generalize cC zs j = c at *
      have HX : Hid (∃ x, x = cF zs (j + 1)) := ⟨_, rfl⟩
      obtain ⟨x, hx⟩ := HX.out
      rw [← hx] at HSET HF
      have HXX : Hid (x = cF zs (j + 1)) := hx
      clear hx HX
      generalize cF zs j = f at *
      obtain ⟨t, ht⟩ : ∃ t, t = f + c := ⟨_, rfl⟩
      have r1 : (f : Int) + (c : Int) = (t : Int) := by omega
      have hx : IntKind.i64.wrap ((t : Int) * 2) = (x : Int) := by
        have := HF.out
        rw [show ((t : Int) * 2) = (x : Int) by omega]
        exact IntWalk.i64_in _ (by omega)
      have ht64 : IntKind.i64.wrap (t : Int) = (t : Int) := IntWalk.i64_in _ (by omega)
      have htb : t ≤ 1000000000 := by omega
      have hji1 : (j : Int) + 1 < 16 := by omega
      have hj16 : (j : Int) < 16 := by omega
      have hz1 : (0 : Int) ≤ (j : Int) + 1 := by omega
      have hwj : IntKind.i64.wrap ((j : Int) + 1) = (j : Int) + 1 := IntWalk.i64_in _ (by omega)
      have HK : Hid (∀ (W : World) (v : Value), (W.cell? ⟨a, j, none⟩ = some (.int .i64 (c : Int)) ∧ W.cell? ⟨o, j, none⟩ = some (.int .i64 (f : Int))) → ((W.setCell ⟨o, j + 1, none⟩ v).cell? ⟨a, j, none⟩ = some (.int .i64 (c : Int)) ∧ (W.setCell ⟨o, j + 1, none⟩ v).cell? ⟨o, j, none⟩ = some (.int .i64 (f : Int)))) := fun W v h => by
        have hn := HN.out
        exact ⟨(World.cell?_setCell_other _ _ _ _ (by intro e; simp only [Addr.mk.injEq] at e; omega)).trans h.1, (World.cell?_setCell_other _ _ _ _ (by intro e; simp only [Addr.mk.injEq] at e; omega)).trans h.2⟩
      have HK2 := fun v => HK.out wr v ⟨c0, d0⟩
      have k1 : ∀ v, (wr.setCell ⟨o, j + 1, none⟩ v).drew.cell? ⟨a, j, none⟩ = some (.int .i64 (c : Int)) := fun v => (HK2 v).1
      have k2 : ∀ v, (wr.setCell ⟨o, j + 1, none⟩ v).drew.cell? ⟨o, j, none⟩ = some (.int .i64 (f : Int)) := fun v => (HK2 v).2
      clear ht HK2
      go_wp2_with fail
      go_region_held3 (fun w' => w'.cell? ⟨a, j, none⟩ = some (.int .i64 (c : Int)) ∧ w'.cell? ⟨o, j, none⟩ = some (.int .i64 (f : Int))) (first | go_keep | (exact ⟨k1 _, k2 _⟩) | (exact k1 _) | (exact k2 _)) (fail)
      all_goals
        go_wp2
        go_roundw
        case rel =>
          refine ⟨j + 1, by omega, by go_num, ?_, ?_⟩
          · rw [← fstk_set zs (by omega), ← HXX.out]
            exact HSET.out
          · exact grown_drew (grownBy_trans hg (set_grown _ _ _ _))
        case measure => simp [intOf]; omega
    · obtain rfl : j = 15 := by omega
      rw [fstk_all] at ho
      go_wp2_with (first
        | (refine wpList_load_row rfl 63 (.tmp 3) rfl o rfl _ _ _ _ ho Tryd.underlying63 rfl (arr_info (fsts_len zs)) ?_)
        | (refine wpList_store_row rfl 63 (.tmp 2) (.tmp 20) rfl r (arr (fsts zs)) rfl rfl _ _ hr2 (arr_info (fsts_len zs)) (by rw [arr_size, arr_size, fsts_len, fstk_len]) (arr_one _) ?_))
      have hR : (wr.setRow r (arr (fsts zs))).heap[r]? = some (.cells (arr (fsts zs)) 63 (0, 0)) := setRow_heap wr r _ _ _ _ hr2
      refine bodyPost_ret (v := .agg (arr (fsts zs))) (results_cell_row rfl _ _ r _ _ _ _ rfl hR Tryd.underlying63 rfl (arr_info (fsts_len zs))) rfl ⟨rfl, ?_⟩
      have hn := HN.out
      have B1 := BB.grown hg BB.size (fun k hk => by cases hk; omega)
      exact B1.grown (grown_setRow wr r _) B1.size (fun k hk => by cases hk; omega)
end Go.Proofs.YthcmebmohhajaaaDoor
