
import Derived.Test.YteboaolflecibaaDoorPush
import Derived.Test.YteboaolflecibaaDoorOwnSeg
import Derived.WalkKit
namespace Go.Proofs.YteboaolflecibaaDoor
open Go.RowKit
set_option linter.unusedVariables false

/-! A block of three cells. -/
theorem three_cell0 {w : World} {b : Nat} {x y z : Value} {t : TypeId} (h : w.heap[b]? = some (.cells #[x, y, z] t (0, 0))) : w.cell? ⟨b, 0, none⟩ = some x := by simp [World.cell?, h]
theorem three_cell1 {w : World} {b : Nat} {x y z : Value} {t : TypeId} (h : w.heap[b]? = some (.cells #[x, y, z] t (0, 0))) : w.cell? ⟨b, 1, none⟩ = some y := by simp [World.cell?, h]
theorem three_cell2 {w : World} {b : Nat} {x y z : Value} {t : TypeId} (h : w.heap[b]? = some (.cells #[x, y, z] t (0, 0))) : w.cell? ⟨b, 2, none⟩ = some z := by simp [World.cell?, h]
theorem three_free {w : World} {b : Nat} {x y z : Value} {t : TypeId} (h : w.heap[b]? = some (.cells #[x, y, z] t (0, 0))) (i : Nat) : w.frozen? ⟨b, i, none⟩ = false := by simp [World.frozen?, h]
theorem three_set0 {w : World} {b : Nat} {x y z : Value} {t : TypeId} (h : w.heap[b]? = some (.cells #[x, y, z] t (0, 0))) (u : Value) : (w.setCell ⟨b, 0, none⟩ u).heap[b]? = some (.cells #[u, y, z] t (0, 0)) := by
  simp [World.setCell, Array.getElem?_modify, h]
theorem three_set1 {w : World} {b : Nat} {x y z : Value} {t : TypeId} (h : w.heap[b]? = some (.cells #[x, y, z] t (0, 0))) (u : Value) : (w.setCell ⟨b, 1, none⟩ u).heap[b]? = some (.cells #[x, u, z] t (0, 0)) := by
  simp [World.setCell, Array.getElem?_modify, h]
theorem three_set2 {w : World} {b : Nat} {x y z : Value} {t : TypeId} (h : w.heap[b]? = some (.cells #[x, y, z] t (0, 0))) (u : Value) : (w.setCell ⟨b, 2, none⟩ u).heap[b]? = some (.cells #[x, y, u] t (0, 0)) := by
  simp [World.setCell, Array.getElem?_modify, h]

/-! What is kept: all blocks outside S. -/
structure Kp (S : Nat → Prop) (w w' : World) : Prop where
  os : w'.os = w.os
  tape : w'.tape = w.tape
  output : w'.output = w.output
  size : w.heap.size ≤ w'.heap.size
  block : ∀ k, k < w.heap.size → ¬ S k → w'.heap[k]? = w.heap[k]?
theorem Kp.refl (S : Nat → Prop) (w : World) : Kp S w w := ⟨rfl, rfl, rfl, Nat.le_refl _, fun _ _ _ => rfl⟩
theorem Kp.trans {S S' : Nat → Prop} {a b c : World} (h : Kp S a b) (k : Kp S' b c) (hs : ∀ i, i < a.heap.size → S' i → S i) : Kp S a c :=
  ⟨k.os.trans h.os, k.tape.trans h.tape, k.output.trans h.output, Nat.le_trans h.size k.size, fun i hi hn => (k.block i (Nat.lt_of_lt_of_le hi h.size) (fun e => hn (hs i hi e))).trans (h.block i hi hn)⟩
theorem Kp.mono {S S' : Nat → Prop} {a b : World} (h : Kp S a b) (hs : ∀ i, i < a.heap.size → S i → S' i) : Kp S' a b :=
  ⟨h.os, h.tape, h.output, h.size, fun i hi hn => h.block i hi (fun e => hn (hs i hi e))⟩
theorem Kp.grown {S : Nat → Prop} {a b : World} {row : Option Nat} (h : a.grownBy b row) (hs : ∀ i, row = some i → S i) : Kp S a b :=
  ⟨h.os, h.tape, h.output, h.size, fun i hi hn => h.block i hi (fun e => hn (hs i e.symm))⟩
theorem Kp.of_below {S : Nat → Prop} {a b : World} (h : Below a.heap.size a b) : Kp S a b := ⟨h.os, h.tape, h.output, h.size, fun i hi _ => h.block i hi⟩
theorem Kp.below {S : Nat → Prop} {a b : World} {B : Nat} (h : Kp S a b) (hs : ∀ i, S i → B ≤ i) (hB : B ≤ a.heap.size) : Below B a b :=
  ⟨h.os, h.tape, h.output, h.size, fun i hi => h.block i (Nat.lt_of_lt_of_le hi hB) (fun e => by have := hs i e; omega)⟩
theorem Kp.set {S : Nat → Prop} {w : World} {b i : Nat} (hb : S b) (x : Value) : Kp S w (w.setCell ⟨b, i, none⟩ x) :=
  .grown (grownBy_set (World.grownBy.refl _ _) _) (by intro j e; cases e; exact hb)
theorem Kp.alloc {S : Nat → Prop} (w : World) (o : Obj) : Kp S w (w.alloc o) := .of_below ((Below.refl _ _).alloc (Nat.le_refl _) _)
theorem Kp.drew {S : Nat → Prop} {a b : World} (h : Kp S a b) : Kp S a b.drew := ⟨h.os, h.tape, h.output, h.size, h.block⟩
theorem Kp.drewN {S : Nat → Prop} {a b : World} (h : Kp S a b) (n : Nat) : Kp S a (b.drewN n) := ⟨h.os, h.tape, h.output, h.size, h.block⟩
theorem Kp.heap {S : Nat → Prop} {a b : World} {k : Nat} {o : Obj} (h : Kp S a b) (hk : a.heap[k]? = some o) (hn : ¬ S k) : b.heap[k]? = some o := by
  rw [h.block k (Array.getElem?_eq_some_iff.1 hk).1 hn]; exact hk

theorem own_kp {w w' : World} {S : Nat → Prop} {base n : Nat} {e : TypeId} {v : Value} {xs : List Value} (h : w.ownsRow base e 1 v n xs) (hb : Kp S w w') (hn : ∀ k, v.ownBlock = some k → ¬ S k) : w'.ownsRow base e 1 v n xs := by
  refine ⟨h.1, ?_⟩
  rcases h.2 with h2 | ⟨g, cap, cur, hv, hg, hh, r⟩
  · exact Or.inl h2
  · exact Or.inr ⟨g, cap, cur, hv, hg, hb.heap hh (hn g (by rw [hv]; rfl)), r⟩
theorem SegK.kp {k : IntKind} {M : Int} {w w' : World} {S : Nat → Prop} {a : Option Addr} {zs : List Int} (h : SegK k M w a zs) (hb : Kp S w w') (hn : ∀ b off, a = some ⟨b, off, none⟩ → 0 < zs.length → ¬ S b) : SegK k M w' a zs :=
  h.of_cells fun b off i v hi ha hcl => by
    have hlt : b < w.heap.size := World.block_lt_of_cell? w _ hcl
    rw [World.cell?_of_block (a := ⟨b, off + i, none⟩) (hb.block b hlt (hn b off ha (by omega)))]
    exact hcl

/-- The row lies at its old place, or in a new block. -/
def Fresh (w : World) (v v' : Value) : Prop := ∀ k, v'.ownBlock = some k → v.ownBlock = some k ∨ w.heap.size ≤ k

/-- An append onto a row of the call's own. -/
theorem run_app_st {P : Program} (t ty : TypeId) (base : Nat) (e : TypeId) (i : TypeInfo) (z : Value) (bytes : Nat) (ht : P.underlying t = some (.slice e)) (hi : P.info? e = some i) (hz : i.zero = some z)
    (hsize : i.size = 1) (hby : i.bytes = bytes) (hzs : z.cells.size = 1)
    (w : World) {v : Value} {n : Nat} {xs : List Value} (hown : w.ownsRow base e 1 v n xs) (a : Addr) (m c : Nat) (news : List Value) (hl : news.length = m) (hnews : ∀ j u, news[j]? = some u → w.cell? (a.add j) = some u) (h1 : ∀ u ∈ news, u.oneCell' = true)
    (h63 : n + m ≤ 140737488355328) (hbytes : (n + m) * bytes ≤ 140737488355328) (hbase : base ≤ w.heap.size) :
    ∃ v' w', (Builtin.append_ #[t, t] ty #[v, .slice (some a) m c]).run P w = .ok v' w' ∧ w'.ownsRow base e 1 v' (n + m) (xs ++ news) ∧ w.grownBy w' v.ownBlock ∧ (v' = .slice none 0 0 ↔ v = .slice none 0 0 ∧ m = 0) ∧ Fresh w v v' := by
  obtain ⟨v', w', hr, h2, h3, h4⟩ := run_append_own (P := P) w base t ty e i z 1 bytes ht hi hz hsize hby hzs (by decide) v n xs hown a m c news (by omega) hnews h1 (by unfold maxLen; omega) hbytes hbase
  refine ⟨v', w', hr, h2, h3, h4, ?_⟩
  subst hby
  rcases hown.2 with ⟨rfl, rfl⟩ | ⟨g, cap, cur, rfl, hbg, hg, hnc, hcm, hcs, htake⟩
  · by_cases hm : m = 0
    · rw [h4.2 ⟨rfl, hm⟩]
      intro k hk; cases hk
    · have hr2 := run_append_nil (P := P) w t ty e i z ht hi hz a m c news (by rw [hsize]; omega) hnews (by omega) (by omega) (by simp only [Nat.zero_add] at hbytes; omega)
      rw [hr] at hr2
      simp only [Result.ok.injEq] at hr2
      obtain ⟨rfl, rfl⟩ := hr2
      intro k hk; cases hk; exact .inr (Nat.le_refl _)
  · by_cases hroom : n + m ≤ cap
    · have hr2 := run_append_room (P := P) w t ty e i ht hi g n cap cur hg a m c news (by rw [hsize]; omega) hnews h1 hroom (by rw [hsize]; omega)
      rw [hr] at hr2
      simp only [Result.ok.injEq] at hr2
      obtain ⟨rfl, rfl⟩ := hr2
      intro k hk; exact .inl hk
    · have hr2 := run_append_grow (P := P) w t ty e i z ht hi hz ⟨g, 0, none⟩ n cap xs (by rw [hsize]; exact hown.1) (hown.cells (g := g) rfl) a m c news (by rw [hsize]; omega) hnews (by omega) (by omega) (growslice_fits (by omega) hbytes)
      rw [hr] at hr2
      simp only [Result.ok.injEq] at hr2
      obtain ⟨rfl, rfl⟩ := hr2
      intro k hk; cases hk; exact .inr (Nat.le_refl _)

/-- 'out = append(out, src...)', src whatever one-cell values lie there; the row is at its place, or in a new block. -/
theorem wpList_app {P : Program} {ops : Array Oper} {rest : List Oper} {o : Oper} {a : Act} {Q : Exit → Act → World → Prop} (hgd : o.guard = none) (s x : Operand) (t : TypeId)
    (ho : o.op = .call { callee := .builtin .append, args := #[s, x], argTypes := #[t, t] })
    (base : Nat) (e : TypeId) (i : TypeInfo) (z : Value) (bytes : Nat) (ht : P.underlying t = some (.slice e)) (hi : P.info? e = some i) (hz : i.zero = some z)
    (hsize : i.size = 1) (hby : i.bytes = bytes) (hzs : z.cells.size = 1)
    {w : World} {v : Value} {n : Nat} {xs : List Value} (hown : w.ownsRow base e 1 v n xs) {ad : Addr} {m cap : Nat} {news : List Value} (hl : news.length = m) (hnews : ∀ j u, news[j]? = some u → w.cell? (ad.add j) = some u) (h1 : ∀ u ∈ news, u.oneCell' = true)
    (hs : a.eval s = v) (hx : a.eval x = .slice (some ad) m cap)
    (h63 : n + m ≤ 140737488355328) (hbytes : (n + m) * bytes ≤ 140737488355328) (hbase : base ≤ w.heap.size)
    (h : ∀ (b : Option Addr) (c : Nat) (w' : World), w'.ownsRow base e 1 (.slice b (n + m) c) (n + m) (xs ++ news) → w.grownBy w' v.ownBlock → Fresh w v (.slice b (n + m) c) → (Value.slice b (n + m) c = .slice none 0 0 ↔ v = .slice none 0 0 ∧ m = 0) → wpList P ops Q rest (a.put o.dst (.slice b (n + m) c)) w') : wpList P ops Q (o :: rest) a w := by
  obtain ⟨v', w', hr, h2, h3, h4, h5⟩ := run_app_st (P := P) t o.type base e i z bytes ht hi hz hsize hby hzs w hown ad m cap news hl hnews h1 h63 hbytes hbase
  obtain ⟨b, c, rfl⟩ : ∃ b c, v' = .slice b (n + m) c := by
    rcases h2.2 with ⟨rfl, h0⟩ | ⟨g, cp, cur, rfl, _⟩
    · exact ⟨none, 0, by rw [h0]⟩
    · exact ⟨_, _, rfl⟩
  refine wpList_plain hgd fun K hK => ?_
  unfold Oper.wp execOp
  simp only [ho, resolve, invoke, builtin, Sem.run_bind, Sem.run_pure, Result.andThen_ok, List.map_toArray, List.map_cons, List.map_nil, hs, hx, hr]
  exact hK _ _ (h b c w' h2 h3 h5 h4)

/-- One value, which lies in a block of its own, behind a row. -/
theorem wpList_app1 {P : Program} {ops : Array Oper} {rest : List Oper} {o : Oper} {a : Act} {Q : Exit → Act → World → Prop} (hgd : o.guard = none) (s x : Operand) (t : TypeId)
    (ho : o.op = .call { callee := .builtin .append, args := #[s, x], argTypes := #[t, t] })
    (base : Nat) (e : TypeId) (i : TypeInfo) (z : Value) (bytes : Nat) (ht : P.underlying t = some (.slice e)) (hi : P.info? e = some i) (hz : i.zero = some z)
    (hsize : i.size = 1) (hby : i.bytes = bytes) (hzs : z.cells.size = 1)
    (w0 : World) (y : Value) (hy : y.oneCell' = true) {v : Value} {n : Nat} {xs : List Value} (hown : w0.ownsRow base e 1 v n xs) (hs : a.eval s = v) (hx : a.eval x = .slice (some ⟨w0.heap.size, 0, none⟩) 1 1)
    (h63 : n + 1 ≤ 140737488355328) (hbytes : (n + 1) * bytes ≤ 140737488355328) (hbase : base ≤ w0.heap.size)
    (h : ∀ (g c : Nat) (w' : World), w'.ownsRow base e 1 (.slice (some ⟨g, 0, none⟩) (n + 1) c) (n + 1) (xs ++ [y]) → w0.grownBy w' v.ownBlock → Fresh w0 v (.slice (some ⟨g, 0, none⟩) (n + 1) c) → wpList P ops Q rest (a.put o.dst (.slice (some ⟨g, 0, none⟩) (n + 1) c)) w') : wpList P ops Q (o :: rest) a (w0.alloc (.cells #[y] e)) := by
  refine wpList_app hgd s x t ho base e i z bytes ht hi hz hsize hby hzs (hown.alloc _) (news := [y]) rfl (cell_one_new _ _ _) (by intro u hu; simp at hu; subst hu; exact hy) hs hx h63 hbytes (by simp; omega) ?_
  intro b c w' h1 h2 h3 _
  obtain ⟨g, cap, hv, _⟩ := own_shape h1 (Nat.succ_pos n)
  simp only [Value.slice.injEq] at hv
  obtain ⟨rfl, _, rfl⟩ := hv
  refine h g c w' h1 (grownBy_trans (World.grownBy_alloc w0 _ _) h2) ?_
  intro k hk
  rcases h3 k hk with e | e
  · exact .inl e
  · right; simp at e; omega

/-- Numbers that lie somewhere, behind a row. -/
theorem wpList_appS {P : Program} {ops : Array Oper} {rest : List Oper} {o : Oper} {a : Act} {Q : Exit → Act → World → Prop} (hgd : o.guard = none) (s x : Operand) (t : TypeId)
    (ho : o.op = .call { callee := .builtin .append, args := #[s, x], argTypes := #[t, t] })
    (base : Nat) (e : TypeId) (i : TypeInfo) (z : Value) (bytes : Nat) (ht : P.underlying t = some (.slice e)) (hi : P.info? e = some i) (hz : i.zero = some z)
    (hsize : i.size = 1) (hby : i.bytes = bytes) (hzs : z.cells.size = 1)
    {w : World} {ra : Option Addr} {rc : Nat} {n : Nat} {xs : List Value} (hown : w.ownsRow base e 1 (.slice ra n rc) n xs) {k : IntKind} {M : Int} {ao : Option Addr} {zs : List Int} {cap : Nat} (hseg : SegK k M w ao zs) (hnil : ao = none → cap = 0)
    (hs : a.eval s = .slice ra n rc) (hx : a.eval x = .slice ao zs.length cap)
    (h63 : n + zs.length ≤ 140737488355328) (hbytes : (n + zs.length) * bytes ≤ 140737488355328) (hbase : base ≤ w.heap.size)
    (h : ∀ (b : Option Addr) (c : Nat) (w' : World), w'.ownsRow base e 1 (.slice b (n + zs.length) c) (n + zs.length) (xs ++ zs.map (Value.int k)) → w.grownBy w' (Value.slice ra n rc).ownBlock → Fresh w (.slice ra n rc) (.slice b (n + zs.length) c) → (Value.slice b (n + zs.length) c = .slice none 0 0 ↔ Value.slice ra n rc = .slice none 0 0 ∧ zs.length = 0) → wpList P ops Q rest (a.put o.dst (.slice b (n + zs.length) c)) w') : wpList P ops Q (o :: rest) a w := by
  cases ao with
  | none =>
    have hz : zs = [] := by
      cases zs with
      | nil => rfl
      | cons z r => obtain ⟨b, off, hx, _⟩ := hseg.at_ 0 (by simp); cases hx
    subst hz
    rw [hnil rfl] at hx
    refine wpList_append_own_none hgd s x t ho base e i 1 ht hi _ n xs hs hown hx ?_
    have := h ra rc w (by simpa using hown) (World.grownBy.refl _ _) (fun k hk => .inl hk) (by simp)
    simpa using this
  | some ad =>
    exact wpList_app hgd s x t ho base e i z bytes ht hi hz hsize hby hzs hown (by simp) (seg_cells hseg) (ints_oneCell _ _) hs hx h63 hbytes hbase h

/-! Bits that lie somewhere. -/
structure SegB (w : World) (a : Option Addr) (L : List Bool) : Prop where
  at_ : ∀ i, i < L.length → ∃ b off, a = some ⟨b, off, none⟩ ∧ w.cell? ⟨b, off + i, none⟩ = some (.bool (L.getD i false))
theorem SegB.of_cells {w w' : World} {a : Option Addr} {L : List Bool} (h : SegB w a L) (hc : ∀ b off i v, i < L.length → a = some ⟨b, off, none⟩ → w.cell? ⟨b, off + i, none⟩ = some v → w'.cell? ⟨b, off + i, none⟩ = some v) : SegB w' a L :=
  ⟨fun i hi => by obtain ⟨b, off, ha, hcl⟩ := h.at_ i hi; exact ⟨b, off, ha, hc b off i _ hi ha hcl⟩⟩
theorem SegB.old {w w' : World} {a : Option Addr} {L : List Bool} (h : SegB w a L) (hb : Below w.heap.size w w') : SegB w' a L :=
  h.of_cells fun b off i v hi ha hcl => (hb.cell (p := ⟨b, off + i, none⟩) (World.block_lt_of_cell? w _ hcl)).trans hcl
theorem SegB.drop {w : World} {b off : Nat} {L : List Bool} (h : SegB w (some ⟨b, off, none⟩) L) (m : Nat) : SegB w (some ⟨b, off + m, none⟩) (L.drop m) := by
  refine ⟨fun i hi => ?_⟩
  simp at hi
  obtain ⟨b', off', ha, hc⟩ := h.at_ (m + i) (by omega)
  cases ha
  refine ⟨b, off + m, rfl, ?_⟩
  rw [Nat.add_assoc, hc]
  simp [List.getD]
theorem segB_cells {w : World} {x : Addr} {L : List Bool} (h : SegB w (some x) L) : ∀ j u, (L.map Value.bool)[j]? = some u → w.cell? (x.add j) = some u := by
  intro j u hu
  have hj : j < L.length := by
    rcases Nat.lt_or_ge j L.length with h | h
    · exact h
    · simp [List.getElem?_eq_none h] at hu
  obtain ⟨b, off, hx, hc⟩ := h.at_ j hj
  cases hx
  have hadd : (⟨b, off, none⟩ : Addr).add j = ⟨b, off + j, none⟩ := by unfold Addr.add; split <;> simp_all
  rw [hadd, hc]
  simp [hj] at hu
  subst hu
  simp [List.getD, hj]
theorem own_segB {w : World} {base n : Nat} {e : TypeId} {a : Option Addr} {cap : Nat} {L : List Bool} (h : w.ownsRow base e 1 (.slice a n cap) n (L.map Value.bool)) : SegB w a L := by
  rcases h.2 with ⟨h0, hn⟩ | ⟨g, cp, cur, hv, hg, hh, hc, _, _, ht⟩
  · have : L = [] := List.eq_nil_of_length_eq_zero (by have := h.1; simp at this; omega)
    subst this
    exact ⟨fun i hi => by simp at hi⟩
  · simp only [Value.slice.injEq] at hv
    obtain ⟨rfl, _, rfl⟩ := hv
    refine ⟨fun i hi => ⟨g, 0, rfl, ?_⟩⟩
    have := h.cells (g := g) rfl i (.bool (L.getD i false)) (by simp [List.getD, hi])
    have hadd : (⟨g, 0, none⟩ : Addr).add i = ⟨g, 0 + i, none⟩ := by unfold Addr.add; split <;> simp_all
    rw [hadd] at this
    exact this
theorem bools_oneCell (L : List Bool) : ∀ u ∈ L.map Value.bool, u.oneCell' = true := by
  intro u hu
  simp only [List.mem_map] at hu
  obtain ⟨b, _, rfl⟩ := hu
  rfl
end Go.Proofs.YteboaolflecibaaDoor
