import Derived.Test.YtcifalelnfeggaaGreatDoorPj
import Derived.Test.YtcifalelnfeggaaGreatDoorPk
import Derived.Test.YtcifalelnfeggaaGreatDoorPa
import Derived.Laws.CopyOwn
import Derived.Deep.RegionLaw
namespace Go.Proofs.YtcifalelnfeggaaGreatDoor
open Go.RowKit
set_option linter.unusedVariables false

/-! The document's own items: three cells, the last a row of counts of its own. -/
theorem row_short (F : List It) (h : 1 ≤ F.length) : ∀ k, (row F k).length ≤ 2 * F.length - 1
  | 0 => by show F.length ≤ _; omega
  | k + 1 => by
    have := row_short F h k
    rw [row_len]
    omega
/-- What stands behind the first 2n - 2 items of a row is never taken. -/
theorem row_cut (F : List It) (h : 2 ≤ F.length) (k : Nat) : List.merge F (pk ((row F k).take (2 * F.length - 2))) leI = row F (k + 1) := by
  have h1 := row_short F (by omega) k
  have h2 : pk ((row F k).take (2 * F.length - 2)) = pk (row F k) := by
    by_cases c : 2 * F.length - 2 ≤ (row F k).length
    · have := pk_whole (row F k) (F.length - 1) (by omega) (by omega)
      rw [show 2 * (F.length - 1) = 2 * F.length - 2 by omega] at this
      exact this
    · rw [List.take_of_length_le (by omega)]
  rw [h2]
  rfl
/-- How often each symbol lies in a list. -/
def cntR (N : Nat) (l : List Nat) : List Int := (List.range N).map fun s => (l.count s : Int)
theorem cnt_len (N : Nat) (l : List Nat) : (cntR N l).length = N := by simp [cntR]
theorem cnt_get {N : Nat} (l : List Nat) {k : Nat} (h : k < N) : (cntR N l).getD k 0 = (l.count k : Int) := by
  simp [cntR, List.getD, h]

structure Rm where
  wt : Int
  lf : Bool
  gc : Nat
def rm0 : Rm := ⟨0, false, 0⟩
def Rm.cells (N : Nat) (x : Rm) : List Value := [.int .i64 x.wt, .bool x.lf, .slice (some ⟨x.gc, 0, none⟩) N N]
structure R3At (N : Nat) (w : World) (g o : Nat) (x : Rm) : Prop where
  c0 : w.cell? ⟨g, o, none⟩ = some (.int .i64 x.wt)
  c1 : w.cell? ⟨g, o + 1, none⟩ = some (.bool x.lf)
  c2 : w.cell? ⟨g, o + 2, none⟩ = some (.slice (some ⟨x.gc, 0, none⟩) N N)
theorem R3At.of_block {N : Nat} {w w' : World} {g o : Nat} {x : Rm} (h : R3At N w g o x) (hb : w'.heap[g]? = w.heap[g]?) : R3At N w' g o x :=
  ⟨(World.cell?_of_block (a := ⟨g, o, none⟩) hb).trans h.c0, (World.cell?_of_block (a := ⟨g, o + 1, none⟩) hb).trans h.c1, (World.cell?_of_block (a := ⟨g, o + 2, none⟩) hb).trans h.c2⟩
theorem R3At.lt {N : Nat} {w : World} {g o : Nat} {x : Rm} (h : R3At N w g o x) : g < w.heap.size := World.block_lt_of_cell? w _ h.c0
def flatR (N : Nat) (l : List Rm) : List Value := l.flatMap (Rm.cells N)
theorem flatR_len (N : Nat) (l : List Rm) : (flatR N l).length = l.length * 3 := by
  unfold flatR
  induction l with
  | nil => rfl
  | cons x r ih => simp [Rm.cells, ih]; omega
theorem flatR_get (N : Nat) : ∀ (l : List Rm) (k : Nat) (x : Rm), l[k]? = some x → (flatR N l)[k * 3]? = some (.int .i64 x.wt) ∧ (flatR N l)[k * 3 + 1]? = some (.bool x.lf) ∧ (flatR N l)[k * 3 + 2]? = some (.slice (some ⟨x.gc, 0, none⟩) N N)
  | [], k, x, h => by simp at h
  | y :: r, 0, x, h => by
    simp at h
    subst h
    simp [flatR, Rm.cells]
  | y :: r, k + 1, x, h => by
    have := flatR_get N r k x (by simpa using h)
    have e : flatR N (y :: r) = .int .i64 y.wt :: .bool y.lf :: .slice (some ⟨y.gc, 0, none⟩) N N :: flatR N r := rfl
    rw [e, show (k + 1) * 3 = k * 3 + 1 + 1 + 1 by omega]
    simpa [List.getElem?_cons_succ, show k * 3 + 1 + 1 + 1 + 1 = (k * 3 + 1) + 1 + 1 + 1 by omega] using this
theorem flatR_one (N : Nat) (l : List Rm) : ∀ u ∈ flatR N l, u.oneCell' = true := by
  intro u hu
  unfold flatR at hu
  obtain ⟨x, _, hx⟩ := List.mem_flatMap.1 hu
  unfold Rm.cells at hx
  simp only [List.mem_cons, List.not_mem_nil, or_false] at hx
  rcases hx with rfl | rfl | rfl <;> rfl
theorem flatR_app (N : Nat) (l r : List Rm) : flatR N (l ++ r) = flatR N l ++ flatR N r := by unfold flatR; rw [List.flatMap_append]
/-- Items that lie where a slice's address leads. -/
structure RR (N : Nat) (w : World) (a : Option Addr) (L : List Rm) : Prop where
  at_ : ∀ k, k < L.length → ∃ b off, a = some ⟨b, off, none⟩ ∧ R3At N w b (off + k * 3) (L.getD k rm0)
theorem RR.nil (N : Nat) (w : World) (a : Option Addr) : RR N w a [] := ⟨fun k h => by simp at h⟩
theorem RR.old {N : Nat} {w w' : World} {a : Option Addr} {L : List Rm} (h : RR N w a L) (hb : Below w.heap.size w w') : RR N w' a L :=
  ⟨fun k hk => by obtain ⟨b, off, ha, hi⟩ := h.at_ k hk; exact ⟨b, off, ha, hi.of_block (hb.block b hi.lt)⟩⟩
theorem RR.take {N : Nat} {w : World} {a : Option Addr} {L : List Rm} (h : RR N w a L) (m : Nat) : RR N w a (L.take m) := by
  refine ⟨fun k hk => ?_⟩
  simp at hk
  obtain ⟨b, off, ha, hi⟩ := h.at_ k (by omega)
  refine ⟨b, off, ha, ?_⟩
  have hm : k < m := by omega
  simpa [List.getD, hm] using hi
theorem RR.tail {N : Nat} {w : World} {b off : Nat} {x : Rm} {L : List Rm} (h : RR N w (some ⟨b, off, none⟩) (x :: L)) : RR N w (some ⟨b, off + 3, none⟩) L := by
  refine ⟨fun k hk => ?_⟩
  obtain ⟨b', off', e, hi⟩ := h.at_ (k + 1) (by simp; omega)
  cases e
  refine ⟨b, off + 3, rfl, ?_⟩
  have e1 : off + 3 + k * 3 = off + (k + 1) * 3 := by omega
  rw [e1]
  simpa [List.getD] using hi
theorem own_facts3 {w : World} {base n cap : Nat} {e : TypeId} {b : Option Addr} {xs : List Value} (h : w.ownsRow base e 3 (.slice b n cap) n xs) : n ≤ cap ∧ (b = none → cap = 0) ∧ ∀ x, b = some x → base ≤ x.block ∧ x.block < w.heap.size := by
  rcases h.2 with ⟨h1, h2⟩ | ⟨g, cp, cur, h1, h2, h3, h4, _⟩
  · simp only [Value.slice.injEq] at h1
    obtain ⟨rfl, _, rfl⟩ := h1
    exact ⟨by omega, (fun _ => rfl), (fun x h => by cases h)⟩
  · simp only [Value.slice.injEq] at h1
    obtain ⟨rfl, _, rfl⟩ := h1
    exact ⟨h4, (fun h => by cases h), (fun x h => by cases h; exact ⟨h2, (Array.getElem?_eq_some_iff.1 h3).1⟩)⟩
theorem own_shape3 {w : World} {base n : Nat} {e : TypeId} {v : Value} {xs : List Value} (h : w.ownsRow base e 3 v n xs) (hn : 0 < n) : ∃ g cap, v = .slice (some ⟨g, 0, none⟩) n cap ∧ n ≤ cap ∧ base ≤ g ∧ g < w.heap.size := by
  rcases h.2 with ⟨_, h0⟩ | ⟨g, cap, cur, rfl, hg, hh, hc, _⟩
  · omega
  · exact ⟨g, cap, rfl, hc, hg, (Array.getElem?_eq_some_iff.1 hh).1⟩
theorem own_RR {N : Nat} {w : World} {base n cap : Nat} {e : TypeId} {b : Option Addr} {L : List Rm} (h : w.ownsRow base e 3 (.slice b n cap) n (flatR N L)) (hl : L.length = n) : RR N w b L := by
  refine ⟨fun k hk => ?_⟩
  obtain ⟨g, c, hv, _⟩ := own_shape3 h (by omega)
  simp only [Value.slice.injEq] at hv
  obtain ⟨rfl, _, rfl⟩ := hv
  have hc : ∀ j u, (flatR N L)[j]? = some u → w.cell? ⟨g, j, none⟩ = some u := by
    intro j u hu
    have := h.cells (g := g) rfl j u hu
    have hadd : (⟨g, 0, none⟩ : Addr).add j = ⟨g, j, none⟩ := by unfold Addr.add; split <;> simp_all
    rwa [hadd] at this
  have hg : L[k]? = some (L.getD k rm0) := by simp [List.getD, show k < L.length by omega]
  obtain ⟨q0, q1, q2⟩ := flatR_get N L k _ hg
  exact ⟨g, 0, rfl, by rw [Nat.zero_add]; exact ⟨hc _ _ q0, hc _ _ q1, hc _ _ q2⟩⟩
/-- An item behind a row of the call's own. -/
theorem wpList_app3 {P : Program} {ops : Array Oper} {rest : List Oper} {o : Oper} {a : Act} {Q : Exit → Act → World → Prop} (hgd : o.guard = none) (s x : Operand) (t : TypeId)
    (ho : o.op = .call { callee := .builtin .append, args := #[s, x], argTypes := #[t, t] })
    (base : Nat) (e : TypeId) (i : TypeInfo) (z : Value) (bytes : Nat) (ht : P.underlying t = some (.slice e)) (hi : P.info? e = some i) (hz : i.zero = some z)
    (hsize : i.size = 3) (hby : i.bytes = bytes) (hzs : z.cells.size = 3)
    {w : World} {ra : Option Addr} {n rc : Nat} {xs : List Value} (hown : w.ownsRow base e 3 (.slice ra n rc) n xs) {ad : Addr} {cap : Nat} {r : List Value} (hl : r.length = 3) (hone : ∀ u ∈ r, u.oneCell' = true) (hnews : ∀ j u, r[j]? = some u → w.cell? (ad.add j) = some u)
    (hs : a.eval s = .slice ra n rc) (hx : a.eval x = .slice (some ad) 1 cap)
    (h63 : n + 1 ≤ 140737488355328) (hbytes : (n + 1) * bytes ≤ 140737488355328) (hbase : base ≤ w.heap.size)
    (h : ∀ (b : Option Addr) (c : Nat) (w' : World), w'.ownsRow base e 3 (.slice b (n + 1) c) (n + 1) (xs ++ r) → w.grownBy w' (Value.slice ra n rc).ownBlock → Below base w w' → wpList P ops Q rest (a.put o.dst (.slice b (n + 1) c)) w') : wpList P ops Q (o :: rest) a w := by
  refine wpList_append_own _ hgd s x t ho base e i z 3 bytes ht hi hz hsize hby hzs (by decide) _ n xs hs hown ad 1 cap r hx (by rw [hl]) hnews hone (by unfold maxLen; omega) hbytes hbase ?_
  intro v' w' h1 h2 _
  obtain ⟨b, c, rfl⟩ : ∃ b c, v' = .slice b (n + 1) c := by
    rcases h1.2 with ⟨rfl, h0⟩ | ⟨g, cp, cur, rfl, _⟩
    · exact ⟨none, 0, by rw [h0]⟩
    · exact ⟨_, _, rfl⟩
  exact h b c w' h1 h2 ((Below.refl _ _).grown h2 hbase (fun k hk => (hown.lt k hk).1))
theorem new_cells3 (w : World) (x y z : Value) (t : TypeId) : ∀ j u, ([x, y, z] : List Value)[j]? = some u → (w.alloc (.cells #[x, y, z] t)).cell? ((⟨w.heap.size, 0, none⟩ : Addr).add j) = some u := by
  intro j u hu
  have hadd : (⟨w.heap.size, 0, none⟩ : Addr).add j = ⟨w.heap.size, j, none⟩ := by unfold Addr.add; split <;> simp_all
  rw [hadd]
  have hh := heap_alloc_new w (.cells #[x, y, z] t)
  simp only [World.cell?, hh]
  simpa using hu
theorem info_item3 : (Tryz.prog.info? 138).map (fun i => (i.zero, i.size, i.bytes)) = some (some (.agg #[.int .i64 0, .bool false, .slice none 0 0]), 3, 40) := by kernel_rfl
/-- What the document's items mean: their weight, and how often each symbol lies in them. -/
structure M3 (N : Nat) (w : World) (L : List Rm) (ts : List It) : Prop where
  len : L.length = ts.length
  wt : ∀ k, k < L.length → (L.getD k rm0).wt = ((ts.getD k it0).1 : Int)
  seg : ∀ k, k < L.length → SegZ w (some ⟨(L.getD k rm0).gc, 0, none⟩) (cntR N (ts.getD k it0).2)
theorem M3.old {N : Nat} {w w' : World} {L : List Rm} {ts : List It} (h : M3 N w L ts) (hb : Below w.heap.size w w') : M3 N w' L ts := ⟨h.len, h.wt, fun k hk => (h.seg k hk).old hb⟩
theorem M3.nil (N : Nat) (w : World) : M3 N w [] [] := ⟨rfl, fun k h => by simp at h, fun k h => by simp at h⟩
theorem M3.app {N : Nat} {w : World} {L M : List Rm} {ts us : List It} (h : M3 N w L ts) (k : M3 N w M us) : M3 N w (L ++ M) (ts ++ us) := by
  have key : ∀ i, i < (L ++ M).length → ∃ x t, (L ++ M).getD i rm0 = x ∧ (ts ++ us).getD i it0 = t ∧ x.wt = (t.1 : Int) ∧ SegZ w (some ⟨x.gc, 0, none⟩) (cntR N t.2) := by
    intro i hi
    by_cases c : i < L.length
    · have e1 : (L ++ M).getD i rm0 = L.getD i rm0 := by simp [List.getD, List.getElem?_append_left c]
      have e2 : (ts ++ us).getD i it0 = ts.getD i it0 := by simp [List.getD, List.getElem?_append_left (show i < ts.length by rw [← h.len]; exact c)]
      exact ⟨_, _, e1, e2, h.wt i c, h.seg i c⟩
    · have hl := h.len
      have e1 : (L ++ M).getD i rm0 = M.getD (i - L.length) rm0 := by simp [List.getD, List.getElem?_append_right (show L.length ≤ i by omega)]
      have e2 : (ts ++ us).getD i it0 = us.getD (i - L.length) it0 := by simp [List.getD, List.getElem?_append_right (show ts.length ≤ i by omega), hl]
      have hj : i - L.length < M.length := by simp at hi; omega
      exact ⟨_, _, e1, e2, k.wt _ hj, k.seg _ hj⟩
  refine ⟨by simp [h.len, k.len], fun i hi => ?_, fun i hi => ?_⟩
  · obtain ⟨x, t, rfl, rfl, q, _⟩ := key i hi; exact q
  · obtain ⟨x, t, rfl, rfl, _, q⟩ := key i hi; exact q
theorem M3.one {N : Nat} {w : World} {x : Rm} {t : It} (h : x.wt = (t.1 : Int)) (hs : SegZ w (some ⟨x.gc, 0, none⟩) (cntR N t.2)) : M3 N w [x] [t] := by
  refine ⟨rfl, fun k hk => ?_, fun k hk => ?_⟩
  · have : k = 0 := by simp at hk; omega
    subst this; exact h
  · have : k = 0 := by simp at hk; omega
    subst this; exact hs
theorem M3.tail {N : Nat} {w : World} {x : Rm} {t : It} {L : List Rm} {ts : List It} (h : M3 N w (x :: L) (t :: ts)) : M3 N w [x] [t] ∧ M3 N w L ts :=
  ⟨M3.one (h.wt 0 (by simp)) (h.seg 0 (by simp)), ⟨by have := h.len; simpa using this, fun k hk => by have := h.wt (k + 1) (by simp; omega); simpa [List.getD] using this, fun k hk => by have := h.seg (k + 1) (by simp; omega); simpa [List.getD] using this⟩⟩
theorem M3.take {N : Nat} {w : World} {L : List Rm} {ts : List It} (h : M3 N w L ts) (m : Nat) : M3 N w (L.take m) (ts.take m) := by
  refine ⟨by simp [h.len], fun k hk => ?_, fun k hk => ?_⟩
  · simp at hk
    have := h.wt k (by omega)
    have hm : k < m := by omega
    simpa [List.getD, hm] using this
  · simp at hk
    have := h.seg k (by omega)
    have hm : k < m := by omega
    simpa [List.getD, hm] using this
end Go.Proofs.YtcifalelnfeggaaGreatDoor

namespace Go.Proofs.YtcifalelnfeggaaGreatDoor
open Go.RowKit
set_option linter.unusedVariables false

theorem own_below3 {w w' : World} {base n : Nat} {e : TypeId} {v : Value} {xs : List Value} (h : w.ownsRow base e 3 v n xs) (hb : Below w.heap.size w w') : w'.ownsRow base e 3 v n xs := by
  rcases h with ⟨hl, h | ⟨g, cap, cur, hv, hg, hh, rest⟩⟩
  · exact ⟨hl, .inl h⟩
  · exact ⟨hl, .inr ⟨g, cap, cur, hv, hg, by rw [hb.block g (Array.getElem?_eq_some_iff.1 hh).1]; exact hh, rest⟩⟩

def IntB (w : World) (g : Nat) : Prop := ∃ cs fr, w.heap[g]? = some (.cells cs 3 fr)
theorem IntB.keep {w w' : World} {g : Nat} (h : IntB w g) (hb : w'.heap[g]? = w.heap[g]?) : IntB w' g := by
  obtain ⟨cs, fr, h⟩ := h
  exact ⟨cs, fr, hb.trans h⟩
theorem IntB.lt {w : World} {g : Nat} (h : IntB w g) : g < w.heap.size := by
  obtain ⟨cs, fr, h⟩ := h
  exact (Array.getElem?_eq_some_iff.1 h).1
theorem own_intB {w : World} {base n g cap : Nat} {xs : List Value} (h : w.ownsRow base 3 1 (.slice (some ⟨g, 0, none⟩) n cap) n xs) : IntB w g := by
  rcases h.2 with ⟨h1, _⟩ | ⟨g', cap', cur, hv, _, hh, _⟩
  · cases h1
  · simp only [Value.slice.injEq, Option.some.injEq, Addr.mk.injEq] at hv
    obtain ⟨⟨rfl, _⟩, _⟩ := hv
    exact ⟨_, _, hh⟩
theorem apart3 {w : World} {base n g : Nat} {v : Value} {xs : List Value} (h : w.ownsRow base 138 3 v n xs) (k : IntB w g) : some g ≠ v.ownBlock := by
  intro e
  rcases h.2 with ⟨rfl, _⟩ | ⟨g', cap', cur, rfl, _, hh, _⟩
  · simp [Value.ownBlock] at e
  · simp [Value.ownBlock] at e
    subst e
    obtain ⟨cs, fr, hk⟩ := k
    rw [hh] at hk
    simp at hk
theorem M3.keep {N : Nat} {w w' : World} {L : List Rm} {ts : List It} (h : M3 N w L ts) (hk : ∀ x ∈ L, w'.heap[x.gc]? = w.heap[x.gc]?) : M3 N w' L ts :=
  ⟨h.len, h.wt, fun k hl => (h.seg k hl).of_cells fun b off i v hi ha hcl => by
    cases ha
    have hm : L.getD k rm0 ∈ L := by simp [List.getD, hl]
    rw [World.cell?_of_block (hk _ hm)]
    exact hcl⟩
theorem cnt_eq {N : Nat} {A : List Int} {l : List Nat} (h1 : A.length = N) (h2 : ∀ i, i < N → A.getD i 0 = (l.count i : Int)) : A = cntR N l := by
  apply List.ext_getElem (by rw [h1, cnt_len])
  intro i hi hi2
  have h3 := h2 i (by omega)
  have h4 := cnt_get l (show i < N by omega)
  simp only [List.getD, List.getElem?_eq_getElem hi, Option.getD_some] at h3
  simp only [List.getD, List.getElem?_eq_getElem hi2, Option.getD_some] at h4
  rw [h3, h4]
/-- Two blocks made by one statement, in one order or the other. -/
structure TwoNew (wr W : World) (gx gc N sm : Nat) : Prop where
  bw : Below wr.heap.size wr W
  ne : gx ≠ gc
  x : R3At N W gx 0 ⟨(sm : Int), false, gc⟩
  own : W.ownsRow wr.heap.size 3 1 (.slice (some ⟨gc, 0, none⟩) N N) N ((List.replicate N (0 : Int)).map (Value.int .i64))
  lo : wr.heap.size ≤ gx
theorem cell_new (w : World) (x y z : Value) (t : TypeId) : (w.alloc (.cells #[x, y, z] t)).cell? ⟨w.heap.size, 0, none⟩ = some x ∧ (w.alloc (.cells #[x, y, z] t)).cell? ⟨w.heap.size, 0 + 1, none⟩ = some y ∧ (w.alloc (.cells #[x, y, z] t)).cell? ⟨w.heap.size, 0 + 2, none⟩ = some z := by
  have hh := heap_alloc_new w (.cells #[x, y, z] t)
  refine ⟨?_, ?_, ?_⟩ <;> (simp only [World.cell?, hh]; simp)
theorem two_a (wr : World) (N sm : Nat) (hN : N ≤ 100000) : TwoNew wr ((wr.alloc (.cells (Array.replicate N (.int .i64 0)) 3)).alloc (.cells #[.int .i64 (sm : Int), .bool false, .slice (some ⟨wr.heap.size, 0, none⟩) N N] 138)).drew (wr.heap.size + 1) wr.heap.size N sm := by
  have hsz : (wr.alloc (.cells (Array.replicate N (.int .i64 0)) 3)).heap.size = wr.heap.size + 1 := by simp
  have O2 := own_zeros wr N hN
  obtain ⟨c0, c1, c2⟩ := cell_new (wr.alloc (.cells (Array.replicate N (.int .i64 0)) 3)) (.int .i64 (sm : Int)) (.bool false) (.slice (some ⟨wr.heap.size, 0, none⟩) N N) 138
  rw [hsz] at c0 c1 c2
  exact ⟨((((Below.refl _ _).alloc (Nat.le_refl _) _).alloc (by simp) _).drew), by omega, ⟨c0, c1, c2⟩, own_below O2 ((((Below.refl _ _).alloc (Nat.le_refl _) _).drew)), by omega⟩
theorem two_b (wr : World) (N sm : Nat) (hN : N ≤ 100000) : TwoNew wr ((wr.alloc (.cells #[.int .i64 (sm : Int), .bool false, .slice (some ⟨wr.heap.size + 1, 0, none⟩) N N] 138)).alloc (.cells (Array.replicate N (.int .i64 0)) 3)).drew wr.heap.size (wr.heap.size + 1) N sm := by
  have hsz : (wr.alloc (.cells #[.int .i64 (sm : Int), .bool false, .slice (some ⟨wr.heap.size + 1, 0, none⟩) N N] 138)).heap.size = wr.heap.size + 1 := by simp
  obtain ⟨c0, c1, c2⟩ := cell_new wr (.int .i64 (sm : Int)) (.bool false) (.slice (some ⟨wr.heap.size + 1, 0, none⟩) N N) 138
  have O2 := own_zeros (wr.alloc (.cells #[.int .i64 (sm : Int), .bool false, .slice (some ⟨wr.heap.size + 1, 0, none⟩) N N] 138)) N hN
  rw [hsz] at O2
  have R : R3At N (wr.alloc (.cells #[.int .i64 (sm : Int), .bool false, .slice (some ⟨wr.heap.size + 1, 0, none⟩) N N] 138)) wr.heap.size 0 ⟨(sm : Int), false, wr.heap.size + 1⟩ := ⟨c0, c1, c2⟩
  have B1 : Below wr.heap.size wr (wr.alloc (.cells #[.int .i64 (sm : Int), .bool false, .slice (some ⟨wr.heap.size + 1, 0, none⟩) N N] 138)) := (Below.refl _ _).alloc (Nat.le_refl _) _
  generalize wr.alloc (.cells #[.int .i64 (sm : Int), .bool false, .slice (some ⟨wr.heap.size + 1, 0, none⟩) N N] 138) = V at *
  have B2 : Below V.heap.size V (V.alloc (.cells (Array.replicate N (.int .i64 0)) 3)).drew := ((Below.refl _ _).alloc (Nat.le_refl _) _).drew
  exact ⟨B1.trans (B2.mono (by omega)), by omega, R.of_block (B2.block _ (by omega)), own_base O2.drew (by omega), by omega⟩

set_option maxRecDepth 100000 in
set_option maxHeartbeats 2000000 in
theorem rpacked_any (N : Nat) (hN : N ≤ 288) (a : Option Addr) (n cap : Nat) (L : List Rm) (ts : List It) (w : World) (hn : Hid (L.length = n)) (hR : RR N w a L) (hM : M3 N w L ts) (hb : ∀ t ∈ ts, t.1 ≤ 1152921504606846976 ∧ t.2.length ≤ 1152921504606846976) (hl : n ≤ 100000) :
    Calls Tryz.prog 73 #[.slice a n cap] w fun e w' => ∃ b c' L', e = .returned (.slice b L'.length c') ∧ L'.length = n / 2 ∧ L'.length ≤ c' ∧ RR N w' b L' ∧ M3 N w' L' (pk ts) ∧ Below w.heap.size w w' := by
  obtain ⟨i0, hi, hz0, hz1, hz2⟩ := info_parts info_item3
  go_enter Tryz.func73, Tryz.ntmps73
  go_wp2_with fail
  go_loopw [3, 4] (fun to ti wr => ∃ (k c : Nat) (b : Option Addr) (P : List Rm), 2 * k ≤ n ∧ ti = .int .i64 (2 * (k : Int)) ∧ to = .slice b k c ∧ Hid (P.length = k) ∧ wr.ownsRow w.heap.size 138 3 (.slice b k c) k (flatR N P) ∧ Below w.heap.size w wr ∧ Hid (M3 N wr P (pk (ts.take (2 * k))) ∧ ∀ x ∈ P, IntB wr x.gc)) (fun _ ti _ => n + 2 - (intOf ti).toNat)
  case atStart => exact ⟨0, 0, none, [], by omega, by simp, rfl, (rfl : _ = _), World.ownsRow_nil _ _ _ _, Below.refl _ _, (⟨by simpa [pk] using M3.nil N w, fun x h => by simp at h⟩ : _ ∧ _)⟩
  case round =>
    obtain ⟨k, c, b, P, hk, rfl, rfl, HPk, OR, BR, HML⟩ := hrel
    by_cases h1 : 2 * k + 1 < n
    · have h1i : 2 * (k : Int) + 1 < (n : Int) := by omega
      obtain ⟨p, hp⟩ : ∃ p, p = 2 * k := ⟨_, rfl⟩
      obtain ⟨q, hq⟩ : ∃ q, q = 2 * k + 1 := ⟨_, rfl⟩
      obtain ⟨g, off, rfl, x⟩ := hR.at_ p (by have := hn.out; omega)
      obtain ⟨g', off', e, y⟩ := hR.at_ q (by have := hn.out; omega)
      cases e
      have x2 := x.of_block (BR.block g x.lt)
      have y2 := y.of_block (BR.block g x.lt)
      have s1 := (hM.seg p (by have := hn.out; omega)).old BR
      have s2 := (hM.seg q (by have := hn.out; omega)).old BR
      have e1 := hM.wt p (by have := hn.out; omega)
      have e2 := hM.wt q (by have := hn.out; omega)
      have hlt := hM.len
      have hb1 := hb (ts.getD p it0) (by have := hn.out; simp [List.getD, show p < ts.length by omega])
      have hb2 := hb (ts.getD q it0) (by have := hn.out; simp [List.getD, show q < ts.length by omega])
      have HPK : Hid (pk (ts.take (2 * (k + 1))) = pk (ts.take (2 * k)) ++ [((ts.getD p it0).1 + (ts.getD q it0).1, (ts.getD p it0).2 ++ (ts.getD q it0).2)]) := by
        rw [hp, hq]; exact pk_snoc ts k (by have := hn.out; omega)
      generalize ts.getD p it0 = s at *
      generalize ts.getD q it0 = u at *
      generalize L.getD p rm0 = X at *
      generalize L.getD q rm0 = Y at *
      obtain ⟨X0, X1, X2⟩ := X
      obtain ⟨Y0, Y1, Y2⟩ := Y
      simp only at e1 e2
      subst e1 e2
      obtain ⟨xa, xb, xc⟩ := x2
      obtain ⟨ya, yb, yc⟩ := y2
      simp only at xa xb xc ya yb yc s1 s2
      have r0 : 2 * (k : Int) = (p : Int) := by omega
      have r1 : (p : Int) + 1 = (q : Int) := by omega
      obtain ⟨sm, hsm⟩ : ∃ sm, sm = s.1 + u.1 := ⟨_, rfl⟩
      have r3 : (s.1 : Int) + (u.1 : Int) = (sm : Int) := by omega
      have HSM : Hid (sm = s.1 + u.1) := hsm
      have HQ : Hid (q = 2 * k + 1 ∧ p = 2 * k) := ⟨hq, hp⟩
      have z1 : (p : Int) < (n : Int) := by omega
      have z2 : (q : Int) < (n : Int) := by omega
      have zs : sm ≤ 2305843009213693952 := by omega
      have hmk := run_make_ints N (by omega)
      rw [r0]
      have hgw : g < wr.heap.size := World.block_lt_of_cell? wr _ xa
      have up : ∀ (ob : Obj) (j : Nat) (v : Value), wr.cell? ⟨g, j, none⟩ = some v → (wr.alloc ob).drew.cell? ⟨g, j, none⟩ = some v := fun ob j v h => (((Below.refl wr.heap.size wr).alloc (Nat.le_refl _) ob).cell (p := ⟨g, j, none⟩) hgw).trans h
      have xa1 : ∀ ob, (wr.alloc ob).drew.cell? ⟨g, off + p * 3, none⟩ = some (.int .i64 (s.1 : Int)) := fun ob => up ob _ _ xa
      have xc1 : ∀ ob, (wr.alloc ob).drew.cell? ⟨g, off + p * 3 + 2, none⟩ = some (.slice (some ⟨X2, 0, none⟩) N N) := fun ob => up ob _ _ xc
      have ya1 : ∀ ob, (wr.alloc ob).drew.cell? ⟨g, off + q * 3, none⟩ = some (.int .i64 (u.1 : Int)) := fun ob => up ob _ _ ya
      clear hsm hq hp x y h1i up
      go_wp2_with fail
      have hok : N ≤ 100000 := by omega
      obtain ⟨hw0, hhw0⟩ : ∃ hw0, hw0 = wr.heap.size := ⟨_, rfl⟩
      go_region
      all_goals first
        | (have T := two_a wr N sm hok
           obtain ⟨W, hW⟩ : ∃ W, W = ((wr.alloc (.cells (Array.replicate N (.int .i64 0)) 3)).alloc (.cells #[.int .i64 (sm : Int), .bool false, .slice (some ⟨wr.heap.size, 0, none⟩) N N] 138)).drew := ⟨_, rfl⟩
           rw [← hW] at T ⊢
           clear hW
           generalize wr.heap.size + 1 = gx at T ⊢
           generalize wr.heap.size = gc at T ⊢)
        | (have T := two_b wr N sm hok
           obtain ⟨W, hW⟩ : ∃ W, W = ((wr.alloc (.cells #[.int .i64 (sm : Int), .bool false, .slice (some ⟨wr.heap.size + 1, 0, none⟩) N N] 138)).alloc (.cells (Array.replicate N (.int .i64 0)) 3)).drew := ⟨_, rfl⟩
           rw [← hW] at T ⊢
           clear hW
           generalize wr.heap.size + 1 = gc at T ⊢
           generalize wr.heap.size = gx at T ⊢)
      all_goals
        have B0 : Below w.heap.size w W := BR.trans (T.bw.mono BR.size)
        have HOR : Hid _ := OR
        have hgc : wr.heap.size ≤ gc ∧ gc < W.heap.size := T.own.lt gc rfl
        have hgxl : gx < W.heap.size := T.x.lt
        have o0 := T.own
        have HT : Hid (TwoNew wr W gx gc N sm) := T
        have n0 : (List.replicate N (0 : Int)).length = N := by simp
        clear T OR
        go_wp2_with fail
        go_loopw [6] (fun tj wj => ∃ (j : Nat) (A : List Int), j ≤ N ∧ tj = .int .i64 j ∧ Hid (A.length = N ∧ ∀ i, i < j → A.getD i 0 = ((s.2 ++ u.2).count i : Int)) ∧ wj.ownsRow wr.heap.size 3 1 (.slice (some ⟨gc, 0, none⟩) N N) N (A.map (Value.int .i64)) ∧ W.grownBy wj (some gc)) (fun tj _ => N - (intOf tj).toNat)
        case atStart => exact ⟨0, _, Nat.zero_le _, rfl, (⟨n0, fun i h => by omega⟩ : _ ∧ _), o0, World.grownBy.refl _ _⟩
        case round =>
          obtain ⟨j, A, hj, rfl, HA, OJ, GJ⟩ := hrel
          have BJ := HT.out.bw.trans ((Below.refl _ W).grown GJ HT.out.bw.size (fun i hi => by cases hi; exact hgc.1))
          have xcj := (BJ.cell (p := ⟨g, off + p * 3 + 2, none⟩) hgw).trans xc
          have ycj := (BJ.cell (p := ⟨g, off + q * 3 + 2, none⟩) hgw).trans yc
          obtain ⟨x0j, x1j, x2j⟩ := HT.out.x.of_block (GJ.block gx hgxl (by have := HT.out.ne; simpa using this))
          simp only [Nat.zero_add] at x0j x1j x2j
          by_cases hjN : j < N
          · have hji : (j : Int) < (N : Int) := by omega
            obtain ⟨_, _, ee1, c1⟩ := (s1.old BJ).at_ j (by rw [cnt_len]; exact hjN)
            obtain ⟨_, _, ee2, c2⟩ := (s2.old BJ).at_ j (by rw [cnt_len]; exact hjN)
            cases ee1
            cases ee2
            rw [cnt_get _ hjN, Nat.zero_add] at c1 c2
            have b1 : s.2.count j ≤ 1152921504606846976 := Nat.le_trans List.count_le_length hb1.2
            have b2 : u.2.count j ≤ 1152921504606846976 := Nat.le_trans List.count_le_length hb2.2
            have HCN : Hid ((s.2 ++ u.2).count j = s.2.count j + u.2.count j) := List.count_append ..
            generalize s.2.count j = cs at *
            generalize u.2.count j = cu at *
            obtain ⟨ct, hct⟩ : ∃ ct, ct = cs + cu := ⟨_, rfl⟩
            have r9 : (cs : Int) + (cu : Int) = (ct : Int) := by omega
            have HCT : Hid (ct = cs + cu) := hct
            have hctb : ct ≤ 2305843009213693952 := by omega
            obtain ⟨a0, fz⟩ := own_cell1 OJ (i := j) (by have := HA.out.1; omega)
            have f0 := fz j
            have HST := OJ.stored j (.int .i64 (ct : Int))
            rw [← List.map_set] at HST
            have HSS : Hid _ := HST
            clear HST hct fz
            have HA2 : Hid ((A.set j (ct : Int)).length = N ∧ ∀ i, i < j + 1 → (A.set j (ct : Int)).getD i 0 = ((s.2 ++ u.2).count i : Int)) := by
              obtain ⟨q1, q2⟩ := HA.out
              refine ⟨by simp [q1], fun i hi => ?_⟩
              by_cases e : i = j
              · subst e
                have h8 : ((s.2 ++ u.2).count i : Int) = (ct : Int) := by rw [HCN.out, HCT.out]
                rw [h8]
                simp [List.getD, show i < A.length by omega]
              · have := q2 i (by omega)
                rw [← this]
                simp [List.getD, show ¬ j = i by omega]
            clear HA
            go_wp2_with fail
            go_region
            all_goals
              go_wp2
              go_roundw
              case rel =>
                obtain ⟨o3, g3⟩ := HSS.out
                exact ⟨j + 1, A.set j (ct : Int), by omega, by go_num, HA2, o3.drew, by have h7 := GJ.trans g3; exact ⟨h7.os, h7.tape, h7.output, h7.size, h7.block⟩⟩
              case measure => simp [intOf]; omega
          · obtain rfl : N = j := by omega
            have hNi : ¬ (N : Int) < (N : Int) := by omega
            have ORj := own_below3 HOR.out BJ
            have BRj := BR.trans (BJ.mono BR.size)
            have HMj : Hid (M3 N wr P (pk (ts.take (2 * k))) ∧ ∀ x ∈ P, IntB wr x.gc) := ⟨HML.out.1.old BJ, fun x hx => (HML.out.2 x hx).keep (BJ.block _ (HML.out.2 x hx).lt)⟩
            have IG := own_intB OJ
            have HAE := cnt_eq HA.out.1 HA.out.2
            have SGC : SegZ wr (some ⟨gc, 0, none⟩) (cntR N (s.2 ++ u.2)) := by
              rw [← HAE]
              refine own_segZ OJ (fun z hz => ?_)
              rw [HAE] at hz
              unfold cntR at hz
              obtain ⟨i, _, rfl⟩ := List.mem_map.1 hz
              have h5 : (s.2 ++ u.2).count i ≤ (s.2 ++ u.2).length := List.count_le_length
              rw [List.length_append] at h5
              omega
            have HSG : Hid _ := SGC
            have hbs := BRj.size
            clear HAE SGC HA
            go_wp2_with (at_builtin; refine wpList_app3 rfl (.tmp 63) (.tmp 65) 135 rfl w.heap.size 138 i0 _ 40 Tryz.underlying135 hi hz0 hz1 hz2 rfl (ORj.alloc _) (r := Rm.cells N ⟨(sm : Int), false, gc⟩) rfl (by simp [Rm.cells, Value.oneCell']) (new_cells3 wr _ _ _ _) rfl rfl (by omega) (by omega) (by simp; omega) ?_; intro b2 c2 w3 OR2 hg2 B2)
            have B3 : Below w.heap.size w w3 := BRj.trans (((Below.refl _ _).alloc hbs _).trans B2)
            have KP : ∀ g', IntB wr g' → w3.heap[g']? = wr.heap[g']? := fun g' h => (hg2.block g' (by have := h.lt; simp; omega) (apart3 ORj h)).trans (((Below.refl _ wr).alloc (Nat.le_refl _) _).block g' h.lt)
            have HM3 : Hid (M3 N w3 (P ++ [⟨(sm : Int), false, gc⟩]) (pk (ts.take (2 * (k + 1)))) ∧ ∀ x ∈ P ++ [(⟨(sm : Int), false, gc⟩ : Rm)], IntB w3 x.gc) := by
              rw [HPK.out]
              refine ⟨(HMj.out.1.keep (fun x hx => KP _ (HMj.out.2 x hx))).app (M3.one (by show (sm : Int) = _; rw [HSM.out]) (HSG.out.of_cells fun b' off' i v hi' ha hcl => by cases ha; rw [World.cell?_of_block (KP gc IG)]; exact hcl)), fun x hx => ?_⟩
              rcases List.mem_append.1 hx with hx | hx
              · exact (HMj.out.2 x hx).keep (KP _ (HMj.out.2 x hx))
              · simp only [List.mem_singleton] at hx
                subst hx
                exact IG.keep (KP gc IG)
            have HPL : Hid ((P ++ [(⟨(sm : Int), false, gc⟩ : Rm)]).length = k + 1) := by
              have h9 := HPk.out
              show _ = _
              rw [List.length_append, h9]; rfl
            have OR3 : w3.ownsRow w.heap.size 138 3 (.slice b2 (k + 1) c2) (k + 1) (flatR N (P ++ [⟨(sm : Int), false, gc⟩])) := by
              rw [flatR_app]
              simpa [flatR] using OR2
            clear OR2 hg2 B2 KP ORj
            go_wp2
            go_roundw
            case rel => exact ⟨k + 1, c2, b2, P ++ [⟨(sm : Int), false, gc⟩], by omega, by have := HQ.out; congr 1; omega, rfl, HPL, OR3, B3, HM3⟩
            case measure => have := HQ.out; simp [intOf]; omega
    · have h1i : ¬ 2 * (k : Int) + 1 < (n : Int) := by omega
      have hk2 : k = n / 2 := by omega
      have HK2 : Hid (k = n / 2) := hk2
      have HPW : Hid (pk (ts.take (2 * k)) = pk ts) := pk_whole ts k (by have := hM.len; have := hn.out; omega) (by have := hM.len; have := hn.out; omega)
      clear hk2
      go_wp2
      go_ret
      have hPk := HPk.out
      have hml := HML.out.1
      rw [HPW.out] at hml
      exact ⟨b, c, P, by rw [hPk]; rfl, by rw [hPk]; exact HK2.out, (by have := own_facts3 OR; rw [hPk]; exact this.1), own_RR OR hPk, hml, BR⟩
end Go.Proofs.YtcifalelnfeggaaGreatDoor

namespace Go.Proofs.YtcifalelnfeggaaGreatDoor
open Go.RowKit
set_option linter.unusedVariables false

/-! copy within a row of the call's own, of elements of three cells: one place on. -/
theorem run_copy3 {P : Program} (w : World) (dT sT ty elem : TypeId) (g o dLen dCap : Nat) (a : Addr) (sLen sCap : Nat) (cur : Array Value) (t : TypeId) (cs : List Value)
    (hu : P.underlying dT = some (.slice elem)) (hs : (P.info? elem).map (·.size) = some 3)
    (hg : w.heap[g]? = some (.cells cur t (0, 0))) (hn : cs.length = Nat.min sLen dLen * 3)
    (hsrc : ∀ j v, cs[j]? = some v → w.cell? (a.add j) = some v) (hfit : o + cs.length ≤ cur.size) (h1 : ∀ v ∈ cs, v.oneCell' = true) :
    (Builtin.copy_ #[dT, sT] ty #[.slice (some ⟨g, o, none⟩) dLen dCap, .slice (some a) sLen sCap]).run P w =
      .ok (goInt (Nat.min sLen dLen)) (w.setRow g (cur.toList.take o ++ cs ++ cur.toList.drop (o + cs.length)).toArray) := by
  have hl := run_loadCells_list (P := P) w a cs hsrc
  have hst := run_storeCells_at P g o t cs 0 cur w hg (by simpa using hfit) h1
  cases hq : P.info? elem with
  | none => simp [hq] at hs
  | some i =>
    have hi : i.size = 3 := by simpa [hq] using hs
    simp [Builtin.copy_, run_underlying hu, Builtin.lenOf, Builtin.firstCells, sizeOf, typeInfo, hq, hi, ← hn, hl, hst]
theorem run_copy3_none {P : Program} (w : World) (dT sT ty elem : TypeId) (d a : Option Addr) (dLen dCap sLen sCap : Nat) (hu : P.underlying dT = some (.slice elem)) (hs : (P.info? elem).map (·.size) = some 3) (hn : Nat.min sLen dLen = 0) :
    (Builtin.copy_ #[dT, sT] ty #[.slice d dLen dCap, .slice a sLen sCap]).run P w = .ok (goInt 0) w := by
  cases hq : P.info? elem with
  | none => simp [hq] at hs
  | some i =>
    have hl : ∀ (x : Addr), (loadCells x 0).run P w = .ok #[] w := fun x => by simpa using run_loadCells_list (P := P) w x [] (by simp)
    cases d <;> cases a <;> simp [Builtin.copy_, run_underlying hu, Builtin.lenOf, Builtin.firstCells, sizeOf, typeInfo, hq, hn, storeCells, hl]
/-- The row behind it. -/
theorem own_splice {w : World} {base n cap g : Nat} {e : TypeId} {xs cs : List Value} {off : Nat} (h : w.ownsRow base e 3 (.slice (some ⟨g, 0, none⟩) n cap) n xs) (hf : off + cs.length ≤ xs.length) :
    ∃ cur, w.heap[g]? = some (.cells cur e (0, 0)) ∧ off + cs.length ≤ cur.size ∧ (w.setRow g (cur.toList.take off ++ cs ++ cur.toList.drop (off + cs.length)).toArray).ownsRow base e 3 (.slice (some ⟨g, 0, none⟩) n cap) n (splice xs off cs) ∧ w.grownBy (w.setRow g (cur.toList.take off ++ cs ++ cur.toList.drop (off + cs.length)).toArray) (some g) := by
  rcases h.2 with ⟨h', _⟩ | ⟨g', cap', cur, h', hb, hg, hnc, hcm, hcs, htake⟩
  · simp at h'
  · simp only [Value.slice.injEq, Option.some.injEq, Addr.mk.injEq, and_true, true_and] at h'
    obtain ⟨rfl, rfl⟩ := h'
    have hl := h.1
    have hm : n * 3 ≤ cap * 3 := Nat.mul_le_mul_right 3 hnc
    refine ⟨cur, hg, by omega, ⟨?_, .inr ⟨g, cap, _, rfl, hb, setRow_heap w g _ _ e _ hg, hnc, hcm, ?_, ?_⟩⟩, ⟨rfl, rfl, rfl, by simp [World.setRow], fun k _ hk => setRow_other w g k _ (fun e => hk (by rw [e]))⟩⟩
    · rw [length_splice _ _ _ hf]; exact hl
    · simp
      omega
    · unfold splice
      rw [← htake] at hf ⊢
      simp only [List.length_take, Array.length_toList] at hf
      have hl1 : (cur.toList.take off ++ cs).length = off + cs.length := by simp; omega
      rw [List.take_append, hl1, List.take_of_length_le (by omega), List.take_take, Nat.min_eq_left (by omega), List.drop_take, List.append_assoc]
theorem step_copy3 {P : Program} {ops : Array Oper} {o : Oper} {a : Act} {w : World} {K : Act → World → Prop} {Q : Exit → Act → World → Prop} {E : Prop} (hgd : o.guard = none) (d s : Operand) (dT sT : TypeId)
    (ho : o.op = .call { callee := .builtin .copy, args := #[d, s], argTypes := #[dT, sT] }) (elem : TypeId) (hu : P.underlying dT = some (.slice elem)) (hsz : (P.info? elem).map (·.size) = some 3)
    (dp sp : Option Addr) (dLen dCap sLen sCap : Nat) (hd : a.eval d = .slice dp dLen dCap) (hs : a.eval s = .slice sp sLen sCap)
    (g p n cap base m : Nat) (xs : List Value) (hown : w.ownsRow base elem 3 (.slice (some ⟨g, 0, none⟩) n cap) n xs) (hm : Nat.min sLen dLen = m) (hpm : p + 1 + m = n)
    (hpos : 0 < m → dp = some ⟨g, (p + 1) * 3, none⟩ ∧ sp = some ⟨g, p * 3, none⟩) (h1 : ∀ v ∈ xs, v.oneCell' = true)
    (h : ∀ w', Hid (w'.ownsRow base elem 3 (.slice (some ⟨g, 0, none⟩) n cap) n (splice xs ((p + 1) * 3) ((xs.drop (p * 3)).take (m * 3)))) → w.grownBy w' (some g) → K (a.put o.dst (goInt m)) w') :
    if Region.wanted o (yielded ops a.tmps) = true then Oper.wp P o a w K Q else E := by
  have hw : Region.wanted o (yielded ops a.tmps) = true := by simp [Region.wanted, hgd]
  rw [if_pos hw]
  have hl := hown.1
  by_cases h0 : m = 0
  · subst h0
    have hrun := run_copy3_none (P := P) w dT sT o.type elem dp sp dLen dCap sLen sCap hu hsz hm
    unfold Oper.wp
    simp [execOp, ho, resolve, invoke, builtin, hd, hs, hrun, Result.andThen]
    refine h w ?_ (World.grownBy.refl _ _)
    show World.ownsRow _ _ _ _ _ _ _
    have e : splice xs ((p + 1) * 3) ((xs.drop (p * 3)).take (0 * 3)) = xs := by simp [splice]
    rw [e]
    exact hown
  · obtain ⟨rfl, rfl⟩ := hpos (by omega)
    have hcl : ((xs.drop (p * 3)).take (m * 3)).length = m * 3 := by simp; omega
    obtain ⟨cur, hg, hfit, ho2, hg2⟩ := own_splice (off := (p + 1) * 3) (cs := (xs.drop (p * 3)).take (m * 3)) hown (by rw [hcl]; omega)
    have hrun := run_copy3 (P := P) w dT sT o.type elem g ((p + 1) * 3) dLen dCap ⟨g, p * 3, none⟩ sLen sCap cur elem ((xs.drop (p * 3)).take (m * 3)) hu hsz hg (by rw [hcl, hm]) (fun j v hj => by
      have hadd : (⟨g, p * 3, none⟩ : Addr).add j = ⟨g, p * 3 + j, none⟩ := by unfold Addr.add; split <;> simp_all
      rw [hadd]
      have hjl : j < m * 3 := by
        have := (List.getElem?_eq_some_iff.1 hj).1
        rw [hcl] at this
        exact this
      rw [List.getElem?_take, if_pos hjl, List.getElem?_drop] at hj
      have := hown.cells (g := g) rfl (p * 3 + j) v hj
      have hadd2 : (⟨g, 0, none⟩ : Addr).add (p * 3 + j) = ⟨g, p * 3 + j, none⟩ := by unfold Addr.add; split <;> simp_all
      rwa [hadd2] at this) hfit (fun v hv => h1 v (List.mem_of_mem_drop (List.mem_of_mem_take hv)))
    rw [hm] at hrun
    generalize w.setRow g (cur.toList.take ((p + 1) * 3) ++ (xs.drop (p * 3)).take (m * 3) ++ cur.toList.drop ((p + 1) * 3 + ((xs.drop (p * 3)).take (m * 3)).length)).toArray = w2 at *
    unfold Oper.wp
    simp [execOp, ho, resolve, invoke, builtin, hd, hs, hrun, Result.andThen]
    exact h _ ho2 hg2
/-- A list with one put in. -/
theorem ins_cells (N : Nat) (L : List Rm) (p : Nat) (hp : p ≤ L.length) (z : List Value) (hz : z.length = 3) (x : Rm) :
    (((splice (flatR N L ++ z) ((p + 1) * 3) (((flatR N L ++ z).drop (p * 3)).take ((L.length - p) * 3))).set (p * 3) (.int .i64 x.wt)).set (p * 3 + 1) (.bool x.lf)).set (p * 3 + 2) (.slice (some ⟨x.gc, 0, none⟩) N N) = flatR N (L.take p ++ x :: L.drop p) := by
  have e0 : flatR N L = flatR N (L.take p) ++ flatR N (L.drop p) := by rw [← flatR_app, List.take_append_drop]
  have la : (flatR N (L.take p)).length = p * 3 := by rw [flatR_len]; simp; omega
  have lb : (flatR N (L.drop p)).length = (L.length - p) * 3 := by rw [flatR_len]; simp
  have ef : flatR N (L.take p ++ x :: L.drop p) = flatR N (L.take p) ++ (x.cells N ++ flatR N (L.drop p)) := by
    rw [flatR_app]
    rfl
  rw [ef, e0]
  generalize flatR N (L.take p) = A at *
  generalize flatR N (L.drop p) = B at *
  generalize (L.length - p) * 3 = q at *
  have e1 : ((A ++ B ++ z).drop (p * 3)).take q = B := by
    rw [← la, List.append_assoc, List.drop_left, ← lb, List.take_left]
  rw [e1]
  have e2 : splice (A ++ B ++ z) ((p + 1) * 3) B = A ++ ((B ++ z).take 3 ++ B) := by
    unfold splice
    have h1 : (A ++ B ++ z).take ((p + 1) * 3) = A ++ (B ++ z).take 3 := by
      rw [List.append_assoc, show (p + 1) * 3 = A.length + 3 by omega, List.take_length_add_append]
    have h2 : (A ++ B ++ z).drop ((p + 1) * 3 + B.length) = [] := by
      apply List.drop_of_length_le
      simp only [List.length_append]
      omega
    rw [h1, h2]
    simp
  rw [e2]
  obtain ⟨u0, u1, u2, hu⟩ : ∃ u0 u1 u2, (B ++ z).take 3 = [u0, u1, u2] := by
    have hl : ((B ++ z).take 3).length = 3 := by simp; omega
    match (B ++ z).take 3, hl with
    | [a, b, c], _ => exact ⟨a, b, c, rfl⟩
  rw [hu, ← la]
  rw [List.set_append_right _ _ (by omega), Nat.sub_self, List.set_append_right _ _ (by omega), Nat.add_sub_cancel_left, List.set_append_right _ _ (by omega), Nat.add_sub_cancel_left]
  rfl
/-- Where a pair goes. -/
theorem insP_at (x : Nat × Nat) : ∀ (P : List (Nat × Nat)) (p : Nat), p ≤ P.length → (∀ j, j < p → (P.getD j (0, 0)).1 ≤ x.1) → (p = P.length ∨ x.1 < (P.getD p (0, 0)).1) → insP x P = P.take p ++ x :: P.drop p
  | [], p, h, _, _ => by
    have : p = 0 := by simpa using h
    subst this
    rfl
  | y :: r, 0, _, _, h => by
    have h1 : x.1 < y.1 := by simpa using h
    simp [insP, show ¬ y.1 ≤ x.1 by omega]
  | y :: r, p + 1, h, h2, h3 => by
    have h1 : y.1 ≤ x.1 := by simpa using h2 0 (by omega)
    have ih := insP_at x r p (by simpa using h) (fun j hj => by simpa [List.getD] using h2 (j + 1) (by omega)) (by
      rcases h3 with h3 | h3
      · exact .inl (by simpa using h3)
      · exact .inr (by simpa [List.getD] using h3))
    simp [insP, h1, ih]
theorem pairs_snoc (zs : List Int) (k : Nat) : pairs zs (k + 1) = pairs zs k ++ (if zs.getD k 0 = 0 then [] else [((zs.getD k 0).toNat, k)]) := by
  unfold pairs
  rw [List.range_succ, List.filter_append, List.map_append]
  by_cases h : zs.getD k 0 = 0
  · have hd : decide (zs.getD k 0 ≠ 0) = false := by rw [h]; rfl
    rw [if_pos h, List.filter_cons_of_neg (by rw [hd]; decide)]
    rfl
  · have hd : decide (zs.getD k 0 ≠ 0) = true := by simpa using h
    rw [if_neg h, List.filter_cons, if_pos hd]
    rfl
def LFk (zs : List Int) (k : Nat) : List (Nat × Nat) := (pairs zs k).foldl (fun l x => insP x l) []
theorem LFk_skip {zs : List Int} {k : Nat} (h : zs.getD k 0 = 0) : LFk zs (k + 1) = LFk zs k := by unfold LFk; rw [pairs_snoc, if_pos h, List.append_nil]
theorem LFk_put {zs : List Int} {k : Nat} (h : ¬ zs.getD k 0 = 0) : LFk zs (k + 1) = insP ((zs.getD k 0).toNat, k) (LFk zs k) := by unfold LFk; rw [pairs_snoc, if_neg h, List.foldl_append]; rfl
theorem unit_cnt {N i : Nat} (h : i < N) : (List.replicate N (0 : Int)).set i 1 = cntR N [i] := by
  refine cnt_eq (by simp) (fun j hj => ?_)
  by_cases e : i = j
  · subst e; simp [List.getD, h]
  · simp [List.getD, e, hj]
theorem M3.ins {N : Nat} {w : World} {L : List Rm} {ts : List It} {x : Rm} {t : It} (h : M3 N w L ts) (k : M3 N w [x] [t]) (p : Nat) : M3 N w (L.take p ++ x :: L.drop p) (ts.take p ++ t :: ts.drop p) := by
  have h2 : M3 N w (L.drop p) (ts.drop p) := by
    refine ⟨by simp [h.len], fun j hj => ?_, fun j hj => ?_⟩
    · simp at hj
      have := h.wt (p + j) (by omega)
      simpa [List.getD] using this
    · simp at hj
      have := h.seg (p + j) (by omega)
      simpa [List.getD] using this
  exact (h.take p).app (k.app h2)
end Go.Proofs.YtcifalelnfeggaaGreatDoor

namespace Go.Proofs.YtcifalelnfeggaaGreatDoor
open Go.RowKit
set_option linter.unusedVariables false

theorem own_free3 {w : World} {base n g cap : Nat} {e : TypeId} {xs : List Value} (h : w.ownsRow base e 3 (.slice (some ⟨g, 0, none⟩) n cap) n xs) (j : Nat) : w.frozen? ⟨g, j, none⟩ = false := by
  rcases h.2 with ⟨h', _⟩ | ⟨g', cap', cur, h', _, hg, _⟩
  · simp at h'
  · simp only [Value.slice.injEq, Option.some.injEq, Addr.mk.injEq, and_true, true_and] at h'
    obtain ⟨rfl, rfl⟩ := h'
    exact frozen_of_row w g j cur e hg
/-- What the store of an item of three cells leaves: the list with one put in. -/
theorem ins_stored {w : World} {base g cap N k p : Nat} {e : TypeId} {L : List Rm} {z : List Value} (hL : L.length = k) (hp : p ≤ k) (hz : z.length = 3) (x : Rm)
    (h : w.ownsRow base e 3 (.slice (some ⟨g, 0, none⟩) (k + 1) cap) (k + 1) (splice (flatR N L ++ z) ((p + 1) * 3) (((flatR N L ++ z).drop (p * 3)).take ((k - p) * 3)))) :
    (((w.setCell ⟨g, p * 3, none⟩ (.int .i64 x.wt)).setCell ⟨g, p * 3 + 1, none⟩ (.bool x.lf)).setCell ⟨g, p * 3 + 2, none⟩ (.slice (some ⟨x.gc, 0, none⟩) N N)).ownsRow base e 3 (.slice (some ⟨g, 0, none⟩) (k + 1) cap) (k + 1) (flatR N (L.take p ++ x :: L.drop p))
      ∧ w.grownBy (((w.setCell ⟨g, p * 3, none⟩ (.int .i64 x.wt)).setCell ⟨g, p * 3 + 1, none⟩ (.bool x.lf)).setCell ⟨g, p * 3 + 2, none⟩ (.slice (some ⟨x.gc, 0, none⟩) N N)) (some g) := by
  obtain ⟨h1, g1⟩ := h.stored (p * 3) (.int .i64 x.wt)
  obtain ⟨h2, g2⟩ := h1.stored (p * 3 + 1) (.bool x.lf)
  obtain ⟨h3, g3⟩ := h2.stored (p * 3 + 2) (.slice (some ⟨x.gc, 0, none⟩) N N)
  have e1 := ins_cells N L p (by omega) z hz x
  rw [hL] at e1
  rw [e1] at h3
  exact ⟨h3, grownBy_trans (grownBy_trans g1 g2) g3⟩
/-- The cells that are stored over. -/
theorem ins_there {w : World} {base g cap N k p : Nat} {e : TypeId} {xs : List Value} (hp : p ≤ k) (h : w.ownsRow base e 3 (.slice (some ⟨g, 0, none⟩) (k + 1) cap) (k + 1) xs) : ∃ y0 y1 y2, w.cell? ⟨g, p * 3, none⟩ = some y0 ∧ w.cell? ⟨g, p * 3 + 1, none⟩ = some y1 ∧ w.cell? ⟨g, p * 3 + 2, none⟩ = some y2 := by
  have hl := h.1
  have c0 := h.cellAt (p * 3) (by omega)
  have c1 := h.cellAt (p * 3 + 1) (by omega)
  have c2 := h.cellAt (p * 3 + 2) (by omega)
  rw [List.getElem?_eq_getElem (by omega)] at c0 c1 c2
  exact ⟨_, _, _, c0, c1, c2⟩
/-- Blocks of ints stay where a row of items grows and is written. -/
theorem leaves_keep {W1 w2 w3 w4 w5 : World} {g2 q : Nat} (BQ : Below W1.heap.size W1 w2) (hk : ∀ q, IntB w2 q → w3.heap[q]? = w2.heap[q]? ∧ q ≠ g2) (h4 : w3.drew.grownBy w4 (some g2)) (h5 : w4.grownBy w5 (some g2)) (h : IntB W1 q) : w5.heap[q]? = W1.heap[q]? := by
  have e1 := BQ.block q h.lt
  have i2 := h.keep e1
  obtain ⟨e2, hne⟩ := hk q i2
  have i3 := i2.keep e2
  have e3 : w4.heap[q]? = w3.heap[q]? := h4.block q i3.lt (by simpa using hne)
  have i4 := i3.keep e3
  have e4 := h5.block q i4.lt (by simpa using hne)
  rw [e4, e3, e2, e1]
theorem itF_ins (A : List (Nat × Nat)) (p : Nat) (x : Nat × Nat) : itF (A.take p ++ x :: A.drop p) = (itF A).take p ++ (x.1, [x.2]) :: (itF A).drop p := by
  simp [itF, List.map_take, List.map_drop]
/-- What the row means with one put in. -/
theorem leaves_mean {zs : List Int} {N i v p k gc : Nat} {W1 w5 : World} {L : List Rm} (hz : zs.getD i 0 = (v : Int)) (hv : ¬ v = 0) (hp : p ≤ k) (hL : L.length = k) (hM : M3 N W1 L (itF (LFk zs i))) (hk : ∀ x ∈ L, w5.heap[x.gc]? = W1.heap[x.gc]?)
    (hs : SegZ W1 (some ⟨gc, 0, none⟩) (cntR N [i])) (hg : w5.heap[gc]? = W1.heap[gc]?) (hlo : ∀ j, j < p → (L.getD j rm0).wt ≤ (v : Int)) (hex : p = (LFk zs i).length ∨ v < ((LFk zs i).getD p (0, 0)).1) :
    M3 N w5 (L.take p ++ (⟨(v : Int), true, gc⟩ : Rm) :: L.drop p) (itF (LFk zs (i + 1))) := by
  have hl := hM.len
  rw [itF_len] at hl
  have e1 : LFk zs (i + 1) = (LFk zs i).take p ++ (v, i) :: (LFk zs i).drop p := by
    rw [LFk_put (by rw [hz]; omega), hz]
    refine insP_at _ _ p (by omega) (fun j hj => ?_) hex
    have h1 := hM.wt j (by omega)
    have h2 := hlo j hj
    have h3 : ((itF (LFk zs i)).getD j it0).1 = ((LFk zs i).getD j (0, 0)).1 := by
      have h4 : j < (LFk zs i).length := by omega
      simp [itF, List.getD, h4]
    rw [h1, h3] at h2
    show _ ≤ ((v : Int)).toNat
    omega
  rw [e1, itF_ins]
  refine (hM.keep hk).ins (M3.one rfl ?_) p
  exact hs.of_cells fun b off j u _ ha hc => by
    cases ha
    exact (World.cell?_of_block (a := ⟨gc, 0 + j, none⟩) hg).trans hc
end Go.Proofs.YtcifalelnfeggaaGreatDoor

namespace Go.Proofs.YtcifalelnfeggaaGreatDoor
open Go.RowKit
set_option linter.unusedVariables false

structure TwoL (wr W : World) (gx gc N sm : Nat) : Prop where
  bw : Below wr.heap.size wr W
  ne : gx ≠ gc
  x : R3At N W gx 0 ⟨(sm : Int), true, gc⟩
  own : W.ownsRow wr.heap.size 3 1 (.slice (some ⟨gc, 0, none⟩) N N) N ((List.replicate N (0 : Int)).map (Value.int .i64))
  lo : wr.heap.size ≤ gx
  three : ∃ y0 y1 y2, W.heap[gx]? = some (.cells #[y0, y1, y2] 138 (0, 0))
theorem twoL_a (wr : World) (N sm : Nat) (hN : N ≤ 100000) : TwoL wr ((wr.alloc (.cells (Array.replicate N (.int .i64 0)) 3)).alloc (.cells #[.int .i64 (sm : Int), .bool true, .slice (some ⟨wr.heap.size, 0, none⟩) N N] 138)).drew (wr.heap.size + 1) wr.heap.size N sm := by
  have hsz : (wr.alloc (.cells (Array.replicate N (.int .i64 0)) 3)).heap.size = wr.heap.size + 1 := by simp
  have O2 := own_zeros wr N hN
  obtain ⟨c0, c1, c2⟩ := cell_new (wr.alloc (.cells (Array.replicate N (.int .i64 0)) 3)) (.int .i64 (sm : Int)) (.bool true) (.slice (some ⟨wr.heap.size, 0, none⟩) N N) 138
  rw [hsz] at c0 c1 c2
  exact ⟨((((Below.refl _ _).alloc (Nat.le_refl _) _).alloc (by simp) _).drew), by omega, ⟨c0, c1, c2⟩, own_below O2 ((((Below.refl _ _).alloc (Nat.le_refl _) _).drew)), by omega, _, _, _, by rw [← hsz]; exact heap_alloc_new _ _⟩
theorem twoL_b (wr : World) (N sm : Nat) (hN : N ≤ 100000) : TwoL wr ((wr.alloc (.cells #[.int .i64 (sm : Int), .bool true, .slice (some ⟨wr.heap.size + 1, 0, none⟩) N N] 138)).alloc (.cells (Array.replicate N (.int .i64 0)) 3)).drew wr.heap.size (wr.heap.size + 1) N sm := by
  have hsz : (wr.alloc (.cells #[.int .i64 (sm : Int), .bool true, .slice (some ⟨wr.heap.size + 1, 0, none⟩) N N] 138)).heap.size = wr.heap.size + 1 := by simp
  obtain ⟨c0, c1, c2⟩ := cell_new wr (.int .i64 (sm : Int)) (.bool true) (.slice (some ⟨wr.heap.size + 1, 0, none⟩) N N) 138
  have O2 := own_zeros (wr.alloc (.cells #[.int .i64 (sm : Int), .bool true, .slice (some ⟨wr.heap.size + 1, 0, none⟩) N N] 138)) N hN
  rw [hsz] at O2
  have H3 := heap_alloc_new wr (.cells #[.int .i64 (sm : Int), .bool true, .slice (some ⟨wr.heap.size + 1, 0, none⟩) N N] 138)
  have R : R3At N (wr.alloc (.cells #[.int .i64 (sm : Int), .bool true, .slice (some ⟨wr.heap.size + 1, 0, none⟩) N N] 138)) wr.heap.size 0 ⟨(sm : Int), true, wr.heap.size + 1⟩ := ⟨c0, c1, c2⟩
  have B1 : Below wr.heap.size wr (wr.alloc (.cells #[.int .i64 (sm : Int), .bool true, .slice (some ⟨wr.heap.size + 1, 0, none⟩) N N] 138)) := (Below.refl _ _).alloc (Nat.le_refl _) _
  generalize wr.alloc (.cells #[.int .i64 (sm : Int), .bool true, .slice (some ⟨wr.heap.size + 1, 0, none⟩) N N] 138) = V at *
  have B2 : Below V.heap.size V (V.alloc (.cells (Array.replicate N (.int .i64 0)) 3)).drew := ((Below.refl _ _).alloc (Nat.le_refl _) _).drew
  exact ⟨B1.trans (B2.mono (by omega)), by omega, R.of_block (B2.block _ (by omega)), own_base O2.drew (by omega), by omega, _, _, _, (B2.block _ (by omega)).trans H3⟩

theorem below_drewN {B : Nat} {w w' : World} (h : Below B w w') (n : Nat) : Below B w (w'.drewN n) := ⟨h.os, h.tape, h.output, h.size, h.block⟩
theorem own_grown3 {w w' : World} {base n g2 : Nat} {e : TypeId} {v : Value} {xs : List Value} (h : w.ownsRow base e 3 v n xs) (hg : w.grownBy w' (some g2)) (hne : some g2 ≠ v.ownBlock) : w'.ownsRow base e 3 v n xs := by
  rcases h with ⟨hl, h | ⟨g, cap, cur, rfl, hb, hh, rest⟩⟩
  · exact ⟨hl, .inl h⟩
  · exact ⟨hl, .inr ⟨g, cap, cur, rfl, hb, by rw [hg.block g (Array.getElem?_eq_some_iff.1 hh).1 (fun e => hne (by rw [← e]; rfl))]; exact hh, rest⟩⟩

set_option maxRecDepth 100000 in
set_option maxHeartbeats 16000000 in
theorem rleaves_any (a : Option Addr) (zs : List Int) (N cap : Nat) (hN : Hid (zs.length = N)) (w : World) (hs : SegZ w a zs) (h288 : N ≤ 288) (hnn : Hid (∀ i, 0 ≤ zs.getD i 0)) :
    Calls Tryz.prog 71 #[.slice a N cap] w fun e w' => ∃ b c L, e = .returned (.slice b L.length c) ∧ L.length = (LFz zs).length ∧ L.length ≤ c ∧ RR N w' b L ∧ M3 N w' L (itF (LFz zs)) ∧ Below w.heap.size w w' := by
  obtain ⟨i0, hi, hz0, hz1, hz2⟩ := info_parts info_item3
  go_enter Tryz.func71, Tryz.ntmps71
  go_wp2_with fail
  go_loopw [3, 4] (fun tl ti wr => ∃ (i k c : Nat) (b : Option Addr) (L : List Rm), i ≤ N ∧ k ≤ i ∧ ti = .int .i64 (i : Int) ∧ tl = .slice b k c ∧ Hid (L.length = k) ∧ wr.ownsRow w.heap.size 138 3 (.slice b k c) k (flatR N L) ∧ Below w.heap.size w wr ∧ Hid (M3 N wr L (itF (LFk zs i)) ∧ ∀ x ∈ L, IntB wr x.gc)) (fun _ ti _ => N - (intOf ti).toNat)
  case atStart => exact ⟨0, 0, 0, none, [], by omega, by omega, rfl, rfl, (rfl : _ = _), World.ownsRow_nil _ _ _ _, Below.refl _ _, (⟨M3.nil N w, fun x h => by simp at h⟩ : _ ∧ _)⟩
  case round =>
    obtain ⟨i, k, c, b, L, hiN, hki, rfl, rfl, HLk, OR, BR, HML⟩ := hrel
    by_cases h1 : i < N
    · have h1i : (i : Int) < (N : Int) := by omega
      obtain ⟨g, off, rfl, c0⟩ := (hs.old BR).at_ i (by have := hN.out; omega)
      have HV : Hid (∃ v : Nat, zs.getD i 0 = (v : Int)) := ⟨(zs.getD i 0).toNat, by have := hnn.out i; omega⟩
      obtain ⟨v, hv⟩ := HV.out
      have HVJ : Hid (zs.getD i 0 = (v : Int)) := hv
      have hbv := hs.bd i
      rw [hv] at c0 hbv
      clear hv HV
      by_cases hv0 : v = 0
      · subst hv0
        go_wp2_with fail
        go_roundw
        case rel => exact ⟨i + 1, k, c, b, L, by omega, by omega, by go_num, rfl, HLk, OR, BR, (⟨by rw [LFk_skip HVJ.out]; exact HML.out.1, HML.out.2⟩ : _ ∧ _)⟩
        case measure => simp [intOf]; omega
      · have hv0i : ¬ (v : Int) = 0 := by omega
        have hvb : ((v : Int) == 0) = false := by simp; omega
        have hmk := run_make_ints N (by omega)
        have hgw : g < wr.heap.size := World.block_lt_of_cell? wr _ c0
        have c1 : ∀ ob, (wr.alloc ob).drew.cell? ⟨g, off + i, none⟩ = some (.int .i64 (v : Int)) := fun ob => (((Below.refl wr.heap.size wr).alloc (Nat.le_refl _) ob).cell (p := ⟨g, off + i, none⟩) hgw).trans c0
        go_wp2_with fail
        have hok : N ≤ 100000 := by omega
        obtain ⟨hw0, hhw0⟩ : ∃ hw0, hw0 = wr.heap.size := ⟨_, rfl⟩
        go_region
        all_goals first
          | (have T := twoL_a wr N v hok
             obtain ⟨W, hW⟩ : ∃ W, W = ((wr.alloc (.cells (Array.replicate N (.int .i64 0)) 3)).alloc (.cells #[.int .i64 (v : Int), .bool true, .slice (some ⟨wr.heap.size, 0, none⟩) N N] 138)).drew := ⟨_, rfl⟩
             rw [← hW] at T ⊢
             clear hW
             generalize wr.heap.size + 1 = gx at T ⊢
             generalize wr.heap.size = gc at T ⊢)
          | (have T := twoL_b wr N v hok
             obtain ⟨W, hW⟩ : ∃ W, W = ((wr.alloc (.cells #[.int .i64 (v : Int), .bool true, .slice (some ⟨wr.heap.size + 1, 0, none⟩) N N] 138)).alloc (.cells (Array.replicate N (.int .i64 0)) 3)).drew := ⟨_, rfl⟩
             rw [← hW] at T ⊢
             clear hW
             generalize wr.heap.size + 1 = gc at T ⊢
             generalize wr.heap.size = gx at T ⊢)
        all_goals
          have B0 : Below w.heap.size w W := BR.trans (T.bw.mono BR.size)
          have ORW := own_below3 OR T.bw
          have HMW : Hid (M3 N W L (itF (LFk zs i)) ∧ ∀ x ∈ L, IntB W x.gc) := ⟨HML.out.1.old T.bw, fun x hx => (HML.out.2 x hx).keep (T.bw.block _ (HML.out.2 x hx).lt)⟩
          obtain ⟨x0, x1, x2⟩ := T.x
          simp only [Nat.zero_add] at x0 x1 x2
          have o0 := T.own
          have hgcl : wr.heap.size ≤ gc ∧ gc < W.heap.size := o0.lt gc rfl
          have hgxl : wr.heap.size ≤ gx ∧ gx < W.heap.size := ⟨T.lo, T.x.lt⟩
          have hne := T.ne
          have IG0 := own_intB o0
          obtain ⟨a0, fz⟩ := own_cell1 o0 (i := i) (by simp; omega)
          have f0 := fz i
          have HST := o0.stored i (.int .i64 1)
          rw [← List.map_set, unit_cnt h1] at HST
          have HSS : Hid _ := HST
          have HT : Hid (TwoL wr W gx gc N v) := T
          have hlr : Hid (w.heap.size ≤ wr.heap.size) := BR.size
          have hrb0 : ∀ q, (Value.slice b k c).ownBlock = some q → q < gx := fun q hq => Nat.lt_of_lt_of_le (OR.lt q hq).2 T.lo
          clear HST fz T OR c0 c1 hhw0 hmk
          generalize (List.replicate N (0 : Int)).getD i 0 = zz at *
          have hrb : Hid (∀ q, (Value.slice b k c).ownBlock = some q → q < gx) := hrb0
          clear hrb0
          go_wp2_with fail
          obtain ⟨o1, g1⟩ := HSS.out
          have X1 : R3At N (W.setCell ⟨gc, i, none⟩ (.int .i64 1)) gx 0 ⟨(v : Int), true, gc⟩ := HT.out.x.of_block (g1.block gx hgxl.2 (by simpa using hne))
          have Y1 : Hid (∃ y0 y1 y2, (W.setCell ⟨gc, i, none⟩ (.int .i64 1)).heap[gx]? = some (.cells #[y0, y1, y2] 138 (0, 0))) := by
            obtain ⟨y0, y1, y2, hy⟩ := HT.out.three
            exact ⟨y0, y1, y2, (g1.block gx hgxl.2 (by simpa using hne)).trans hy⟩
          have OR1 : (W.setCell ⟨gc, i, none⟩ (.int .i64 1)).ownsRow w.heap.size 138 3 (.slice b k c) k (flatR N L) := own_grown3 ORW g1 (apart3 ORW IG0)
          have IG1 : IntB (W.setCell ⟨gc, i, none⟩ (.int .i64 1)) gc := own_intB o1
          have kp1 : ∀ x ∈ L, (W.setCell ⟨gc, i, none⟩ (.int .i64 1)).heap[x.gc]? = W.heap[x.gc]? := fun x hx => g1.block x.gc (HMW.out.2 x hx).lt (by have h5 := (HML.out.2 x hx).lt; simp; omega)
          have HM1 : Hid (M3 N (W.setCell ⟨gc, i, none⟩ (.int .i64 1)) L (itF (LFk zs i)) ∧ ∀ x ∈ L, IntB (W.setCell ⟨gc, i, none⟩ (.int .i64 1)) x.gc) := ⟨HMW.out.1.keep kp1, fun x hx => (HMW.out.2 x hx).keep (kp1 x hx)⟩
          have B1 : Below w.heap.size w (W.setCell ⟨gc, i, none⟩ (.int .i64 1)) := B0.grown g1 B0.size (fun q hq => by cases hq; have := hlr.out; omega)
          have SG1 : SegZ (W.setCell ⟨gc, i, none⟩ (.int .i64 1)) (some ⟨gc, 0, none⟩) (cntR N [i]) := own_segZ o1 (fun z hz => by
            unfold cntR at hz
            obtain ⟨q, _, rfl⟩ := List.mem_map.1 hz
            have h5 : ([i] : List Nat).count q ≤ ([i] : List Nat).length := List.count_le_length
            simp at h5
            omega)
          have HSG : Hid _ := SG1
          have hgx1 : gx < (W.setCell ⟨gc, i, none⟩ (.int .i64 1)).heap.size := X1.lt
          clear SG1 kp1 o1 g1 HSS ORW HMW x0 x1 x2 o0 a0 f0 IG0 HT B0 hgcl
          generalize W.setCell ⟨gc, i, none⟩ (.int .i64 1) = W1 at *
          go_loopw [6] (fun tp wr => ∃ p : Nat, p ≤ k ∧ tp = .int .i64 (p : Int) ∧ Below W1.heap.size W1 wr ∧ Hid (∀ j, j < p → (L.getD j rm0).wt ≤ (v : Int))) (fun tp _ => k - (intOf tp).toNat)
          case atStart => exact ⟨0, by omega, rfl, Below.refl _ _, fun j hj => by omega⟩
          case round =>
            obtain ⟨p, hp, rfl, BQ, HP⟩ := hrel
            have ORq := own_below3 OR1 BQ
            have Xq := X1.of_block (BQ.block gx hgx1)
            have Yq : Hid (∃ y0 y1 y2, wr.heap[gx]? = some (.cells #[y0, y1, y2] 138 (0, 0))) := by
              obtain ⟨y0, y1, y2, hy⟩ := Y1.out
              exact ⟨y0, y1, y2, (BQ.block gx hgx1).trans hy⟩
            have xa := Xq.c0
            have xb := Xq.c1
            have xc := Xq.c2
            simp only [Nat.zero_add] at xb xc
            by_cases hpk : p < k
            · have hpi : (p : Int) < (k : Int) := by omega
              obtain ⟨gb, cb', hv, hkc0, _, _⟩ := own_shape3 ORq (by omega)
              simp only [Value.slice.injEq] at hv
              obtain ⟨rfl, _, rfl⟩ := hv
              obtain ⟨gb', ob, e, it⟩ := (own_RR ORq HLk.out).at_ p (by have := HLk.out; omega)
              cases e
              have i0c := it.c0
              simp only [Nat.zero_add] at i0c
              have HW : Hid (∃ t : Nat, (L.getD p rm0).wt = (t : Int) ∧ t = ((LFk zs i).getD p (0, 0)).1) := by
                have h1 := HM1.out.1.wt p (by have := HLk.out; omega)
                have h2 := HM1.out.1.len
                rw [itF_len] at h2
                have h3 : ((itF (LFk zs i)).getD p it0).1 = ((LFk zs i).getD p (0, 0)).1 := by
                  have h4 : p < (LFk zs i).length := by have := HLk.out; omega
                  simp [itF, List.getD, h4]
                exact ⟨_, h1, h3⟩
              obtain ⟨t, ht, ht2⟩ := HW.out
              have HTT : Hid ((L.getD p rm0).wt = (t : Int) ∧ t = ((LFk zs i).getD p (0, 0)).1) := ⟨ht, ht2⟩
              rw [ht] at i0c
              clear ht ht2 HW it
              by_cases hw : t ≤ v
              · have hwi : (t : Int) ≤ (v : Int) := by omega
                go_wp2_with fail
                go_quiet (fail)
                go_wp2
                go_roundw
                case rel =>
                  refine ⟨p + 1, by omega, by go_num, below_drewN BQ nq, fun j hj => ?_⟩
                  by_cases e : j = p
                  · subst e; rw [HTT.out.1]; exact hwi
                  · exact HP.out j (by omega)
                case measure => simp [intOf]; omega
              · have hwi : ¬ (t : Int) ≤ (v : Int) := by omega
                have HEX : Hid (p = (LFk zs i).length ∨ v < ((LFk zs i).getD p (0, 0)).1) := .inr (by rw [← HTT.out.2]; omega)
                go_wp2_with fail
                go_quiet (fail)
                have ORd : (wr.drewN nq).ownsRow w.heap.size 138 3 (.slice (some ⟨gb, 0, none⟩) k c) k (flatR N L) := ORq
                have Xd : R3At N (wr.drewN nq) gx 0 ⟨(v : Int), true, gc⟩ := Xq.of_block rfl
                have BQd : Below W1.heap.size W1 (wr.drewN nq) := below_drewN BQ nq
                have Y3d : Hid (∃ y0 y1 y2, (wr.drewN nq).heap[gx]? = some (.cells #[y0, y1, y2] 138 (0, 0))) := Yq
                clear ORq Xq BQ Yq xa xb xc
                generalize wr.drewN nq = w2 at *
                have hs2 : W1.heap.size ≤ w2.heap.size := BQd.size
                have hw1 : w.heap.size ≤ W1.heap.size := B1.size
                have hgx2 : gx < w2.heap.size := by omega
                go_wp2_with (at_builtin; refine wpList_app3 rfl (.tmp 46) (.tmp 48) 135 rfl w.heap.size 138 i0 _ 40 Tryz.underlying135 hi hz0 hz1 hz2 rfl (ORd.alloc _) (r := [.int .i64 0, .bool false, .slice none 0 0]) rfl (by simp [Value.oneCell']) (new_cells3 w2 _ _ _ _) rfl rfl (by omega) (by omega) (by simp; omega) ?_; intro b2 c2 w3 OR2 hg2 B2)
                obtain ⟨g2, c2', hv, hkc, hg2b, hg2l⟩ := own_shape3 OR2 (by omega)
                simp only [Value.slice.injEq] at hv
                obtain ⟨rfl, _, rfl⟩ := hv
                have hblk : ∀ q, q < w2.heap.size → some q ≠ (Value.slice (some ⟨gb, 0, none⟩) k c).ownBlock → w3.heap[q]? = w2.heap[q]? := fun q hq hne => (hg2.block q (by simp; omega) hne).trans (((Below.refl _ w2).alloc (Nat.le_refl _) _).block q hq)
                have hgxr : some gx ≠ (Value.slice (some ⟨gb, 0, none⟩) k c).ownBlock := fun e => by have := hrb.out gx e.symm; omega
                have X3 := Xd.of_block (hblk gx hgx2 hgxr)
                have hne2 : gx ≠ g2 := fun e => by
                  subst e
                  obtain ⟨y0, y1, y2, hy⟩ := Y3d.out
                  rw [← hblk gx hgx2 hgxr] at hy
                  have hc1 := OR2.cellAt (k * 3 + 1) (by omega)
                  rw [List.getElem?_append_right (by rw [flatR_len, HLk.out]; omega), flatR_len, HLk.out, Nat.add_sub_cancel_left, cell_of_row w3 gx (k * 3 + 1) _ _ (0, 0) hy] at hc1
                  rcases Nat.eq_zero_or_pos k with h0 | h0
                  · subst h0
                    have h2 := X3.c1
                    rw [cell_of_row w3 gx (0 + 1) _ _ (0, 0) hy] at h2
                    simp at hc1 h2
                    rw [hc1] at h2
                    simp at h2
                  · obtain ⟨t, rfl⟩ : ∃ t, k = t + 1 := ⟨k - 1, by omega⟩
                    have : (#[y0, y1, y2] : Array Value)[(t + 1) * 3 + 1]? = none := by simp; omega
                    rw [this] at hc1
                    simp at hc1
                have KP3 : ∀ q, IntB w2 q → w3.heap[q]? = w2.heap[q]? ∧ q ≠ g2 := fun q h => by
                  have h1 := hblk q h.lt (apart3 ORd h)
                  refine ⟨h1, fun e => ?_⟩
                  have h2 := apart3 OR2 (h.keep h1)
                  rw [e] at h2
                  exact h2 rfl
                have HK3 : Hid _ := KP3
                have HX3 : Hid _ := X3
                have BB3 : Below w.heap.size w w3 := (B1.trans (BQd.mono hw1)).trans (((Below.refl _ w2).alloc (by omega) _).trans B2)
                have hpk1 : (p : Int) + 1 ≤ (k : Int) + 1 := by omega
                have hpk2 : (p : Int) ≤ (k : Int) + 1 := by omega
                have hpz : (0 : Int) ≤ (p : Int) + 1 := by omega
                have hkc2 : (k : Int) + 1 ≤ (c2 : Int) := by omega
                have hpc1 : (p : Int) + 1 ≤ (c2 : Int) := by omega
                have hpc2 : (p : Int) ≤ (c2 : Int) := by omega
                have hwp : IntKind.i64.wrap ((p : Int) + 1) = (p : Int) + 1 := IntWalk.i64_in _ (by omega)
                have HO2 : Hid _ := OR2
                clear hg2 B2 OR2 KP3 X3 hblk
                have hone : ∀ u ∈ flatR N L ++ [Value.int .i64 0, .bool false, .slice none 0 0], u.oneCell' = true := fun u hu => by
                  rcases List.mem_append.1 hu with h | h
                  · exact flatR_one N L u h
                  · simp at h
                    rcases h with rfl | rfl | rfl <;> rfl
                have hsz3 : (Tryz.prog.info? 138).map (·.size) = some 3 := by rw [hi]; simp [hz1]
                have hcp1 : ¬ (c2 : Int) = (p : Int) + 1 := by omega
                have hcp2 : ¬ (c2 : Int) = (p : Int) := by omega
                have hcp3 : ¬ c2 = p + 1 := by omega
                have hcp4 : ¬ c2 = p := by omega
                go_wp2_with fail
                go_region_held3 (fun _ => True) (trivial)
                  (first | (refine step_copy3 rfl (.tmp 53) (.tmp 56) 135 135 rfl 138 Tryz.underlying135 hsz3 _ _ _ _ _ _ rfl rfl g2 p (k + 1) c2 w.heap.size (k - p) _ (World.ownsRow.drew HO2.out) (by first | omega | (simp [Nat.min_def]; omega)) (by omega) (by intro _; exact ⟨rfl, rfl⟩) hone ?_; intro w4 HO4 hg4))
                have HX4 : R3At N w4 gx 0 ⟨(v : Int), true, gc⟩ := (show R3At N w3 gx 0 ⟨(v : Int), true, gc⟩ from HX3.out).of_block (hg4.block gx (by have := hg2l; have := (show R3At N w3 gx 0 ⟨(v : Int), true, gc⟩ from HX3.out).lt; exact this) (by simpa using hne2))
                have x0c := HX4.c0
                have x1c := HX4.c1
                have x2c := HX4.c2
                simp only [Nat.zero_add] at x1c x2c
                obtain ⟨y0, y1, y2, d0, d1, d2⟩ := ins_there (p := p) (N := N) hp HO4.out
                have f0 := World.ownsRow.frozenAt HO4.out (p * 3)
                have f1 := World.ownsRow.frozenAt HO4.out (p * 3 + 1)
                have f2 := World.ownsRow.frozenAt HO4.out (p * 3 + 2)
                have HST5 := ins_stored HLk.out hp rfl ⟨(v : Int), true, gc⟩ HO4.out
                have H5 : Hid _ := HST5
                clear HST5 HX4 hone hsz3 HO2 HO4
                go_wp2_with fail
                obtain ⟨O6, g6⟩ := H5.out
                have keep5 : ∀ q, IntB W1 q → _ = _ := fun q h => leaves_keep BQd HK3.out hg4 g6 h
                have M5 := leaves_mean (zs := zs) (i := i) (v := v) (p := p) (gc := gc) HVJ.out hv0 hp HLk.out HM1.out.1 (fun x hx => keep5 _ (HM1.out.2 x hx)) HSG.out (keep5 gc IG1) HP.out HEX.out
                have I5 : ∀ x ∈ L.take p ++ (⟨(v : Int), true, gc⟩ : Rm) :: L.drop p, IntB _ x.gc := fun x hx => by
                  rcases List.mem_append.1 hx with h | h
                  · exact (HM1.out.2 x (List.mem_of_mem_take h)).keep (keep5 _ (HM1.out.2 x (List.mem_of_mem_take h)))
                  · rcases List.mem_cons.1 h with h | h
                    · subst h; exact IG1.keep (keep5 gc IG1)
                    · exact (HM1.out.2 x (List.mem_of_mem_drop h)).keep (keep5 _ (HM1.out.2 x (List.mem_of_mem_drop h)))
                go_roundw
                case rel =>
                  refine ⟨i + 1, k + 1, c2, some ⟨g2, 0, none⟩, L.take p ++ (⟨(v : Int), true, gc⟩ : Rm) :: L.drop p, by omega, by omega, by go_num, rfl, ?_, O6, ?_, (⟨M5, I5⟩ : _ ∧ _)⟩
                  · show _ = _
                    have := HLk.out
                    simp only [List.length_append, List.length_take, List.length_cons, List.length_drop]
                    omega
                  · exact (BB3.drew.trans (below_of_grown hg4 hg2b (by have := BB3.size; simpa using this))).trans (below_of_grown g6 hg2b (by have h7 := hg4.size; have := BB3.size; simp at h7; omega))
                case measure => simp [intOf]; omega
            · have hpi : ¬ (p : Int) < (k : Int) := by omega
              have HPE : Hid (p = k) := by show _ = _; omega
              have HEX : Hid (p = (LFk zs i).length ∨ v < ((LFk zs i).getD p (0, 0)).1) := .inl (by have h1 := HM1.out.1.len; rw [itF_len] at h1; have := HLk.out; omega)
              go_wp2_with fail
              go_quiet (fail)
              have ORd : (wr.drewN nq).ownsRow w.heap.size 138 3 (.slice b k c) k (flatR N L) := ORq
              have Xd : R3At N (wr.drewN nq) gx 0 ⟨(v : Int), true, gc⟩ := Xq.of_block rfl
              have BQd : Below W1.heap.size W1 (wr.drewN nq) := below_drewN BQ nq
              have Y3d : Hid (∃ y0 y1 y2, (wr.drewN nq).heap[gx]? = some (.cells #[y0, y1, y2] 138 (0, 0))) := Yq
              clear ORq Xq BQ Yq xa xb xc
              generalize wr.drewN nq = w2 at *
              have hs2 : W1.heap.size ≤ w2.heap.size := BQd.size
              have hw1 : w.heap.size ≤ W1.heap.size := B1.size
              have hgx2 : gx < w2.heap.size := by omega
              go_wp2_with (at_builtin; refine wpList_app3 rfl (.tmp 46) (.tmp 48) 135 rfl w.heap.size 138 i0 _ 40 Tryz.underlying135 hi hz0 hz1 hz2 rfl (ORd.alloc _) (r := [.int .i64 0, .bool false, .slice none 0 0]) rfl (by simp [Value.oneCell']) (new_cells3 w2 _ _ _ _) rfl rfl (by omega) (by omega) (by simp; omega) ?_; intro b2 c2 w3 OR2 hg2 B2)
              obtain ⟨g2, c2', hv, hkc, hg2b, hg2l⟩ := own_shape3 OR2 (by omega)
              simp only [Value.slice.injEq] at hv
              obtain ⟨rfl, _, rfl⟩ := hv
              have hblk : ∀ q, q < w2.heap.size → some q ≠ (Value.slice b k c).ownBlock → w3.heap[q]? = w2.heap[q]? := fun q hq hne => (hg2.block q (by simp; omega) hne).trans (((Below.refl _ w2).alloc (Nat.le_refl _) _).block q hq)
              have hgxr : some gx ≠ (Value.slice b k c).ownBlock := fun e => by have := hrb.out gx e.symm; omega
              have X3 := Xd.of_block (hblk gx hgx2 hgxr)
              have hne2 : gx ≠ g2 := fun e => by
                subst e
                obtain ⟨y0, y1, y2, hy⟩ := Y3d.out
                rw [← hblk gx hgx2 hgxr] at hy
                have hc1 := OR2.cellAt (k * 3 + 1) (by omega)
                rw [List.getElem?_append_right (by rw [flatR_len, HLk.out]; omega), flatR_len, HLk.out, Nat.add_sub_cancel_left, cell_of_row w3 gx (k * 3 + 1) _ _ (0, 0) hy] at hc1
                rcases Nat.eq_zero_or_pos k with h0 | h0
                · subst h0
                  have h2 := X3.c1
                  rw [cell_of_row w3 gx (0 + 1) _ _ (0, 0) hy] at h2
                  simp at hc1 h2
                  rw [hc1] at h2
                  simp at h2
                · obtain ⟨t, rfl⟩ : ∃ t, k = t + 1 := ⟨k - 1, by omega⟩
                  have : (#[y0, y1, y2] : Array Value)[(t + 1) * 3 + 1]? = none := by simp; omega
                  rw [this] at hc1
                  simp at hc1
              have KP3 : ∀ q, IntB w2 q → w3.heap[q]? = w2.heap[q]? ∧ q ≠ g2 := fun q h => by
                have h1 := hblk q h.lt (apart3 ORd h)
                refine ⟨h1, fun e => ?_⟩
                have h2 := apart3 OR2 (h.keep h1)
                rw [e] at h2
                exact h2 rfl
              have HK3 : Hid _ := KP3
              have HX3 : Hid _ := X3
              have BB3 : Below w.heap.size w w3 := (B1.trans (BQd.mono hw1)).trans (((Below.refl _ w2).alloc (by omega) _).trans B2)
              have hpk1 : (p : Int) + 1 ≤ (k : Int) + 1 := by omega
              have hpk2 : (p : Int) ≤ (k : Int) + 1 := by omega
              have hpz : (0 : Int) ≤ (p : Int) + 1 := by omega
              have hkc2 : (k : Int) + 1 ≤ (c2 : Int) := by omega
              have hpc1 : (p : Int) + 1 ≤ (c2 : Int) := by omega
              have hpc2 : (p : Int) ≤ (c2 : Int) := by omega
              have hwp : IntKind.i64.wrap ((p : Int) + 1) = (p : Int) + 1 := IntWalk.i64_in _ (by omega)
              have HO2 : Hid _ := OR2
              clear hg2 B2 OR2 KP3 X3 hblk
              have hone : ∀ u ∈ flatR N L ++ [Value.int .i64 0, .bool false, .slice none 0 0], u.oneCell' = true := fun u hu => by
                rcases List.mem_append.1 hu with h | h
                · exact flatR_one N L u h
                · simp at h
                  rcases h with rfl | rfl | rfl <;> rfl
              have hsz3 : (Tryz.prog.info? 138).map (·.size) = some 3 := by rw [hi]; simp [hz1]
              have hcp4 : ¬ c2 = p := by omega
              have hmz : Hid (k - p = 0) := by show _ = _; have := HPE.out; omega
              go_wp2_with fail
              go_region_held3 (fun _ => True) (trivial)
                (first | (refine step_copy3 rfl (.tmp 53) (.tmp 56) 135 135 rfl 138 Tryz.underlying135 hsz3 _ _ _ _ _ _ rfl rfl g2 p (k + 1) c2 w.heap.size (k - p) _ (World.ownsRow.drew HO2.out) (by first | omega | (simp [Nat.min_def]; omega)) (by omega) (by intro h0; have := hmz.out; omega) hone ?_; intro w4 HO4 hg4))
              have HX4 : R3At N w4 gx 0 ⟨(v : Int), true, gc⟩ := (show R3At N w3 gx 0 ⟨(v : Int), true, gc⟩ from HX3.out).of_block (hg4.block gx (by have := hg2l; have := (show R3At N w3 gx 0 ⟨(v : Int), true, gc⟩ from HX3.out).lt; exact this) (by simpa using hne2))
              have x0c := HX4.c0
              have x1c := HX4.c1
              have x2c := HX4.c2
              simp only [Nat.zero_add] at x1c x2c
              obtain ⟨y0, y1, y2, d0, d1, d2⟩ := ins_there (p := p) (N := N) hp HO4.out
              have f0 := World.ownsRow.frozenAt HO4.out (p * 3)
              have f1 := World.ownsRow.frozenAt HO4.out (p * 3 + 1)
              have f2 := World.ownsRow.frozenAt HO4.out (p * 3 + 2)
              have HST5 := ins_stored HLk.out hp rfl ⟨(v : Int), true, gc⟩ HO4.out
              have H5 : Hid _ := HST5
              clear HST5 HX4 hone hsz3 HO2 HO4
              go_wp2_with fail
              obtain ⟨O6, g6⟩ := H5.out
              have keep5 : ∀ q, IntB W1 q → _ = _ := fun q h => leaves_keep BQd HK3.out hg4 g6 h
              have M5 := leaves_mean (zs := zs) (i := i) (v := v) (p := p) (gc := gc) HVJ.out hv0 hp HLk.out HM1.out.1 (fun x hx => keep5 _ (HM1.out.2 x hx)) HSG.out (keep5 gc IG1) HP.out HEX.out
              have I5 : ∀ x ∈ L.take p ++ (⟨(v : Int), true, gc⟩ : Rm) :: L.drop p, IntB _ x.gc := fun x hx => by
                rcases List.mem_append.1 hx with h | h
                · exact (HM1.out.2 x (List.mem_of_mem_take h)).keep (keep5 _ (HM1.out.2 x (List.mem_of_mem_take h)))
                · rcases List.mem_cons.1 h with h | h
                  · subst h; exact IG1.keep (keep5 gc IG1)
                  · exact (HM1.out.2 x (List.mem_of_mem_drop h)).keep (keep5 _ (HM1.out.2 x (List.mem_of_mem_drop h)))
              go_roundw
              case rel =>
                refine ⟨i + 1, k + 1, c2, some ⟨g2, 0, none⟩, L.take p ++ (⟨(v : Int), true, gc⟩ : Rm) :: L.drop p, by omega, by omega, by go_num, rfl, ?_, O6, ?_, (⟨M5, I5⟩ : _ ∧ _)⟩
                · show _ = _
                  have := HLk.out
                  simp only [List.length_append, List.length_take, List.length_cons, List.length_drop]
                  omega
                · exact (BB3.drew.trans (below_of_grown hg4 hg2b (by have := BB3.size; simpa using this))).trans (below_of_grown g6 hg2b (by have h7 := hg4.size; have := BB3.size; simp at h7; omega))
              case measure => simp [intOf]; omega
    · obtain rfl : i = N := by omega
      go_wp2
      go_ret
      have hLk := HLk.out
      have hml := HML.out.1
      have e : LFk zs i = LFz zs := by unfold LFk LFz; rw [hN.out]
      rw [e] at hml
      exact ⟨b, c, L, by rw [hLk]; rfl, by rw [hml.len, itF_len], (by have := own_facts3 OR; rw [hLk]; exact this.1), own_RR OR hLk, hml, BR⟩
end Go.Proofs.YtcifalelnfeggaaGreatDoor
