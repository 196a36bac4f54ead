
import Derived.Test.YtfohapfdcdlpeaaLnMerge
import Derived.Test.YtfohapfdcdlpeaaLnLast
import Derived.Test.YtfohapfdcdlpeaaLnSeg
namespace Go.Proofs.Ytfohapfdcdlpeaa
open Go.RowKit
set_option linter.unusedVariables false

/-! The document's own items: three cells, the last a row of counts of its own. -/
theorem row_short (F : List It) (h : 1 ≤ F.length) : ∀ k, (row F k).length ≤ 2 * F.length - 1
  | 0 => by show F.length ≤ _; omega
  | k + 1 => by
    have := row_short F h k
    rw [row_len]
    omega
/-- What stands behind the first 2n - 2 items of a row is never taken. -/
theorem row_cut (F : List It) (h : 2 ≤ F.length) (k : Nat) : List.merge F (pk ((row F k).take (2 * F.length - 2))) leI = row F (k + 1) := by
  have h1 := row_short F (by omega) k
  have h2 : pk ((row F k).take (2 * F.length - 2)) = pk (row F k) := by
    by_cases c : 2 * F.length - 2 ≤ (row F k).length
    · have := pk_whole (row F k) (F.length - 1) (by omega) (by omega)
      rw [show 2 * (F.length - 1) = 2 * F.length - 2 by omega] at this
      exact this
    · rw [List.take_of_length_le (by omega)]
  rw [h2]
  rfl
/-- How often each symbol lies in a list. -/
def cnt (N : Nat) (l : List Nat) : List Int := (List.range N).map fun s => (l.count s : Int)
theorem cnt_len (N : Nat) (l : List Nat) : (cnt N l).length = N := by simp [cnt]
theorem cnt_get {N : Nat} (l : List Nat) {k : Nat} (h : k < N) : (cnt N l).getD k 0 = (l.count k : Int) := by
  simp [cnt, List.getD, h]

structure Rm where
  wt : Int
  lf : Bool
  gc : Nat
def rm0 : Rm := ⟨0, false, 0⟩
def Rm.cells (N : Nat) (x : Rm) : List Value := [.int .i64 x.wt, .bool x.lf, .slice (some ⟨x.gc, 0, none⟩) N N]
structure R3At (N : Nat) (w : World) (g o : Nat) (x : Rm) : Prop where
  c0 : w.cell? ⟨g, o, none⟩ = some (.int .i64 x.wt)
  c1 : w.cell? ⟨g, o + 1, none⟩ = some (.bool x.lf)
  c2 : w.cell? ⟨g, o + 2, none⟩ = some (.slice (some ⟨x.gc, 0, none⟩) N N)
theorem R3At.of_block {N : Nat} {w w' : World} {g o : Nat} {x : Rm} (h : R3At N w g o x) (hb : w'.heap[g]? = w.heap[g]?) : R3At N w' g o x :=
  ⟨(World.cell?_of_block (a := ⟨g, o, none⟩) hb).trans h.c0, (World.cell?_of_block (a := ⟨g, o + 1, none⟩) hb).trans h.c1, (World.cell?_of_block (a := ⟨g, o + 2, none⟩) hb).trans h.c2⟩
theorem R3At.lt {N : Nat} {w : World} {g o : Nat} {x : Rm} (h : R3At N w g o x) : g < w.heap.size := World.block_lt_of_cell? w _ h.c0
def flatR (N : Nat) (l : List Rm) : List Value := l.flatMap (Rm.cells N)
theorem flatR_len (N : Nat) (l : List Rm) : (flatR N l).length = l.length * 3 := by
  unfold flatR
  induction l with
  | nil => rfl
  | cons x r ih => simp [Rm.cells, ih]; omega
theorem flatR_get (N : Nat) : ∀ (l : List Rm) (k : Nat) (x : Rm), l[k]? = some x → (flatR N l)[k * 3]? = some (.int .i64 x.wt) ∧ (flatR N l)[k * 3 + 1]? = some (.bool x.lf) ∧ (flatR N l)[k * 3 + 2]? = some (.slice (some ⟨x.gc, 0, none⟩) N N)
  | [], k, x, h => by simp at h
  | y :: r, 0, x, h => by
    simp at h
    subst h
    simp [flatR, Rm.cells]
  | y :: r, k + 1, x, h => by
    have := flatR_get N r k x (by simpa using h)
    have e : flatR N (y :: r) = .int .i64 y.wt :: .bool y.lf :: .slice (some ⟨y.gc, 0, none⟩) N N :: flatR N r := rfl
    rw [e, show (k + 1) * 3 = k * 3 + 1 + 1 + 1 by omega]
    simpa [List.getElem?_cons_succ, show k * 3 + 1 + 1 + 1 + 1 = (k * 3 + 1) + 1 + 1 + 1 by omega] using this
theorem flatR_one (N : Nat) (l : List Rm) : ∀ u ∈ flatR N l, u.oneCell' = true := by
  intro u hu
  unfold flatR at hu
  obtain ⟨x, _, hx⟩ := List.mem_flatMap.1 hu
  unfold Rm.cells at hx
  simp only [List.mem_cons, List.not_mem_nil, or_false] at hx
  rcases hx with rfl | rfl | rfl <;> rfl
theorem flatR_app (N : Nat) (l r : List Rm) : flatR N (l ++ r) = flatR N l ++ flatR N r := by unfold flatR; rw [List.flatMap_append]
/-- Items that lie where a slice's address leads. -/
structure RR (N : Nat) (w : World) (a : Option Addr) (L : List Rm) : Prop where
  at_ : ∀ k, k < L.length → ∃ b off, a = some ⟨b, off, none⟩ ∧ R3At N w b (off + k * 3) (L.getD k rm0)
theorem RR.nil (N : Nat) (w : World) (a : Option Addr) : RR N w a [] := ⟨fun k h => by simp at h⟩
theorem RR.old {N : Nat} {w w' : World} {a : Option Addr} {L : List Rm} (h : RR N w a L) (hb : Below w.heap.size w w') : RR N w' a L :=
  ⟨fun k hk => by obtain ⟨b, off, ha, hi⟩ := h.at_ k hk; exact ⟨b, off, ha, hi.of_block (hb.block b hi.lt)⟩⟩
theorem RR.take {N : Nat} {w : World} {a : Option Addr} {L : List Rm} (h : RR N w a L) (m : Nat) : RR N w a (L.take m) := by
  refine ⟨fun k hk => ?_⟩
  simp at hk
  obtain ⟨b, off, ha, hi⟩ := h.at_ k (by omega)
  refine ⟨b, off, ha, ?_⟩
  have hm : k < m := by omega
  simpa [List.getD, hm] using hi
theorem RR.tail {N : Nat} {w : World} {b off : Nat} {x : Rm} {L : List Rm} (h : RR N w (some ⟨b, off, none⟩) (x :: L)) : RR N w (some ⟨b, off + 3, none⟩) L := by
  refine ⟨fun k hk => ?_⟩
  obtain ⟨b', off', e, hi⟩ := h.at_ (k + 1) (by simp; omega)
  cases e
  refine ⟨b, off + 3, rfl, ?_⟩
  have e1 : off + 3 + k * 3 = off + (k + 1) * 3 := by omega
  rw [e1]
  simpa [List.getD] using hi
theorem own_facts3 {w : World} {base n cap : Nat} {e : TypeId} {b : Option Addr} {xs : List Value} (h : w.ownsRow base e 3 (.slice b n cap) n xs) : n ≤ cap ∧ (b = none → cap = 0) ∧ ∀ x, b = some x → base ≤ x.block ∧ x.block < w.heap.size := by
  rcases h.2 with ⟨h1, h2⟩ | ⟨g, cp, cur, h1, h2, h3, h4, _⟩
  · simp only [Value.slice.injEq] at h1
    obtain ⟨rfl, _, rfl⟩ := h1
    exact ⟨by omega, (fun _ => rfl), (fun x h => by cases h)⟩
  · simp only [Value.slice.injEq] at h1
    obtain ⟨rfl, _, rfl⟩ := h1
    exact ⟨h4, (fun h => by cases h), (fun x h => by cases h; exact ⟨h2, (Array.getElem?_eq_some_iff.1 h3).1⟩)⟩
theorem own_shape3 {w : World} {base n : Nat} {e : TypeId} {v : Value} {xs : List Value} (h : w.ownsRow base e 3 v n xs) (hn : 0 < n) : ∃ g cap, v = .slice (some ⟨g, 0, none⟩) n cap ∧ n ≤ cap ∧ base ≤ g ∧ g < w.heap.size := by
  rcases h.2 with ⟨_, h0⟩ | ⟨g, cap, cur, rfl, hg, hh, hc, _⟩
  · omega
  · exact ⟨g, cap, rfl, hc, hg, (Array.getElem?_eq_some_iff.1 hh).1⟩
theorem own_RR {N : Nat} {w : World} {base n cap : Nat} {e : TypeId} {b : Option Addr} {L : List Rm} (h : w.ownsRow base e 3 (.slice b n cap) n (flatR N L)) (hl : L.length = n) : RR N w b L := by
  refine ⟨fun k hk => ?_⟩
  obtain ⟨g, c, hv, _⟩ := own_shape3 h (by omega)
  simp only [Value.slice.injEq] at hv
  obtain ⟨rfl, _, rfl⟩ := hv
  have hc : ∀ j u, (flatR N L)[j]? = some u → w.cell? ⟨g, j, none⟩ = some u := by
    intro j u hu
    have := h.cells (g := g) rfl j u hu
    have hadd : (⟨g, 0, none⟩ : Addr).add j = ⟨g, j, none⟩ := by unfold Addr.add; split <;> simp_all
    rwa [hadd] at this
  have hg : L[k]? = some (L.getD k rm0) := by simp [List.getD, show k < L.length by omega]
  obtain ⟨q0, q1, q2⟩ := flatR_get N L k _ hg
  exact ⟨g, 0, rfl, by rw [Nat.zero_add]; exact ⟨hc _ _ q0, hc _ _ q1, hc _ _ q2⟩⟩
/-- An item behind a row of the call's own. -/
theorem wpList_app3 {P : Program} {ops : Array Oper} {rest : List Oper} {o : Oper} {a : Act} {Q : Exit → Act → World → Prop} (hgd : o.guard = none) (s x : Operand) (t : TypeId)
    (ho : o.op = .call { callee := .builtin .append, args := #[s, x], argTypes := #[t, t] })
    (base : Nat) (e : TypeId) (i : TypeInfo) (z : Value) (bytes : Nat) (ht : P.underlying t = some (.slice e)) (hi : P.info? e = some i) (hz : i.zero = some z)
    (hsize : i.size = 3) (hby : i.bytes = bytes) (hzs : z.cells.size = 3)
    {w : World} {ra : Option Addr} {n rc : Nat} {xs : List Value} (hown : w.ownsRow base e 3 (.slice ra n rc) n xs) {ad : Addr} {cap : Nat} {r : List Value} (hl : r.length = 3) (hone : ∀ u ∈ r, u.oneCell' = true) (hnews : ∀ j u, r[j]? = some u → w.cell? (ad.add j) = some u)
    (hs : a.eval s = .slice ra n rc) (hx : a.eval x = .slice (some ad) 1 cap)
    (h63 : n + 1 ≤ 140737488355328) (hbytes : (n + 1) * bytes ≤ 140737488355328) (hbase : base ≤ w.heap.size)
    (h : ∀ (b : Option Addr) (c : Nat) (w' : World), w'.ownsRow base e 3 (.slice b (n + 1) c) (n + 1) (xs ++ r) → w.grownBy w' (Value.slice ra n rc).ownBlock → Below base w w' → wpList P ops Q rest (a.put o.dst (.slice b (n + 1) c)) w') : wpList P ops Q (o :: rest) a w := by
  refine wpList_append_own _ hgd s x t ho base e i z 3 bytes ht hi hz hsize hby hzs (by decide) _ n xs hs hown ad 1 cap r hx (by rw [hl]) hnews hone (by unfold maxLen; omega) hbytes hbase ?_
  intro v' w' h1 h2 _
  obtain ⟨b, c, rfl⟩ : ∃ b c, v' = .slice b (n + 1) c := by
    rcases h1.2 with ⟨rfl, h0⟩ | ⟨g, cp, cur, rfl, _⟩
    · exact ⟨none, 0, by rw [h0]⟩
    · exact ⟨_, _, rfl⟩
  exact h b c w' h1 h2 ((Below.refl _ _).grown h2 hbase (fun k hk => (hown.lt k hk).1))
theorem new_cells3 (w : World) (x y z : Value) (t : TypeId) : ∀ j u, ([x, y, z] : List Value)[j]? = some u → (w.alloc (.cells #[x, y, z] t)).cell? ((⟨w.heap.size, 0, none⟩ : Addr).add j) = some u := by
  intro j u hu
  have hadd : (⟨w.heap.size, 0, none⟩ : Addr).add j = ⟨w.heap.size, j, none⟩ := by unfold Addr.add; split <;> simp_all
  rw [hadd]
  have hh := heap_alloc_new w (.cells #[x, y, z] t)
  simp only [World.cell?, hh]
  simpa using hu
theorem info_item3 : (Try.prog.info? 38).map (fun i => (i.zero, i.size, i.bytes)) = some (some (.agg #[.int .i64 0, .bool false, .slice none 0 0]), 3, 40) := by kernel_rfl
/-- What the document's items mean: their weight, and how often each symbol lies in them. -/
structure M3 (N : Nat) (w : World) (L : List Rm) (ts : List It) : Prop where
  len : L.length = ts.length
  wt : ∀ k, k < L.length → (L.getD k rm0).wt = ((ts.getD k it0).1 : Int)
  seg : ∀ k, k < L.length → SegZ w (some ⟨(L.getD k rm0).gc, 0, none⟩) (cnt N (ts.getD k it0).2)
theorem M3.old {N : Nat} {w w' : World} {L : List Rm} {ts : List It} (h : M3 N w L ts) (hb : Below w.heap.size w w') : M3 N w' L ts := ⟨h.len, h.wt, fun k hk => (h.seg k hk).old hb⟩
theorem M3.nil (N : Nat) (w : World) : M3 N w [] [] := ⟨rfl, fun k h => by simp at h, fun k h => by simp at h⟩
theorem M3.app {N : Nat} {w : World} {L M : List Rm} {ts us : List It} (h : M3 N w L ts) (k : M3 N w M us) : M3 N w (L ++ M) (ts ++ us) := by
  have key : ∀ i, i < (L ++ M).length → ∃ x t, (L ++ M).getD i rm0 = x ∧ (ts ++ us).getD i it0 = t ∧ x.wt = (t.1 : Int) ∧ SegZ w (some ⟨x.gc, 0, none⟩) (cnt N t.2) := by
    intro i hi
    by_cases c : i < L.length
    · have e1 : (L ++ M).getD i rm0 = L.getD i rm0 := by simp [List.getD, List.getElem?_append_left c]
      have e2 : (ts ++ us).getD i it0 = ts.getD i it0 := by simp [List.getD, List.getElem?_append_left (show i < ts.length by rw [← h.len]; exact c)]
      exact ⟨_, _, e1, e2, h.wt i c, h.seg i c⟩
    · have hl := h.len
      have e1 : (L ++ M).getD i rm0 = M.getD (i - L.length) rm0 := by simp [List.getD, List.getElem?_append_right (show L.length ≤ i by omega)]
      have e2 : (ts ++ us).getD i it0 = us.getD (i - L.length) it0 := by simp [List.getD, List.getElem?_append_right (show ts.length ≤ i by omega), hl]
      have hj : i - L.length < M.length := by simp at hi; omega
      exact ⟨_, _, e1, e2, k.wt _ hj, k.seg _ hj⟩
  refine ⟨by simp [h.len, k.len], fun i hi => ?_, fun i hi => ?_⟩
  · obtain ⟨x, t, rfl, rfl, q, _⟩ := key i hi; exact q
  · obtain ⟨x, t, rfl, rfl, _, q⟩ := key i hi; exact q
theorem M3.one {N : Nat} {w : World} {x : Rm} {t : It} (h : x.wt = (t.1 : Int)) (hs : SegZ w (some ⟨x.gc, 0, none⟩) (cnt N t.2)) : M3 N w [x] [t] := by
  refine ⟨rfl, fun k hk => ?_, fun k hk => ?_⟩
  · have : k = 0 := by simp at hk; omega
    subst this; exact h
  · have : k = 0 := by simp at hk; omega
    subst this; exact hs
theorem M3.tail {N : Nat} {w : World} {x : Rm} {t : It} {L : List Rm} {ts : List It} (h : M3 N w (x :: L) (t :: ts)) : M3 N w [x] [t] ∧ M3 N w L ts :=
  ⟨M3.one (h.wt 0 (by simp)) (h.seg 0 (by simp)), ⟨by have := h.len; simpa using this, fun k hk => by have := h.wt (k + 1) (by simp; omega); simpa [List.getD] using this, fun k hk => by have := h.seg (k + 1) (by simp; omega); simpa [List.getD] using this⟩⟩
theorem M3.take {N : Nat} {w : World} {L : List Rm} {ts : List It} (h : M3 N w L ts) (m : Nat) : M3 N w (L.take m) (ts.take m) := by
  refine ⟨by simp [h.len], fun k hk => ?_, fun k hk => ?_⟩
  · simp at hk
    have := h.wt k (by omega)
    have hm : k < m := by omega
    simpa [List.getD, hm] using this
  · simp at hk
    have := h.seg k (by omega)
    have hm : k < m := by omega
    simpa [List.getD, hm] using this
end Go.Proofs.Ytfohapfdcdlpeaa
