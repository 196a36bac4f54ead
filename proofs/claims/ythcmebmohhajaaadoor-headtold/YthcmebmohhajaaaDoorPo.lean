import Derived.Test.YthcmebmohhajaaaDoorPg
import Derived.Test.YthcmebmohhajaaaDoorPb
import Derived.Test.YthcmebmohhajaaaDoorPn
import Derived.Test.YthcmebmohhajaaaDoorPk
import Derived.Lib.SmallJoins
import Derived.Test.YthcmebmohhajaaaDoorProg
import Derived.WalkKit
import Derived.WalkSpells
import Derived.BigQuiet
import Derived.BigRegion
import Derived.Deep.QuietTactic
import Derived.Deep.MidRow
import Derived.Deep.RegionHeld3
namespace Go.Proofs.YthcmebmohhajaaaDoor
open Go.RowKit
set_option linter.unusedVariables false

/-! Layer 8's helpers: Same, lend, alike. -/
theorem below_drewN8 {B : Nat} {w w' : World} (h : Below B w w') (n : Nat) : Below B w (w'.drewN n) := ⟨h.os, h.tape, h.output, h.size, h.block⟩
set_option maxRecDepth 100000 in
set_option maxHeartbeats 400000 in
theorem same8 (a b : Option Addr) (xs ys : List Int) (ca cb : Nat) (w : World) (hx : SegZ w a xs) (hy : SegZ w b ys) (hl : xs.length ≤ 9223372036854775807) (hl2 : ys.length ≤ 9223372036854775807) :
    Calls Tryd.prog 45 #[.slice a xs.length ca, .slice b ys.length cb] w fun e w' => e = .returned (.bool (xs == ys)) ∧ Below w.heap.size w w' := by
  go_enter Tryd.func45, Tryd.ntmps45
  go_wp2
  go_loopw [5] (fun ti wr => ∃ k : Nat, k ≤ xs.length ∧ k ≤ ys.length ∧ ti = .int .i64 k ∧ Hid (xs.take k = ys.take k) ∧ Below w.heap.size w wr) (fun ti _ => xs.length - (intOf ti).toNat)
  case atStart => exact ⟨0, Nat.zero_le _, Nat.zero_le _, rfl, (by simp : _ = _), Below.refl _ _⟩
  case round =>
    obtain ⟨k, hk, hk2, rfl, HE, hb⟩ := hrel
    have hx := hx.old hb
    have hy := hy.old hb
    by_cases h1 : k < xs.length
    · have h1i : (k : Int) < (xs.length : Int) := by omega
      by_cases h2 : k < ys.length
      · have h2i : (k : Int) < (ys.length : Int) := by omega
        obtain ⟨b1, o1, rfl, c1⟩ := hx.at_ k h1
        obtain ⟨b2, o2, rfl, c2⟩ := hy.at_ k h2
        have b1 := hx.bd k
        have b2 := hy.bd k
        have HT : Hid (xs.take (k + 1) = xs.take k ++ [xs.getD k 0] ∧ ys.take (k + 1) = ys.take k ++ [ys.getD k 0]) := ⟨take_snocZ h1, take_snocZ h2⟩
        have HN : Hid (xs.getD k 0 ≠ ys.getD k 0 → xs ≠ ys) := by
          intro hne e; rw [e] at hne; exact hne rfl
        generalize xs.getD k 0 = z1 at *
        generalize ys.getD k 0 = z2 at *
        by_cases hz : z1 = z2
        · subst hz
          go_wp2
          go_region
          go_wp2
          go_roundw
          case rel => exact ⟨k + 1, by omega, by omega, by go_num, (by rw [HT.out.1, HT.out.2, HE.out] : _ = _), hb.drew⟩
          case measure => simp [intOf]; omega
        · go_wp2
          go_region
          go_wp2
          go_ret
          exact ⟨by have := HN.out hz; simp [this], hb.drew⟩
      · have h2i : ¬ (k : Int) < (ys.length : Int) := by omega
        obtain rfl : k = ys.length := by omega
        have hlen : ¬ xs.length = ys.length := by omega
        have hne : xs ≠ ys := by intro e; rw [e] at hlen; exact hlen rfl
        go_wp2
        go_ret
        refine ⟨?_, hb⟩
        have : (xs == ys) = false := by simp [hne]
        rw [this]
        have : ¬ (xs.length : Int) = (ys.length : Int) := by omega
        simp [this]
    · have h1i : ¬ (k : Int) < (xs.length : Int) := by omega
      obtain rfl : k = xs.length := by omega
      go_wp2
      go_ret
      refine ⟨?_, hb⟩
      by_cases hlen : xs.length = ys.length
      · have : xs = ys := take_all_eq hlen (.inl rfl) HE.out
        subst this
        simp
      · have hne : xs ≠ ys := by intro e; rw [e] at hlen; exact hlen rfl
        have : (xs == ys) = false := by simp [hne]
        rw [this]
        have : ¬ (xs.length : Int) = (ys.length : Int) := by omega
        simp [this]
theorem snocR {R : List Rn8} {x : Nat} (h : x < R.length) : R.take (x + 1) = R.take x ++ [R.getD x ⟨0, 0⟩] := by
  rw [List.take_succ_eq_append_getElem h]; simp [List.getD, h]
def AlQ (xs ys : List Rn8) (w : World) (e : Ending) (w' : World) : Prop := ∃ r, e = .returned (.bool r) ∧ (r = true ↔ xs = ys) ∧ Below w.heap.size w w'
end Go.Proofs.YthcmebmohhajaaaDoor

namespace Go.Proofs.YthcmebmohhajaaaDoor
open Go.RowKit
set_option linter.unusedVariables false

/-! Layer 8's helpers: num, awake; a row of runs that is written over. -/
theorem runs_5555 : rns8 [5, 5, 5, 5] = [⟨5, 1⟩, ⟨16, 3⟩] ∧ rer8 [5, 5, 5, 5] = 0 := by
  have h : may8 [5, 5, 5, 5] := by decide
  unfold rns8 rer8
  rw [if_pos h, if_pos h]
  refine ⟨?_, rfl⟩
  simp [runs8, rung8, row8, pre8, rep8, sum8]
theorem seg_lit48 (w : World) (x0 x1 x2 x3 : Int) (h : ∀ z ∈ [x0, x1, x2, x3], -9223372036854775808 ≤ z ∧ z ≤ 9223372036854775807) : SegZ (w.alloc (.cells #[.int .i64 x0, .int .i64 x1, .int .i64 x2, .int .i64 x3] 3)) (some ⟨w.heap.size, 0, none⟩) [x0, x1, x2, x3] := by
  refine ⟨fun i hi => ⟨w.heap.size, 0, rfl, ?_⟩, getD_bdz h⟩
  simp only [List.length_cons, List.length_nil] at hi
  match i, hi with
  | 0, _ => simp
  | 1, _ => simp
  | 2, _ => simp
  | 3, _ => simp
set_option maxRecDepth 100000 in
set_option maxHeartbeats 1000000 in
theorem awake8 (w : World) (T : TabS w) : Calls Tryd.prog 8 #[] w fun e w' => e = .returned (.bool true) ∧ Below w.heap.size w w' := by
  have s1 := seg_lit48 w 5 5 5 5 (by intro z hz; simp at hz; omega)
  have C1 := pruns8 [5, 5, 5, 5] (some ⟨w.heap.size, 0, none⟩) 4 4 rfl (by omega) _ s1 (T.alloc _)
  unfold RsQ at C1
  rw [runs_5555.1, runs_5555.2] at C1
  go_enter Tryd.func8, Tryd.ntmps8
  go_wp2_with fail
  refine C1.mono ?_
  rintro e w1 ⟨b, c, rfl, O1, B1⟩
  have B0 : Below w.heap.size w w1 := ((Below.refl _ _).alloc (Nat.le_refl _) _).trans (B1.mono (by simp))
  have s2 := own_segN O1 rfl
  obtain ⟨b0, off, rfl, c0, c1⟩ := s2.at_ 0 (by simp)
  obtain ⟨b1, off1, e, c2, c3⟩ := s2.at_ 1 (by simp)
  cases e
  simp only [Nat.zero_mul, Nat.add_zero, List.getD_cons_zero, List.getD_cons_succ, Nat.one_mul] at c0 c1 c2 c3
  clear s2 O1 C1 s1 B1
  go_wp2_with fail
  go_ret
  exact ⟨rfl, B0⟩
/-- A store within a row of the call's own: it is still the call's own. -/
theorem own_set2 {w : World} {base n c g : Nat} {e : TypeId} {xs : List Value} (h : w.ownsRow base e 2 (.slice (some ⟨g, 0, none⟩) n c) n xs) (i : Nat) (v : Value) : ∃ xs', (w.setCell ⟨g, i, none⟩ v).ownsRow base e 2 (.slice (some ⟨g, 0, none⟩) n c) n xs' := by
  rcases h.2 with ⟨h1, _⟩ | ⟨g', cap, cur, h1, h2, h3, h4, h5, h6, h7⟩
  · simp at h1
  · simp only [Value.slice.injEq, Option.some.injEq, Addr.mk.injEq] at h1
    obtain ⟨⟨rfl, _⟩, _, rfl⟩ := h1
    have hb := Go.Joins.block_setCell h3 (i := i) v
    refine ⟨(cur.setIfInBounds i v).toList.take (n * 2), ?_, .inr ⟨g, c, _, rfl, h2, hb, h4, h5, by simpa using h6, rfl⟩⟩
    have : n * 2 ≤ cur.size := by rw [h6]; exact Nat.mul_le_mul_right 2 h4
    simp [List.length_take]
    omega
theorem own_cell2 {w : World} {base n c g : Nat} {e : TypeId} {xs : List Value} (h : w.ownsRow base e 2 (.slice (some ⟨g, 0, none⟩) n c) n xs) (j : Nat) (hj : j < n * 2) : (∃ v, w.cell? ⟨g, j, none⟩ = some v) ∧ w.frozen? ⟨g, j, none⟩ = false := by
  rcases h.2 with ⟨h1, _⟩ | ⟨g', cap, cur, h1, h2, h3, h4, h5, h6, h7⟩
  · simp at h1
  · simp only [Value.slice.injEq, Option.some.injEq, Addr.mk.injEq] at h1
    obtain ⟨⟨rfl, _⟩, _, rfl⟩ := h1
    have : j < cur.size := by rw [h6]; have := Nat.mul_le_mul_right 2 h4; omega
    exact ⟨⟨cur[j], by simp [World.cell?, h3, this]⟩, by simp [World.frozen?, h3]⟩
theorem own_shape2 {w : World} {base n : Nat} {e : TypeId} {v : Value} {xs : List Value} (h : w.ownsRow base e 2 v n xs) (hn : 0 < n) : ∃ g cap, v = .slice (some ⟨g, 0, none⟩) n cap ∧ n ≤ cap ∧ base ≤ g ∧ g < w.heap.size := by
  rcases h.2 with ⟨_, h0⟩ | ⟨g, cap, cur, h1, h2, h3, h4, _⟩
  · omega
  · exact ⟨g, cap, h1, h4, h2, (Array.getElem?_eq_some_iff.1 h3).1⟩
/-- A run behind a row of the call's own, whatever it holds. -/
theorem wpList_appNx {P : Program} {ops : Array Oper} {rest : List Oper} {o : Oper} {a : Act} {Q : Exit → Act → World → Prop} (hgd : o.guard = none) (s x : Operand) (t : TypeId)
    (ho : o.op = .call { callee := .builtin .append, args := #[s, x], argTypes := #[t, t] })
    (base : Nat) (e : TypeId) (i : TypeInfo) (z : Value) (bytes : Nat) (ht : P.underlying t = some (.slice e)) (hi : P.info? e = some i) (hz : i.zero = some z)
    (hsize : i.size = 2) (hby : i.bytes = bytes) (hzs : z.cells.size = 2) (w0 : World) (y : Rn8)
    {ra : Option Addr} {n rc : Nat} {xs : List Value} (hown : w0.ownsRow base e 2 (.slice ra n rc) n xs) (hs : a.eval s = .slice ra n rc) (hx : a.eval x = .slice (some ⟨w0.heap.size, 0, none⟩) 1 1)
    (h63 : n + 1 ≤ 140737488355328) (hbytes : (n + 1) * bytes ≤ 140737488355328) (hbase : base ≤ w0.heap.size)
    (h : ∀ (g : Nat) (c : Nat) (w' : World) (xs' : List Value), w'.ownsRow base e 2 (.slice (some ⟨g, 0, none⟩) (n + 1) c) (n + 1) xs' → Kp (fun k => (Value.slice ra n rc).ownBlock = some k) w0 w' → Fresh w0 (.slice ra n rc) (.slice (some ⟨g, 0, none⟩) (n + 1) c) → wpList P ops Q rest (a.put o.dst (.slice (some ⟨g, 0, none⟩) (n + 1) c)) w') : wpList P ops Q (o :: rest) a (w0.alloc (.cells #[.int .i64 y.sy, .int .i64 y.ct] e)) := by
  have hnew : ∀ j u, ([.int .i64 y.sy, .int .i64 y.ct] : List Value)[j]? = some u → (w0.alloc (.cells #[.int .i64 y.sy, .int .i64 y.ct] e)).cell? ((⟨w0.heap.size, 0, none⟩ : Addr).add j) = some u := by
    intro j u hu
    have hadd : (⟨w0.heap.size, 0, none⟩ : Addr).add j = ⟨w0.heap.size, j, none⟩ := by unfold Addr.add; split <;> simp_all
    rw [hadd]
    have hh := heap_alloc_new w0 (.cells #[.int .i64 y.sy, .int .i64 y.ct] e)
    simp only [World.cell?, hh]
    simpa using hu
  refine wpList_append_lies _ hgd s x t ho base e i z 2 bytes ht hi hz hsize hby hzs (by decide) _ n xs hs (hown.alloc _) ⟨w0.heap.size, 0, none⟩ 1 1 [.int .i64 y.sy, .int .i64 y.ct] hx rfl hnew (by intro u hu; simp only [List.mem_cons, List.not_mem_nil, or_false] at hu; rcases hu with rfl | rfl <;> rfl) (by decide) (by unfold maxLen; omega) hbytes (by simp; omega) (w0.heap.size + 1) (by simp) ?_
  intro g c w' h1 h2 h3 _
  refine h g c w' _ h1 ?_ ?_
  · exact (Kp.alloc w0 _).trans (Kp.grown (S := fun k => (Value.slice ra n rc).ownBlock = some k) h2 (fun i e => e)) (fun _ _ e => e)
  · intro k hk
    have hk' : k = g := by simpa [Value.ownBlock] using hk.symm
    subst hk'
    rcases h3 with h3 | h3
    · exact .inl h3
    · exact .inr (by omega)
end Go.Proofs.YthcmebmohhajaaaDoor

namespace Go.Proofs.YthcmebmohhajaaaDoor
open Go.RowKit
set_option linter.unusedVariables false

/-! Items: four cells. -/
structure Im where
  wt : Int
  sy : Int
  fs : Option Addr
  sn : Option Addr
def Im.val (x : Im) : Value := .agg #[.int .i64 x.wt, .int .i64 x.sy, .pointer x.fs, .pointer x.sn]
structure ItAt (w : World) (g o : Nat) (x : Im) : Prop where
  c0 : w.cell? ⟨g, o, none⟩ = some (.int .i64 x.wt)
  c1 : w.cell? ⟨g, o + 1, none⟩ = some (.int .i64 x.sy)
  c2 : w.cell? ⟨g, o + 2, none⟩ = some (.pointer x.fs)
  c3 : w.cell? ⟨g, o + 3, none⟩ = some (.pointer x.sn)
theorem ItAt.of_block {w w' : World} {g o : Nat} {x : Im} (h : ItAt w g o x) (hb : w'.heap[g]? = w.heap[g]?) : ItAt w' g o x :=
  ⟨(World.cell?_of_block (a := ⟨g, o, none⟩) hb).trans h.c0, (World.cell?_of_block (a := ⟨g, o + 1, none⟩) hb).trans h.c1, (World.cell?_of_block (a := ⟨g, o + 2, none⟩) hb).trans h.c2, (World.cell?_of_block (a := ⟨g, o + 3, none⟩) hb).trans h.c3⟩
theorem ItAt.lt {w : World} {g o : Nat} {x : Im} (h : ItAt w g o x) : g < w.heap.size := World.block_lt_of_cell? w _ h.c0
/-- A row of items. -/
structure RowAt (w : World) (g off n : Nat) (X : Nat → Im) : Prop where
  at_ : ∀ k, k < n → ItAt w g (off + k * 4) (X k)
theorem RowAt.of_block {w w' : World} {g off n : Nat} {X : Nat → Im} (h : RowAt w g off n X) (hb : w'.heap[g]? = w.heap[g]?) : RowAt w' g off n X := ⟨fun k hk => (h.at_ k hk).of_block hb⟩
theorem RowAt.drewN {w : World} {g off n : Nat} {X : Nat → Im} (h : RowAt w g off n X) (q : Nat) : RowAt (w.drewN q) g off n X := h.of_block rfl
/-- Four cells set. -/
def setIt (w : World) (g o : Nat) (x : Im) : World := (((w.setCell ⟨g, o, none⟩ (.int .i64 x.wt)).setCell ⟨g, o + 1, none⟩ (.int .i64 x.sy)).setCell ⟨g, o + 2, none⟩ (.pointer x.fs)).setCell ⟨g, o + 3, none⟩ (.pointer x.sn)

theorem sc_same {w : World} {g o : Nat} {v : Value} {u : Value} (h : w.cell? ⟨g, o, none⟩ = some u) : (w.setCell ⟨g, o, none⟩ v).cell? ⟨g, o, none⟩ = some v := World.cell?_setCell_same _ _ _ h
theorem sc_other {w : World} {g o p : Nat} {v : Value} (h : o ≠ p) : (w.setCell ⟨g, o, none⟩ v).cell? ⟨g, p, none⟩ = w.cell? ⟨g, p, none⟩ := World.cell?_setCell_other _ _ _ _ (by intro e; cases e; exact h rfl)
theorem setIt_same {w : World} {g o : Nat} {x y : Im} (h : ItAt w g o y) : ItAt (setIt w g o x) g o x := by
  unfold setIt
  refine ⟨?_, ?_, ?_, ?_⟩
  · rw [sc_other (by omega), sc_other (by omega), sc_other (by omega)]; exact sc_same h.c0
  · rw [sc_other (by omega), sc_other (by omega)]; exact sc_same (by rw [sc_other (by omega)]; exact h.c1)
  · rw [sc_other (by omega)]; exact sc_same (by rw [sc_other (by omega), sc_other (by omega)]; exact h.c2)
  · exact sc_same (by rw [sc_other (by omega), sc_other (by omega), sc_other (by omega)]; exact h.c3)
theorem setIt_cell {w : World} {g o p : Nat} {x : Im} (h : p < o ∨ o + 4 ≤ p) : (setIt w g o x).cell? ⟨g, p, none⟩ = w.cell? ⟨g, p, none⟩ := by
  unfold setIt
  rw [sc_other (by omega), sc_other (by omega), sc_other (by omega), sc_other (by omega)]
theorem setIt_other {w : World} {g o p : Nat} {x y : Im} (h : p + 4 ≤ o ∨ o + 4 ≤ p) (hy : ItAt w g p y) : ItAt (setIt w g o x) g p y :=
  ⟨by rw [setIt_cell (by omega)]; exact hy.c0, by rw [setIt_cell (by omega)]; exact hy.c1, by rw [setIt_cell (by omega)]; exact hy.c2, by rw [setIt_cell (by omega)]; exact hy.c3⟩
theorem setIt_grown (w : World) (g o : Nat) (x : Im) : w.grownBy (setIt w g o x) (some g) := grownBy_set (grownBy_set (grownBy_set (grownBy_set (World.grownBy.refl _ _) _) _) _) _
def upd (X : Nat → Im) (i : Nat) (x : Im) : Nat → Im := fun k => if k = i then x else X k
theorem RowAt.set {w : World} {g off n i : Nat} {X : Nat → Im} (h : RowAt w g off n X) (hi : i < n) (x : Im) : RowAt (setIt w g (off + i * 4) x) g off n (upd X i x) := by
  refine ⟨fun k hk => ?_⟩
  unfold upd
  by_cases e : k = i
  · subst e; rw [if_pos rfl]; exact setIt_same (h.at_ k hk)
  · rw [if_neg e]; exact setIt_other (by omega) (h.at_ k hk)
def swI (X : Nat → Im) (i j : Nat) : Nat → Im := upd (upd X i (X j)) j (X i)
theorem swI_at (X : Nat → Im) (i j k : Nat) : swI X i j k = if k = j then X i else if k = i then X j else X k := rfl
theorem RowAt.swap {w : World} {g off n i j : Nat} {X : Nat → Im} (h : RowAt w g off n X) (hi : i < n) (hj : j < n) : RowAt (setIt (setIt w g (off + i * 4) (X j)) g (off + j * 4) (X i)) g off n (swI X i j) := (h.set hi _).set hj _
theorem free_set {w : World} {g : Nat} (hf : ∀ k, w.frozen? ⟨g, k, none⟩ = false) (o : Nat) (v : Value) : ∀ k, (w.setCell ⟨g, o, none⟩ v).frozen? ⟨g, k, none⟩ = false := by
  intro k
  rw [← hf k]
  simp
theorem free_setIt {w : World} {g : Nat} (hf : ∀ k, w.frozen? ⟨g, k, none⟩ = false) (o : Nat) (x : Im) : ∀ k, (setIt w g o x).frozen? ⟨g, k, none⟩ = false := free_set (free_set (free_set (free_set hf _ _) _ _) _ _) _ _

end Go.Proofs.YthcmebmohhajaaaDoor

namespace Go.Proofs.YthcmebmohhajaaaDoor
set_option linter.unusedVariables false

/-! The stable sort, as moves of a row. -/
def lst (X : Nat → Im) (a b : Nat) : List Im := (List.range' a (b - a)).map X
/-- Y has within a .. b what X has there, and is X elsewhere. -/
def Pm (X Y : Nat → Im) (a b : Nat) : Prop := (lst Y a b).Perm (lst X a b) ∧ ∀ k, k < a ∨ b ≤ k → Y k = X k
theorem Pm.refl (X : Nat → Im) (a b : Nat) : Pm X X a b := ⟨List.Perm.refl _, fun _ _ => rfl⟩
theorem Pm.trans {X Y Z : Nat → Im} {a b : Nat} (h : Pm X Y a b) (k : Pm Y Z a b) : Pm X Z a b := ⟨k.1.trans h.1, fun i hi => (k.2 i hi).trans (h.2 i hi)⟩
theorem lst_split (X : Nat → Im) (a m b : Nat) (h1 : a ≤ m) (h2 : m ≤ b) : lst X a b = lst X a m ++ lst X m b := by
  unfold lst
  rw [← List.map_append]
  congr 1
  have e : b - a = (m - a) + (b - m) := by omega
  have e2 : a + (m - a) = m := by omega
  rw [e, ← List.range'_append_1, e2]
theorem lst_congr {X Y : Nat → Im} {a b : Nat} (h : ∀ k, a ≤ k → k < b → Y k = X k) : lst Y a b = lst X a b := by
  unfold lst
  apply List.map_congr_left
  intro k hk
  rw [List.mem_range'_1] at hk
  exact h k hk.1 (by omega)
theorem Pm.wide {X Y : Nat → Im} {a b a' b' : Nat} (h : Pm X Y a b) (h1 : a' ≤ a) (h2 : a ≤ b) (h3 : b ≤ b') : Pm X Y a' b' := by
  refine ⟨?_, fun k hk => h.2 k (by omega)⟩
  rw [lst_split Y a' a b' h1 (by omega), lst_split Y a b b' h2 h3, lst_split X a' a b' h1 (by omega), lst_split X a b b' h2 h3]
  rw [lst_congr (X := X) (Y := Y) (a := a') (b := a) (fun k _ hk => h.2 k (by omega)), lst_congr (X := X) (Y := Y) (a := b) (b := b') (fun k hk _ => h.2 k (by omega))]
  exact (h.1.append_right _).append_left _
theorem mem_lst {X : Nat → Im} {a b : Nat} {x : Im} : x ∈ lst X a b ↔ ∃ k, a ≤ k ∧ k < b ∧ X k = x := by
  unfold lst
  rw [List.mem_map]
  constructor
  · rintro ⟨k, hk, rfl⟩
    rw [List.mem_range'_1] at hk
    exact ⟨k, hk.1, by omega, rfl⟩
  · rintro ⟨k, h1, h2, rfl⟩
    exact ⟨k, by rw [List.mem_range'_1]; omega, rfl⟩
theorem Pm.mem {X Y : Nat → Im} {a b k : Nat} (h : Pm X Y a b) (h1 : a ≤ k) (h2 : k < b) : ∃ j, a ≤ j ∧ j < b ∧ Y k = X j := by
  obtain ⟨j, h3, h4, h5⟩ := mem_lst.1 (h.1.mem_iff.1 (mem_lst.2 ⟨k, h1, h2, rfl⟩))
  exact ⟨j, h3, h4, h5.symm⟩
theorem setp {α : Type} (d : α) : ∀ (l : List α) (i : Nat) (x : α), i < l.length → (l.getD i d :: l.set i x).Perm (x :: l)
  | [], _, _, h => by simp at h
  | z :: r, 0, x, _ => by simpa using List.Perm.swap x z r
  | z :: r, i + 1, x, h => by
    have := setp d r i x (by simpa using h)
    simp only [List.getD_cons_succ, List.set_cons_succ]
    exact (List.Perm.swap z (r.getD i d) (r.set i x)).trans ((this.cons z).trans (List.Perm.swap x z r))
theorem lst_get (X : Nat → Im) (a b k : Nat) (h : k < b - a) (d : Im) : (lst X a b).getD k d = X (a + k) := by
  unfold lst
  simp [List.getD, h]
theorem lst_get? (X : Nat → Im) (a b k : Nat) : (lst X a b)[k]? = if k < b - a then some (X (a + k)) else none := by
  unfold lst
  rw [List.getElem?_map]
  by_cases h : k < b - a
  · simp [h]
  · simp [h]
theorem lst_upd (X : Nat → Im) (a b i : Nat) (x : Im) (h1 : a ≤ i) (h2 : i < b) : lst (upd X i x) a b = (lst X a b).set (i - a) x := by
  apply List.ext_getElem?
  intro k
  have hl : (lst X a b).length = b - a := by simp [lst]
  rw [List.getElem?_set, lst_get?, lst_get?, hl]
  unfold upd
  by_cases e : i - a = k
  · rw [if_pos e, if_pos (show k < b - a by omega), if_pos (show a + k = i by omega), if_pos (by omega)]
  · rw [if_neg e]
    by_cases h : k < b - a
    · rw [if_pos h, if_pos h, if_neg (show ¬ a + k = i by omega)]
    · rw [if_neg h, if_neg h]
theorem Pm.swap (X : Nat → Im) {a b i j : Nat} (hi : a ≤ i) (hi2 : i < b) (hj : a ≤ j) (hj2 : j < b) : Pm X (swI X i j) a b := by
  refine ⟨?_, fun k hk => by rw [swI_at, if_neg (by omega), if_neg (by omega)]⟩
  unfold swI
  rw [lst_upd _ a b j _ hj hj2, lst_upd _ a b i _ hi hi2]
  have hl : (lst X a b).length = b - a := by simp [lst]
  have h1 := setp (X 0) (lst X a b) (i - a) (X j) (by omega)
  have h2 := setp (X 0) ((lst X a b).set (i - a) (X j)) (j - a) (X i) (by simp; omega)
  rw [lst_get X a b (i - a) (by omega)] at h1
  have e1 : a + (i - a) = i := by omega
  rw [e1] at h1
  have h3 : ((lst X a b).set (i - a) (X j)).getD (j - a) (X 0) = X j := by
    by_cases e : i - a = j - a
    · rw [← e]; simp [List.getD, hl, show i - a < b - a by omega]
    · have := lst_get X a b (j - a) (by omega) (X 0)
      have e2 : a + (j - a) = j := by omega
      rw [e2] at this
      rw [← this]
      simp [List.getD, e]
  rw [h3] at h2
  exact List.Perm.cons_inv (h2.trans h1)

def kl (x y : Im) : Prop := x.wt < y.wt ∨ (x.wt = y.wt ∧ x.sy < y.sy)
theorem kl_trans {x y z : Im} (h : kl x y) (k : kl y z) : kl x z := by unfold kl at *; omega
/-- In order, from a to b. -/
def so (X : Nat → Im) (a b : Nat) : Prop := ∀ i j, a ≤ i → i < j → j < b → kl (X i) (X j)
/-- What stands left of m has the lesser symbols. -/
def sep (X : Nat → Im) (a m b : Nat) : Prop := ∀ i j, a ≤ i → i < m → m ≤ j → j < b → (X i).sy < (X j).sy
theorem kl_of_wt {x y : Im} (h : x.sy < y.sy) (hw : ¬ y.wt < x.wt) : kl x y := by unfold kl; omega
/-- The item at m put in at j. -/
def insA (X : Nat → Im) (m j : Nat) : Nat → Im := fun k => if k < j then X k else if k = j then X m else if k ≤ m then X (k - 1) else X k
theorem insA_self (X : Nat → Im) (m : Nat) : insA X m m = X := by
  funext k
  unfold insA
  by_cases h1 : k < m
  · rw [if_pos h1]
  · rw [if_neg h1]
    by_cases h2 : k = m
    · rw [if_pos h2, h2]
    · rw [if_neg h2, if_neg (by omega)]
theorem insA_step (X : Nat → Im) (m j : Nat) (hj : 0 < j) (hm : j ≤ m) : swI (insA X m j) j (j - 1) = insA X m (j - 1) := by
  funext k
  rw [swI_at]
  unfold insA
  (repeat' split) <;> first | rfl | (exfalso; omega) | (congr 1; omega)
theorem insA_so {X : Nat → Im} {a m j : Nat} (h : so X a m) (h1 : a ≤ j) (h2 : j ≤ m) (hl : ∀ k, a ≤ k → k < j → kl (X k) (X m)) (hr : ∀ k, j ≤ k → k < m → kl (X m) (X k)) : so (insA X m j) a (m + 1) := by
  intro p q hp hpq hq
  unfold insA
  by_cases c1 : p < j
  · rw [if_pos c1]
    by_cases c2 : q < j
    · rw [if_pos c2]; exact h p q hp hpq (by omega)
    · rw [if_neg c2]
      by_cases c3 : q = j
      · rw [if_pos c3]; exact hl p hp c1
      · rw [if_neg c3, if_pos (by omega)]; exact h p (q - 1) hp (by omega) (by omega)
  · rw [if_neg c1, if_neg (show ¬ q < j by omega), if_neg (show ¬ q = j by omega), if_pos (show q ≤ m by omega)]
    by_cases c2 : p = j
    · rw [if_pos c2]; exact hr (q - 1) (by omega) (by omega)
    · rw [if_neg c2, if_pos (by omega)]; exact h (p - 1) (q - 1) (by omega) (by omega) (by omega)
/-- The item at a put in at j, further on. -/
def insU (X : Nat → Im) (a j : Nat) : Nat → Im := fun k => if k < a then X k else if k < j then X (k + 1) else if k = j then X a else X k
theorem insU_self (X : Nat → Im) (a : Nat) : insU X a a = X := by
  funext k
  unfold insU
  by_cases h1 : k < a
  · rw [if_pos h1]
  · rw [if_neg h1, if_neg h1]
    by_cases h2 : k = a
    · rw [if_pos h2, h2]
    · rw [if_neg h2]
theorem insU_step (X : Nat → Im) (a j : Nat) (hj : a ≤ j) : swI (insU X a j) j (j + 1) = insU X a (j + 1) := by
  funext k
  rw [swI_at]
  unfold insU
  by_cases h1 : k = j + 1
  · rw [if_pos h1, if_neg (by omega), if_neg (by omega), if_pos rfl, if_neg (by omega), if_neg (by omega), if_pos h1]
  · rw [if_neg h1]
    by_cases h2 : k = j
    · rw [if_pos h2, if_neg (by omega), if_neg (by omega), if_neg (by omega), if_neg (by omega), if_pos (by omega), h2]
    · rw [if_neg h2]
      by_cases h3 : k < a
      · rw [if_pos h3, if_pos h3]
      · rw [if_neg h3, if_neg h3]
        by_cases h4 : k < j
        · rw [if_pos h4, if_pos (by omega)]
        · rw [if_neg h4, if_neg h2, if_neg (by omega), if_neg h1]
theorem insU_so {X : Nat → Im} {a b j : Nat} (h : so X (a + 1) b) (h1 : a ≤ j) (h2 : j < b) (hl : ∀ k, a < k → k ≤ j → kl (X k) (X a)) (hr : ∀ k, j < k → k < b → kl (X a) (X k)) : so (insU X a j) a b := by
  intro p q hp hpq hq
  unfold insU
  rw [if_neg (show ¬ p < a by omega), if_neg (show ¬ q < a by omega)]
  by_cases c1 : p < j
  · rw [if_pos c1]
    by_cases c2 : q < j
    · rw [if_pos c2]; exact h (p + 1) (q + 1) (by omega) (by omega) (by omega)
    · rw [if_neg c2]
      by_cases c3 : q = j
      · rw [if_pos c3]; exact hl (p + 1) (by omega) (by omega)
      · rw [if_neg c3]; exact h (p + 1) q (by omega) (by omega) hq
  · rw [if_neg c1, if_neg (show ¬ q < j by omega), if_neg (show ¬ q = j by omega)]
    by_cases c2 : p = j
    · rw [if_pos c2]; exact hr q (by omega) hq
    · rw [if_neg c2]; exact h p q (by omega) hpq hq
/-! Runs that change places. -/
def swr (X : Nat → Im) (a b n : Nat) : Nat → Im := fun k => if a ≤ k ∧ k < a + n then X (b + (k - a)) else if b ≤ k ∧ k < b + n then X (a + (k - b)) else X k
theorem swr_zero (X : Nat → Im) (a b : Nat) : swr X a b 0 = X := by
  funext k
  unfold swr
  rw [if_neg (by omega), if_neg (by omega)]
theorem swr_step (X : Nat → Im) (a b n : Nat) (h : a + n < b) : swI (swr X a b n) (a + n) (b + n) = swr X a b (n + 1) := by
  funext k
  rw [swI_at]
  unfold swr
  by_cases h1 : k = b + n
  · rw [if_pos h1, if_neg (by omega), if_neg (by omega), if_neg (by omega), if_pos (by omega)]
    congr 1; omega
  · rw [if_neg h1]
    by_cases h2 : k = a + n
    · rw [if_pos h2, if_neg (by omega), if_neg (by omega), if_pos (by omega)]
      congr 1; omega
    · rw [if_neg h2]
      by_cases h3 : a ≤ k ∧ k < a + n
      · rw [if_pos h3, if_pos (by omega)]
      · rw [if_neg h3, if_neg (show ¬ (a ≤ k ∧ k < a + (n + 1)) by omega)]
        by_cases h4 : b ≤ k ∧ k < b + n
        · rw [if_pos h4, if_pos (by omega)]
        · rw [if_neg h4, if_neg (by omega)]
def rot (X : Nat → Im) (a m b : Nat) : Nat → Im := fun k => if a ≤ k ∧ k < a + (b - m) then X (k + (m - a)) else if a + (b - m) ≤ k ∧ k < b then X (k - (b - m)) else X k
theorem rot_more (X : Nat → Im) (m i j : Nat) (him : i ≤ m) (hj : 0 < j) (hij : j < i) : rot (swr X (m - i) m j) (m - (i - j)) m (m + j) = rot X (m - i) m (m + j) := by
  funext k
  unfold rot swr
  by_cases h1 : k < m - i
  · rw [if_neg (by omega), if_neg (by omega), if_neg (by omega), if_neg (by omega), if_neg (by omega), if_neg (by omega)]
  · by_cases h2 : k < m - i + j
    · rw [if_neg (show ¬ (m - (i - j) ≤ k ∧ k < m - (i - j) + (m + j - m)) by omega), if_neg (show ¬ (m - (i - j) + (m + j - m) ≤ k ∧ k < m + j) by omega), if_pos (by omega), if_pos (by omega)]
      congr 1; omega
    · by_cases h3 : k < m - (i - j) + j
      · rw [if_pos (by omega)]
        by_cases h4 : k + (m - (m - (i - j))) < m
        · rw [if_neg (by omega), if_neg (by omega), if_neg (by omega), if_pos (by omega)]
          congr 1; omega
        · rw [if_neg (by omega), if_pos (by omega), if_neg (by omega), if_pos (by omega)]
          congr 1; omega
      · by_cases h5 : k < m + j
        · rw [if_neg (by omega), if_pos (by omega)]
          rw [if_neg (show ¬ (m - i ≤ k ∧ k < m - i + (m + j - m)) by omega), if_pos (show m - i + (m + j - m) ≤ k ∧ k < m + j by omega)]
          by_cases h6 : k - (m + j - m) < m - i + j
          · omega
          · rw [if_neg (by omega), if_neg (by omega)]
        · rw [if_neg (by omega), if_neg (by omega), if_neg (by omega), if_neg (by omega), if_neg (by omega), if_neg (by omega)]
theorem rot_less (X : Nat → Im) (m i j : Nat) (him : i ≤ m) (hi : 0 < i) (hij : i < j) : rot (swr X (m - i) (m + j - i) i) (m - i) m (m + (j - i)) = rot X (m - i) m (m + j) := by
  funext k
  unfold rot swr
  by_cases h1 : k < m - i
  · rw [if_neg (by omega), if_neg (by omega), if_neg (by omega), if_neg (by omega), if_neg (by omega), if_neg (by omega)]
  · by_cases h2 : k < m - i + (j - i)
    · rw [if_pos (show m - i ≤ k ∧ k < m - i + (m + (j - i) - m) by omega)]
      rw [if_neg (by omega), if_neg (by omega), if_pos (by omega)]
    · by_cases h3 : k < m + (j - i)
      · rw [if_neg (show ¬ (m - i ≤ k ∧ k < m - i + (m + (j - i) - m)) by omega), if_pos (by omega)]
        rw [if_pos (by omega), if_pos (by omega)]
        congr 1; omega
      · by_cases h4 : k < m + j
        · rw [if_neg (by omega), if_neg (show ¬ (m - i + (m + (j - i) - m) ≤ k ∧ k < m + (j - i)) by omega), if_neg (by omega), if_pos (by omega)]
          rw [if_neg (by omega), if_pos (by omega)]
          congr 1; omega
        · rw [if_neg (by omega), if_neg (by omega), if_neg (by omega), if_neg (by omega), if_neg (by omega), if_neg (by omega)]
theorem rot_same (X : Nat → Im) (m i : Nat) (him : i ≤ m) : swr X (m - i) m i = rot X (m - i) m (m + i) := by
  funext k
  unfold rot swr
  by_cases h1 : m - i ≤ k ∧ k < m - i + i
  · rw [if_pos h1, if_pos (by omega)]; congr 1; omega
  · rw [if_neg h1, if_neg (show ¬ (m - i ≤ k ∧ k < m - i + (m + i - m)) by omega)]
    by_cases h2 : m ≤ k ∧ k < m + i
    · rw [if_pos h2, if_pos (by omega)]; congr 1; omega
    · rw [if_neg h2, if_neg (by omega)]
end Go.Proofs.YthcmebmohhajaaaDoor

namespace Go.Proofs.YthcmebmohhajaaaDoor
set_option linter.unusedVariables false

theorem so.le {X : Nat → Im} {a b i j : Nat} (h : so X a b) (hi : a ≤ i) (hij : i ≤ j) (hj : j < b) : i = j ∨ kl (X i) (X j) := by
  by_cases e : i = j
  · exact .inl e
  · exact .inr (h i j hi (by omega) hj)
theorem so.sub {X : Nat → Im} {a b a' b' : Nat} (h : so X a b) (h1 : a ≤ a') (h2 : b' ≤ b) : so X a' b' := fun i j hi hij hj => h i j (by omega) hij (by omega)
theorem kl_not {x y : Im} (h : kl x y) : ¬ kl y x := by unfold kl at *; omega
/-- Where both come from the two sides, the weights alone tell. -/
theorem wt_iff {x y : Im} (h : x.sy < y.sy) : y.wt < x.wt ↔ kl y x := by unfold kl; omega

/-- Where a search stands: below s the one, from r on the other. -/
def srch (t : Nat → Prop) (lo hi s r : Nat) : Prop := lo ≤ s ∧ s ≤ r ∧ r ≤ hi ∧ (∀ c, lo ≤ c → c < s → ¬ t c) ∧ ∀ c, r ≤ c → c < hi → t c
theorem srch_up {t : Nat → Prop} {lo hi s r c : Nat} (h : srch t lo hi s r) (hm : ∀ c c', lo ≤ c' → c' ≤ c → c < hi → t c' → t c) (h1 : s ≤ c) (h2 : c < r) (hc : ¬ t c) : srch t lo hi (c + 1) r := by
  obtain ⟨q1, q2, q3, q4, q5⟩ := h
  exact ⟨by omega, by omega, q3, fun d hd hd2 ht => hc (hm c d hd (by omega) (by omega) ht), q5⟩
theorem srch_down {t : Nat → Prop} {lo hi s r c : Nat} (h : srch t lo hi s r) (hm : ∀ c c', lo ≤ c' → c' ≤ c → c < hi → t c' → t c) (h1 : s ≤ c) (h2 : c < r) (hc : t c) : srch t lo hi s c := by
  obtain ⟨q1, q2, q3, q4, q5⟩ := h
  exact ⟨q1, h1, by omega, q4, fun d hd hd2 => hm d c (by omega) hd hd2 hc⟩

theorem rot_left (X : Nat → Im) (m b : Nat) : rot X m m b = X := by
  funext k
  unfold rot
  (repeat' split) <;> first | rfl | (exfalso; omega) | (congr 1; omega)
theorem rot_right (X : Nat → Im) (a m : Nat) : rot X a m m = X := by
  funext k
  unfold rot
  (repeat' split) <;> first | rfl | (exfalso; omega) | (congr 1; omega)

/-- The test of the search, c against its mirror. -/
def tst (X : Nat → Im) (p c : Nat) : Prop := (X (p - c)).wt < (X c).wt
structure Sy (X : Nat → Im) (a m b mid : Nat) : Prop where
  am : a < m
  mb : m < b
  mid1 : mid = (a + b) / 2
  l : so X a m
  r : so X m b
  s : sep X a m b
def slo (a m b mid : Nat) : Nat := if m > mid then mid + m - b else a
def shi (m mid : Nat) : Nat := if m > mid then mid else m
variable {X : Nat → Im} {a m b mid : Nat}
theorem Sy.bounds (h : Sy X a m b mid) : a ≤ slo a m b mid ∧ slo a m b mid ≤ shi m mid ∧ shi m mid ≤ m ∧ shi m mid ≤ mid ∧ ∀ c, slo a m b mid ≤ c → c < shi m mid → m ≤ mid + m - 1 - c ∧ mid + m - 1 - c < b ∧ a ≤ c ∧ c < m := by
  have := h.am; have := h.mb; have := h.mid1
  unfold slo shi
  split
  · refine ⟨by omega, by omega, by omega, by omega, fun c h1 h2 => ?_⟩
    omega
  · refine ⟨by omega, by omega, by omega, by omega, fun c h1 h2 => ?_⟩
    omega
theorem Sy.mono (h : Sy X a m b mid) : ∀ c c', slo a m b mid ≤ c' → c' ≤ c → c < shi m mid → tst X (mid + m - 1) c' → tst X (mid + m - 1) c := by
  intro c c' h1 h2 h3 ht
  obtain ⟨_, _, _, _, hb⟩ := h.bounds
  obtain ⟨p1, p2, p3, p4⟩ := hb c (by omega) h3
  obtain ⟨q1, q2, q3, q4⟩ := hb c' h1 (by omega)
  unfold tst at *
  have e1 := h.l.le q3 h2 p4
  have e2 := h.r.le (i := mid + m - 1 - c) (j := mid + m - 1 - c') p1 (by omega) q2
  have k1 : (X c').wt ≤ (X c).wt := by
    rcases e1 with e | e
    · rw [e]; exact Int.le_refl _
    · unfold kl at e; omega
  have k2 : (X (mid + m - 1 - c)).wt ≤ (X (mid + m - 1 - c')).wt := by
    rcases e2 with e | e
    · rw [e]; exact Int.le_refl _
    · unfold kl at e; omega
  omega
/-- Behind the turn: two sorted pairs, the left ones below the right ones. -/
theorem Sy.turned (h : Sy X a m b mid) {st : Nat} (hs : srch (tst X (mid + m - 1)) (slo a m b mid) (shi m mid) st st) :
    a ≤ st ∧ st ≤ mid ∧ st ≤ m ∧ m ≤ mid + m - st ∧ mid ≤ mid + m - st ∧ mid + m - st ≤ b ∧
    (so (rot X st m (mid + m - st)) a st ∧ so (rot X st m (mid + m - st)) st mid ∧ sep (rot X st m (mid + m - st)) a st mid) ∧
    (so (rot X st m (mid + m - st)) mid (mid + m - st) ∧ so (rot X st m (mid + m - st)) (mid + m - st) b ∧ sep (rot X st m (mid + m - st)) mid (mid + m - st) b) ∧
    ∀ i j, a ≤ i → i < mid → mid ≤ j → j < b → kl (rot X st m (mid + m - st) i) (rot X st m (mid + m - st) j) := by
  obtain ⟨b1, b2, b3, b4, hb⟩ := h.bounds
  obtain ⟨q1, _, q3, q4, q5⟩ := hs
  have ham := h.am; have hmb := h.mb; have hmid := h.mid1
  have hen : mid + m - st ≤ b := by
    unfold slo at q1
    split at q1
    · omega
    · omega
  have y1 : ∀ k, k < st → rot X st m (mid + m - st) k = X k := by
    intro k hk; unfold rot; rw [if_neg (by omega), if_neg (by omega)]
  have y2 : ∀ k, st ≤ k → k < mid → rot X st m (mid + m - st) k = X (k + (m - st)) := by
    intro k hk hk2; unfold rot; rw [if_pos (by omega)]
  have y3 : ∀ k, mid ≤ k → k < mid + m - st → rot X st m (mid + m - st) k = X (k - (mid + m - st - m)) := by
    intro k hk hk2; unfold rot; rw [if_neg (by omega), if_pos (by omega)]
  have y4 : ∀ k, mid + m - st ≤ k → rot X st m (mid + m - st) k = X k := by
    intro k hk; unfold rot; rw [if_neg (by omega), if_neg (by omega)]
  refine ⟨by omega, by omega, by omega, by omega, by omega, hen, ⟨?_, ?_, ?_⟩, ⟨?_, ?_, ?_⟩, ?_⟩
  · intro i j hi hij hj; rw [y1 i (by omega), y1 j hj]; exact h.l i j hi hij (by omega)
  · intro i j hi hij hj; rw [y2 i hi (by omega), y2 j (by omega) hj]; exact h.r _ _ (by omega) (by omega) (by omega)
  · intro i j hi hij hj hj2; rw [y1 i hij, y2 j hj hj2]; exact h.s _ _ hi (by omega) (by omega) (by omega)
  · intro i j hi hij hj; rw [y3 i hi (by omega), y3 j (by omega) hj]; exact h.l _ _ (by omega) (by omega) (by omega)
  · intro i j hi hij hj; rw [y4 i hi, y4 j (by omega)]; exact h.r _ _ (by omega) hij hj
  · intro i j hi hij hj hj2; rw [y3 i hi hij, y4 j hj]; exact h.s _ _ (by omega) (by omega) (by omega) hj2
  · intro i j hi hi2 hj hj2
    by_cases c1 : i < st
    · rw [y1 i c1]
      by_cases c2 : j < mid + m - st
      · rw [y3 j hj c2]; exact h.l _ _ hi (by omega) (by omega)
      · rw [y4 j (by omega)]
        have hlo : slo a m b mid < st := by
          unfold slo at q1 ⊢
          split at q1
          · rw [if_pos (by assumption)]; omega
          · rw [if_neg (by assumption)]; omega
        have ht := q4 (st - 1) (by omega) (by omega)
        obtain ⟨p1, p2, p3, p4⟩ := hb (st - 1) (by omega) (by omega)
        unfold tst at ht
        have e1 : mid + m - 1 - (st - 1) = mid + m - st := by omega
        rw [e1] at ht p1 p2
        have k0 : kl (X (st - 1)) (X (mid + m - st)) := kl_of_wt (h.s _ _ p3 p4 p1 p2) ht
        have k1 := h.l.le hi (show i ≤ st - 1 by omega) p4
        have k2 := h.r.le p1 (show mid + m - st ≤ j by omega) hj2
        have k3 : kl (X i) (X (mid + m - st)) := by
          rcases k1 with e | e
          · rw [e]; exact k0
          · exact kl_trans e k0
        rcases k2 with e | e
        · rw [← e]; exact k3
        · exact kl_trans k3 e
    · rw [y2 i (by omega) hi2]
      by_cases c2 : j < mid + m - st
      · rw [y3 j hj c2]
        have hhi : st < shi m mid := by
          unfold shi at q3 ⊢
          split at q3
          · rw [if_pos (by assumption)]; omega
          · rw [if_neg (by assumption)]; omega
        have ht := q5 st (Nat.le_refl _) hhi
        obtain ⟨p1, p2, p3, p4⟩ := hb st q1 hhi
        unfold tst at ht
        have k0 : kl (X (mid + m - 1 - st)) (X st) := (wt_iff (h.s _ _ p3 p4 p1 p2)).1 ht
        have k1 := h.r.le (i := i + (m - st)) (j := mid + m - 1 - st) (by omega) (by omega) p2
        have k2 := h.l.le (i := st) (j := j - (mid + m - st - m)) p3 (by omega) (by omega)
        have k3 : kl (X (i + (m - st))) (X st) := by
          rcases k1 with e | e
          · rw [e]; exact k0
          · exact kl_trans e k0
        rcases k2 with e | e
        · rw [← e]; exact k3
        · exact kl_trans k3 e
      · rw [y4 j (by omega)]; exact h.r _ _ (by omega) (by omega) hj2
/-- Two sorted halves, the left one below the right one. -/
theorem so_join {Y Z : Nat → Im} {a mid b : Nat} (h1 : a ≤ mid) (h2 : mid ≤ b) {Z1 : Nat → Im} (p1 : Pm Y Z1 a mid) (s1 : so Z1 a mid) (p2 : Pm Z1 Z mid b) (s2 : so Z mid b) (hc : ∀ i j, a ≤ i → i < mid → mid ≤ j → j < b → kl (Y i) (Y j)) : so Z a b := by
  intro i j hi hij hj
  by_cases c1 : j < mid
  · rw [p2.2 i (by omega), p2.2 j (by omega)]; exact s1 i j hi hij c1
  · by_cases c2 : i < mid
    · obtain ⟨i', a1, a2, a3⟩ := p1.mem hi c2
      obtain ⟨j', a4, a5, a6⟩ := p2.mem (k := j) (by omega) hj
      rw [p2.2 i (by omega), a3, a6, p1.2 j' (by omega)]
      exact hc i' j' a1 a2 a4 a5
    · exact s2 i j (by omega) hij hj
end Go.Proofs.YthcmebmohhajaaaDoor

namespace Go.Proofs.YthcmebmohhajaaaDoor
open Go.RowKit
set_option linter.unusedVariables false

def cmpZ (x y : Int) : Int := if x < y then -1 else if y < x then 1 else 0
def cmpV (x y : Im) : Int := cmpZ x.wt y.wt
theorem cmpV_neg (x y : Im) : cmpV x y < 0 ↔ x.wt < y.wt := by unfold cmpV cmpZ; (repeat' split) <;> omega
theorem cmpV_bd (x y : Im) : -1 ≤ cmpV x y ∧ cmpV x y ≤ 1 := by unfold cmpV cmpZ; (repeat' split) <;> omega
abbrev cmpF : Value := .func (.func 87) #[] #[]

set_option maxRecDepth 100000 in
theorem nan_any (x : Int) (w : World) : Calls Tryd.prog 99 #[.int .i64 x] w fun e w' => e = .returned (.bool false) ∧ w' = w := by
  go_enter Tryd.func99, Tryd.ntmps99
  go_wp2
  go_ret
  exact ⟨rfl, rfl⟩
set_option maxRecDepth 100000 in
theorem compare_any (x y : Int) (w : World) : Calls Tryd.prog 88 #[.int .i64 x, .int .i64 y] w fun e w' => e = .returned (.int .i64 (cmpZ x y)) ∧ w' = w := by
  unfold cmpZ
  go_enter Tryd.func88, Tryd.ntmps88
  by_cases h1 : x < y
  · rw [if_pos h1]
    go_wp2_with (go_at_call 99; refine (nan_any _ _).mono ?_; rintro e w' ⟨rfl, hw'⟩; subst w')
    go_ret
    exact ⟨rfl, rfl⟩
  · rw [if_neg h1]
    by_cases h2 : y < x
    · rw [if_pos h2]
      go_wp2_with (go_at_call 99; refine (nan_any _ _).mono ?_; rintro e w' ⟨rfl, hw'⟩; subst w')
      go_ret
      exact ⟨rfl, rfl⟩
    · rw [if_neg h2]
      go_wp2_with (go_at_call 99; refine (nan_any _ _).mono ?_; rintro e w' ⟨rfl, hw'⟩; subst w')
      go_ret
      exact ⟨rfl, rfl⟩
set_option maxRecDepth 100000 in
theorem cmp_any (x y : Im) (w : World) : Calls Tryd.prog 87 #[x.val, y.val] w fun e w' => e = .returned (.int .i64 (cmpV x y)) ∧ Below w.heap.size w w' := by
  obtain ⟨a0, a1, a2, a3⟩ := x
  obtain ⟨b0, b1, b2, b3⟩ := y
  unfold Im.val
  go_enter Tryd.func87, Tryd.ntmps87
  go_wp2_with fail
  refine (compare_any _ _ _).mono ?_
  rintro e w' ⟨rfl, hw'⟩
  subst w'
  go_wp2
  go_ret
  exact ⟨rfl, ((Below.refl _ _).alloc (Nat.le_refl _) _).alloc (by simp) _⟩
/-- The row that is sorted: its items, and that it may be written. -/
structure Sr (w : World) (g n : Nat) (X : Nat → Im) : Prop where
  row : RowAt w g 0 n X
  free : ∀ k, w.frozen? ⟨g, k, none⟩ = false
theorem Sr.it {w : World} {g n : Nat} {X : Nat → Im} (h : Sr w g n X) {k : Nat} (hk : k < n) : ItAt w g (k * 4) (X k) := by
  have := h.row.at_ k hk
  rwa [Nat.zero_add] at this
theorem Sr.old {w w' : World} {g n : Nat} {X : Nat → Im} (h : Sr w g n X) (hg : g < w.heap.size) (hb : Below w.heap.size w w') : Sr w' g n X :=
  ⟨h.row.of_block (hb.block g hg), fun k => by
    have e := hb.block g hg
    have := h.free k
    unfold World.frozen? at this ⊢
    rw [e]; exact this⟩
theorem Sr.drew {w : World} {g n : Nat} {X : Nat → Im} (h : Sr w g n X) : Sr w.drew g n X := ⟨h.row.of_block rfl, h.free⟩
theorem Sr.swap {w : World} {g n i j : Nat} {X : Nat → Im} (h : Sr w g n X) (hi : i < n) (hj : j < n) : Sr (setIt (setIt w g (i * 4) (X j)) g (j * 4) (X i)) g n (swI X i j) := by
  have := h.row.swap hi hj
  rw [Nat.zero_add, Nat.zero_add] at this
  exact ⟨this, free_setIt (free_setIt h.free _ _) _ _⟩
theorem swap_grown (w : World) (g i j : Nat) (x y : Im) : w.grownBy (setIt (setIt w g i x) g j y) (some g) := grownBy_trans (setIt_grown _ _ _ _) (setIt_grown _ _ _ _)
theorem grown_old {w w' : World} (h : Below w.heap.size w w') (row : Option Nat) : w.grownBy w' row := ⟨h.os, h.tape, h.output, h.size, fun i hi _ => h.block i hi⟩

set_option maxRecDepth 100000 in
set_option maxHeartbeats 2000000 in
theorem swapRange_any (g cap n a b c : Nat) (X : Nat → Im) (w : World) (h : Sr w g n X) (hab : a + c ≤ b) (hb : b + c ≤ n) (hl : n ≤ 100000) (f : Value) :
    Calls Tryd.prog 103 #[.slice (some ⟨g, 0, none⟩) n cap, .int .i64 a, .int .i64 b, .int .i64 c, f] w fun e w' => e = .returned (.tuple #[]) ∧ Sr w' g n (swr X a b c) ∧ w.grownBy w' (some g) ∧ Pm X (swr X a b c) a (b + c) := by
  go_enter Tryd.func103, Tryd.ntmps103
  go_wp2
  go_loopw [10] (fun ti wr => ∃ i : Nat, i ≤ c ∧ ti = .int .i64 (i : Int) ∧ Sr wr g n (swr X a b i) ∧ w.grownBy wr (some g) ∧ Hid (Pm X (swr X a b i) a (b + c))) (fun ti _ => c - (intOf ti).toNat)
  case atStart => exact ⟨0, Nat.zero_le _, rfl, by rw [swr_zero]; exact h, World.grownBy.refl _ _, (by rw [swr_zero]; exact Pm.refl _ _ _ : Pm _ _ _ _)⟩
  case round =>
    obtain ⟨i, hi, rfl, hS, hG, HP⟩ := hrel
    by_cases hic : i < c
    · have hici : (i : Int) < (c : Int) := by omega
      obtain ⟨p, hp⟩ : ∃ p, p = a + i := ⟨_, rfl⟩
      obtain ⟨q, hq⟩ : ∃ q, q = b + i := ⟨_, rfl⟩
      have HP2 : Hid (Pm X (swr X a b (i + 1)) a (b + c)) := by
        have h1 := HP.out.trans (Pm.swap (swr X a b i) (a := a) (b := b + c) (i := a + i) (j := b + i) (by omega) (by omega) (by omega) (by omega))
        rw [swr_step X a b i (by omega)] at h1
        exact h1
      have HS2 := hS.swap (i := p) (j := q) (by omega) (by omega)
      have HS3 : Hid (swI (swr X a b i) p q = swr X a b (i + 1)) := by show _ = _; rw [hp, hq]; exact swr_step X a b i (by omega)
      rw [HS3.out] at HS2
      have hpn : p < n := by omega
      have hqn : q < n := by omega
      have hpq : p ≠ q := by omega
      have rp : (a : Int) + (i : Int) = (p : Int) := by omega
      have rq : (b : Int) + (i : Int) = (q : Int) := by omega
      obtain ⟨x0, x1, x2, x3⟩ := hS.it hpn
      obtain ⟨y0, y1, y2, y3⟩ := hS.it hqn
      have HSS : Hid _ := HS2
      have HG := swap_grown wr g (p * 4) (q * 4) (swr X a b i q) (swr X a b i p)
      have HGG : Hid _ := HG
      clear HS2 HG hp hq
      have f0 := hS.free (p * 4); have f1 := hS.free (p * 4 + 1); have f2 := hS.free (p * 4 + 2); have f3 := hS.free (p * 4 + 3)
      have e0 := hS.free (q * 4); have e1 := hS.free (q * 4 + 1); have e2 := hS.free (q * 4 + 2); have e3 := hS.free (q * 4 + 3)
      clear hS
      generalize swr X a b i p = x at *
      generalize swr X a b i q = y at *
      have z0 : (p : Int) < (n : Int) := by omega
      have z1 : (q : Int) < (n : Int) := by omega
      go_wp2_with fail
      go_region
      go_wp2
      go_roundw
      case rel => exact ⟨i + 1, by omega, by go_num, (HSS.out).drew, grownBy_drew (grownBy_trans hG HGG.out), HP2.out⟩
      case measure => simp [intOf]; omega
    · obtain rfl : i = c := by omega
      go_wp2
      go_end0
      exact ⟨rfl, hS, hG, HP.out⟩

theorem mul4_lt {k n : Nat} (h : k < n) : k * 4 + 3 < n * 4 := by omega

end Go.Proofs.YthcmebmohhajaaaDoor
