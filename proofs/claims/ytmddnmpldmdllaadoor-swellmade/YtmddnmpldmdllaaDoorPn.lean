import Derived.Test.YtmddnmpldmdllaaDoorPm
import Derived.Laws.Rows
import Derived.Laws.Tables
import Derived.Laws.CopyOwn
import Derived.Test.YtmddnmpldmdllaaDoorPd
import Derived.Deep.RegionHeld3
namespace Go.Proofs.YtmddnmpldmdllaaDoor
set_option linter.unusedVariables false

/-! Layer 8: the program's own way to runs: a length that stands there k times, run by run. -/
def led8 (v : Int) (k : Nat) (again : Bool) : Rn8 := if v = 0 ∧ 11 ≤ k then ⟨18, (min k 138 : Nat)⟩ else if v = 0 ∧ 3 ≤ k then ⟨17, (min k 10 : Nat)⟩ else if ¬ v = 0 ∧ again = true ∧ 3 ≤ k then ⟨16, (min k 6 : Nat)⟩ else ⟨v, 1⟩
theorem led8_ct (v : Int) {k : Nat} (hk : 1 ≤ k) (again : Bool) : 1 ≤ (led8 v k again).ct ∧ (led8 v k again).ct ≤ k := by
  unfold led8
  split
  · simp only; omega
  · split
    · simp only; omega
    · split
      · simp only; omega
      · simp only; omega
def spd8 : Nat → Int → Nat → Bool → List Rn8
  | 0, _, _, _ => []
  | f + 1, v, k, again => if k = 0 then [] else led8 v k again :: spd8 f v (k - (led8 v k again).ct.toNat) true
theorem spd8_fuel (v : Int) : ∀ (f g k : Nat) (again : Bool), k ≤ f → k ≤ g → spd8 f v k again = spd8 g v k again
  | 0, 0, k, again, _, _ => rfl
  | 0, g + 1, k, again, h, _ => by rw [spd8, spd8, if_pos (by omega)]
  | f + 1, 0, k, again, _, h => by rw [spd8, spd8, if_pos (by omega)]
  | f + 1, g + 1, k, again, h1, h2 => by
    rw [spd8, spd8]
    split
    · rfl
    · have := led8_ct v (k := k) (by omega) again
      rw [spd8_fuel v f g _ true (by omega) (by omega)]
theorem spd8_zero (f : Nat) (k : Nat) : spd8 f 0 k true = spd8 f 0 k false := by
  cases f with
  | zero => rfl
  | succ f =>
    have e : led8 0 k true = led8 0 k false := by simp [led8]
    rw [spd8, spd8, e]
theorem pre8_rep (v : Int) (rest : List Int) (hr : rest.head? ≠ some v) : ∀ k, pre8 v (List.replicate k v ++ rest) = k
  | 0 => by
    cases rest with
    | nil => rfl
    | cons x r =>
      have : ¬ x = v := fun e => hr (by simp [e])
      simp [pre8, this]
  | k + 1 => by
    rw [List.replicate_succ, List.cons_append, pre8, if_pos rfl, pre8_rep v rest hr k]
/-- A step of the document's runs at k lengths v. -/
theorem rung8_rep {v : Int} {rest : List Int} (hr : rest.head? ≠ some v) {k : Nat} (hk : 1 ≤ k) (f : Nat) (hf : k + rest.length ≤ f) :
    rung8 f (List.replicate k v ++ rest) = row8 v k ++ rung8 f (List.replicate (k - sum8 (row8 v k)) v ++ rest) := by
  obtain ⟨f, rfl⟩ : ∃ g, f = g + 1 := ⟨f - 1, by omega⟩
  obtain ⟨k, rfl⟩ : ∃ j, k = j + 1 := ⟨k - 1, by omega⟩
  have hs := row8_sum (v := v) hk
  have hp := pre8_rep v rest hr (k + 1)
  have hd : (List.replicate (k + 1) v ++ rest).drop (sum8 (row8 v (k + 1))) = List.replicate (k + 1 - sum8 (row8 v (k + 1))) v ++ rest := by
    rw [List.drop_append_of_le_length (by simpa using hs.2), List.drop_replicate]
  have e : List.replicate (k + 1) v ++ rest = v :: (List.replicate k v ++ rest) := by rw [List.replicate_succ, List.cons_append]
  rw [e] at hp hd
  rw [e, rung8, hp, hd, rung8_fuel f (f + 1) _ (by simp; omega) (by simp; omega)]
theorem led8_more {v : Int} (hv : ¬ v = 0) {j : Nat} (hj : 3 ≤ j) : led8 v j true = ⟨16, (min j 6 : Nat)⟩ := by unfold led8; simp [hv, hj]
theorem led8_less {v : Int} (hv : ¬ v = 0) {j : Nat} (hj : ¬ 3 ≤ j) (b : Bool) : led8 v j b = ⟨v, 1⟩ := by unfold led8; simp [hv, hj]
theorem led8_first {v : Int} (hv : ¬ v = 0) (j : Nat) : led8 v j false = ⟨v, 1⟩ := by unfold led8; simp [hv]
/-- What stands behind the first run of a length that is not nought. -/
theorem spd8_rep {v : Int} (hv : ¬ v = 0) : ∀ (f j : Nat), j ≤ f → spd8 f v j true = rep8 f j ++ spd8 f v (j - sum8 (rep8 f j)) true ∧ j - sum8 (rep8 f j) < 3
  | 0, j, h => by simp [spd8, rep8, sum8]; omega
  | f + 1, j, h => by
    rw [rep8]
    by_cases h3 : 3 ≤ j
    · rw [if_pos h3]
      obtain ⟨i1, i2⟩ := spd8_rep hv f (j - min j 6) (by omega)
      simp only [sum8, Int.toNat_natCast]
      have hss := rep8_sum f (j - min j 6)
      refine ⟨?_, by omega⟩
      conv => lhs; rw [spd8, if_neg (by omega), led8_more hv h3]
      simp only [Int.toNat_natCast]
      rw [i1, List.cons_append, show j - (min j 6 + sum8 (rep8 f (j - min j 6))) = j - min j 6 - sum8 (rep8 f (j - min j 6)) by omega, spd8_fuel v f (f + 1) _ true (by omega) (by omega)]
    · rw [if_neg h3]
      simp [sum8]
      omega
/-- Few lengths: one run each. -/
theorem rung8_few {v : Int} (hv : ¬ v = 0) {rest : List Int} (hr : rest.head? ≠ some v) (f : Nat) : ∀ (m : Nat), m < 3 → m + rest.length ≤ f → rung8 f (List.replicate m v ++ rest) = spd8 m v m true ++ rung8 f rest
  | 0, _, _ => by simp [spd8]
  | m + 1, hm, hf => by
    have hrow : row8 v (m + 1) = [⟨v, 1⟩] := by
      unfold row8
      rw [if_neg hv]
      have : rep8 (m + 1 - 1) (m + 1 - 1) = [] := by
        cases m with
        | zero => rfl
        | succ m => rw [show m + 1 + 1 - 1 = m + 1 by omega, rep8, if_neg (by omega)]
      rw [this]
    rw [rung8_rep hr (by omega) f hf, hrow]
    have e1 : sum8 [(⟨v, 1⟩ : Rn8)] = 1 := by simp [sum8]
    rw [e1, show m + 1 - 1 = m by omega, rung8_few hv hr f m (by omega) (by omega), spd8, if_neg (by omega), led8_less hv (by omega)]
    simp
/-- THE STRETCH: what the program lays down for k lengths v is what the document does. -/
theorem rung8_spd {v : Int} {rest : List Int} (hr : rest.head? ≠ some v) (f : Nat) : ∀ (k : Nat), k + rest.length ≤ f → rung8 f (List.replicate k v ++ rest) = spd8 k v k false ++ rung8 f rest := by
  intro k
  induction k using Nat.strongRecOn with
  | ind k ih =>
    intro hf
    by_cases hk : k = 0
    · subst hk; simp [spd8]
    · by_cases hv : v = 0
      · subst hv
        obtain ⟨j, rfl⟩ : ∃ j, k = j + 1 := ⟨k - 1, by omega⟩
        have hrow : row8 0 (j + 1) = [led8 0 (j + 1) false] := by
          unfold row8 led8
          by_cases h11 : 11 ≤ j + 1
          · simp [h11]
          · by_cases h3 : 3 ≤ j + 1
            · have : min (j + 1) 10 = j + 1 := by omega
              simp [h11, h3, this]
            · simp [h11, h3]
        have hct := led8_ct 0 (k := j + 1) (by omega) false
        rw [rung8_rep hr (by omega) f hf, hrow, spd8, if_neg (by omega)]
        have es : sum8 [led8 0 (j + 1) false] = (led8 0 (j + 1) false).ct.toNat := by simp [sum8]
        rw [es, ih _ (by omega) (by omega), spd8_zero, spd8_fuel 0 j (j + 1 - (led8 0 (j + 1) false).ct.toNat) _ false (by omega) (by omega)]
        simp
      · obtain ⟨j, rfl⟩ : ∃ j, k = j + 1 := ⟨k - 1, by omega⟩
        obtain ⟨s1, s2⟩ := spd8_rep hv j j (Nat.le_refl _)
        have hrow : row8 v (j + 1) = ⟨v, 1⟩ :: rep8 j j := by unfold row8; rw [if_neg hv]; rfl
        have es : sum8 (⟨v, 1⟩ :: rep8 j j) = 1 + sum8 (rep8 j j) := by simp [sum8]
        have hss := rep8_sum j j
        rw [rung8_rep hr (by omega) f hf, hrow, es, show j + 1 - (1 + sum8 (rep8 j j)) = j - sum8 (rep8 j j) by omega, rung8_few hv hr f _ s2 (by omega), spd8, if_neg (by omega), led8_first hv]
        have e1 : (1 : Int).toNat = 1 := rfl
        simp only [e1, Nat.add_sub_cancel]
        rw [s1, spd8_fuel v (j - sum8 (rep8 j j)) j _ true (by omega) (by omega)]
        simp
/-- At a place: the stretch there, and what stands behind. -/
theorem rung8_str {zs : List Int} {i : Nat} (h : i < zs.length) : rung8 (zs.length - i) (zs.drop i) = spd8 (pre8 (zs.getD i 0) (zs.drop i)) (zs.getD i 0) (pre8 (zs.getD i 0) (zs.drop i)) false ++ rung8 (zs.length - (i + pre8 (zs.getD i 0) (zs.drop i))) (zs.drop (i + pre8 (zs.getD i 0) (zs.drop i))) := by
  obtain ⟨v, hv⟩ : ∃ v, v = zs.getD i 0 := ⟨_, rfl⟩
  obtain ⟨k, hk⟩ : ∃ k, k = pre8 v (zs.drop i) := ⟨_, rfl⟩
  rw [← hv, ← hk]
  have hpl := pre8_le v (zs.drop i)
  rw [← hk, List.length_drop] at hpl
  have hsp : zs.drop i = List.replicate k v ++ zs.drop (i + k) := by
    have := pre8_take v (zs.drop i) k (by omega)
    rw [← this, ← List.drop_drop, List.take_append_drop]
  have hr : (zs.drop (i + k)).head? ≠ some v := by
    intro e
    have e1 : k + 1 ≤ pre8 v (zs.drop i) := by
      rw [pre8_iff]
      rw [List.head?_drop] at e
      have hlt : i + k < zs.length := by
        rcases Nat.lt_or_ge (i + k) zs.length with h | h
        · exact h
        · simp [List.getElem?_eq_none h] at e
      refine ⟨by rw [List.length_drop]; omega, fun j hj => ?_⟩
      by_cases e2 : j = k
      · subst e2
        simp [List.getD, e]
      · have := (pre8_iff v (zs.drop i) k).1 (by omega)
        exact this.2 j (by omega)
    omega
  have hg : (zs.drop (i + k)).length ≤ zs.length - (i + k) := by rw [List.length_drop]; omega
  conv => lhs; rw [hsp]
  rw [rung8_spd hr _ k (by rw [List.length_drop]; omega), rung8_fuel (zs.length - i) (zs.length - (i + k)) _ (by rw [List.length_drop]; omega) hg]
theorem spd8_ct (v : Int) : ∀ (f k : Nat) (again : Bool), ∀ r ∈ spd8 f v k again, 1 ≤ r.ct ∧ r.ct ≤ k
  | 0, k, again, r, h => by simp [spd8] at h
  | f + 1, k, again, r, h => by
    rw [spd8] at h
    split at h
    · simp at h
    · have hc := led8_ct v (k := k) (by omega) again
      rcases List.mem_cons.1 h with rfl | h
      · exact hc
      · have := spd8_ct v f _ true r h
        omega
theorem spd8_len (v : Int) : ∀ (f k : Nat) (again : Bool), (spd8 f v k again).length ≤ k
  | 0, k, again => by simp [spd8]
  | f + 1, k, again => by
    rw [spd8]
    split
    · simp
    · have hc := led8_ct v (k := k) (by omega) again
      have := spd8_len v f (k - (led8 v k again).ct.toNat) true
      rw [List.length_cons]
      omega
end Go.Proofs.YtmddnmpldmdllaaDoor

namespace Go.Proofs.YtmddnmpldmdllaaDoor
open Go.RowKit
set_option linter.unusedVariables false

/-! The landed head: most, longest, leading. -/
theorem below_box8 (w : World) (o : Obj) : Below w.heap.size w (w.alloc o) := (Below.refl _ _).alloc (Nat.le_refl _) o
theorem below_boxd8 (w : World) (o : Obj) : Below w.heap.size w ((w.alloc o).drew) := ⟨(below_box8 w o).os, (below_box8 w o).tape, (below_box8 w o).output, (below_box8 w o).size, (below_box8 w o).block⟩
theorem lst8_bd (s : Int) : 1 ≤ lst8 s ∧ lst8 s ≤ 11 := by
  unfold lst8
  split
  · omega
  · split <;> omega
theorem grt8_bd (s : Int) : 1 ≤ grt8 s ∧ grt8 s ≤ 138 := by
  unfold grt8
  split
  · omega
  · split
    · omega
    · split <;> omega
theorem mor8_in (s : Int) : mor8 s = 0 ∨ mor8 s = 2 ∨ mor8 s = 3 ∨ mor8 s = 7 := by
  unfold mor8
  split
  · omega
  · split
    · omega
    · split <;> omega
theorem two_set {w : World} {r : Nat} {a b : Value} {t : TypeId} (h : w.heap[r]? = some (.cells #[a, b] t (0, 0))) (x y : Value) : ((w.setCell ⟨r, 0, none⟩ x).setCell ⟨r, 1, none⟩ y).heap[r]? = some (.cells #[x, y] t (0, 0)) := by
  have h1 := heap_setCell_same w r 0 #[a, b] t x h
  have h2 := heap_setCell_same _ r 1 _ t y h1
  rw [h2]
  rfl
theorem below_two8 {B r : Nat} {w0 w : World} {x y : Value} (hb : Below B w0 w) (hr : B ≤ r) : Below B w0 ((w.setCell ⟨r, 0, none⟩ x).setCell ⟨r, 1, none⟩ y) :=
  ⟨hb.os, hb.tape, hb.output, by simpa using hb.size, fun i hi => by rw [heap_setCell_other _ ⟨r, 1, none⟩ i y (by simp; omega), heap_setCell_other _ ⟨r, 0, none⟩ i x (by simp; omega)]; exact hb.block i hi⟩
theorem TabS.below {w w' : World} {B : Nat} (h : TabS w) (hb : Below B w w') (hB : B = w.heap.size) : TabS w' := by subst hB; exact SegZ.old h hb
end Go.Proofs.YtmddnmpldmdllaaDoor

namespace Go.Proofs.YtmddnmpldmdllaaDoor
open Go.RowKit
set_option linter.unusedVariables false

/-! The landed head: leading, stretch. -/
theorem TabS.one {w : World} (h : TabS w) (i : Nat) (z : Int) (hi : i < 57) (hz : snsL.getD i 0 = z) : w.cell? ⟨0, i, none⟩ = some (.int .i64 z) := by
  obtain ⟨b, o, e, c⟩ := h.at_ i hi
  cases e
  rw [Nat.zero_add, hz] at c
  exact c
end Go.Proofs.YtmddnmpldmdllaaDoor

namespace Go.Proofs.YtmddnmpldmdllaaDoor
open Go.RowKit
set_option linter.unusedVariables false

/-! The document's Runs: the walk. -/
def RsQ (w : World) (ty : TypeId) (R : List Rn8) (er : Int) (e : Ending) (w' : World) : Prop := ∃ oa oc, e = .returned (.tuple #[.slice oa R.length oc, .int .i64 er]) ∧ w'.ownsRow w.heap.size ty 2 (.slice oa R.length oc) R.length (flatN R) ∧ Below w.heap.size w w'
/-- How far Runs has come. -/
def RnI (zs : List Int) (w wr : World) (ty : TypeId) (to ti : Value) : Prop := ∃ (i m oc : Nat) (oa : Option Addr) (R : List Rn8), i ≤ zs.length ∧ m ≤ i ∧ ti = .int .i64 (i : Int) ∧ to = .slice oa m oc ∧ R.length = m ∧ runs8 zs = R ++ rung8 (zs.length - i) (zs.drop i) ∧ wr.ownsRow w.heap.size ty 2 (.slice oa m oc) m (flatN R) ∧ Below w.heap.size w wr
theorem Kp.cellN {S : Nat → Prop} {a b : World} {k o : Nat} {v : Value} (h : Kp S a b) (hc : a.cell? ⟨k, o, none⟩ = some v) (hn : ¬ S k) : b.cell? ⟨k, o, none⟩ = some v := by
  have hl := World.block_lt_of_cell? a _ hc
  have := h.block k hl hn
  simp only [World.cell?] at hc ⊢
  rw [this]
  exact hc
theorem SegN.kp {S : Nat → Prop} {a b : World} {la : Option Addr} {L : List Rn8} (h : SegN a la L) (hk : Kp S a b) (hn : ∀ g o, la = some ⟨g, o, none⟩ → ¬ S g) : SegN b la L :=
  ⟨fun i hi => by
    obtain ⟨g, o, e, c1, c2⟩ := h.at_ i hi
    exact ⟨g, o, e, hk.cellN c1 (hn _ _ e), hk.cellN c2 (hn _ _ e)⟩⟩
theorem own_apartN {w w1 : World} {base n m oc c : Nat} {e e' : TypeId} {oa la : Option Addr} {xs ys : List Value} (h : w.ownsRow base e 2 (.slice oa m oc) m xs) (l : w1.ownsRow w.heap.size e' 2 (.slice la n c) n ys) : ∀ g o, la = some ⟨g, o, none⟩ → (Value.slice oa m oc).ownBlock ≠ some g := by
  intro g o ea hg
  have h1 := (h.lt g hg).2
  rcases l.2 with ⟨h0, _⟩ | ⟨g', cp, cur, hv, hb, _⟩
  · rw [ea] at h0
    simp at h0
  · rw [ea] at hv
    simp only [Value.slice.injEq, Option.some.injEq, Addr.mk.injEq] at hv
    omega
/-- How far Runs has come within a row. -/
def RnX (L R : List Rn8) (w wq : World) (ty : TypeId) (la : Option Addr) (N p m : Nat) (to ti tx : Value) : Prop := ∃ (x p' m' oc : Nat) (oa : Option Addr), x ≤ N ∧ tx = .int .i64 (x : Int) ∧ ti = .int .i64 (p' : Int) ∧ to = .slice oa m' oc ∧ m' = m + x ∧ p' = p + sum8 (L.take x) ∧ wq.ownsRow w.heap.size ty 2 (.slice oa m' oc) m' (flatN (R ++ L.take x)) ∧ Below w.heap.size w wq ∧ SegN wq la L ∧ ∀ g o, la = some ⟨g, o, none⟩ → (Value.slice oa m' oc).ownBlock ≠ some g
end Go.Proofs.YtmddnmpldmdllaaDoor

namespace Go.Proofs.YtmddnmpldmdllaaDoor
open Go.RowKit
set_option linter.unusedVariables false

/-! The landed head: stretch, spread. -/
end Go.Proofs.YtmddnmpldmdllaaDoor

namespace Go.Proofs.YtmddnmpldmdllaaDoor
open Go.RowKit
set_option linter.unusedVariables false

/-! The landed head: spread. -/
def SpQ (w : World) (ty : TypeId) (R : List Rn8) (e : Ending) (w' : World) : Prop := ∃ oa oc, e = .returned (.slice oa R.length oc) ∧ w'.ownsRow w.heap.size ty 2 (.slice oa R.length oc) R.length (flatN R) ∧ Below w.heap.size w w'
def SpI (v : Int) (K : Nat) (w wr : World) (ty : TypeId) (tk to : Value) : Prop := ∃ (j m oc : Nat) (oa : Option Addr) (R : List Rn8), m + j ≤ K ∧ tk = .int .i64 (j : Int) ∧ to = .slice oa m oc ∧ R.length = m ∧ spd8 K v K false = R ++ spd8 j v j (decide (0 < m)) ∧ wr.ownsRow w.heap.size ty 2 (.slice oa m oc) m (flatN R) ∧ Below w.heap.size w wr
theorem spd8_one (v : Int) {j : Nat} (hj : 0 < j) (b : Bool) : spd8 j v j b = led8 v j b :: spd8 (j - (led8 v j b).ct.toNat) v (j - (led8 v j b).ct.toNat) true := by
  obtain ⟨i, rfl⟩ : ∃ i, j = i + 1 := ⟨j - 1, by omega⟩
  have hc := led8_ct v (k := i + 1) (by omega) b
  rw [spd8, if_neg (by omega), spd8_fuel v i (i + 1 - (led8 v (i + 1) b).ct.toNat) _ true (by omega) (by omega)]
end Go.Proofs.YtmddnmpldmdllaaDoor

namespace Go.Proofs.YtmddnmpldmdllaaDoor
open Go.RowKit
set_option linter.unusedVariables false

/-! The landed head: Runs. -/
theorem SegZ.drop8 {w : World} {b off : Nat} {zs : List Int} (h : SegZ w (some ⟨b, off, none⟩) zs) (p : Nat) : SegZ w (some ⟨b, off + p, none⟩) (zs.drop p) :=
  ⟨fun i hi => by
    rw [List.length_drop] at hi
    obtain ⟨b', off', e, c⟩ := h.at_ (p + i) (by omega)
    cases e
    refine ⟨b, off + p, rfl, ?_⟩
    rw [Nat.add_assoc, c]
    simp [List.getD], fun i => by have := h.bd (p + i); simpa [List.getD] using this⟩
theorem flatN_len : ∀ l : List Rn8, (flatN l).length = l.length * 2
  | [] => rfl
  | t :: r => by
    have e : flatN (t :: r) = .int .i64 t.sy :: .int .i64 t.ct :: flatN r := rfl
    rw [e, List.length_cons, List.length_cons, flatN_len r, List.length_cons]
    omega
theorem flatN_one (l : List Rn8) : ∀ u ∈ flatN l, u.oneCell' = true := by
  intro u hu
  unfold flatN at hu
  obtain ⟨x, _, h⟩ := List.mem_flatMap.1 hu
  simp only [List.mem_cons, List.not_mem_nil, or_false] at h
  rcases h with rfl | rfl <;> rfl
/-- Runs that lie somewhere behind a row of the call's own. -/
theorem wpList_appR {P : Program} {ops : Array Oper} {rest : List Oper} {o : Oper} {a : Act} {Q : Exit → Act → World → Prop} (hgd : o.guard = none) (s x : Operand) (t : TypeId)
    (ho : o.op = .call { callee := .builtin .append, args := #[s, x], argTypes := #[t, t] })
    (base : Nat) (e : TypeId) (i : TypeInfo) (z : Value) (bytes : Nat) (ht : P.underlying t = some (.slice e)) (hi : P.info? e = some i) (hz : i.zero = some z)
    (hsize : i.size = 2) (hby : i.bytes = bytes) (hzs : z.cells.size = 2) (w0 : World) {b2 m c2 : Nat} {e2 : TypeId} {la : Option Addr} {L : List Rn8}
    {ra : Option Addr} {n rc : Nat} {l : List Rn8} (hown : w0.ownsRow base e 2 (.slice ra n rc) n (flatN l)) (hs : a.eval s = .slice ra n rc)
    (hL : w0.ownsRow b2 e2 2 (.slice la m c2) m (flatN L)) (hx : a.eval x = .slice la m c2) (hm : 0 < m)
    (h63 : n + m ≤ 140737488355328) (hbytes : (n + m) * bytes ≤ 140737488355328) (hbase : base ≤ w0.heap.size)
    (h : ∀ (g : Nat) (c : Nat) (w' : World), w'.ownsRow base e 2 (.slice (some ⟨g, 0, none⟩) (n + m) c) (n + m) (flatN (l ++ L)) → Kp (fun k => (Value.slice ra n rc).ownBlock = some k) w0 w' → wpList P ops Q rest (a.put o.dst (.slice (some ⟨g, 0, none⟩) (n + m) c)) w') : wpList P ops Q (o :: rest) a w0 := by
  have hLl : L.length = m := by have := hL.1; rw [flatN_len] at this; omega
  rcases hL.2 with ⟨_, h0⟩ | ⟨g, cp, cur, hv, _⟩
  · omega
  simp only [Value.slice.injEq] at hv
  obtain ⟨rfl, _, rfl⟩ := hv
  refine wpList_append_lies _ hgd s x t ho base e i z 2 bytes ht hi hz hsize hby hzs (by decide) _ n (flatN l) hs hown ⟨g, 0, none⟩ m c2 (flatN L) hx (by rw [flatN_len, hLl]) (fun j u hu => hL.cells (g := g) rfl j u hu) (flatN_one L) hm (by unfold maxLen; omega) hbytes hbase _ rfl ?_
  intro g c w' h1 h2 h3 _
  exact h g c w' (by rw [flatN_app]; exact h1) (Kp.grown (S := fun k => (Value.slice ra n rc).ownBlock = some k) h2 (fun i e => e))
end Go.Proofs.YtmddnmpldmdllaaDoor

namespace Go.Proofs.YtmddnmpldmdllaaDoor
open Go.RowKit
set_option linter.unusedVariables false

/-! The document's Lens: the walk. -/
/-- A number behind a row of the call's own. -/
theorem wpList_appI {P : Program} {ops : Array Oper} {rest : List Oper} {o : Oper} {a : Act} {Q : Exit → Act → World → Prop} (hgd : o.guard = none) (s x : Operand) (t : TypeId)
    (ho : o.op = .call { callee := .builtin .append, args := #[s, x], argTypes := #[t, t] })
    (base : Nat) (e : TypeId) (i : TypeInfo) (z : Value) (bytes : Nat) (ht : P.underlying t = some (.slice e)) (hi : P.info? e = some i) (hz : i.zero = some z)
    (hsize : i.size = 1) (hby : i.bytes = bytes) (hzs : z.cells.size = 1) (w0 : World) (y : Int)
    {ra : Option Addr} {n rc : Nat} {l : List Int} (hown : w0.ownsRow base e 1 (.slice ra n rc) n (l.map (Value.int .i64))) (hs : a.eval s = .slice ra n rc) (hx : a.eval x = .slice (some ⟨w0.heap.size, 0, none⟩) 1 1)
    (h63 : n + 1 ≤ 140737488355328) (hbytes : (n + 1) * bytes ≤ 140737488355328) (hbase : base ≤ w0.heap.size)
    (h : ∀ (g : Nat) (c : Nat) (w' : World), w'.ownsRow base e 1 (.slice (some ⟨g, 0, none⟩) (n + 1) c) (n + 1) ((l ++ [y]).map (Value.int .i64)) → Kp (fun k => (Value.slice ra n rc).ownBlock = some k) w0 w' → ((Value.slice ra n rc).ownBlock = some g ∨ g = w0.heap.size + 1) → wpList P ops Q rest (a.put o.dst (.slice (some ⟨g, 0, none⟩) (n + 1) c)) w') : wpList P ops Q (o :: rest) a (w0.alloc (.cells #[.int .i64 y] e)) := by
  have hnew : ∀ j u, ([.int .i64 y] : List Value)[j]? = some u → (w0.alloc (.cells #[.int .i64 y] e)).cell? ((⟨w0.heap.size, 0, none⟩ : Addr).add j) = some u := by
    intro j u hu
    have hadd : (⟨w0.heap.size, 0, none⟩ : Addr).add j = ⟨w0.heap.size, j, none⟩ := by unfold Addr.add; split <;> simp_all
    rw [hadd]
    have hh := heap_alloc_new w0 (.cells #[.int .i64 y] e)
    simp only [World.cell?, hh]
    simpa using hu
  refine wpList_append_lies _ hgd s x t ho base e i z 1 bytes ht hi hz hsize hby hzs (by decide) _ n (l.map (Value.int .i64)) hs (hown.alloc _) ⟨w0.heap.size, 0, none⟩ 1 1 [.int .i64 y] hx rfl hnew (by intro u hu; simp only [List.mem_cons, List.not_mem_nil, or_false] at hu; subst hu; rfl) (by decide) (by unfold maxLen; omega) hbytes (by simp; omega) (w0.heap.size + 1) (by simp) ?_
  intro g c w' h1 h2 h3 _
  refine h g c w' (by rw [List.map_append]; exact h1) ?_ h3
  exact (Kp.alloc w0 _).trans (Kp.grown (S := fun k => (Value.slice ra n rc).ownBlock = some k) h2 (fun i e => e)) (fun _ _ e => e)
theorem end8_get : ∀ (l : List Int), 0 < l.length → end8 l = l.getD (l.length - 1) 0
  | [], h => by simp at h
  | [x], _ => rfl
  | x :: y :: r, _ => by
    have := end8_get (y :: r) (by simp)
    simpa [end8, List.getD] using this
theorem lng8_at {R : List Rn8} {i : Nat} (h : i < R.length) (out : List Int) : lng8 (R.drop i) out = if bad8 (R.getD i ⟨0, 0⟩) out.length then none else if 320 < (out ++ List.replicate (R.getD i ⟨0, 0⟩).ct.toNat (val8 (R.getD i ⟨0, 0⟩) out)).length then none else lng8 (R.drop (i + 1)) (out ++ List.replicate (R.getD i ⟨0, 0⟩).ct.toNat (val8 (R.getD i ⟨0, 0⟩) out)) := by
  have hd : R.drop i = R.getD i ⟨0, 0⟩ :: R.drop (i + 1) := by rw [List.drop_eq_getElem_cons h]; simp [List.getD, h]
  rw [hd, lng8]
def lzs8 (R : List Rn8) : List Int := (lens8 R).getD []
def ler8 (R : List Rn8) : Int := if (lens8 R).isSome then 0 else 81
theorem lzs8_none {R : List Rn8} (h : lens8 R = none) : lzs8 R = [] ∧ ler8 R = 81 := by unfold lzs8 ler8; rw [h]; exact ⟨rfl, rfl⟩
theorem lzs8_some {R : List Rn8} {l : List Int} (h : lens8 R = some l) : lzs8 R = l ∧ ler8 R = 0 := by unfold lzs8 ler8; rw [h]; exact ⟨rfl, rfl⟩
def LsQ (w : World) (ty : TypeId) (zs : List Int) (er : Int) (e : Ending) (w' : World) : Prop := ∃ oa oc, e = .returned (.tuple #[.slice oa zs.length oc, .int .i64 er]) ∧ w'.ownsRow w.heap.size ty 1 (.slice oa zs.length oc) zs.length (zs.map (Value.int .i64)) ∧ Below w.heap.size w w'
/-- How far Lens has come. -/
def LnI (R : List Rn8) (w wr : World) (ty : TypeId) (n : Nat) (to ti : Value) : Prop := ∃ (i m oc : Nat) (oa : Option Addr) (out : List Int), i ≤ n ∧ m ≤ 320 ∧ ti = .int .i64 (i : Int) ∧ to = .slice oa m oc ∧ out.length = m ∧ (∀ z ∈ out, 0 ≤ z ∧ z ≤ 15) ∧ lens8 R = lng8 (R.drop i) out ∧ wr.ownsRow w.heap.size ty 1 (.slice oa m oc) m (out.map (Value.int .i64)) ∧ Below w.heap.size w wr
/-- How far it has come within a run. -/
def LnK (out : List Int) (v : Int) (w wq : World) (ty : TypeId) (A c m : Nat) (to tk : Value) : Prop := ∃ (k m' oc : Nat) (oa : Option Addr), k ≤ c ∧ tk = .int .i64 (k : Int) ∧ to = .slice oa m' oc ∧ m' = m + k ∧ wq.ownsRow w.heap.size ty 1 (.slice oa m' oc) m' ((out ++ List.replicate k v).map (Value.int .i64)) ∧ Below w.heap.size w wq ∧ wq.cell? ⟨A, 1, none⟩ = some (.int .i64 (c : Int)) ∧ (Value.slice oa m' oc).ownBlock ≠ some A
theorem lst8_ge (s : Int) : 1 ≤ lst8 s := by unfold lst8; split; omega; split <;> omega
theorem grt8_le (s : Int) : grt8 s ≤ 138 := by unfold grt8; split; omega; split; omega; split <;> omega
end Go.Proofs.YtmddnmpldmdllaaDoor

namespace Go.Proofs.YtmddnmpldmdllaaDoor
open Go.RowKit
set_option linter.unusedVariables false

/-! The document's order, short. -/
def ord8 : List Int := [16, 17, 18, 0, 8, 7, 9, 6, 10, 5, 11, 4, 12, 3, 13, 2, 14, 1, 15]
/-- How many are left of the first n, without the noughts at their end. -/
def cut8 (zs : List Int) : Nat → Nat
  | 0 => 0
  | n + 1 => if zs.getD n 0 = 0 then cut8 zs n else n + 1
theorem cut8_le (zs : List Int) : ∀ n, cut8 zs n ≤ n
  | 0 => Nat.le_refl _
  | n + 1 => by
    rw [cut8]
    split
    · have := cut8_le zs n; omega
    · omega
def sht8 (zs : List Int) (k : Nat) : List Int := zs.take (cut8 zs zs.length) ++ List.replicate (k - cut8 zs zs.length) 0
def ShQ (w : World) (ty : TypeId) (l : List Int) (e : Ending) (w' : World) : Prop := ∃ oa oc, e = .returned (.slice oa l.length oc) ∧ w'.ownsRow w.heap.size ty 1 (.slice oa l.length oc) l.length (l.map (Value.int .i64)) ∧ Below w.heap.size w w'
def lenOfS : Value → Nat
  | .slice _ n _ => n
  | _ => 0
end Go.Proofs.YtmddnmpldmdllaaDoor

namespace Go.Proofs.YtmddnmpldmdllaaDoor
open Go.RowKit
set_option linter.unusedVariables false
set_option linter.unusedSimpArgs false

/-! The landed head: trimmed, tally, toldOf. -/
theorem info_sz8 : (Tryd.prog.info? 3).map (·.size) = some 1 := by kernel_rfl
theorem ints_one8 (l : List Int) : ∀ v ∈ l.map (Value.int .i64), v.oneCell' = true := by
  intro v hv
  obtain ⟨z, _, rfl⟩ := List.mem_map.1 hv
  rfl
theorem cut8_zero (zs : List Int) : ∀ m, cut8 zs m ≤ m ∧ ∀ j, cut8 zs m ≤ j → j < m → zs.getD j 0 = 0
  | 0 => ⟨Nat.le_refl _, fun j _ h => by omega⟩
  | m + 1 => by
    obtain ⟨h1, h2⟩ := cut8_zero zs m
    rw [cut8]
    split
    · rename_i h
      refine ⟨by omega, fun j hj hjm => ?_⟩
      by_cases e : j = m
      · subst e; exact h
      · exact h2 j hj (by omega)
    · exact ⟨Nat.le_refl _, fun j hj hjm => by omega⟩
theorem take_zeros {zs : List Int} {c m : Nat} (hc : c ≤ m) (hm : m ≤ zs.length) (h : ∀ j, c ≤ j → j < m → zs.getD j 0 = 0) : zs.take m = zs.take c ++ List.replicate (m - c) 0 := by
  apply List.ext_getElem
  · simp; omega
  · intro i h1 h2
    simp only [List.length_take] at h1
    by_cases hi : i < c
    · rw [List.getElem_append_left (by simp; omega)]
      simp
    · rw [List.getElem_append_right (by simp; omega), List.getElem_replicate, List.getElem_take]
      have := h i (by omega) (by omega)
      simpa [List.getD, show i < zs.length by omega] using this
/-- What trimmed answers. -/
theorem trim8_eq {zs : List Int} {k m : Nat} (hm : m ≤ zs.length) (hc : cut8 zs zs.length = cut8 zs m) (hk : m ≤ k ∨ cut8 zs m = m) : zs.take m ++ List.replicate (k - m) 0 = sht8 zs k := by
  obtain ⟨h1, h2⟩ := cut8_zero zs m
  unfold sht8
  rw [hc]
  rcases hk with hk | hk
  · rw [take_zeros h1 hm h2, List.append_assoc, List.replicate_append_replicate, show m - cut8 zs m + (k - m) = k - cut8 zs m by omega]
  · rw [hk]
/-- How often each symbol stands among runs. -/
def tly8 (R : List Rn8) : List Int := (List.range 19).map fun (s : Nat) => ((R.filter fun r => r.sy == (s : Int)).length : Int)
theorem tly8_len (R : List Rn8) : (tly8 R).length = 19 := by simp [tly8]
theorem tly8_get (R : List Rn8) {s : Nat} (h : s < 19) : (tly8 R).getD s 0 = ((R.filter fun r => r.sy == (s : Int)).length : Int) := by simp [tly8, List.getD, h]
theorem tly8_snoc (R : List Rn8) {s : Nat} {c : Int} (h : s < 19) : tly8 (R ++ [⟨(s : Int), c⟩]) = (tly8 R).set s ((tly8 R).getD s 0 + 1) := by
  apply List.ext_getElem
  · simp [tly8]
  · intro i h1 h2
    have hi : i < 19 := by simpa [tly8] using h1
    rw [List.getElem_set]
    by_cases e : s = i
    · subst e
      rw [if_pos rfl, tly8_get R h]
      simp [tly8, List.filter_append]
    · rw [if_neg e]
      have : ¬ ((s : Int) = (i : Int)) := by omega
      simp [tly8, List.filter_append, this]
theorem tly8_bd (R : List Rn8) : ∀ z ∈ tly8 R, 0 ≤ z ∧ z ≤ R.length := by
  intro z hz
  unfold tly8 at hz
  obtain ⟨s, _, rfl⟩ := List.mem_map.1 hz
  have := List.length_filter_le (fun r : Rn8 => r.sy == (s : Int)) R
  omega
/-- How many of the nineteen sizes are told. -/
def tol8 (Z : List Int) : Nat → Nat
  | 0 => 0
  | n + 1 => if 4 < n + 1 ∧ Z.getD (ordL.getD n 0).toNat 0 = 0 then tol8 Z n else n + 1
theorem tol8_bd (Z : List Int) : ∀ n, 4 ≤ n → 4 ≤ tol8 Z n ∧ tol8 Z n ≤ n
  | 0, h => by omega
  | n + 1, h => by
    rw [tol8]
    split
    · rename_i h1
      have := tol8_bd Z n (by omega)
      omega
    · omega
theorem ord_bd : ∀ k : Fin 19, 0 ≤ ordL.getD k.val 0 ∧ ordL.getD k.val 0 ≤ 18 := by decide
end Go.Proofs.YtmddnmpldmdllaaDoor
