import Derived.Test.YtoeabfcnfofbiaaDoorPb
import Derived.Laws.Rows
import Derived.Laws.Tables
import Derived.Laws.CopyOwn
namespace Go.Proofs.YtoeabfcnfofbiaaDoor
set_option linter.unusedVariables false

/-! Layer 8: the program's own way to runs: a length that stands there k times, run by run. -/
def led8 (v : Int) (k : Nat) (again : Bool) : Rn8 := if v = 0 ∧ 11 ≤ k then ⟨18, (min k 138 : Nat)⟩ else if v = 0 ∧ 3 ≤ k then ⟨17, (min k 10 : Nat)⟩ else if ¬ v = 0 ∧ again = true ∧ 3 ≤ k then ⟨16, (min k 6 : Nat)⟩ else ⟨v, 1⟩
theorem led8_ct (v : Int) {k : Nat} (hk : 1 ≤ k) (again : Bool) : 1 ≤ (led8 v k again).ct ∧ (led8 v k again).ct ≤ k := by
  unfold led8
  split
  · simp only; omega
  · split
    · simp only; omega
    · split
      · simp only; omega
      · simp only; omega
def spd8 : Nat → Int → Nat → Bool → List Rn8
  | 0, _, _, _ => []
  | f + 1, v, k, again => if k = 0 then [] else led8 v k again :: spd8 f v (k - (led8 v k again).ct.toNat) true
theorem spd8_fuel (v : Int) : ∀ (f g k : Nat) (again : Bool), k ≤ f → k ≤ g → spd8 f v k again = spd8 g v k again
  | 0, 0, k, again, _, _ => rfl
  | 0, g + 1, k, again, h, _ => by rw [spd8, spd8, if_pos (by omega)]
  | f + 1, 0, k, again, _, h => by rw [spd8, spd8, if_pos (by omega)]
  | f + 1, g + 1, k, again, h1, h2 => by
    rw [spd8, spd8]
    split
    · rfl
    · have := led8_ct v (k := k) (by omega) again
      rw [spd8_fuel v f g _ true (by omega) (by omega)]
theorem spd8_zero (f : Nat) (k : Nat) : spd8 f 0 k true = spd8 f 0 k false := by
  cases f with
  | zero => rfl
  | succ f =>
    have e : led8 0 k true = led8 0 k false := by simp [led8]
    rw [spd8, spd8, e]
theorem pre8_rep (v : Int) (rest : List Int) (hr : rest.head? ≠ some v) : ∀ k, pre8 v (List.replicate k v ++ rest) = k
  | 0 => by
    cases rest with
    | nil => rfl
    | cons x r =>
      have : ¬ x = v := fun e => hr (by simp [e])
      simp [pre8, this]
  | k + 1 => by
    rw [List.replicate_succ, List.cons_append, pre8, if_pos rfl, pre8_rep v rest hr k]
/-- A step of the document's runs at k lengths v. -/
theorem rung8_rep {v : Int} {rest : List Int} (hr : rest.head? ≠ some v) {k : Nat} (hk : 1 ≤ k) (f : Nat) (hf : k + rest.length ≤ f) :
    rung8 f (List.replicate k v ++ rest) = row8 v k ++ rung8 f (List.replicate (k - sum8 (row8 v k)) v ++ rest) := by
  obtain ⟨f, rfl⟩ : ∃ g, f = g + 1 := ⟨f - 1, by omega⟩
  obtain ⟨k, rfl⟩ : ∃ j, k = j + 1 := ⟨k - 1, by omega⟩
  have hs := row8_sum (v := v) hk
  have hp := pre8_rep v rest hr (k + 1)
  have hd : (List.replicate (k + 1) v ++ rest).drop (sum8 (row8 v (k + 1))) = List.replicate (k + 1 - sum8 (row8 v (k + 1))) v ++ rest := by
    rw [List.drop_append_of_le_length (by simpa using hs.2), List.drop_replicate]
  have e : List.replicate (k + 1) v ++ rest = v :: (List.replicate k v ++ rest) := by rw [List.replicate_succ, List.cons_append]
  rw [e] at hp hd
  rw [e, rung8, hp, hd, rung8_fuel f (f + 1) _ (by simp; omega) (by simp; omega)]
theorem led8_more {v : Int} (hv : ¬ v = 0) {j : Nat} (hj : 3 ≤ j) : led8 v j true = ⟨16, (min j 6 : Nat)⟩ := by unfold led8; simp [hv, hj]
theorem led8_less {v : Int} (hv : ¬ v = 0) {j : Nat} (hj : ¬ 3 ≤ j) (b : Bool) : led8 v j b = ⟨v, 1⟩ := by unfold led8; simp [hv, hj]
theorem led8_first {v : Int} (hv : ¬ v = 0) (j : Nat) : led8 v j false = ⟨v, 1⟩ := by unfold led8; simp [hv]
/-- What stands behind the first run of a length that is not nought. -/
theorem spd8_rep {v : Int} (hv : ¬ v = 0) : ∀ (f j : Nat), j ≤ f → spd8 f v j true = rep8 f j ++ spd8 f v (j - sum8 (rep8 f j)) true ∧ j - sum8 (rep8 f j) < 3
  | 0, j, h => by simp [spd8, rep8, sum8]; omega
  | f + 1, j, h => by
    rw [rep8]
    by_cases h3 : 3 ≤ j
    · rw [if_pos h3]
      obtain ⟨i1, i2⟩ := spd8_rep hv f (j - min j 6) (by omega)
      simp only [sum8, Int.toNat_natCast]
      have hss := rep8_sum f (j - min j 6)
      refine ⟨?_, by omega⟩
      conv => lhs; rw [spd8, if_neg (by omega), led8_more hv h3]
      simp only [Int.toNat_natCast]
      rw [i1, List.cons_append, show j - (min j 6 + sum8 (rep8 f (j - min j 6))) = j - min j 6 - sum8 (rep8 f (j - min j 6)) by omega, spd8_fuel v f (f + 1) _ true (by omega) (by omega)]
    · rw [if_neg h3]
      simp [sum8]
      omega
/-- Few lengths: one run each. -/
theorem rung8_few {v : Int} (hv : ¬ v = 0) {rest : List Int} (hr : rest.head? ≠ some v) (f : Nat) : ∀ (m : Nat), m < 3 → m + rest.length ≤ f → rung8 f (List.replicate m v ++ rest) = spd8 m v m true ++ rung8 f rest
  | 0, _, _ => by simp [spd8]
  | m + 1, hm, hf => by
    have hrow : row8 v (m + 1) = [⟨v, 1⟩] := by
      unfold row8
      rw [if_neg hv]
      have : rep8 (m + 1 - 1) (m + 1 - 1) = [] := by
        cases m with
        | zero => rfl
        | succ m => rw [show m + 1 + 1 - 1 = m + 1 by omega, rep8, if_neg (by omega)]
      rw [this]
    rw [rung8_rep hr (by omega) f hf, hrow]
    have e1 : sum8 [(⟨v, 1⟩ : Rn8)] = 1 := by simp [sum8]
    rw [e1, show m + 1 - 1 = m by omega, rung8_few hv hr f m (by omega) (by omega), spd8, if_neg (by omega), led8_less hv (by omega)]
    simp
/-- THE STRETCH: what the program lays down for k lengths v is what the document does. -/
theorem rung8_spd {v : Int} {rest : List Int} (hr : rest.head? ≠ some v) (f : Nat) : ∀ (k : Nat), k + rest.length ≤ f → rung8 f (List.replicate k v ++ rest) = spd8 k v k false ++ rung8 f rest := by
  intro k
  induction k using Nat.strongRecOn with
  | ind k ih =>
    intro hf
    by_cases hk : k = 0
    · subst hk; simp [spd8]
    · by_cases hv : v = 0
      · subst hv
        obtain ⟨j, rfl⟩ : ∃ j, k = j + 1 := ⟨k - 1, by omega⟩
        have hrow : row8 0 (j + 1) = [led8 0 (j + 1) false] := by
          unfold row8 led8
          by_cases h11 : 11 ≤ j + 1
          · simp [h11]
          · by_cases h3 : 3 ≤ j + 1
            · have : min (j + 1) 10 = j + 1 := by omega
              simp [h11, h3, this]
            · simp [h11, h3]
        have hct := led8_ct 0 (k := j + 1) (by omega) false
        rw [rung8_rep hr (by omega) f hf, hrow, spd8, if_neg (by omega)]
        have es : sum8 [led8 0 (j + 1) false] = (led8 0 (j + 1) false).ct.toNat := by simp [sum8]
        rw [es, ih _ (by omega) (by omega), spd8_zero, spd8_fuel 0 j (j + 1 - (led8 0 (j + 1) false).ct.toNat) _ false (by omega) (by omega)]
        simp
      · obtain ⟨j, rfl⟩ : ∃ j, k = j + 1 := ⟨k - 1, by omega⟩
        obtain ⟨s1, s2⟩ := spd8_rep hv j j (Nat.le_refl _)
        have hrow : row8 v (j + 1) = ⟨v, 1⟩ :: rep8 j j := by unfold row8; rw [if_neg hv]; rfl
        have es : sum8 (⟨v, 1⟩ :: rep8 j j) = 1 + sum8 (rep8 j j) := by simp [sum8]
        have hss := rep8_sum j j
        rw [rung8_rep hr (by omega) f hf, hrow, es, show j + 1 - (1 + sum8 (rep8 j j)) = j - sum8 (rep8 j j) by omega, rung8_few hv hr f _ s2 (by omega), spd8, if_neg (by omega), led8_first hv]
        have e1 : (1 : Int).toNat = 1 := rfl
        simp only [e1, Nat.add_sub_cancel]
        rw [s1, spd8_fuel v (j - sum8 (rep8 j j)) j _ true (by omega) (by omega)]
        simp
/-- At a place: the stretch there, and what stands behind. -/
theorem rung8_str {zs : List Int} {i : Nat} (h : i < zs.length) : rung8 (zs.length - i) (zs.drop i) = spd8 (pre8 (zs.getD i 0) (zs.drop i)) (zs.getD i 0) (pre8 (zs.getD i 0) (zs.drop i)) false ++ rung8 (zs.length - (i + pre8 (zs.getD i 0) (zs.drop i))) (zs.drop (i + pre8 (zs.getD i 0) (zs.drop i))) := by
  obtain ⟨v, hv⟩ : ∃ v, v = zs.getD i 0 := ⟨_, rfl⟩
  obtain ⟨k, hk⟩ : ∃ k, k = pre8 v (zs.drop i) := ⟨_, rfl⟩
  rw [← hv, ← hk]
  have hpl := pre8_le v (zs.drop i)
  rw [← hk, List.length_drop] at hpl
  have hsp : zs.drop i = List.replicate k v ++ zs.drop (i + k) := by
    have := pre8_take v (zs.drop i) k (by omega)
    rw [← this, ← List.drop_drop, List.take_append_drop]
  have hr : (zs.drop (i + k)).head? ≠ some v := by
    intro e
    have e1 : k + 1 ≤ pre8 v (zs.drop i) := by
      rw [pre8_iff]
      rw [List.head?_drop] at e
      have hlt : i + k < zs.length := by
        rcases Nat.lt_or_ge (i + k) zs.length with h | h
        · exact h
        · simp [List.getElem?_eq_none h] at e
      refine ⟨by rw [List.length_drop]; omega, fun j hj => ?_⟩
      by_cases e2 : j = k
      · subst e2
        simp [List.getD, e]
      · have := (pre8_iff v (zs.drop i) k).1 (by omega)
        exact this.2 j (by omega)
    omega
  have hg : (zs.drop (i + k)).length ≤ zs.length - (i + k) := by rw [List.length_drop]; omega
  conv => lhs; rw [hsp]
  rw [rung8_spd hr _ k (by rw [List.length_drop]; omega), rung8_fuel (zs.length - i) (zs.length - (i + k)) _ (by rw [List.length_drop]; omega) hg]
theorem spd8_ct (v : Int) : ∀ (f k : Nat) (again : Bool), ∀ r ∈ spd8 f v k again, 1 ≤ r.ct ∧ r.ct ≤ k
  | 0, k, again, r, h => by simp [spd8] at h
  | f + 1, k, again, r, h => by
    rw [spd8] at h
    split at h
    · simp at h
    · have hc := led8_ct v (k := k) (by omega) again
      rcases List.mem_cons.1 h with rfl | h
      · exact hc
      · have := spd8_ct v f _ true r h
        omega
theorem spd8_len (v : Int) : ∀ (f k : Nat) (again : Bool), (spd8 f v k again).length ≤ k
  | 0, k, again => by simp [spd8]
  | f + 1, k, again => by
    rw [spd8]
    split
    · simp
    · have hc := led8_ct v (k := k) (by omega) again
      have := spd8_len v f (k - (led8 v k again).ct.toNat) true
      rw [List.length_cons]
      omega
end Go.Proofs.YtoeabfcnfofbiaaDoor

namespace Go.Proofs.YtoeabfcnfofbiaaDoor
open Go.RowKit
set_option linter.unusedVariables false

/-! The landed head: most, longest, leading. -/
theorem below_box8 (w : World) (o : Obj) : Below w.heap.size w (w.alloc o) := (Below.refl _ _).alloc (Nat.le_refl _) o
theorem below_boxd8 (w : World) (o : Obj) : Below w.heap.size w ((w.alloc o).drew) := ⟨(below_box8 w o).os, (below_box8 w o).tape, (below_box8 w o).output, (below_box8 w o).size, (below_box8 w o).block⟩
theorem lst8_bd (s : Int) : 1 ≤ lst8 s ∧ lst8 s ≤ 11 := by
  unfold lst8
  split
  · omega
  · split <;> omega
theorem grt8_bd (s : Int) : 1 ≤ grt8 s ∧ grt8 s ≤ 138 := by
  unfold grt8
  split
  · omega
  · split
    · omega
    · split <;> omega
theorem mor8_in (s : Int) : mor8 s = 0 ∨ mor8 s = 2 ∨ mor8 s = 3 ∨ mor8 s = 7 := by
  unfold mor8
  split
  · omega
  · split
    · omega
    · split <;> omega
theorem two_set {w : World} {r : Nat} {a b : Value} {t : TypeId} (h : w.heap[r]? = some (.cells #[a, b] t (0, 0))) (x y : Value) : ((w.setCell ⟨r, 0, none⟩ x).setCell ⟨r, 1, none⟩ y).heap[r]? = some (.cells #[x, y] t (0, 0)) := by
  have h1 := heap_setCell_same w r 0 #[a, b] t x h
  have h2 := heap_setCell_same _ r 1 _ t y h1
  rw [h2]
  rfl
theorem below_two8 {B r : Nat} {w0 w : World} {x y : Value} (hb : Below B w0 w) (hr : B ≤ r) : Below B w0 ((w.setCell ⟨r, 0, none⟩ x).setCell ⟨r, 1, none⟩ y) :=
  ⟨hb.os, hb.tape, hb.output, by simpa using hb.size, fun i hi => by rw [heap_setCell_other _ ⟨r, 1, none⟩ i y (by simp; omega), heap_setCell_other _ ⟨r, 0, none⟩ i x (by simp; omega)]; exact hb.block i hi⟩
theorem TabS.below {w w' : World} {B : Nat} (h : TabS w) (hb : Below B w w') (hB : B = w.heap.size) : TabS w' := by subst hB; exact SegZ.old h hb
set_option maxRecDepth 100000 in
set_option maxHeartbeats 1000000 in
theorem pmost8 (x l : Int) (b : Nat) (hb : b = 0 ∨ b = 2 ∨ b = 3 ∨ b = 7) (hl : 0 ≤ l ∧ l ≤ 11) (w : World) :
    Calls Tryd.prog 69 #[.agg #[.int .i64 x, .int .i64 l, .int .i64 (b : Int)]] w fun e w' => e = .returned (.int .i64 (l + 2 ^ b - 1)) ∧ Below w.heap.size w w' := by
  rcases hb with rfl | rfl | rfl | rfl
  all_goals
    go_enter Tryd.func69, Tryd.ntmps69
    go_wp2_with fail
    go_region
    go_wp2_with fail
    go_ret
    refine ⟨?_, below_boxd8 _ _⟩
    first | rfl | (simp; done) | (simp; omega)
set_option maxRecDepth 100000 in
set_option maxHeartbeats 1000000 in
theorem plongest8 (s k : Nat) (hs : s < 19) (hk : k ≤ 1000000) (w : World) (T : TabS w) :
    Calls Tryd.prog 92 #[.int .i64 (s : Int), .int .i64 (k : Int)] w fun e w' => e = .returned (.agg #[.int .i64 (s : Int), .int .i64 (min (k : Int) (grt8 s))]) ∧ Below w.heap.size w w' := by
  obtain ⟨c0, c1, c2⟩ := T.at8 s hs
  have hz := World.block_lt_of_cell? w _ c0
  simp only at hz
  have hg := grt8_lst (s : Int) (by omega)
  have hl := lst8_bd s
  have CM := pmost8 (sln8 s) (lst8 s) (mor8 s) (mor8_in s) (by omega)
  rw [← hg] at CM
  have hgb := grt8_bd s
  have HC : Hid (∀ w : World, Calls Tryd.prog 69 #[.agg #[.int .i64 (sln8 s), .int .i64 (lst8 s), .int .i64 (mor8 s : Int)]] w fun e w' => e = .returned (.int .i64 (grt8 s)) ∧ Below w.heap.size w w') := CM
  clear CM hg hl
  generalize sln8 (s : Int) = x0 at *
  generalize lst8 (s : Int) = x1 at *
  generalize mor8 (s : Int) = x2 at *
  generalize grt8 (s : Int) = G at *
  have hmin : ∃ M, min (k : Int) G = M ∧ (((k : Int) ≤ G ∧ M = (k : Int)) ∨ (G < (k : Int) ∧ M = G)) := ⟨_, rfl, by omega⟩
  obtain ⟨M, hM, hmin⟩ := hmin
  rw [hM]
  clear hM
  rcases hmin with ⟨h1, rfl⟩ | ⟨h1, rfl⟩
  · go_enter Tryd.func92, Tryd.ntmps92
    go_wp2_with ((go_at_call 69; refine (HC.out _).mono ?_; rintro e w1 ⟨rfl, b1⟩; have hr : w1.heap[w.heap.size]? = some (.cells #[.int .i64 0, .int .i64 0] 38 (0, 0)) := (b1.block _ (by simp)).trans (heap_alloc_new w _); have c8 := cell_of_row w1 _ 0 _ _ _ hr; have d8 := cell_of_row w1 _ 1 _ _ _ hr; have f8 := frozen_of_row w1 _ 0 _ _ hr; have g8 := frozen_of_row w1 _ 1 _ _ hr; simp only [List.getElem?_toArray, List.getElem?_cons_zero, List.getElem?_cons_succ] at c8 d8))
    refine bodyPost_ret (v := .agg #[.int .i64 (s : Int), .int .i64 (k : Int)]) (results_cell_row (fn := Tryd.f92) (p := 4) (ty := 38) rfl _ _ w.heap.size _ _ _ _ rfl (two_set hr _ _) Tryd.underlying38 rfl (by kernel_rfl)) rfl ?_
    refine ⟨rfl, ?_⟩
    have b0 : Below w.heap.size w w1 := (below_box8 w _).trans (b1.mono (by simp))
    exact below_two8 b0 (Nat.le_refl _)
  · go_enter Tryd.func92, Tryd.ntmps92
    go_wp2_with ((go_at_call 69; refine (HC.out _).mono ?_; rintro e w1 ⟨rfl, b1⟩; have hr : w1.heap[w.heap.size]? = some (.cells #[.int .i64 0, .int .i64 0] 38 (0, 0)) := (b1.block _ (by simp)).trans (heap_alloc_new w _); have c8 := cell_of_row w1 _ 0 _ _ _ hr; have d8 := cell_of_row w1 _ 1 _ _ _ hr; have f8 := frozen_of_row w1 _ 0 _ _ hr; have g8 := frozen_of_row w1 _ 1 _ _ hr; simp only [List.getElem?_toArray, List.getElem?_cons_zero, List.getElem?_cons_succ] at c8 d8))
    refine bodyPost_ret (v := .agg #[.int .i64 (s : Int), .int .i64 M]) (results_cell_row (fn := Tryd.f92) (p := 4) (ty := 38) rfl _ _ w.heap.size _ _ _ _ rfl (two_set hr _ _) Tryd.underlying38 rfl (by kernel_rfl)) rfl ?_
    refine ⟨rfl, ?_⟩
    have b0 : Below w.heap.size w w1 := (below_box8 w _).trans (b1.mono (by simp))
    exact below_two8 b0 (Nat.le_refl _)
end Go.Proofs.YtoeabfcnfofbiaaDoor

namespace Go.Proofs.YtoeabfcnfofbiaaDoor
open Go.RowKit
set_option linter.unusedVariables false

/-! The landed head: leading, stretch. -/
theorem TabS.one {w : World} (h : TabS w) (i : Nat) (z : Int) (hi : i < 57) (hz : snsL.getD i 0 = z) : w.cell? ⟨0, i, none⟩ = some (.int .i64 z) := by
  obtain ⟨b, o, e, c⟩ := h.at_ i hi
  cases e
  rw [Nat.zero_add, hz] at c
  exact c
set_option maxRecDepth 100000 in
set_option maxHeartbeats 2000000 in
theorem pleading8 (v : Int) (k : Nat) (again : Bool) (hk : k ≤ 1000000) (w : World) (T : TabS w) :
    Calls Tryd.prog 68 #[.int .i64 v, .int .i64 (k : Int), .bool again] w fun e w' => e = .returned (.agg #[.int .i64 (led8 v k again).sy, .int .i64 (led8 v k again).ct]) ∧ Below w.heap.size w w' := by
  have c0 := T.one 55 11 (by omega) rfl
  have c1 := T.one 52 3 (by omega) rfl
  have c2 := T.one 49 3 (by omega) rfl
  have hz := World.block_lt_of_cell? w _ c0
  simp only at hz
  have HC : Hid (∀ (s : Nat), s < 19 → ∀ W : World, Below w.heap.size w W → Calls Tryd.prog 92 #[.int .i64 (s : Int), .int .i64 (k : Int)] W fun e w' => e = .returned (.agg #[.int .i64 (s : Int), .int .i64 (min (k : Int) (grt8 s))]) ∧ Below W.heap.size W w') := fun s hs W hb => plongest8 s k hs hk W (SegZ.old T hb)
  have H18 := HC.out 18 (by omega) _ (below_box8 w (.cells #[.int .i64 0, .int .i64 0] 38))
  have H17 := HC.out 17 (by omega) _ (below_box8 w (.cells #[.int .i64 0, .int .i64 0] 38))
  have H16 := HC.out 16 (by omega) _ (below_box8 w (.cells #[.int .i64 0, .int .i64 0] 38))
  have e18 : grt8 ((18 : Nat) : Int) = 138 := rfl
  have e17 : grt8 ((17 : Nat) : Int) = 10 := rfl
  have e16 : grt8 ((16 : Nat) : Int) = 6 := rfl
  rw [e18] at H18
  rw [e17] at H17
  rw [e16] at H16
  have m18 : min (k : Int) 138 = ((min k 138 : Nat) : Int) := by omega
  have m17 : min (k : Int) 10 = ((min k 10 : Nat) : Int) := by omega
  have m16 : min (k : Int) 6 = ((min k 6 : Nat) : Int) := by omega
  rw [m18] at H18
  rw [m17] at H17
  rw [m16] at H16
  clear HC e18 e17 e16 m18 m17 m16
  by_cases hv : v = 0
  · subst hv
    by_cases h11 : 11 ≤ k
    · have hL : led8 0 k again = ⟨18, (min k 138 : Nat)⟩ := by unfold led8; simp [h11]
      rw [hL]
      have hi : (11 : Int) ≤ (k : Int) := by omega
      clear H17 H16 hL
      generalize ((min k 138 : Nat) : Int) = M at *
      go_enter Tryd.func68, Tryd.ntmps68
      go_wp2_with ((go_at_call 92; refine H18.mono ?_; rintro e w1 ⟨rfl, b1⟩; have hr : w1.heap[w.heap.size]? = some (.cells #[.int .i64 0, .int .i64 0] 38 (0, 0)) := (b1.block _ (by simp)).trans (heap_alloc_new w _); have c8 := cell_of_row w1 _ 0 _ _ _ hr; have d8 := cell_of_row w1 _ 1 _ _ _ hr; have f8 := frozen_of_row w1 _ 0 _ _ hr; have g8 := frozen_of_row w1 _ 1 _ _ hr; simp only [List.getElem?_toArray, List.getElem?_cons_zero, List.getElem?_cons_succ] at c8 d8))
      refine bodyPost_ret (v := .agg #[.int .i64 18, .int .i64 M]) (results_cell_row (fn := Tryd.f68) (p := 6) (ty := 38) rfl _ _ w.heap.size _ _ _ _ rfl (two_set hr _ _) Tryd.underlying38 rfl (by kernel_rfl)) rfl ?_
      refine ⟨rfl, ?_⟩
      have b0 : Below w.heap.size w w1 := (below_box8 w _).trans (b1.mono (by simp))
      exact below_two8 b0 (Nat.le_refl _)
    · have hi : ¬ (11 : Int) ≤ (k : Int) := by omega
      by_cases h3 : 3 ≤ k
      · have hL : led8 0 k again = ⟨17, (min k 10 : Nat)⟩ := by unfold led8; simp [h11, h3]
        rw [hL]
        have hi3 : (3 : Int) ≤ (k : Int) := by omega
        clear H18 H16 hL
        generalize ((min k 10 : Nat) : Int) = M at *
        go_enter Tryd.func68, Tryd.ntmps68
        go_wp2_with ((go_at_call 92; refine H17.mono ?_; rintro e w1 ⟨rfl, b1⟩; have hr : w1.heap[w.heap.size]? = some (.cells #[.int .i64 0, .int .i64 0] 38 (0, 0)) := (b1.block _ (by simp)).trans (heap_alloc_new w _); have c8 := cell_of_row w1 _ 0 _ _ _ hr; have d8 := cell_of_row w1 _ 1 _ _ _ hr; have f8 := frozen_of_row w1 _ 0 _ _ hr; have g8 := frozen_of_row w1 _ 1 _ _ hr; simp only [List.getElem?_toArray, List.getElem?_cons_zero, List.getElem?_cons_succ] at c8 d8))
        refine bodyPost_ret (v := .agg #[.int .i64 17, .int .i64 M]) (results_cell_row (fn := Tryd.f68) (p := 6) (ty := 38) rfl _ _ w.heap.size _ _ _ _ rfl (two_set hr _ _) Tryd.underlying38 rfl (by kernel_rfl)) rfl ?_
        refine ⟨rfl, ?_⟩
        have b0 : Below w.heap.size w w1 := (below_box8 w _).trans (b1.mono (by simp))
        exact below_two8 b0 (Nat.le_refl _)
      · have hL : led8 0 k again = ⟨0, 1⟩ := by unfold led8; simp [h11, h3]
        rw [hL]
        have hi3 : ¬ (3 : Int) ≤ (k : Int) := by omega
        clear H18 H17 H16 hL
        go_enter Tryd.func68, Tryd.ntmps68
        go_wp2_with fail
        refine bodyPost_ret (v := .agg #[.int .i64 0, .int .i64 1]) (results_cell_row (fn := Tryd.f68) (p := 6) (ty := 38) rfl _ _ w.heap.size _ _ _ _ rfl (heap_alloc_new w _) Tryd.underlying38 rfl (by kernel_rfl)) rfl ?_
        exact ⟨rfl, below_box8 w _⟩
  · have hvb : (v == 0) = false := by simp [hv]
    by_cases h3 : again = true ∧ 3 ≤ k
    · obtain ⟨rfl, h3⟩ := h3
      have hL : led8 v k true = ⟨16, (min k 6 : Nat)⟩ := led8_more hv h3
      rw [hL]
      have hi3 : (3 : Int) ≤ (k : Int) := by omega
      clear H18 H17 hL
      generalize ((min k 6 : Nat) : Int) = M at *
      go_enter Tryd.func68, Tryd.ntmps68
      go_wp2_with ((go_at_call 92; refine H16.mono ?_; rintro e w1 ⟨rfl, b1⟩; have hr : w1.heap[w.heap.size]? = some (.cells #[.int .i64 0, .int .i64 0] 38 (0, 0)) := (b1.block _ (by simp)).trans (heap_alloc_new w _); have c8 := cell_of_row w1 _ 0 _ _ _ hr; have d8 := cell_of_row w1 _ 1 _ _ _ hr; have f8 := frozen_of_row w1 _ 0 _ _ hr; have g8 := frozen_of_row w1 _ 1 _ _ hr; simp only [List.getElem?_toArray, List.getElem?_cons_zero, List.getElem?_cons_succ] at c8 d8))
      refine bodyPost_ret (v := .agg #[.int .i64 16, .int .i64 M]) (results_cell_row (fn := Tryd.f68) (p := 6) (ty := 38) rfl _ _ w.heap.size _ _ _ _ rfl (two_set hr _ _) Tryd.underlying38 rfl (by kernel_rfl)) rfl ?_
      refine ⟨rfl, ?_⟩
      have b0 : Below w.heap.size w w1 := (below_box8 w _).trans (b1.mono (by simp))
      exact below_two8 b0 (Nat.le_refl _)
    · have hL : led8 v k again = ⟨v, 1⟩ := by
        unfold led8
        rw [if_neg (by simp [hv]), if_neg (by simp [hv]), if_neg (fun h => h3 h.2)]
      rw [hL]
      clear H18 H17 H16 hL
      have hcase : again = false ∨ (again = true ∧ ¬ (3 : Int) ≤ (k : Int)) := by
        cases again
        · exact .inl rfl
        · exact .inr ⟨rfl, by intro h; exact h3 ⟨rfl, by omega⟩⟩
      clear h3
      rcases hcase with rfl | ⟨rfl, hi3⟩
      all_goals
        go_enter Tryd.func68, Tryd.ntmps68
        go_wp2_with fail
        refine bodyPost_ret (v := .agg #[.int .i64 v, .int .i64 1]) (results_cell_row (fn := Tryd.f68) (p := 6) (ty := 38) rfl _ _ w.heap.size _ _ _ _ rfl (heap_alloc_new w _) Tryd.underlying38 rfl (by kernel_rfl)) rfl ?_
        exact ⟨rfl, below_box8 w _⟩
end Go.Proofs.YtoeabfcnfofbiaaDoor
