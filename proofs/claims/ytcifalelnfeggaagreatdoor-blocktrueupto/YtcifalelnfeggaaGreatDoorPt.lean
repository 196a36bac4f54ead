import Derived.Test.YtcifalelnfeggaaGreatDoorPs
import Derived.Test.YtcifalelnfeggaaGreatDoorPl
import Derived.Test.YtcifalelnfeggaaGreatDoorPb
import Derived.Test.YtcifalelnfeggaaGreatDoorPn
import Derived.Test.YtcifalelnfeggaaGreatDoorPg
import Derived.Laws.BitsAllLaws
import Derived.Test.YtcifalelnfeggaaGreatDoorPr
namespace Go.Proofs.YtcifalelnfeggaaGreatDoor
open Go.RowKit
set_option linter.unusedVariables false

/-! A tally's size; each symbol has a code. -/
theorem tst9_size {X : List Int} (hX : X.length = 318) {t : Tok7} (hf : t.Fit) (hm : may7 t) : (tst9 X t).getD 0 0 = X.getD 0 0 + (wid7 t : Int) := by
  obtain ⟨a, b, c⟩ := fit_may9 hf hm
  unfold tst9
  rcases c with ⟨c, _⟩ | ⟨c, c3, c4, c5, c6, _⟩
  · rw [if_pos c, inc9_get _ _ _ _ (by rw [inc9_len, hX]; omega), inc9_get _ _ _ _ (by omega), if_pos rfl, if_neg (by omega)]
    omega
  · have h1 := (lspec9 c3).2.1
    have h2 := (dspec9 c5).2.1
    rw [if_neg c, inc9_get _ _ _ _ (by simp only [inc9_len, hX]; omega), inc9_get _ _ _ _ (by simp only [inc9_len, hX]; omega), inc9_get _ _ _ _ (by simp only [inc9_len, hX]; omega), inc9_get _ _ _ _ (by simp only [inc9_len, hX]; omega), inc9_get _ _ _ _ (by omega)]
    simp only [eq_false (show ¬ 1 = 0 by omega), eq_false (show ¬ 259 + lix9 t.len = 0 by omega), eq_false (show ¬ 288 + dix9 t.dist = 0 by omega), if_false, if_true]
    omega
theorem siz7_app9 : ∀ a b : List Tok7, siz7 (a ++ b) = siz7 a + siz7 b
  | [], b => by simp [siz7]
  | t :: a, b => by rw [List.cons_append, siz7, siz7, siz7_app9 a b]; omega
theorem tals9_sizek (l : List Tok7) (hf : ∀ t ∈ l, t.Fit) (hm : ∀ t ∈ l, may7 t) : ∀ k, k ≤ l.length → (tals9 (l.take k)).getD 0 0 = (siz7 (l.take k) : Int)
  | 0, _ => by
    rw [List.take_zero]
    exact repl_get 318 0
  | k + 1, hk => by
    have h1 := tals9_sizek l hf hm k (by omega)
    have hmem : l.getD k tk0 ∈ l := by simp only [List.getD, List.getElem?_eq_getElem (show k < l.length by omega), Option.getD_some]; exact List.getElem_mem _
    rw [takeT7 (by omega), tals9_snoc, tst9_size (tals9_len (l.take k)) (hf _ hmem) (hm _ hmem), h1, siz7_app9]
    simp [siz7]
theorem tal9_size {l : List Tok7} (hm : mer9 l = 0) (hf : ∀ t ∈ l, t.Fit) : (tal9 l).getD 0 0 = (siz7 l : Int) := by
  have := tals9_sizek l hf (mer9_zero hm).2 l.length (Nat.le_refl _)
  rw [List.take_of_length_le (Nat.le_refl _)] at this
  unfold tal9
  rw [gset9 _ _ _ _ (by rw [tals9_len]; omega), if_neg (by omega), this]
theorem put_one9 {Z : List Int} (h : errC Z = 0) {k : Nat} (hk : k < Z.length) (hz : Z.getD k 0 ≠ 0) : 1 ≤ (putB Z (k : Int)).length := by
  have h1 := put_len9 h hk
  omega
/-- Codes for all symbols that stand in the tokens. -/
theorem hc9_of {ZL ZD : List Int} (hL : errC ZL = 0) (hD : errC ZD = 0) (nL : 286 ≤ ZL.length) (nD : 30 ≤ ZD.length) {l : List Tok7} (hm : mer9 l = 0) (hf : ∀ t ∈ l, t.Fit) (h1 : ∀ i, i < 286 → (cl9 (tal9 l)).getD i 0 ≠ 0 → ZL.getD i 0 ≠ 0) (h2 : ∀ i, i < 30 → (cd9 (tal9 l)).getD i 0 ≠ 0 → ZD.getD i 0 ≠ 0) (hs : ∀ t ∈ l, (cl9 (tal9 l)).getD (sym9 t) 0 ≠ 0 ∧ (t.len ≠ 0 → (cd9 (tal9 l)).getD (dix9 t.dist) 0 ≠ 0)) (h256 : (cl9 (tal9 l)).getD 256 0 ≠ 0) : Hc9 ZL ZD l := by
  refine ⟨fun t ht hz => ?_, fun t ht hz => ?_, ?_⟩
  · obtain ⟨a, b, c⟩ := fit_may9 (hf t ht) ((mer9_zero hm).2 t ht)
    have e : sym9 t = t.lit.toNat := by unfold sym9; rw [if_pos hz]
    have := (hs t ht).1
    rw [e] at this
    have h3 := put_one9 hL (k := t.lit.toNat) (by omega) (h1 _ (by omega) this)
    rwa [Int.toNat_of_nonneg a] at h3
  · obtain ⟨a, b, c⟩ := fit_may9 (hf t ht) ((mer9_zero hm).2 t ht)
    obtain ⟨_, c3, c4, c5, c6, _⟩ := c.resolve_left (fun q => hz q.1)
    have e : sym9 t = 257 + lix9 t.len := by unfold sym9; rw [if_neg hz]
    have h3 := (lspec9 c3).2.1
    have h4 := (dspec9 c5).2.1
    have h5 := hs t ht
    rw [e] at h5
    exact ⟨put_one9 hL (by omega) (h1 _ (by omega) h5.1), put_one9 hD (by omega) (h2 _ h4 (h5.2 hz))⟩
  · have := put_one9 hL (k := 256) (by omega) (h1 256 (by omega) h256)
    exact this
theorem mono_cl9 (l : List Tok7) (hf : ∀ t ∈ l, t.Fit) (hm : ∀ t ∈ l, may7 t) (j : Nat) : ∀ m k, k + m ≤ l.length → (tals9 (l.take k)).getD j 0 ≤ (tals9 (l.take (k + m))).getD j 0
  | 0, k, _ => Int.le_refl _
  | m + 1, k, h => by
    have h1 := mono_cl9 l hf hm j m k (by omega)
    have hmem : l.getD (k + m) tk0 ∈ l := by simp only [List.getD, List.getElem?_eq_getElem (show k + m < l.length by omega), Option.getD_some]; exact List.getElem_mem _
    have h2 := tst9_bd (tals9_len (l.take (k + m))) (hf _ hmem) (hm _ hmem) j
    rw [← Nat.add_assoc, takeT7 (by omega), tals9_snoc]
    omega
theorem seen9 {l : List Tok7} (hm : mer9 l = 0) (hf : ∀ t ∈ l, t.Fit) : ∀ t ∈ l, (cl9 (tal9 l)).getD (sym9 t) 0 ≠ 0 ∧ (t.len ≠ 0 → (cd9 (tal9 l)).getD (dix9 t.dist) 0 ≠ 0) := by
  intro t ht
  have hmm := (mer9_zero hm).2
  obtain ⟨k, hk, rfl⟩ := List.mem_iff_getElem.1 ht
  have hg : l.getD k tk0 = l[k] := by simp [List.getD, hk]
  obtain ⟨s1, s2⟩ := sym9_lt (hf _ ht) (hmm _ ht)
  have hX := tals9_len (l.take k)
  have mono := fun j => mono_cl9 l hf hmm j (l.length - (k + 1)) (k + 1) (by omega)
  rw [show k + 1 + (l.length - (k + 1)) = l.length by omega, List.take_of_length_le (Nat.le_refl _)] at mono
  have low := fun j => (tals9_bdk l hf hmm j k (by omega)).1
  rw [takeT7 hk, tals9_snoc, hg] at mono
  constructor
  · rw [cl9_tal, gset9 _ _ _ _ (by rw [cl9_len]; omega), if_neg (fun e => s2 e.symm), cl9_get _ s1]
    have h1 := mono (2 + sym9 l[k])
    have h2 := congrArg (fun z => z.getD (sym9 l[k]) 0) (cl9_step hX (hf _ ht) (hmm _ ht))
    try simp only at h2
    rw [inc9_get _ _ _ _ (by rw [List.length_set, cl9_len]; exact s1), if_pos rfl, gset9 _ _ _ _ (by rw [cl9_len]; omega), gset9 _ _ _ _ (by rw [cl9_len]; omega), if_neg (fun e => s2 e.symm), if_neg (fun e => s2 e.symm), cl9_get _ s1, cl9_get _ s1] at h2
    have h3 := low (2 + sym9 l[k])
    omega
  · intro hz
    obtain ⟨a, b, c⟩ := fit_may9 (hf _ ht) (hmm _ ht)
    obtain ⟨_, c3, c4, c5, c6, _⟩ := c.resolve_left (fun q => hz q.1)
    have h4 := (dspec9 c5).2.1
    rw [cd9_tal, cd9_get _ h4]
    have h1 := mono (288 + dix9 l[k].dist)
    have h2 := congrArg (fun z => z.getD (dix9 l[k].dist) 0) (cd9_step hX (hf _ ht) (hmm _ ht) hz)
    try simp only at h2
    rw [inc9_get _ _ _ _ (by rw [cd9_len]; exact h4), if_pos rfl, cd9_get _ h4, cd9_get _ h4] at h2
    have h3 := low (288 + dix9 l[k].dist)
    omega
theorem hc9_own {l : List Tok7} (hm : mer9 l = 0) (hf : ∀ t ∈ l, t.Fit) : Hc9 (oL9 (tal9 l)) (oD9 (tal9 l)) l := by
  have hct := tal9_ct hm hf
  obtain ⟨e1, e2, _⟩ := own_told9 hm hf
  obtain ⟨n1, n2⟩ := oL9_len hct
  have c1 := lensR_code9 (by rw [cl9_len]; omega) (cl9_bd hct)
  have c2 := lensR_code9 (by rw [cd9_len]; omega) (cd9_bd hct)
  refine hc9_of e1 e2 (by omega) (by omega) hm hf (fun i hi h => c1.2 i (by rw [cl9_len]; exact hi) h) (fun i hi h => c2.2 i (by rw [cd9_len]; exact hi) h) (seen9 hm hf) ?_
  rw [cl9_tal, gset9 _ _ _ _ (by rw [cl9_len]; omega), if_pos rfl]
  omega
theorem plnL9_pos {i : Nat} (h : i < 288) : plnL9.getD i 0 ≠ 0 := by
  rw [pln9_is]
  simp only [List.getD, List.getElem?_map, List.getElem?_range h, Option.map_some, Option.getD_some]
  unfold pln9
  split
  · omega
  · split <;> omega
theorem hc9_plain {l : List Tok7} (hm : mer9 l = 0) (hf : ∀ t ∈ l, t.Fit) : Hc9 plnL9 plnD9 l := by
  refine hc9_of pln_ok9.1 pln_ok9.2 (by rw [plnL9_len]; omega) (by show 30 ≤ 32; omega) hm hf (fun i hi _ => plnL9_pos (by omega)) (fun i hi _ => ?_) (seen9 hm hf) ?_
  · unfold plnD9
    simp only [List.getD, List.getElem?_replicate, if_pos (show i < 32 by omega), Option.getD_some]
    omega
  · rw [cl9_tal, gset9 _ _ _ _ (by rw [cl9_len]; omega), if_pos rfl]
    omega
end Go.Proofs.YtcifalelnfeggaaGreatDoor

namespace Go.Proofs.YtcifalelnfeggaaGreatDoor
open Go.RowKit
set_option linter.unusedVariables false

theorem lens_1124 : lensR 3 [1, 1, 2, 4] = [3, 3, 2, 1] ∧ errL 3 [1, 1, 2, 4] = 0 := by
  have e2 : LFz [1, 1, 2, 4] = [(1, 0), (1, 1), (2, 2), (4, 3)] := by decide
  have e1 : errL 3 [1, 1, 2, 4] = 0 := by unfold errL nUse; rw [e2]; decide
  refine ⟨?_, e1⟩
  unfold lensR
  rw [if_pos e1]
  unfold lensL nUse
  rw [e2]
  simp [taken, row, itF, pk, bumps, bump]
theorem seg_lit4 (w : World) (x0 x1 x2 x3 : Int) (h : ∀ z ∈ [x0, x1, x2, x3], -9223372036854775808 ≤ z ∧ z ≤ 9223372036854775807) : SegZ (w.alloc (.cells #[.int .i64 x0, .int .i64 x1, .int .i64 x2, .int .i64 x3] 3)) (some ⟨w.heap.size, 0, none⟩) [x0, x1, x2, x3] := by
  refine ⟨fun i hi => ⟨w.heap.size, 0, rfl, ?_⟩, getD_bdz h⟩
  simp only [List.length_cons, List.length_nil] at hi
  match i, hi with
  | 0, _ => simp
  | 1, _ => simp
  | 2, _ => simp
  | 3, _ => simp

end Go.Proofs.YtcifalelnfeggaaGreatDoor

namespace Go.Proofs.YtcifalelnfeggaaGreatDoor
open Go.RowKit
set_option linter.unusedVariables false

/-! The statements' own helpers: may, used, fits, space, cost. -/
/-- How many counts are above 0. -/
def usedC (zs : List Int) : Nat → Nat
  | 0 => 0
  | k + 1 => usedC zs k + (if 0 < zs.getD k 0 then 1 else 0)
theorem usedC_le (zs : List Int) : ∀ k, usedC zs k ≤ k
  | 0 => Nat.le_refl _
  | k + 1 => by have := usedC_le zs k; unfold usedC; split <;> omega
theorem usedC_us {zs : List Int} (h : ∀ i, 0 ≤ zs.getD i 0) : ∀ k, usedC zs k = (usI zs k).length
  | 0 => rfl
  | k + 1 => by
    have h1 := usedC_us h k
    have h2 := h k
    rw [usI_snoc, List.length_append]
    unfold usedC
    rw [h1]
    by_cases e : zs.getD k 0 = 0
    · rw [if_pos e, if_neg (by omega)]; rfl
    · rw [if_neg e, if_pos (by omega)]; rfl
end Go.Proofs.YtcifalelnfeggaaGreatDoor

namespace Go.Proofs.YtcifalelnfeggaaGreatDoor
open Go.RowKit
set_option linter.unusedVariables false

/-- The sum of count times length over the symbols in use among the first k. -/
def cst (zs ls : List Int) (k : Nat) : Nat := ((usI zs k).map fun i => (zs.getD i 0).toNat * (ls.getD i 0).toNat).sum
theorem cst_snoc (zs ls : List Int) (k : Nat) : cst zs ls (k + 1) = cst zs ls k + (if zs.getD k 0 = 0 then 0 else (zs.getD k 0).toNat * (ls.getD k 0).toNat) := by
  unfold cst
  rw [usI_snoc, List.map_append, List.sum_append_nat]
  split <;> simp
theorem cst_le {zs ls : List Int} (he : errOf zs = 0) : ∀ k, (∀ i, i < k → zs.getD i 0 ≠ 0 → ls.getD i 0 ≤ 15) → cst zs ls k ≤ k * 16492674416640
  | 0, _ => by simp [cst, usI]
  | k + 1, h => by
    have h1 := cst_le he k (fun i hi => h i (by omega))
    rw [cst_snoc, Nat.succ_mul]
    split
    · exact Nat.le_trans h1 (Nat.le_add_right _ _)
    · rename_i h2
      have h3 := h k (by omega) h2
      have h4 := (errOf_zero he).2 k
      have h5 : (zs.getD k 0).toNat * (ls.getD k 0).toNat ≤ 1099511627776 * 15 := Nat.mul_le_mul (by omega) (by omega)
      exact Nat.add_le_add h1 h5

theorem pairs_sum (zs : List Int) (f : Nat × Nat → Nat) : ((LFz zs).map f).sum = ((usI zs zs.length).map fun i => f ((zs.getD i 0).toNat, i)).sum := by
  have h := ((LFz_perm zs).map f).sum_nat
  rw [h, pairs_usI, List.map_map]
  rfl
theorem cst_LF {zs : List Int} (he : errOf zs = 0) {lim : Nat} (h1 : 1 ≤ lim) (hl : nUse zs ≤ 2 ^ lim) (hn : 2 ≤ nUse zs) : cst zs (lensL lim zs) zs.length = costX (XP (LFz zs) lim) := by
  have h2 := pairs_sum zs (fun x => x.1 * lenOf (LFz zs) lim x.2)
  unfold costX XP cst
  rw [List.map_map]
  have h3 : ((LFz zs).map ((fun x : Nat × Nat => x.1 * x.2) ∘ fun x => (x.1, lenOf (LFz zs) lim x.2))).sum = ((LFz zs).map fun x => x.1 * lenOf (LFz zs) lim x.2).sum := rfl
  rw [h3, h2]
  congr 1
  apply List.map_congr_left
  intro i hi
  rw [lens_get he h1 hl hn]
  simp
/-- No lengths within the limit that take at most the whole space cost less. -/
theorem cst_best {zs os : List Int} (he : errOf zs = 0) {lim : Nat} (h1 : 1 ≤ lim) (h15 : lim ≤ 15) (hl : nUse zs ≤ 2 ^ lim)
    (hin : ∀ i, i < zs.length → zs.getD i 0 ≠ 0 → 1 ≤ os.getD i 0 ∧ os.getD i 0 ≤ lim) (hk : ((usI zs zs.length).map fun i => 2 ^ (15 - (os.getD i 0).toNat)).sum ≤ 32768) :
    cst zs (lensL lim zs) zs.length ≤ cst zs os zs.length := by
  have hu := nUse_us zs
  by_cases h0 : nUse zs = 0
  · have : usI zs zs.length = [] := List.length_eq_zero_iff.1 (by omega)
    unfold cst
    rw [this]
    simp
  · by_cases h2 : nUse zs = 1
    · obtain ⟨s, e1, e2, e3⟩ := lens_one he (lim := lim) h2
      have hs : s ∈ usI zs zs.length := by rw [e1]; simp
      have h3 := hin s e3 (usI_mem.1 hs).2
      unfold cst
      rw [e1]
      simp only [List.map_cons, List.map_nil, List.sum_cons, List.sum_nil, e2, Nat.add_zero]
      exact Nat.mul_le_mul_left _ (by omega)
    · have hn : 2 ≤ nUse zs := by omega
      rw [cst_LF he h1 hl hn]
      obtain ⟨f1, f2, f3⟩ := LF_facts he
      have hX : cst zs os zs.length = costX ((usI zs zs.length).map fun i => ((zs.getD i 0).toNat, (os.getD i 0).toNat)) := by
        unfold costX cst
        rw [List.map_map]
        rfl
      rw [hX]
      have hbd : ∀ x ∈ (usI zs zs.length).map (fun i => ((zs.getD i 0).toNat, (os.getD i 0).toNat)), 1 ≤ x.2 ∧ x.2 ≤ lim := by
        intro x hx
        obtain ⟨i, hi, rfl⟩ := List.mem_map.1 hx
        have h3 := usI_mem.1 hi
        have h4 := hin i h3.1 h3.2
        simp only
        omega
      refine pm_best (LFz zs) f1 f2 f3 lim h1 hn hl _ ?_ hbd ?_
      · rw [List.map_map]
        have := ((LFz_perm zs).map (·.1)).symm
        rw [pairs_usI, List.map_map] at this
        exact this
      · rw [kraft_all _ _ (fun x hx => (hbd x hx).1), List.map_map]
        have h4 : ((usI zs zs.length).map fun i => 2 ^ (15 - (os.getD i 0).toNat)) = (usI zs zs.length).map fun i => 2 ^ (15 - lim) * 2 ^ (lim - (os.getD i 0).toNat) := by
          apply List.map_congr_left
          intro i hi
          have h3 := usI_mem.1 hi
          have h5 := hin i h3.1 h3.2
          rw [← Nat.pow_add]
          congr 1
          omega
        rw [h4, sum_mul] at hk
        have h6 : (32768 : Nat) = 2 ^ (15 - lim) * 2 ^ lim := by
          rw [← Nat.pow_add, show 15 - lim + lim = 15 by omega]
        rw [h6] at hk
        exact Nat.le_of_mul_le_mul_left hk (Nat.pow_pos (by decide))
end Go.Proofs.YtcifalelnfeggaaGreatDoor

namespace Go.Proofs.YtcifalelnfeggaaGreatDoor
open Go.RowKit
set_option linter.unusedVariables false

/-! A block's own codes cost its tokens no more than the plain ones. -/
theorem usI_sum9 (zs : List Int) (f : Nat → Nat) : ∀ k, ((usI zs k).map f).sum ≤ ((List.range k).map f).sum
  | 0 => by simp [usI]
  | k + 1 => by
    have h := usI_sum9 zs f k
    rw [usI_snoc, List.map_append, List.sum_append_nat, List.range_succ, List.map_append, List.sum_append_nat]
    split <;> simp <;> omega
theorem sumC9_cst {zs ls : List Int} (he : errOf zs = 0) : ∀ k, (∀ i, i < k → 0 ≤ ls.getD i 0) → sumC9 zs ls k = (cst zs ls k : Nat)
  | 0, _ => by simp [sumC9, cst, usI]
  | k + 1, h => by
    have hz := (errOf_zero he).2 k
    have hl := h k (by omega)
    rw [sumC9, sumC9_cst he k (fun i hi => h i (by omega)), cst_snoc]
    obtain ⟨z, ez⟩ : ∃ z : Nat, zs.getD k 0 = (z : Int) := ⟨(zs.getD k 0).toNat, by omega⟩
    obtain ⟨y, ey⟩ : ∃ y : Nat, ls.getD k 0 = (y : Int) := ⟨(ls.getD k 0).toNat, by omega⟩
    rw [ez, ey]
    simp only [Int.toNat_natCast]
    split
    · rename_i h0
      rw [h0]
      simp
    · push_cast
      rfl
set_option maxRecDepth 100000 in
theorem pl_room9 : ((List.range 286).map fun i => 2 ^ (15 - ((plnL9.take 286).getD i 0).toNat)).sum ≤ 32768 ∧ ((List.range 30).map fun i => 2 ^ (15 - ((plnD9.take 30).getD i 0).toNat)).sum ≤ 32768 := ⟨Nat.le_of_ble_eq_true (by kernel_rfl), Nat.le_of_ble_eq_true (by kernel_rfl)⟩
theorem one_best9 {zs os : List Int} {n : Nat} (hn : zs.length = n) (h288 : n ≤ 288) (hb : ∀ i, 0 ≤ zs.getD i 0 ∧ zs.getD i 0 ≤ 1099511627776) (ho : ∀ i, i < n → 1 ≤ os.getD i 0 ∧ os.getD i 0 ≤ 15) (hr : ((List.range n).map fun i => 2 ^ (15 - (os.getD i 0).toNat)).sum ≤ 32768) : sumC9 zs (lensR 15 zs) n ≤ sumC9 zs os n := by
  have he := errOf_ok9 (by omega) hb
  have hL : lensR 15 zs = lensL 15 zs := by
    unfold lensR
    rw [if_pos (errL_ok9 (by omega) hb)]
    rfl
  have hu : nUse zs ≤ 2 ^ 15 := by
    rw [nUse_us]
    unfold usI
    have := List.length_filter_le (fun i => decide (zs.getD i 0 ≠ 0)) (List.range zs.length)
    rw [List.length_range] at this
    omega
  obtain ⟨c1, _⟩ := lensR_code9 (zs := zs) (by omega) hb
  have hbd := (errS_zero (errC_zero c1).1).2
  have hnl : (lensR 15 zs).length = n := by rw [lensR_len9 (by omega) hb, hn]
  rw [sumC9_cst he n (fun i hi => by
      have hm : (lensR 15 zs).getD i 0 ∈ lensR 15 zs := by
        have hi2 : i < (lensR 15 zs).length := by omega
        simp only [List.getD, List.getElem?_eq_getElem hi2, Option.getD_some]
        exact List.getElem_mem hi2
      exact (hbd _ hm).1), sumC9_cst he n (fun i hi => by have := ho i hi; omega)]
  have := cst_best (os := os) he (lim := 15) (by omega) (by omega) hu (fun i hi _ => ho i (by omega)) (by rw [hn]; exact Nat.le_trans (usI_sum9 zs _ n) hr)
  rw [hL]
  rw [hn] at this
  exact_mod_cast this
theorem pl_in9 : (∀ i, i < 286 → 1 ≤ (plnL9.take 286).getD i 0 ∧ (plnL9.take 286).getD i 0 ≤ 15) ∧ (∀ i, i < 30 → 1 ≤ (plnD9.take 30).getD i 0 ∧ (plnD9.take 30).getD i 0 ≤ 15) := by
  have hall : ((plnL9.take 286).all fun z => decide (1 ≤ z ∧ z ≤ 15)) = true ∧ ((plnD9.take 30).all fun z => decide (1 ≤ z ∧ z ≤ 15)) = true := ⟨by kernel_rfl, by kernel_rfl⟩
  have l1 : (plnL9.take 286).length = 286 := by rw [List.length_take, plnL9_len]; rfl
  have l2 : (plnD9.take 30).length = 30 := by rfl
  constructor
  · intro i hi
    have hi2 : i < (plnL9.take 286).length := by omega
    have := List.all_eq_true.1 hall.1 ((plnL9.take 286).getD i 0) (by simp only [List.getD, List.getElem?_eq_getElem hi2, Option.getD_some]; exact List.getElem_mem hi2)
    exact of_decide_eq_true this
  · intro i hi
    have hi2 : i < (plnD9.take 30).length := by omega
    have := List.all_eq_true.1 hall.2 ((plnD9.take 30).getD i 0) (by simp only [List.getD, List.getElem?_eq_getElem hi2, Option.getD_some]; exact List.getElem_mem hi2)
    exact of_decide_eq_true this
theorem own_best9 {l : List Tok7} (hm : mer9 l = 0) (hf : ∀ t ∈ l, t.Fit) : bts9 (tal9 l) (oL9 (tal9 l)) (oD9 (tal9 l)) ≤ bts9 (tal9 l) plnL9 plnD9 := by
  have hct := tal9_ct hm hf
  obtain ⟨e1, e2, _⟩ := own_told9 hm hf
  obtain ⟨n1, n2⟩ := oL9_len hct
  have bL := (errS_zero (errC_zero e1).1).2
  have bD := (errS_zero (errC_zero e2).1).2
  have l1 : (plnL9.take 286).length = 286 := by rw [List.length_take, plnL9_len]; rfl
  have l2 : (plnD9.take 30).length = 30 := by rfl
  have g : ∀ (Z : List Int) (hb : ∀ z ∈ Z, 0 ≤ z ∧ z ≤ 15) (i : Nat), i < Z.length → 0 ≤ Z.getD i 0 ∧ Z.getD i 0 ≤ 15 := fun Z hb i hi => by
    refine hb _ ?_
    simp only [List.getD, List.getElem?_eq_getElem hi, Option.getD_some]
    exact List.getElem_mem hi
  have k1 := errOf_ok9 (zs := cl9 (tal9 l)) (by rw [cl9_len]; omega) (cl9_bd hct)
  have k2 := errOf_ok9 (zs := cd9 (tal9 l)) (by rw [cd9_len]; omega) (cd9_bd hct)
  have t1 : (oL9 (tal9 l)).take 286 = oL9 (tal9 l) := List.take_of_length_le (by omega)
  have t2 : (oD9 (tal9 l)).take 30 = oD9 (tal9 l) := List.take_of_length_le (by omega)
  have c1 := (errK9_ok (xs := cl9 (tal9 l)) (ys := oL9 (tal9 l)) (by rw [cl9_len, n1]) k1 (fun i hi => g _ bL i hi)).2
  have c2 := (errK9_ok (xs := cd9 (tal9 l)) (ys := oD9 (tal9 l)) (by rw [cd9_len, n2]) k2 (fun i hi => g _ bD i hi)).2
  have c3 := (errK9_ok (xs := cl9 (tal9 l)) (ys := plnL9.take 286) (by rw [cl9_len, l1]) k1 (fun i hi => by have := pl_in9.1 i (by omega); omega)).2
  have c4 := (errK9_ok (xs := cd9 (tal9 l)) (ys := plnD9.take 30) (by rw [cd9_len, l2]) k2 (fun i hi => by have := pl_in9.2 i (by omega); omega)).2
  unfold bts9
  rw [t1, t2, c1, c2, c3, c4, n1, n2, l1, l2]
  have b1 : sumC9 (cl9 (tal9 l)) (oL9 (tal9 l)) 286 ≤ sumC9 (cl9 (tal9 l)) (plnL9.take 286) 286 := one_best9 (cl9_len _) (by omega) (cl9_bd hct) pl_in9.1 pl_room9.1
  have b2 : sumC9 (cd9 (tal9 l)) (oD9 (tal9 l)) 30 ≤ sumC9 (cd9 (tal9 l)) (plnD9.take 30) 30 := one_best9 (cd9_len _) (by omega) (cd9_bd hct) pl_in9.2 pl_room9.2
  omega
/-- How many bits the codes of a token take, and of its more bits. -/
def tk9 (ZL ZD : List Int) (t : Tok7) : Int := if t.len = 0 then ZL.getD t.lit.toNat 0 else ZL.getD (257 + lix9 t.len) 0 + ZD.getD (dix9 t.dist) 0
def mo9 (t : Tok7) : Int := if t.len = 0 then 0 else lnS9.getD (lix9 t.len * 2 + 1) 0 + dsS9.getD (dix9 t.dist * 2 + 1) 0
def tks9 (ZL ZD : List Int) (l : List Tok7) : Int := ZL.getD 256 0 + (l.map (tk9 ZL ZD)).sum
theorem tk9_len {ZL ZD : List Int} (hL : errC ZL = 0) (hD : errC ZD = 0) (nL : 286 ≤ ZL.length) (nD : 30 ≤ ZD.length) {t : Tok7} (hf : t.Fit) (hm : may7 t) : ((tkB9 ZL ZD t).length : Int) = tk9 ZL ZD t + mo9 t := by
  have hfm := fit_may9 hf hm
  have bm1 := lnb9 (lix9 t.len)
  have bm2 := dsb9 (dix9 t.dist)
  unfold tkB9 tk9 mo9
  by_cases c : t.len = 0
  · rw [if_pos c, if_pos c, if_pos c]
    have e : t.lit = (t.lit.toNat : Int) := by have := hf.1; omega
    have hb : t.lit.toNat < ZL.length := by have := hf.1; omega
    have := put_len9 hL hb
    rw [← e] at this
    omega
  · rw [if_neg c, if_neg c, if_neg c]
    obtain ⟨k2, k3, k4, k5, k6, klit⟩ := hfm.2.2.resolve_left (fun q => c q.1)
    obtain ⟨s0, _⟩ := lspec9 k3
    obtain ⟨r0, _⟩ := dspec9 k5
    have e1 := put_len9 hL (k := 257 + lix9 t.len) (by omega)
    have e3 := put_len9 hD (k := dix9 t.dist) (by omega)
    rw [List.length_append, List.length_append, List.length_append, bN_len, bN_len]
    omega
theorem tks9_k {ZL ZD : List Int} (hL : errC ZL = 0) (hD : errC ZD = 0) (nL : 286 ≤ ZL.length) (nD : 30 ≤ ZD.length) : ∀ l : List Tok7, (∀ t ∈ l, t.Fit) → (∀ t ∈ l, may7 t) → ((l.flatMap (tkB9 ZL ZD)).length : Int) = (l.map (tk9 ZL ZD)).sum + (l.map mo9).sum
  | [], _, _ => by simp
  | t :: r, hf, hm => by
    have ih := tks9_k hL hD nL nD r (fun x hx => hf x (List.mem_cons_of_mem _ hx)) (fun x hx => hm x (List.mem_cons_of_mem _ hx))
    have h1 := tk9_len hL hD nL nD (hf t (List.mem_cons_self ..)) (hm t (List.mem_cons_self ..))
    rw [List.flatMap_cons, List.length_append, List.map_cons, List.map_cons, List.sum_cons, List.sum_cons]
    omega
theorem tks9_len {ZL ZD : List Int} (hL : errC ZL = 0) (hD : errC ZD = 0) (nL : 286 ≤ ZL.length) (nD : 30 ≤ ZD.length) {l : List Tok7} (hf : ∀ t ∈ l, t.Fit) (hm : mer9 l = 0) : tks9 ZL ZD l + (l.map mo9).sum = bts9 (tal9 l) ZL ZD := by
  rw [← bdy9_len hL hD nL nD hm hf]
  have h1 := tks9_k hL hD nL nD l hf (mer9_zero hm).2
  have h2 : ((putB ZL 256).length : Int) = ZL.getD 256 0 := put_len9 hL (k := 256) (by omega)
  unfold tks9 bdy9
  rw [List.length_append]
  omega
theorem tks9_own {l : List Tok7} (hf : ∀ t ∈ l, t.Fit) (hm : mer9 l = 0) : tks9 (oL9 (tal9 l)) (oD9 (tal9 l)) l ≤ tks9 plnL9 plnD9 l := by
  obtain ⟨e1, e2, _⟩ := own_told9 hm hf
  obtain ⟨n1, n2⟩ := oL9_len (tal9_ct hm hf)
  have h1 := tks9_len e1 e2 (by omega) (by omega) hf hm
  have h2 := tks9_len pln_ok9.1 pln_ok9.2 (by rw [plnL9_len]; omega) (by show 30 ≤ 32; omega) hf hm
  have := own_best9 hm hf
  omega
theorem tk9_bd {ZL ZD : List Int} (hL : errC ZL = 0) (hD : errC ZD = 0) (t : Tok7) : 0 ≤ tk9 ZL ZD t ∧ tk9 ZL ZD t ≤ 30 := by
  have g : ∀ (Z : List Int), errC Z = 0 → ∀ i, 0 ≤ Z.getD i 0 ∧ Z.getD i 0 ≤ 15 := fun Z h i => by
    have hb := (errS_zero (errC_zero h).1).2
    by_cases hi : i < Z.length
    · refine hb _ ?_
      simp only [List.getD, List.getElem?_eq_getElem hi, Option.getD_some]
      exact List.getElem_mem hi
    · simp only [List.getD, List.getElem?_eq_none (show Z.length ≤ i by omega), Option.getD_none]; omega
  unfold tk9
  split
  · have := g ZL hL t.lit.toNat; omega
  · have := g ZL hL (257 + lix9 t.len); have := g ZD hD (dix9 t.dist); omega
theorem tkm9_bd {ZL ZD : List Int} (hL : errC ZL = 0) (hD : errC ZD = 0) : ∀ l : List Tok7, 0 ≤ (l.map (tk9 ZL ZD)).sum ∧ (l.map (tk9 ZL ZD)).sum ≤ 30 * (l.length : Int)
  | [] => by simp
  | t :: r => by
    have h1 := tk9_bd hL hD t
    have h2 := tkm9_bd hL hD r
    rw [List.map_cons, List.sum_cons, List.length_cons]
    push_cast
    omega
end Go.Proofs.YtcifalelnfeggaaGreatDoor

namespace Go.Proofs.YtcifalelnfeggaaGreatDoor
open Go.RowKit
set_option linter.unusedVariables false

/-! The document's Whole, of bytes wherever they lie apart from the writer. -/
set_option maxRecDepth 100000 in
set_option maxHeartbeats 1000000 in
theorem rwhole9 (b B : Nat) (v : Value) (L : List Bool) (pa : Option Addr) (p : List Int) (pc : Nat) (w : World) (h : RwL w b B v L) (hs : Seg w pa p) (hfar : ∀ g off, pa = some ⟨g, off, none⟩ → 0 < p.length → ¬ WS b v g ∧ g < w.heap.size)
    (hl : L.length + 8 * p.length ≤ 140737488355200) :
    Calls Tryz.prog 59 #[.pointer (some ⟨b, 0, none⟩), .slice pa p.length pc] w fun e w' => e = .returned (.tuple #[]) ∧ ∃ v', RwL w' b B v' (alignL L ++ bB p) ∧ Kp (WS b v) w w' ∧ Fresh w v v' := by
  have C := rwalign_any b B v L w h (by omega)
  have hlA := alignL_len L
  have hpad : padN L.length < 8 := by unfold padN; omega
  have hAl : (alignL L).length ≤ L.length + 7 := by omega
  have HF : Hid (∀ v5, Fresh w v v5 → ∀ g off, pa = some ⟨g, off, none⟩ → 0 < p.length → ¬ WS b v5 g) := by
    intro v5 hf g off e hp
    have hg := hfar g off e hp
    rintro (e2 | e2)
    · exact hg.1 (.inl e2)
    · rcases hf g e2 with e3 | e3
      · exact hg.1 (.inr e3)
      · omega
  have HF0 : Hid (∀ g off, pa = some ⟨g, off, none⟩ → 0 < p.length → ¬ WS b v g) := fun g off e hp => (hfar g off e hp).1
  clear hlA hfar
  generalize alignL L = A at *
  go_enter Tryz.func59, Tryz.ntmps59
  go_wp2_with fail
  refine C.mono ?_
  rintro e w1 ⟨rfl, v1, g1, k1, f1⟩
  have s1 : Seg w1 pa p := hs.kp k1 HF0.out
  clear C
  go_wp2
  go_loopw [10] (fun ti wr => ∃ (i : Nat) (v5 : Value), i ≤ p.length ∧ ti = .int .i64 (i : Int) ∧ RwL wr b B v5 (A ++ bB (p.take i)) ∧ Seg wr pa p ∧ Kp (WS b v) w wr ∧ Fresh w v v5) (fun ti _ => p.length - (intOf ti).toNat)
  case atStart => exact ⟨0, v1, Nat.zero_le _, rfl, by simpa [bB] using g1, s1, k1, f1⟩
  case round =>
    obtain ⟨i, v5, hi, rfl, q2, qs, qk, qf⟩ := hrel
    clear g1 s1 k1 f1
    by_cases hlt : i < p.length
    · have hlt2 : (i : Int) < (p.length : Int) := by omega
      have s2 := qs
      obtain ⟨g, off, rfl, hcell⟩ := qs.at_ i hlt
      have hz := qs.bd i
      have HT : Hid (bB (p.take (i + 1)) = bB (p.take i) ++ bN (p.getD i 0).toNat 8) := by
        show _ = _
        rw [List.take_succ_eq_append_getElem hlt, bB_append, bB_one]
        simp [List.getD, hlt]
      have hlen : (A ++ bB (p.take i)).length = A.length + 8 * i := by rw [List.length_append, bB_len, List.length_take]; omega
      have C := rput_ok b B v5 (A ++ bB (p.take i)) (p.getD i 0).toNat 8 wr q2 (by omega) (by decide) (by omega)
      rw [Int.toNat_of_nonneg hz.1] at C
      clear hlen
      generalize p.getD i 0 = z at *
      go_wp2_with fail
      refine C.mono ?_
      rintro e wD ⟨rfl, v6, g6, k6, f6⟩
      have sD := s2.kp k6 (HF.out v5 qf)
      go_wp2
      go_roundw
      case rel => exact ⟨i + 1, v6, by omega, by go_num, by rw [HT.out, ← List.append_assoc]; exact g6, sD, qk.trans k6 (fun j hj e => ws_back qf hj e), qf.trans f6 qk.size⟩
      case measure => simp [intOf]; omega
    · have HI : Hid (i = p.length) := by show _ = _; omega
      have hge : (p.length : Int) ≤ (i : Int) := by omega
      clear hlt hi
      go_wp2
      go_end0
      rw [HI.out, List.take_length] at q2
      exact ⟨rfl, v5, q2, qk, qf⟩

end Go.Proofs.YtcifalelnfeggaaGreatDoor

namespace Go.Proofs.YtcifalelnfeggaaGreatDoor
open Go.RowKit
set_option linter.unusedVariables false

/-! The document's Write: a Plain block. -/
theorem segB3_9 (w : World) (x y z : Bool) : SegB (w.alloc (.cells #[.bool x, .bool y, .bool z] 4)) (some ⟨w.heap.size, 0, none⟩) [x, y, z] := by
  have hh := heap_alloc_new w (.cells #[.bool x, .bool y, .bool z] 4)
  refine ⟨fun i hi => ⟨w.heap.size, 0, rfl, ?_⟩⟩
  simp only [List.length_cons, List.length_nil] at hi
  rw [Nat.zero_add, cell_of_row _ _ i _ _ _ hh]
  match i, hi with
  | 0, _ => rfl
  | 1, _ => rfl
  | 2, _ => rfl
set_option maxRecDepth 100000 in
set_option maxHeartbeats 8000000 in
theorem rwr9_plain (bx B : Nat) (u : Value) (L : List Bool) (last : Bool) (xa : Option Addr) (nx xc : Nat) (l : List Tok7) (a : Option Addr) (n cap : Nat) (hn : Hid (l.length = n)) (w : World) (hw : RwL w bx B u L) (hL : L.length ≤ 100000000000) (hs : SegT w a l) (hm : mer9 l = 0) (hx : siz7 l = nx) (fa : ∀ g o, a = some ⟨g, o, none⟩ → 0 < l.length → ¬ WS bx u g) :
    Calls Tryz.prog 35 #[.pointer (some ⟨bx, 0, none⟩), .int .i64 1, .bool last, .slice xa nx xc, .slice a n cap] w fun e w' => e = .returned (.int .i64 0) ∧ RwI w w' bx B u (L ++ ([last, true, false] ++ bdy9 plnL9 plnD9 l)) := by
  obtain ⟨ib, hib, hb0, hb1, hb2⟩ := info_parts info_b1
  have hn6 : n ≤ 65536 := by have := (mer9_zero hm).1; rw [hn.out] at this; exact this
  have CM := rmay9 l a n cap hn w hs (by omega)
  rw [hm] at CM
  have HSZ : Hid (∀ W, Below w.heap.size w W → Calls Tryz.prog 32 #[.slice a n cap] W fun e w' => e = .returned (.int .i64 (nx : Int)) ∧ Below W.heap.size W w') := fun W hW => by
    have := rsize7 l a n cap hn W (hs.old hW) (by omega)
    rw [hx] at this
    exact this
  have HS : Hid (SegT w a l) := hs
  have HMM : Hid (mer9 l = 0) := hm
  have HRW : Hid (RwL w bx B u L) := hw
  have HFA : Hid (∀ g o, a = some ⟨g, o, none⟩ → 0 < l.length → ¬ WS bx u g) := fa
  have a1 : bits .and .i64 1 1 = 1 := by decide
  have a2 : bits .and .i64 1 2 = 0 := by decide
  clear hs hm hx hw fa
  go_enter Tryz.func35, Tryz.ntmps35
  go_wp2_with fail
  refine CM.mono ?_
  rintro e w1 ⟨rfl, b1⟩
  clear CM
  go_wp2_with fail
  refine (HSZ.out w1 b1).mono ?_
  rintro e w2 ⟨rfl, b2⟩
  have B2 : Below w.heap.size w w2 := b1.trans (b2.mono b1.size)
  have R2 := HRW.out.below8 B2
  obtain ⟨ua, uc, rfl, r7⟩ := R2
  have hd0 := r7.cell0
  have hdf := r7.free 0
  have hne := r7.ne
  have hB7 := r7.bB
  have hl7 := r7.b_lt
  have HR7 : Hid (RB w2 bx B 67 [] ua uc L) := r7
  clear b1 b2 HSZ r7
  have b3 := below_box8 w2 (.cells #[.bool last, .bool true, .bool false] 4)
  have HR3 : Hid (RB (w2.alloc (.cells #[.bool last, .bool true, .bool false] 4)) bx B 67 [] ua uc L) := HR7.out.kp (kp_of_below b3 (fun _ => False)) (fun h => h) (fun _ _ h => h)
  have hd1 := HR3.out.cell0
  have hdf1 := HR3.out.free 0
  have hl3 := HR3.out.b_lt
  have hB3 := HR3.out.bB
  have S3 := segB3_9 w2 last true false
  have HB3 : Hid (Below w.heap.size w (w2.alloc (.cells #[.bool last, .bool true, .bool false] 4))) := B2.trans (b3.mono B2.size)
  clear HR7 b3 hB7 hl7
  go_wp2_with (first | (at_builtin; refine wpList_appB rfl (.tmp 45) (.tmp 53) 65 rfl B 4 ib _ 1 Tryz.underlying65 hib hb0 hb1 hb2 rfl HR3.out.own S3 (by intro h; cases h) rfl rfl (by simp only [List.length_cons, List.length_nil]; omega) (by simp only [List.length_cons, List.length_nil]; omega) hB3 ?_; intro b8 c8 w8 own8 gr8 fr8; have hx0 := (gr8.cell_far ⟨bx, 0, none⟩ hl3 (Ne.symm hne)).trans hd1; have hxf := (gr8.frozen_far ⟨bx, 0, none⟩ hl3 (Ne.symm hne)).trans hdf1))
  have hlen : (L ++ [last, true, false]).length = L.length + 3 := by rw [List.length_append]; rfl
  have hst := HR3.out.store (L' := L ++ [last, true, false]) (a' := b8) (cap' := c8) (Kp.grown gr8 (fun i e => e)) (by rw [hlen, List.map_append]; exact own8) (by rw [hlen]; exact fr8)
  rw [hlen] at hst
  have HI10 : RwI w (w8.setCell ⟨bx, 0, none⟩ (.slice b8 (L.length + 3) c8)) bx B (.slice ua L.length uc) (L ++ [last, true, false]) := RwI.next (kp_of_below HB3.out (WS bx (.slice ua L.length uc))) (fun k e => .inl e) ⟨b8, c8, by rw [hlen], hst.1⟩ hst.2.1 hst.2.2
  generalize w8.setCell ⟨bx, 0, none⟩ (.slice b8 (L.length + 3) c8) = w10 at *
  clear hst own8 gr8 fr8 hx0 hxf HR3 hd1 hdf1 hl3 hB3 S3 HB3 hd0 hdf hne
  obtain ⟨U, hU⟩ : ∃ U, U = Value.slice ua L.length uc := ⟨_, rfl⟩
  have HUU : Hid (Value.slice ua L.length uc = U) := hU.symm
  rw [← hU] at HI10 HFA HRW
  obtain ⟨v1, r1, k1, f1⟩ := HI10
  refine (rplain9 w10).mono ?_
  rintro e w11 ⟨la, lc, da, dc, rfl, sL, sD, fL, fD, b11⟩
  have hbx : bx < w10.heap.size := by obtain ⟨_, _, _, r⟩ := r1; exact r.b_lt
  have hown : ∀ k, v1.ownBlock = some k → k < w10.heap.size := fun k e => by obtain ⟨_, _, rfl, r⟩ := r1; exact (r.own.lt k e).2
  have hfar : ∀ g, w10.heap.size ≤ g → ¬ WS bx v1 g := fun g hg => by
    rintro (e | e)
    · omega
    · have := hown g e; omega
  have K11 : Kp (WS bx U) w w11 := k1.trans (S' := fun _ => False) (kp_of_below b11 _) (fun _ _ e => e.elim)
  have HNX : Hid (∀ W M, RwI w11 W bx B v1 M → RwI w W bx B U M) := fun W M h => by
    obtain ⟨v2, r2, kk, ff⟩ := h
    exact RwI.next K11 f1 r2 kk ff
  have hsA := HS.out
  have CB := rbody9 bx B v1 (L ++ [last, true, false]) l a n cap hn plnL9 plnD9 la da 288 lc 32 dc plnL9_len rfl w11 (r1.below8 b11) (by rw [hlen]; omega) (hsA.kp K11 HFA.out) sL sD pln_ok9.1 pln_ok9.2 hn6 (by omega) (by omega) (mer9_zero HMM.out).2 (hc9_plain HMM.out hsA.fit) (fun g o e hp => by
      have h1 := HFA.out g o e hp
      have h2 := hsA.lt g o e hp
      rintro (e2 | e2)
      · exact h1 (.inl e2)
      · rcases f1 g e2 with e3 | e3
        · exact h1 (.inr e3)
        · omega) (fun g o e _ => hfar g (fL _ e)) (fun g o e _ => hfar g (fD _ e))
  rw [List.append_assoc] at CB
  have HEND : Hid (∀ W, RwI w11 W bx B v1 (L ++ ([last, true, false] ++ bdy9 plnL9 plnD9 l)) → RwI w W bx B (.slice ua L.length uc) (L ++ ([last, true, false] ++ bdy9 plnL9 plnD9 l))) := fun W h => by rw [HUU.out]; exact HNX.out W _ h
  clear sL sD fL fD b11 hbx hown hfar K11 r1 k1 f1 hU hsA hlen
  go_wp2_with fail
  refine CB.mono ?_
  rintro e w12 ⟨rfl, HI12⟩
  have HF := HEND.out w12 HI12
  clear CB HI12
  go_wp2_with fail
  go_ret
  exact ⟨rfl, HF⟩
end Go.Proofs.YtcifalelnfeggaaGreatDoor

namespace Go.Proofs.YtcifalelnfeggaaGreatDoor
open Go.RowKit
set_option linter.unusedVariables false

/-! The document's Write: an Own block. -/
set_option maxRecDepth 100000 in
set_option maxHeartbeats 8000000 in
theorem rwr9_own (bx B : Nat) (u : Value) (L : List Bool) (last : Bool) (xa : Option Addr) (nx xc : Nat) (l : List Tok7) (a : Option Addr) (n cap : Nat) (hn : Hid (l.length = n)) (w : World) (hw : RwL w bx B u L) (hL : L.length ≤ 100000000000) (hs : SegT w a l) (hm : mer9 l = 0) (hx : siz7 l = nx) (fa : ∀ g o, a = some ⟨g, o, none⟩ → 0 < l.length → ¬ WS bx u g) :
    Calls Tryz.prog 35 #[.pointer (some ⟨bx, 0, none⟩), .int .i64 2, .bool last, .slice xa nx xc, .slice a n cap] w fun e w' => e = .returned (.int .i64 0) ∧ RwI w w' bx B u (L ++ ([last, false, true] ++ (hd8 (oL9 (tal9 l)) (oD9 (tal9 l)) ++ bdy9 (oL9 (tal9 l)) (oD9 (tal9 l)) l))) := by
  obtain ⟨ib, hib, hb0, hb1, hb2⟩ := info_parts info_b1
  have hn6 : n ≤ 65536 := by have := (mer9_zero hm).1; rw [hn.out] at this; exact this
  have CM := rmay9 l a n cap hn w hs (by omega)
  rw [hm] at CM
  have HSZ : Hid (∀ W, Below w.heap.size w W → Calls Tryz.prog 32 #[.slice a n cap] W fun e w' => e = .returned (.int .i64 (nx : Int)) ∧ Below W.heap.size W w') := fun W hW => by
    have := rsize7 l a n cap hn W (hs.old hW) (by omega)
    rw [hx] at this
    exact this
  have HS : Hid (SegT w a l) := hs
  have HMM : Hid (mer9 l = 0) := hm
  have HRW : Hid (RwL w bx B u L) := hw
  have HFA : Hid (∀ g o, a = some ⟨g, o, none⟩ → 0 < l.length → ¬ WS bx u g) := fa
  have a1 : bits .and .i64 2 1 = 0 := by decide
  have a2 : bits .and .i64 2 2 = 2 := by decide
  clear hs hm hx hw fa
  go_enter Tryz.func35, Tryz.ntmps35
  go_wp2_with fail
  refine CM.mono ?_
  rintro e w1 ⟨rfl, b1⟩
  clear CM
  go_wp2_with fail
  refine (HSZ.out w1 b1).mono ?_
  rintro e w2 ⟨rfl, b2⟩
  have B2 : Below w.heap.size w w2 := b1.trans (b2.mono b1.size)
  have R2 := HRW.out.below8 B2
  obtain ⟨ua, uc, rfl, r7⟩ := R2
  have hd0 := r7.cell0
  have hdf := r7.free 0
  have hne := r7.ne
  have hB7 := r7.bB
  have hl7 := r7.b_lt
  have HR7 : Hid (RB w2 bx B 67 [] ua uc L) := r7
  clear b1 b2 HSZ r7
  have b3 := below_box8 w2 (.cells #[.bool last, .bool false, .bool true] 4)
  have HR3 : Hid (RB (w2.alloc (.cells #[.bool last, .bool false, .bool true] 4)) bx B 67 [] ua uc L) := HR7.out.kp (kp_of_below b3 (fun _ => False)) (fun h => h) (fun _ _ h => h)
  have hd1 := HR3.out.cell0
  have hdf1 := HR3.out.free 0
  have hl3 := HR3.out.b_lt
  have hB3 := HR3.out.bB
  have S3 := segB3_9 w2 last false true
  have HB3 : Hid (Below w.heap.size w (w2.alloc (.cells #[.bool last, .bool false, .bool true] 4))) := B2.trans (b3.mono B2.size)
  clear HR7 b3 hB7 hl7
  go_wp2_with (first | (at_builtin; refine wpList_appB rfl (.tmp 45) (.tmp 53) 65 rfl B 4 ib _ 1 Tryz.underlying65 hib hb0 hb1 hb2 rfl HR3.out.own S3 (by intro h; cases h) rfl rfl (by simp only [List.length_cons, List.length_nil]; omega) (by simp only [List.length_cons, List.length_nil]; omega) hB3 ?_; intro b8 c8 w8 own8 gr8 fr8; have hx0 := (gr8.cell_far ⟨bx, 0, none⟩ hl3 (Ne.symm hne)).trans hd1; have hxf := (gr8.frozen_far ⟨bx, 0, none⟩ hl3 (Ne.symm hne)).trans hdf1))
  have hlen : (L ++ [last, false, true]).length = L.length + 3 := by rw [List.length_append]; rfl
  have hst := HR3.out.store (L' := L ++ [last, false, true]) (a' := b8) (cap' := c8) (Kp.grown gr8 (fun i e => e)) (by rw [hlen, List.map_append]; exact own8) (by rw [hlen]; exact fr8)
  rw [hlen] at hst
  have HI10 : RwI w (w8.setCell ⟨bx, 0, none⟩ (.slice b8 (L.length + 3) c8)) bx B (.slice ua L.length uc) (L ++ [last, false, true]) := RwI.next (kp_of_below HB3.out (WS bx (.slice ua L.length uc))) (fun k e => .inl e) ⟨b8, c8, by rw [hlen], hst.1⟩ hst.2.1 hst.2.2
  generalize w8.setCell ⟨bx, 0, none⟩ (.slice b8 (L.length + 3) c8) = w10 at *
  clear hst own8 gr8 fr8 hx0 hxf HR3 hd1 hdf1 hl3 hB3 S3 HB3 hd0 hdf hne
  obtain ⟨U, hU⟩ : ∃ U, U = Value.slice ua L.length uc := ⟨_, rfl⟩
  have HUU : Hid (Value.slice ua L.length uc = U) := hU.symm
  rw [← hU] at HI10 HFA HRW
  obtain ⟨v1, r1, k1, f1⟩ := HI10
  have KA : Kp (WS bx U) w w10 := k1
  have CO := rown9 l a n cap hn w10 (HS.out.kp KA HFA.out) (by omega)
  have hct := tal9_ct HMM.out HS.out.fit
  have HLN := oL9_len hct
  obtain ⟨ec1, ec2, htld⟩ := own_told9 HMM.out HS.out.fit
  have hhc := hc9_own HMM.out HS.out.fit
  rw [show owa9 l = oL9 (tal9 l) from if_pos HMM.out, show owd9 l = oD9 (tal9 l) from if_pos HMM.out, HMM.out] at CO
  obtain ⟨ZL, hZL⟩ : ∃ Z, Z = oL9 (tal9 l) := ⟨_, rfl⟩
  obtain ⟨ZD, hZD⟩ : ∃ Z, Z = oD9 (tal9 l) := ⟨_, rfl⟩
  rw [← hZL, ← hZD] at CO HLN htld hhc
  rw [← hZL] at ec1
  rw [← hZD] at ec2
  have HN1 : Hid (ZL.length = 286) := HLN.1
  have HN2 : Hid (ZD.length = 30) := HLN.2
  have HZZ : Hid (oL9 (tal9 l) = ZL ∧ oD9 (tal9 l) = ZD) := ⟨hZL.symm, hZD.symm⟩
  have HTL : Hid (tld8 errC ZL ZD) := htld
  have HEC : Hid (errC ZL = 0 ∧ errC ZD = 0 ∧ Hc9 ZL ZD l) := ⟨ec1, ec2, hhc⟩
  clear hct HLN htld hhc ec1 ec2 hZL hZD KA
  refine CO.mono ?_
  rintro e w11 ⟨la, lc, da, dc, rfl, sL, sD, fL, fD, b11⟩
  rw [HN1.out, HN2.out]
  have hbx : bx < w10.heap.size := by obtain ⟨_, _, _, r⟩ := r1; exact r.b_lt
  have hown : ∀ k, v1.ownBlock = some k → k < w10.heap.size := fun k e => by obtain ⟨_, _, rfl, r⟩ := r1; exact (r.own.lt k e).2
  have hfar : ∀ g, w10.heap.size ≤ g → ¬ WS bx v1 g := fun g hg => by
    rintro (e | e)
    · omega
    · have := hown g e; omega
  have K11 : Kp (WS bx U) w w11 := k1.trans (S' := fun _ => False) (kp_of_below b11 _) (fun _ _ e => e.elim)
  obtain ⟨gl, ol, rfl, _⟩ := sL.at_ 0 (by rw [HN1.out]; omega)
  obtain ⟨gd, od, rfl, _⟩ := sD.at_ 0 (by rw [HN2.out]; omega)
  have hcl := (fL _ rfl).2
  have hcd := (fD _ rfl).2
  rw [HN1.out] at hcl
  rw [HN2.out] at hcd
  have CW := rwrite8 bx B v1 (L ++ [last, false, true]) ZL ZD (some ⟨gl, ol, none⟩) (some ⟨gd, od, none⟩) 286 30 lc dc HN1 HN2 w11 (r1.below8 b11) (by rw [hlen]; omega) sL sD hcl hcd (by intro h; cases h) (by intro h; cases h)
  unfold DwQ at CW
  rw [if_pos HTL.out, if_pos HTL.out] at CW
  have HF1 : Hid (¬ WS bx v1 gl ∧ ¬ WS bx v1 gd) := ⟨hfar gl (fL _ rfl).1, hfar gd (fD _ rfl).1⟩
  have hsA := HS.out
  have HFA1 : Hid (∀ g o, a = some ⟨g, o, none⟩ → 0 < l.length → ¬ WS bx v1 g ∧ g < w.heap.size) := fun g o e hp => by
    have h1 := HFA.out g o e hp
    have h2 := hsA.lt g o e hp
    refine ⟨?_, h2⟩
    rintro (e2 | e2)
    · exact h1 (.inl e2)
    · rcases f1 g e2 with e3 | e3
      · exact h1 (.inr e3)
      · omega
  have HSW : Hid (SegT w11 a l ∧ SegZ w11 (some ⟨gl, ol, none⟩) ZL ∧ SegZ w11 (some ⟨gd, od, none⟩) ZD) := ⟨hsA.kp K11 HFA.out, sL, sD⟩
  have HNX : Hid (∀ W M, RwI w11 W bx B v1 M → RwI w W bx B U M) := fun W M h => by
    obtain ⟨v2, r2, kk, ff⟩ := h
    exact RwI.next K11 f1 r2 kk ff
  have HLT : Hid (gl < w11.heap.size ∧ gd < w11.heap.size ∧ w.heap.size ≤ w11.heap.size) := ⟨sL.lt gl ol rfl (by rw [HN1.out]; omega), sD.lt gd od rfl (by rw [HN2.out]; omega), K11.size⟩
  have HHL : Hid ((hd8 ZL ZD).length ≤ 5000) := by show _ ≤ _; rw [hd8_len HTL.out]; exact cst8_bd9 HTL.out
  clear CO sL sD fL fD b11 hbx hown hfar K11 r1 k1 f1 hsA hcl hcd
  go_wp2_with fail
  refine CW.mono ?_
  rintro e w12 ⟨rfl, HI12⟩
  clear CW
  have HI12b := HI12
  obtain ⟨v2, r2, k2, f2⟩ := HI12
  have hv2 : ∀ g, ¬ WS bx v1 g → g < w11.heap.size → ¬ WS bx v2 g := fun g h1 h2 => by
    rintro (e | e)
    · exact h1 (.inl e)
    · rcases f2 g e with e3 | e3
      · exact h1 (.inr e3)
      · omega
  have CB := rbody9 bx B v2 (L ++ [last, false, true] ++ hd8 ZL ZD) l a n cap hn ZL ZD (some ⟨gl, ol, none⟩) (some ⟨gd, od, none⟩) 286 lc 30 dc HN1 HN2 w12 r2 (by rw [List.length_append, hlen]; have := HHL.out; omega) (HSW.out.1.kp k2 (fun g o e hp => (HFA1.out g o e hp).1)) (HSW.out.2.1.kp k2 (fun g o e _ => by cases e; exact HF1.out.1)) (HSW.out.2.2.kp k2 (fun g o e _ => by cases e; exact HF1.out.2)) HEC.out.1 HEC.out.2.1 hn6 (by omega) (by omega) (mer9_zero HMM.out).2 HEC.out.2.2 (fun g o e hp => hv2 g (HFA1.out g o e hp).1 (by have := (HFA1.out g o e hp).2; have := HLT.out.2.2; omega)) (fun g o e _ => by cases e; exact hv2 _ HF1.out.1 HLT.out.1) (fun g o e _ => by cases e; exact hv2 _ HF1.out.2 HLT.out.2.1)
  have HEND : Hid (∀ W, RwI w12 W bx B v2 (L ++ [last, false, true] ++ hd8 ZL ZD ++ bdy9 ZL ZD l) → RwI w W bx B (.slice ua L.length uc) (L ++ ([last, false, true] ++ (hd8 (oL9 (tal9 l)) (oD9 (tal9 l)) ++ bdy9 (oL9 (tal9 l)) (oD9 (tal9 l)) l)))) := fun W h => by
    obtain ⟨v3, r3, k3, f3⟩ := h
    have := HNX.out W _ (RwI.next k2 f2 r3 k3 f3)
    rw [HUU.out, HZZ.out.1, HZZ.out.2]
    simp only [List.append_assoc] at this ⊢
    exact this
  clear r2 k2 f2 hv2 HI12b hU hlen
  go_wp2_with fail
  refine CB.mono ?_
  rintro e w13 ⟨rfl, HI13⟩
  have HF := HEND.out w13 HI13
  clear CB HI13
  go_wp2_with fail
  go_ret
  exact ⟨rfl, HF⟩
end Go.Proofs.YtcifalelnfeggaaGreatDoor

namespace Go.Proofs.YtcifalelnfeggaaGreatDoor
open Go.RowKit
set_option linter.unusedVariables false

/-! The document's Write: a Stored block. -/
theorem xor16_nat9 {n : Nat} (h : n ≤ 65535) : n ^^^ 65535 = 65535 - n := by
  refine Nat.eq_of_testBit_eq fun i => ?_
  have e1 : (65535 : Nat).testBit i = decide (i < 16) := by
    have := Nat.testBit_two_pow_sub_one 16 i
    simpa using this
  have e2 : (65535 - n).testBit i = (decide (i < 16) && !n.testBit i) := by
    have := Nat.testBit_two_pow_sub_succ (x := n) (n := 16) (by omega) i
    rwa [show 2 ^ 16 - (n + 1) = 65535 - n by omega] at this
  rw [Nat.testBit_xor, e1, e2]
  by_cases hi : i < 16
  · simp [hi]
  · have : n.testBit i = false := Nat.testBit_lt_two_pow (Nat.lt_of_lt_of_le (show n < 2 ^ 16 by omega) (Nat.pow_le_pow_right (by omega) (by omega)))
    simp [hi, this]
theorem xor16_9 {n : Nat} (h : n ≤ 65535) : bits .xor .u64 (n : Int) 65535 = ((65535 - n : Nat) : Int) := by
  have := u64_xor_nat n 65535 (by omega) (by omega)
  rw [xor16_nat9 h] at this
  exact this
set_option maxRecDepth 100000 in
set_option maxHeartbeats 8000000 in
theorem rwr9_stored (bx B : Nat) (u : Value) (L : List Bool) (last : Bool) (data : List Int) (xa : Option Addr) (nx xc : Nat) (hdl : Hid (data.length = nx)) (l : List Tok7) (a : Option Addr) (n cap : Nat) (hn : Hid (l.length = n)) (w : World) (hw : RwL w bx B u L) (hL : L.length ≤ 100000000000) (hs : SegT w a l) (hm : mer9 l = 0) (hx : siz7 l = nx) (hx6 : nx ≤ 65535) (hsd : Seg w xa data) (fx : ∀ g o, xa = some ⟨g, o, none⟩ → 0 < data.length → ¬ WS bx u g ∧ g < w.heap.size) (fa : ∀ g o, a = some ⟨g, o, none⟩ → 0 < l.length → ¬ WS bx u g) :
    Calls Tryz.prog 35 #[.pointer (some ⟨bx, 0, none⟩), .int .i64 0, .bool last, .slice xa nx xc, .slice a n cap] w fun e w' => e = .returned (.int .i64 0) ∧ RwI w w' bx B u (L ++ ([last, false, false] ++ (List.replicate (padN (L.length + 3)) false ++ bN nx 16 ++ bN (65535 - nx) 16 ++ bB data))) := by
  obtain ⟨ib, hib, hb0, hb1, hb2⟩ := info_parts info_b1
  have hn6 : n ≤ 65536 := by have := (mer9_zero hm).1; rw [hn.out] at this; exact this
  have CM := rmay9 l a n cap hn w hs (by omega)
  rw [hm] at CM
  have HSZ : Hid (∀ W, Below w.heap.size w W → Calls Tryz.prog 32 #[.slice a n cap] W fun e w' => e = .returned (.int .i64 (nx : Int)) ∧ Below W.heap.size W w') := fun W hW => by
    have := rsize7 l a n cap hn W (hs.old hW) (by omega)
    rw [hx] at this
    exact this
  have HS : Hid (SegT w a l) := hs
  have HMM : Hid (mer9 l = 0) := hm
  have HRW : Hid (RwL w bx B u L) := hw
  have HFA : Hid (∀ g o, a = some ⟨g, o, none⟩ → 0 < l.length → ¬ WS bx u g) := fa
  have a1 : bits .and .i64 0 1 = 0 := by decide
  have a2 : bits .and .i64 0 2 = 0 := by decide
  have HSD : Hid (Seg w xa data) := hsd
  have HFX : Hid (∀ g o, xa = some ⟨g, o, none⟩ → 0 < data.length → ¬ WS bx u g ∧ g < w.heap.size) := fx
  have hxx : bits .xor .u64 (nx : Int) 65535 = ((65535 - nx : Nat) : Int) := xor16_9 hx6
  have hx6i : ¬ (65535 : Int) < (nx : Int) := by omega
  clear hs hm hx hw fa hsd fx
  go_enter Tryz.func35, Tryz.ntmps35
  go_wp2_with fail
  refine CM.mono ?_
  rintro e w1 ⟨rfl, b1⟩
  clear CM
  go_wp2_with fail
  refine (HSZ.out w1 b1).mono ?_
  rintro e w1' ⟨rfl, b1'⟩
  have b1 : Below w.heap.size w w1' := b1.trans (b1'.mono b1.size)
  clear b1'
  go_wp2_with fail
  refine (HSZ.out w1' b1).mono ?_
  rintro e w2 ⟨rfl, b2⟩
  have B2 : Below w.heap.size w w2 := b1.trans (b2.mono b1.size)
  have R2 := HRW.out.below8 B2
  obtain ⟨ua, uc, rfl, r7⟩ := R2
  have hd0 := r7.cell0
  have hdf := r7.free 0
  have hne := r7.ne
  have hB7 := r7.bB
  have hl7 := r7.b_lt
  have HR7 : Hid (RB w2 bx B 67 [] ua uc L) := r7
  clear b1 b2 HSZ r7
  have b3 := below_box8 w2 (.cells #[.bool last, .bool false, .bool false] 4)
  have HR3 : Hid (RB (w2.alloc (.cells #[.bool last, .bool false, .bool false] 4)) bx B 67 [] ua uc L) := HR7.out.kp (kp_of_below b3 (fun _ => False)) (fun h => h) (fun _ _ h => h)
  have hd1 := HR3.out.cell0
  have hdf1 := HR3.out.free 0
  have hl3 := HR3.out.b_lt
  have hB3 := HR3.out.bB
  have S3 := segB3_9 w2 last false false
  have HB3 : Hid (Below w.heap.size w (w2.alloc (.cells #[.bool last, .bool false, .bool false] 4))) := B2.trans (b3.mono B2.size)
  clear HR7 b3 hB7 hl7
  go_wp2_with (first | (at_builtin; refine wpList_appB rfl (.tmp 45) (.tmp 53) 65 rfl B 4 ib _ 1 Tryz.underlying65 hib hb0 hb1 hb2 rfl HR3.out.own S3 (by intro h; cases h) rfl rfl (by simp only [List.length_cons, List.length_nil]; omega) (by simp only [List.length_cons, List.length_nil]; omega) hB3 ?_; intro b8 c8 w8 own8 gr8 fr8; have hx0 := (gr8.cell_far ⟨bx, 0, none⟩ hl3 (Ne.symm hne)).trans hd1; have hxf := (gr8.frozen_far ⟨bx, 0, none⟩ hl3 (Ne.symm hne)).trans hdf1))
  have hlen : (L ++ [last, false, false]).length = L.length + 3 := by rw [List.length_append]; rfl
  have hst := HR3.out.store (L' := L ++ [last, false, false]) (a' := b8) (cap' := c8) (Kp.grown gr8 (fun i e => e)) (by rw [hlen, List.map_append]; exact own8) (by rw [hlen]; exact fr8)
  rw [hlen] at hst
  have HI10 : RwI w (w8.setCell ⟨bx, 0, none⟩ (.slice b8 (L.length + 3) c8)) bx B (.slice ua L.length uc) (L ++ [last, false, false]) := RwI.next (kp_of_below HB3.out (WS bx (.slice ua L.length uc))) (fun k e => .inl e) ⟨b8, c8, by rw [hlen], hst.1⟩ hst.2.1 hst.2.2
  generalize w8.setCell ⟨bx, 0, none⟩ (.slice b8 (L.length + 3) c8) = w10 at *
  clear hst own8 gr8 fr8 hx0 hxf HR3 hd1 hdf1 hl3 hB3 S3 HB3 hd0 hdf hne
  obtain ⟨U, hU⟩ : ∃ U, U = Value.slice ua L.length uc := ⟨_, rfl⟩
  have HUU : Hid (Value.slice ua L.length uc = U) := hU.symm
  rw [← hU] at HI10 HFA HRW HFX
  obtain ⟨v1, r1, k1, f1⟩ := HI10
  have CA := rwalign_any bx B v1 (L ++ [last, false, false]) w10 r1 (by rw [hlen]; omega)
  have HAL : Hid (alignL (L ++ [last, false, false]) = L ++ [last, false, false] ++ List.replicate (padN (L.length + 3)) false) := by show _ = _; unfold alignL; rw [hlen]
  have hpad : padN (L.length + 3) < 8 := by unfold padN; omega
  have hmod : (L.length + 3 + padN (L.length + 3)) % 8 = 0 := by unfold padN; omega
  rw [HAL.out] at CA
  obtain ⟨A, hA⟩ : ∃ A, A = L ++ [last, false, false] ++ List.replicate (padN (L.length + 3)) false := ⟨_, rfl⟩
  have hAl : A.length = L.length + 3 + padN (L.length + 3) := by rw [hA, List.length_append, hlen, List.length_replicate]
  rw [← hA] at CA
  have HAA : Hid (A = L ++ [last, false, false] ++ List.replicate (padN (L.length + 3)) false) := hA
  have hAm : A.length % 8 = 0 := by rw [hAl]; exact hmod
  have hAb : A.length ≤ 100000000010 := by rw [hAl]; omega
  clear hA hmod hAl hpad HAL hlen
  refine CA.mono ?_
  rintro e w11 ⟨rfl, v2, r2, k2, f2⟩
  have HI11 : RwI w w11 bx B U A := RwI.next k1 f1 r2 k2 f2
  have CP1 := rput8 HI11 nx 16 (by omega) (by omega) (by omega)
  clear CA r1 k1 f1 r2 k2 f2 HI11
  go_wp2_with fail
  refine CP1.mono ?_
  rintro e w12 ⟨rfl, HI12⟩
  have CP2 := rput8 HI12 (65535 - nx) 16 (by omega) (by omega) (by rw [List.length_append, bN_len]; omega)
  clear CP1 HI12
  go_wp2_with fail
  refine CP2.mono ?_
  rintro e w13 ⟨rfl, HI13⟩
  obtain ⟨v3, r3, k3, f3⟩ := HI13
  have hl3 : (A ++ bN nx 16 ++ bN (65535 - nx) 16).length = A.length + 32 := by rw [List.length_append, List.length_append, bN_len, bN_len]
  have CW := rwhole9 bx B v3 (A ++ bN nx 16 ++ bN (65535 - nx) 16) xa data xc w13 r3 (HSD.out.kp k3 (fun g o e hp => (HFX.out g o e hp).1)) (fun g o e hp => by
    have h1 := HFX.out g o e hp
    refine ⟨?_, Nat.lt_of_lt_of_le h1.2 k3.size⟩
    rintro (e2 | e2)
    · exact h1.1 (.inl e2)
    · rcases f3 g e2 with e3 | e3
      · exact h1.1 (.inr e3)
      · have := h1.2; omega) (by rw [hl3, hdl.out]; omega)
  have HAL2 : alignL (A ++ bN nx 16 ++ bN (65535 - nx) 16) = A ++ bN nx 16 ++ bN (65535 - nx) 16 := by
    unfold alignL
    rw [hl3, show padN (A.length + 32) = 0 by unfold padN; omega, List.replicate_zero, List.append_nil]
  rw [HAL2, hdl.out] at CW
  have HFIN : Hid (∀ W v4, RwL W bx B v4 (A ++ bN nx 16 ++ bN (65535 - nx) 16 ++ bB data) → Kp (WS bx v3) w13 W → Fresh w13 v3 v4 → RwI w W bx B (.slice ua L.length uc) (L ++ ([last, false, false] ++ (List.replicate (padN (L.length + 3)) false ++ bN nx 16 ++ bN (65535 - nx) 16 ++ bB data)))) := fun W v4 h1 h2 h3 => by
    have := RwI.next k3 f3 h1 h2 h3
    rw [HUU.out]
    rw [HAA.out] at this
    simp only [List.append_assoc] at this ⊢
    exact this
  clear CP2 hl3 HAL2 k3 f3 r3 hU
  go_wp2_with fail
  refine CW.mono ?_
  rintro e w14 ⟨rfl, v4, r4, k4, f4⟩
  have HF := HFIN.out w14 v4 r4 k4 f4
  clear CW r4 k4 f4 HFIN
  go_wp2_with fail
  go_ret
  exact ⟨rfl, HF⟩
end Go.Proofs.YtcifalelnfeggaaGreatDoor

namespace Go.Proofs.YtcifalelnfeggaaGreatDoor
open Go.RowKit
set_option linter.unusedVariables false

/-! The document's Write, whatever the kind. -/
theorem pad9_mod (n : Nat) : padN (n + 3) = (8 - (n % 8 + 3) % 8) % 8 := by unfold padN; omega
theorem rwr9_any (bx B : Nat) (u : Value) (L : List Bool) (last : Bool) (data : List Int) (xa : Option Addr) (nx xc : Nat) (hdl : Hid (data.length = nx)) (l : List Tok7) (a : Option Addr) (n cap : Nat) (hn : Hid (l.length = n)) (k : Nat) (hk : k < 3) (w : World) (hw : RwL w bx B u L) (hL : L.length ≤ 100000000000) (hs : SegT w a l) (hm : mer9 l = 0) (hx : siz7 l = nx) (hx6 : k = 0 → nx ≤ 65535) (hsd : Seg w xa data) (fx : ∀ g o, xa = some ⟨g, o, none⟩ → 0 < data.length → ¬ WS bx u g ∧ g < w.heap.size) (fa : ∀ g o, a = some ⟨g, o, none⟩ → 0 < l.length → ¬ WS bx u g) :
    Calls Tryz.prog 35 #[.pointer (some ⟨bx, 0, none⟩), .int .i64 (k : Int), .bool last, .slice xa nx xc, .slice a n cap] w fun e w' => e = .returned (.int .i64 0) ∧ RwI w w' bx B u (L ++ blk9 k (L.length % 8) last data l) := by
  obtain rfl | rfl | rfl : k = 0 ∨ k = 1 ∨ k = 2 := by omega
  · have := rwr9_stored bx B u L last data xa nx xc hdl l a n cap hn w hw hL hs hm hx (hx6 rfl) hsd fx fa
    unfold blk9
    rw [if_pos rfl, ← pad9_mod, hdl.out]
    exact this
  · have := rwr9_plain bx B u L last xa nx xc l a n cap hn w hw hL hs hm hx fa
    unfold blk9
    rw [if_neg (by omega), if_pos rfl]
    exact this
  · have := rwr9_own bx B u L last xa nx xc l a n cap hn w hw hL hs hm hx fa
    unfold blk9
    rw [if_neg (by omega), if_neg (by omega)]
    exact this
theorem ple9_zero {k x : Int} {l : List Tok7} (h : ple9 k x l = 0) : (0 ≤ k ∧ k ≤ 2) ∧ (0 ≤ x ∧ x ≤ 7) ∧ mer9 l = 0 ∧ (tal9 l).getD 0 0 ≤ mst9 k.toNat := by
  unfold ple9 at h
  split at h
  · omega
  · split at h
    · rename_i h2
      exact absurd h h2
    · split at h
      · omega
      · rename_i h1 h2 h3
        exact ⟨by omega, by omega, Decidable.of_not_not h2, by omega⟩
theorem ple9_in' {x i : Nat} (hx : x < 8) (hi : i < 3) {l : List Tok7} (hm : mer9 l = 0) : ple9 (i : Int) (x : Int) l = if mst9 i < (tal9 l).getD 0 0 then 90 else 0 := by
  unfold ple9
  rw [if_neg (by omega), if_neg (by omega), Int.toNat_natCast]
theorem info_b9 : (Tryz.prog.info? 4).map (fun i => (i.zero, i.size, i.bytes)) = some (some (.bool false), 1, 1) := by kernel_rfl
theorem made_falses9 (n : Nat) : madeCells #[.bool false] n = ((List.replicate n false).map Value.bool).toArray := by
  apply Array.toList_inj.1
  rw [toList_madeCells_one]
  simp
theorem run_make_bools9 (n : Nat) (h : n ≤ 140737488355328) (w : World) :
    (Instr.makeSlice 65 (.int .i64 (n : Int)) (.int .i64 (n : Int))).run Tryz.prog w = .ok (.slice (some ⟨w.heap.size, 0, none⟩) n n) (w.alloc (.cells ((List.replicate n false).map Value.bool).toArray 4)) := by
  rw [← made_falses9]
  exact run_make_row' 65 4 (.bool false) 1 Tryz.underlying65 info_b9 rfl .i64 .i64 n (by omega) (by omega) w
theorem made_rowB9 (w : World) (bs : List Bool) (e : TypeId) (h : bs.length ≤ 140737488355328) : (w.alloc (.cells (bs.map Value.bool).toArray e)).ownsRow w.heap.size e 1 (.slice (some ⟨w.heap.size, 0, none⟩) bs.length bs.length) bs.length (bs.map Value.bool) := by
  refine ⟨by simp, .inr ⟨w.heap.size, bs.length, (bs.map Value.bool).toArray, rfl, Nat.le_refl _, heap_alloc_new w _, Nat.le_refl _, ?_, by simp, ?_⟩⟩
  · unfold maxLen
    omega
  · simp only [Nat.mul_one]
    exact List.take_of_length_le (by simp)
end Go.Proofs.YtcifalelnfeggaaGreatDoor

namespace Go.Proofs.YtcifalelnfeggaaGreatDoor
open Go.RowKit
set_option linter.unusedVariables false

/-! The document's Cost. -/
theorem zeros_bd9 (n : Nat) : ∀ z ∈ List.replicate n (0 : Int), 0 ≤ z ∧ z ≤ 255 := by
  intro z hz
  obtain ⟨_, rfl⟩ := List.mem_replicate.1 hz
  decide
theorem rep_arr9 (n : Nat) : ((List.replicate n (0 : Int)).map (Value.int .u8)).toArray = Array.replicate n (Value.int .u8 0) := by simp
theorem run_make_arr9 (n : Nat) (h : n ≤ 140737488355328) (w : World) :
    (Instr.makeSlice 59 (.int .i64 (n : Int)) (.int .i64 (n : Int))).run Tryz.prog w = .ok (.slice (some ⟨w.heap.size, 0, none⟩) n n) (w.alloc (.cells (Array.replicate n (Value.int .u8 0)) 5)) := by
  rw [← rep_arr9]
  exact run_make_noughts n h w
theorem made_seg9 {w w2 : World} {n : Nat} (h : n ≤ 140737488355328) (hw : w2 = w.alloc (.cells (Array.replicate n (Value.int .u8 0)) 5)) : Seg w2 (some ⟨w.heap.size, 0, none⟩) (List.replicate n (0 : Int)) := by
  have := made_row w (List.replicate n (0 : Int)) 5 (by rw [List.length_replicate]; omega)
  rw [rep_arr9, ← hw] at this
  obtain ⟨_, a5, c5, hv5, s5, _⟩ := own_seg (M := 255) this (by omega) (zeros_bd9 n)
  injection hv5 with h5 _ _
  rw [h5]
  exact s5
def RcQ9 (w : World) (v er : Int) (e : Ending) (w' : World) : Prop := e = .returned (.tuple #[.int .i64 v, .int .i64 er]) ∧ Below w.heap.size w w'
set_option maxRecDepth 100000 in
set_option maxHeartbeats 4000000 in
theorem rcst9_arg (k x : Int) (h : k < 0 ∨ 2 < k ∨ x < 0 ∨ 7 < x) (v : Value) (w : World) : Calls Tryz.prog 26 #[.int .i64 k, .int .i64 x, v] w (RcQ9 w 0 1) := by
  by_cases h1 : k < 0
  · go_enter Tryz.func26, Tryz.ntmps26
    go_wp2_with fail
    go_ret2
    exact ⟨rfl, Below.refl _ _⟩
  · by_cases h2 : 2 < k
    · go_enter Tryz.func26, Tryz.ntmps26
      go_wp2_with fail
      go_ret2
      exact ⟨rfl, Below.refl _ _⟩
    · by_cases h3 : x < 0
      · go_enter Tryz.func26, Tryz.ntmps26
        go_wp2_with fail
        go_ret2
        exact ⟨rfl, Below.refl _ _⟩
      · have h4 : 7 < x := by omega
        go_enter Tryz.func26, Tryz.ntmps26
        go_wp2_with fail
        go_ret2
        exact ⟨rfl, Below.refl _ _⟩
set_option maxRecDepth 100000 in
set_option maxHeartbeats 8000000 in
theorem rcst9_in (l : List Tok7) (a : Option Addr) (n cap : Nat) (hn : Hid (l.length = n)) (k x : Nat) (hk : k < 3) (hx : x < 8) (w : World) (hs : SegT w a l) (hl : n ≤ 5864062014634) :
    Calls Tryz.prog 26 #[.int .i64 (k : Int), .int .i64 (x : Int), .slice a n cap] w (RcQ9 w (if ple9 (k : Int) (x : Int) l = 0 then cos9 k x (tal9 l) else 0) (ple9 (k : Int) (x : Int) l)) := by
  have j1 : ¬ (k : Int) < 0 := by omega
  have j2 : ¬ (2 : Int) < (k : Int) := by omega
  have j3 : ¬ (x : Int) < 0 := by omega
  have j4 : ¬ (7 : Int) < (x : Int) := by omega
  have hmb := fun (m : Nat) (h : m ≤ 140737488355328) => run_make_arr9 m h
  obtain ⟨wA, hwA⟩ : ∃ wA, wA = w.alloc (.cells ((List.replicate x false).map Value.bool).toArray 4) := ⟨_, rfl⟩
  obtain ⟨w0, hw0⟩ : ∃ w0, w0 = wA.alloc (.cells #[.slice (some ⟨w.heap.size, 0, none⟩) x x] 67) := ⟨_, rfl⟩
  have sA : wA.heap.size = w.heap.size + 1 := by rw [hwA]; simp
  have s0 : w0.heap.size = w.heap.size + 2 := by rw [hw0]; simp [sA]
  have BA : Below w.heap.size w wA := by rw [hwA]; exact below_box8 w _
  have B0 : Below w.heap.size w w0 := by rw [hw0]; exact BA.trans ((below_box8 wA _).mono (by omega))
  have OA : wA.ownsRow w.heap.size 4 1 (.slice (some ⟨w.heap.size, 0, none⟩) x x) x ((List.replicate x false).map Value.bool) := by
    have := made_rowB9 w (List.replicate x false) 4 (by rw [List.length_replicate]; omega)
    rw [List.length_replicate, ← hwA] at this
    exact this
  have RW : RwL w0 (w.heap.size + 1) w.heap.size (.slice (some ⟨w.heap.size, 0, none⟩) x x) (List.replicate x false) := by
    refine ⟨some ⟨w.heap.size, 0, none⟩, x, by rw [List.length_replicate], ?_⟩
    refine ⟨?_, ?_, ?_, by omega⟩
    · rw [List.length_replicate, hw0, ← sA]
      exact heap_alloc_new wA _
    · rw [List.length_replicate, hw0]
      exact OA.alloc _
    · simp [Value.ownBlock]
  have hps : ple9 (k : Int) (x : Int) l = if mer9 l ≠ 0 then mer9 l else if mst9 k < (tal9 l).getD 0 0 then 90 else 0 := by
    unfold ple9
    rw [if_neg (by omega), Int.toNat_natCast]
  have HWA : Hid (w.alloc (.cells ((List.replicate x false).map Value.bool).toArray 4) = wA) := hwA.symm
  have HW0 : Hid (wA.alloc (.cells #[.slice (some ⟨w.heap.size, 0, none⟩) x x] 67) = w0) := hw0.symm
  have hmk1 : (Instr.makeSlice 65 (.int .i64 (x : Int)) (.int .i64 (x : Int))).run Tryz.prog w = .ok (.slice (some ⟨w.heap.size, 0, none⟩) x x) wA := by rw [run_make_bools9 x (by omega), ← hwA]
  clear OA hwA hw0
  have CM := rmay9 l a n cap hn w0 (hs.old B0) hl
  by_cases hm : mer9 l = 0
  · rw [hm] at CM
    rw [if_neg (by omega)] at hps
    have hn6 : n ≤ 65536 := by have := (mer9_zero hm).1; rw [hn.out] at this; exact this
    have hsz := siz7_le l
    rw [hn.out] at hsz
    have hts := tal9_size hm hs.fit
    obtain ⟨nx, hnx⟩ : ∃ nx, nx = siz7 l := ⟨_, rfl⟩
    have HSZ : Hid (∀ W, Below w.heap.size w W → Calls Tryz.prog 32 #[.slice a n cap] W fun e w' => e = .returned (.int .i64 (nx : Int)) ∧ Below W.heap.size W w') := fun W hW => by
      have := rsize7 l a n cap hn W (hs.old hW) (by omega)
      rw [← hnx] at this
      exact this
    have HNX : Hid (siz7 l = nx) := hnx.symm
    rw [← hnx] at hts hsz
    rw [hts] at hps
    have HPS : Hid (ple9 (k : Int) (x : Int) l = if mst9 k < (nx : Int) then 90 else 0) := hps
    have HS : Hid (SegT w a l) := hs
    have HMM : Hid (mer9 l = 0) := hm
    have HRW : Hid (RwL w0 (w.heap.size + 1) w.heap.size (.slice (some ⟨w.heap.size, 0, none⟩) x x) (List.replicate x false)) := RW
    have HB0 : Hid (Below w.heap.size w w0) := B0
    clear hs hm hnx hts hps RW BA
    by_cases hlong : k = 0 ∧ 65535 < nx
    · obtain ⟨rfl, hbig⟩ := hlong
      have hbi : (65535 : Int) < (nx : Int) := by omega
      have hp : ple9 ((0 : Nat) : Int) (x : Int) l = 90 := by rw [HPS.out]; unfold mst9; rw [if_pos rfl, if_pos hbi]
      rw [hp, if_neg (by omega)]
      clear HPS hp
      go_enter Tryz.func26, Tryz.ntmps26
      go_wp2_with fail
      rw [HW0.out]
      refine CM.mono ?_
      rintro e w1 ⟨rfl, b1⟩
      have B1 : Below w.heap.size w w1 := HB0.out.trans (b1.mono HB0.out.size)
      clear CM b1
      go_wp2_with fail
      refine (HSZ.out w1 B1).mono ?_
      rintro e w2 ⟨rfl, b2⟩
      have B2 : Below w.heap.size w w2 := B1.trans (b2.mono B1.size)
      clear HSZ
      go_wp2_with fail
      go_ret2
      exact ⟨rfl, B2⟩
    · have hx6 : k = 0 → nx ≤ 65535 := fun h => by have : ¬ 65535 < nx := fun q => hlong ⟨h, q⟩; omega
      have hp : ple9 (k : Int) (x : Int) l = 0 := by
        rw [HPS.out, if_neg]
        unfold mst9
        split
        · rename_i h; have := hx6 h; omega
        · omega
      rw [hp, if_pos rfl]
      have hmb1 := hmb nx (by omega)
      have HWR : Hid (∀ W2 W3 : World, Below w0.heap.size w0 W2 → W3 = W2.alloc (.cells (Array.replicate nx (Value.int .u8 0)) 5) → Calls Tryz.prog 35 #[.pointer (some ⟨w.heap.size + 1, 0, none⟩), .int .i64 (k : Int), .bool false, .slice (some ⟨W2.heap.size, 0, none⟩) nx nx, .slice a n cap] W3 fun e w' => e = .returned (.int .i64 0) ∧ (∃ b c, w'.cell? ⟨w.heap.size + 1, 0, none⟩ = some (.slice b (x + (cos9 k x (tal9 l)).toNat) c)) ∧ Below w.heap.size w w') := fun W2 W3 h2 h3 => by
        have b3 : Below W2.heap.size W2 W3 := by rw [h3]; exact below_box8 W2 _
        have b03 : Below w0.heap.size w0 W3 := h2.trans (b3.mono h2.size)
        have RW3 := HRW.out.below8 b03
        have hW2 := h2.size
        have hs3 : W3.heap.size = W2.heap.size + 1 := by rw [h3]; simp
        have HD : Hid ((List.replicate nx (0 : Int)).length = nx) := List.length_replicate
        have SD : Seg W3 (some ⟨W2.heap.size, 0, none⟩) (List.replicate nx (0 : Int)) := made_seg9 (by omega) h3
        have C := rwr9_any (w.heap.size + 1) w.heap.size (.slice (some ⟨w.heap.size, 0, none⟩) x x) (List.replicate x false) false (List.replicate nx (0 : Int)) (some ⟨W2.heap.size, 0, none⟩) nx nx HD l a n cap hn k hk W3 RW3 (by rw [List.length_replicate]; omega) (HS.out.old (HB0.out.trans (b03.mono HB0.out.size))) HMM.out HNX.out hx6 SD (fun g o e _ => by
          simp only [Option.some.injEq, Addr.mk.injEq] at e
          refine ⟨?_, by omega⟩
          rintro (q | q)
          · omega
          · simp [Value.ownBlock] at q; omega) (fun g o e h => by
          have := HS.out.lt g o e h
          rintro (q | q)
          · omega
          · simp [Value.ownBlock] at q; omega)
        refine C.mono ?_
        rintro e w4 ⟨rfl, v4, ⟨ua, uc, rfl, r4⟩, k4, f4⟩
        have hc := r4.cell0
        have hlen : (List.replicate x false ++ blk9 k ((List.replicate x false).length % 8) false (List.replicate nx (0 : Int)) l).length = x + (cos9 k x (tal9 l)).toNat := by
          have h1 := blk9_len (x := x) hk (last := false) (data := List.replicate nx (0 : Int)) HMM.out HS.out.fit (by rw [List.length_replicate, tal9_size HMM.out HS.out.fit, HNX.out])
          rw [List.length_append, List.length_replicate, Nat.mod_eq_of_lt hx, ← h1, Int.toNat_natCast]
        rw [hlen] at hc
        refine ⟨rfl, ⟨ua, uc, hc⟩, ?_⟩
        have b3w : Below w.heap.size w W3 := HB0.out.trans (b03.mono HB0.out.size)
        exact b3w.trans (k4.below (fun i e => by
          rcases e with e | e
          · omega
          · simp [Value.ownBlock] at e; omega) b3w.size)
      have hcb := cos9_bd (k := k) (x := x) (tal9_ct HMM.out HS.out.fit)
      obtain ⟨C, hC⟩ : ∃ C : Nat, (C : Int) = cos9 k x (tal9 l) := ⟨(cos9 k x (tal9 l)).toNat, by omega⟩
      rw [← hC] at hcb HWR ⊢
      simp only [Int.toNat_natCast] at HWR
      clear hC hp HPS HRW hmb
      go_enter Tryz.func26, Tryz.ntmps26
      go_wp2_with fail
      rw [HW0.out]
      refine CM.mono ?_
      rintro e w1 ⟨rfl, b1⟩
      have B1 : Below w.heap.size w w1 := HB0.out.trans (b1.mono HB0.out.size)
      have HB1 : Hid (Below w0.heap.size w0 w1) := b1
      clear CM b1
      by_cases hk0 : k = 0
      · subst hk0
        have hxi : ¬ (65535 : Int) < (nx : Int) := by have := hx6 rfl; omega
        go_wp2_with fail
        refine (HSZ.out w1 B1).mono ?_
        rintro e w2 ⟨rfl, b2⟩
        have B2 : Below w.heap.size w w2 := B1.trans (b2.mono B1.size)
        have HB2 : Hid (Below w0.heap.size w0 w2) := HB1.out.trans (b2.mono HB1.out.size)
        clear b2
        go_wp2_with fail
        refine (HSZ.out w2 B2).mono ?_
        rintro e w3 ⟨rfl, b3⟩
        have HB3 : Hid (Below w0.heap.size w0 w3) := HB2.out.trans (b3.mono HB2.out.size)
        have CW := HWR.out w3 _ HB3.out rfl
        clear b3 B1 B2
        go_wp2_with fail
        refine CW.mono ?_
        rintro e w4 ⟨rfl, ⟨b4, c4, d4⟩, B4⟩
        clear CW HWR
        go_wp2_with fail
        go_ret2
        refine ⟨?_, B4⟩
        show Ending.returned (.tuple #[.int .i64 ((x : Int) + (C : Int) - (x : Int)), .int .i64 0]) = _
        rw [show (x : Int) + (C : Int) - (x : Int) = (C : Int) by omega]
      · have hk0i : ¬ (k : Int) = 0 := by omega
        go_wp2_with fail
        refine (HSZ.out w1 B1).mono ?_
        rintro e w3 ⟨rfl, b3⟩
        have HB3 : Hid (Below w0.heap.size w0 w3) := HB1.out.trans (b3.mono HB1.out.size)
        have CW := HWR.out w3 _ HB3.out rfl
        clear b3 B1
        go_wp2_with fail
        refine CW.mono ?_
        rintro e w4 ⟨rfl, ⟨b4, c4, d4⟩, B4⟩
        clear CW HWR
        go_wp2_with fail
        go_ret2
        refine ⟨?_, B4⟩
        show Ending.returned (.tuple #[.int .i64 ((x : Int) + (C : Int) - (x : Int)), .int .i64 0]) = _
        rw [show (x : Int) + (C : Int) - (x : Int) = (C : Int) by omega]
  · have hE : ple9 (k : Int) (x : Int) l = mer9 l := by rw [hps, if_pos hm]
    rw [hE, if_neg hm]
    obtain ⟨E, hEE⟩ : ∃ E, E = mer9 l := ⟨_, rfl⟩
    rw [← hEE] at CM hm ⊢
    have hEb : (E == 0) = false := by rw [beq_eq_false_iff_ne]; exact hm
    clear hs hps hE hEE RW
    go_enter Tryz.func26, Tryz.ntmps26
    go_wp2_with fail
    rw [HW0.out]
    refine CM.mono ?_
    rintro e w1 ⟨rfl, b1⟩
    have B1 : Below w.heap.size w w1 := B0.trans (b1.mono B0.size)
    clear CM b1
    go_wp2_with fail
    go_ret2
    exact ⟨rfl, B1⟩
end Go.Proofs.YtcifalelnfeggaaGreatDoor

namespace Go.Proofs.YtcifalelnfeggaaGreatDoor
open Go.RowKit
set_option linter.unusedVariables false

/-! The document's Pick. -/
def cv9 (x : Nat) (l : List Tok7) (i : Nat) : Int := if ple9 (i : Int) (x : Int) l = 0 then cos9 i x (tal9 l) else 0
def rk9 (x : Nat) (l : List Tok7) : Nat → Int × Int
  | 0 => (-1, 0)
  | i + 1 => if ple9 (i : Int) (x : Int) l = 0 ∧ ((rk9 x l i).1 < 0 ∨ cv9 x l i < (rk9 x l i).2) then ((i : Int), cv9 x l i) else rk9 x l i
theorem rk9_step {x i : Nat} (hx : x < 8) (hi : i < 3) {l : List Tok7} (hm : mer9 l = 0) : rk9 x l (i + 1) = if mst9 i < (tal9 l).getD 0 0 then rk9 x l i else if (rk9 x l i).1 < 0 ∨ cos9 i x (tal9 l) < (rk9 x l i).2 then ((i : Int), cos9 i x (tal9 l)) else rk9 x l i := by
  rw [rk9]
  unfold cv9
  have h := ple9_in' hx hi hm
  by_cases hb : mst9 i < (tal9 l).getD 0 0
  · rw [if_pos hb] at h ⊢
    rw [if_neg]
    rintro ⟨h2, _⟩
    omega
  · rw [if_neg hb] at h ⊢
    rw [h]
    simp only [if_true, true_and]
theorem rk9_or {x : Nat} (hx : x < 8) {l : List Tok7} (hm : mer9 l = 0) (hf : ∀ t ∈ l, t.Fit) : ∀ i, i ≤ 3 → (rk9 x l i = (-1, 0) ∧ pk9 x (tal9 l) i = (0, 9223372036854775807)) ∨ (0 ≤ (rk9 x l i).1 ∧ rk9 x l i = pk9 x (tal9 l) i)
  | 0, _ => .inl ⟨rfl, rfl⟩
  | i + 1, hi => by
    have ih := rk9_or hx hm hf i (by omega)
    have hb := cos9_bd (k := i) (x := x) (tal9_ct hm hf)
    rw [rk9_step hx (by omega) hm, pk9]
    by_cases h : mst9 i < (tal9 l).getD 0 0
    · rw [if_pos h, if_pos h]
      exact ih
    · rw [if_neg h, if_neg h]
      rcases ih with ⟨h1, h2⟩ | ⟨h1, h2⟩
      · rw [h1, h2]
        right
        rw [if_pos (by left; simp only; omega), if_pos (by simp only; omega)]
        exact ⟨by simp only; omega, rfl⟩
      · rw [h2] at h1 ⊢
        by_cases h3 : cos9 i x (tal9 l) < (pk9 x (tal9 l) i).2
        · rw [if_pos (.inr h3), if_pos h3]
          exact .inr ⟨by simp only; omega, rfl⟩
        · rw [if_neg (by rintro (q | q) <;> omega), if_neg h3]
          exact .inr ⟨h1, rfl⟩
theorem rk9_eq {x : Nat} (hx : x < 8) {l : List Tok7} (hm : mer9 l = 0) (hf : ∀ t ∈ l, t.Fit) : rk9 x l 3 = pk9 x (tal9 l) 3 := by
  rcases rk9_or hx hm hf 3 (by omega) with ⟨h1, h2⟩ | ⟨_, h⟩
  · exfalso
    have hs := siz7_le l
    have hl := (mer9_zero hm).1
    have hz : ¬ mst9 2 < (tal9 l).getD 0 0 := by
      rw [tal9_size hm hf]
      unfold mst9
      rw [if_neg (by omega)]
      omega
    rw [rk9_step hx (by omega) hm, if_neg hz] at h1
    split at h1
    · have := congrArg Prod.fst h1
      simp at this
    · rename_i hq
      rw [h1] at hq
      apply hq
      left
      simp only
      omega
  · exact h
theorem rk9_bd (x : Nat) (l : List Tok7) : ∀ i, -1 ≤ (rk9 x l i).1 ∧ (rk9 x l i).1 ≤ (i : Int)
  | 0 => by rw [rk9]; simp only; omega
  | i + 1 => by
    have := rk9_bd x l i
    rw [rk9]
    split
    · simp only; omega
    · omega
set_option maxRecDepth 100000 in
set_option maxHeartbeats 4000000 in
theorem rpck9_no (l : List Tok7) (a : Option Addr) (n cap : Nat) (hn : Hid (l.length = n)) (x : Int) (w : World) (hs : SegT w a l) (hl : n ≤ 5864062014634) (hx : (x < 0 ∨ 8 ≤ x) ∨ mer9 l ≠ 0) :
    Calls Tryz.prog 28 #[.int .i64 x, .slice a n cap] w (RcQ9 w 0 (if x < 0 ∨ 8 ≤ x then 1 else mer9 l)) := by
  by_cases h1 : x < 0
  · rw [if_pos (.inl h1)]
    go_enter Tryz.func28, Tryz.ntmps28
    go_wp2_with fail
    go_ret2
    exact ⟨rfl, Below.refl _ _⟩
  · by_cases h2 : 7 < x
    · rw [if_pos (.inr (by omega))]
      go_enter Tryz.func28, Tryz.ntmps28
      go_wp2_with fail
      go_ret2
      exact ⟨rfl, Below.refl _ _⟩
    · have hm : mer9 l ≠ 0 := hx.resolve_left (by omega)
      rw [if_neg (by omega)]
      have CM := rmay9 l a n cap hn w hs hl
      obtain ⟨E, hEE⟩ : ∃ E, E = mer9 l := ⟨_, rfl⟩
      rw [← hEE] at CM hm ⊢
      have hEb : (E == 0) = false := by rw [beq_eq_false_iff_ne]; exact hm
      clear hs hEE hx
      go_enter Tryz.func28, Tryz.ntmps28
      go_wp2_with fail
      refine CM.mono ?_
      rintro e w1 ⟨rfl, b1⟩
      clear CM
      go_wp2_with fail
      go_ret2
      exact ⟨rfl, b1⟩
set_option maxRecDepth 100000 in
set_option maxHeartbeats 8000000 in
theorem rpck9_ok (l : List Tok7) (a : Option Addr) (n cap : Nat) (hn : Hid (l.length = n)) (x : Nat) (hx : x < 8) (w : World) (hs : SegT w a l) (hm : mer9 l = 0) :
    Calls Tryz.prog 28 #[.int .i64 (x : Int), .slice a n cap] w (RcQ9 w (pk9 x (tal9 l) 3).1 0) := by
  have hn6 : n ≤ 65536 := by have := (mer9_zero hm).1; rw [hn.out] at this; exact this
  have CM := rmay9 l a n cap hn w hs (by omega)
  rw [hm] at CM
  have j1 : ¬ (x : Int) < 0 := by omega
  have j2 : ¬ (7 : Int) < (x : Int) := by omega
  rw [← rk9_eq hx hm hs.fit]
  have HC : Hid (∀ W (i : Nat), i < 3 → Below w.heap.size w W → Calls Tryz.prog 26 #[.int .i64 (i : Int), .int .i64 (x : Int), .slice a n cap] W (RcQ9 W (cv9 x l i) (ple9 (i : Int) (x : Int) l))) := fun W i hi hW => rcst9_in l a n cap hn i x hi hx W (hs.old hW) (by omega)
  have HV : Hid (∀ i, 0 ≤ cv9 x l i ∧ cv9 x l i ≤ 20000000000000000) := fun i => by
    have := cos9_bd (k := i) (x := x) (tal9_ct hm hs.fit)
    unfold cv9
    split <;> omega
  clear hs hm
  go_enter Tryz.func28, Tryz.ntmps28
  go_wp2_with fail
  refine CM.mono ?_
  rintro e w1 ⟨rfl, b1⟩
  clear CM
  go_wp2_with fail
  go_loopw [7, 8, 9] (fun tb tl ti wr => ∃ (i : Nat), i ≤ 3 ∧ ti = .int .i64 (i : Int) ∧ tb = .int .i64 (rk9 x l i).1 ∧ tl = .int .i64 (rk9 x l i).2 ∧ Below w.heap.size w wr) (fun _ _ ti _ => 3 - (intOf ti).toNat)
  case atStart => exact ⟨0, by omega, rfl, rfl, rfl, b1⟩
  case round =>
    obtain ⟨i, hi3, rfl, rfl, rfl, BR⟩ := hrel
    clear b1
    by_cases hlt : i < 3
    · have hle : (i : Int) ≤ 2 := by omega
      have CC := HC.out wr i hlt BR
      have HST : Hid (rk9 x l (i + 1) = if ple9 (i : Int) (x : Int) l = 0 ∧ ((rk9 x l i).1 < 0 ∨ cv9 x l i < (rk9 x l i).2) then ((i : Int), cv9 x l i) else rk9 x l i) := rfl
      have hv := HV.out i
      generalize rk9 x l i = P at *
      obtain ⟨P1, P2⟩ := P
      simp only at HST ⊢
      generalize cv9 x l i = V at *
      generalize ple9 (i : Int) (x : Int) l = ER at *
      have i7 : IntKind.i64.wrap ((i : Int) + 1) = (i : Int) + 1 := IntWalk.i64_in _ (by omega)
      have HBR : Hid (Below w.heap.size w wr) := BR
      clear BR
      by_cases hE : ER = 0
      · subst hE
        by_cases hP : P1 < 0
        · rw [if_pos ⟨rfl, .inl hP⟩] at HST
          go_wp2_with fail
          refine CC.mono ?_
          rintro e w2 ⟨rfl, b2⟩
          have B2 : Below w.heap.size w w2 := HBR.out.trans (b2.mono HBR.out.size)
          clear CC b2
          go_wp2_with fail
          go_roundw
          case rel => exact ⟨i + 1, by omega, by go_num, by rw [HST.out], by rw [HST.out], B2⟩
          case measure => simp [intOf]; omega
        · by_cases hQ : V < P2
          · rw [if_pos ⟨rfl, .inr hQ⟩] at HST
            go_wp2_with fail
            refine CC.mono ?_
            rintro e w2 ⟨rfl, b2⟩
            have B2 : Below w.heap.size w w2 := HBR.out.trans (b2.mono HBR.out.size)
            clear CC b2
            go_wp2_with fail
            go_roundw
            case rel => exact ⟨i + 1, by omega, by go_num, by rw [HST.out], by rw [HST.out], B2⟩
            case measure => simp [intOf]; omega
          · rw [if_neg (by rintro ⟨_, q | q⟩ <;> omega)] at HST
            go_wp2_with fail
            refine CC.mono ?_
            rintro e w2 ⟨rfl, b2⟩
            have B2 : Below w.heap.size w w2 := HBR.out.trans (b2.mono HBR.out.size)
            clear CC b2
            go_wp2_with fail
            go_roundw
            case rel => exact ⟨i + 1, by omega, by go_num, by rw [HST.out], by rw [HST.out], B2⟩
            case measure => simp [intOf]; omega
      · have hEb : (ER == 0) = false := by rw [beq_eq_false_iff_ne]; exact hE
        rw [if_neg (fun q => hE q.1)] at HST
        go_wp2_with fail
        refine CC.mono ?_
        rintro e w2 ⟨rfl, b2⟩
        have B2 : Below w.heap.size w w2 := HBR.out.trans (b2.mono HBR.out.size)
        clear CC b2
        go_wp2_with fail
        go_roundw
        case rel => exact ⟨i + 1, by omega, by go_num, by rw [HST.out], by rw [HST.out], B2⟩
        case measure => simp [intOf]; omega
    · obtain rfl : i = 3 := by omega
      go_wp2_with fail
      go_ret2
      exact ⟨rfl, BR⟩
end Go.Proofs.YtcifalelnfeggaaGreatDoor
