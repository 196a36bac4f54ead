import Derived.Test.YtmddnmpldmdllaaDoorPb
import Derived.Test.YtmddnmpldmdllaaDoorPa
import Derived.Deep.WholeRow
import Derived.Laws.ResultCell
import Derived.Deep.MidRow
import Derived.Deep.RegionHeld3
namespace Go.Proofs.YtmddnmpldmdllaaDoor
open Go.RowKit
set_option linter.unusedVariables false

/-- A count that may be. -/
def okF (z : Int) : Bool := decide (0 ≤ z ∧ z ≤ 1099511627776)
/-- The error that counts have. -/
def errOf (zs : List Int) : Int := if 288 < zs.length then 40 else if zs.all okF then 0 else 42
theorem errOf_many {zs : List Int} (h : 288 < zs.length) : errOf zs = 40 := by simp [errOf, h]
theorem errOf_bad {zs : List Int} (h : ¬ 288 < zs.length) {k : Nat} (hk : k < zs.length) (hb : ¬ (0 ≤ zs.getD k 0 ∧ zs.getD k 0 ≤ 1099511627776)) : errOf zs = 42 := by
  have : zs.all okF = false := by
    rw [List.all_eq_false]
    refine ⟨zs.getD k 0, ?_, by simp only [okF, hb]; decide⟩
    simp [List.getD, hk]
  simp [errOf, h, this]
theorem all_snoc {zs : List Int} {k : Nat} (hk : k < zs.length) (h : (zs.take k).all okF = true) (hb : 0 ≤ zs.getD k 0 ∧ zs.getD k 0 ≤ 1099511627776) : (zs.take (k + 1)).all okF = true := by
  rw [take_snocZ hk, List.all_append, h]
  simp only [List.all_cons, List.all_nil, okF, hb]
  simp
theorem errOf_ok {zs : List Int} (h : ¬ 288 < zs.length) (ha : (zs.take zs.length).all okF = true) : errOf zs = 0 := by
  rw [List.take_of_length_le (Nat.le_refl _)] at ha
  simp [errOf, h, ha]
theorem errOf_zero {zs : List Int} (h : errOf zs = 0) : zs.length ≤ 288 ∧ ∀ i, 0 ≤ zs.getD i 0 ∧ zs.getD i 0 ≤ 1099511627776 := by
  unfold errOf at h
  split at h
  · omega
  · rename_i h1
    split at h
    · rename_i h2
      refine ⟨by omega, fun i => ?_⟩
      by_cases hi : i < zs.length
      · have := List.all_eq_true.1 h2 zs[i] (List.getElem_mem hi)
        simpa [okF, List.getD, hi] using this
      · simp [List.getD, List.getElem?_eq_none (Nat.le_of_not_lt hi)]
    · omega
theorem errOf_range (zs : List Int) : errOf zs = 0 ∨ errOf zs = 40 ∨ errOf zs = 42 := by
  unfold errOf
  split
  · exact .inr (.inl rfl)
  · split
    · exact .inl rfl
    · exact .inr (.inr rfl)

end Go.Proofs.YtmddnmpldmdllaaDoor

namespace Go.Proofs.YtmddnmpldmdllaaDoor
open Go.RowKit
set_option linter.unusedVariables false

/-- An array of numbers. -/
def arr (A : List Int) : Array Value := (A.map (Value.int .i64)).toArray
theorem arr_size (A : List Int) : (arr A).size = A.length := by simp [arr]
theorem arr_cell {w : World} {b : Nat} {A : List Int} {t : TypeId} (h : w.heap[b]? = some (.cells (arr A) t (0, 0))) {i : Nat} (hi : i < A.length) : w.cell? ⟨b, i, none⟩ = some (.int .i64 (A.getD i 0)) := by
  rw [cell_of_row w b i (arr A) t (0, 0) h]
  simp [arr, List.getD, hi]
theorem arr_free {w : World} {b : Nat} {A : List Int} {t : TypeId} (h : w.heap[b]? = some (.cells (arr A) t (0, 0))) (i : Nat) : w.frozen? ⟨b, i, none⟩ = false := frozen_of_row w b i (arr A) t h
theorem arr_set {w : World} {b : Nat} {A : List Int} {t : TypeId} (h : w.heap[b]? = some (.cells (arr A) t (0, 0))) (i : Nat) (v : Int) : (w.setCell ⟨b, i, none⟩ (.int .i64 v)).heap[b]? = some (.cells (arr (A.set i v)) t (0, 0)) := by
  rw [heap_setCell_same w b i (arr A) t _ h]
  congr 2
  simp [arr, List.map_set]
theorem arr_one (A : List Int) : (arr A).all (·.oneCell') = true := by
  simp [arr, Value.oneCell']
theorem arr_info {A : List Int} (h : A.length = 16) : (Tryd.prog.info? 65).map (·.size) = some (arr A).size := by
  rw [arr_size, h]
  kernel_rfl
theorem grown_setRow (w : World) (g : Nat) (cs : Array Value) : w.grownBy (w.setRow g cs) (some g) := ⟨rfl, rfl, rfl, by simp [World.setRow], fun k _ hk => setRow_other w g k cs (fun e => hk (by rw [e]))⟩
theorem grown_drew {w w' : World} {r : Option Nat} (h : w.grownBy w' r) : w.grownBy w'.drew r := ⟨h.os, h.tape, h.output, h.size, h.block⟩
theorem grown_drewN {w w' : World} {r : Option Nat} (h : w.grownBy w' r) (n : Nat) : w.grownBy (w'.drewN n) r := ⟨h.os, h.tape, h.output, h.size, h.block⟩
theorem set_grown (w : World) (g i : Nat) (v : Value) : w.grownBy (w.setCell ⟨g, i, none⟩ v) (some g) := ⟨rfl, rfl, rfl, by simp, fun k _ hk => heap_setCell_other w ⟨g, i, none⟩ k v (fun e => hk (by simp [e]))⟩
theorem results_ct {P : Program} {fn : Func} {p u : Tmp} {ty : TypeId} (h : fn.results = #[.cell p ty, .tmp u]) (tmps : Array Value) (w : World) (g : Nat) (t : TypeId) (cs : Array Value) (fr : Nat × Nat) (d : TypeDesc)
    (hp : tmps.getD p undef = .pointer (some ⟨g, 0, none⟩)) (hg : w.heap[g]? = some (.cells cs t fr))
    (hu : P.underlying ty = some d) (hd : (match d with | .struct _ | .array _ _ => true | _ => false) = true) (hi : (P.info? ty).map (·.size) = some cs.size) :
    (results fn tmps).run P w = .ok (.tuple #[.agg cs, tmps.getD u undef]) w := by
  rw [results_cell_tmp h, hp]
  simp [asAddr, Result.andThen, run_loadVar_row w g t ty cs fr d hg hu hd hi]
def zero16 : Array Value := #[.int .i64 0, .int .i64 0, .int .i64 0, .int .i64 0, .int .i64 0, .int .i64 0, .int .i64 0, .int .i64 0, .int .i64 0, .int .i64 0, .int .i64 0, .int .i64 0, .int .i64 0, .int .i64 0, .int .i64 0, .int .i64 0]
theorem zero16_arr : zero16 = arr (List.replicate 16 0) := rfl
theorem zero16_one : zero16.all (·.oneCell') = true := by rw [zero16_arr]; exact arr_one _
theorem arr_range {w : World} {b : Nat} {A : List Int} {t : TypeId} (h : w.heap[b]? = some (.cells (arr A) t (0, 0))) : w.rangeAt b 0 (A.map (Value.int .i64)) := by
  intro j v hv
  rw [Nat.zero_add, cell_of_row w b j (arr A) t (0, 0) h]
  simpa [arr] using hv
theorem range_old {w w' : World} {b o : Nat} {cs : List Value} (h : w.rangeAt b o cs) (hb : Below w.heap.size w w') (hl : b < w.heap.size) : w'.rangeAt b o cs := fun j v hv => (hb.cell (p := ⟨b, o + j, none⟩) hl).trans (h j v hv)
/-- How many codes of each length there are, as the program has it. -/
def cnts (zs : List Int) : List Int := (List.range 16).map fun l => (cC zs l : Int)
theorem cnts_len (zs : List Int) : (cnts zs).length = 16 := by simp [cnts]
theorem cnts_get (zs : List Int) {l : Nat} (h : l < 16) : (cnts zs).getD l 0 = (cC zs l : Int) := by simp [cnts, List.getD, h]
def fsts (zs : List Int) : List Int := (List.range 16).map fun l => (cF zs l : Int)
theorem fsts_len (zs : List Int) : (fsts zs).length = 16 := by simp [fsts]
theorem fsts_get (zs : List Int) {l : Nat} (h : l < 16) : (fsts zs).getD l 0 = (cF zs l : Int) := by simp [fsts, List.getD, h]
theorem cS_le (zs : List Int) {m : Nat} (h : ∀ l, cC zs l ≤ m) : ∀ l, cS zs l ≤ l * m
  | 0 => Nat.zero_le _
  | l + 1 => by
    rw [cS_succ, Nat.succ_mul]
    exact Nat.add_le_add (cS_le zs h l) (h l)

set_option maxRecDepth 100000 in
set_option maxHeartbeats 400000 in
theorem total_any (zs : List Int) (hb : ∀ l, cC zs l ≤ 288) (w : World) :
    Calls Tryd.prog 85 #[.agg (arr (cnts zs))] w fun e w' => e = .returned (.int .i64 (tot zs : Int)) ∧ Below w.heap.size w w' := by
  go_enter Tryd.func85, Tryd.ntmps85
  go_wp2_with fail
  have h0 : (w.alloc (.cells (arr (cnts zs)) 65)).heap[w.heap.size]? = some (.cells (arr (cnts zs)) 65 (0, 0)) := heap_alloc_new w _
  have B0 : Below w.heap.size w (w.alloc (.cells (arr (cnts zs)) 65)) := (Below.refl _ _).alloc (Nat.le_refl _) _
  generalize w.alloc (.cells (arr (cnts zs)) 65) = W at *
  go_loopw [3, 5] (fun ts tj wr => ∃ j : Nat, j ≤ 16 ∧ tj = .int .i64 (j : Int) ∧ ts = .int .i64 (cS zs j : Int) ∧ wr = W) (fun _ tj _ => 16 - (intOf tj).toNat)
  case atStart => exact ⟨0, by omega, rfl, rfl, rfl⟩
  case round =>
    obtain ⟨j, hj, rfl, rfl, hwr⟩ := hrel
    subst hwr
    by_cases hj6 : j < 16
    · have hji : (j : Int) < 16 := by omega
      have c0 := arr_cell h0 (i := j) (by rw [cnts_len]; exact hj6)
      rw [cnts_get zs hj6] at c0
      have hs := cS_le zs hb j
      have hc := hb j
      have hs2 : j * 288 ≤ 16 * 288 := Nat.mul_le_mul_right _ hj
      have HS : Hid (cS zs (j + 1) = cS zs j + cC zs j) := cS_succ zs j
      generalize cS zs j = s at *
      generalize cC zs j = c at *
      obtain ⟨t, ht⟩ : ∃ t, t = s + c := ⟨_, rfl⟩
      have r1 : (s : Int) + (c : Int) = (t : Int) := by omega
      have HT : Hid (t = s + c) := ht
      have htb : t ≤ 100000 := by omega
      clear ht hs hc hs2
      go_wp2
      go_roundw
      case rel => exact ⟨j + 1, by omega, by go_num, by rw [HS.out, HT.out], trivial⟩
      case measure => simp [intOf]; omega
    · obtain rfl : j = 16 := by omega
      go_wp2
      go_ret
      exact ⟨rfl, B0⟩

set_option maxRecDepth 100000 in
set_option maxHeartbeats 400000 in
theorem pspace_any (zs : List Int) (hb : ∀ l, cC zs l ≤ 288) (w : World) :
    Calls Tryd.prog 87 #[.agg (arr (cnts zs))] w fun e w' => e = .returned (.int .i64 (spc zs : Int)) ∧ Below w.heap.size w w' := by
  go_enter Tryd.func87, Tryd.ntmps87
  go_wp2_with fail
  have h0 : (w.alloc (.cells (arr (cnts zs)) 65)).heap[w.heap.size]? = some (.cells (arr (cnts zs)) 65 (0, 0)) := heap_alloc_new w _
  have B0 : Below w.heap.size w (w.alloc (.cells (arr (cnts zs)) 65)) := (Below.refl _ _).alloc (Nat.le_refl _) _
  generalize w.alloc (.cells (arr (cnts zs)) 65) = W at *
  go_loopw [3, 5] (fun ts tj wr => ∃ j : Nat, j ≤ 16 ∧ tj = .int .i64 (j : Int) ∧ ts = .int .i64 (cP zs j : Int) ∧ wr = W) (fun _ tj _ => 16 - (intOf tj).toNat)
  case atStart => exact ⟨0, by omega, rfl, rfl, rfl⟩
  case round =>
    obtain ⟨j, hj, rfl, rfl, hwr⟩ := hrel
    subst hwr
    by_cases hj6 : j < 16
    · have hji : (j : Int) < 16 := by omega
      have c0 := arr_cell h0 (i := j) (by rw [cnts_len]; exact hj6)
      rw [cnts_get zs hj6] at c0
      have hs := cP_le zs j
      have hs1 := cS_le zs hb j
      have hc := hb j
      have hs2 : j * 288 ≤ 16 * 288 := Nat.mul_le_mul_right _ hj
      have HS : Hid (cP zs (j + 1) = cP zs j + cC zs j * 2 ^ (15 - j)) := cP_succ zs j
      have hpb : 2 ^ (15 - j) ≤ 2 ^ 15 := Nat.pow_le_pow_right (by decide) (by omega)
      have hcp : cC zs j * 2 ^ (15 - j) ≤ 288 * 2 ^ 15 := Nat.mul_le_mul hc hpb
      obtain ⟨q, hq⟩ : ∃ q, q = 15 - j := ⟨_, rfl⟩
      have rq : 15 - (j : Int) = (q : Int) := by omega
      rw [← hq] at HS hcp
      obtain ⟨x, hx⟩ : ∃ x, x = cC zs j * 2 ^ q := ⟨_, rfl⟩
      have hxb : x ≤ 10000000 := by rw [hx]; exact Nat.le_trans hcp (by decide)
      have hw : RowKit.wrap64 ((cC zs j : Int) * 2 ^ q) = (x : Int) := by
        rw [hx, show ((cC zs j : Int) * 2 ^ q) = ((cC zs j * 2 ^ q : Nat) : Int) by simp, ← IntWalk.i64_left]
        exact IntWalk.i64_in _ (by omega)
      rw [← hx] at HS
      have hq15 : q ≤ 15 := by omega
      generalize cP zs j = s at *
      generalize cC zs j = c at *
      obtain ⟨t, ht⟩ : ∃ t, t = s + x := ⟨_, rfl⟩
      have r1 : (s : Int) + (x : Int) = (t : Int) := by omega
      have HT : Hid (t = s + x) := ht
      have htb : t ≤ 1000000000 := by omega
      clear ht hs hc hs2 hx hcp hpb hs1 hq
      go_wp2
      go_roundw
      case rel => exact ⟨j + 1, by omega, by go_num, by rw [HS.out, HT.out], trivial⟩
      case measure => simp [intOf]; omega
    · obtain rfl : j = 16 := by omega
      go_wp2
      go_ret
      exact ⟨rfl, B0⟩
end Go.Proofs.YtmddnmpldmdllaaDoor

namespace Go.Proofs.YtmddnmpldmdllaaDoor
open Go.RowKit
set_option linter.unusedVariables false

def fstk (zs : List Int) (j : Nat) : List Int := (List.range 16).map fun l => if l ≤ j then (cF zs l : Int) else 0
theorem fstk_len (zs : List Int) (j : Nat) : (fstk zs j).length = 16 := by simp [fstk]
theorem fstk_get (zs : List Int) {j l : Nat} (h : l < 16) : (fstk zs j).getD l 0 = if l ≤ j then (cF zs l : Int) else 0 := by simp [fstk, List.getD, h]
theorem fstk_set (zs : List Int) {j : Nat} (h : j + 1 < 16) : (fstk zs j).set (j + 1) (cF zs (j + 1) : Int) = fstk zs (j + 1) := by
  apply List.ext_getElem (by simp [fstk])
  intro i h1 h2
  simp only [List.getElem_set, fstk, List.getElem_map, List.getElem_range]
  by_cases e : j + 1 = i
  · subst e; simp
  · rw [if_neg e]
    by_cases c : i ≤ j
    · rw [if_pos c, if_pos (by omega)]
    · rw [if_neg c, if_neg (by omega)]
theorem fstk_zero (zs : List Int) : fstk zs 0 = List.replicate 16 0 := by
  simp [fstk, List.range, List.range.loop, cF]
theorem fstk_all (zs : List Int) : fstk zs 15 = fsts zs := by
  simp only [fstk, fsts]
  apply List.map_congr_left
  intro l hl
  rw [List.mem_range] at hl
  rw [if_pos (by omega)]

end Go.Proofs.YtmddnmpldmdllaaDoor

namespace Go.Proofs.YtmddnmpldmdllaaDoor
open Go.RowKit
set_option linter.unusedVariables false

/-- A length that may not be, or too many. -/
def okL (zs : List Int) : Bool := zs.all fun z => decide (0 ≤ z ∧ z ≤ 15)
def errS (zs : List Int) : Int := if 288 < zs.length then 50 else if okL zs then 0 else 50
theorem okL_iff {zs : List Int} : okL zs = true ↔ LOk zs := by simp [okL, LOk]
theorem errS_many {zs : List Int} (h : 288 < zs.length) : errS zs = 50 := by unfold errS; rw [if_pos h]
theorem errS_bad {zs : List Int} {i : Nat} (hi : i < zs.length) (h : ¬ (0 ≤ zs.getD i 0 ∧ zs.getD i 0 ≤ 15)) : errS zs = 50 := by
  unfold errS
  split
  · rfl
  · rw [if_neg]
    intro e
    exact h ((okL_iff.1 e).get i)
theorem errS_ok {zs : List Int} (h : ¬ 288 < zs.length) (h2 : LOk zs) : errS zs = 0 := by unfold errS; rw [if_neg h, if_pos (okL_iff.2 h2)]
theorem errS_zero {zs : List Int} (h : errS zs = 0) : zs.length ≤ 288 ∧ LOk zs := by
  unfold errS at h
  split at h
  · cases h
  · split at h
    · rename_i h1 h2
      exact ⟨by omega, okL_iff.1 h2⟩
    · cases h
theorem cnts_nil : cnts [] = List.replicate 16 0 := by rfl
theorem cnts_skip (zs : List Int) : cnts (zs ++ [0]) = cnts zs := by
  unfold cnts
  apply List.map_congr_left
  intro l _
  rw [cC_snoc, if_neg (by omega)]
  simp
theorem cnts_put (zs : List Int) {z : Nat} (h0 : 0 < z) : cnts (zs ++ [(z : Int)]) = (cnts zs).set z ((cC zs z : Int) + 1) := by
  apply List.ext_getElem (by simp [cnts])
  intro i h1 h2
  simp only [List.getElem_set, cnts, List.getElem_map, List.getElem_range]
  rw [cC_snoc]
  by_cases e : z = i
  · subst e
    rw [if_pos ⟨by omega, rfl⟩, if_pos rfl]
    simp
  · rw [if_neg (by omega), if_neg e]
    simp

set_option maxRecDepth 100000 in
set_option maxHeartbeats 1000000 in
theorem counted_any (a : Option Addr) (zs : List Int) (n cap : Nat) (hn : Hid (zs.length = n)) (w : World) (hs : SegZ w a zs) (hl : n ≤ 9223372036854775807) :
    Calls Tryd.prog 83 #[.slice a n cap] w fun e w' => ∃ X : List Int, X.length = 16 ∧ (errS zs = 0 → X = cnts zs) ∧ e = .returned (.tuple #[.agg (arr X), .int .i64 (errS zs)]) ∧ Below w.heap.size w w' := by
  go_enter Tryd.func83, Tryd.ntmps83
  have hr0 : (w.alloc (.cells zero16 65)).heap[w.heap.size]? = some (.cells zero16 65 (0, 0)) := heap_alloc_new w _
  have B0 : Below w.heap.size w (w.alloc (.cells zero16 65)) := (Below.refl _ _).alloc (Nat.le_refl _) _
  have hz0 : w.heap.size < (w.alloc (.cells zero16 65)).heap.size := by simp
  go_wp2_with fail
  change Code.wp _ _ _ _ (w.alloc (.cells zero16 65))
  generalize w.alloc (.cells zero16 65) = W0 at *
  obtain ⟨r, er⟩ : ∃ r, r = w.heap.size := ⟨_, rfl⟩
  have HR : Hid (r = w.heap.size) := er
  rw [← er] at hr0 hz0
  rw [← er]
  clear er
  have hrW : ∀ ob, (W0.alloc ob).heap[r]? = some (.cells zero16 65 (0, 0)) := fun ob => (((Below.refl _ W0).alloc (Nat.le_refl _) ob).block r hz0).trans hr0
  go_step3
  by_cases h288 : 288 < n
  · have h288i : (288 : Int) < (n : Int) := by omega
    go_wp2_with (first
        | (refine wpList_load_row rfl 65 (.tmp 4) rfl W0.heap.size rfl _ zero16 _ _ (heap_alloc_new W0 (.cells zero16 65)) Tryd.underlying65 rfl (by kernel_rfl) ?_)
        | (refine wpList_store_row rfl 65 (.tmp 2) (.tmp 11) rfl r zero16 rfl rfl _ _ (hrW (.cells zero16 65)) (by kernel_rfl) rfl zero16_one ?_))
    rw [Exit.noGoto_ret]
    have hR := setRow_heap (W0.alloc (.cells zero16 65)) r _ zero16 _ _ (hrW (.cells zero16 65))
    have B1 : Below w.heap.size w (W0.alloc (.cells zero16 65)) := B0.alloc B0.size _
    refine bodyPost_ret (v := .tuple #[.agg zero16, .int .i64 50]) (results_ct (fn := Tryd.f83) (p := 2) (u := 3) (ty := 65) rfl _ _ r _ _ _ _ rfl hR Tryd.underlying65 rfl (by kernel_rfl)) rfl ⟨List.replicate 16 0, by simp, ?_, ?_, ?_⟩
    · intro e
      rw [errS_many (by have := hn.out; omega)] at e
      cases e
    · rw [errS_many (by have := hn.out; omega)]
      rfl
    · exact B1.grown (grown_setRow _ r _) B1.size (fun k hk => by cases hk; exact Nat.le_of_eq HR.out.symm)
  · have h288i : ¬ (288 : Int) < (n : Int) := by omega
    go_wp2_with fail
    go_step3
    go_wp2_with fail
    have ho0 : (W0.alloc (.cells zero16 65)).heap[W0.heap.size]? = some (.cells (arr (cnts [])) 65 (0, 0)) := heap_alloc_new W0 _
    have B1 : Below w.heap.size w (W0.alloc (.cells zero16 65)) := B0.alloc B0.size _
    have hr1 := hrW (.cells zero16 65)
    change Code.wp _ _ _ _ (W0.alloc (.cells zero16 65))
    generalize W0.alloc (.cells zero16 65) = W1 at *
    obtain ⟨o, eo⟩ : ∃ o, o = W0.heap.size := ⟨_, rfl⟩
    have HO : Hid (r < o ∧ w.heap.size ≤ r) := ⟨by omega, Nat.le_of_eq HR.out.symm⟩
    rw [← eo] at ho0
    rw [← eo]
    clear eo hrW
    go_loopw [5, 14] (fun te tj wr => ∃ j : Nat, j ≤ n ∧ te = .int .i64 0 ∧ tj = .int .i64 (j : Int) ∧ wr.heap[o]? = some (.cells (arr (cnts (zs.take j))) 65 (0, 0)) ∧ W1.grownBy wr (some o) ∧ Hid (∀ i, i < j → 0 ≤ zs.getD i 0 ∧ zs.getD i 0 ≤ 15)) (fun _ tj _ => n - (intOf tj).toNat)
    case atStart => exact ⟨0, by omega, rfl, rfl, by simpa using ho0, World.grownBy.refl _ _, fun i h => by omega⟩
    case round =>
      obtain ⟨j, hj, rfl, rfl, ho, hg, HOK⟩ := hrel
      have hr2 := (hg.block r (Array.getElem?_eq_some_iff.1 hr1).1 (by have := HO.out; simp; omega)).trans hr1
      have Bw := B1.grown hg B1.size (fun k hk => by cases hk; have := HO.out; omega)
      by_cases hjn : j < n
      · have hji : (j : Int) < (n : Int) := by omega
        obtain ⟨b, off, rfl, c0⟩ := (hs.old Bw).at_ j (by have := hn.out; omega)
        have HTK : Hid (zs.take (j + 1) = zs.take j ++ [zs.getD j 0]) := take_snocZ (by have := hn.out; omega)
        have HZ : Hid (∃ z, z = zs.getD j 0) := ⟨_, rfl⟩
        have hbd := hs.bd j
        obtain ⟨z, hz⟩ := HZ.out
        have HZJ : Hid (z = zs.getD j 0) := hz
        rw [← hz] at HTK c0 hbd
        clear HZ hz
        by_cases hz0 : z < 0
        · have HER : Hid (errS zs = 50) := errS_bad (i := j) (by have := hn.out; omega) (by rw [← HZJ.out]; omega)
          go_wp2_with (first
            | (refine wpList_load_row rfl 65 (.tmp 4) rfl o rfl _ _ _ _ ho Tryd.underlying65 rfl (arr_info (cnts_len _)) ?_)
            | (refine wpList_store_row rfl 65 (.tmp 2) (.tmp 34) rfl r (arr (cnts (zs.take j))) rfl rfl _ _ hr2 (arr_info (cnts_len _)) (by rw [arr_size, cnts_len]; rfl) (arr_one _) ?_))
          try rw [Exit.noGoto_ret]
          have hR := setRow_heap wr r _ (arr (cnts (zs.take j))) _ _ hr2
          refine bodyPost_ret (v := .tuple #[.agg (arr (cnts (zs.take j))), .int .i64 50]) (results_ct (fn := Tryd.f83) (p := 2) (u := 3) (ty := 65) rfl _ _ r _ _ _ _ rfl hR Tryd.underlying65 rfl (arr_info (cnts_len _))) rfl ⟨cnts (zs.take j), cnts_len _, ?_, ?_, Bw.grown (grown_setRow _ r _) Bw.size (fun k hk => by cases hk; exact HO.out.2)⟩
          · intro e
            rw [HER.out] at e
            cases e
          · rw [HER.out]
        · by_cases hz15 : 15 < z
          · have HER : Hid (errS zs = 50) := errS_bad (i := j) (by have := hn.out; omega) (by rw [← HZJ.out]; omega)
            go_wp2_with (first
              | (refine wpList_load_row rfl 65 (.tmp 4) rfl o rfl _ _ _ _ ho Tryd.underlying65 rfl (arr_info (cnts_len _)) ?_)
              | (refine wpList_store_row rfl 65 (.tmp 2) (.tmp 34) rfl r (arr (cnts (zs.take j))) rfl rfl _ _ hr2 (arr_info (cnts_len _)) (by rw [arr_size, cnts_len]; rfl) (arr_one _) ?_))
            try rw [Exit.noGoto_ret]
            have hR := setRow_heap wr r _ (arr (cnts (zs.take j))) _ _ hr2
            refine bodyPost_ret (v := .tuple #[.agg (arr (cnts (zs.take j))), .int .i64 50]) (results_ct (fn := Tryd.f83) (p := 2) (u := 3) (ty := 65) rfl _ _ r _ _ _ _ rfl hR Tryd.underlying65 rfl (arr_info (cnts_len _))) rfl ⟨cnts (zs.take j), cnts_len _, ?_, ?_, Bw.grown (grown_setRow _ r _) Bw.size (fun k hk => by cases hk; exact HO.out.2)⟩
            · intro e
              rw [HER.out] at e
              cases e
            · rw [HER.out]
          · by_cases hz00 : z = 0
            · subst hz00
              go_wp2_with fail
              go_roundw
              case rel =>
                refine ⟨j + 1, by omega, rfl, by go_num, ?_, hg, fun i hi => ?_⟩
                · rw [HTK.out, cnts_skip]; exact ho
                · by_cases e : i = j
                  · subst e; rw [← HZJ.out]; omega
                  · exact HOK.out i (by omega)
              case measure => simp [intOf]; omega
            · obtain ⟨k, rfl⟩ : ∃ k : Nat, z = (k : Int) := ⟨z.toNat, by omega⟩
              have hk16 : (k : Int) < 16 := by omega
              have hk0 : (0 : Int) < (k : Int) := by omega
              have HK16 : Hid (k < 16 ∧ 0 < k) := ⟨by omega, by omega⟩
              have d0 := arr_cell ho (i := k) (by rw [cnts_len]; omega)
              rw [cnts_get _ (by omega)] at d0
              have f0 := arr_free ho k
              have HSET : Hid _ := arr_set ho k ((cC (zs.take j) k : Int) + 1)
              have hcb : cC (zs.take j) k ≤ 100000 := Nat.le_trans (cC_le _ _) (by have := hn.out; simp; omega)
              have HCC : Hid (∃ c, c = cC (zs.take j) k) := ⟨_, rfl⟩
              obtain ⟨c, hc⟩ := HCC.out
              have HC : Hid (c = cC (zs.take j) k) := hc
              rw [← hc] at d0 HSET hcb
              clear hc HCC
              go_wp2_with fail
              go_roundw
              case rel =>
                refine ⟨j + 1, by omega, rfl, by go_num, ?_, grownBy_trans hg (set_grown _ _ _ _), fun i hi => ?_⟩
                · rw [HTK.out, cnts_put _ HK16.out.2, ← HC.out]; exact HSET.out
                · by_cases e : i = j
                  · subst e; rw [← HZJ.out]; omega
                  · exact HOK.out i (by omega)
              case measure => simp [intOf]; omega
      · obtain rfl : j = n := by omega
        have HALL : Hid (zs.take j = zs) := by show _ = _; exact List.take_of_length_le (by have := hn.out; omega)
        have HER : Hid (errS zs = 0) := errS_ok (by have := hn.out; omega) (fun z hz => by
          obtain ⟨i, hi, rfl⟩ := List.mem_iff_getElem.1 hz
          have := HOK.out i (by have := hn.out; omega)
          simpa [List.getD, hi] using this)
        go_wp2_with (first
          | (refine wpList_load_row rfl 65 (.tmp 4) rfl o rfl _ _ _ _ ho Tryd.underlying65 rfl (arr_info (cnts_len _)) ?_)
          | (refine wpList_store_row rfl 65 (.tmp 2) (.tmp 34) rfl r (arr (cnts (zs.take j))) rfl rfl _ _ hr2 (arr_info (cnts_len _)) (by rw [arr_size, cnts_len]; rfl) (arr_one _) ?_))
        try rw [Exit.noGoto_ret]
        have hR := setRow_heap wr r _ (arr (cnts (zs.take j))) _ _ hr2
        refine bodyPost_ret (v := .tuple #[.agg (arr (cnts (zs.take j))), .int .i64 0]) (results_ct (fn := Tryd.f83) (p := 2) (u := 3) (ty := 65) rfl _ _ r _ _ _ _ rfl hR Tryd.underlying65 rfl (arr_info (cnts_len _))) rfl ⟨cnts (zs.take j), cnts_len _, ?_, ?_, Bw.grown (grown_setRow _ r _) Bw.size (fun k hk => by cases hk; exact HO.out.2)⟩
        · intro _
          rw [HALL.out]
        · rw [HER.out]
end Go.Proofs.YtmddnmpldmdllaaDoor

namespace Go.Proofs.YtmddnmpldmdllaaDoor
open Go.RowKit
set_option linter.unusedVariables false

def errR (zs : List Int) : Int := if 32768 < spc zs then 51 else if spc zs = 32768 ∨ tot zs = 0 ∨ (tot zs = 1 ∧ cC zs 1 = 1) then 0 else 52
def errC (zs : List Int) : Int := if errS zs = 0 then errR zs else errS zs
theorem info16 : (Tryd.prog.info? 65).map (·.size) = some 16 := by kernel_rfl

set_option maxRecDepth 100000 in
set_option maxHeartbeats 1000000 in
theorem refusal5_any (zs : List Int) (hb : ∀ l, cC zs l ≤ 288) (w : World) :
    Calls Tryd.prog 84 #[.agg (arr (cnts zs))] w fun e w' => e = .returned (.int .i64 (errR zs)) ∧ Below w.heap.size w w' := by
  have h0 : (w.alloc (.cells (arr (cnts zs)) 65)).heap[w.heap.size]? = some (.cells (arr (cnts zs)) 65 (0, 0)) := heap_alloc_new w _
  have B0 : Below w.heap.size w (w.alloc (.cells (arr (cnts zs)) 65)) := (Below.refl _ _).alloc (Nat.le_refl _) _
  have hu99 := Tryd.underlying65
  have hi99 : (Tryd.prog.info? 65).map (·.size) = some ((cnts zs).map (Value.int .i64)).length := by rw [List.length_map, cnts_len]; exact info16
  go_enter Tryd.func84, Tryd.ntmps84
  go_wp2_with fail
  generalize w.alloc (.cells (arr (cnts zs)) 65) = wr at *
  obtain ⟨a, ea⟩ : ∃ a, a = w.heap.size := ⟨_, rfl⟩
  have HA : Hid (a = w.heap.size) := ea
  rw [← ea] at h0 ⊢
  clear ea
  have hlt : a < wr.heap.size := (Array.getElem?_eq_some_iff.1 h0).1
  have r0 := arr_range h0
  have c1 := arr_cell h0 (i := 1) (by rw [cnts_len]; decide)
  rw [cnts_get zs (by decide)] at c1
  have HK : Hid (∀ w', Below wr.heap.size wr w' → w'.rangeAt a 0 ((cnts zs).map (Value.int .i64))) := fun w' hb => range_old r0 hb hlt
  have HK1 : Hid (∀ w', Below wr.heap.size wr w' → w'.cell? ⟨a, 1, none⟩ = some (.int .i64 (cC zs 1 : Int))) := fun w' hb => (hb.cell (p := ⟨a, 1, none⟩) hlt).trans c1
  have HS : Hid (∀ W, Below wr.heap.size wr W → Calls Tryd.prog 87 #[.agg (arr (cnts zs))] W fun e w' => e = .returned (.int .i64 (spc zs : Int)) ∧ Below wr.heap.size wr w') := fun W hW => (pspace_any zs hb W).mono fun e w' h => ⟨h.1, hW.trans (h.2.mono hW.size)⟩
  have HT : Hid (∀ W, Below wr.heap.size wr W → Calls Tryd.prog 85 #[.agg (arr (cnts zs))] W fun e w' => e = .returned (.int .i64 (tot zs : Int)) ∧ Below wr.heap.size wr w') := fun W hW => (total_any zs hb W).mono fun e w' h => ⟨h.1, hW.trans (h.2.mono hW.size)⟩
  have Brr : Below wr.heap.size wr wr := Below.refl _ _
  have HB : Hid (∀ w', Below wr.heap.size wr w' → Below w.heap.size w w') := fun w' h => B0.trans (h.mono B0.size)
  obtain ⟨s, hs⟩ : ∃ s, s = spc zs := ⟨_, rfl⟩
  obtain ⟨t, ht⟩ : ∃ t, t = tot zs := ⟨_, rfl⟩
  have htb : t ≤ 4608 := by have h2 := cS_le zs hb 16; rw [ht]; unfold tot; omega
  have hsb : s ≤ 100000000 := by
    have h1 := spc_tot zs
    rw [← hs, ← ht] at h1
    omega
  have hcb := hb 1
  have HERR : Hid (errR zs = if 32768 < s then 51 else if s = 32768 ∨ t = 0 ∨ (t = 1 ∧ cC zs 1 = 1) then 0 else 52) := by
    show _ = _
    unfold errR
    rw [← hs, ← ht]
  rw [← hs] at HS
  rw [← ht] at HT
  clear hs ht c1 hb
  generalize cC zs 1 = q at *
  refine wp_region_held_drew (S := fun w' => w'.rangeAt a 0 ((cnts zs).map (Value.int .i64))) (by kernel_rfl) (HK.out _ (Below.drew Brr)) (fun hHeld => ?_)
  refine wpAnyH_take (i := 0) (v := .agg (arr (cnts zs))) rfl (by kernel_rfl) (by kernel_rfl) (by kernel_rfl) (fun _ _ _ h => h) (yieldsIf_load_mid (by rfl) _ _ rfl _ _ rfl _ _ (fun w h => h) hu99 rfl hi99) hHeld ?_
  simp only [Act.put, List.setIfInBounds_toArray]
  refine wpAnyH_take (i := 2) (v := .agg (arr (cnts zs))) rfl (by kernel_rfl) (by kernel_rfl) (by kernel_rfl) (fun _ _ _ h => h) (yieldsIf_load_mid (by rfl) _ _ rfl _ _ rfl _ _ (fun w h => h) hu99 rfl hi99) hHeld ?_
  simp only [Act.put]
  refine wpAnyH_ready (rs := [1]) (by kernel_rfl) (by simp) ?_
  refine AllReadyH.cons rfl (fun K hK => ?_) AllReadyH.nil
  go_simp
  refine (HS.out _ (Below.drew Brr)).mono ?_
  rintro e w3 ⟨rfl, b3⟩
  refine hK.out _ _ (HK.out _ b3) (fun hHeld2 => ?_)
  clear hK K
  refine wpAnyH_ready (rs := [3]) (by kernel_rfl) (by simp) ?_
  refine AllReadyH.cons rfl (fun K hK => ?_) AllReadyH.nil
  go_simp
  refine (HT.out _ b3).mono ?_
  rintro e w4 ⟨rfl, b4⟩
  refine hK.out _ _ (HK.out _ b4) (fun hHeld3 => ?_)
  clear hK K
  refine wpAnyH_ready (rs := [4]) (by kernel_rfl) (by simp) ?_
  refine AllReadyH.cons rfl (fun K hK => ?_) AllReadyH.nil
  go_simp
  refine hK.out _ _ (HK.out _ b4) (fun _ => ?_)
  clear hK K
  refine wpAnyH_ready (rs := [5]) (by kernel_rfl) (by simp) ?_
  refine AllReadyH.cons rfl (fun K hK => ?_) AllReadyH.nil
  go_simp
  refine hK.out _ _ (HK.out _ b4) (fun _ => ?_)
  clear hK K
  refine wpAnyH_done (by kernel_rfl) ?_ _
  all_goals
    have cq := HK1.out _ b4
    have HBB : Hid _ := HB.out _ b4
    by_cases h1 : 32768 < s
    · have h1i : (32768 : Int) < (s : Int) := by omega
      have he : Hid (errR zs = 51) := by show _ = _; rw [HERR.out, if_pos h1]
      go_wp2
      go_ret
      exact ⟨by rw [he.out]; rfl, HBB.out⟩
    · have h1i : ¬ (32768 : Int) < (s : Int) := by omega
      by_cases h2 : s = 32768
      · subst h2
        have he : Hid (errR zs = 0) := by show _ = _; rw [HERR.out, if_neg h1, if_pos (Or.inl rfl)]
        go_wp2
        go_ret
        exact ⟨by rw [he.out]; rfl, HBB.out⟩
      · have h2i : ¬ (s : Int) = 32768 := by omega
        by_cases h3 : t = 0
        · subst h3
          have he : Hid (errR zs = 0) := by show _ = _; rw [HERR.out, if_neg h1, if_pos (Or.inr (Or.inl rfl))]
          go_wp2
          go_ret
          exact ⟨by rw [he.out]; rfl, HBB.out⟩
        · have h3i : ¬ (t : Int) = 0 := by omega
          by_cases h4 : t = 1
          · subst h4
            by_cases h5 : q = 1
            · subst h5
              have he : Hid (errR zs = 0) := by show _ = _; rw [HERR.out, if_neg h1, if_pos (Or.inr (Or.inr ⟨rfl, rfl⟩))]
              go_wp2
              go_ret
              exact ⟨by rw [he.out]; rfl, HBB.out⟩
            · have h5i : ¬ (q : Int) = 1 := by omega
              have he : Hid (errR zs = 52) := by show _ = _; rw [HERR.out, if_neg h1, if_neg (by omega)]
              go_wp2
              go_ret
              exact ⟨by rw [he.out]; rfl, HBB.out⟩
          · have h4i : ¬ (t : Int) = 1 := by omega
            have he : Hid (errR zs = 52) := by show _ = _; rw [HERR.out, if_neg h1, if_neg (by omega)]
            go_wp2
            go_ret
            exact ⟨by rw [he.out]; rfl, HBB.out⟩
theorem errC_zero {zs : List Int} (h : errC zs = 0) : errS zs = 0 ∧ errR zs = 0 := by
  unfold errC at h
  split at h
  · rename_i h1; exact ⟨h1, h⟩
  · rename_i h1; exact absurd h h1
theorem cC_288 {zs : List Int} (h : errS zs = 0) : ∀ l, cC zs l ≤ 288 := fun l => Nat.le_trans (cC_le zs l) (errS_zero h).1
end Go.Proofs.YtmddnmpldmdllaaDoor
