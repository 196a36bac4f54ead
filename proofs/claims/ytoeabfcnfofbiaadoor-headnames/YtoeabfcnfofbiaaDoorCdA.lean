
import Derived.Test.YtoeabfcnfofbiaaDoorCdMath
import Derived.Test.YtoeabfcnfofbiaaDoorLnRef
import Derived.Deep.WholeRow
import Derived.Laws.ResultCell
import Derived.Deep.MidRow
namespace Go.Proofs.YtoeabfcnfofbiaaDoor
open Go.RowKit
set_option linter.unusedVariables false

/-- An array of numbers. -/
def arr (A : List Int) : Array Value := (A.map (Value.int .i64)).toArray
theorem arr_size (A : List Int) : (arr A).size = A.length := by simp [arr]
theorem arr_cell {w : World} {b : Nat} {A : List Int} {t : TypeId} (h : w.heap[b]? = some (.cells (arr A) t (0, 0))) {i : Nat} (hi : i < A.length) : w.cell? ⟨b, i, none⟩ = some (.int .i64 (A.getD i 0)) := by
  rw [cell_of_row w b i (arr A) t (0, 0) h]
  simp [arr, List.getD, hi]
theorem arr_free {w : World} {b : Nat} {A : List Int} {t : TypeId} (h : w.heap[b]? = some (.cells (arr A) t (0, 0))) (i : Nat) : w.frozen? ⟨b, i, none⟩ = false := frozen_of_row w b i (arr A) t h
theorem arr_set {w : World} {b : Nat} {A : List Int} {t : TypeId} (h : w.heap[b]? = some (.cells (arr A) t (0, 0))) (i : Nat) (v : Int) : (w.setCell ⟨b, i, none⟩ (.int .i64 v)).heap[b]? = some (.cells (arr (A.set i v)) t (0, 0)) := by
  rw [heap_setCell_same w b i (arr A) t _ h]
  congr 2
  simp [arr, List.map_set]
theorem arr_one (A : List Int) : (arr A).all (·.oneCell') = true := by
  simp [arr, Value.oneCell']
theorem arr_info {A : List Int} (h : A.length = 16) : (Tryd.prog.info? 83).map (·.size) = some (arr A).size := by
  rw [arr_size, h]
  kernel_rfl
theorem grown_setRow (w : World) (g : Nat) (cs : Array Value) : w.grownBy (w.setRow g cs) (some g) := ⟨rfl, rfl, rfl, by simp [World.setRow], fun k _ hk => setRow_other w g k cs (fun e => hk (by rw [e]))⟩
theorem grown_drew {w w' : World} {r : Option Nat} (h : w.grownBy w' r) : w.grownBy w'.drew r := ⟨h.os, h.tape, h.output, h.size, h.block⟩
theorem grown_drewN {w w' : World} {r : Option Nat} (h : w.grownBy w' r) (n : Nat) : w.grownBy (w'.drewN n) r := ⟨h.os, h.tape, h.output, h.size, h.block⟩
theorem set_grown (w : World) (g i : Nat) (v : Value) : w.grownBy (w.setCell ⟨g, i, none⟩ v) (some g) := ⟨rfl, rfl, rfl, by simp, fun k _ hk => heap_setCell_other w ⟨g, i, none⟩ k v (fun e => hk (by simp [e]))⟩
theorem results_ct {P : Program} {fn : Func} {p u : Tmp} {ty : TypeId} (h : fn.results = #[.cell p ty, .tmp u]) (tmps : Array Value) (w : World) (g : Nat) (t : TypeId) (cs : Array Value) (fr : Nat × Nat) (d : TypeDesc)
    (hp : tmps.getD p undef = .pointer (some ⟨g, 0, none⟩)) (hg : w.heap[g]? = some (.cells cs t fr))
    (hu : P.underlying ty = some d) (hd : (match d with | .struct _ | .array _ _ => true | _ => false) = true) (hi : (P.info? ty).map (·.size) = some cs.size) :
    (results fn tmps).run P w = .ok (.tuple #[.agg cs, tmps.getD u undef]) w := by
  rw [results_cell_tmp h, hp]
  simp [asAddr, Result.andThen, run_loadVar_row w g t ty cs fr d hg hu hd hi]
def zero16 : Array Value := #[.int .i64 0, .int .i64 0, .int .i64 0, .int .i64 0, .int .i64 0, .int .i64 0, .int .i64 0, .int .i64 0, .int .i64 0, .int .i64 0, .int .i64 0, .int .i64 0, .int .i64 0, .int .i64 0, .int .i64 0, .int .i64 0]
theorem zero16_arr : zero16 = arr (List.replicate 16 0) := rfl
theorem zero16_one : zero16.all (·.oneCell') = true := by rw [zero16_arr]; exact arr_one _
theorem arr_range {w : World} {b : Nat} {A : List Int} {t : TypeId} (h : w.heap[b]? = some (.cells (arr A) t (0, 0))) : w.rangeAt b 0 (A.map (Value.int .i64)) := by
  intro j v hv
  rw [Nat.zero_add, cell_of_row w b j (arr A) t (0, 0) h]
  simpa [arr] using hv
theorem range_old {w w' : World} {b o : Nat} {cs : List Value} (h : w.rangeAt b o cs) (hb : Below w.heap.size w w') (hl : b < w.heap.size) : w'.rangeAt b o cs := fun j v hv => (hb.cell (p := ⟨b, o + j, none⟩) hl).trans (h j v hv)
/-- How many codes of each length there are, as the program has it. -/
def cnts (zs : List Int) : List Int := (List.range 16).map fun l => (cC zs l : Int)
theorem cnts_len (zs : List Int) : (cnts zs).length = 16 := by simp [cnts]
theorem cnts_get (zs : List Int) {l : Nat} (h : l < 16) : (cnts zs).getD l 0 = (cC zs l : Int) := by simp [cnts, List.getD, h]
def fsts (zs : List Int) : List Int := (List.range 16).map fun l => (cF zs l : Int)
theorem fsts_len (zs : List Int) : (fsts zs).length = 16 := by simp [fsts]
theorem fsts_get (zs : List Int) {l : Nat} (h : l < 16) : (fsts zs).getD l 0 = (cF zs l : Int) := by simp [fsts, List.getD, h]
theorem cS_le (zs : List Int) {m : Nat} (h : ∀ l, cC zs l ≤ m) : ∀ l, cS zs l ≤ l * m
  | 0 => Nat.zero_le _
  | l + 1 => by
    rw [cS_succ, Nat.succ_mul]
    exact Nat.add_le_add (cS_le zs h l) (h l)

set_option maxRecDepth 100000 in
set_option maxHeartbeats 400000 in
theorem total_any (zs : List Int) (hb : ∀ l, cC zs l ≤ 288) (w : World) :
    Calls Tryd.prog 119 #[.agg (arr (cnts zs))] w fun e w' => e = .returned (.int .i64 (tot zs : Int)) ∧ Below w.heap.size w w' := by
  go_enter Tryd.func119, Tryd.ntmps119
  go_wp2_with fail
  have h0 : (w.alloc (.cells (arr (cnts zs)) 83)).heap[w.heap.size]? = some (.cells (arr (cnts zs)) 83 (0, 0)) := heap_alloc_new w _
  have B0 : Below w.heap.size w (w.alloc (.cells (arr (cnts zs)) 83)) := (Below.refl _ _).alloc (Nat.le_refl _) _
  generalize w.alloc (.cells (arr (cnts zs)) 83) = W at *
  go_loopw [3, 5] (fun ts tj wr => ∃ j : Nat, j ≤ 16 ∧ tj = .int .i64 (j : Int) ∧ ts = .int .i64 (cS zs j : Int) ∧ wr = W) (fun _ tj _ => 16 - (intOf tj).toNat)
  case atStart => exact ⟨0, by omega, rfl, rfl, rfl⟩
  case round =>
    obtain ⟨j, hj, rfl, rfl, hwr⟩ := hrel
    subst hwr
    by_cases hj6 : j < 16
    · have hji : (j : Int) < 16 := by omega
      have c0 := arr_cell h0 (i := j) (by rw [cnts_len]; exact hj6)
      rw [cnts_get zs hj6] at c0
      have hs := cS_le zs hb j
      have hc := hb j
      have hs2 : j * 288 ≤ 16 * 288 := Nat.mul_le_mul_right _ hj
      have HS : Hid (cS zs (j + 1) = cS zs j + cC zs j) := cS_succ zs j
      generalize cS zs j = s at *
      generalize cC zs j = c at *
      obtain ⟨t, ht⟩ : ∃ t, t = s + c := ⟨_, rfl⟩
      have r1 : (s : Int) + (c : Int) = (t : Int) := by omega
      have HT : Hid (t = s + c) := ht
      have htb : t ≤ 100000 := by omega
      clear ht hs hc hs2
      go_wp2
      go_roundw
      case rel => exact ⟨j + 1, by omega, by go_num, by rw [HS.out, HT.out], trivial⟩
      case measure => simp [intOf]; omega
    · obtain rfl : j = 16 := by omega
      go_wp2
      go_ret
      exact ⟨rfl, B0⟩

set_option maxRecDepth 100000 in
set_option maxHeartbeats 400000 in
theorem pspace_any (zs : List Int) (hb : ∀ l, cC zs l ≤ 288) (w : World) :
    Calls Tryd.prog 118 #[.agg (arr (cnts zs))] w fun e w' => e = .returned (.int .i64 (spc zs : Int)) ∧ Below w.heap.size w w' := by
  go_enter Tryd.func118, Tryd.ntmps118
  go_wp2_with fail
  have h0 : (w.alloc (.cells (arr (cnts zs)) 83)).heap[w.heap.size]? = some (.cells (arr (cnts zs)) 83 (0, 0)) := heap_alloc_new w _
  have B0 : Below w.heap.size w (w.alloc (.cells (arr (cnts zs)) 83)) := (Below.refl _ _).alloc (Nat.le_refl _) _
  generalize w.alloc (.cells (arr (cnts zs)) 83) = W at *
  go_loopw [3, 5] (fun ts tj wr => ∃ j : Nat, j ≤ 16 ∧ tj = .int .i64 (j : Int) ∧ ts = .int .i64 (cP zs j : Int) ∧ wr = W) (fun _ tj _ => 16 - (intOf tj).toNat)
  case atStart => exact ⟨0, by omega, rfl, rfl, rfl⟩
  case round =>
    obtain ⟨j, hj, rfl, rfl, hwr⟩ := hrel
    subst hwr
    by_cases hj6 : j < 16
    · have hji : (j : Int) < 16 := by omega
      have c0 := arr_cell h0 (i := j) (by rw [cnts_len]; exact hj6)
      rw [cnts_get zs hj6] at c0
      have hs := cP_le zs j
      have hs1 := cS_le zs hb j
      have hc := hb j
      have hs2 : j * 288 ≤ 16 * 288 := Nat.mul_le_mul_right _ hj
      have HS : Hid (cP zs (j + 1) = cP zs j + cC zs j * 2 ^ (15 - j)) := cP_succ zs j
      have hpb : 2 ^ (15 - j) ≤ 2 ^ 15 := Nat.pow_le_pow_right (by decide) (by omega)
      have hcp : cC zs j * 2 ^ (15 - j) ≤ 288 * 2 ^ 15 := Nat.mul_le_mul hc hpb
      obtain ⟨q, hq⟩ : ∃ q, q = 15 - j := ⟨_, rfl⟩
      have rq : 15 - (j : Int) = (q : Int) := by omega
      rw [← hq] at HS hcp
      obtain ⟨x, hx⟩ : ∃ x, x = cC zs j * 2 ^ q := ⟨_, rfl⟩
      have hxb : x ≤ 10000000 := by rw [hx]; exact Nat.le_trans hcp (by decide)
      have hw : RowKit.wrap64 ((cC zs j : Int) * 2 ^ q) = (x : Int) := by
        rw [hx, show ((cC zs j : Int) * 2 ^ q) = ((cC zs j * 2 ^ q : Nat) : Int) by simp, ← IntWalk.i64_left]
        exact IntWalk.i64_in _ (by omega)
      rw [← hx] at HS
      have hq15 : q ≤ 15 := by omega
      generalize cP zs j = s at *
      generalize cC zs j = c at *
      obtain ⟨t, ht⟩ : ∃ t, t = s + x := ⟨_, rfl⟩
      have r1 : (s : Int) + (x : Int) = (t : Int) := by omega
      have HT : Hid (t = s + x) := ht
      have htb : t ≤ 1000000000 := by omega
      clear ht hs hc hs2 hx hcp hpb hs1 hq
      go_wp2
      go_roundw
      case rel => exact ⟨j + 1, by omega, by go_num, by rw [HS.out, HT.out], trivial⟩
      case measure => simp [intOf]; omega
    · obtain rfl : j = 16 := by omega
      go_wp2
      go_ret
      exact ⟨rfl, B0⟩
end Go.Proofs.YtoeabfcnfofbiaaDoor
