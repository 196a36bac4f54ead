
import Derived.Test.YtoeabfcnfofbiaaDoorCdI
namespace Go.Proofs.YtoeabfcnfofbiaaDoor
open Go.RowKit
set_option linter.unusedVariables false

/-- What a decoder's block holds. -/
def tbl (zs S : List Int) : List Int := cnts zs ++ S ++ [(tot zs : Int)]
def dl (most : Int) (zs S : List Int) : List Int := most :: tbl zs S
def Z288 : List Int := List.replicate 288 0
theorem Z288_len : Z288.length = 288 := List.length_replicate ..
theorem built_dec (n : Int) : (Tryd.prog.built 88 [(0, Value.int .i64 n)]).getD #[] = arr (dl n [] Z288) := by kernel_rfl
theorem tbl_len {zs S : List Int} (h : S.length = 288) : (tbl zs S).length = 305 := by simp [tbl, cnts_len, h]
theorem tbl_cnt {zs S : List Int} {l : Nat} (h : l < 16) : (tbl zs S).getD l 0 = (cC zs l : Int) := by
  have e := cnts_get zs h
  have hl := cnts_len zs
  unfold tbl
  rw [List.append_assoc]
  simpa [List.getD, List.getElem?_append_left (show l < (cnts zs).length by omega)] using e
theorem tbl_sym {zs S : List Int} (hS : S.length = 288) {i : Nat} (h : i < 288) : (tbl zs S).getD (16 + i) 0 = S.getD i 0 := by
  have hl := cnts_len zs
  unfold tbl
  rw [List.append_assoc]
  simp [List.getD, List.getElem?_append_right (show (cnts zs).length ≤ 16 + i by omega), hl, List.getElem?_append_left (show i < S.length by omega)]
theorem tbl_tot {zs S : List Int} (hS : S.length = 288) : (tbl zs S).getD 304 0 = (tot zs : Int) := by
  have hl := cnts_len zs
  unfold tbl
  simp [List.getD, hl, hS]
theorem dl_get (m : Int) (zs S : List Int) (i : Nat) : (dl m zs S).getD (1 + i) 0 = (tbl zs S).getD i 0 := by
  rw [Nat.add_comm]
  simp [dl, List.getD]

set_option maxRecDepth 100000 in
set_option maxHeartbeats 1000000 in
theorem newDec_any (n : Nat) (h1 : 1 ≤ n) (h2 : n ≤ 288) (w : World) :
    Calls Tryd.prog 53 #[.int .i64 (n : Int)] w fun e w' => e = .returned (.tuple #[.pointer (some ⟨w.heap.size, 0, none⟩), .int .i64 0]) ∧ w' = w.alloc (.cells (arr (dl n [] Z288)) 88) := by
  have h1i : ¬ (n : Int) < 1 := by omega
  have h2i : ¬ (288 : Int) < (n : Int) := by omega
  go_enter Tryd.func53, Tryd.ntmps53
  go_wp2_with (refine wpList_build rfl _ _ rfl (by kernel_rfl) ?_)
  go_ret2
  exact ⟨rfl, by rw [built_dec]⟩
set_option maxRecDepth 100000 in
set_option maxHeartbeats 1000000 in
theorem newDec_no (n : Int) (h : n < 1 ∨ 288 < n) (w : World) :
    Calls Tryd.prog 53 #[.int .i64 n] w fun e w' => e = .returned (.tuple #[.pointer none, .int .i64 1]) ∧ w' = w := by
  by_cases h1 : n < 1
  · go_enter Tryd.func53, Tryd.ntmps53
    go_wp2_with fail
    go_ret2
    exact ⟨rfl, rfl⟩
  · have h2 : 288 < n := by omega
    go_enter Tryd.func53, Tryd.ntmps53
    go_wp2_with fail
    go_ret2
    exact ⟨rfl, rfl⟩
/-- Where each symbol with a code stands. -/
def SymOk (zs S : List Int) (j : Nat) : Prop := ∀ s, s < j → zs.getD s 0 ≠ 0 → S.getD (cS zs (ln zs s) + rk zs s) 0 = (s : Int)
/-- A decoder with room for so many symbols, a code loaded. -/
structure De (w : World) (b most : Nat) (zs : List Int) : Prop where
  ok : errC zs = 0
  mo : 1 ≤ most ∧ most ≤ 288
  row : ∃ S, S.length = 288 ∧ SymOk zs S zs.length ∧ w.heap[b]? = some (.cells (arr (dl most zs S)) 88 (0, 0))
theorem errC_nil : errC [] = 0 := by decide
theorem De.new {w : World} {b n : Nat} (h1 : 1 ≤ n) (h2 : n ≤ 288) (h : w.heap[b]? = some (.cells (arr (dl n [] Z288)) 88 (0, 0))) : De w b n [] :=
  ⟨errC_nil, ⟨h1, h2⟩, Z288, Z288_len, fun s hs => by simp at hs, h⟩
theorem De.lt {w : World} {b n : Nat} {zs : List Int} (h : De w b n zs) : b < w.heap.size := by
  obtain ⟨S, _, _, h⟩ := h.row
  exact (Array.getElem?_eq_some_iff.1 h).1
theorem De.keep {w w' : World} {b n : Nat} {zs : List Int} (h : De w b n zs) (hb : w'.heap[b]? = w.heap[b]?) : De w' b n zs := by
  obtain ⟨S, h1, h2, h3⟩ := h.row
  exact ⟨h.ok, h.mo, S, h1, h2, hb.trans h3⟩

set_option maxRecDepth 100000 in
set_option maxHeartbeats 1000000 in
theorem room_any (b n : Nat) (zs : List Int) (w : World) (h : De w b n zs) :
    Calls Tryd.prog 54 #[.pointer (some ⟨b, 0, none⟩)] w fun e w' => e = .returned (.int .i64 (8 * (n : Int) + 256)) ∧ w' = w := by
  obtain ⟨S, h1, h2, h3⟩ := h.row
  have c0 := arr_cell h3 (i := 0) (by simp [dl])
  have e0 : (dl n zs S).getD 0 0 = (n : Int) := rfl
  rw [e0] at c0
  have hm := h.mo
  have hn0 : ¬ (n : Int) = 0 := by omega
  clear e0
  go_enter Tryd.func54, Tryd.ntmps54
  go_wp2_with fail
  go_ret
  exact ⟨rfl, rfl⟩
end Go.Proofs.YtoeabfcnfofbiaaDoor
