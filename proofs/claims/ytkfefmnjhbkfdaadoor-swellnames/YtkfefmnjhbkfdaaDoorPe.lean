import Derived.Test.YtkfefmnjhbkfdaaDoorPd
import Derived.Deep.SlicePairs
namespace Go.Proofs.YtkfefmnjhbkfdaaDoor
open Go.RowKit
set_option linter.unusedVariables false

/-- An encoder of these lengths, all of it below block N. -/
structure En (w : World) (b N : Nat) (zs : List Int) : Prop where
  ok : errC zs = 0
  lt : b < N
  row : ∃ la lc ca cc, w.heap[b]? = some (.cells #[.bool true, .slice la zs.length lc, .slice ca zs.length cc] 162 (0, 0)) ∧ SegZ w la zs ∧ SegZ w ca (cds zs) ∧ (∀ x, la = some x → x.block < N) ∧ (∀ x, ca = some x → x.block < N)
theorem En.old {w w' : World} {b N : Nat} {zs : List Int} (h : En w b N zs) (hb : Below N w w') : En w' b N zs := by
  obtain ⟨la, lc, ca, cc, h1, h2, h3, h4, h5⟩ := h.row
  refine ⟨h.ok, h.lt, la, lc, ca, cc, (hb.block b h.lt).trans h1, ?_, ?_, h4, h5⟩
  · exact h2.of_cells fun b' off i v _ ha hc => by
      have := h4 _ ha
      exact (hb.cell (p := ⟨b', off + i, none⟩) this).trans hc
  · exact h3.of_cells fun b' off i v _ ha hc => by
      have := h5 _ ha
      exact (hb.cell (p := ⟨b', off + i, none⟩) this).trans hc
theorem own_blk {w : World} {base n cap : Nat} {e : TypeId} {b : Option Addr} {xs : List Value} (h : w.ownsRow base e 1 (.slice b n cap) n xs) : ∀ x, b = some x → base ≤ x.block ∧ x.block < w.heap.size := by
  rcases h.2 with ⟨h1, h2⟩ | ⟨g, cp, cur, h1, h2, h3, h4, _⟩
  · simp only [Value.slice.injEq] at h1
    obtain ⟨rfl, _, rfl⟩ := h1
    intro x h
    cases h
  · simp only [Value.slice.injEq] at h1
    obtain ⟨rfl, _, rfl⟩ := h1
    intro x h
    cases h
    exact ⟨h2, (Array.getElem?_eq_some_iff.1 h3).1⟩
theorem cd_small {zs : List Int} (h : errC zs = 0) {s : Nat} (hs : s < zs.length) : cd zs s < 2 ^ ln zs s ∧ ln zs s ≤ 15 ∧ cd zs s < 32768 := by
  have hL := (errS_zero (errC_zero h).1).2
  have hp : spc zs ≤ 32768 := by
    have h1 := (errC_zero h).2
    unfold errR at h1
    by_cases c : 32768 < spc zs
    · rw [if_pos c] at h1; cases h1
    · omega
  have h1 := cd_lt hL hp hs
  have h2 := (hL.ln s).2
  have h3 : 2 ^ ln zs s ≤ 2 ^ 15 := Nat.pow_le_pow_right (by decide) h2
  exact ⟨h1, h2, Nat.lt_of_lt_of_le h1 h3⟩
theorem cds_bd {zs : List Int} (h : errC zs = 0) : ∀ z ∈ cds zs, -9223372036854775808 ≤ z ∧ z ≤ 9223372036854775807 := by
  intro z hz
  unfold cds at hz
  obtain ⟨s, hs, rfl⟩ := List.mem_map.1 hz
  rw [List.mem_range] at hs
  have := (cd_small h hs).2.2
  omega

def EncQ (w : World) (zs : List Int) (e : Ending) (w' : World) : Prop := (errC zs = 0 → ∃ b, e = .returned (.tuple #[.pointer (some ⟨b, 0, none⟩), .int .i64 0]) ∧ w.heap.size ≤ b ∧ En w' b w'.heap.size zs) ∧ (errC zs ≠ 0 → e = .returned (.tuple #[.pointer none, .int .i64 (errC zs)])) ∧ Below w.heap.size w w'
end Go.Proofs.YtkfefmnjhbkfdaaDoor

namespace Go.Proofs.YtkfefmnjhbkfdaaDoor
open Go.RowKit
set_option linter.unusedVariables false

/-- What a symbol costs, and its bits. -/
def costV (zs : List Int) (s : Int) : Int := if 0 ≤ s ∧ s < zs.length then zs.getD s.toNat 0 else 0
def cbits (zs : List Int) (s : Nat) : List Bool := (bN (cd zs s) (ln zs s)).reverse
def putB (zs : List Int) (s : Int) : List Bool := if costV zs s = 0 then [] else cbits zs s.toNat
def errP (zs : List Int) (s : Int) : Int := if costV zs s = 0 then 53 else 0
theorem En.cells {w : World} {b N : Nat} {zs : List Int} (h : En w b N zs) : ∃ la lc ca cc, w.cell? ⟨b, 0, none⟩ = some (.bool true) ∧ w.cell? ⟨b, 1, none⟩ = some (.slice la zs.length lc) ∧ w.cell? ⟨b, 2, none⟩ = some (.slice ca zs.length cc) ∧ SegZ w la zs ∧ SegZ w ca (cds zs) := by
  obtain ⟨la, lc, ca, cc, h1, h2, h3, _, _⟩ := h.row
  exact ⟨la, lc, ca, cc, three_cell0 h1, three_cell1 h1, three_cell2 h1, h2, h3⟩

theorem costV_pos {zs : List Int} {s : Int} (h : costV zs s ≠ 0) : ∃ k : Nat, s = (k : Int) ∧ k < zs.length ∧ costV zs s = zs.getD k 0 ∧ zs.getD k 0 ≠ 0 := by
  unfold costV at h ⊢
  by_cases c : 0 ≤ s ∧ s < zs.length
  · rw [if_pos c] at h ⊢
    exact ⟨s.toNat, by omega, by omega, rfl, h⟩
  · rw [if_neg c] at h
    exact absurd rfl h

end Go.Proofs.YtkfefmnjhbkfdaaDoor

namespace Go.Proofs.YtkfefmnjhbkfdaaDoor
open Go.RowKit
set_option linter.unusedVariables false

/-- What a decoder's block holds. -/
def tbl (zs S : List Int) : List Int := cnts zs ++ S ++ [(tot zs : Int)]
def dl (most : Int) (zs S : List Int) : List Int := most :: tbl zs S
def Z288 : List Int := List.replicate 288 0
theorem Z288_len : Z288.length = 288 := List.length_replicate ..
theorem built_dec (n : Int) : (Tryd.prog.built 76 [(0, Value.int .i64 n)]).getD #[] = arr (dl n [] Z288) := by kernel_rfl
theorem tbl_len {zs S : List Int} (h : S.length = 288) : (tbl zs S).length = 305 := by simp [tbl, cnts_len, h]
theorem tbl_cnt {zs S : List Int} {l : Nat} (h : l < 16) : (tbl zs S).getD l 0 = (cC zs l : Int) := by
  have e := cnts_get zs h
  have hl := cnts_len zs
  unfold tbl
  rw [List.append_assoc]
  simpa [List.getD, List.getElem?_append_left (show l < (cnts zs).length by omega)] using e
theorem tbl_sym {zs S : List Int} (hS : S.length = 288) {i : Nat} (h : i < 288) : (tbl zs S).getD (16 + i) 0 = S.getD i 0 := by
  have hl := cnts_len zs
  unfold tbl
  rw [List.append_assoc]
  simp [List.getD, List.getElem?_append_right (show (cnts zs).length ≤ 16 + i by omega), hl, List.getElem?_append_left (show i < S.length by omega)]
theorem tbl_tot {zs S : List Int} (hS : S.length = 288) : (tbl zs S).getD 304 0 = (tot zs : Int) := by
  have hl := cnts_len zs
  unfold tbl
  simp [List.getD, hl, hS]
theorem dl_get (m : Int) (zs S : List Int) (i : Nat) : (dl m zs S).getD (1 + i) 0 = (tbl zs S).getD i 0 := by
  rw [Nat.add_comm]
  simp [dl, List.getD]

set_option maxRecDepth 100000 in
set_option maxHeartbeats 1000000 in
theorem newDec_any (n : Nat) (h1 : 1 ≤ n) (h2 : n ≤ 288) (w : World) :
    Calls Tryd.prog 23 #[.int .i64 (n : Int)] w fun e w' => e = .returned (.tuple #[.pointer (some ⟨w.heap.size, 0, none⟩), .int .i64 0]) ∧ w' = w.alloc (.cells (arr (dl n [] Z288)) 76) := by
  have h1i : ¬ (n : Int) < 1 := by omega
  have h2i : ¬ (288 : Int) < (n : Int) := by omega
  go_enter Tryd.func23, Tryd.ntmps23
  go_wp2_with (refine wpList_build rfl _ _ rfl (by kernel_rfl) ?_)
  go_ret2
  exact ⟨rfl, by rw [built_dec]⟩
set_option maxRecDepth 100000 in
set_option maxHeartbeats 1000000 in
theorem newDec_no (n : Int) (h : n < 1 ∨ 288 < n) (w : World) :
    Calls Tryd.prog 23 #[.int .i64 n] w fun e w' => e = .returned (.tuple #[.pointer none, .int .i64 1]) ∧ w' = w := by
  by_cases h1 : n < 1
  · go_enter Tryd.func23, Tryd.ntmps23
    go_wp2_with fail
    go_ret2
    exact ⟨rfl, rfl⟩
  · have h2 : 288 < n := by omega
    go_enter Tryd.func23, Tryd.ntmps23
    go_wp2_with fail
    go_ret2
    exact ⟨rfl, rfl⟩
/-- Where each symbol with a code stands. -/
def SymOk (zs S : List Int) (j : Nat) : Prop := ∀ s, s < j → zs.getD s 0 ≠ 0 → S.getD (cS zs (ln zs s) + rk zs s) 0 = (s : Int)
/-- A decoder with room for so many symbols, a code loaded. -/
structure De (w : World) (b most : Nat) (zs : List Int) : Prop where
  ok : errC zs = 0
  mo : 1 ≤ most ∧ most ≤ 288
  row : ∃ S, S.length = 288 ∧ SymOk zs S zs.length ∧ w.heap[b]? = some (.cells (arr (dl most zs S)) 76 (0, 0))
theorem errC_nil : errC [] = 0 := by decide
theorem De.new {w : World} {b n : Nat} (h1 : 1 ≤ n) (h2 : n ≤ 288) (h : w.heap[b]? = some (.cells (arr (dl n [] Z288)) 76 (0, 0))) : De w b n [] :=
  ⟨errC_nil, ⟨h1, h2⟩, Z288, Z288_len, fun s hs => by simp at hs, h⟩
theorem De.lt {w : World} {b n : Nat} {zs : List Int} (h : De w b n zs) : b < w.heap.size := by
  obtain ⟨S, _, _, h⟩ := h.row
  exact (Array.getElem?_eq_some_iff.1 h).1
theorem De.keep {w w' : World} {b n : Nat} {zs : List Int} (h : De w b n zs) (hb : w'.heap[b]? = w.heap[b]?) : De w' b n zs := by
  obtain ⟨S, h1, h2, h3⟩ := h.row
  exact ⟨h.ok, h.mo, S, h1, h2, hb.trans h3⟩

set_option maxRecDepth 100000 in
set_option maxHeartbeats 1000000 in
theorem room_any (b n : Nat) (zs : List Int) (w : World) (h : De w b n zs) :
    Calls Tryd.prog 25 #[.pointer (some ⟨b, 0, none⟩)] w fun e w' => e = .returned (.int .i64 (8 * (n : Int) + 256)) ∧ w' = w := by
  obtain ⟨S, h1, h2, h3⟩ := h.row
  have c0 := arr_cell h3 (i := 0) (by simp [dl])
  have e0 : (dl n zs S).getD 0 0 = (n : Int) := rfl
  rw [e0] at c0
  have hm := h.mo
  have hn0 : ¬ (n : Int) = 0 := by omega
  clear e0
  go_enter Tryd.func25, Tryd.ntmps25
  go_wp2_with fail
  go_ret
  exact ⟨rfl, rfl⟩
end Go.Proofs.YtkfefmnjhbkfdaaDoor
