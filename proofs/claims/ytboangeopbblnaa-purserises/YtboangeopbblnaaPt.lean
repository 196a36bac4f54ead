import Derived.Test.YtboangeopbblnaaPs
namespace Go.Proofs.Ytboangeopbblnaa
open Go.RowKit
set_option linter.unusedVariables false
theorem num_lt8 (H : List Bool) (n : Nat) : num (H.take n) < 2 ^ n := Nat.lt_of_lt_of_le (num_lt _) (Nat.pow_le_pow_right (by decide) (by rw [List.length_take]; omega))
theorem mem_getLastD {l : List Int} (h : l ≠ []) : l.getLastD 0 ∈ l := by
  cases l with
  | nil => exact absurd rfl h
  | cons a t =>
    have e : (a :: t).getLastD 0 = (a :: t).getLast (by simp) := by rw [List.getLastD_eq_getLast?, List.getLast?_eq_some_getLast (by simp)]; rfl
    rw [e]
    exact List.getLast_mem _
theorem vls8_bd {s : S8} (ob : ∀ z ∈ s.out, 0 ≤ z ∧ z ≤ 15) (hs : s.sym ≤ 18) : 0 ≤ vls8 s ∧ vls8 s ≤ 15 := by
  unfold vls8
  split
  · by_cases h : s.out = []
    · rw [h]; simp
    · exact ob _ (mem_getLastD h)
  · split
    · omega
    · omega
theorem lay8_ok {s : S8} (k : Nat) (szl : s.sz.length = 19) (szb : ∀ z ∈ s.sz, 0 ≤ z ∧ z ≤ 7) (ob : ∀ z ∈ s.out, 0 ≤ z ∧ z ≤ 15) (td : s.sized ≤ 19 ∧ s.told ≤ 19) (hc : errC s.sz = 0) (h1 : 257 ≤ s.lit) (h2 : s.lit ≤ 286) (h3 : s.dist ≤ 30) (hol : s.out.length ≤ 316) (hs : s.sym ≤ 18) : Ok8 (lay8 s k) := by
  unfold lay8
  have hv := vls8_bd ob hs
  by_cases hk : s.lit + s.dist < s.out.length + k
  · rw [if_pos hk]
    exact ⟨szl, szb, ob, ⟨by show s.lit ≤ 288; omega, by show s.dist ≤ 32; omega⟩, hol, td, fun e => by simp at e, fun e => by simp at e, fun e => by simp at e, fun e => by simp at e, fun e => by simp at e, by simp⟩
  · rw [if_neg hk]
    have hob : ∀ z ∈ s.out ++ List.replicate k (vls8 s), 0 ≤ z ∧ z ≤ 15 := by
      intro z hz
      rw [List.mem_append] at hz
      rcases hz with hz | hz
      · exact ob z hz
      · rw [(List.mem_replicate.1 hz).2]; exact hv
    have hln : (s.out ++ List.replicate k (vls8 s)).length = s.out.length + k := by simp
    refine ⟨szl, szb, hob, ⟨by show s.lit ≤ 288; omega, by show s.dist ≤ 32; omega⟩, by show (s.out ++ List.replicate k (vls8 s)).length ≤ 316; omega, td, fun e => ?_, fun e => ?_, fun e => ?_, fun e => ?_, fun e => ?_, ?_⟩
    · exfalso; revert e; dsimp only; split <;> (try split) <;> omega
    · exfalso; revert e; dsimp only; split <;> (try split) <;> omega
    · dsimp only at e ⊢
      refine ⟨hc, h1, h2, h3, ?_⟩
      rw [hln]
      by_cases he : s.out.length + k = s.lit + s.dist
      · exfalso; rw [if_pos he] at e; split at e <;> omega
      · omega
    · exfalso; revert e; dsimp only; split <;> (try split) <;> omega
    · dsimp only at e ⊢
      by_cases he : s.out.length + k = s.lit + s.dist
      · rw [if_pos he] at e
        refine ⟨by rw [hln]; exact he, ?_⟩
        by_cases ht : tld8 errC ((s.out ++ List.replicate k (vls8 s)).take s.lit) ((s.out ++ List.replicate k (vls8 s)).drop s.lit)
        · exact ht
        · rw [if_neg ht] at e; omega
      · rw [if_neg he] at e; omega
    · dsimp only; split <;> (try split) <;> omega
theorem One8.ok {s s' : S8} {H : List Bool} {n : Nat} (ok : Ok8 s) (h : One8 s H s' n) : Ok8 s' := by
  cases h with
  | cts h0 h =>
    have hv := num_lt8 H 14
    generalize num (H.take 14) = v at *
    have a0 := ok.at0 h0
    have e : (2 : Nat) ^ 14 = 16384 := by decide
    rw [e] at hv
    refine ⟨ok.szl, ok.szb, ok.ob, ?_, ok.ol, ?_, fun e => ?_, fun e => ?_, fun e => ?_, fun e => ?_, fun e => ?_, ?_⟩
    · show 257 + v % 32 ≤ 288 ∧ 1 + v / 32 % 32 ≤ 32; omega
    · show s.sized ≤ 19 ∧ 4 + v / 1024 ≤ 19; have := ok.td; omega
    · exfalso; revert e; unfold cts8; dsimp only; split <;> omega
    · revert e; unfold cts8; dsimp only
      by_cases hx : 286 < 257 + v % 32 ∨ 30 < 1 + v / 32 % 32
      · rw [if_pos hx]; intro e; omega
      · intro _; refine ⟨by rw [a0.1]; omega, by omega, by omega, by omega, a0.2⟩
    · exfalso; revert e; unfold cts8; dsimp only; split <;> omega
    · exfalso; revert e; unfold cts8; dsimp only; split <;> omega
    · exfalso; revert e; unfold cts8; dsimp only; split <;> omega
    · unfold cts8; dsimp only; split <;> omega
  | siz h0 h =>
    have hv := num_lt8 H 3
    generalize num (H.take 3) = v at *
    obtain ⟨a1, a2, a3, a4, a5⟩ := ok.at1 h0
    have e : (2 : Nat) ^ 3 = 8 := by decide
    rw [e] at hv
    have hsl : (ssz8 s v).length = 19 := by unfold ssz8; rw [List.length_set]; exact ok.szl
    have hsb : ∀ z ∈ ssz8 s v, 0 ≤ z ∧ z ≤ 7 := by
      intro z hz
      unfold ssz8 at hz
      rcases List.mem_or_eq_of_mem_set hz with hz | hz
      · exact ok.szb z hz
      · subst hz; omega
    have htd := ok.td
    refine ⟨hsl, hsb, ok.ob, ok.ld, ok.ol, ⟨by show s.sized + 1 ≤ 19; omega, htd.2⟩, fun e => ?_, fun e => ?_, fun e => ?_, fun e => ?_, fun e => ?_, ?_⟩
    · exfalso; revert e; unfold siz8; dsimp only; rw [h0]; split <;> (try split) <;> omega
    · revert e; unfold siz8; dsimp only
      by_cases hx : s.sized + 1 = s.told
      · rw [if_pos hx]; intro e; exfalso; split at e <;> omega
      · intro _; exact ⟨by omega, a2, a3, a4, a5⟩
    · revert e; unfold siz8; dsimp only
      by_cases hx : s.sized + 1 = s.told
      · rw [if_pos hx]; intro e
        by_cases hy : (∀ z ∈ ssz8 s v, z = 0) ∨ errC (ssz8 s v) ≠ 0
        · rw [if_pos hy] at e; omega
        · have : errC (ssz8 s v) = 0 := Classical.byContradiction fun c => hy (.inr c)
          exact ⟨this, a2, a3, a4, by rw [a5]; simp; omega⟩
      · rw [if_neg hx, h0]; intro e; omega
    · exfalso; revert e; unfold siz8; dsimp only; rw [h0]; split <;> (try split) <;> omega
    · exfalso; revert e; unfold siz8; dsimp only; rw [h0]; split <;> (try split) <;> omega
    · unfold siz8; dsimp only; rw [h0]; split <;> (try split) <;> omega
  | @sym x h0 h =>
    obtain ⟨a1, a2, a3, a4, a5⟩ := ok.at2 (.inl h0)
    have hx : x ≤ 18 := by have := h.1; rw [ok.szl] at this; omega
    unfold sym8
    by_cases c1 : x = 16 ∧ s.out = []
    · rw [if_pos c1]
      exact ⟨ok.szl, ok.szb, ok.ob, ok.ld, ok.ol, ok.td, fun e => by simp at e, fun e => by simp at e, fun e => by simp at e, fun e => by simp at e, fun e => by simp at e, by simp⟩
    · rw [if_neg c1]
      by_cases c2 : 16 ≤ x
      · rw [if_pos c2]
        exact ⟨ok.szl, ok.szb, ok.ob, ok.ld, ok.ol, ok.td, fun e => by simp at e, fun e => by simp at e, fun _ => ⟨a1, a2, a3, a4, a5⟩, fun _ => ⟨c2, hx, fun e hn => c1 ⟨e, hn⟩⟩, fun e => by simp at e, by simp⟩
      · rw [if_neg c2]
        exact lay8_ok 1 ok.szl ok.szb ok.ob ok.td a1 a2 a3 a4 ok.ol (by show x ≤ 18; omega)
  | bad h0 h k =>
    exact ⟨ok.szl, ok.szb, ok.ob, ok.ld, ok.ol, ok.td, fun e => by simp at e, fun e => by simp at e, fun e => by simp at e, fun e => by simp at e, fun e => by simp at e, by simp⟩
  | mor h0 h =>
    obtain ⟨a1, a2, a3, a4, a5⟩ := ok.at2 (.inr h0)
    exact lay8_ok _ ok.szl ok.szb ok.ob ok.td a1 a2 a3 a4 ok.ol (ok.at3 h0).2.1
theorem Run8.ok {s s' : S8} {H : List Bool} {n : Nat} (ok : Ok8 s) (h : Run8 s H s' n) : Ok8 s' := by
  induction h with
  | nil => exact ok
  | cons h _ ih => exact ih (h.ok ok)
end Go.Proofs.Ytboangeopbblnaa

namespace Go.Proofs.Ytboangeopbblnaa
open Go.RowKit
set_option linter.unusedVariables false
/-- What stands ahead of a reader's decoder. -/
def rpre8 (s : S8) : List Value := [.bool true, .int .i64 (s.nx : Int), .int .i64 (s.lit : Int), .int .i64 (s.dist : Int), .int .i64 (s.told : Int), .int .i64 (s.sized : Int), .int .i64 (s.out.length : Int), .int .i64 (s.sym : Int)] ++ (s.sz.map (Value.int .u8) ++ (s.out ++ List.replicate (320 - s.out.length) 0).map (Value.int .u8))
/-- A reader of lengths in memory. -/
structure RdH (w : World) (b : Nat) (s : S8) : Prop where
  row : ∃ zs0, Rb8 w b (rpre8 s) zs0 ∧ (s.nx = 2 ∨ s.nx = 3 → zs0 = s.sz)
theorem RdH.lt {w : World} {b : Nat} {s : S8} (h : RdH w b s) : b < w.heap.size := by
  obtain ⟨z, h, _⟩ := h.row
  exact h.lt
theorem RdH.keep {w w' : World} {b : Nat} {s : S8} (h : RdH w b s) (hb : w'.heap[b]? = w.heap[b]?) : RdH w' b s := by
  obtain ⟨z, h1, h2⟩ := h.row
  exact ⟨z, h1.keep hb, h2⟩
theorem Rb8.set {w : World} {b : Nat} {pre : List Value} {zs : List Int} (h : Rb8 w b pre zs) {i : Nat} (hi : i < 347) (v : Value) : Rb8 (w.setCell ⟨b, i, none⟩ v) b (pre.set i v) zs := by
  obtain ⟨S, h1, h2, h3⟩ := h.row
  refine ⟨h.ok, by rw [List.length_set]; exact h.len, S, h1, h2, ?_⟩
  rw [heap_setCell_same w b i _ _ _ h3]
  congr 2
  have := h.len
  simp [List.set_append_left _ _ (show i < pre.length by omega)]
theorem Rb8.cell {w : World} {b : Nat} {pre : List Value} {zs : List Int} (h : Rb8 w b pre zs) {i : Nat} {v : Value} (hv : pre[i]? = some v) : w.cell? ⟨b, i, none⟩ = some v := by
  obtain ⟨S, h1, h2, h3⟩ := h.row
  exact pre_cell8 h3 hv
theorem Rb8.free {w : World} {b : Nat} {pre : List Value} {zs : List Int} (h : Rb8 w b pre zs) (i : Nat) : w.frozen? ⟨b, i, none⟩ = false := by
  obtain ⟨S, h1, h2, h3⟩ := h.row
  exact frozen_of_row w b i _ _ h3
end Go.Proofs.Ytboangeopbblnaa
