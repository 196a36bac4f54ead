import Derived.Test.YthcmebmohhajaaaDoorPi
import Derived.Test.YthcmebmohhajaaaDoorPg
import Derived.Laws.Rows
import Derived.Laws.Tables
import Derived.Laws.CopyOwn
namespace Go.Proofs.YthcmebmohhajaaaDoor
open Go.RowKit
set_option linter.unusedVariables false

theorem num_lt8 (H : List Bool) (n : Nat) : num (H.take n) < 2 ^ n := Nat.lt_of_lt_of_le (num_lt _) (Nat.pow_le_pow_right (by decide) (by rw [List.length_take]; omega))
theorem mem_getLastD {l : List Int} (h : l ≠ []) : l.getLastD 0 ∈ l := by
  cases l with
  | nil => exact absurd rfl h
  | cons a t =>
    have e : (a :: t).getLastD 0 = (a :: t).getLast (by simp) := by rw [List.getLastD_eq_getLast?, List.getLast?_eq_some_getLast (by simp)]; rfl
    rw [e]
    exact List.getLast_mem _
theorem vls8_bd {s : S8} (ob : ∀ z ∈ s.out, 0 ≤ z ∧ z ≤ 15) (hs : s.sym ≤ 18) : 0 ≤ vls8 s ∧ vls8 s ≤ 15 := by
  unfold vls8
  split
  · by_cases h : s.out = []
    · rw [h]; simp
    · exact ob _ (mem_getLastD h)
  · split
    · omega
    · omega
theorem lay8_ok {s : S8} (k : Nat) (szl : s.sz.length = 19) (szb : ∀ z ∈ s.sz, 0 ≤ z ∧ z ≤ 7) (ob : ∀ z ∈ s.out, 0 ≤ z ∧ z ≤ 15) (td : s.sized ≤ 19 ∧ s.told ≤ 19) (hc : errC s.sz = 0) (h1 : 257 ≤ s.lit) (h2 : s.lit ≤ 286) (h3 : s.dist ≤ 30) (hol : s.out.length ≤ 316) (hs : s.sym ≤ 18) : Ok8 (lay8 s k) := by
  unfold lay8
  have hv := vls8_bd ob hs
  by_cases hk : s.lit + s.dist < s.out.length + k
  · rw [if_pos hk]
    exact ⟨szl, szb, ob, ⟨by show s.lit ≤ 288; omega, by show s.dist ≤ 32; omega⟩, hol, td, fun e => by simp at e, fun e => by simp at e, fun e => by simp at e, fun e => by simp at e, fun e => by simp at e, by simp⟩
  · rw [if_neg hk]
    have hob : ∀ z ∈ s.out ++ List.replicate k (vls8 s), 0 ≤ z ∧ z ≤ 15 := by
      intro z hz
      rw [List.mem_append] at hz
      rcases hz with hz | hz
      · exact ob z hz
      · rw [(List.mem_replicate.1 hz).2]; exact hv
    have hln : (s.out ++ List.replicate k (vls8 s)).length = s.out.length + k := by simp
    refine ⟨szl, szb, hob, ⟨by show s.lit ≤ 288; omega, by show s.dist ≤ 32; omega⟩, by show (s.out ++ List.replicate k (vls8 s)).length ≤ 316; omega, td, fun e => ?_, fun e => ?_, fun e => ?_, fun e => ?_, fun e => ?_, ?_⟩
    · exfalso; revert e; dsimp only; split <;> (try split) <;> omega
    · exfalso; revert e; dsimp only; split <;> (try split) <;> omega
    · dsimp only at e ⊢
      refine ⟨hc, h1, h2, h3, ?_⟩
      rw [hln]
      by_cases he : s.out.length + k = s.lit + s.dist
      · exfalso; rw [if_pos he] at e; split at e <;> omega
      · omega
    · exfalso; revert e; dsimp only; split <;> (try split) <;> omega
    · dsimp only at e ⊢
      by_cases he : s.out.length + k = s.lit + s.dist
      · rw [if_pos he] at e
        refine ⟨by rw [hln]; exact he, ?_⟩
        by_cases ht : tld8 errC ((s.out ++ List.replicate k (vls8 s)).take s.lit) ((s.out ++ List.replicate k (vls8 s)).drop s.lit)
        · exact ht
        · rw [if_neg ht] at e; omega
      · rw [if_neg he] at e; omega
    · dsimp only; split <;> (try split) <;> omega
theorem One8.ok {s s' : S8} {H : List Bool} {n : Nat} (ok : Ok8 s) (h : One8 s H s' n) : Ok8 s' := by
  cases h with
  | cts h0 h =>
    have hv := num_lt8 H 14
    generalize num (H.take 14) = v at *
    have a0 := ok.at0 h0
    have e : (2 : Nat) ^ 14 = 16384 := by decide
    rw [e] at hv
    refine ⟨ok.szl, ok.szb, ok.ob, ?_, ok.ol, ?_, fun e => ?_, fun e => ?_, fun e => ?_, fun e => ?_, fun e => ?_, ?_⟩
    · show 257 + v % 32 ≤ 288 ∧ 1 + v / 32 % 32 ≤ 32; omega
    · show s.sized ≤ 19 ∧ 4 + v / 1024 ≤ 19; have := ok.td; omega
    · exfalso; revert e; unfold cts8; dsimp only; split <;> omega
    · revert e; unfold cts8; dsimp only
      by_cases hx : 286 < 257 + v % 32 ∨ 30 < 1 + v / 32 % 32
      · rw [if_pos hx]; intro e; omega
      · intro _; refine ⟨by rw [a0.1]; omega, by omega, by omega, by omega, a0.2⟩
    · exfalso; revert e; unfold cts8; dsimp only; split <;> omega
    · exfalso; revert e; unfold cts8; dsimp only; split <;> omega
    · exfalso; revert e; unfold cts8; dsimp only; split <;> omega
    · unfold cts8; dsimp only; split <;> omega
  | siz h0 h =>
    have hv := num_lt8 H 3
    generalize num (H.take 3) = v at *
    obtain ⟨a1, a2, a3, a4, a5⟩ := ok.at1 h0
    have e : (2 : Nat) ^ 3 = 8 := by decide
    rw [e] at hv
    have hsl : (ssz8 s v).length = 19 := by unfold ssz8; rw [List.length_set]; exact ok.szl
    have hsb : ∀ z ∈ ssz8 s v, 0 ≤ z ∧ z ≤ 7 := by
      intro z hz
      unfold ssz8 at hz
      rcases List.mem_or_eq_of_mem_set hz with hz | hz
      · exact ok.szb z hz
      · subst hz; omega
    have htd := ok.td
    refine ⟨hsl, hsb, ok.ob, ok.ld, ok.ol, ⟨by show s.sized + 1 ≤ 19; omega, htd.2⟩, fun e => ?_, fun e => ?_, fun e => ?_, fun e => ?_, fun e => ?_, ?_⟩
    · exfalso; revert e; unfold siz8; dsimp only; rw [h0]; split <;> (try split) <;> omega
    · revert e; unfold siz8; dsimp only
      by_cases hx : s.sized + 1 = s.told
      · rw [if_pos hx]; intro e; exfalso; split at e <;> omega
      · intro _; exact ⟨by omega, a2, a3, a4, a5⟩
    · revert e; unfold siz8; dsimp only
      by_cases hx : s.sized + 1 = s.told
      · rw [if_pos hx]; intro e
        by_cases hy : (∀ z ∈ ssz8 s v, z = 0) ∨ errC (ssz8 s v) ≠ 0
        · rw [if_pos hy] at e; omega
        · have : errC (ssz8 s v) = 0 := Classical.byContradiction fun c => hy (.inr c)
          exact ⟨this, a2, a3, a4, by rw [a5]; simp; omega⟩
      · rw [if_neg hx, h0]; intro e; omega
    · exfalso; revert e; unfold siz8; dsimp only; rw [h0]; split <;> (try split) <;> omega
    · exfalso; revert e; unfold siz8; dsimp only; rw [h0]; split <;> (try split) <;> omega
    · unfold siz8; dsimp only; rw [h0]; split <;> (try split) <;> omega
  | @sym x h0 h =>
    obtain ⟨a1, a2, a3, a4, a5⟩ := ok.at2 (.inl h0)
    have hx : x ≤ 18 := by have := h.1; rw [ok.szl] at this; omega
    unfold sym8
    by_cases c1 : x = 16 ∧ s.out = []
    · rw [if_pos c1]
      exact ⟨ok.szl, ok.szb, ok.ob, ok.ld, ok.ol, ok.td, fun e => by simp at e, fun e => by simp at e, fun e => by simp at e, fun e => by simp at e, fun e => by simp at e, by simp⟩
    · rw [if_neg c1]
      by_cases c2 : 16 ≤ x
      · rw [if_pos c2]
        exact ⟨ok.szl, ok.szb, ok.ob, ok.ld, ok.ol, ok.td, fun e => by simp at e, fun e => by simp at e, fun _ => ⟨a1, a2, a3, a4, a5⟩, fun _ => ⟨c2, hx, fun e hn => c1 ⟨e, hn⟩⟩, fun e => by simp at e, by simp⟩
      · rw [if_neg c2]
        exact lay8_ok 1 ok.szl ok.szb ok.ob ok.td a1 a2 a3 a4 ok.ol (by show x ≤ 18; omega)
  | bad h0 h k =>
    exact ⟨ok.szl, ok.szb, ok.ob, ok.ld, ok.ol, ok.td, fun e => by simp at e, fun e => by simp at e, fun e => by simp at e, fun e => by simp at e, fun e => by simp at e, by simp⟩
  | mor h0 h =>
    obtain ⟨a1, a2, a3, a4, a5⟩ := ok.at2 (.inr h0)
    exact lay8_ok _ ok.szl ok.szb ok.ob ok.td a1 a2 a3 a4 ok.ol (ok.at3 h0).2.1
theorem Run8.ok {s s' : S8} {H : List Bool} {n : Nat} (ok : Ok8 s) (h : Run8 s H s' n) : Ok8 s' := by
  induction h with
  | nil => exact ok
  | cons h _ ih => exact ih (h.ok ok)
/-- A run to where it waits is the only one. -/
theorem Run8.det {s a b : S8} {H : List Bool} {n m : Nat} (ok : Ok8 s) (h1 : Run8 s H a n) (w1 : Wait8 a (H.drop n)) (h2 : Run8 s H b m) (w2 : Wait8 b (H.drop m)) : a = b ∧ n = m := by
  induction h1 generalizing m with
  | nil =>
    cases h2 with
    | nil => exact ⟨rfl, rfl⟩
    | cons k _ => exact absurd (by simpa using w1) k.wait
  | cons h _ ih =>
    cases h2 with
    | nil => exact absurd (by simpa using w2) h.wait
    | cons k k2 =>
      obtain ⟨rfl, rfl⟩ := h.det ok k
      obtain ⟨rfl, rfl⟩ := ih (h.ok ok) (by rw [List.drop_drop]; exact w1) k2 (by rw [List.drop_drop]; exact w2)
      exact ⟨rfl, rfl⟩
end Go.Proofs.YthcmebmohhajaaaDoor

namespace Go.Proofs.YthcmebmohhajaaaDoor
open Go.RowKit
set_option linter.unusedVariables false

/-- What stands ahead of a reader's decoder. -/
def rpre8 (s : S8) : List Value := [.bool true, .int .i64 (s.nx : Int), .int .i64 (s.lit : Int), .int .i64 (s.dist : Int), .int .i64 (s.told : Int), .int .i64 (s.sized : Int), .int .i64 (s.out.length : Int), .int .i64 (s.sym : Int)] ++ (s.sz.map (Value.int .u8) ++ (s.out ++ List.replicate (320 - s.out.length) 0).map (Value.int .u8))
/-- A reader of lengths in memory. -/
structure RdH (w : World) (b : Nat) (s : S8) : Prop where
  row : ∃ zs0, Rb8 w b (rpre8 s) zs0 ∧ (s.nx = 2 ∨ s.nx = 3 → zs0 = s.sz)
theorem RdH.lt {w : World} {b : Nat} {s : S8} (h : RdH w b s) : b < w.heap.size := by
  obtain ⟨z, h, _⟩ := h.row
  exact h.lt
theorem RdH.keep {w w' : World} {b : Nat} {s : S8} (h : RdH w b s) (hb : w'.heap[b]? = w.heap[b]?) : RdH w' b s := by
  obtain ⟨z, h1, h2⟩ := h.row
  exact ⟨z, h1.keep hb, h2⟩
theorem Rb8.set {w : World} {b : Nat} {pre : List Value} {zs : List Int} (h : Rb8 w b pre zs) {i : Nat} (hi : i < 347) (v : Value) : Rb8 (w.setCell ⟨b, i, none⟩ v) b (pre.set i v) zs := by
  obtain ⟨S, h1, h2, h3⟩ := h.row
  refine ⟨h.ok, by rw [List.length_set]; exact h.len, S, h1, h2, ?_⟩
  rw [heap_setCell_same w b i _ _ _ h3]
  congr 2
  have := h.len
  simp [List.set_append_left _ _ (show i < pre.length by omega)]
theorem Rb8.cell {w : World} {b : Nat} {pre : List Value} {zs : List Int} (h : Rb8 w b pre zs) {i : Nat} {v : Value} (hv : pre[i]? = some v) : w.cell? ⟨b, i, none⟩ = some v := by
  obtain ⟨S, h1, h2, h3⟩ := h.row
  exact pre_cell8 h3 hv
theorem Rb8.free {w : World} {b : Nat} {pre : List Value} {zs : List Int} (h : Rb8 w b pre zs) (i : Nat) : w.frozen? ⟨b, i, none⟩ = false := by
  obtain ⟨S, h1, h2, h3⟩ := h.row
  exact frozen_of_row w b i _ _ h3
/-- What a part answers. -/
def TkQ (w : World) (b br : Nat) (s : S8) (H : List Bool) (t : Nat) (e : Ending) (w' : World) : Prop := Kp (fun k => k = b ∨ k = br) w w' ∧ ((e = .returned (.bool true) ∧ ∃ s' n, One8 s H s' n ∧ RdH w' b s' ∧ Rd w' br (H.drop n) (t + n)) ∨ (e = .returned (.bool false) ∧ Wait8 s H ∧ RdH w' b s ∧ Rd w' br H t))
theorem there_lt {H : List Bool} {k : Nat} (h : H.length < k) : there H (k : Int) = false := by
  unfold there
  exact decide_eq_false (by omega)

theorem Kp.set8 {S : Nat → Prop} {w w' : World} {b : Nat} (h : Kp S w w') (hb : S b) (i : Nat) (v : Value) : Kp S w (w'.setCell ⟨b, i, none⟩ v) :=
  h.trans (Kp.grown (S := fun k => k = b) (set_grown w' b i v) (fun j e => by cases e; rfl)) (fun k _ e => by subst e; exact hb)
theorem cts_nx8 (s : S8) (v : Nat) : (cts8 s v).nx = if 286 < 257 + v % 32 ∨ 30 < 1 + v / 32 % 32 then 5 else 1 := rfl
theorem cts_pre8 (s : S8) (v : Nat) : ((((rpre8 s).set 2 (.int .i64 ((257 + v % 32 : Nat) : Int))).set 3 (.int .i64 ((1 + v / 32 % 32 : Nat) : Int))).set 4 (.int .i64 ((4 + v / 1024 : Nat) : Int))).set 1 (.int .i64 ((cts8 s v).nx : Int)) = rpre8 (cts8 s v) := by
  unfold rpre8
  simp only [List.cons_append, List.nil_append, List.set_cons_zero, List.set_cons_succ]
  rfl
theorem set_two8 (l : List Value) (i : Nat) (x y : Value) : (l.set i x).set i y = l.set i y := List.set_set x
theorem cts_rb8 {w : World} {b : Nat} {s : S8} {zs0 : List Int} {v : Nat} (h : Rb8 w b (rpre8 s) zs0) (x y z n : Int) (hx : x = ((257 + v % 32 : Nat) : Int)) (hy : y = ((1 + v / 32 % 32 : Nat) : Int)) (hz : z = ((4 + v / 1024 : Nat) : Int)) (hn : n = ((cts8 s v).nx : Int)) :
    Rb8 ((((w.setCell ⟨b, 2, none⟩ (.int .i64 x)).setCell ⟨b, 3, none⟩ (.int .i64 y)).setCell ⟨b, 4, none⟩ (.int .i64 z)).setCell ⟨b, 1, none⟩ (.int .i64 n)) b (rpre8 (cts8 s v)) zs0 := by
  subst hx hy hz hn
  rw [← cts_pre8]
  exact (((h.set (i := 2) (by omega) _).set (i := 3) (by omega) _).set (i := 4) (by omega) _).set (i := 1) (by omega) _
theorem cts_rb82 {w : World} {b : Nat} {s : S8} {zs0 : List Int} {v : Nat} (h : Rb8 w b (rpre8 s) zs0) (x y z m n : Int) (hx : x = ((257 + v % 32 : Nat) : Int)) (hy : y = ((1 + v / 32 % 32 : Nat) : Int)) (hz : z = ((4 + v / 1024 : Nat) : Int)) (hn : n = ((cts8 s v).nx : Int)) :
    Rb8 (((((w.setCell ⟨b, 2, none⟩ (.int .i64 x)).setCell ⟨b, 3, none⟩ (.int .i64 y)).setCell ⟨b, 4, none⟩ (.int .i64 z)).setCell ⟨b, 1, none⟩ (.int .i64 m)).setCell ⟨b, 1, none⟩ (.int .i64 n)) b (rpre8 (cts8 s v)) zs0 := by
  subst hx hy hz hn
  rw [← cts_pre8, ← set_two8 _ 1 (.int .i64 m)]
  exact ((((h.set (i := 2) (by omega) _).set (i := 3) (by omega) _).set (i := 4) (by omega) _).set (i := 1) (by omega) _).set (i := 1) (by omega) _
end Go.Proofs.YthcmebmohhajaaaDoor

namespace Go.Proofs.YthcmebmohhajaaaDoor
open Go.RowKit
set_option linter.unusedVariables false

set_option maxRecDepth 100000 in
set_option maxHeartbeats 2000000 in
theorem tcounts8 (b br : Nat) (s : S8) (H : List Bool) (t : Nat) (w : World) (hne : b ≠ br) (h0 : s.nx = 0) (hR : RdH w b s) (hr : Rd w br H t) (ht : t ≤ 4611686018427387000) :
    Calls Tryd.prog 25 #[.pointer (some ⟨b, 0, none⟩), .pointer (some ⟨br, 0, none⟩)] w (TkQ w b br s H t) := by
  have CT := take_any br H t ((14 : Nat) : Int) w hr (by omega)
  have hbl := hR.lt
  by_cases hl : 14 ≤ H.length
  · have hth : there H ((14 : Nat) : Int) = true := there_of (by omega) hl
    unfold takeV takeL takeT at CT
    simp only [hth, if_true, Int.toNat_natCast] at CT
    have HO : Hid (One8 s H (cts8 s (num (H.take 14))) 14) := One8.cts h0 hl
    have hv := num_lt8 H 14
    generalize num (H.take 14) = v at *
    have e14 : (2 : Nat) ^ 14 = 16384 := by decide
    rw [e14] at hv
    have k1 := and_low v 5 (by omega) (by omega)
    have k2 := and_low (v / 32) 5 (by omega) (by omega)
    have e5 : ((2 ^ 5 - 1 : Nat) : Int) = 31 := by decide
    have e6 : (2 : Nat) ^ 5 = 32 := by decide
    rw [e5, e6] at k1 k2
    obtain ⟨V, hV⟩ : ∃ V : Int, V = (v : Int) := ⟨_, rfl⟩
    have k1 : bits .and .u64 V 31 = V % 32 := by rw [hV, k1]; simp
    have k2 : bits .and .u64 (V / 32) 31 = V / 32 % 32 := by rw [hV, show (v : Int) / 32 = ((v / 32 : Nat) : Int) by simp, k2]; simp
    have HV : Hid (V = (v : Int)) := hV
    have hV0 : 0 ≤ V := by omega
    have hV1 : V < 16384 := by omega
    rw [← hV] at CT
    clear hV
    have HX : Hid ((cts8 s v).lit = 257 + v % 32 ∧ (cts8 s v).dist = 1 + v / 32 % 32 ∧ (cts8 s v).told = 4 + v / 1024) := ⟨rfl, rfl, rfl⟩
    clear e14 e5 e6 hv
    go_enter Tryd.func25, Tryd.ntmps25
    go_wp2_with fail
    refine CT.mono ?_
    rintro e w1 ⟨rfl, r1, g1⟩
    have hR1 := hR.keep (g1.block b hbl (fun e => hne (by cases e; rfl)))
    obtain ⟨zs0, hB, hz⟩ := hR1.row
    have c1 := hB.cell (i := 1) rfl
    have c2 := hB.cell (i := 2) rfl
    have c3 := hB.cell (i := 3) rfl
    have c4 := hB.cell (i := 4) rfl
    have f1 := hB.free 1
    have f2 := hB.free 2
    have f3 := hB.free 3
    have f4 := hB.free 4
    have HB : Hid (Rb8 w1 b (rpre8 s) zs0) := hB
    clear hB hz CT
    go_wp2_with fail
    · rename_i hcd
      rw [HV.out] at hcd
      have hcv : (286 < 257 + v % 32 ∨ 30 < 1 + v / 32 % 32) := by omega
      go_ret
      refine ⟨?_, .inl ⟨rfl, cts8 s v, 14, HO.out, ⟨zs0, ?_, ?_⟩, ?_⟩⟩
      · have hk : Kp (fun k => k = b ∨ k = br) w w1 := Kp.grown g1 (fun j e => by cases e; exact .inr rfl)
        exact ((((hk.set8 (.inl rfl) 2 _).set8 (.inl rfl) 3 _).set8 (.inl rfl) 4 _).set8 (.inl rfl) 1 _).set8 (.inl rfl) 1 _
      · exact cts_rb82 (v := v) HB.out _ _ _ _ _ (by rw [HV.out]; simp) (by rw [HV.out]; simp) (by rw [HV.out]; simp) (by rw [cts_nx8, if_pos hcv]; rfl)
      · intro e
        exfalso
        rw [cts_nx8, if_pos hcv] at e
        omega
      · have hk : Kp (fun k => k = b) w1 w1 := Kp.refl _ _
        exact r1.kp (((((hk.set8 rfl 2 _).set8 rfl 3 _).set8 rfl 4 _).set8 rfl 1 _).set8 rfl 1 _) (fun e => hne e.symm)
    · rename_i hcd
      rw [HV.out] at hcd
      have hcv : ¬ (286 < 257 + v % 32 ∨ 30 < 1 + v / 32 % 32) := by omega
      go_ret
      refine ⟨?_, .inl ⟨rfl, cts8 s v, 14, HO.out, ⟨zs0, ?_, ?_⟩, ?_⟩⟩
      · have hk : Kp (fun k => k = b ∨ k = br) w w1 := Kp.grown g1 (fun j e => by cases e; exact .inr rfl)
        exact (((hk.set8 (.inl rfl) 2 _).set8 (.inl rfl) 3 _).set8 (.inl rfl) 4 _).set8 (.inl rfl) 1 _
      · exact cts_rb8 (v := v) HB.out _ _ _ _ (by rw [HV.out]; simp) (by rw [HV.out]; simp) (by rw [HV.out]; simp) (by rw [cts_nx8, if_neg hcv]; rfl)
      · intro e
        exfalso
        rw [cts_nx8, if_neg hcv] at e
        omega
      · have hk : Kp (fun k => k = b) w1 w1 := Kp.refl _ _
        exact r1.kp ((((hk.set8 rfl 2 _).set8 rfl 3 _).set8 rfl 4 _).set8 rfl 1 _) (fun e => hne e.symm)
    · rename_i hcd
      rw [HV.out] at hcd
      have hcv : (286 < 257 + v % 32 ∨ 30 < 1 + v / 32 % 32) := by omega
      go_ret
      refine ⟨?_, .inl ⟨rfl, cts8 s v, 14, HO.out, ⟨zs0, ?_, ?_⟩, ?_⟩⟩
      · have hk : Kp (fun k => k = b ∨ k = br) w w1 := Kp.grown g1 (fun j e => by cases e; exact .inr rfl)
        exact ((((hk.set8 (.inl rfl) 2 _).set8 (.inl rfl) 3 _).set8 (.inl rfl) 4 _).set8 (.inl rfl) 1 _).set8 (.inl rfl) 1 _
      · exact cts_rb82 (v := v) HB.out _ _ _ _ _ (by rw [HV.out]; simp) (by rw [HV.out]; simp) (by rw [HV.out]; simp) (by rw [cts_nx8, if_pos hcv]; rfl)
      · intro e
        exfalso
        rw [cts_nx8, if_pos hcv] at e
        omega
      · have hk : Kp (fun k => k = b) w1 w1 := Kp.refl _ _
        exact r1.kp (((((hk.set8 rfl 2 _).set8 rfl 3 _).set8 rfl 4 _).set8 rfl 1 _).set8 rfl 1 _) (fun e => hne e.symm)
  · have hth : there H ((14 : Nat) : Int) = false := there_lt (by omega)
    unfold takeV takeL takeT at CT
    simp only [hth, Bool.false_eq_true, if_false] at CT
    have HW : Hid (Wait8 s H) := .inl ⟨h0, by omega⟩
    go_enter Tryd.func25, Tryd.ntmps25
    go_wp2_with fail
    refine CT.mono ?_
    rintro e w1 ⟨rfl, r1, g1⟩
    have hR1 := hR.keep (g1.block b hbl (fun e => hne (by cases e; rfl)))
    go_wp2_with fail
    go_ret
    exact ⟨Kp.grown g1 (fun j e => by cases e; exact .inr rfl), .inr ⟨rfl, HW.out, hR1, r1⟩⟩
end Go.Proofs.YthcmebmohhajaaaDoor

namespace Go.Proofs.YthcmebmohhajaaaDoor
set_option linter.unusedVariables false

/-! Layer 8: what the runs of lengths are like. -/
def ok8 (r : Rn8) : Prop := 0 ≤ r.sy ∧ r.sy ≤ 18 ∧ lst8 r.sy ≤ r.ct ∧ r.ct ≤ grt8 r.sy
theorem rep8_ok : ∀ (f k : Nat), ∀ r ∈ rep8 f k, ok8 r
  | 0, k, r, h => by simp [rep8] at h
  | f + 1, k, r, h => by
    rw [rep8] at h
    split at h
    · rcases List.mem_cons.1 h with rfl | h
      · unfold ok8 lst8 grt8
        simp
        omega
      · exact rep8_ok f _ r h
    · simp at h
theorem row8_ok {v : Int} {k : Nat} (hv : 0 ≤ v ∧ v ≤ 15) (hk : 1 ≤ k) : ∀ r ∈ row8 v k, ok8 r := by
  intro r h
  unfold row8 at h
  split at h
  · split at h
    · simp at h; subst h; unfold ok8 lst8 grt8; simp; omega
    · split at h
      · simp at h; subst h; unfold ok8 lst8 grt8; simp; omega
      · simp at h; subst h; unfold ok8 lst8 grt8; simp
  · rcases List.mem_cons.1 h with rfl | h
    · have e16 : ¬ v = 16 := by omega
      have e17 : ¬ v = 17 := by omega
      have e18 : ¬ v = 18 := by omega
      unfold ok8 lst8 grt8
      simp [e16, e17, e18]
      omega
    · exact rep8_ok _ _ r h
theorem row8_len {v : Int} {k : Nat} (hk : 1 ≤ k) : (row8 v k).length ≤ sum8 (row8 v k) := sum8_len _ fun r hr => (row8_ct v k hk r hr).1
theorem rung8_ok : ∀ (f : Nat) (l : List Int), (∀ z ∈ l, 0 ≤ z ∧ z ≤ 15) → (∀ r ∈ rung8 f l, ok8 r) ∧ (rung8 f l).length ≤ l.length
  | 0, l, _ => by simp [rung8]
  | f + 1, [], _ => by simp [rung8]
  | f + 1, v :: t, h => by
    have hp : 1 ≤ pre8 v (v :: t) := by rw [pre8, if_pos rfl]; omega
    have hs := row8_sum (v := v) hp
    have hl := row8_len (v := v) hp
    have hpl := pre8_le v (v :: t)
    obtain ⟨i1, i2⟩ := rung8_ok f ((v :: t).drop (sum8 (row8 v (pre8 v (v :: t))))) fun z hz => h z (List.mem_of_mem_drop hz)
    rw [List.length_drop] at i2
    rw [rung8]
    refine ⟨fun r hr => ?_, ?_⟩
    · rcases List.mem_append.1 hr with hr | hr
      · exact row8_ok (h v (by simp)) hp r hr
      · exact i1 r hr
    · rw [List.length_append]
      omega
/-- The runs of lengths that may be: symbols 0 to 18, each count within its bounds; no more runs than lengths. -/
theorem runs8_ok {zs : List Int} (h : may8 zs) : (∀ r ∈ runs8 zs, ok8 r) ∧ (runs8 zs).length ≤ zs.length := rung8_ok zs.length zs h.2
theorem rns8_ok (zs : List Int) : (∀ r ∈ rns8 zs, ok8 r) ∧ (rns8 zs).length ≤ 320 := by
  unfold rns8
  split
  · rename_i h
    have h1 := runs8_ok h
    have h2 := h.1
    exact ⟨h1.1, by omega⟩
  · exact ⟨by simp, by simp⟩
theorem end8_mem : ∀ (l : List Int), 0 < l.length → end8 l ∈ l
  | [], h => by simp at h
  | [x], _ => by simp [end8]
  | x :: y :: r, _ => by
    have := end8_mem (y :: r) (by simp)
    rw [end8]
    · exact List.mem_cons_of_mem _ this
    · intro h; cases h
/-- Lengths that runs say: within 0 to 15, no more than 320. -/
theorem lng8_bd : ∀ (R : List Rn8) (out l : List Int), lng8 R out = some l → (∀ z ∈ out, 0 ≤ z ∧ z ≤ 15) → out.length ≤ 320 → (∀ z ∈ l, 0 ≤ z ∧ z ≤ 15) ∧ l.length ≤ 320
  | [], out, l, h, hb, hl => by
    rw [lng8] at h
    cases h
    exact ⟨hb, hl⟩
  | r :: R, out, l, h, hb, hl => by
    rw [lng8] at h
    split at h
    · cases h
    · rename_i hbad
      split at h
      · cases h
      · rename_i hlen
        refine lng8_bd R _ l h (fun z hz => ?_) (by omega)
        rcases List.mem_append.1 hz with hz | hz
        · exact hb z hz
        · rw [List.eq_of_mem_replicate hz]
          unfold val8
          unfold bad8 at hbad
          split
          · rename_i h16
            have hne : 0 < out.length := by
              by_cases e : out.length = 0
              · exact absurd (.inr (.inr (.inr (.inr ⟨h16, e⟩)))) hbad
              · omega
            exact hb _ (end8_mem out hne)
          · split <;> omega
theorem lens8_bd {R : List Rn8} {l : List Int} (h : lens8 R = some l) : (∀ z ∈ l, 0 ≤ z ∧ z ≤ 15) ∧ l.length ≤ 320 := lng8_bd R [] l h (by simp) (by simp)
end Go.Proofs.YthcmebmohhajaaaDoor

namespace Go.Proofs.YthcmebmohhajaaaDoor
set_option linter.unusedVariables false

/-! Layer 8: the program's own way to runs: a length that stands there k times, run by run. -/
def led8 (v : Int) (k : Nat) (again : Bool) : Rn8 := if v = 0 ∧ 11 ≤ k then ⟨18, (min k 138 : Nat)⟩ else if v = 0 ∧ 3 ≤ k then ⟨17, (min k 10 : Nat)⟩ else if ¬ v = 0 ∧ again = true ∧ 3 ≤ k then ⟨16, (min k 6 : Nat)⟩ else ⟨v, 1⟩
theorem led8_ct (v : Int) {k : Nat} (hk : 1 ≤ k) (again : Bool) : 1 ≤ (led8 v k again).ct ∧ (led8 v k again).ct ≤ k := by
  unfold led8
  split
  · simp only; omega
  · split
    · simp only; omega
    · split
      · simp only; omega
      · simp only; omega
def spd8 : Nat → Int → Nat → Bool → List Rn8
  | 0, _, _, _ => []
  | f + 1, v, k, again => if k = 0 then [] else led8 v k again :: spd8 f v (k - (led8 v k again).ct.toNat) true
theorem spd8_fuel (v : Int) : ∀ (f g k : Nat) (again : Bool), k ≤ f → k ≤ g → spd8 f v k again = spd8 g v k again
  | 0, 0, k, again, _, _ => rfl
  | 0, g + 1, k, again, h, _ => by rw [spd8, spd8, if_pos (by omega)]
  | f + 1, 0, k, again, _, h => by rw [spd8, spd8, if_pos (by omega)]
  | f + 1, g + 1, k, again, h1, h2 => by
    rw [spd8, spd8]
    split
    · rfl
    · have := led8_ct v (k := k) (by omega) again
      rw [spd8_fuel v f g _ true (by omega) (by omega)]
theorem spd8_zero (f : Nat) (k : Nat) : spd8 f 0 k true = spd8 f 0 k false := by
  cases f with
  | zero => rfl
  | succ f =>
    have e : led8 0 k true = led8 0 k false := by simp [led8]
    rw [spd8, spd8, e]
theorem pre8_rep (v : Int) (rest : List Int) (hr : rest.head? ≠ some v) : ∀ k, pre8 v (List.replicate k v ++ rest) = k
  | 0 => by
    cases rest with
    | nil => rfl
    | cons x r =>
      have : ¬ x = v := fun e => hr (by simp [e])
      simp [pre8, this]
  | k + 1 => by
    rw [List.replicate_succ, List.cons_append, pre8, if_pos rfl, pre8_rep v rest hr k]
/-- A step of the document's runs at k lengths v. -/
theorem rung8_rep {v : Int} {rest : List Int} (hr : rest.head? ≠ some v) {k : Nat} (hk : 1 ≤ k) (f : Nat) (hf : k + rest.length ≤ f) :
    rung8 f (List.replicate k v ++ rest) = row8 v k ++ rung8 f (List.replicate (k - sum8 (row8 v k)) v ++ rest) := by
  obtain ⟨f, rfl⟩ : ∃ g, f = g + 1 := ⟨f - 1, by omega⟩
  obtain ⟨k, rfl⟩ : ∃ j, k = j + 1 := ⟨k - 1, by omega⟩
  have hs := row8_sum (v := v) hk
  have hp := pre8_rep v rest hr (k + 1)
  have hd : (List.replicate (k + 1) v ++ rest).drop (sum8 (row8 v (k + 1))) = List.replicate (k + 1 - sum8 (row8 v (k + 1))) v ++ rest := by
    rw [List.drop_append_of_le_length (by simpa using hs.2), List.drop_replicate]
  have e : List.replicate (k + 1) v ++ rest = v :: (List.replicate k v ++ rest) := by rw [List.replicate_succ, List.cons_append]
  rw [e] at hp hd
  rw [e, rung8, hp, hd, rung8_fuel f (f + 1) _ (by simp; omega) (by simp; omega)]
theorem led8_more {v : Int} (hv : ¬ v = 0) {j : Nat} (hj : 3 ≤ j) : led8 v j true = ⟨16, (min j 6 : Nat)⟩ := by unfold led8; simp [hv, hj]
theorem led8_less {v : Int} (hv : ¬ v = 0) {j : Nat} (hj : ¬ 3 ≤ j) (b : Bool) : led8 v j b = ⟨v, 1⟩ := by unfold led8; simp [hv, hj]
theorem led8_first {v : Int} (hv : ¬ v = 0) (j : Nat) : led8 v j false = ⟨v, 1⟩ := by unfold led8; simp [hv]
/-- What stands behind the first run of a length that is not nought. -/
theorem spd8_rep {v : Int} (hv : ¬ v = 0) : ∀ (f j : Nat), j ≤ f → spd8 f v j true = rep8 f j ++ spd8 f v (j - sum8 (rep8 f j)) true ∧ j - sum8 (rep8 f j) < 3
  | 0, j, h => by simp [spd8, rep8, sum8]; omega
  | f + 1, j, h => by
    rw [rep8]
    by_cases h3 : 3 ≤ j
    · rw [if_pos h3]
      obtain ⟨i1, i2⟩ := spd8_rep hv f (j - min j 6) (by omega)
      simp only [sum8, Int.toNat_natCast]
      have hss := rep8_sum f (j - min j 6)
      refine ⟨?_, by omega⟩
      conv => lhs; rw [spd8, if_neg (by omega), led8_more hv h3]
      simp only [Int.toNat_natCast]
      rw [i1, List.cons_append, show j - (min j 6 + sum8 (rep8 f (j - min j 6))) = j - min j 6 - sum8 (rep8 f (j - min j 6)) by omega, spd8_fuel v f (f + 1) _ true (by omega) (by omega)]
    · rw [if_neg h3]
      simp [sum8]
      omega
/-- Few lengths: one run each. -/
theorem rung8_few {v : Int} (hv : ¬ v = 0) {rest : List Int} (hr : rest.head? ≠ some v) (f : Nat) : ∀ (m : Nat), m < 3 → m + rest.length ≤ f → rung8 f (List.replicate m v ++ rest) = spd8 m v m true ++ rung8 f rest
  | 0, _, _ => by simp [spd8]
  | m + 1, hm, hf => by
    have hrow : row8 v (m + 1) = [⟨v, 1⟩] := by
      unfold row8
      rw [if_neg hv]
      have : rep8 (m + 1 - 1) (m + 1 - 1) = [] := by
        cases m with
        | zero => rfl
        | succ m => rw [show m + 1 + 1 - 1 = m + 1 by omega, rep8, if_neg (by omega)]
      rw [this]
    rw [rung8_rep hr (by omega) f hf, hrow]
    have e1 : sum8 [(⟨v, 1⟩ : Rn8)] = 1 := by simp [sum8]
    rw [e1, show m + 1 - 1 = m by omega, rung8_few hv hr f m (by omega) (by omega), spd8, if_neg (by omega), led8_less hv (by omega)]
    simp
/-- THE STRETCH: what the program lays down for k lengths v is what the document does. -/
theorem rung8_spd {v : Int} {rest : List Int} (hr : rest.head? ≠ some v) (f : Nat) : ∀ (k : Nat), k + rest.length ≤ f → rung8 f (List.replicate k v ++ rest) = spd8 k v k false ++ rung8 f rest := by
  intro k
  induction k using Nat.strongRecOn with
  | ind k ih =>
    intro hf
    by_cases hk : k = 0
    · subst hk; simp [spd8]
    · by_cases hv : v = 0
      · subst hv
        obtain ⟨j, rfl⟩ : ∃ j, k = j + 1 := ⟨k - 1, by omega⟩
        have hrow : row8 0 (j + 1) = [led8 0 (j + 1) false] := by
          unfold row8 led8
          by_cases h11 : 11 ≤ j + 1
          · simp [h11]
          · by_cases h3 : 3 ≤ j + 1
            · have : min (j + 1) 10 = j + 1 := by omega
              simp [h11, h3, this]
            · simp [h11, h3]
        have hct := led8_ct 0 (k := j + 1) (by omega) false
        rw [rung8_rep hr (by omega) f hf, hrow, spd8, if_neg (by omega)]
        have es : sum8 [led8 0 (j + 1) false] = (led8 0 (j + 1) false).ct.toNat := by simp [sum8]
        rw [es, ih _ (by omega) (by omega), spd8_zero, spd8_fuel 0 j (j + 1 - (led8 0 (j + 1) false).ct.toNat) _ false (by omega) (by omega)]
        simp
      · obtain ⟨j, rfl⟩ : ∃ j, k = j + 1 := ⟨k - 1, by omega⟩
        obtain ⟨s1, s2⟩ := spd8_rep hv j j (Nat.le_refl _)
        have hrow : row8 v (j + 1) = ⟨v, 1⟩ :: rep8 j j := by unfold row8; rw [if_neg hv]; rfl
        have es : sum8 (⟨v, 1⟩ :: rep8 j j) = 1 + sum8 (rep8 j j) := by simp [sum8]
        have hss := rep8_sum j j
        rw [rung8_rep hr (by omega) f hf, hrow, es, show j + 1 - (1 + sum8 (rep8 j j)) = j - sum8 (rep8 j j) by omega, rung8_few hv hr f _ s2 (by omega), spd8, if_neg (by omega), led8_first hv]
        have e1 : (1 : Int).toNat = 1 := rfl
        simp only [e1, Nat.add_sub_cancel]
        rw [s1, spd8_fuel v (j - sum8 (rep8 j j)) j _ true (by omega) (by omega)]
        simp
/-- At a place: the stretch there, and what stands behind. -/
theorem rung8_str {zs : List Int} {i : Nat} (h : i < zs.length) : rung8 (zs.length - i) (zs.drop i) = spd8 (pre8 (zs.getD i 0) (zs.drop i)) (zs.getD i 0) (pre8 (zs.getD i 0) (zs.drop i)) false ++ rung8 (zs.length - (i + pre8 (zs.getD i 0) (zs.drop i))) (zs.drop (i + pre8 (zs.getD i 0) (zs.drop i))) := by
  obtain ⟨v, hv⟩ : ∃ v, v = zs.getD i 0 := ⟨_, rfl⟩
  obtain ⟨k, hk⟩ : ∃ k, k = pre8 v (zs.drop i) := ⟨_, rfl⟩
  rw [← hv, ← hk]
  have hpl := pre8_le v (zs.drop i)
  rw [← hk, List.length_drop] at hpl
  have hsp : zs.drop i = List.replicate k v ++ zs.drop (i + k) := by
    have := pre8_take v (zs.drop i) k (by omega)
    rw [← this, ← List.drop_drop, List.take_append_drop]
  have hr : (zs.drop (i + k)).head? ≠ some v := by
    intro e
    have e1 : k + 1 ≤ pre8 v (zs.drop i) := by
      rw [pre8_iff]
      rw [List.head?_drop] at e
      have hlt : i + k < zs.length := by
        rcases Nat.lt_or_ge (i + k) zs.length with h | h
        · exact h
        · simp [List.getElem?_eq_none h] at e
      refine ⟨by rw [List.length_drop]; omega, fun j hj => ?_⟩
      by_cases e2 : j = k
      · subst e2
        simp [List.getD, e]
      · have := (pre8_iff v (zs.drop i) k).1 (by omega)
        exact this.2 j (by omega)
    omega
  have hg : (zs.drop (i + k)).length ≤ zs.length - (i + k) := by rw [List.length_drop]; omega
  conv => lhs; rw [hsp]
  rw [rung8_spd hr _ k (by rw [List.length_drop]; omega), rung8_fuel (zs.length - i) (zs.length - (i + k)) _ (by rw [List.length_drop]; omega) hg]
theorem spd8_ct (v : Int) : ∀ (f k : Nat) (again : Bool), ∀ r ∈ spd8 f v k again, 1 ≤ r.ct ∧ r.ct ≤ k
  | 0, k, again, r, h => by simp [spd8] at h
  | f + 1, k, again, r, h => by
    rw [spd8] at h
    split at h
    · simp at h
    · have hc := led8_ct v (k := k) (by omega) again
      rcases List.mem_cons.1 h with rfl | h
      · exact hc
      · have := spd8_ct v f _ true r h
        omega
theorem spd8_len (v : Int) : ∀ (f k : Nat) (again : Bool), (spd8 f v k again).length ≤ k
  | 0, k, again => by simp [spd8]
  | f + 1, k, again => by
    rw [spd8]
    split
    · simp
    · have hc := led8_ct v (k := k) (by omega) again
      have := spd8_len v f (k - (led8 v k again).ct.toNat) true
      rw [List.length_cons]
      omega
end Go.Proofs.YthcmebmohhajaaaDoor

namespace Go.Proofs.YthcmebmohhajaaaDoor
open Go.RowKit
set_option linter.unusedVariables false

/-! The landed head: most, longest, leading. -/
theorem below_box8 (w : World) (o : Obj) : Below w.heap.size w (w.alloc o) := (Below.refl _ _).alloc (Nat.le_refl _) o
theorem below_boxd8 (w : World) (o : Obj) : Below w.heap.size w ((w.alloc o).drew) := ⟨(below_box8 w o).os, (below_box8 w o).tape, (below_box8 w o).output, (below_box8 w o).size, (below_box8 w o).block⟩
theorem lst8_bd (s : Int) : 1 ≤ lst8 s ∧ lst8 s ≤ 11 := by
  unfold lst8
  split
  · omega
  · split <;> omega
theorem grt8_bd (s : Int) : 1 ≤ grt8 s ∧ grt8 s ≤ 138 := by
  unfold grt8
  split
  · omega
  · split
    · omega
    · split <;> omega
theorem mor8_in (s : Int) : mor8 s = 0 ∨ mor8 s = 2 ∨ mor8 s = 3 ∨ mor8 s = 7 := by
  unfold mor8
  split
  · omega
  · split
    · omega
    · split <;> omega
theorem two_set {w : World} {r : Nat} {a b : Value} {t : TypeId} (h : w.heap[r]? = some (.cells #[a, b] t (0, 0))) (x y : Value) : ((w.setCell ⟨r, 0, none⟩ x).setCell ⟨r, 1, none⟩ y).heap[r]? = some (.cells #[x, y] t (0, 0)) := by
  have h1 := heap_setCell_same w r 0 #[a, b] t x h
  have h2 := heap_setCell_same _ r 1 _ t y h1
  rw [h2]
  rfl
theorem below_two8 {B r : Nat} {w0 w : World} {x y : Value} (hb : Below B w0 w) (hr : B ≤ r) : Below B w0 ((w.setCell ⟨r, 0, none⟩ x).setCell ⟨r, 1, none⟩ y) :=
  ⟨hb.os, hb.tape, hb.output, by simpa using hb.size, fun i hi => by rw [heap_setCell_other _ ⟨r, 1, none⟩ i y (by simp; omega), heap_setCell_other _ ⟨r, 0, none⟩ i x (by simp; omega)]; exact hb.block i hi⟩
theorem TabS.below {w w' : World} {B : Nat} (h : TabS w) (hb : Below B w w') (hB : B = w.heap.size) : TabS w' := by subst hB; exact SegZ.old h hb
set_option maxRecDepth 100000 in
set_option maxHeartbeats 1000000 in
theorem pmost8 (x l : Int) (b : Nat) (hb : b = 0 ∨ b = 2 ∨ b = 3 ∨ b = 7) (hl : 0 ≤ l ∧ l ≤ 11) (w : World) :
    Calls Tryd.prog 94 #[.agg #[.int .i64 x, .int .i64 l, .int .i64 (b : Int)]] w fun e w' => e = .returned (.int .i64 (l + 2 ^ b - 1)) ∧ Below w.heap.size w w' := by
  rcases hb with rfl | rfl | rfl | rfl
  all_goals
    go_enter Tryd.func94, Tryd.ntmps94
    go_wp2_with fail
    go_region
    go_wp2_with fail
    go_ret
    refine ⟨?_, below_boxd8 _ _⟩
    first | rfl | (simp; done) | (simp; omega)
set_option maxRecDepth 100000 in
set_option maxHeartbeats 1000000 in
theorem plongest8 (s k : Nat) (hs : s < 19) (hk : k ≤ 1000000) (w : World) (T : TabS w) :
    Calls Tryd.prog 78 #[.int .i64 (s : Int), .int .i64 (k : Int)] w fun e w' => e = .returned (.agg #[.int .i64 (s : Int), .int .i64 (min (k : Int) (grt8 s))]) ∧ Below w.heap.size w w' := by
  obtain ⟨c0, c1, c2⟩ := T.at8 s hs
  have hz := World.block_lt_of_cell? w _ c0
  simp only at hz
  have hg := grt8_lst (s : Int) (by omega)
  have hl := lst8_bd s
  have CM := pmost8 (sln8 s) (lst8 s) (mor8 s) (mor8_in s) (by omega)
  rw [← hg] at CM
  have hgb := grt8_bd s
  have HC : Hid (∀ w : World, Calls Tryd.prog 94 #[.agg #[.int .i64 (sln8 s), .int .i64 (lst8 s), .int .i64 (mor8 s : Int)]] w fun e w' => e = .returned (.int .i64 (grt8 s)) ∧ Below w.heap.size w w') := CM
  clear CM hg hl
  generalize sln8 (s : Int) = x0 at *
  generalize lst8 (s : Int) = x1 at *
  generalize mor8 (s : Int) = x2 at *
  generalize grt8 (s : Int) = G at *
  have hmin : ∃ M, min (k : Int) G = M ∧ (((k : Int) ≤ G ∧ M = (k : Int)) ∨ (G < (k : Int) ∧ M = G)) := ⟨_, rfl, by omega⟩
  obtain ⟨M, hM, hmin⟩ := hmin
  rw [hM]
  clear hM
  rcases hmin with ⟨h1, rfl⟩ | ⟨h1, rfl⟩
  · go_enter Tryd.func78, Tryd.ntmps78
    go_wp2_with ((go_at_call 94; refine (HC.out _).mono ?_; rintro e w1 ⟨rfl, b1⟩; have hr : w1.heap[w.heap.size]? = some (.cells #[.int .i64 0, .int .i64 0] 78 (0, 0)) := (b1.block _ (by simp)).trans (heap_alloc_new w _); have c8 := cell_of_row w1 _ 0 _ _ _ hr; have d8 := cell_of_row w1 _ 1 _ _ _ hr; have f8 := frozen_of_row w1 _ 0 _ _ hr; have g8 := frozen_of_row w1 _ 1 _ _ hr; simp only [List.getElem?_toArray, List.getElem?_cons_zero, List.getElem?_cons_succ] at c8 d8))
    refine bodyPost_ret (v := .agg #[.int .i64 (s : Int), .int .i64 (k : Int)]) (results_cell_row (fn := Tryd.f78) (p := 4) (ty := 78) rfl _ _ w.heap.size _ _ _ _ rfl (two_set hr _ _) Tryd.underlying78 rfl (by kernel_rfl)) rfl ?_
    refine ⟨rfl, ?_⟩
    have b0 : Below w.heap.size w w1 := (below_box8 w _).trans (b1.mono (by simp))
    exact below_two8 b0 (Nat.le_refl _)
  · go_enter Tryd.func78, Tryd.ntmps78
    go_wp2_with ((go_at_call 94; refine (HC.out _).mono ?_; rintro e w1 ⟨rfl, b1⟩; have hr : w1.heap[w.heap.size]? = some (.cells #[.int .i64 0, .int .i64 0] 78 (0, 0)) := (b1.block _ (by simp)).trans (heap_alloc_new w _); have c8 := cell_of_row w1 _ 0 _ _ _ hr; have d8 := cell_of_row w1 _ 1 _ _ _ hr; have f8 := frozen_of_row w1 _ 0 _ _ hr; have g8 := frozen_of_row w1 _ 1 _ _ hr; simp only [List.getElem?_toArray, List.getElem?_cons_zero, List.getElem?_cons_succ] at c8 d8))
    refine bodyPost_ret (v := .agg #[.int .i64 (s : Int), .int .i64 M]) (results_cell_row (fn := Tryd.f78) (p := 4) (ty := 78) rfl _ _ w.heap.size _ _ _ _ rfl (two_set hr _ _) Tryd.underlying78 rfl (by kernel_rfl)) rfl ?_
    refine ⟨rfl, ?_⟩
    have b0 : Below w.heap.size w w1 := (below_box8 w _).trans (b1.mono (by simp))
    exact below_two8 b0 (Nat.le_refl _)
end Go.Proofs.YthcmebmohhajaaaDoor

namespace Go.Proofs.YthcmebmohhajaaaDoor
open Go.RowKit
set_option linter.unusedVariables false

/-! The landed head: leading, stretch. -/
theorem TabS.one {w : World} (h : TabS w) (i : Nat) (z : Int) (hi : i < 57) (hz : snsL.getD i 0 = z) : w.cell? ⟨0, i, none⟩ = some (.int .i64 z) := by
  obtain ⟨b, o, e, c⟩ := h.at_ i hi
  cases e
  rw [Nat.zero_add, hz] at c
  exact c
set_option maxRecDepth 100000 in
set_option maxHeartbeats 2000000 in
theorem pleading8 (v : Int) (k : Nat) (again : Bool) (hk : k ≤ 1000000) (w : World) (T : TabS w) :
    Calls Tryd.prog 59 #[.int .i64 v, .int .i64 (k : Int), .bool again] w fun e w' => e = .returned (.agg #[.int .i64 (led8 v k again).sy, .int .i64 (led8 v k again).ct]) ∧ Below w.heap.size w w' := by
  have c0 := T.one 55 11 (by omega) rfl
  have c1 := T.one 52 3 (by omega) rfl
  have c2 := T.one 49 3 (by omega) rfl
  have hz := World.block_lt_of_cell? w _ c0
  simp only at hz
  have HC : Hid (∀ (s : Nat), s < 19 → ∀ W : World, Below w.heap.size w W → Calls Tryd.prog 78 #[.int .i64 (s : Int), .int .i64 (k : Int)] W fun e w' => e = .returned (.agg #[.int .i64 (s : Int), .int .i64 (min (k : Int) (grt8 s))]) ∧ Below W.heap.size W w') := fun s hs W hb => plongest8 s k hs hk W (SegZ.old T hb)
  have H18 := HC.out 18 (by omega) _ (below_box8 w (.cells #[.int .i64 0, .int .i64 0] 78))
  have H17 := HC.out 17 (by omega) _ (below_box8 w (.cells #[.int .i64 0, .int .i64 0] 78))
  have H16 := HC.out 16 (by omega) _ (below_box8 w (.cells #[.int .i64 0, .int .i64 0] 78))
  have e18 : grt8 ((18 : Nat) : Int) = 138 := rfl
  have e17 : grt8 ((17 : Nat) : Int) = 10 := rfl
  have e16 : grt8 ((16 : Nat) : Int) = 6 := rfl
  rw [e18] at H18
  rw [e17] at H17
  rw [e16] at H16
  have m18 : min (k : Int) 138 = ((min k 138 : Nat) : Int) := by omega
  have m17 : min (k : Int) 10 = ((min k 10 : Nat) : Int) := by omega
  have m16 : min (k : Int) 6 = ((min k 6 : Nat) : Int) := by omega
  rw [m18] at H18
  rw [m17] at H17
  rw [m16] at H16
  clear HC e18 e17 e16 m18 m17 m16
  by_cases hv : v = 0
  · subst hv
    by_cases h11 : 11 ≤ k
    · have hL : led8 0 k again = ⟨18, (min k 138 : Nat)⟩ := by unfold led8; simp [h11]
      rw [hL]
      have hi : (11 : Int) ≤ (k : Int) := by omega
      clear H17 H16 hL
      generalize ((min k 138 : Nat) : Int) = M at *
      go_enter Tryd.func59, Tryd.ntmps59
      go_wp2_with ((go_at_call 78; refine H18.mono ?_; rintro e w1 ⟨rfl, b1⟩; have hr : w1.heap[w.heap.size]? = some (.cells #[.int .i64 0, .int .i64 0] 78 (0, 0)) := (b1.block _ (by simp)).trans (heap_alloc_new w _); have c8 := cell_of_row w1 _ 0 _ _ _ hr; have d8 := cell_of_row w1 _ 1 _ _ _ hr; have f8 := frozen_of_row w1 _ 0 _ _ hr; have g8 := frozen_of_row w1 _ 1 _ _ hr; simp only [List.getElem?_toArray, List.getElem?_cons_zero, List.getElem?_cons_succ] at c8 d8))
      refine bodyPost_ret (v := .agg #[.int .i64 18, .int .i64 M]) (results_cell_row (fn := Tryd.f59) (p := 6) (ty := 78) rfl _ _ w.heap.size _ _ _ _ rfl (two_set hr _ _) Tryd.underlying78 rfl (by kernel_rfl)) rfl ?_
      refine ⟨rfl, ?_⟩
      have b0 : Below w.heap.size w w1 := (below_box8 w _).trans (b1.mono (by simp))
      exact below_two8 b0 (Nat.le_refl _)
    · have hi : ¬ (11 : Int) ≤ (k : Int) := by omega
      by_cases h3 : 3 ≤ k
      · have hL : led8 0 k again = ⟨17, (min k 10 : Nat)⟩ := by unfold led8; simp [h11, h3]
        rw [hL]
        have hi3 : (3 : Int) ≤ (k : Int) := by omega
        clear H18 H16 hL
        generalize ((min k 10 : Nat) : Int) = M at *
        go_enter Tryd.func59, Tryd.ntmps59
        go_wp2_with ((go_at_call 78; refine H17.mono ?_; rintro e w1 ⟨rfl, b1⟩; have hr : w1.heap[w.heap.size]? = some (.cells #[.int .i64 0, .int .i64 0] 78 (0, 0)) := (b1.block _ (by simp)).trans (heap_alloc_new w _); have c8 := cell_of_row w1 _ 0 _ _ _ hr; have d8 := cell_of_row w1 _ 1 _ _ _ hr; have f8 := frozen_of_row w1 _ 0 _ _ hr; have g8 := frozen_of_row w1 _ 1 _ _ hr; simp only [List.getElem?_toArray, List.getElem?_cons_zero, List.getElem?_cons_succ] at c8 d8))
        refine bodyPost_ret (v := .agg #[.int .i64 17, .int .i64 M]) (results_cell_row (fn := Tryd.f59) (p := 6) (ty := 78) rfl _ _ w.heap.size _ _ _ _ rfl (two_set hr _ _) Tryd.underlying78 rfl (by kernel_rfl)) rfl ?_
        refine ⟨rfl, ?_⟩
        have b0 : Below w.heap.size w w1 := (below_box8 w _).trans (b1.mono (by simp))
        exact below_two8 b0 (Nat.le_refl _)
      · have hL : led8 0 k again = ⟨0, 1⟩ := by unfold led8; simp [h11, h3]
        rw [hL]
        have hi3 : ¬ (3 : Int) ≤ (k : Int) := by omega
        clear H18 H17 H16 hL
        go_enter Tryd.func59, Tryd.ntmps59
        go_wp2_with fail
        refine bodyPost_ret (v := .agg #[.int .i64 0, .int .i64 1]) (results_cell_row (fn := Tryd.f59) (p := 6) (ty := 78) rfl _ _ w.heap.size _ _ _ _ rfl (heap_alloc_new w _) Tryd.underlying78 rfl (by kernel_rfl)) rfl ?_
        exact ⟨rfl, below_box8 w _⟩
  · have hvb : (v == 0) = false := by simp [hv]
    by_cases h3 : again = true ∧ 3 ≤ k
    · obtain ⟨rfl, h3⟩ := h3
      have hL : led8 v k true = ⟨16, (min k 6 : Nat)⟩ := led8_more hv h3
      rw [hL]
      have hi3 : (3 : Int) ≤ (k : Int) := by omega
      clear H18 H17 hL
      generalize ((min k 6 : Nat) : Int) = M at *
      go_enter Tryd.func59, Tryd.ntmps59
      go_wp2_with ((go_at_call 78; refine H16.mono ?_; rintro e w1 ⟨rfl, b1⟩; have hr : w1.heap[w.heap.size]? = some (.cells #[.int .i64 0, .int .i64 0] 78 (0, 0)) := (b1.block _ (by simp)).trans (heap_alloc_new w _); have c8 := cell_of_row w1 _ 0 _ _ _ hr; have d8 := cell_of_row w1 _ 1 _ _ _ hr; have f8 := frozen_of_row w1 _ 0 _ _ hr; have g8 := frozen_of_row w1 _ 1 _ _ hr; simp only [List.getElem?_toArray, List.getElem?_cons_zero, List.getElem?_cons_succ] at c8 d8))
      refine bodyPost_ret (v := .agg #[.int .i64 16, .int .i64 M]) (results_cell_row (fn := Tryd.f59) (p := 6) (ty := 78) rfl _ _ w.heap.size _ _ _ _ rfl (two_set hr _ _) Tryd.underlying78 rfl (by kernel_rfl)) rfl ?_
      refine ⟨rfl, ?_⟩
      have b0 : Below w.heap.size w w1 := (below_box8 w _).trans (b1.mono (by simp))
      exact below_two8 b0 (Nat.le_refl _)
    · have hL : led8 v k again = ⟨v, 1⟩ := by
        unfold led8
        rw [if_neg (by simp [hv]), if_neg (by simp [hv]), if_neg (fun h => h3 h.2)]
      rw [hL]
      clear H18 H17 H16 hL
      have hcase : again = false ∨ (again = true ∧ ¬ (3 : Int) ≤ (k : Int)) := by
        cases again
        · exact .inl rfl
        · exact .inr ⟨rfl, by intro h; exact h3 ⟨rfl, by omega⟩⟩
      clear h3
      rcases hcase with rfl | ⟨rfl, hi3⟩
      all_goals
        go_enter Tryd.func59, Tryd.ntmps59
        go_wp2_with fail
        refine bodyPost_ret (v := .agg #[.int .i64 v, .int .i64 1]) (results_cell_row (fn := Tryd.f59) (p := 6) (ty := 78) rfl _ _ w.heap.size _ _ _ _ rfl (heap_alloc_new w _) Tryd.underlying78 rfl (by kernel_rfl)) rfl ?_
        exact ⟨rfl, below_box8 w _⟩
end Go.Proofs.YthcmebmohhajaaaDoor

namespace Go.Proofs.YthcmebmohhajaaaDoor
open Go.RowKit
set_option linter.unusedVariables false

/-! The landed head: stretch, spread. -/
theorem info_arun8 : (Tryd.prog.info? 78).map (fun i => (i.zero, i.size, i.bytes)) = some (some (.agg #[.int .i64 0, .int .i64 0]), 2, 16) := by kernel_rfl
set_option maxRecDepth 100000 in
set_option maxHeartbeats 2000000 in
theorem pstretch8 (zs : List Int) (a : Option Addr) (n cap : Nat) (hn : Hid (zs.length = n)) (w : World) (hs : SegZ w a zs) (h1 : 1 ≤ n) (hl : n ≤ 1000000) :
    Calls Tryd.prog 38 #[.slice a n cap] w fun e w' => e = .returned (.int .i64 (pre8 (zs.getD 0 0) zs : Int)) ∧ Below w.heap.size w w' := by
  have hpre0 : 1 ≤ pre8 (zs.getD 0 0) zs := by
    rw [pre8_iff]
    refine ⟨by rw [hn.out]; omega, fun j hj => ?_⟩
    obtain rfl : j = 0 := by omega
    rfl
  have hprl := pre8_le (zs.getD 0 0) zs
  rw [hn.out] at hprl
  have HGO : Hid (∀ k, k ≤ pre8 (zs.getD 0 0) zs → k < n → zs.getD k 0 = zs.getD 0 0 → k + 1 ≤ pre8 (zs.getD 0 0) zs) := fun k h1 h2 h3 => by
    rw [pre8_iff] at h1 ⊢
    refine ⟨by rw [hn.out]; omega, fun j hj => ?_⟩
    by_cases e : j = k
    · subst e; exact h3
    · exact h1.2 j (by omega)
  have HST : Hid (∀ k, k ≤ pre8 (zs.getD 0 0) zs → (n ≤ k ∨ zs.getD k 0 ≠ zs.getD 0 0) → k = pre8 (zs.getD 0 0) zs) := fun k h1 h2 => by
    by_cases e : k + 1 ≤ pre8 (zs.getD 0 0) zs
    · have h3 := (pre8_iff _ _ _).1 e
      have h4 := h3.2 k (by omega)
      rw [hn.out] at h3
      rcases h2 with h2 | h2
      · omega
      · exact absurd h4 h2
    · omega
  obtain ⟨b, off, rfl, c0⟩ := hs.at_ 0 (by rw [hn.out]; omega)
  have HS : Hid (SegZ w (some ⟨b, off, none⟩) zs) := hs
  clear hs
  generalize zs.getD 0 0 = v at *
  generalize pre8 v zs = K at *
  go_enter Tryd.func38, Tryd.ntmps38
  go_wp2_with fail
  go_loopw [3] (fun tk wr => ∃ k : Nat, 1 ≤ k ∧ k ≤ K ∧ tk = .int .i64 (k : Int) ∧ Below w.heap.size w wr) (fun tk _ => K - (intOf tk).toNat)
  case atStart => exact ⟨1, by omega, hpre0, rfl, Below.refl _ _⟩
  case round =>
    obtain ⟨k, hk1, hkK, rfl, BR⟩ := hrel
    have c00 := ((show SegZ w (some ⟨b, off, none⟩) zs from HS.out).old BR).at_
    have cz : wr.cell? ⟨b, off, none⟩ = some (.int .i64 v) := (BR.cell (p := ⟨b, off, none⟩) (World.block_lt_of_cell? w _ c0)).trans (by simpa using c0)
    by_cases hkn : k < n
    · have hki : (k : Int) < (n : Int) := by omega
      obtain ⟨b', off', e, cc⟩ := c00 k (by rw [hn.out]; exact hkn)
      cases e
      by_cases hzv : zs.getD k 0 = v
      · have HK2 := HGO.out k hkK hkn hzv
        rw [hzv] at cc
        clear HGO HST c00
        go_wp2_with fail
        go_region
        go_wp2_with fail
        go_roundw
        case rel => exact ⟨k + 1, by omega, HK2, by go_num, BR.drew⟩
        case measure => simp [intOf]; omega
      · have hkE := HST.out k hkK (.inr hzv)
        have hzb : (zs.getD k 0 == v) = false := by rw [beq_eq_false_iff_ne]; exact hzv
        generalize zs.getD k 0 = z at *
        clear HGO HST c00
        subst hkE
        go_wp2_with fail
        go_region
        go_wp2_with fail
        go_ret
        exact ⟨rfl, BR.drew⟩
    · have hki : ¬ (k : Int) < (n : Int) := by omega
      have hkE := HST.out k hkK (.inl (by omega))
      clear HGO HST c00
      subst hkE
      go_wp2_with fail
      go_region
      go_wp2_with fail
      go_ret
      exact ⟨rfl, BR.drew⟩
end Go.Proofs.YthcmebmohhajaaaDoor
