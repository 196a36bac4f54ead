import Derived.Test.YtmddnmpldmdllaaDoorPw
import Derived.Test.YtmddnmpldmdllaaDoorPt
import Derived.Deep.RegionLaw
namespace Go.Proofs.YtmddnmpldmdllaaDoor
open Go.RowKit
set_option linter.unusedVariables false

theorem num_lt8 (H : List Bool) (n : Nat) : num (H.take n) < 2 ^ n := Nat.lt_of_lt_of_le (num_lt _) (Nat.pow_le_pow_right (by decide) (by rw [List.length_take]; omega))
theorem mem_getLastD {l : List Int} (h : l ≠ []) : l.getLastD 0 ∈ l := by
  cases l with
  | nil => exact absurd rfl h
  | cons a t =>
    have e : (a :: t).getLastD 0 = (a :: t).getLast (by simp) := by rw [List.getLastD_eq_getLast?, List.getLast?_eq_some_getLast (by simp)]; rfl
    rw [e]
    exact List.getLast_mem _
theorem vls8_bd {s : S8} (ob : ∀ z ∈ s.out, 0 ≤ z ∧ z ≤ 15) (hs : s.sym ≤ 18) : 0 ≤ vls8 s ∧ vls8 s ≤ 15 := by
  unfold vls8
  split
  · by_cases h : s.out = []
    · rw [h]; simp
    · exact ob _ (mem_getLastD h)
  · split
    · omega
    · omega
theorem lay8_ok {s : S8} (k : Nat) (szl : s.sz.length = 19) (szb : ∀ z ∈ s.sz, 0 ≤ z ∧ z ≤ 7) (ob : ∀ z ∈ s.out, 0 ≤ z ∧ z ≤ 15) (td : s.sized ≤ 19 ∧ s.told ≤ 19) (hc : errC s.sz = 0) (h1 : 257 ≤ s.lit) (h2 : s.lit ≤ 286) (h3 : s.dist ≤ 30) (hol : s.out.length ≤ 316) (hs : s.sym ≤ 18) : Ok8 (lay8 s k) := by
  unfold lay8
  have hv := vls8_bd ob hs
  by_cases hk : s.lit + s.dist < s.out.length + k
  · rw [if_pos hk]
    exact ⟨szl, szb, ob, ⟨by show s.lit ≤ 288; omega, by show s.dist ≤ 32; omega⟩, hol, td, fun e => by simp at e, fun e => by simp at e, fun e => by simp at e, fun e => by simp at e, fun e => by simp at e, by simp⟩
  · rw [if_neg hk]
    have hob : ∀ z ∈ s.out ++ List.replicate k (vls8 s), 0 ≤ z ∧ z ≤ 15 := by
      intro z hz
      rw [List.mem_append] at hz
      rcases hz with hz | hz
      · exact ob z hz
      · rw [(List.mem_replicate.1 hz).2]; exact hv
    have hln : (s.out ++ List.replicate k (vls8 s)).length = s.out.length + k := by simp
    refine ⟨szl, szb, hob, ⟨by show s.lit ≤ 288; omega, by show s.dist ≤ 32; omega⟩, by show (s.out ++ List.replicate k (vls8 s)).length ≤ 316; omega, td, fun e => ?_, fun e => ?_, fun e => ?_, fun e => ?_, fun e => ?_, ?_⟩
    · exfalso; revert e; dsimp only; split <;> (try split) <;> omega
    · exfalso; revert e; dsimp only; split <;> (try split) <;> omega
    · dsimp only at e ⊢
      refine ⟨hc, h1, h2, h3, ?_⟩
      rw [hln]
      by_cases he : s.out.length + k = s.lit + s.dist
      · exfalso; rw [if_pos he] at e; split at e <;> omega
      · omega
    · exfalso; revert e; dsimp only; split <;> (try split) <;> omega
    · dsimp only at e ⊢
      by_cases he : s.out.length + k = s.lit + s.dist
      · rw [if_pos he] at e
        refine ⟨by rw [hln]; exact he, ?_⟩
        by_cases ht : tld8 errC ((s.out ++ List.replicate k (vls8 s)).take s.lit) ((s.out ++ List.replicate k (vls8 s)).drop s.lit)
        · exact ht
        · rw [if_neg ht] at e; omega
      · rw [if_neg he] at e; omega
    · dsimp only; split <;> (try split) <;> omega
theorem One8.ok {s s' : S8} {H : List Bool} {n : Nat} (ok : Ok8 s) (h : One8 s H s' n) : Ok8 s' := by
  cases h with
  | cts h0 h =>
    have hv := num_lt8 H 14
    generalize num (H.take 14) = v at *
    have a0 := ok.at0 h0
    have e : (2 : Nat) ^ 14 = 16384 := by decide
    rw [e] at hv
    refine ⟨ok.szl, ok.szb, ok.ob, ?_, ok.ol, ?_, fun e => ?_, fun e => ?_, fun e => ?_, fun e => ?_, fun e => ?_, ?_⟩
    · show 257 + v % 32 ≤ 288 ∧ 1 + v / 32 % 32 ≤ 32; omega
    · show s.sized ≤ 19 ∧ 4 + v / 1024 ≤ 19; have := ok.td; omega
    · exfalso; revert e; unfold cts8; dsimp only; split <;> omega
    · revert e; unfold cts8; dsimp only
      by_cases hx : 286 < 257 + v % 32 ∨ 30 < 1 + v / 32 % 32
      · rw [if_pos hx]; intro e; omega
      · intro _; refine ⟨by rw [a0.1]; omega, by omega, by omega, by omega, a0.2⟩
    · exfalso; revert e; unfold cts8; dsimp only; split <;> omega
    · exfalso; revert e; unfold cts8; dsimp only; split <;> omega
    · exfalso; revert e; unfold cts8; dsimp only; split <;> omega
    · unfold cts8; dsimp only; split <;> omega
  | siz h0 h =>
    have hv := num_lt8 H 3
    generalize num (H.take 3) = v at *
    obtain ⟨a1, a2, a3, a4, a5⟩ := ok.at1 h0
    have e : (2 : Nat) ^ 3 = 8 := by decide
    rw [e] at hv
    have hsl : (ssz8 s v).length = 19 := by unfold ssz8; rw [List.length_set]; exact ok.szl
    have hsb : ∀ z ∈ ssz8 s v, 0 ≤ z ∧ z ≤ 7 := by
      intro z hz
      unfold ssz8 at hz
      rcases List.mem_or_eq_of_mem_set hz with hz | hz
      · exact ok.szb z hz
      · subst hz; omega
    have htd := ok.td
    refine ⟨hsl, hsb, ok.ob, ok.ld, ok.ol, ⟨by show s.sized + 1 ≤ 19; omega, htd.2⟩, fun e => ?_, fun e => ?_, fun e => ?_, fun e => ?_, fun e => ?_, ?_⟩
    · exfalso; revert e; unfold siz8; dsimp only; rw [h0]; split <;> (try split) <;> omega
    · revert e; unfold siz8; dsimp only
      by_cases hx : s.sized + 1 = s.told
      · rw [if_pos hx]; intro e; exfalso; split at e <;> omega
      · intro _; exact ⟨by omega, a2, a3, a4, a5⟩
    · revert e; unfold siz8; dsimp only
      by_cases hx : s.sized + 1 = s.told
      · rw [if_pos hx]; intro e
        by_cases hy : (∀ z ∈ ssz8 s v, z = 0) ∨ errC (ssz8 s v) ≠ 0
        · rw [if_pos hy] at e; omega
        · have : errC (ssz8 s v) = 0 := Classical.byContradiction fun c => hy (.inr c)
          exact ⟨this, a2, a3, a4, by rw [a5]; simp; omega⟩
      · rw [if_neg hx, h0]; intro e; omega
    · exfalso; revert e; unfold siz8; dsimp only; rw [h0]; split <;> (try split) <;> omega
    · exfalso; revert e; unfold siz8; dsimp only; rw [h0]; split <;> (try split) <;> omega
    · unfold siz8; dsimp only; rw [h0]; split <;> (try split) <;> omega
  | @sym x h0 h =>
    obtain ⟨a1, a2, a3, a4, a5⟩ := ok.at2 (.inl h0)
    have hx : x ≤ 18 := by have := h.1; rw [ok.szl] at this; omega
    unfold sym8
    by_cases c1 : x = 16 ∧ s.out = []
    · rw [if_pos c1]
      exact ⟨ok.szl, ok.szb, ok.ob, ok.ld, ok.ol, ok.td, fun e => by simp at e, fun e => by simp at e, fun e => by simp at e, fun e => by simp at e, fun e => by simp at e, by simp⟩
    · rw [if_neg c1]
      by_cases c2 : 16 ≤ x
      · rw [if_pos c2]
        exact ⟨ok.szl, ok.szb, ok.ob, ok.ld, ok.ol, ok.td, fun e => by simp at e, fun e => by simp at e, fun _ => ⟨a1, a2, a3, a4, a5⟩, fun _ => ⟨c2, hx, fun e hn => c1 ⟨e, hn⟩⟩, fun e => by simp at e, by simp⟩
      · rw [if_neg c2]
        exact lay8_ok 1 ok.szl ok.szb ok.ob ok.td a1 a2 a3 a4 ok.ol (by show x ≤ 18; omega)
  | bad h0 h k =>
    exact ⟨ok.szl, ok.szb, ok.ob, ok.ld, ok.ol, ok.td, fun e => by simp at e, fun e => by simp at e, fun e => by simp at e, fun e => by simp at e, fun e => by simp at e, by simp⟩
  | mor h0 h =>
    obtain ⟨a1, a2, a3, a4, a5⟩ := ok.at2 (.inr h0)
    exact lay8_ok _ ok.szl ok.szb ok.ob ok.td a1 a2 a3 a4 ok.ol (ok.at3 h0).2.1
theorem Run8.ok {s s' : S8} {H : List Bool} {n : Nat} (ok : Ok8 s) (h : Run8 s H s' n) : Ok8 s' := by
  induction h with
  | nil => exact ok
  | cons h _ ih => exact ih (h.ok ok)
/-- A run to where it waits is the only one. -/
theorem Run8.det {s a b : S8} {H : List Bool} {n m : Nat} (ok : Ok8 s) (h1 : Run8 s H a n) (w1 : Wait8 a (H.drop n)) (h2 : Run8 s H b m) (w2 : Wait8 b (H.drop m)) : a = b ∧ n = m := by
  induction h1 generalizing m with
  | nil =>
    cases h2 with
    | nil => exact ⟨rfl, rfl⟩
    | cons k _ => exact absurd (by simpa using w1) k.wait
  | cons h _ ih =>
    cases h2 with
    | nil => exact absurd (by simpa using w2) h.wait
    | cons k k2 =>
      obtain ⟨rfl, rfl⟩ := h.det ok k
      obtain ⟨rfl, rfl⟩ := ih (h.ok ok) (by rw [List.drop_drop]; exact w1) k2 (by rw [List.drop_drop]; exact w2)
      exact ⟨rfl, rfl⟩
end Go.Proofs.YtmddnmpldmdllaaDoor

namespace Go.Proofs.YtmddnmpldmdllaaDoor
open Go.RowKit
set_option linter.unusedVariables false

/-- What stands ahead of a reader's decoder. -/
def rpre8 (s : S8) : List Value := [.bool true, .int .i64 (s.nx : Int), .int .i64 (s.lit : Int), .int .i64 (s.dist : Int), .int .i64 (s.told : Int), .int .i64 (s.sized : Int), .int .i64 (s.out.length : Int), .int .i64 (s.sym : Int)] ++ (s.sz.map (Value.int .u8) ++ (s.out ++ List.replicate (320 - s.out.length) 0).map (Value.int .u8))
/-- A reader of lengths in memory. -/
structure RdH (w : World) (b : Nat) (s : S8) : Prop where
  row : ∃ zs0, Rb8 w b (rpre8 s) zs0 ∧ (s.nx = 2 ∨ s.nx = 3 → zs0 = s.sz)
theorem RdH.lt {w : World} {b : Nat} {s : S8} (h : RdH w b s) : b < w.heap.size := by
  obtain ⟨z, h, _⟩ := h.row
  exact h.lt
theorem RdH.keep {w w' : World} {b : Nat} {s : S8} (h : RdH w b s) (hb : w'.heap[b]? = w.heap[b]?) : RdH w' b s := by
  obtain ⟨z, h1, h2⟩ := h.row
  exact ⟨z, h1.keep hb, h2⟩
theorem Rb8.set {w : World} {b : Nat} {pre : List Value} {zs : List Int} (h : Rb8 w b pre zs) {i : Nat} (hi : i < 347) (v : Value) : Rb8 (w.setCell ⟨b, i, none⟩ v) b (pre.set i v) zs := by
  obtain ⟨S, h1, h2, h3⟩ := h.row
  refine ⟨h.ok, by rw [List.length_set]; exact h.len, S, h1, h2, ?_⟩
  rw [heap_setCell_same w b i _ _ _ h3]
  congr 2
  have := h.len
  simp [List.set_append_left _ _ (show i < pre.length by omega)]
theorem Rb8.cell {w : World} {b : Nat} {pre : List Value} {zs : List Int} (h : Rb8 w b pre zs) {i : Nat} {v : Value} (hv : pre[i]? = some v) : w.cell? ⟨b, i, none⟩ = some v := by
  obtain ⟨S, h1, h2, h3⟩ := h.row
  exact pre_cell8 h3 hv
theorem Rb8.free {w : World} {b : Nat} {pre : List Value} {zs : List Int} (h : Rb8 w b pre zs) (i : Nat) : w.frozen? ⟨b, i, none⟩ = false := by
  obtain ⟨S, h1, h2, h3⟩ := h.row
  exact frozen_of_row w b i _ _ h3
/-- What a part answers. -/
def TkQ (w : World) (b br : Nat) (s : S8) (H : List Bool) (t : Nat) (e : Ending) (w' : World) : Prop := Kp (fun k => k = b ∨ k = br) w w' ∧ ((e = .returned (.bool true) ∧ ∃ s' n, One8 s H s' n ∧ RdH w' b s' ∧ Rd w' br (H.drop n) (t + n)) ∨ (e = .returned (.bool false) ∧ Wait8 s H ∧ RdH w' b s ∧ Rd w' br H t))
theorem there_lt {H : List Bool} {k : Nat} (h : H.length < k) : there H (k : Int) = false := by
  unfold there
  exact decide_eq_false (by omega)

theorem Kp.set8 {S : Nat → Prop} {w w' : World} {b : Nat} (h : Kp S w w') (hb : S b) (i : Nat) (v : Value) : Kp S w (w'.setCell ⟨b, i, none⟩ v) :=
  h.trans (Kp.grown (S := fun k => k = b) (set_grown w' b i v) (fun j e => by cases e; rfl)) (fun k _ e => by subst e; exact hb)
theorem cts_nx8 (s : S8) (v : Nat) : (cts8 s v).nx = if 286 < 257 + v % 32 ∨ 30 < 1 + v / 32 % 32 then 5 else 1 := rfl
theorem cts_pre8 (s : S8) (v : Nat) : ((((rpre8 s).set 2 (.int .i64 ((257 + v % 32 : Nat) : Int))).set 3 (.int .i64 ((1 + v / 32 % 32 : Nat) : Int))).set 4 (.int .i64 ((4 + v / 1024 : Nat) : Int))).set 1 (.int .i64 ((cts8 s v).nx : Int)) = rpre8 (cts8 s v) := by
  unfold rpre8
  simp only [List.cons_append, List.nil_append, List.set_cons_zero, List.set_cons_succ]
  rfl
theorem set_two8 (l : List Value) (i : Nat) (x y : Value) : (l.set i x).set i y = l.set i y := List.set_set x
theorem cts_rb8 {w : World} {b : Nat} {s : S8} {zs0 : List Int} {v : Nat} (h : Rb8 w b (rpre8 s) zs0) (x y z n : Int) (hx : x = ((257 + v % 32 : Nat) : Int)) (hy : y = ((1 + v / 32 % 32 : Nat) : Int)) (hz : z = ((4 + v / 1024 : Nat) : Int)) (hn : n = ((cts8 s v).nx : Int)) :
    Rb8 ((((w.setCell ⟨b, 2, none⟩ (.int .i64 x)).setCell ⟨b, 3, none⟩ (.int .i64 y)).setCell ⟨b, 4, none⟩ (.int .i64 z)).setCell ⟨b, 1, none⟩ (.int .i64 n)) b (rpre8 (cts8 s v)) zs0 := by
  subst hx hy hz hn
  rw [← cts_pre8]
  exact (((h.set (i := 2) (by omega) _).set (i := 3) (by omega) _).set (i := 4) (by omega) _).set (i := 1) (by omega) _
theorem cts_rb82 {w : World} {b : Nat} {s : S8} {zs0 : List Int} {v : Nat} (h : Rb8 w b (rpre8 s) zs0) (x y z m n : Int) (hx : x = ((257 + v % 32 : Nat) : Int)) (hy : y = ((1 + v / 32 % 32 : Nat) : Int)) (hz : z = ((4 + v / 1024 : Nat) : Int)) (hn : n = ((cts8 s v).nx : Int)) :
    Rb8 (((((w.setCell ⟨b, 2, none⟩ (.int .i64 x)).setCell ⟨b, 3, none⟩ (.int .i64 y)).setCell ⟨b, 4, none⟩ (.int .i64 z)).setCell ⟨b, 1, none⟩ (.int .i64 m)).setCell ⟨b, 1, none⟩ (.int .i64 n)) b (rpre8 (cts8 s v)) zs0 := by
  subst hx hy hz hn
  rw [← cts_pre8, ← set_two8 _ 1 (.int .i64 m)]
  exact ((((h.set (i := 2) (by omega) _).set (i := 3) (by omega) _).set (i := 4) (by omega) _).set (i := 1) (by omega) _).set (i := 1) (by omega) _
end Go.Proofs.YtmddnmpldmdllaaDoor

namespace Go.Proofs.YtmddnmpldmdllaaDoor
open Go.RowKit
set_option linter.unusedVariables false

/-! The landed swell: New. -/
/-- A reader of lengths as head.New makes it, as far as Room looks. -/
def Hd11 (w : World) (b : Nat) : Prop := ∃ cs, w.heap[b]? = some (.cells cs 75 (0, 0)) ∧ cs[0]? = some (.bool true) ∧ cs[347]? = some (.int .i64 19)
theorem Hd11.keep {w w' : World} {b : Nat} (h : Hd11 w b) (hb : w'.heap[b]? = w.heap[b]?) : Hd11 w' b := by
  obtain ⟨cs, h1, h2⟩ := h
  exact ⟨cs, hb.trans h1, h2⟩
theorem Hd11.lt {w : World} {b : Nat} (h : Hd11 w b) : b < w.heap.size := by
  obtain ⟨cs, h1, h2⟩ := h
  exact (Array.getElem?_eq_some_iff.1 h1).1
theorem built11 : (Tryd.prog.built 75 [(0, Value.bool true), (10, Value.agg (arr (dl 19 [] Z288)))]).getD #[] = (rpre8 ini8 ++ (dl 19 [] Z288).map (Value.int .i64)).toArray := by kernel_rfl
theorem built11_at : (rpre8 ini8 ++ (dl 19 [] Z288).map (Value.int .i64))[0]? = some (.bool true) ∧ (rpre8 ini8 ++ (dl 19 [] Z288).map (Value.int .i64))[347]? = some (.int .i64 19) := by
  have hl : (rpre8 ini8).length = 347 := by kernel_rfl
  constructor
  · rw [List.getElem?_append_left (by omega)]
    simp [rpre8]
  · rw [List.getElem?_append_right (by omega), hl]
    simp [dl]
theorem info_dec11 : (Tryd.prog.info? 70).map (·.size) = some (arr (dl 19 [] Z288)).size := by kernel_rfl
set_option maxRecDepth 100000 in
set_option maxHeartbeats 1000000 in
theorem pnewH11 (w : World) :
    Calls Tryd.prog 30 #[] w fun e w' => ∃ b, w.heap.size ≤ b ∧ e = .returned (.pointer (some ⟨b, 0, none⟩)) ∧ Hd11 w' b ∧ Below w.heap.size w w' := by
  go_enter Tryd.func30, Tryd.ntmps30
  go_wp2_with fail
  refine (newDec_any 19 (by omega) (by omega) w).mono ?_
  rintro e w1 ⟨rfl, hw⟩
  have hd : w1.heap[w.heap.size]? = some (.cells (arr (dl 19 [] Z288)) 70 (0, 0)) := by rw [hw]; exact heap_alloc_new w _
  have B1 : Below w.heap.size w w1 := by rw [hw]; exact (Below.refl _ _).alloc (Nat.le_refl _) _
  clear hw
  go_wp2_with (first
    | (refine wpList_load_row rfl 70 _ rfl w.heap.size rfl _ _ _ _ hd Tryd.underlying70 rfl info_dec11 ?_)
    | (refine wpList_build rfl _ _ rfl (by kernel_rfl) ?_))
  go_ret
  refine ⟨w1.heap.size, B1.size, rfl, ⟨_, heap_alloc_new w1 _, ?_, ?_⟩, B1.alloc B1.size _⟩
  · rw [built11, List.getElem?_toArray]; exact built11_at.1
  · rw [built11, List.getElem?_toArray]; exact built11_at.2
/-- A stream as newStream makes it. -/
def nsC11 (g S dl dd hd : Nat) : List Value := .slice (some ⟨g, 0, none⟩) S S :: .int .i64 0 :: swA [] 0 dl dd hd 0 0 0 false
set_option maxRecDepth 100000 in
set_option maxHeartbeats 4000000 in
theorem pnewS11 (S : Nat) (h1 : 1 ≤ S) (h2 : S ≤ 32768) (w : World) :
    Calls Tryd.prog 24 #[.int .i64 (S : Int)] w fun e w' => ∃ b g dl dd hd K, e = .returned (.pointer (some ⟨b, 0, none⟩)) ∧ Sw w' b g S [] K [] 0 dl dd hd 0 0 0 false ∧ De w' dl 288 [] ∧ De w' dd 32 [] ∧ Hd11 w' hd ∧ (w.heap.size ≤ g ∧ g < dl ∧ dl < dd ∧ dd < hd ∧ hd < b) ∧ Below w.heap.size w w' := by
  go_enter Tryd.func24, Tryd.ntmps24
  go_wp2_with fail
  refine (pnew_ok S h1 h2 w).mono ?_
  rintro e w1 ⟨rb, F, rfl, ⟨g, K, rfl, R1⟩, b1, hF⟩
  have hgw := hF g (.inr rfl)
  have hbw := hF rb (.inl rfl)
  clear hF
  go_wp2_with fail
  refine (newDec_any 288 (by omega) (by omega) w1).mono ?_
  rintro e w2 ⟨rfl, hw2⟩
  have HW2 : Hid (w2 = w1.alloc (.cells (arr (dl 288 [] Z288)) 70)) := hw2
  clear hw2
  go_wp2_with fail
  refine (newDec_any 32 (by omega) (by omega) w2).mono ?_
  rintro e w3 ⟨rfl, hw3⟩
  have hw2 := HW2.out
  have b2 : Below w1.heap.size w1 w2 := by rw [hw2]; exact below_box8' w1 _
  have s2 : w2.heap.size = w1.heap.size + 1 := by rw [hw2]; simp
  have b3 : Below w2.heap.size w2 w3 := by rw [hw3]; exact below_box8' w2 _
  have s3 : w3.heap.size = w2.heap.size + 1 := by rw [hw3]; simp
  have D1 : De w3 w1.heap.size 288 [] := (De.new (by omega) (by omega) (by rw [hw2]; exact heap_alloc_new w1 _) : De w2 w1.heap.size 288 []).keep (b3.block _ (by omega))
  have D2 : De w3 w2.heap.size 32 [] := De.new (by omega) (by omega) (by rw [hw3]; exact heap_alloc_new w2 _)
  have R3 := (R1.old b2).old b3
  have B3 : Below w.heap.size w w3 := (b1.trans (b2.mono b1.size)).trans (b3.mono (by have := b1.size; omega))
  have hg1 := R1.g_lt
  have hb1 := R1.b_lt
  have HR3 : Hid (RPk w3 rb g S [] K) := R3
  have HD : Hid (De w3 w1.heap.size 288 [] ∧ De w3 w2.heap.size 32 []) := ⟨D1, D2⟩
  have HB3 : Hid (Below w.heap.size w w3) := B3
  have HSZ : Hid (w.heap.size ≤ g ∧ g < w1.heap.size ∧ w2.heap.size = w1.heap.size + 1 ∧ w3.heap.size = w2.heap.size + 1) := ⟨hgw, hg1, s2, s3⟩
  have HC : Hid (∀ W, Below w3.heap.size w3 W → W.cell? ⟨rb, 0, none⟩ = some (.slice (some ⟨g, 0, none⟩) S S) ∧ W.cell? ⟨rb, 1, none⟩ = some (.int .i64 0)) := fun W hW => ⟨(R3.old hW).c0, (R3.old hW).c1⟩
  have bt0 : Below w3.heap.size w3 w3.drew := (Below.refl _ _).drew
  obtain ⟨q0, q1⟩ := HC.out _ bt0
  clear hw2 hw3 b2 b3 D1 D2 R3 B3 R1 s2 s3 b1 hg1 hb1 hgw hbw
  go_wp2_with fail
  go_region_with ((go_at_call 30; refine (pnewH11 _).mono ?_; rintro e w5 ⟨hd, hhd, rfl, hH, b5⟩; have b5' : Below w3.heap.size w3 w5 := bt0.trans (b5.mono (Nat.le_refl _)); obtain ⟨q0, q1⟩ := HC.out _ b5'))
  all_goals
    have hz := HSZ.out
    have e3 : w3.drew.heap.size = w3.heap.size := rfl
    have b6 := below_box8' w5 (.cells (nsC11 g S w1.heap.size w2.heap.size hd).toArray 47)
    have hlt := hH.lt
    have hs5 := b5'.size
    have R5 := HR3.out.old b5'
    have hSw : Sw (w5.alloc (.cells (nsC11 g S w1.heap.size w2.heap.size hd).toArray 47)) w5.heap.size g S [] K [] 0 w1.heap.size w2.heap.size hd 0 0 0 false := ⟨heap_alloc_new w5 _, (b6.block g R5.g_lt).trans R5.hk, R5.rd, by omega, R5.bd, R5.s1, R5.s2, by simp⟩
    have E1 := (HD.out.1.keep (b5'.block _ (by omega))).keep (b6.block _ (by omega))
    have E2 := (HD.out.2.keep (b5'.block _ (by omega))).keep (b6.block _ (by omega))
    have hH6 := hH.keep (b6.block hd hlt)
    have B6 : Below w.heap.size w (w5.alloc (.cells (nsC11 g S w1.heap.size w2.heap.size hd).toArray 47)) := HB3.out.trans ((b5'.trans (b6.mono hs5)).mono HB3.out.size)
    have HE : Hid (∃ b g dl dd hd K, Ending.returned (.pointer (some ⟨w5.heap.size, 0, none⟩)) = .returned (.pointer (some ⟨b, 0, none⟩)) ∧ Sw (w5.alloc (.cells (nsC11 g S dl dd hd).toArray 47)) b g S [] K [] 0 dl dd hd 0 0 0 false ∧ True) := ⟨w5.heap.size, g, w1.heap.size, w2.heap.size, hd, K, rfl, hSw, trivial⟩
    have HFIN : Hid (Sw (w5.alloc (.cells (nsC11 g S w1.heap.size w2.heap.size hd).toArray 47)) w5.heap.size g S [] K [] 0 w1.heap.size w2.heap.size hd 0 0 0 false ∧ De (w5.alloc (.cells (nsC11 g S w1.heap.size w2.heap.size hd).toArray 47)) w1.heap.size 288 [] ∧ De (w5.alloc (.cells (nsC11 g S w1.heap.size w2.heap.size hd).toArray 47)) w2.heap.size 32 [] ∧ Hd11 (w5.alloc (.cells (nsC11 g S w1.heap.size w2.heap.size hd).toArray 47)) hd ∧ (w.heap.size ≤ g ∧ g < w1.heap.size ∧ w1.heap.size < w2.heap.size ∧ w2.heap.size < hd ∧ hd < w5.heap.size) ∧ Below w.heap.size w (w5.alloc (.cells (nsC11 g S w1.heap.size w2.heap.size hd).toArray 47))) := ⟨hSw, E1, E2, hH6, by omega, B6⟩
    clear hSw E1 E2 hH6 B6 b6 R5 HE hH b5 b5' q0 q1
    go_wp2_with fail
    go_ret
    exact ⟨w5.heap.size, g, w1.heap.size, w2.heap.size, hd, K, rfl, HFIN.out⟩
end Go.Proofs.YtmddnmpldmdllaaDoor

namespace Go.Proofs.YtmddnmpldmdllaaDoor
open Go.RowKit
set_option linter.unusedVariables false

/-! The landed swell: start, New. -/
def putAll (w : World) (b : Nat) : Nat → List Value → World
  | _, [] => w
  | i, v :: vs => putAll (w.setCell ⟨b, i, none⟩ v) b (i + 1) vs
theorem putAll_heap (b : Nat) {T : TypeId} : ∀ (vs : List Value) (w : World) (pre old : List Value) (i : Nat), w.heap[b]? = some (.cells (pre ++ old).toArray T (0, 0)) → pre.length = i → old.length = vs.length → (putAll w b i vs).heap[b]? = some (.cells (pre ++ vs).toArray T (0, 0))
  | [], w, pre, old, i, h, _, hl => by
    have : old = [] := List.eq_nil_of_length_eq_zero hl
    subst this
    exact h
  | v :: vs, w, pre, [], i, h, hi, hl => by simp at hl
  | v :: vs, w, pre, x :: old, i, h, hi, hl => by
    have h1 : (w.setCell ⟨b, i, none⟩ v).heap[b]? = some (.cells ((pre ++ [v]) ++ old).toArray T (0, 0)) := by
      subst hi
      rw [mid_set h]
      simp
    have := putAll_heap b vs (w.setCell ⟨b, i, none⟩ v) (pre ++ [v]) old (i + 1) h1 (by simp [hi]) (by simpa using hl)
    rw [putAll, this]
    simp
theorem putAll_kp (b : Nat) : ∀ (vs : List Value) (w : World) (i : Nat), Kp (fun k => k = b) w (putAll w b i vs)
  | [], w, i => Kp.refl _ _
  | v :: vs, w, i => (Kp.set (S := fun k => k = b) (b := b) (i := i) rfl v).trans (putAll_kp b vs _ (i + 1)) (fun _ _ e => e)
section
variable {w w' : World} {b g S : Nat} {L K : List Int} {H : List Bool} {t dl dd hd : Nat} {win lim nx : Int} {last : Bool}
set_option maxRecDepth 100000 in
set_option maxHeartbeats 4000000 in
theorem pstart11 (win' lim' : Int) (h : Sw w b g S L K H t dl dd hd win lim nx last) :
    Calls Tryd.prog 16 #[.pointer (some ⟨b, 0, none⟩), .int .i64 win', .int .i64 lim'] w fun e w' => e = .returned (.tuple #[]) ∧ Sw w' b g S [] (List.replicate S 0) [] 0 dl dd hd win' lim' 0 false ∧ Kp (fun k => k = b ∨ k = g) w w' := by
  have CR := preset_k_o h.ring
  have HH : Hid (Sw w b g S L K H t dl dd hd win lim nx last) := h
  clear h
  go_enter Tryd.func16, Tryd.ntmps16
  go_wp2_with fail
  refine CR.mono ?_
  rintro e w1 ⟨rfl, hR, k1⟩
  have h1 := HH.out.ofO hR
  have k1' : Kp (fun k => k = b ∨ k = g) w w1 := k1
  have c0 := h1.cell 0 _ rfl
  have c1 : w1.cell? ⟨b, 1, none⟩ = some (.int .i64 0) := h1.cell 1 _ rfl
  have c2 := h1.cell 2 _ rfl
  have c3 := h1.cell 3 _ rfl
  have c4 := h1.cell 4 _ rfl
  have c5 := h1.cell 5 _ rfl
  have c6 := h1.cell 6 _ rfl
  have c7 := h1.cell 7 _ rfl
  have c8 := h1.cell 8 _ rfl
  have c9 := h1.cell 9 _ rfl
  have c10 := h1.cell 10 _ rfl
  have c11 := h1.cell 11 _ rfl
  have c12 := h1.cell 12 _ rfl
  have c13 := h1.cell 13 _ rfl
  have c14 := h1.cell 14 _ rfl
  have c15 := h1.cell 15 _ rfl
  have c16 := h1.cell 16 _ rfl
  have ff : ∀ i, w1.frozen? ⟨b, i, none⟩ = false := fun i => h1.free i
  have H1 : Hid (Sw w1 b g S [] (List.replicate S 0) H t dl dd hd win lim nx last) := h1
  have HK1 : Hid (Kp (fun k => k = b ∨ k = g) w w1) := k1'
  clear CR hR k1 h1 k1'
  go_wp2_with fail
  go_region
  obtain ⟨W3, hW3⟩ : ∃ W3, W3 = putAll w1 b 0 [.slice (some ⟨g, 0, none⟩) S S, .int .i64 0, .int .u64 0, .int .i64 0, .int .i64 0, .pointer (some ⟨dl, 0, none⟩), .pointer (some ⟨dd, 0, none⟩), .pointer (some ⟨hd, 0, none⟩), .int .i64 win', .int .i64 lim', .int .i64 0, .bool false, .int .i64 0, .int .i64 0, .int .i64 0, .int .i64 0, .int .i64 0] := ⟨_, rfl⟩
  obtain ⟨w2, hw2⟩ : ∃ w2, w2 = W3.drew := ⟨_, rfl⟩
  have HW2 : Hid ((((((((((((((((((w1.setCell ⟨b, 0, none⟩ (.slice (some ⟨g, 0, none⟩) S S)).setCell ⟨b, 1, none⟩ (.int .i64 0)).setCell ⟨b, 2, none⟩ (.int .u64 0)).setCell ⟨b, 3, none⟩ (.int .i64 0)).setCell ⟨b, 4, none⟩ (.int .i64 0)).setCell ⟨b, 5, none⟩ (.pointer (some ⟨dl, 0, none⟩))).setCell ⟨b, 6, none⟩ (.pointer (some ⟨dd, 0, none⟩))).setCell ⟨b, 7, none⟩ (.pointer (some ⟨hd, 0, none⟩))).setCell ⟨b, 8, none⟩ (.int .i64 win')).setCell ⟨b, 9, none⟩ (.int .i64 lim')).setCell ⟨b, 10, none⟩ (.int .i64 0)).setCell ⟨b, 11, none⟩ (.bool false)).setCell ⟨b, 12, none⟩ (.int .i64 0)).setCell ⟨b, 13, none⟩ (.int .i64 0)).setCell ⟨b, 14, none⟩ (.int .i64 0)).setCell ⟨b, 15, none⟩ (.int .i64 0)).setCell ⟨b, 16, none⟩ (.int .i64 0)).drew = w2) := by
    rw [hw2, hW3]
    show _ = _
    simp only [putAll, Nat.reduceAdd]
  have hp3 : W3.heap[b]? = some (.cells (([] : List Value) ++ ([.slice (some ⟨g, 0, none⟩) S S, .int .i64 0, .int .u64 0, .int .i64 0, .int .i64 0, .pointer (some ⟨dl, 0, none⟩), .pointer (some ⟨dd, 0, none⟩), .pointer (some ⟨hd, 0, none⟩), .int .i64 win', .int .i64 lim', .int .i64 0, .bool false, .int .i64 0, .int .i64 0, .int .i64 0, .int .i64 0, .int .i64 0] : List Value)).toArray 47 (0, 0)) := by
    rw [hW3]
    exact putAll_heap b [.slice (some ⟨g, 0, none⟩) S S, .int .i64 0, .int .u64 0, .int .i64 0, .int .i64 0, .pointer (some ⟨dl, 0, none⟩), .pointer (some ⟨dd, 0, none⟩), .pointer (some ⟨hd, 0, none⟩), .int .i64 win', .int .i64 lim', .int .i64 0, .bool false, .int .i64 0, .int .i64 0, .int .i64 0, .int .i64 0, .int .i64 0] w1 [] (.slice (some ⟨g, 0, none⟩) S S :: .int .i64 (([] : List Int).length : Int) :: swA H t dl dd hd win lim nx last) 0 H1.out.hp rfl rfl
  have k3 : Kp (fun k => k = b) w1 W3 := by
    rw [hW3]
    exact putAll_kp b [.slice (some ⟨g, 0, none⟩) S S, .int .i64 0, .int .u64 0, .int .i64 0, .int .i64 0, .pointer (some ⟨dl, 0, none⟩), .pointer (some ⟨dd, 0, none⟩), .pointer (some ⟨hd, 0, none⟩), .int .i64 win', .int .i64 lim', .int .i64 0, .bool false, .int .i64 0, .int .i64 0, .int .i64 0, .int .i64 0, .int .i64 0] w1 0
  have hp2 : w2.heap[b]? = some (.cells (.slice (some ⟨g, 0, none⟩) S S :: .int .i64 (([] : List Int).length : Int) :: swA [] 0 dl dd hd win' lim' 0 false).toArray 47 (0, 0)) := by
    rw [hw2]
    exact hp3
  have k2 : Kp (fun k => k = b) w1 w2 := by
    rw [hw2]
    exact k3.drew
  have h2 : Sw w2 b g S [] (List.replicate S 0) [] 0 dl dd hd win' lim' 0 false := ⟨hp2, k2.heap H1.out.hk (fun e => H1.out.ne e.symm), H1.out.rd, H1.out.ne, H1.out.bd, H1.out.s1, H1.out.s2, by simp⟩
  have HE : Hid (Sw w2 b g S [] (List.replicate S 0) [] 0 dl dd hd win' lim' 0 false ∧ Kp (fun k => k = b ∨ k = g) w w2) := ⟨h2, HK1.out.trans k2 (fun _ _ e => .inl e)⟩
  clear hw2 hW3 hp3 k3 hp2 k2 h2 c0 c1 c2 c3 c4 c5 c6 c7 c8 c9 c10 c11 c12 c13 c14 c15 c16 ff
  rw [HW2.out]
  refine bodyPost_end (results_none rfl _ _ _) rfl ?_
  exact ⟨rfl, HE.out⟩
end
end Go.Proofs.YtmddnmpldmdllaaDoor
