import Derived.Test.YtalojcpgkgeofaaGreatDoorProg
import Derived.WalkKit
import Derived.WalkSpells
import Derived.Test.YtalojcpgkgeofaaGreatDoorPa
import Derived.Deep.QuietTactic
import Derived.BigQuiet
import Derived.Deep.RegionHeld3
import Derived.Test.YtalojcpgkgeofaaGreatDoorPb
import Derived.Laws.EntriesVeiled
import Derived.RangeFuncNested
import Derived.RangeFuncBound
import Derived.RangeFuncCalls
import Derived.RangeFuncLeaves
import Derived.Shelf.Abstract
import Derived.OwnWalkIn
import Derived.TacticsInMore
import Derived.LoopNIn
import Derived.LoopIn
import Derived.StillTailTactics
import Derived.OrdersIn
namespace Go.Proofs.YtalojcpgkgeofaaGreatDoor
set_option linter.unusedVariables false

/-! Edits, as mathematics: steps (Add, Copy, Seek), the bytes of Diff and Extra. -/
abbrev St16 := Int × Int × Int
abbrev z16 : St16 := (0, 0, 0)
def may16 (s : St16) : Bool := decide (0 ≤ s.1 ∧ s.1 ≤ 16777216 ∧ 0 ≤ s.2.1 ∧ s.2.1 ≤ 16777216 ∧ -16777216 ≤ s.2.2 ∧ s.2.2 ≤ 16777216)
theorem may16_iff {s : St16} : may16 s = true ↔ (0 ≤ s.1 ∧ s.1 ≤ 16777216 ∧ 0 ≤ s.2.1 ∧ s.2.1 ≤ 16777216 ∧ -16777216 ≤ s.2.2 ∧ s.2.2 ≤ 16777216) := by unfold may16; exact decide_eq_true_iff
def ad16 (S : List St16) (i : Nat) : Nat := (S.getD i z16).1.toNat
def cp16 (S : List St16) (i : Nat) : Nat := (S.getD i z16).2.1.toNat
def sk16 (S : List St16) (i : Nat) : Int := (S.getD i z16).2.2
/-- How much is added, copied by the first i steps; where they lead. -/
def sa16 (S : List St16) : Nat → Nat
  | 0 => 0
  | i + 1 => sa16 S i + ad16 S i
def sc16 (S : List St16) : Nat → Nat
  | 0 => 0
  | i + 1 => sc16 S i + cp16 S i
def pl16 (S : List St16) : Nat → Int
  | 0 => 0
  | i + 1 => pl16 S i + (ad16 S i : Int) + sk16 S i
/-- The first i steps may be. -/
def Ok16 (S : List St16) (i : Nat) : Prop := ∀ j, j < i → may16 (S.getD j z16) = true
theorem Ok16.zero (S : List St16) : Ok16 S 0 := fun j h => by omega
theorem Ok16.succ {S : List St16} {i : Nat} (h : Ok16 S i) (hm : may16 (S.getD i z16) = true) : Ok16 S (i + 1) := fun j hj => by
  rcases Nat.lt_or_ge j i with h1 | h1
  · exact h j h1
  · have : j = i := by omega
    subst this; exact hm
theorem Ok16.all {S : List St16} (h : Ok16 S S.length) : S.all may16 = true := by
  rw [List.all_eq_true]
  intro x hx
  obtain ⟨j, hj, rfl⟩ := List.getElem_of_mem hx
  have := h j hj
  simpa [List.getD, hj] using this
theorem not_all16 {S : List St16} {i : Nat} (hi : i < S.length) (hm : may16 (S.getD i z16) = false) : S.all may16 = false := by
  rw [List.all_eq_false]
  exact ⟨S[i], List.getElem_mem hi, by simpa [List.getD, hi] using hm⟩
theorem all16_ok {S : List St16} (h : S.all may16 = true) : Ok16 S S.length := fun j hj => by
  have := List.all_eq_true.1 h S[j] (List.getElem_mem hj)
  simpa [List.getD, hj] using this
theorem ad16_le {S : List St16} {i j : Nat} (h : Ok16 S i) (hj : j < i) : ad16 S j ≤ 16777216 ∧ cp16 S j ≤ 16777216 ∧ (ad16 S j : Int) = (S.getD j z16).1 ∧ (cp16 S j : Int) = (S.getD j z16).2.1 ∧ -16777216 ≤ sk16 S j ∧ sk16 S j ≤ 16777216 := by
  have := may16_iff.1 (h j hj)
  unfold ad16 cp16 sk16
  omega
theorem Ok16.mono {S : List St16} {i j : Nat} (h : Ok16 S i) (hj : j ≤ i) : Ok16 S j := fun k hk => h k (by omega)
theorem sa16_le {S : List St16} : ∀ i, Ok16 S i → sa16 S i ≤ i * 16777216 ∧ sc16 S i ≤ i * 16777216 ∧ -((i : Int) * 33554432) ≤ pl16 S i ∧ pl16 S i ≤ (i : Int) * 33554432
  | 0, _ => by simp [sa16, sc16, pl16]
  | i + 1, h => by
    have ih := sa16_le i (h.mono (by omega))
    have hb := ad16_le h (show i < i + 1 by omega)
    simp only [sa16, sc16, pl16]
    omega
theorem sa16_mono {S : List St16} {i : Nat} : ∀ n, i ≤ n → sa16 S i ≤ sa16 S n ∧ sc16 S i ≤ sc16 S n
  | 0, h => by have : i = 0 := by omega
               subst this; omega
  | n + 1, h => by
    rcases Nat.lt_or_ge i (n + 1) with h1 | h1
    · have := sa16_mono (S := S) (i := i) n (by omega)
      simp only [sa16, sc16]
      omega
    · have : i = n + 1 := by omega
      subst this; omega
/-- The error that an edit has by itself. -/
def it16 (S : List St16) (m k : Nat) : Int := if S.all may16 = true then (if sa16 S S.length = m ∧ sc16 S S.length = k ∧ m + k ≤ 16777216 then 0 else 162) else 160
theorem it16_step {S : List St16} {m k : Nat} (h : S.all may16 = false) : it16 S m k = 160 := by unfold it16; simp [h]
theorem it16_size {S : List St16} {m k : Nat} (h : S.all may16 = true) (hn : ¬ (sa16 S S.length = m ∧ sc16 S S.length = k ∧ m + k ≤ 16777216)) : it16 S m k = 162 := by unfold it16; rw [if_pos h, if_neg hn]
theorem it16_ok {S : List St16} {m k : Nat} (h : S.all may16 = true) (hn : sa16 S S.length = m ∧ sc16 S S.length = k ∧ m + k ≤ 16777216) : it16 S m k = 0 := by unfold it16; rw [if_pos h, if_pos hn]
theorem it16_zero {S : List St16} {m k : Nat} (h : it16 S m k = 0) : Ok16 S S.length ∧ sa16 S S.length = m ∧ sc16 S S.length = k ∧ m + k ≤ 16777216 := by
  unfold it16 at h
  by_cases h1 : S.all may16 = true
  · rw [if_pos h1] at h
    by_cases h2 : sa16 S S.length = m ∧ sc16 S S.length = k ∧ m + k ≤ 16777216
    · exact ⟨all16_ok h1, h2⟩
    · rw [if_neg h2] at h; simp at h
  · rw [if_neg h1] at h; simp at h
theorem it16_cases (S : List St16) (m k : Nat) : it16 S m k = 0 ∨ it16 S m k = 160 ∨ it16 S m k = 162 := by
  unfold it16
  split
  · split
    · exact .inl rfl
    · exact .inr (.inr rfl)
  · exact .inr (.inl rfl)
def sz16 (S : List St16) (m k : Nat) : Nat := if it16 S m k = 0 then m + k else 0
/-- The least place that the first i steps read (0, if none is less), and the one behind the greatest. -/
def fi16 (S : List St16) : Nat → Int
  | 0 => 0
  | i + 1 => if 0 < ad16 S i then min (fi16 S i) (pl16 S i) else fi16 S i
def en16 (S : List St16) : Nat → Int
  | 0 => 0
  | i + 1 => if 0 < ad16 S i then max (en16 S i) (pl16 S i + (ad16 S i : Int)) else en16 S i
/-- The first i steps read outside of so many bytes. -/
def Ro16 (S : List St16) (old : Int) (i : Nat) : Prop := ∃ j, j < i ∧ 0 < ad16 S j ∧ (pl16 S j < 0 ∨ old < pl16 S j + (ad16 S j : Int))
theorem fi16_iff (S : List St16) : ∀ i, fi16 S i ≤ 0 ∧ (fi16 S i < 0 ↔ ∃ j, j < i ∧ 0 < ad16 S j ∧ pl16 S j < 0)
  | 0 => ⟨by simp [fi16], by simp [fi16]⟩
  | i + 1 => by
    obtain ⟨h1, h2⟩ := fi16_iff S i
    unfold fi16
    by_cases h : 0 < ad16 S i
    · rw [if_pos h]
      refine ⟨by omega, ?_⟩
      constructor
      · intro hx
        by_cases hy : fi16 S i < 0
        · obtain ⟨j, a, b, c⟩ := h2.1 hy
          exact ⟨j, by omega, b, c⟩
        · exact ⟨i, by omega, h, by omega⟩
      · rintro ⟨j, a, b, c⟩
        rcases Nat.lt_or_ge j i with hj | hj
        · have := h2.2 ⟨j, hj, b, c⟩; omega
        · have : j = i := by omega
          subst this; omega
    · rw [if_neg h]
      refine ⟨h1, ?_⟩
      rw [h2]
      constructor
      · rintro ⟨j, a, b, c⟩; exact ⟨j, by omega, b, c⟩
      · rintro ⟨j, a, b, c⟩
        rcases Nat.lt_or_ge j i with hj | hj
        · exact ⟨j, hj, b, c⟩
        · have : j = i := by omega
          subst this; omega
theorem en16_iff (S : List St16) (old : Int) (ho : 0 ≤ old) : ∀ i, 0 ≤ en16 S i ∧ (old < en16 S i ↔ ∃ j, j < i ∧ 0 < ad16 S j ∧ old < pl16 S j + (ad16 S j : Int))
  | 0 => ⟨by simp [en16], by simp [en16]; omega⟩
  | i + 1 => by
    obtain ⟨h1, h2⟩ := en16_iff S old ho i
    unfold en16
    by_cases h : 0 < ad16 S i
    · rw [if_pos h]
      refine ⟨by omega, ?_⟩
      constructor
      · intro hx
        by_cases hy : old < en16 S i
        · obtain ⟨j, a, b, c⟩ := h2.1 hy
          exact ⟨j, by omega, b, c⟩
        · exact ⟨i, by omega, h, by omega⟩
      · rintro ⟨j, a, b, c⟩
        rcases Nat.lt_or_ge j i with hj | hj
        · have := h2.2 ⟨j, hj, b, c⟩; omega
        · have : j = i := by omega
          subst this; omega
    · rw [if_neg h]
      refine ⟨h1, ?_⟩
      rw [h2]
      constructor
      · rintro ⟨j, a, b, c⟩; exact ⟨j, by omega, b, c⟩
      · rintro ⟨j, a, b, c⟩
        rcases Nat.lt_or_ge j i with hj | hj
        · exact ⟨j, hj, b, c⟩
        · have : j = i := by omega
          subst this; omega
theorem ro16_iff (S : List St16) (old : Int) (ho : 0 ≤ old) (i : Nat) : Ro16 S old i ↔ (fi16 S i < 0 ∨ old < en16 S i) := by
  rw [(fi16_iff S i).2, (en16_iff S old ho i).2]
  constructor
  · rintro ⟨j, a, b, c | c⟩
    · exact .inl ⟨j, a, b, c⟩
    · exact .inr ⟨j, a, b, c⟩
  · rintro (⟨j, a, b, c⟩ | ⟨j, a, b, c⟩)
    · exact ⟨j, a, b, .inl c⟩
    · exact ⟨j, a, b, .inr c⟩
theorem fe16_bd {S : List St16} : ∀ i, Ok16 S i → -((i : Int) * 33554432) ≤ fi16 S i ∧ fi16 S i ≤ 0 ∧ 0 ≤ en16 S i ∧ en16 S i ≤ (i : Int) * 33554432 + 16777216
  | 0, _ => by simp [fi16, en16]
  | i + 1, h => by
    have ih := fe16_bd i (h.mono (by omega))
    have hp := sa16_le i (h.mono (by omega))
    have hb := ad16_le h (show i < i + 1 by omega)
    simp only [fi16, en16]
    constructor
    · split <;> omega
    · refine ⟨by split <;> omega, by split <;> omega, ?_⟩
      split <;> omega
/-- The origins of the bytes: place, value, own. -/
abbrev Og16 := Int × Int × Bool
def oa16 (S : List St16) (D : List Int) (i : Nat) : List Og16 := (List.range (ad16 S i)).map fun (k : Nat) => ((pl16 S i + (k : Int), D.getD (sa16 S i + k) 0, false) : Og16)
def oc16 (S : List St16) (X : List Int) (i : Nat) : List Og16 := (List.range (cp16 S i)).map fun (k : Nat) => ((0, X.getD (sc16 S i + k) 0, true) : Og16)
def og16 (S : List St16) (D X : List Int) : Nat → List Og16
  | 0 => []
  | i + 1 => og16 S D X i ++ oa16 S D i ++ oc16 S X i
theorem og16_len (S : List St16) (D X : List Int) : ∀ i, (og16 S D X i).length = sa16 S i + sc16 S i
  | 0 => by simp [og16, sa16, sc16]
  | i + 1 => by simp [og16, sa16, sc16, oa16, oc16, og16_len S D X i]; omega
theorem og16_bd {S : List St16} {D X : List Int} (hD : ∀ j, 0 ≤ D.getD j 0 ∧ D.getD j 0 ≤ 255) (hX : ∀ j, 0 ≤ X.getD j 0 ∧ X.getD j 0 ≤ 255) : ∀ i, ∀ o ∈ og16 S D X i, 0 ≤ o.2.1 ∧ o.2.1 ≤ 255 ∧ (o.2.2 = true → o.1 = 0)
  | 0 => by simp [og16]
  | i + 1 => by
    intro o ho
    simp only [og16, List.mem_append] at ho
    rcases ho with (ho | ho) | ho
    · exact og16_bd hD hX i o ho
    · simp only [oa16, List.mem_map] at ho
      obtain ⟨k, _, rfl⟩ := ho
      exact ⟨(hD _).1, (hD _).2, by simp⟩
    · simp only [oc16, List.mem_map] at ho
      obtain ⟨k, _, rfl⟩ := ho
      exact ⟨(hX _).1, (hX _).2, fun _ => rfl⟩
/-- A byte that is read outside. -/
theorem ro16_og {S : List St16} {D X : List Int} (old : Int) : ∀ i, Ro16 S old i ↔ ∃ o ∈ og16 S D X i, o.2.2 = false ∧ (o.1 < 0 ∨ old ≤ o.1)
  | 0 => by simp [Ro16, og16]
  | i + 1 => by
    have ih := ro16_og (S := S) (D := D) (X := X) old i
    constructor
    · rintro ⟨j, a, b, c⟩
      rcases Nat.lt_or_ge j i with hj | hj
      · obtain ⟨o, h1, h2⟩ := ih.1 ⟨j, hj, b, c⟩
        exact ⟨o, by simp [og16, h1], h2⟩
      · have : j = i := by omega
        subst this
        rcases c with c | c
        · refine ⟨(pl16 S j + ((0 : Nat) : Int), D.getD (sa16 S j + 0) 0, false), ?_, rfl, ?_⟩
          · simp only [og16, List.mem_append, oa16, List.mem_map]
            exact .inl (.inr ⟨0, by simpa using b, rfl⟩)
          · left; simpa using c
        · refine ⟨(pl16 S j + ((ad16 S j - 1 : Nat) : Int), D.getD (sa16 S j + (ad16 S j - 1)) 0, false), ?_, rfl, ?_⟩
          · simp only [og16, List.mem_append, oa16, List.mem_map]
            exact .inl (.inr ⟨ad16 S j - 1, by simp; omega, rfl⟩)
          · right
            show old ≤ pl16 S j + ((ad16 S j - 1 : Nat) : Int)
            omega
    · rintro ⟨o, ho, h2, h3⟩
      simp only [og16, List.mem_append] at ho
      rcases ho with (ho | ho) | ho
      · obtain ⟨j, a, b, c⟩ := ih.2 ⟨o, ho, h2, h3⟩
        exact ⟨j, by omega, b, c⟩
      · simp only [oa16, List.mem_map, List.mem_range] at ho
        obtain ⟨k, hk, rfl⟩ := ho
        refine ⟨i, by omega, by omega, ?_⟩
        rcases h3 with h3 | h3
        · left
          have h3 : pl16 S i + (k : Int) < 0 := h3
          omega
        · right
          have h3 : old ≤ pl16 S i + (k : Int) := h3
          omega
      · simp only [oc16, List.mem_map] at ho
        obtain ⟨k, _, rfl⟩ := ho
        cases h2
theorem og16_pre (S : List St16) (D X : List Int) {i : Nat} : ∀ n, i ≤ n → ∃ t, og16 S D X n = og16 S D X i ++ t
  | 0, h => ⟨[], by have : i = 0 := by omega
                    subst this; simp⟩
  | n + 1, h => by
    rcases Nat.lt_or_ge i (n + 1) with h1 | h1
    · obtain ⟨t, ht⟩ := og16_pre S D X n (by omega : i ≤ n)
      exact ⟨t ++ oa16 S D n ++ oc16 S X n, by rw [og16, ht]; simp⟩
    · have : i = n + 1 := by omega
      subst this
      exact ⟨[], by simp⟩
theorem og16_add (S : List St16) (D X : List Int) {i n j : Nat} (hi : i < n) (hj : j < ad16 S i) : (og16 S D X n)[sa16 S i + sc16 S i + j]? = some (pl16 S i + (j : Int), D.getD (sa16 S i + j) 0, false) := by
  obtain ⟨t, ht⟩ := og16_pre S D X (i := i + 1) n (by omega)
  have hl := og16_len S D X i
  rw [ht, og16, List.append_assoc, List.append_assoc, List.getElem?_append_right (by omega), show sa16 S i + sc16 S i + j - (og16 S D X i).length = j by omega, List.getElem?_append_left (by simp [oa16]; exact hj)]
  simp [oa16, hj]
theorem og16_cpy (S : List St16) (D X : List Int) {i n j : Nat} (hi : i < n) (hj : j < cp16 S i) : (og16 S D X n)[sa16 S i + sc16 S i + ad16 S i + j]? = some (0, X.getD (sc16 S i + j) 0, true) := by
  obtain ⟨t, ht⟩ := og16_pre S D X (i := i + 1) n (by omega)
  have hl := og16_len S D X i
  have hla : (oa16 S D i).length = ad16 S i := by simp [oa16]
  rw [ht, og16, List.append_assoc, List.append_assoc, List.getElem?_append_right (by omega), show sa16 S i + sc16 S i + ad16 S i + j - (og16 S D X i).length = ad16 S i + j by omega, List.getElem?_append_right (by omega), show ad16 S i + j - (oa16 S D i).length = j by omega, List.getElem?_append_left (by simp [oc16]; exact hj)]
  simp [oc16, hj]
/-- What is made of old. -/
def by16 (z : List Int) (o : Og16) : Int := if o.2.2 = true then o.2.1 else (z.getD o.1.toNat 0 + o.2.1) % 256
def ap16 (z : List Int) (S : List St16) (D X : List Int) : List Int := (og16 S D X S.length).map (by16 z)
end Go.Proofs.YtalojcpgkgeofaaGreatDoor

namespace Go.Proofs.YtalojcpgkgeofaaGreatDoor
open Go.RowKit
set_option linter.unusedVariables false

/-! Steps in memory: three cells each. -/
def sv16 (s : St16) : Value := .agg #[.int .i64 s.1, .int .i64 s.2.1, .int .i64 s.2.2]
structure SpAt (w : World) (g o : Nat) (s : St16) : Prop where
  c0 : w.cell? ⟨g, o, none⟩ = some (.int .i64 s.1)
  c1 : w.cell? ⟨g, o + 1, none⟩ = some (.int .i64 s.2.1)
  c2 : w.cell? ⟨g, o + 2, none⟩ = some (.int .i64 s.2.2)
theorem SpAt.of_block {w w' : World} {g o : Nat} {x : St16} (h : SpAt w g o x) (hb : w'.heap[g]? = w.heap[g]?) : SpAt w' g o x :=
  ⟨(World.cell?_of_block (a := ⟨g, o, none⟩) hb).trans h.c0, (World.cell?_of_block (a := ⟨g, o + 1, none⟩) hb).trans h.c1, (World.cell?_of_block (a := ⟨g, o + 2, none⟩) hb).trans h.c2⟩
theorem SpAt.lt {w : World} {g o : Nat} {x : St16} (h : SpAt w g o x) : g < w.heap.size := World.block_lt_of_cell? w _ h.c0
def Fit16 (s : St16) : Prop := (-9223372036854775808 ≤ s.1 ∧ s.1 ≤ 9223372036854775807) ∧ (-9223372036854775808 ≤ s.2.1 ∧ s.2.1 ≤ 9223372036854775807) ∧ (-9223372036854775808 ≤ s.2.2 ∧ s.2.2 ≤ 9223372036854775807)
structure SegS (w : World) (a : Option Addr) (l : List St16) : Prop where
  at_ : ∀ i, i < l.length → ∃ b off, a = some ⟨b, off, none⟩ ∧ SpAt w b (off + i * 3) (l.getD i z16)
  fit : ∀ t ∈ l, Fit16 t
theorem SegS.nil (w : World) (a : Option Addr) : SegS w a [] := ⟨fun i h => by simp at h, fun t h => by simp at h⟩
theorem SegS.kp {w w' : World} {S : Nat → Prop} {a : Option Addr} {l : List St16} (h : SegS w a l) (hb : Kp S w w') (hn : ∀ b off, a = some ⟨b, off, none⟩ → 0 < l.length → ¬ S b) : SegS w' a l := by
  refine ⟨fun i hi => ?_, h.fit⟩
  obtain ⟨b, off, ha, ht⟩ := h.at_ i hi
  exact ⟨b, off, ha, ht.of_block (hb.block b ht.lt (hn b off ha (by omega)))⟩
theorem SegS.old {w w' : World} {a : Option Addr} {l : List St16} (h : SegS w a l) (hb : Below w.heap.size w w') : SegS w' a l := h.kp (S := fun _ => False) (Kp.of_below hb) (fun _ _ _ _ e => e)
theorem SegS.drew {w : World} {a : Option Addr} {l : List St16} (h : SegS w a l) : SegS w.drew a l := h.old ((Below.refl _ _).drew)
theorem SegS.lt {w : World} {a : Option Addr} {l : List St16} (h : SegS w a l) : ∀ b off, a = some ⟨b, off, none⟩ → 0 < l.length → b < w.heap.size := by
  intro b off e hl
  obtain ⟨b', off', ha, ht⟩ := h.at_ 0 hl
  rw [e] at ha
  cases ha
  exact ht.lt
theorem getD_memS {l : List St16} {i : Nat} (h : i < l.length) : l.getD i z16 ∈ l := by simp [List.getD, h]
theorem below_box16 {w : World} (cs : Array Value) (t : TypeId) : Below w.heap.size w (w.alloc (.cells cs t)) := (Below.refl _ _).alloc (Nat.le_refl _) _
theorem boxS {w wA : World} {s : St16} {t : TypeId} (hA : wA = w.alloc (.cells #[.int .i64 s.1, .int .i64 s.2.1, .int .i64 s.2.2] t)) : SpAt wA w.heap.size 0 s := by
  have h : wA.heap[w.heap.size]? = some (.cells #[.int .i64 s.1, .int .i64 s.2.1, .int .i64 s.2.2] t (0, 0)) := by rw [hA]; exact heap_alloc_new w _
  refine ⟨?_, ?_, ?_⟩ <;> simp [World.cell?, h]

/-! mayBe, sums. -/
def sumR16 (S : List St16) (n : Nat) : Value := .tuple (if S.all may16 = true then #[.int .i64 (sa16 S n : Int), .int .i64 (sc16 S n : Int), .int .i64 0] else #[.int .i64 0, .int .i64 0, .int .i64 160])
end Go.Proofs.YtalojcpgkgeofaaGreatDoor

namespace Go.Proofs.YtalojcpgkgeofaaGreatDoor
open Go.RowKit Go.Shelf
set_option linter.unusedVariables false
attribute [local go_sem] Oper.semAt_some

/-! walk: each step, with the place at which it begins. -/
/-- A closure's box: one block more. -/
structure Cb16 (w : World) (v : Array Value) (t : TypeId) (w' : World) : Prop where
  bl : Below w.heap.size w w'
  sz : w'.heap.size = w.heap.size + 1
  cl : w'.heap[w.heap.size]? = some (.cells v t (0, 0))
theorem cb16 (w : World) (v : Array Value) (t : TypeId) : Cb16 w v t (w.alloc (.cells v t)) := ⟨below_box16 _ _, by simp, heap_alloc_new w _⟩
def wl16 (S : List St16) (n : Nat) : List (Array Value) := (List.range n).map fun i => #[.int .i64 (pl16 S i), sv16 (S.getD i z16)]
theorem wl16_len (S : List St16) (n : Nat) : (wl16 S n).length = n := by simp [wl16]
theorem wl16_get {S : List St16} {n i : Nat} (h : i < n) : (wl16 S n)[i]? = some #[.int .i64 (pl16 S i), sv16 (S.getD i z16)] := by simp [wl16, h]
theorem SegS.kr {w w' : World} {D : Nat → Prop} {a : Option Addr} {l : List St16} (h : SegS w a l) (hb : Kr16 D w w') (hn : ∀ b off, a = some ⟨b, off, none⟩ → 0 < l.length → D b) : SegS w' a l := by
  refine ⟨fun i hi => ?_, h.fit⟩
  obtain ⟨b, off, ha, ht⟩ := h.at_ i hi
  exact ⟨b, off, ha, ht.of_block (hb.block b ht.lt (hn b off ha (by omega)))⟩
end Go.Proofs.YtalojcpgkgeofaaGreatDoor

namespace Go.Proofs.YtalojcpgkgeofaaGreatDoor
open Go.RowKit
set_option linter.unusedVariables false

/-! frame: a header's fields. -/
structure Hd18 where
  o : Int
  n : Int
  so : Int
  sn : Int
  wi : Int
  lo : Int
def Hd18.cs (h : Hd18) : Array Value := #[.int .i64 h.o, .int .i64 h.n, .int .u32 h.so, .int .u32 h.sn, .int .i64 h.wi, .int .i64 h.lo]
def Hd18.Ok (h : Hd18) : Prop := (0 ≤ h.o ∧ h.o ≤ 16777216) ∧ (0 ≤ h.n ∧ h.n ≤ 16777216) ∧ (64 ≤ h.wi ∧ h.wi ≤ 65536) ∧ 1 ≤ h.lo ∧ h.lo ≤ 32768
instance (h : Hd18) : Decidable h.Ok := by unfold Hd18.Ok; infer_instance
def bt18 (p : Nat) : Value := .func (.func 115) #[] #[.pointer (some ⟨p, 0, none⟩), .pointer (some ⟨p + 1, 0, none⟩)]
def fl18 (B : Nat) : Array Value := #[.func (.func 82) #[] #[], bt18 B, .func (.func 84) #[] #[], bt18 (B + 2), .func (.func 85) #[] #[], bt18 (B + 4), .func (.func 86) #[] #[], bt18 (B + 6)]
set_option maxRecDepth 100000 in
theorem pbtw18 (x y : Int) (w : World) : Calls Tryz.prog 83 #[.int .i64 x, .int .i64 y] w fun e w' => e = .returned (.func (.func 115) #[] #[.pointer (some ⟨w.heap.size, 0, none⟩), .pointer (some ⟨w.heap.size + 1, 0, none⟩)]) ∧ w' = (w.alloc (.cells #[.int .i64 x] 3)).alloc (.cells #[.int .i64 y] 3) := by
  have hmf : ∀ (fn : Fn) (first cap : Array Value) (w : World), (Instr.makeFunc fn first cap).run Tryz.prog w = .ok (.func fn first cap) w := fun _ _ _ _ => rfl
  go_enter Tryz.func83, Tryz.ntmps83
  go_wp2
  go_ret
  exact ⟨rfl, rfl⟩
end Go.Proofs.YtalojcpgkgeofaaGreatDoor

namespace Go.Proofs.YtalojcpgkgeofaaGreatDoor
open Go.RowKit
set_option linter.unusedVariables false
open Go.RowKit Go.Shelf

/-! A range over a function whose iterator keeps a state of its own in cells; the loop's body never leaves the loop. -/
/-- What is said of a world abides new blocks, and turns of cells that lie from block B on. -/
structure Abd14 {α : Type} (B : Nat) (J : List α → World → Prop) : Prop where
  old : ∀ s W W', J s W → Below W.heap.size W W' → J s W'
  set : ∀ s W r c t i v, B ≤ r → W.heap[r]? = some (.cells c t (0, 0)) → J s W → J s (W.setCell ⟨r, i, none⟩ v)
/-- An iterator: it tells a row that S says, one after the other. -/
def Seq14 {α : Type} (n : Nat) (P : Program) (g : Nat) (lb : Array Value) (encs : α → Array Value) (Kq : World → World → Prop) (S : List α → Prop) (N : Nat) (w : World) : Prop :=
  ∀ (l : Nat) (J : List α → World → Prop) (W : World), Below w.heap.size w W → Abd14 W.heap.size J →
    (∀ pre x W1, J pre W1 → pre.length < N → YieldAt Fence.wide (n - 1) P l (encs x) W1 fun e W' => e = .returned (.bool true) ∧ J (pre ++ [x]) W' ∧ Kq W1 W') →
    J [] W → CallsIn Fence.wide n P g (#[.func (.yield l) #[] #[]] ++ lb) W fun e W' => (∃ v, e = .returned v) ∧ ∃ xs, S xs ∧ J xs W'
/-- Cells lie as they lay. -/
def Cel14 (W W' : World) : Prop := W.heap.size = W'.heap.size ∧ ∀ (k : Nat) (o : Obj), W.heap[k]? = some o → o.isCells = true → W'.heap[k]? = some o
theorem put_cel14 {W : World} {l : Nat} {r : Loop} (o : Obj) (h : W.heap[l]? = some (.loop r)) : Cel14 W (W.putObj l o) := by
  refine ⟨by simp [World.putObj], fun k x hk hc => ?_⟩
  rw [World.putObj_heap_other (fun e => by subst e; rw [h] at hk; cases hk; cases hc)]
  exact hk
theorem range14 {α : Type} {P : Program} {n : Nat} {g : Operand} {ps : Array Tmp} {assign body : Code} {Q : Exit → Act → World → Prop} {a : Act} {w : World} (h1 : 1 ≤ n) {gf : Nat} {lb : Array Value} (hg : a.eval g = .func (.func gf) #[] lb) (eg : ∀ args w, (callFunc gf args).run P w = .ok (.enter gf args) w)
    {encs : α → Array Value} {Kq : World → World → Prop} {S : List α → Prop} {N : Nat} (hseq : Seq14 (n - 1) P gf lb encs Kq S N w)
    (hKt : ∀ {A B C : World}, Kq A B → Kq B C → Kq A C) (hKb : ∀ (W : World) (l : Nat) (o : Obj) (r : Loop), w.heap.size ≤ l → W.heap[l]? = some (.loop r) → Kq W (W.putObj l o)) (hps : ∀ x, (encs x).size = ps.size)
    (I : List α → World → Prop) (hI : Abd14 w.heap.size I) (hIp : ∀ s W l o r, w.heap.size ≤ l → W.heap[l]? = some (.loop r) → I s W → I s (W.putObj l o)) (h0 : I [] w)
    (hround : ∀ (l : Nat) (pre : List α) (x : α) (W : World), I pre W → pre.length < N → assign.wpIn (Fence.wide.inRound l) (n - 1 - 1) P (Exit.then (fun a1 W1 => KeepsOthers W W1 ∧ Kq W W1 ∧ I pre W1 ∧
        ∀ W2, Cel14 W1 W2 → I pre W2 → body.wpIn (Fence.wide.inRound l) (n - 1 - 1) P (fun e _ W3 => e = .normal ∧ KeepsOthers W2 W3 ∧ Kq W2 W3 ∧ I (pre ++ [x]) W3) a1 W2) (fun _ _ _ => False))
      { tmps := (ps.zip (encs x)).foldl (fun t (p, v) => t.setIfInBounds p v) a.tmps, defers := [] } W)
    (hdone : ∀ (D : Nat) (xs : List α) (W : World), w.heap.size ≤ D → S xs → I xs W → W.heap[D]? = some (.deferred (some [])) → Q .normal { a with defers := { target := .collected D, args := #[] } :: a.defers } W) :
    (Code.rangeFunc g ps assign body).wpIn Fence.wide n P Q a w := by
  refine wpIn_rangeFunc fun fn hfn => ?_
  let R : LoopState → Loop := fun st => { state := st, pending := none, fn, tmps := a.tmps, params := ps, assign, body, defers := w.heap.size }
  have hsz : ((w.alloc (.deferred (some []))).alloc (.loop (R .ready))).heap.size = w.heap.size + 2 := by simp
  have e0 : (w.alloc (.deferred (some []))).heap.size = w.heap.size + 1 := by simp
  have hl0 : ((w.alloc (.deferred (some []))).alloc (.loop (R .ready))).heap[w.heap.size + 1]? = some (.loop (R .ready)) := by
    rw [← e0]; exact heap_alloc_new _ _
  have hd0 : ((w.alloc (.deferred (some []))).alloc (.loop (R .ready))).heap[w.heap.size]? = some (.deferred (some [])) := by
    exact (Below.heap_alloc (w.alloc (.deferred (some []))) _ w.heap.size (by omega)).trans (heap_alloc_new w _)
  have hb0 : Below w.heap.size w ((w.alloc (.deferred (some []))).alloc (.loop (R .ready))) := ((Below.refl _ _).alloc (Nat.le_refl _) _).alloc (by omega) _
  have hi0 : I [] ((w.alloc (.deferred (some []))).alloc (.loop (R .ready))) := hI.old _ _ _ h0 hb0
  have hent := run_enterLoop_outer (P := P) (w := w) fn a.tmps ps assign body
  obtain ⟨W1, hW1⟩ : ∃ W1, W1 = (w.alloc (.deferred (some []))).alloc (.loop (R .ready)) := ⟨_, rfl⟩
  rw [← hW1] at hsz hl0 hd0 hb0 hi0
  refine ⟨w.heap.size + 1, [{ target := .collected w.heap.size, args := #[] }], W1, { target := .fn (.func gf) lb, args := #[.func (.yield (w.heap.size + 1)) #[] #[]] }, W1, gf, #[.func (.yield (w.heap.size + 1)) #[] #[]] ++ lb, W1, ?_, ?_, ?_, ?_, fun _ => h1, ?_⟩
  · rw [hW1]; exact hent
  · simp only [resolve, hg]
    simp [go_sem]
  · intro f' hf'
    trivial
  · simp [invoke, go_sem, eg]
  · refine (hseq (w.heap.size + 1) (fun pre W => I pre W ∧ W.heap[w.heap.size + 1]? = some (.loop (R .ready)) ∧ W.heap[w.heap.size]? = some (.deferred (some []))) _ hb0 ⟨?_, ?_⟩ ?_ ⟨hi0, hl0, hd0⟩).mono ?_
    · rintro s A B ⟨x1, x2, x3⟩ hb
      exact ⟨hI.old s A B x1 hb, (hb.block _ (Array.getElem?_eq_some_iff.1 x2).1).trans x2, (hb.block _ (Array.getElem?_eq_some_iff.1 x3).1).trans x3⟩
    · rintro s A r c t i v hr hc ⟨x1, x2, x3⟩
      refine ⟨hI.set s A r c t i v (by omega) hc x1, ?_, ?_⟩
      · rw [heap_setCell_other _ _ _ _ (by show _ ≠ r; omega)]; exact x2
      · rw [heap_setCell_other _ _ _ _ (by show _ ≠ r; omega)]; exact x3
    · rintro pre x A ⟨x1, x2, x3⟩ hlen
      refine ⟨fn, _, assign, body, run_yield x2 (hps x), roundIn_of_wpIn hfn ?_⟩
      refine wpIn_mono (hround (w.heap.size + 1) pre x A x1 hlen) ?_
      rintro e a1 A1 he
      cases e with
      | normal =>
        obtain ⟨k1, k2, k3, k4⟩ := he
        have y2 := k1.same _ _ x2 rfl
        have y3 := k1.same _ _ x3 rfl
        refine ⟨_, run_beginRound y2 rfl, ?_⟩
        have z2 : (A1.putObj (w.heap.size + 1) (.loop { R .ready with state := .busy })).heap[w.heap.size + 1]? = some (.loop { R .ready with state := .busy }) := World.putObj_heap_same (Array.getElem?_eq_some_iff.1 y2).1
        have z3 := (World.putObj_heap_other (w := A1) (o := .loop { R .ready with state := .busy }) (show w.heap.size ≠ w.heap.size + 1 by omega)).trans y3
        refine wpIn_mono (k4 _ (put_cel14 _ y2) (hIp _ _ _ _ _ (by omega) y2 k3)) ?_
        rintro e2 a2 A3 ⟨rfl, j1, j2, j3⟩
        have u2 := j1.same _ _ z2 rfl
        have u3 := j1.same _ _ z3 rfl
        refine ⟨_, _, run_endRound none u2, rfl, ⟨hIp _ _ _ _ _ (by omega) u2 j3, ?_, ?_⟩, hKt (hKt (hKt k2 (hKb _ _ _ _ (by omega) y2)) j2) (hKb _ _ _ _ (by omega) u2)⟩
        · exact World.putObj_heap_same (Array.getElem?_eq_some_iff.1 u2).1
        · exact (World.putObj_heap_other (by omega)).trans u3
      | ret => exact he.elim
      | exit id => exact he.elim
      | goto t => exact he.elim
      | panic ch => exact he.elim
      | outgrown => exact he.elim
    · rintro e A ⟨⟨v, rfl⟩, xs, hS, x1, x2, x3⟩
      exact ⟨none, _, run_endLoop x2 (by intro h; cases h), hdone _ xs _ (Nat.le_refl _) hS (hIp _ _ _ _ _ (by omega) x2 x1) ((World.putObj_heap_other (by omega)).trans x3)⟩
open Go.RowKit Go.Shelf

/-! A region that draws its order, in a loop's round: what looks stands first and leaves the world alone; what follows goes one after the other. -/
def nodef14 (ops : Array Oper) : Bool := ops.all fun o => match o.op with | .defer _ => false | _ => true
theorem nodef14_spec {ops : Array Oper} (h : nodef14 ops = true) {i : Nat} {o : Oper} (ho : ops[i]? = some o) : ∀ c, o.op ≠ .defer c := by
  intro c e
  obtain ⟨hi, rfl⟩ := Array.getElem?_eq_some_iff.1 ho
  have := (Array.all_eq_true.1 h) i hi
  rw [e] at this
  cases this
theorem opIn_still14 {P : Program} {ops : Array Oper} {l n i : Nat} {w : World} {a : Act} {K : Act → Prop} {K' : Act → World → Prop} {Q : Exit → Act → World → Prop} (hd : nodef14 ops = true) (h : ∀ a, K a → K' a w) (hh : stOp P ops w i K a) : wpOpIn (Fence.wide.inRound l) n P ops Q i K' a w := by
  unfold stOp at hh
  unfold wpOpIn
  split
  · rename_i ho; simp only [ho] at hh; exact h _ hh
  · rename_i o ho
    simp only [ho] at hh
    split
    · rename_i hw
      simp only [hw, if_true] at hh
      refine ⟨fun _ _ => trivial, ?_⟩
      rw [Oper.semAt_eq _ _ _ (nodef14_spec hd ho)]
      unfold Oper.still at hh
      generalize (execOp a.eval o).run P w = r at *
      cases r with
      | ok x w' =>
        cases x <;> simp only [Oper.stillUpon] at hh <;> try exact hh.elim
        case value v => obtain ⟨rfl, hh⟩ := hh; exact h _ hh
        case skip => obtain ⟨rfl, hh⟩ := hh; exact h _ hh
        case enter f args =>
          obtain ⟨rfl, v, hc, hn⟩ := hh
          refine ⟨fun h => (by cases h), ?_⟩
          refine (CallsIn.inRound l (callsIn_wide.2 hc)).mono ?_
          rintro e w2 ⟨rfl, rfl⟩
          exact h _ hn
      | halt x w' => simp only [Oper.stillUpon] at hh
    · rename_i hw
      simp only [hw] at hh
      exact ⟨fun _ _ => trivial, h _ hh⟩
theorem anyIn_head14 {P : Program} {ops : Array Oper} {md : Region.Mode} {w : World} {l n k g : Nat} {L : Array Bool → Act → Prop} {Q : Exit → Act → World → Prop} (hd : nodef14 ops = true) (hL : ∀ listed a, L listed a → wpAnyIn (Fence.wide.inRound l) n P md ops Q g listed a w) :
    ∀ (f : Nat) (listed : Array Bool) (a : Act), wpAnyL P md ops w k L f listed a → wpAnyIn (Fence.wide.inRound l) n P md ops Q (f + g) listed a w
  | 0, listed, a, h => by rw [Nat.zero_add]; exact hL _ _ h
  | f + 1, listed, a, h => by
    rw [show f + 1 + g = (f + g) + 1 by omega]
    exact ⟨fun h0 => absurd h0 h.1, fun i hi => opIn_still14 hd (fun a' h' => anyIn_head14 hd hL f _ a' h') (h.2 i hi).2⟩
theorem anyIn_seq14 {F : Fence} {P : Program} {ops : Array Oper} {md : Region.Mode} {n : Nat} {Q : Exit → Act → World → Prop} : ∀ (l : List Oper) (k : Nat) (listed : Array Bool) (a : Act) (w : World), (∀ j, l[j]? = ops[k + j]?) →
    Region.seqB md ops l.length k listed = true → wpListIn F n P ops Q l a w → wpAnyIn F n P md ops Q l.length listed a w
  | [], _, _, _, _, _, hB, h => ⟨by simpa [Region.seqB] using hB, h⟩
  | o :: l, k, listed, a, w, hl, hB, h => by
    have h0 : ops[k]? = some o := by simpa using (hl 0).symm
    simp only [List.length_cons, Region.seqB, Bool.and_eq_true, decide_eq_true_eq] at hB
    refine ⟨fun h1 => (by rw [hB.1] at h1; cases h1), fun i hi => ?_⟩
    rw [hB.1] at hi
    have hik : i = k := by simpa using hi
    subst hik
    have hw : wpOpIn F n P ops Q i (wpListIn F n P ops Q l) a w := by unfold wpOpIn; simp only [h0]; exact h
    exact wpOpIn_mono (fun a' w' h' => anyIn_seq14 l (i + 1) _ a' w' (fun j => by have := hl (j + 1); simpa [Nat.add_assoc, Nat.add_comm 1 j] using this) hB.2 h') hw
theorem still_tail14 {P : Program} {n id rd : Nat} {Q : Exit → Act → World → Prop} {a : Act} {w : World} {l : List Oper} (k : Nat) (hm : P.follows .mixedOrders = true) (hd : nodef14 l.toArray = true) (hB : Region.lexTailB .any l.toArray k = true)
    (h : wpStill P l.toArray w.drew (fun a' => wpListIn (Fence.wide.inRound rd) n P l.toArray Q (l.drop k) a' w.drew) (l.take k) a) : (Code.region id l.toArray true).wpIn (Fence.wide.inRound rd) n P Q a w := by
  simp only [Region.lexTailB, Bool.and_eq_true, decide_eq_true_eq] at hB
  obtain ⟨⟨⟨⟨hsel, hn⟩, hs⟩, hc⟩, hlex⟩ := hB
  have hn' : k < l.length := by simpa using hn
  have htl : (l.take k).length = k := by simp; omega
  have hdl : (l.drop k).length = l.toArray.size - k := by simp
  have inv0 : HeadInv .any l.toArray k (Array.replicate l.toArray.size false) :=
    ⟨by simp, fun j oj _ hl => (by rw [getD_replicate_false] at hl; cases hl), fun t _ ht => getD_in (by simpa using ht) (getD_replicate_false _ _)⟩
  have H := wpAnyL_lex (md := .any) (g := l.toArray.size - k) hsel hs hc hn (l.take k) 0 _ a (fun j hj => by
    have hj' : j < k := by rw [htl] at hj; exact hj
    simp [hj']) (by simpa using htl) inv0 (by rw [htl]; exact hlex) h
  refine wpIn_region_any hm ?_
  have := anyIn_head14 (l := rd) (n := n) (Q := Q) (g := l.toArray.size - k) hd (fun listed a' hL => by
    have := anyIn_seq14 (F := Fence.wide.inRound rd) (n := n) (md := .any) (Q := Q) (l.drop k) k listed a' w.drew (fun j => by simp [List.getElem?_drop]) (by rw [hdl]; exact hL.1) hL.2
    rwa [hdl] at this) _ _ _ H
  rw [htl, show k + (l.toArray.size - k) = l.toArray.size by omega] at this
  exact this
open Go.RowKit Go.Shelf
attribute [local go_sem] Oper.semAt_some

/-! slices.Backward's iterator over bytes. -/
/-- Below n₀ nothing has turned, but for blocks of E. -/
structure KeepE (n₀ : Nat) (E : Nat → Prop) (W W' : World) : Prop where
  size : W.heap.size ≤ W'.heap.size
  block : ∀ k, k < n₀ → ¬ E k → W'.heap[k]? = W.heap[k]?
theorem KeepE.refl (n₀ : Nat) (E : Nat → Prop) (W : World) : KeepE n₀ E W W := ⟨Nat.le_refl _, fun _ _ _ => rfl⟩
theorem KeepE.trans {n₀ : Nat} {E : Nat → Prop} {A B C : World} (h : KeepE n₀ E A B) (k : KeepE n₀ E B C) : KeepE n₀ E A C := ⟨Nat.le_trans h.size k.size, fun i hi hn => (k.block i hi hn).trans (h.block i hi hn)⟩
theorem KeepE.of_below {n₀ : Nat} {E : Nat → Prop} {A B : World} (h : Below n₀ A B) : KeepE n₀ E A B := ⟨h.size, fun k hk _ => h.block k hk⟩
theorem KeepE.cell {n₀ : Nat} {E : Nat → Prop} {A B : World} (h : KeepE n₀ E A B) {p : Addr} (hp : p.block < n₀) (hn : ¬ E p.block) : B.cell? p = A.cell? p := World.cell?_of_block (w := A) (h.block p.block hp hn)
theorem keepE_b {n₀ : Nat} {E : Nat → Prop} {w : World} (hn : n₀ ≤ w.heap.size) (W : World) (l : Nat) (o : Obj) (r : Loop) (hl : w.heap.size ≤ l) (h : W.heap[l]? = some (.loop r)) : KeepE n₀ E W (W.putObj l o) :=
  ⟨by simp [World.putObj], fun k hk _ => World.putObj_heap_other (by omega)⟩
theorem KeepE.set {n₀ : Nat} {E : Nat → Prop} {W : World} {b i : Nat} (hb : n₀ ≤ b ∨ E b) (v : Value) : KeepE n₀ E W (W.setCell ⟨b, i, none⟩ v) := by
  refine ⟨by simp, fun k hk hn => heap_setCell_other _ _ _ _ ?_⟩
  intro e
  have e' : k = b := e
  subst e'
  rcases hb with h | h
  · omega
  · exact hn h
abbrev BwE14 (m : Nat) : Type := { x : Nat × Int // x.1 < m ∧ 0 ≤ x.2 ∧ x.2 ≤ 255 }
def bwk14 (p : List Int) (k : Nat) : List (Nat × Int) := (List.range k).map fun j => (p.length - 1 - j, p.getD (p.length - 1 - j) 0)
theorem bwk14_succ (p : List Int) (k : Nat) : bwk14 p (k + 1) = bwk14 p k ++ [(p.length - 1 - k, p.getD (p.length - 1 - k) 0)] := by
  unfold bwk14
  rw [List.range_succ, List.map_append]
  rfl
end Go.Proofs.YtalojcpgkgeofaaGreatDoor
