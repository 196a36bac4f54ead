import Derived.Test.YtalojcpgkgeofaaGreatDoorProg
import Derived.WalkKit
import Derived.WalkSpells
import Derived.Test.YtalojcpgkgeofaaGreatDoorPab
import Derived.Test.YtalojcpgkgeofaaGreatDoorPaa
import Derived.Deep.QuietTactic
import Derived.BigQuiet
import Derived.Deep.RegionHeld3
import Derived.Test.YtalojcpgkgeofaaGreatDoorPac
import Derived.Laws.EntriesVeiled
namespace Go.Proofs.YtalojcpgkgeofaaGreatDoor
set_option linter.unusedVariables false

/-! Edits, as mathematics: steps (Add, Copy, Seek), the bytes of Diff and Extra. -/
abbrev St16 := Int × Int × Int
abbrev z16 : St16 := (0, 0, 0)
def may16 (s : St16) : Bool := decide (0 ≤ s.1 ∧ s.1 ≤ 16777216 ∧ 0 ≤ s.2.1 ∧ s.2.1 ≤ 16777216 ∧ -16777216 ≤ s.2.2 ∧ s.2.2 ≤ 16777216)
theorem may16_iff {s : St16} : may16 s = true ↔ (0 ≤ s.1 ∧ s.1 ≤ 16777216 ∧ 0 ≤ s.2.1 ∧ s.2.1 ≤ 16777216 ∧ -16777216 ≤ s.2.2 ∧ s.2.2 ≤ 16777216) := by unfold may16; exact decide_eq_true_iff
def ad16 (S : List St16) (i : Nat) : Nat := (S.getD i z16).1.toNat
def cp16 (S : List St16) (i : Nat) : Nat := (S.getD i z16).2.1.toNat
def sk16 (S : List St16) (i : Nat) : Int := (S.getD i z16).2.2
/-- How much is added, copied by the first i steps; where they lead. -/
def sa16 (S : List St16) : Nat → Nat
  | 0 => 0
  | i + 1 => sa16 S i + ad16 S i
def sc16 (S : List St16) : Nat → Nat
  | 0 => 0
  | i + 1 => sc16 S i + cp16 S i
def pl16 (S : List St16) : Nat → Int
  | 0 => 0
  | i + 1 => pl16 S i + (ad16 S i : Int) + sk16 S i
/-- The first i steps may be. -/
def Ok16 (S : List St16) (i : Nat) : Prop := ∀ j, j < i → may16 (S.getD j z16) = true
theorem Ok16.zero (S : List St16) : Ok16 S 0 := fun j h => by omega
theorem Ok16.succ {S : List St16} {i : Nat} (h : Ok16 S i) (hm : may16 (S.getD i z16) = true) : Ok16 S (i + 1) := fun j hj => by
  rcases Nat.lt_or_ge j i with h1 | h1
  · exact h j h1
  · have : j = i := by omega
    subst this; exact hm
theorem Ok16.all {S : List St16} (h : Ok16 S S.length) : S.all may16 = true := by
  rw [List.all_eq_true]
  intro x hx
  obtain ⟨j, hj, rfl⟩ := List.getElem_of_mem hx
  have := h j hj
  simpa [List.getD, hj] using this
theorem not_all16 {S : List St16} {i : Nat} (hi : i < S.length) (hm : may16 (S.getD i z16) = false) : S.all may16 = false := by
  rw [List.all_eq_false]
  exact ⟨S[i], List.getElem_mem hi, by simpa [List.getD, hi] using hm⟩
theorem all16_ok {S : List St16} (h : S.all may16 = true) : Ok16 S S.length := fun j hj => by
  have := List.all_eq_true.1 h S[j] (List.getElem_mem hj)
  simpa [List.getD, hj] using this
theorem ad16_le {S : List St16} {i j : Nat} (h : Ok16 S i) (hj : j < i) : ad16 S j ≤ 16777216 ∧ cp16 S j ≤ 16777216 ∧ (ad16 S j : Int) = (S.getD j z16).1 ∧ (cp16 S j : Int) = (S.getD j z16).2.1 ∧ -16777216 ≤ sk16 S j ∧ sk16 S j ≤ 16777216 := by
  have := may16_iff.1 (h j hj)
  unfold ad16 cp16 sk16
  omega
theorem Ok16.mono {S : List St16} {i j : Nat} (h : Ok16 S i) (hj : j ≤ i) : Ok16 S j := fun k hk => h k (by omega)
theorem sa16_le {S : List St16} : ∀ i, Ok16 S i → sa16 S i ≤ i * 16777216 ∧ sc16 S i ≤ i * 16777216 ∧ -((i : Int) * 33554432) ≤ pl16 S i ∧ pl16 S i ≤ (i : Int) * 33554432
  | 0, _ => by simp [sa16, sc16, pl16]
  | i + 1, h => by
    have ih := sa16_le i (h.mono (by omega))
    have hb := ad16_le h (show i < i + 1 by omega)
    simp only [sa16, sc16, pl16]
    omega
theorem sa16_mono {S : List St16} {i : Nat} : ∀ n, i ≤ n → sa16 S i ≤ sa16 S n ∧ sc16 S i ≤ sc16 S n
  | 0, h => by have : i = 0 := by omega
               subst this; omega
  | n + 1, h => by
    rcases Nat.lt_or_ge i (n + 1) with h1 | h1
    · have := sa16_mono (S := S) (i := i) n (by omega)
      simp only [sa16, sc16]
      omega
    · have : i = n + 1 := by omega
      subst this; omega
/-- The error that an edit has by itself. -/
def it16 (S : List St16) (m k : Nat) : Int := if S.all may16 = true then (if sa16 S S.length = m ∧ sc16 S S.length = k ∧ m + k ≤ 16777216 then 0 else 162) else 160
theorem it16_step {S : List St16} {m k : Nat} (h : S.all may16 = false) : it16 S m k = 160 := by unfold it16; simp [h]
theorem it16_size {S : List St16} {m k : Nat} (h : S.all may16 = true) (hn : ¬ (sa16 S S.length = m ∧ sc16 S S.length = k ∧ m + k ≤ 16777216)) : it16 S m k = 162 := by unfold it16; rw [if_pos h, if_neg hn]
theorem it16_ok {S : List St16} {m k : Nat} (h : S.all may16 = true) (hn : sa16 S S.length = m ∧ sc16 S S.length = k ∧ m + k ≤ 16777216) : it16 S m k = 0 := by unfold it16; rw [if_pos h, if_pos hn]
theorem it16_zero {S : List St16} {m k : Nat} (h : it16 S m k = 0) : Ok16 S S.length ∧ sa16 S S.length = m ∧ sc16 S S.length = k ∧ m + k ≤ 16777216 := by
  unfold it16 at h
  by_cases h1 : S.all may16 = true
  · rw [if_pos h1] at h
    by_cases h2 : sa16 S S.length = m ∧ sc16 S S.length = k ∧ m + k ≤ 16777216
    · exact ⟨all16_ok h1, h2⟩
    · rw [if_neg h2] at h; simp at h
  · rw [if_neg h1] at h; simp at h
theorem it16_cases (S : List St16) (m k : Nat) : it16 S m k = 0 ∨ it16 S m k = 160 ∨ it16 S m k = 162 := by
  unfold it16
  split
  · split
    · exact .inl rfl
    · exact .inr (.inr rfl)
  · exact .inr (.inl rfl)
def sz16 (S : List St16) (m k : Nat) : Nat := if it16 S m k = 0 then m + k else 0
/-- The least place that the first i steps read (0, if none is less), and the one behind the greatest. -/
def fi16 (S : List St16) : Nat → Int
  | 0 => 0
  | i + 1 => if 0 < ad16 S i then min (fi16 S i) (pl16 S i) else fi16 S i
def en16 (S : List St16) : Nat → Int
  | 0 => 0
  | i + 1 => if 0 < ad16 S i then max (en16 S i) (pl16 S i + (ad16 S i : Int)) else en16 S i
/-- The first i steps read outside of so many bytes. -/
def Ro16 (S : List St16) (old : Int) (i : Nat) : Prop := ∃ j, j < i ∧ 0 < ad16 S j ∧ (pl16 S j < 0 ∨ old < pl16 S j + (ad16 S j : Int))
theorem fi16_iff (S : List St16) : ∀ i, fi16 S i ≤ 0 ∧ (fi16 S i < 0 ↔ ∃ j, j < i ∧ 0 < ad16 S j ∧ pl16 S j < 0)
  | 0 => ⟨by simp [fi16], by simp [fi16]⟩
  | i + 1 => by
    obtain ⟨h1, h2⟩ := fi16_iff S i
    unfold fi16
    by_cases h : 0 < ad16 S i
    · rw [if_pos h]
      refine ⟨by omega, ?_⟩
      constructor
      · intro hx
        by_cases hy : fi16 S i < 0
        · obtain ⟨j, a, b, c⟩ := h2.1 hy
          exact ⟨j, by omega, b, c⟩
        · exact ⟨i, by omega, h, by omega⟩
      · rintro ⟨j, a, b, c⟩
        rcases Nat.lt_or_ge j i with hj | hj
        · have := h2.2 ⟨j, hj, b, c⟩; omega
        · have : j = i := by omega
          subst this; omega
    · rw [if_neg h]
      refine ⟨h1, ?_⟩
      rw [h2]
      constructor
      · rintro ⟨j, a, b, c⟩; exact ⟨j, by omega, b, c⟩
      · rintro ⟨j, a, b, c⟩
        rcases Nat.lt_or_ge j i with hj | hj
        · exact ⟨j, hj, b, c⟩
        · have : j = i := by omega
          subst this; omega
theorem en16_iff (S : List St16) (old : Int) (ho : 0 ≤ old) : ∀ i, 0 ≤ en16 S i ∧ (old < en16 S i ↔ ∃ j, j < i ∧ 0 < ad16 S j ∧ old < pl16 S j + (ad16 S j : Int))
  | 0 => ⟨by simp [en16], by simp [en16]; omega⟩
  | i + 1 => by
    obtain ⟨h1, h2⟩ := en16_iff S old ho i
    unfold en16
    by_cases h : 0 < ad16 S i
    · rw [if_pos h]
      refine ⟨by omega, ?_⟩
      constructor
      · intro hx
        by_cases hy : old < en16 S i
        · obtain ⟨j, a, b, c⟩ := h2.1 hy
          exact ⟨j, by omega, b, c⟩
        · exact ⟨i, by omega, h, by omega⟩
      · rintro ⟨j, a, b, c⟩
        rcases Nat.lt_or_ge j i with hj | hj
        · have := h2.2 ⟨j, hj, b, c⟩; omega
        · have : j = i := by omega
          subst this; omega
    · rw [if_neg h]
      refine ⟨h1, ?_⟩
      rw [h2]
      constructor
      · rintro ⟨j, a, b, c⟩; exact ⟨j, by omega, b, c⟩
      · rintro ⟨j, a, b, c⟩
        rcases Nat.lt_or_ge j i with hj | hj
        · exact ⟨j, hj, b, c⟩
        · have : j = i := by omega
          subst this; omega
theorem ro16_iff (S : List St16) (old : Int) (ho : 0 ≤ old) (i : Nat) : Ro16 S old i ↔ (fi16 S i < 0 ∨ old < en16 S i) := by
  rw [(fi16_iff S i).2, (en16_iff S old ho i).2]
  constructor
  · rintro ⟨j, a, b, c | c⟩
    · exact .inl ⟨j, a, b, c⟩
    · exact .inr ⟨j, a, b, c⟩
  · rintro (⟨j, a, b, c⟩ | ⟨j, a, b, c⟩)
    · exact ⟨j, a, b, .inl c⟩
    · exact ⟨j, a, b, .inr c⟩
theorem fe16_bd {S : List St16} : ∀ i, Ok16 S i → -((i : Int) * 33554432) ≤ fi16 S i ∧ fi16 S i ≤ 0 ∧ 0 ≤ en16 S i ∧ en16 S i ≤ (i : Int) * 33554432 + 16777216
  | 0, _ => by simp [fi16, en16]
  | i + 1, h => by
    have ih := fe16_bd i (h.mono (by omega))
    have hp := sa16_le i (h.mono (by omega))
    have hb := ad16_le h (show i < i + 1 by omega)
    simp only [fi16, en16]
    constructor
    · split <;> omega
    · refine ⟨by split <;> omega, by split <;> omega, ?_⟩
      split <;> omega
/-- The origins of the bytes: place, value, own. -/
abbrev Og16 := Int × Int × Bool
def oa16 (S : List St16) (D : List Int) (i : Nat) : List Og16 := (List.range (ad16 S i)).map fun (k : Nat) => ((pl16 S i + (k : Int), D.getD (sa16 S i + k) 0, false) : Og16)
def oc16 (S : List St16) (X : List Int) (i : Nat) : List Og16 := (List.range (cp16 S i)).map fun (k : Nat) => ((0, X.getD (sc16 S i + k) 0, true) : Og16)
def og16 (S : List St16) (D X : List Int) : Nat → List Og16
  | 0 => []
  | i + 1 => og16 S D X i ++ oa16 S D i ++ oc16 S X i
theorem og16_len (S : List St16) (D X : List Int) : ∀ i, (og16 S D X i).length = sa16 S i + sc16 S i
  | 0 => by simp [og16, sa16, sc16]
  | i + 1 => by simp [og16, sa16, sc16, oa16, oc16, og16_len S D X i]; omega
theorem og16_bd {S : List St16} {D X : List Int} (hD : ∀ j, 0 ≤ D.getD j 0 ∧ D.getD j 0 ≤ 255) (hX : ∀ j, 0 ≤ X.getD j 0 ∧ X.getD j 0 ≤ 255) : ∀ i, ∀ o ∈ og16 S D X i, 0 ≤ o.2.1 ∧ o.2.1 ≤ 255 ∧ (o.2.2 = true → o.1 = 0)
  | 0 => by simp [og16]
  | i + 1 => by
    intro o ho
    simp only [og16, List.mem_append] at ho
    rcases ho with (ho | ho) | ho
    · exact og16_bd hD hX i o ho
    · simp only [oa16, List.mem_map] at ho
      obtain ⟨k, _, rfl⟩ := ho
      exact ⟨(hD _).1, (hD _).2, by simp⟩
    · simp only [oc16, List.mem_map] at ho
      obtain ⟨k, _, rfl⟩ := ho
      exact ⟨(hX _).1, (hX _).2, fun _ => rfl⟩
/-- A byte that is read outside. -/
theorem ro16_og {S : List St16} {D X : List Int} (old : Int) : ∀ i, Ro16 S old i ↔ ∃ o ∈ og16 S D X i, o.2.2 = false ∧ (o.1 < 0 ∨ old ≤ o.1)
  | 0 => by simp [Ro16, og16]
  | i + 1 => by
    have ih := ro16_og (S := S) (D := D) (X := X) old i
    constructor
    · rintro ⟨j, a, b, c⟩
      rcases Nat.lt_or_ge j i with hj | hj
      · obtain ⟨o, h1, h2⟩ := ih.1 ⟨j, hj, b, c⟩
        exact ⟨o, by simp [og16, h1], h2⟩
      · have : j = i := by omega
        subst this
        rcases c with c | c
        · refine ⟨(pl16 S j + ((0 : Nat) : Int), D.getD (sa16 S j + 0) 0, false), ?_, rfl, ?_⟩
          · simp only [og16, List.mem_append, oa16, List.mem_map]
            exact .inl (.inr ⟨0, by simpa using b, rfl⟩)
          · left; simpa using c
        · refine ⟨(pl16 S j + ((ad16 S j - 1 : Nat) : Int), D.getD (sa16 S j + (ad16 S j - 1)) 0, false), ?_, rfl, ?_⟩
          · simp only [og16, List.mem_append, oa16, List.mem_map]
            exact .inl (.inr ⟨ad16 S j - 1, by simp; omega, rfl⟩)
          · right
            show old ≤ pl16 S j + ((ad16 S j - 1 : Nat) : Int)
            omega
    · rintro ⟨o, ho, h2, h3⟩
      simp only [og16, List.mem_append] at ho
      rcases ho with (ho | ho) | ho
      · obtain ⟨j, a, b, c⟩ := ih.2 ⟨o, ho, h2, h3⟩
        exact ⟨j, by omega, b, c⟩
      · simp only [oa16, List.mem_map, List.mem_range] at ho
        obtain ⟨k, hk, rfl⟩ := ho
        refine ⟨i, by omega, by omega, ?_⟩
        rcases h3 with h3 | h3
        · left
          have h3 : pl16 S i + (k : Int) < 0 := h3
          omega
        · right
          have h3 : old ≤ pl16 S i + (k : Int) := h3
          omega
      · simp only [oc16, List.mem_map] at ho
        obtain ⟨k, _, rfl⟩ := ho
        cases h2
theorem og16_pre (S : List St16) (D X : List Int) {i : Nat} : ∀ n, i ≤ n → ∃ t, og16 S D X n = og16 S D X i ++ t
  | 0, h => ⟨[], by have : i = 0 := by omega
                    subst this; simp⟩
  | n + 1, h => by
    rcases Nat.lt_or_ge i (n + 1) with h1 | h1
    · obtain ⟨t, ht⟩ := og16_pre S D X n (by omega : i ≤ n)
      exact ⟨t ++ oa16 S D n ++ oc16 S X n, by rw [og16, ht]; simp⟩
    · have : i = n + 1 := by omega
      subst this
      exact ⟨[], by simp⟩
theorem og16_add (S : List St16) (D X : List Int) {i n j : Nat} (hi : i < n) (hj : j < ad16 S i) : (og16 S D X n)[sa16 S i + sc16 S i + j]? = some (pl16 S i + (j : Int), D.getD (sa16 S i + j) 0, false) := by
  obtain ⟨t, ht⟩ := og16_pre S D X (i := i + 1) n (by omega)
  have hl := og16_len S D X i
  rw [ht, og16, List.append_assoc, List.append_assoc, List.getElem?_append_right (by omega), show sa16 S i + sc16 S i + j - (og16 S D X i).length = j by omega, List.getElem?_append_left (by simp [oa16]; exact hj)]
  simp [oa16, hj]
theorem og16_cpy (S : List St16) (D X : List Int) {i n j : Nat} (hi : i < n) (hj : j < cp16 S i) : (og16 S D X n)[sa16 S i + sc16 S i + ad16 S i + j]? = some (0, X.getD (sc16 S i + j) 0, true) := by
  obtain ⟨t, ht⟩ := og16_pre S D X (i := i + 1) n (by omega)
  have hl := og16_len S D X i
  have hla : (oa16 S D i).length = ad16 S i := by simp [oa16]
  rw [ht, og16, List.append_assoc, List.append_assoc, List.getElem?_append_right (by omega), show sa16 S i + sc16 S i + ad16 S i + j - (og16 S D X i).length = ad16 S i + j by omega, List.getElem?_append_right (by omega), show ad16 S i + j - (oa16 S D i).length = j by omega, List.getElem?_append_left (by simp [oc16]; exact hj)]
  simp [oc16, hj]
/-- What is made of old. -/
def by16 (z : List Int) (o : Og16) : Int := if o.2.2 = true then o.2.1 else (z.getD o.1.toNat 0 + o.2.1) % 256
def ap16 (z : List Int) (S : List St16) (D X : List Int) : List Int := (og16 S D X S.length).map (by16 z)
end Go.Proofs.YtalojcpgkgeofaaGreatDoor

namespace Go.Proofs.YtalojcpgkgeofaaGreatDoor
open Go.RowKit
set_option linter.unusedVariables false

/-! Steps in memory: three cells each. -/
def sv16 (s : St16) : Value := .agg #[.int .i64 s.1, .int .i64 s.2.1, .int .i64 s.2.2]
structure SpAt (w : World) (g o : Nat) (s : St16) : Prop where
  c0 : w.cell? ⟨g, o, none⟩ = some (.int .i64 s.1)
  c1 : w.cell? ⟨g, o + 1, none⟩ = some (.int .i64 s.2.1)
  c2 : w.cell? ⟨g, o + 2, none⟩ = some (.int .i64 s.2.2)
theorem SpAt.of_block {w w' : World} {g o : Nat} {x : St16} (h : SpAt w g o x) (hb : w'.heap[g]? = w.heap[g]?) : SpAt w' g o x :=
  ⟨(World.cell?_of_block (a := ⟨g, o, none⟩) hb).trans h.c0, (World.cell?_of_block (a := ⟨g, o + 1, none⟩) hb).trans h.c1, (World.cell?_of_block (a := ⟨g, o + 2, none⟩) hb).trans h.c2⟩
theorem SpAt.lt {w : World} {g o : Nat} {x : St16} (h : SpAt w g o x) : g < w.heap.size := World.block_lt_of_cell? w _ h.c0
def Fit16 (s : St16) : Prop := (-9223372036854775808 ≤ s.1 ∧ s.1 ≤ 9223372036854775807) ∧ (-9223372036854775808 ≤ s.2.1 ∧ s.2.1 ≤ 9223372036854775807) ∧ (-9223372036854775808 ≤ s.2.2 ∧ s.2.2 ≤ 9223372036854775807)
structure SegS (w : World) (a : Option Addr) (l : List St16) : Prop where
  at_ : ∀ i, i < l.length → ∃ b off, a = some ⟨b, off, none⟩ ∧ SpAt w b (off + i * 3) (l.getD i z16)
  fit : ∀ t ∈ l, Fit16 t
theorem SegS.nil (w : World) (a : Option Addr) : SegS w a [] := ⟨fun i h => by simp at h, fun t h => by simp at h⟩
theorem SegS.kp {w w' : World} {S : Nat → Prop} {a : Option Addr} {l : List St16} (h : SegS w a l) (hb : Kp S w w') (hn : ∀ b off, a = some ⟨b, off, none⟩ → 0 < l.length → ¬ S b) : SegS w' a l := by
  refine ⟨fun i hi => ?_, h.fit⟩
  obtain ⟨b, off, ha, ht⟩ := h.at_ i hi
  exact ⟨b, off, ha, ht.of_block (hb.block b ht.lt (hn b off ha (by omega)))⟩
theorem SegS.old {w w' : World} {a : Option Addr} {l : List St16} (h : SegS w a l) (hb : Below w.heap.size w w') : SegS w' a l := h.kp (S := fun _ => False) (Kp.of_below hb) (fun _ _ _ _ e => e)
theorem SegS.drew {w : World} {a : Option Addr} {l : List St16} (h : SegS w a l) : SegS w.drew a l := h.old ((Below.refl _ _).drew)
theorem SegS.lt {w : World} {a : Option Addr} {l : List St16} (h : SegS w a l) : ∀ b off, a = some ⟨b, off, none⟩ → 0 < l.length → b < w.heap.size := by
  intro b off e hl
  obtain ⟨b', off', ha, ht⟩ := h.at_ 0 hl
  rw [e] at ha
  cases ha
  exact ht.lt
theorem getD_memS {l : List St16} {i : Nat} (h : i < l.length) : l.getD i z16 ∈ l := by simp [List.getD, h]
theorem below_box16 {w : World} (cs : Array Value) (t : TypeId) : Below w.heap.size w (w.alloc (.cells cs t)) := (Below.refl _ _).alloc (Nat.le_refl _) _
theorem boxS {w wA : World} {s : St16} {t : TypeId} (hA : wA = w.alloc (.cells #[.int .i64 s.1, .int .i64 s.2.1, .int .i64 s.2.2] t)) : SpAt wA w.heap.size 0 s := by
  have h : wA.heap[w.heap.size]? = some (.cells #[.int .i64 s.1, .int .i64 s.2.1, .int .i64 s.2.2] t (0, 0)) := by rw [hA]; exact heap_alloc_new w _
  refine ⟨?_, ?_, ?_⟩ <;> simp [World.cell?, h]

/-! mayBe, sums. -/
def sumR16 (S : List St16) (n : Nat) : Value := .tuple (if S.all may16 = true then #[.int .i64 (sa16 S n : Int), .int .i64 (sc16 S n : Int), .int .i64 0] else #[.int .i64 0, .int .i64 0, .int .i64 160])
end Go.Proofs.YtalojcpgkgeofaaGreatDoor

namespace Go.Proofs.YtalojcpgkgeofaaGreatDoor
open Go.RowKit Go.Shelf
set_option linter.unusedVariables false
attribute [local go_sem] Oper.semAt_some

/-! walk: each step, with the place at which it begins. -/
/-- A closure's box: one block more. -/
structure Cb16 (w : World) (v : Array Value) (t : TypeId) (w' : World) : Prop where
  bl : Below w.heap.size w w'
  sz : w'.heap.size = w.heap.size + 1
  cl : w'.heap[w.heap.size]? = some (.cells v t (0, 0))
theorem cb16 (w : World) (v : Array Value) (t : TypeId) : Cb16 w v t (w.alloc (.cells v t)) := ⟨below_box16 _ _, by simp, heap_alloc_new w _⟩
def wl16 (S : List St16) (n : Nat) : List (Array Value) := (List.range n).map fun i => #[.int .i64 (pl16 S i), sv16 (S.getD i z16)]
theorem wl16_len (S : List St16) (n : Nat) : (wl16 S n).length = n := by simp [wl16]
theorem wl16_get {S : List St16} {n i : Nat} (h : i < n) : (wl16 S n)[i]? = some #[.int .i64 (pl16 S i), sv16 (S.getD i z16)] := by simp [wl16, h]
theorem SegS.kr {w w' : World} {D : Nat → Prop} {a : Option Addr} {l : List St16} (h : SegS w a l) (hb : Kr16 D w w') (hn : ∀ b off, a = some ⟨b, off, none⟩ → 0 < l.length → D b) : SegS w' a l := by
  refine ⟨fun i hi => ?_, h.fit⟩
  obtain ⟨b, off, ha, ht⟩ := h.at_ i hi
  exact ⟨b, off, ha, ht.of_block (hb.block b ht.lt (hn b off ha (by omega)))⟩
end Go.Proofs.YtalojcpgkgeofaaGreatDoor

namespace Go.Proofs.YtalojcpgkgeofaaGreatDoor
open Go.RowKit
set_option linter.unusedVariables false

/-! frame: a header's fields. -/
structure Hd18 where
  o : Int
  n : Int
  so : Int
  sn : Int
  wi : Int
  lo : Int
def Hd18.cs (h : Hd18) : Array Value := #[.int .i64 h.o, .int .i64 h.n, .int .u32 h.so, .int .u32 h.sn, .int .i64 h.wi, .int .i64 h.lo]
def Hd18.Ok (h : Hd18) : Prop := (0 ≤ h.o ∧ h.o ≤ 16777216) ∧ (0 ≤ h.n ∧ h.n ≤ 16777216) ∧ (64 ≤ h.wi ∧ h.wi ≤ 65536) ∧ 1 ≤ h.lo ∧ h.lo ≤ 32768
instance (h : Hd18) : Decidable h.Ok := by unfold Hd18.Ok; infer_instance
def bt18 (p : Nat) : Value := .func (.func 115) #[] #[.pointer (some ⟨p, 0, none⟩), .pointer (some ⟨p + 1, 0, none⟩)]
def fl18 (B : Nat) : Array Value := #[.func (.func 82) #[] #[], bt18 B, .func (.func 84) #[] #[], bt18 (B + 2), .func (.func 85) #[] #[], bt18 (B + 4), .func (.func 86) #[] #[], bt18 (B + 6)]
set_option maxRecDepth 100000 in
theorem pbtw18 (x y : Int) (w : World) : Calls Tryz.prog 83 #[.int .i64 x, .int .i64 y] w fun e w' => e = .returned (.func (.func 115) #[] #[.pointer (some ⟨w.heap.size, 0, none⟩), .pointer (some ⟨w.heap.size + 1, 0, none⟩)]) ∧ w' = (w.alloc (.cells #[.int .i64 x] 3)).alloc (.cells #[.int .i64 y] 3) := by
  have hmf : ∀ (fn : Fn) (first cap : Array Value) (w : World), (Instr.makeFunc fn first cap).run Tryz.prog w = .ok (.func fn first cap) w := fun _ _ _ _ => rfl
  go_enter Tryz.func83, Tryz.ntmps83
  go_wp2
  go_ret
  exact ⟨rfl, rfl⟩
end Go.Proofs.YtalojcpgkgeofaaGreatDoor
