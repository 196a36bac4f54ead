namespace Go.Proofs.YtmfpdchfofffeaaGreatDoor
set_option linter.unusedVariables false
abbrev St16 := Int × Int × Int
abbrev z16 : St16 := (0, 0, 0)
def may16 (s : St16) : Bool := decide (0 ≤ s.1 ∧ s.1 ≤ 16777216 ∧ 0 ≤ s.2.1 ∧ s.2.1 ≤ 16777216 ∧ -16777216 ≤ s.2.2 ∧ s.2.2 ≤ 16777216)
theorem may16_iff {s : St16} : may16 s = true ↔ (0 ≤ s.1 ∧ s.1 ≤ 16777216 ∧ 0 ≤ s.2.1 ∧ s.2.1 ≤ 16777216 ∧ -16777216 ≤ s.2.2 ∧ s.2.2 ≤ 16777216) := by unfold may16; exact decide_eq_true_iff
def ad16 (S : List St16) (i : Nat) : Nat := (S.getD i z16).1.toNat
def cp16 (S : List St16) (i : Nat) : Nat := (S.getD i z16).2.1.toNat
def sk16 (S : List St16) (i : Nat) : Int := (S.getD i z16).2.2
/-- How much is added, copied by the first i steps; where they lead. -/
def sa16 (S : List St16) : Nat → Nat
  | 0 => 0
  | i + 1 => sa16 S i + ad16 S i
def sc16 (S : List St16) : Nat → Nat
  | 0 => 0
  | i + 1 => sc16 S i + cp16 S i
def pl16 (S : List St16) : Nat → Int
  | 0 => 0
  | i + 1 => pl16 S i + (ad16 S i : Int) + sk16 S i
/-- The first i steps may be. -/
def Ok16 (S : List St16) (i : Nat) : Prop := ∀ j, j < i → may16 (S.getD j z16) = true
theorem Ok16.zero (S : List St16) : Ok16 S 0 := fun j h => by omega
theorem Ok16.succ {S : List St16} {i : Nat} (h : Ok16 S i) (hm : may16 (S.getD i z16) = true) : Ok16 S (i + 1) := fun j hj => by
  rcases Nat.lt_or_ge j i with h1 | h1
  · exact h j h1
  · have : j = i := by omega
    subst this; exact hm
theorem Ok16.all {S : List St16} (h : Ok16 S S.length) : S.all may16 = true := by
  rw [List.all_eq_true]
  intro x hx
  obtain ⟨j, hj, rfl⟩ := List.getElem_of_mem hx
  have := h j hj
  simpa [List.getD, hj] using this
theorem not_all16 {S : List St16} {i : Nat} (hi : i < S.length) (hm : may16 (S.getD i z16) = false) : S.all may16 = false := by
  rw [List.all_eq_false]
  exact ⟨S[i], List.getElem_mem hi, by simpa [List.getD, hi] using hm⟩
theorem all16_ok {S : List St16} (h : S.all may16 = true) : Ok16 S S.length := fun j hj => by
  have := List.all_eq_true.1 h S[j] (List.getElem_mem hj)
  simpa [List.getD, hj] using this
theorem ad16_le {S : List St16} {i j : Nat} (h : Ok16 S i) (hj : j < i) : ad16 S j ≤ 16777216 ∧ cp16 S j ≤ 16777216 ∧ (ad16 S j : Int) = (S.getD j z16).1 ∧ (cp16 S j : Int) = (S.getD j z16).2.1 ∧ -16777216 ≤ sk16 S j ∧ sk16 S j ≤ 16777216 := by
  have := may16_iff.1 (h j hj)
  unfold ad16 cp16 sk16
  omega
theorem Ok16.mono {S : List St16} {i j : Nat} (h : Ok16 S i) (hj : j ≤ i) : Ok16 S j := fun k hk => h k (by omega)
theorem sa16_le {S : List St16} : ∀ i, Ok16 S i → sa16 S i ≤ i * 16777216 ∧ sc16 S i ≤ i * 16777216 ∧ -((i : Int) * 33554432) ≤ pl16 S i ∧ pl16 S i ≤ (i : Int) * 33554432
  | 0, _ => by simp [sa16, sc16, pl16]
  | i + 1, h => by
    have ih := sa16_le i (h.mono (by omega))
    have hb := ad16_le h (show i < i + 1 by omega)
    simp only [sa16, sc16, pl16]
    omega
theorem sa16_mono {S : List St16} {i : Nat} : ∀ n, i ≤ n → sa16 S i ≤ sa16 S n ∧ sc16 S i ≤ sc16 S n
  | 0, h => by have : i = 0 := by omega
               subst this; omega
  | n + 1, h => by
    rcases Nat.lt_or_ge i (n + 1) with h1 | h1
    · have := sa16_mono (S := S) (i := i) n (by omega)
      simp only [sa16, sc16]
      omega
    · have : i = n + 1 := by omega
      subst this; omega
/-- The error that an edit has by itself. -/
def it16 (S : List St16) (m k : Nat) : Int := if S.all may16 = true then (if sa16 S S.length = m ∧ sc16 S S.length = k ∧ m + k ≤ 16777216 then 0 else 162) else 160
theorem it16_step {S : List St16} {m k : Nat} (h : S.all may16 = false) : it16 S m k = 160 := by unfold it16; simp [h]
theorem it16_size {S : List St16} {m k : Nat} (h : S.all may16 = true) (hn : ¬ (sa16 S S.length = m ∧ sc16 S S.length = k ∧ m + k ≤ 16777216)) : it16 S m k = 162 := by unfold it16; rw [if_pos h, if_neg hn]
theorem it16_ok {S : List St16} {m k : Nat} (h : S.all may16 = true) (hn : sa16 S S.length = m ∧ sc16 S S.length = k ∧ m + k ≤ 16777216) : it16 S m k = 0 := by unfold it16; rw [if_pos h, if_pos hn]
theorem it16_zero {S : List St16} {m k : Nat} (h : it16 S m k = 0) : Ok16 S S.length ∧ sa16 S S.length = m ∧ sc16 S S.length = k ∧ m + k ≤ 16777216 := by
  unfold it16 at h
  by_cases h1 : S.all may16 = true
  · rw [if_pos h1] at h
    by_cases h2 : sa16 S S.length = m ∧ sc16 S S.length = k ∧ m + k ≤ 16777216
    · exact ⟨all16_ok h1, h2⟩
    · rw [if_neg h2] at h; simp at h
  · rw [if_neg h1] at h; simp at h
theorem it16_cases (S : List St16) (m k : Nat) : it16 S m k = 0 ∨ it16 S m k = 160 ∨ it16 S m k = 162 := by
  unfold it16
  split
  · split
    · exact .inl rfl
    · exact .inr (.inr rfl)
  · exact .inr (.inl rfl)
def sz16 (S : List St16) (m k : Nat) : Nat := if it16 S m k = 0 then m + k else 0
/-- The least place that the first i steps read (0, if none is less), and the one behind the greatest. -/
def fi16 (S : List St16) : Nat → Int
  | 0 => 0
  | i + 1 => if 0 < ad16 S i then min (fi16 S i) (pl16 S i) else fi16 S i
def en16 (S : List St16) : Nat → Int
  | 0 => 0
  | i + 1 => if 0 < ad16 S i then max (en16 S i) (pl16 S i + (ad16 S i : Int)) else en16 S i
theorem fe16_bd {S : List St16} : ∀ i, Ok16 S i → -((i : Int) * 33554432) ≤ fi16 S i ∧ fi16 S i ≤ 0 ∧ 0 ≤ en16 S i ∧ en16 S i ≤ (i : Int) * 33554432 + 16777216
  | 0, _ => by simp [fi16, en16]
  | i + 1, h => by
    have ih := fe16_bd i (h.mono (by omega))
    have hp := sa16_le i (h.mono (by omega))
    have hb := ad16_le h (show i < i + 1 by omega)
    simp only [fi16, en16]
    constructor
    · split <;> omega
    · refine ⟨by split <;> omega, by split <;> omega, ?_⟩
      split <;> omega
/-- The origins of the bytes: place, value, own. -/
abbrev Og16 := Int × Int × Bool
/-- What is made of old. -/
def by16 (z : List Int) (o : Og16) : Int := if o.2.2 = true then o.2.1 else (z.getD o.1.toNat 0 + o.2.1) % 256
end Go.Proofs.YtmfpdchfofffeaaGreatDoor
