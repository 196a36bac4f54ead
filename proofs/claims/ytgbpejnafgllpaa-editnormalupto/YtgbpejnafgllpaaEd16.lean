
import Derived.Test.YtgbpejnafgllpaaEd15
namespace Go.Proofs.Ytgbpejnafgllpaa
open Go.RowKit Go.Shelf
set_option linter.unusedVariables false

/-! The writer as mathematics. -/
def tk16 (s : Wt16) (o : Og16) : Option Wt16 :=
  if o.2.2 = true then some (s.own o.2.1)
  else if o.1 = s.p ∧ s.c = 0 then some (s.add o.2.1)
  else if -16777216 ≤ o.1 - s.p ∧ o.1 - s.p ≤ 16777216 then some ((s.seek o.1).add o.2.1) else none
def wz16 : Wt16 := ⟨[], [], [], 0, 0, 0⟩
def wr16 (O : List Og16) : Option Wt16 := O.foldlM tk16 wz16
theorem wr16_snoc {O : List Og16} {o : Og16} {s : Wt16} (h : wr16 O = some s) : wr16 (O ++ [o]) = tk16 s o := by
  unfold wr16 at *
  rw [List.foldlM_append, h]
  simp
theorem wr16_none {O P : List Og16} (h : wr16 O = none) : wr16 (O ++ P) = none := by
  unfold wr16 at *
  rw [List.foldlM_append, h]
  rfl
structure Bd16 (s : Wt16) (i : Nat) : Prop where
  a : s.a ≤ i
  c : s.c ≤ i
  S : s.S.length ≤ i
  D : s.D.length ≤ i
  X : s.X.length ≤ i
  p : -576460752303423489 ≤ s.p ∧ s.p ≤ 576460752303423489
theorem tk16_bd {s s' : Wt16} {o : Og16} {i : Nat} (h : tk16 s o = some s') (b : Bd16 s i) (ho : -576460752303423488 ≤ o.1 ∧ o.1 ≤ 576460752303423488) : Bd16 s' (i + 1) := by
  obtain ⟨b1, b2, b3, b4, b5, b6⟩ := b
  unfold tk16 at h
  split at h
  · obtain rfl := Option.some.inj h
    exact ⟨by show s.a ≤ i + 1; omega, by show s.c + 1 ≤ i + 1; omega, by show s.S.length ≤ i + 1; omega, by show s.D.length ≤ i + 1; omega, by show (s.X ++ [_]).length ≤ i + 1; simp; omega, b6⟩
  · split at h
    · rename_i h2
      obtain rfl := Option.some.inj h
      exact ⟨by show s.a + 1 ≤ i + 1; omega, by show s.c ≤ i + 1; omega, by show s.S.length ≤ i + 1; omega, by show (s.D ++ [_]).length ≤ i + 1; simp; omega, by show s.X.length ≤ i + 1; omega, by show _ ≤ s.p + 1 ∧ s.p + 1 ≤ _; rw [← h2.1]; omega⟩
    · split at h
      · obtain rfl := Option.some.inj h
        exact ⟨by show 0 + 1 ≤ i + 1; omega, by show 0 ≤ i + 1; omega, by show (s.S ++ [_]).length ≤ i + 1; simp; omega, by show (s.D ++ [_]).length ≤ i + 1; simp; omega, by show s.X.length ≤ i + 1; omega, by show _ ≤ o.1 + 1 ∧ o.1 + 1 ≤ _; omega⟩
      · cases h
variable {base bw : Nat} {vS vD vX : Value} {s : Wt16} {w : World}
/-- What take does. -/
def TkA16 (base bw : Nat) (vS vD vX : Value) (r : Option Wt16) (w : World) (e : Ending) (w' : World) : Prop :=
  match r with
  | some s' => TkQ16 base bw vS vD vX s' w e w'
  | none => e = .panicked pn16 ∧ Kp (Wf16 bw vS vD vX) w w'
theorem ptk16 {i : Nat} (o : Og16) (h : Wr16 base bw vS vD vX s 0 w) (b : Bd16 s i) (hi : i < 16777216) (ho : -576460752303423488 ≤ o.1 ∧ o.1 ≤ 576460752303423488) :
    Calls Try.prog 42 #[.pointer (some ⟨bw, 0, none⟩), ov16 o] w (TkA16 base bw vS vD vX (tk16 s o) w) := by
  obtain ⟨at_, v, own⟩ := o
  obtain ⟨b1, b2, b3, b4, b5, b6⟩ := b
  simp only at ho
  unfold ov16
  simp only
  cases own with
  | true =>
    have e : tk16 s (at_, v, true) = some (s.own v) := rfl
    rw [e]
    exact ptk_own16 at_ v h (by omega) (by omega)
  | false =>
    by_cases h1 : at_ = s.p
    · by_cases h2 : s.c = 0
      · have e : tk16 s (at_, v, false) = some (s.add v) := by unfold tk16; simp only [Bool.false_eq_true, if_false]; rw [if_pos ⟨h1, h2⟩]
        rw [e]
        exact ptk_add16 at_ v h h1 h2 (by omega) (by omega) (by omega)
      · have e : tk16 s (at_, v, false) = some ((s.seek at_).add v) := by unfold tk16; simp only [Bool.false_eq_true, if_false]; rw [if_neg (fun x => h2 x.2), if_pos (by omega)]
        rw [e]
        exact ptk_cp16 at_ v h h1 (by omega) (by omega) (by omega) (by omega) (by omega) (by omega) (by omega) (by omega)
    · by_cases h3 : -16777216 ≤ at_ - s.p ∧ at_ - s.p ≤ 16777216
      · have e : tk16 s (at_, v, false) = some ((s.seek at_).add v) := by unfold tk16; simp only [Bool.false_eq_true, if_false]; rw [if_neg (fun x => h1 x.1), if_pos h3]
        rw [e]
        exact ptk_at16 at_ v h h1 (by omega) (by omega) (by omega) (by omega) h3 (by omega) (by omega)
      · have e : tk16 s (at_, v, false) = none := by unfold tk16; simp only [Bool.false_eq_true, if_false]; rw [if_neg (fun x => h1 x.1), if_neg h3]
        rw [e]
        exact ptk_no16 at_ v h h1 (by omega) (by omega) (by omega) (by omega) h3 (by omega) (by omega)
end Go.Proofs.Ytgbpejnafgllpaa
