
import Derived.Test.YtfogknlinmchjaaFdM1
import Derived.Test.YtfogknlinmchjaaSuM3
namespace Go.Proofs.Ytfogknlinmchjaa
set_option linter.unusedVariables false

/-! Ranges of longer texts (layer 14), as mathematics. -/
theorem cq_cons14 (x y : Int) (X p : List Int) : cq14 (x :: X) (y :: p) = if x = y then cq14 X p else if x < y then -1 else 1 := by rw [cq14]
theorem cv_app14 : ∀ (X p : List Int) (c : Int), cv13 X (p ++ [c]) = if cv13 X p = 0 then cq14 (X.drop p.length) [c] else cv13 X p := by
  have h : ∀ (p X : List Int) (c : Int), cq14 X (p ++ [c]) = if cq14 X p = 0 then cq14 (X.drop p.length) [c] else cq14 X p := by
    intro p
    induction p with
    | nil => intro X c; cases X <;> simp [cq14]
    | cons y p ih =>
      intro X c
      cases X with
      | nil => simp [cq14]
      | cons x X =>
        rw [List.cons_append, List.length_cons, List.drop_succ_cons, cq_cons14, cq_cons14]
        by_cases e : x = y
        · rw [if_pos e, if_pos e]
          exact ih X c
        · rw [if_neg e, if_neg e]
          by_cases d : x < y
          · rw [if_pos d, if_neg (by omega)]
          · rw [if_neg d, if_neg (by omega)]
  intro X p c
  rw [cq14_is, cq14_is]
  exact h p X c
theorem cq_one14 (Y : List Int) (c : Int) : cq14 Y [c] = if Y.length = 0 then -1 else if Y.getD 0 0 = c then 0 else if Y.getD 0 0 < c then -1 else 1 := by
  cases Y with
  | nil => simp [cq14]
  | cons y Y => simp [cq14, List.getD]
theorem lo_app14 (z p : List Int) (c : Int) : lo14 z p ≤ lo14 z (p ++ [c]) := cn12_le fun j _ h => by rw [cv_app14, if_neg (by omega)]; exact h
theorem hi_app14 (z p : List Int) (c : Int) : hi14 z (p ++ [c]) ≤ hi14 z p := cn12_le fun j _ h => by
  by_cases e : cv13 (z.drop j) p = 0
  · omega
  · rw [cv_app14, if_neg e] at h; exact h
theorem apart14 (z p : List Int) {c d : Int} (hcd : c < d) : hi14 z (p ++ [c]) ≤ lo14 z (p ++ [d]) := cn12_le fun j _ h => by
  rw [cv_app14] at h ⊢
  by_cases e : cv13 (z.drop j) p = 0
  · rw [if_pos e, cq_one14] at h ⊢
    by_cases e1 : ((z.drop j).drop p.length).length = 0
    · rw [if_pos e1]; omega
    · rw [if_neg e1] at h ⊢
      by_cases e2 : ((z.drop j).drop p.length).getD 0 0 = c
      · rw [if_neg (by omega), if_pos (by omega)]; omega
      · rw [if_neg e2] at h
        by_cases e3 : ((z.drop j).drop p.length).getD 0 0 < c
        · rw [if_neg (by omega), if_pos (by omega)]; omega
        · rw [if_neg e3] at h; omega
  · rw [if_neg e] at h ⊢; omega
theorem span14 (z p : List Int) : hi14 z p = lo14 z p + cn12 (fun j => cv13 (z.drop j) p = 0) z.length := cn12_or (fun j _ => by omega) (fun j _ => by omega)
noncomputable def sc14 (z p : List Int) : Nat → Nat
  | 0 => 0
  | k + 1 => sc14 z p k + (hi14 z (p ++ [(k : Int)]) - lo14 z (p ++ [(k : Int)]))
theorem sc14_is {z p : List Int} (hz : ∀ y ∈ z, 0 ≤ y ∧ y ≤ 255) : ∀ k, sc14 z p k = cn12 (fun j => cv13 (z.drop j) p = 0 ∧ j + p.length < z.length ∧ z.getD (j + p.length) 0 < (k : Int)) z.length
  | 0 => by
    refine (cn12_none fun j _ h => ?_).symm
    have hb : 0 ≤ z.getD (j + p.length) 0 := by
      have := hz z[j + p.length] (List.getElem_mem h.2.1)
      simpa [List.getD, h.2.1] using this.1
    have := h.2.2
    omega
  | k + 1 => by
    show sc14 z p k + _ = _
    rw [sc14_is hz k, span14 z (p ++ [(k : Int)]), Nat.add_sub_cancel_left]
    refine (cn12_or (fun j hj => ?_) (fun j hj => ?_)).symm
    · have e : cv13 (z.drop j) (p ++ [(k : Int)]) = 0 ↔ (cv13 (z.drop j) p = 0 ∧ j + p.length < z.length ∧ z.getD (j + p.length) 0 = (k : Int)) := by
        rw [cv_app14]
        by_cases e : cv13 (z.drop j) p = 0
        · rw [if_pos e, cq_one14, List.drop_drop, List.length_drop]
          have g : (z.drop (j + p.length)).getD 0 0 = z.getD (j + p.length) 0 := by simp [List.getD]
          rw [g]
          by_cases e1 : z.length - (j + p.length) = 0
          · rw [if_pos e1]
            constructor
            · intro h; omega
            · rintro ⟨_, h, _⟩; omega
          · rw [if_neg e1]
            by_cases e2 : z.getD (j + p.length) 0 = (k : Int)
            · rw [if_pos e2]; exact ⟨fun _ => ⟨e, by omega, e2⟩, fun _ => rfl⟩
            · rw [if_neg e2]
              constructor
              · intro h; split at h <;> omega
              · rintro ⟨_, _, h⟩; exact absurd h e2
        · rw [if_neg e]
          exact ⟨fun h => absurd h e, fun h => h.1⟩
      rw [e]
      constructor
      · rintro ⟨h1, h2, h3⟩
        by_cases c : z.getD (j + p.length) 0 = (k : Int)
        · exact Or.inr ⟨h1, h2, c⟩
        · exact Or.inl ⟨h1, h2, by omega⟩
      · rintro (⟨h1, h2, h3⟩ | ⟨h1, h2, h3⟩)
        · exact ⟨h1, h2, by omega⟩
        · exact ⟨h1, h2, by omega⟩
    · rintro ⟨⟨h1, h2, h3⟩, h4⟩
      rw [cv_app14, if_pos h1, cq_one14, List.drop_drop, List.length_drop, if_neg (by omega)] at h4
      have g : (z.drop (j + p.length)).getD 0 0 = z.getD (j + p.length) 0 := by simp [List.getD]
      rw [g] at h4
      rw [if_neg (by omega)] at h4
      split at h4 <;> omega
theorem begin_len14 {X p : List Int} (h : cv13 X p = 0) : p.length ≤ X.length := by
  have h1 := cv13_zero_iff.1 h
  have h2 := lc13_le X p
  omega
theorem begin_eq14 {X p : List Int} (hl : X.length = p.length) : cv13 X p = 0 ↔ X = p := by
  constructor
  · intro h
    have h1 := cv13_zero_iff.1 h
    have h2 := lc13_take X p
    rw [h1, List.take_of_length_le (by omega), List.take_of_length_le (by omega)] at h2
    exact h2
  · intro h; subst h; exact cv13_zero (lc13_self X)
open Classical in
theorem sc14_all {z p : List Int} (hz : ∀ y ∈ z, 0 ≤ y ∧ y ≤ 255) : hi14 z p - lo14 z p = sc14 z p 256 + (if 0 < p.length ∧ p.length ≤ z.length ∧ z.drop (z.length - p.length) = p then 1 else 0) := by
  rw [span14, Nat.add_sub_cancel_left, sc14_is hz]
  have hb : ∀ j, z.getD j 0 < ((256 : Nat) : Int) := fun j => by
    by_cases c : j < z.length
    · have := hz z[j] (List.getElem_mem c)
      have e : z.getD j 0 = z[j] := by simp [List.getD, c]
      rw [e]; omega
    · have : z[j]? = none := List.getElem?_eq_none (by omega)
      simp [List.getD, this]
  have h1 : cn12 (fun j => cv13 (z.drop j) p = 0) z.length = cn12 (fun j => cv13 (z.drop j) p = 0 ∧ j + p.length < z.length ∧ z.getD (j + p.length) 0 < ((256 : Nat) : Int)) z.length + cn12 (fun j => cv13 (z.drop j) p = 0 ∧ ¬ j + p.length < z.length) z.length :=
    cn12_or (fun j _ => by
      constructor
      · intro h
        by_cases c : j + p.length < z.length
        · exact Or.inl ⟨h, c, hb _⟩
        · exact Or.inr ⟨h, c⟩
      · rintro (h | h)
        · exact h.1
        · exact h.1) (fun j _ h => h.2.2 h.1.2.1)
  rw [h1]
  congr 1
  by_cases c : 0 < p.length ∧ p.length ≤ z.length ∧ z.drop (z.length - p.length) = p
  · rw [if_pos c]
    rw [cn12_congr (Q := fun i => i = z.length - p.length) (fun j hj => ?_)]
    · exact cn12_one (by omega)
    · constructor
      · rintro ⟨k1, k2⟩
        have := begin_len14 k1
        rw [List.length_drop] at this
        omega
      · intro k
        subst k
        exact ⟨(begin_eq14 (by rw [List.length_drop]; omega)).2 c.2.2, by omega⟩
  · rw [if_neg c]
    refine cn12_none fun j hj ⟨k1, k2⟩ => c ?_
    have h3 := begin_len14 k1
    rw [List.length_drop] at h3
    have e : z.length - p.length = j := by omega
    refine ⟨by omega, by omega, ?_⟩
    rw [e]
    exact (begin_eq14 (by rw [List.length_drop]; omega)).1 k1
theorem sc14_bd {z p : List Int} (hz : ∀ y ∈ z, 0 ≤ y ∧ y ≤ 255) (k : Nat) : sc14 z p k ≤ z.length := by
  rw [sc14_is hz k]
  exact cn12_bd14 _ _
/-- A suffix begins with a text: as a part that is alike. -/
theorem begin_part14 {z p : List Int} {at_ : Nat} : cv13 (z.drop at_) p = 0 ↔ (p.length ≤ z.length - at_ ∧ (z.drop at_).take p.length = p) := by
  constructor
  · intro h
    have h1 := cv13_zero_iff.1 h
    have h2 := lc13_take (z.drop at_) p
    have h3 := begin_len14 h
    rw [List.length_drop] at h3
    rw [h1, List.take_of_length_le (l := p) (Nat.le_refl _)] at h2
    exact ⟨h3, h2⟩
  · rintro ⟨h1, h2⟩
    refine cv13_zero (Nat.le_antisymm (lc13_le' _ _) (lc13_ge ?_ (by rw [List.length_drop]; exact h1) (Nat.le_refl _)))
    rw [h2, List.take_of_length_le (Nat.le_refl _)]
end Go.Proofs.Ytfogknlinmchjaa
