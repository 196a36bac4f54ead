import Derived.Test.YtmfpdchfofffeaaGreatDoorSaM4
namespace Go.Proofs.YtmfpdchfofffeaaGreatDoor
set_option linter.unusedVariables false
structure Al12 (n : Nat) (S : Nat → Int) (sm : Nat → Bool) (x y i : Nat) : Prop where
  p : 0 < i → ((key12 n S sm x = key12 n S sm y ↔ tkey12 n S sm (x + i) = tkey12 n S sm (y + i)) ∧ sm (x + i - 1) = sm (y + i - 1))
theorem Al12.zero (n : Nat) (S : Nat → Int) (sm : Nat → Bool) (x y : Nat) : Al12 n S sm x y 0 := ⟨fun h => by omega⟩
theorem Al12.diff {n : Nat} {S : Nat → Int} {sm : Nat → Bool} {x y i : Nat} (h : Al12 n S sm x y i) (hx : x + i < n) (hy : y + i < n) (hd : ¬ (S (x + i) = S (y + i) ∧ sm (x + i) = sm (y + i))) : ¬ key12 n S sm x = key12 n S sm y := by
  have hc : ¬ cd12 S sm (x + i) = cd12 S sm (y + i) := fun e => hd (cd12_eq.1 e)
  by_cases h0 : i = 0
  · subst h0
    intro e
    unfold key12 at e
    exact hc (List.cons.inj e).1
  · rw [(h.p (by omega)).1]
    obtain ⟨a, ha⟩ := tkey12_head (S := S) (sm := sm) hx
    obtain ⟨b, hb⟩ := tkey12_head (S := S) (sm := sm) hy
    rw [ha, hb]
    intro e
    exact hc (List.cons.inj e).1
theorem Al12.turns {n : Nat} {S : Nat → Int} {sm : Nat → Bool} {x y i : Nat} (h : Al12 n S sm x y i) (hi : 0 < i) (he : sm (x + i) = sm (y + i)) : tn12 sm (x + i) ↔ tn12 sm (y + i) := by
  have := (h.p hi).2
  unfold tn12
  rw [he, this]
  constructor
  · rintro ⟨_, b, c⟩; exact ⟨by omega, b, c⟩
  · rintro ⟨_, b, c⟩; exact ⟨by omega, b, c⟩
theorem Al12.turn {n : Nat} {S : Nat → Int} {sm : Nat → Bool} {x y i : Nat} (h : Al12 n S sm x y i) (hi : 0 < i) (hx : x + i < n) (hy : y + i < n) (e1 : S (x + i) = S (y + i)) (e2 : sm (x + i) = sm (y + i)) (ht : tn12 sm (x + i)) : key12 n S sm x = key12 n S sm y := by
  rw [(h.p hi).1, tkey12_turn hx ht, tkey12_turn hy ((h.turns hi e2).1 ht), cd12_eq.2 ⟨e1, e2⟩]
theorem Al12.step {n : Nat} {S : Nat → Int} {sm : Nat → Bool} {x y i : Nat} (h : Al12 n S sm x y i) (hx : x + i < n) (hy : y + i < n) (e1 : S (x + i) = S (y + i)) (e2 : sm (x + i) = sm (y + i)) (ht : 0 < i → ¬ tn12 sm (x + i)) : Al12 n S sm x y (i + 1) := by
  refine ⟨fun _ => ⟨?_, e2⟩⟩
  have hcd := cd12_eq.2 ⟨e1, e2⟩
  by_cases h0 : i = 0
  · subst h0
    unfold key12
    simp only [Nat.add_zero] at hcd
    rw [hcd]
    simp
  · have ht1 := ht (by omega)
    have ht2 : ¬ tn12 sm (y + i) := fun k => ht1 ((h.turns (by omega) e2).2 k)
    rw [(h.p (by omega)).1, tkey12_on hx ht1, tkey12_on hy ht2]
    unfold key12
    rw [hcd]
    simp [Nat.add_assoc]
theorem Al12.fin {n : Nat} {S : Nat → Int} {sm : Nat → Bool} {x y i : Nat} (h : Al12 n S sm x y i) (hx : x < n) (hy : y < n) (hne : x ≠ y) (h1 : x + i ≤ n) (h2 : y + i ≤ n) (h3 : x + i = n ∨ y + i = n) : ¬ key12 n S sm x = key12 n S sm y := by
  rw [(h.p (by omega)).1]
  rcases h3 with h3 | h3
  · rw [tkey12_none (i := x + i) (by omega)]
    obtain ⟨b, hb⟩ := tkey12_head (n := n) (S := S) (sm := sm) (i := y + i) (by omega)
    rw [hb]
    exact fun e => by cases e
  · rw [tkey12_none (i := y + i) (by omega)]
    obtain ⟨b, hb⟩ := tkey12_head (n := n) (S := S) (sm := sm) (i := x + i) (by omega)
    rw [hb]
    exact fun e => by cases e
end Go.Proofs.YtmfpdchfofffeaaGreatDoor
