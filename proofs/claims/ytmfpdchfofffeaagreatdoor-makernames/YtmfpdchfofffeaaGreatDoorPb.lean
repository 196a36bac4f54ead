import Derived.Below
namespace Go.Proofs.YtmfpdchfofffeaaGreatDoor
set_option linter.unusedVariables false
open Classical in
noncomputable def cn12 (P : Nat → Prop) : Nat → Nat
  | 0 => 0
  | n + 1 => cn12 P n + (if P n then 1 else 0)
theorem cn12_le {P Q : Nat → Prop} : ∀ {n : Nat}, (∀ i, i < n → P i → Q i) → cn12 P n ≤ cn12 Q n
  | 0, _ => Nat.le_refl _
  | n + 1, h => by
    have ih := cn12_le (n := n) (fun i hi => h i (by omega))
    have hn := h n (by omega)
    unfold cn12
    by_cases hp : P n
    · simp [hp, hn hp]; omega
    · simp [hp]; omega
theorem cn12_congr {P Q : Nat → Prop} {n : Nat} (h : ∀ i, i < n → (P i ↔ Q i)) : cn12 P n = cn12 Q n :=
  Nat.le_antisymm (cn12_le fun i hi => (h i hi).1) (cn12_le fun i hi => (h i hi).2)
theorem cn12_or {P Q R : Nat → Prop} : ∀ {n : Nat}, (∀ i, i < n → (P i ↔ Q i ∨ R i)) → (∀ i, i < n → ¬ (Q i ∧ R i)) → cn12 P n = cn12 Q n + cn12 R n
  | 0, _, _ => rfl
  | n + 1, h, hd => by
    have ih := cn12_or (n := n) (fun i hi => h i (by omega)) (fun i hi => hd i (by omega))
    have h1 := h n (by omega)
    have h2 := hd n (by omega)
    unfold cn12
    by_cases hq : Q n
    · have hr : ¬ R n := fun hr => h2 ⟨hq, hr⟩
      have hp : P n := h1.2 (Or.inl hq)
      simp [hp, hq, hr]; omega
    · by_cases hr : R n
      · have hp : P n := h1.2 (Or.inr hr)
        simp [hp, hq, hr]; omega
      · have hp : ¬ P n := fun hp => by rcases h1.1 hp with h | h; exact hq h; exact hr h
        simp [hp, hq, hr]; omega
theorem cn12_none {P : Nat → Prop} : ∀ {n : Nat}, (∀ i, i < n → ¬ P i) → cn12 P n = 0
  | 0, _ => rfl
  | n + 1, h => by
    unfold cn12
    simp [h n (by omega), cn12_none (n := n) (fun i hi => h i (by omega))]
theorem cn12_one {j : Nat} : ∀ {n : Nat}, j < n → cn12 (fun i => i = j) n = 1
  | 0, h => by omega
  | n + 1, h => by
    unfold cn12
    by_cases e : n = j
    · subst e
      simp [cn12_none (P := fun i => i = n) (n := n) (fun i hi => by omega)]
    · simp [e, cn12_one (j := j) (n := n) (by omega)]
theorem cn12_all {P : Nat → Prop} : ∀ {n : Nat}, (∀ i, i < n → P i) → cn12 P n = n
  | 0, _ => rfl
  | n + 1, h => by
    unfold cn12
    simp [h n (by omega), cn12_all (n := n) (fun i hi => h i (by omega))]
theorem cn12_upd {P Q : Nat → Prop} {n j : Nat} (hj : j < n) (hp : ¬ P j) (h : ∀ i, i < n → (Q i ↔ P i ∨ i = j)) : cn12 Q n = cn12 P n + 1 := by
  have h1 : cn12 Q n = cn12 P n + cn12 (fun i => i = j) n := cn12_or h (fun i hi => by rintro ⟨a, rfl⟩; exact hp a)
  rw [h1, cn12_one hj]
theorem cn12_lt {P Q : Nat → Prop} {n j : Nat} (h : ∀ i, i < n → P i → Q i) (hj : j < n) (hp : ¬ P j) (hq : Q j) : cn12 P n < cn12 Q n := by
  have h1 : cn12 (fun i => P i ∨ i = j) n = cn12 P n + 1 := cn12_upd hj hp (fun i _ => Iff.rfl)
  have h2 : cn12 (fun i => P i ∨ i = j) n ≤ cn12 Q n := cn12_le (fun i hi hh => by rcases hh with hh | rfl; exact h i hi hh; exact hq)
  omega

noncomputable def bk12 (n : Nat) (s : Nat → Int) (v : Int) : Nat := cn12 (fun i => s i < v) n
noncomputable def tc12 (n : Nat) (s : Nat → Int) (T : Nat → Prop) (v : Int) : Nat := cn12 (fun i => T i ∧ s i = v) n
theorem bk12_mono {n : Nat} {s : Nat → Int} {u v : Int} (h : u ≤ v) : bk12 n s u ≤ bk12 n s v := cn12_le fun i _ hi => by omega
theorem bk12_le (n : Nat) (s : Nat → Int) (v : Int) : bk12 n s v ≤ n := by
  have h1 : cn12 (fun i => s i < v) n ≤ cn12 (fun _ => True) n := cn12_le fun _ _ _ => trivial
  rw [cn12_all (P := fun _ => True) (fun _ _ => trivial)] at h1
  exact h1
theorem bk12_succ (n : Nat) (s : Nat → Int) (T : Nat → Prop) (v : Int) : bk12 n s (v + 1) = bk12 n s v + tc12 n s T v + tc12 n s (fun i => ¬ T i) v := by
  have h1 : bk12 n s (v + 1) = bk12 n s v + cn12 (fun i => s i = v) n := cn12_or (fun i _ => by omega) (fun i _ => by omega)
  have h2 : cn12 (fun i => s i = v) n = tc12 n s T v + tc12 n s (fun i => ¬ T i) v :=
    cn12_or (fun i _ => ⟨fun h => by by_cases ht : T i; exact Or.inl ⟨ht, h⟩; exact Or.inr ⟨ht, h⟩, fun h => by rcases h with h | h; exact h.2; exact h.2⟩) (fun i _ => by rintro ⟨a, b⟩; exact b.1 a.1)
  omega
theorem bk12_one {n : Nat} {s : Nat → Int} {q : Nat} {u v : Int} (h1 : bk12 n s u ≤ q) (h2 : q < bk12 n s (u + 1)) (h3 : bk12 n s v ≤ q) (h4 : q < bk12 n s (v + 1)) : u = v := by
  rcases Int.lt_trichotomy u v with h | h | h
  · have := bk12_mono (n := n) (s := s) (show u + 1 ≤ v by omega); omega
  · exact h
  · have := bk12_mono (n := n) (s := s) (show v + 1 ≤ u by omega); omega

def In12 (n : Nat) (R : Nat → Int) (j : Nat) : Prop := ∃ q, q < n ∧ R q = (j : Int)
structure St12 (n : Nat) (s : Nat → Int) (T U : Nat → Prop) (R : Nat → Int) (h : Int → Int) : Prop where
  ok : ∀ q, q < n → R q = -1 ∨ ∃ j : Nat, j < n ∧ R q = (j : Int) ∧ bk12 n s (s j) ≤ q ∧ q < bk12 n s (s j + 1)
  inj : ∀ q q', q < n → q' < n → R q = R q' → 0 ≤ R q → q = q'
  hd : ∀ i, i < n → h (s i) = ((bk12 n s (s i) + cn12 (fun j => T j ∧ s j = s i ∧ In12 n R j) n : Nat) : Int)
  lo : ∀ q j : Nat, q < n → j < n → R q = (j : Int) → T j → (q : Int) < h (s j)
  hi : ∀ q j : Nat, q < n → j < n → R q = (j : Int) → ¬ T j → bk12 n s (s j) + tc12 n s T (s j) ≤ q
  fl : ∀ i q, i < n → q < n → bk12 n s (s i) ≤ q → (q : Int) < h (s i) → 0 ≤ R q
  oth : ∀ j, j < n → ¬ T j → (In12 n R j ↔ U j)
def pR12 (R : Nat → Int) (h : Int → Int) (s : Nat → Int) (j : Nat) : Nat → Int := fun q => if (q : Int) = h (s j) then (j : Int) else R q
def pH12 (h : Int → Int) (s : Nat → Int) (j : Nat) : Int → Int := fun v => if v = s j then h v + 1 else h v
theorem St12.congr {n : Nat} {s : Nat → Int} {T U : Nat → Prop} {R R' : Nat → Int} {h h' : Int → Int} (H : St12 n s T U R h) (hR : ∀ q, q < n → R' q = R q) (hh : ∀ i, i < n → h' (s i) = h (s i)) : St12 n s T U R' h' := by
  have hin : ∀ j, In12 n R' j ↔ In12 n R j := fun j => ⟨fun ⟨q, h1, h2⟩ => ⟨q, h1, by rw [← hR q h1]; exact h2⟩, fun ⟨q, h1, h2⟩ => ⟨q, h1, by rw [hR q h1]; exact h2⟩⟩
  refine ⟨fun q hq => ?_, fun q q' hq hq' e e0 => ?_, fun i hi => ?_, fun q j hq hj e ht => ?_, fun q j hq hj e ht => ?_, fun i q hi hq e1 e2 => ?_, fun j hj ht => ?_⟩
  · rw [hR q hq]; exact H.ok q hq
  · rw [hR q hq, hR q' hq'] at e; rw [hR q hq] at e0; exact H.inj q q' hq hq' e e0
  · rw [hh i hi, H.hd i hi, cn12_congr (Q := fun j => T j ∧ s j = s i ∧ In12 n R' j)]
    intro j _; rw [hin j]
  · rw [hR q hq] at e; rw [hh j hj]; exact H.lo q j hq hj e ht
  · rw [hR q hq] at e; exact H.hi q j hq hj e ht
  · rw [hh i hi] at e2; rw [hR q hq]; exact H.fl i q hi hq e1 e2
  · rw [hin j]; exact H.oth j hj ht
/-- The place that a suffix is put into lies in its bucket, and is empty. -/
theorem St12.place {n : Nat} {s : Nat → Int} {T U : Nat → Prop} {R : Nat → Int} {h : Int → Int} (H : St12 n s T U R h) {j : Nat} (hj : j < n) (ht : T j) (hn : ¬ In12 n R j) :
    ∃ P : Nat, h (s j) = (P : Int) ∧ bk12 n s (s j) ≤ P ∧ P < bk12 n s (s j) + tc12 n s T (s j) ∧ P < bk12 n s (s j + 1) ∧ P < n ∧ R P = -1 := by
  have e := H.hd j hj
  have hlt : cn12 (fun i => T i ∧ s i = s j ∧ In12 n R i) n < tc12 n s T (s j) :=
    cn12_lt (j := j) (fun i _ hh => ⟨hh.1, hh.2.1⟩) hj (fun hh => hn hh.2.2) ⟨ht, rfl⟩
  have hs := bk12_succ n s T (s j)
  have hb := bk12_le n s (s j + 1)
  refine ⟨_, e, by omega, by omega, by omega, by omega, ?_⟩
  generalize hP : bk12 n s (s j) + cn12 (fun i => T i ∧ s i = s j ∧ In12 n R i) n = P at e
  have hPn : P < n := by omega
  rcases H.ok P hPn with h0 | ⟨i, hi, h1, h2, h3⟩
  · exact h0
  · exfalso
    have ev : s i = s j := bk12_one h2 h3 (by omega) (by omega)
    by_cases hti : T i
    · have := H.lo P i hPn hi h1 hti
      rw [ev, e] at this
      omega
    · have := H.hi P i hPn hi h1 hti
      rw [ev] at this
      omega
theorem St12.put {n : Nat} {s : Nat → Int} {T U : Nat → Prop} {R : Nat → Int} {h : Int → Int} (H : St12 n s T U R h) {j : Nat} (hj : j < n) (ht : T j) (hn : ¬ In12 n R j) : St12 n s T U (pR12 R h s j) (pH12 h s j) := by
  obtain ⟨P, eP, hP1, hP2, hP3, hPn, hPe⟩ := H.place hj ht hn
  have rP : ∀ q : Nat, pR12 R h s j q = if q = P then (j : Int) else R q := by
    intro q; unfold pR12; rw [eP]
    by_cases e : q = P
    · simp [e]
    · have : ¬ (q : Int) = (P : Int) := by omega
      simp [e, this]
  have hin : ∀ i, In12 n (pR12 R h s j) i ↔ In12 n R i ∨ i = j := by
    intro i
    constructor
    · rintro ⟨q, hq, e⟩
      rw [rP] at e
      by_cases eq : q = P
      · rw [if_pos eq] at e; right; omega
      · rw [if_neg eq] at e; left; exact ⟨q, hq, e⟩
    · rintro (⟨q, hq, e⟩ | rfl)
      · refine ⟨q, hq, ?_⟩
        rw [rP, if_neg]
        · exact e
        · intro eq; rw [eq, hPe] at e; omega
      · exact ⟨P, hPn, by rw [rP, if_pos rfl]⟩
  refine ⟨fun q hq => ?_, fun q q' hq hq' e e0 => ?_, fun i hi => ?_, fun q i hq hi e hti => ?_, fun q i hq hi e hti => ?_, fun i q hi hq e1 e2 => ?_, fun i hi hti => ?_⟩
  · rw [rP]
    by_cases eq : q = P
    · rw [if_pos eq]; right; exact ⟨j, hj, rfl, by omega, by omega⟩
    · rw [if_neg eq]; exact H.ok q hq
  · rw [rP, rP] at e
    rw [rP] at e0
    by_cases eq : q = P
    · by_cases eq' : q' = P
      · omega
      · rw [if_pos eq, if_neg eq'] at e
        exact absurd ⟨q', hq', e.symm⟩ hn
    · by_cases eq' : q' = P
      · rw [if_neg eq, if_pos eq'] at e
        exact absurd ⟨q, hq, e⟩ hn
      · rw [if_neg eq, if_neg eq'] at e
        rw [if_neg eq] at e0
        exact H.inj q q' hq hq' e e0
  · unfold pH12
    rw [H.hd i hi]
    by_cases ev : s i = s j
    · rw [if_pos ev, cn12_upd (P := fun k => T k ∧ s k = s i ∧ In12 n R k) (Q := fun k => T k ∧ s k = s i ∧ In12 n (pR12 R h s j) k) hj (fun hh => hn hh.2.2) (fun k _ => ?_)]
      · omega
      · rw [hin k]
        constructor
        · rintro ⟨a, b, c | c⟩
          · exact Or.inl ⟨a, b, c⟩
          · exact Or.inr c
        · rintro (⟨a, b, c⟩ | rfl)
          · exact ⟨a, b, Or.inl c⟩
          · exact ⟨ht, ev.symm, Or.inr rfl⟩
    · rw [if_neg ev, cn12_congr (Q := fun k => T k ∧ s k = s i ∧ In12 n (pR12 R h s j) k) (fun k _ => ?_)]
      rw [hin k]
      constructor
      · rintro ⟨a, b, c⟩; exact ⟨a, b, Or.inl c⟩
      · rintro ⟨a, b, c | rfl⟩
        · exact ⟨a, b, c⟩
        · exact absurd b.symm ev
  · unfold pH12
    rw [rP] at e
    by_cases eq : q = P
    · rw [if_pos eq] at e
      have : i = j := by omega
      subst this
      rw [if_pos rfl]; omega
    · rw [if_neg eq] at e
      have := H.lo q i hq hi e hti
      by_cases ev : s i = s j
      · rw [if_pos ev]; omega
      · rw [if_neg ev]; exact this
  · rw [rP] at e
    by_cases eq : q = P
    · rw [if_pos eq] at e
      have : i = j := by omega
      subst this
      exact absurd ht hti
    · rw [if_neg eq] at e
      exact H.hi q i hq hi e hti
  · unfold pH12 at e2
    rw [rP]
    by_cases eq : q = P
    · rw [if_pos eq]; omega
    · rw [if_neg eq]
      by_cases ev : s i = s j
      · rw [if_pos ev] at e2
        refine H.fl i q hi hq e1 ?_
        rw [ev] at e2 ⊢; omega
      · rw [if_neg ev] at e2
        exact H.fl i q hi hq e1 e2
  · rw [hin i]
    constructor
    · rintro (hh | rfl)
      · exact (H.oth i hi hti).1 hh
      · exact absurd ht hti
    · intro hu; exact Or.inl ((H.oth i hi hti).2 hu)

structure Fr12 (n : Nat) (s : Nat → Int) (T U D : Nat → Prop) (le : Nat → Nat → Prop) : Prop where
  dn : ∀ j, j + 1 < n → T j → s (j + 1) ≤ s j
  sm : ∀ j, j + 1 < n → T j → s (j + 1) = s j → T (j + 1)
  nx : ∀ j, j < n → T j → D j ∨ (j + 1 < n ∧ (T (j + 1) ∨ U (j + 1)))
  nd : ∀ j, D j → ¬ j + 1 < n
  l1 : ∀ i j, i < n → j < n → s i < s j → le i j
  l2 : ∀ i j, i < n → j < n → s i = s j → T i → ¬ T j → le i j
  l3 : ∀ i j, i + 1 < n → j + 1 < n → s i = s j → T i → T j → le (i + 1) (j + 1) → le i j
  l4 : ∀ i j, i < n → j + 1 < n → s i = s j → T i → T j → D i → le i j
structure Pg12 (n : Nat) (s : Nat → Int) (T U D : Nat → Prop) (le : Nat → Nat → Prop) (p : Nat) (R : Nat → Int) (h : Int → Int) : Prop where
  st : St12 n s T U R h
  who : ∀ j, j < n → T j → (In12 n R j ↔ D j ∨ ∃ q, q < p ∧ q < n ∧ R q = ((j + 1 : Nat) : Int))
  so : ∀ q q' i j : Nat, q < q' → q' < n → i < n → j < n → R q = (i : Int) → R q' = (j : Int) → le i j
theorem Pg12.congr {n : Nat} {s : Nat → Int} {T U D : Nat → Prop} {le : Nat → Nat → Prop} {p : Nat} {R R' : Nat → Int} {h h' : Int → Int} (H : Pg12 n s T U D le p R h) (hR : ∀ q, q < n → R' q = R q) (hh : ∀ i, i < n → h' (s i) = h (s i)) : Pg12 n s T U D le p R' h' := by
  refine ⟨H.st.congr hR hh, fun j hj ht => ?_, fun q q' i j a b c d e f => ?_⟩
  · have hin : In12 n R' j ↔ In12 n R j := ⟨fun ⟨q, h1, h2⟩ => ⟨q, h1, by rw [← hR q h1]; exact h2⟩, fun ⟨q, h1, h2⟩ => ⟨q, h1, by rw [hR q h1]; exact h2⟩⟩
    rw [hin, H.who j hj ht]
    constructor
    · rintro (a | ⟨q, a, b, c⟩)
      · exact Or.inl a
      · exact Or.inr ⟨q, a, b, by rw [hR q b]; exact c⟩
    · rintro (a | ⟨q, a, b, c⟩)
      · exact Or.inl a
      · exact Or.inr ⟨q, a, b, by rw [← hR q b]; exact c⟩
  · rw [hR q (by omega)] at e; rw [hR q' b] at f
    exact H.so q q' i j a b c d e f
/-- What is put in stands rightly to all that is there. -/
theorem St12.so_put {n : Nat} {s : Nat → Int} {T U : Nat → Prop} {le : Nat → Nat → Prop} {R : Nat → Int} {h : Int → Int} (l1 : ∀ i j, i < n → j < n → s i < s j → le i j) (l2 : ∀ i j, i < n → j < n → s i = s j → T i → ¬ T j → le i j) (H : St12 n s T U R h)
    (so : ∀ q q' i j : Nat, q < q' → q' < n → i < n → j < n → R q = (i : Int) → R q' = (j : Int) → le i j) {j : Nat} (hj : j < n) (ht : T j) (hn : ¬ In12 n R j)
    (hle : ∀ i, i < n → T i → s i = s j → In12 n R i → le i j) :
    ∀ q q' i k : Nat, q < q' → q' < n → i < n → k < n → pR12 R h s j q = (i : Int) → pR12 R h s j q' = (k : Int) → le i k := by
  obtain ⟨P, eP, hP1, hP2, hP3, hPn, hPe⟩ := H.place hj ht hn
  have rP : ∀ q : Nat, pR12 R h s j q = if q = P then (j : Int) else R q := by
    intro q; unfold pR12; rw [eP]
    by_cases e : q = P
    · simp [e]
    · have : ¬ (q : Int) = (P : Int) := by omega
      simp [e, this]
  intro q q' i k a b hi hk e1 e2
  rw [rP] at e1 e2
  by_cases eq : q = P
  · have eq' : ¬ q' = P := by omega
    rw [if_pos eq] at e1; rw [if_neg eq'] at e2
    obtain rfl : j = i := by omega
    rcases H.ok q' b with h0 | ⟨k', _, h1, h2, h3⟩
    · omega
    · obtain rfl : k' = k := by omega
      by_cases ev : s k' = s j
      · refine l2 j k' hj hk ev.symm ht ?_
        intro htk
        have := H.lo q' k' b hk h1 htk
        rw [ev, eP] at this; omega
      · refine l1 j k' hj hk ?_
        rcases Int.lt_trichotomy (s k') (s j) with h | h | h
        · have := bk12_mono (n := n) (s := s) (show s k' + 1 ≤ s j by omega); omega
        · exact absurd h ev
        · exact h
  · rw [if_neg eq] at e1
    by_cases eq' : q' = P
    · rw [if_pos eq'] at e2
      obtain rfl : j = k := by omega
      rcases H.ok q (by omega) with h0 | ⟨i', _, h1, h2, h3⟩
      · omega
      · obtain rfl : i' = i := by omega
        by_cases ev : s i' = s j
        · by_cases hti : T i'
          · exact hle i' hi hti ev ⟨q, by omega, h1⟩
          · have := H.hi q i' (by omega) hi h1 hti
            rw [ev] at this; omega
        · refine l1 i' j hi hj ?_
          rcases Int.lt_trichotomy (s i') (s j) with h | h | h
          · exact h
          · exact absurd h ev
          · have := bk12_mono (n := n) (s := s) (show s j + 1 ≤ s i' by omega); omega
    · rw [if_neg eq'] at e2
      exact so q q' i k a b hi hk e1 e2
/-- One place more, where nothing is put. -/
theorem Pg12.skip {n : Nat} {s : Nat → Int} {T U D : Nat → Prop} {le : Nat → Nat → Prop} {p : Nat} {R : Nat → Int} {h : Int → Int} (H : Pg12 n s T U D le p R h) (hno : ∀ j : Nat, R p = ((j + 1 : Nat) : Int) → j < n → T j → False) : Pg12 n s T U D le (p + 1) R h := by
  refine ⟨H.st, fun j hj ht => ?_, H.so⟩
  rw [H.who j hj ht]
  constructor
  · rintro (a | ⟨q, a, b, c⟩)
    · exact Or.inl a
    · exact Or.inr ⟨q, by omega, b, c⟩
  · rintro (a | ⟨q, a, b, c⟩)
    · exact Or.inl a
    · by_cases e : q = p
      · subst e; exact (hno j c hj ht).elim
      · exact Or.inr ⟨q, by omega, b, c⟩
theorem Pg12.new {n : Nat} {s : Nat → Int} {T U D : Nat → Prop} {le : Nat → Nat → Prop} {p : Nat} {R : Nat → Int} {h : Int → Int} (F : Fr12 n s T U D le) (H : Pg12 n s T U D le p R h) (hp : p < n) {j : Nat} (hj : j < n) (e : R p = ((j + 1 : Nat) : Int)) (ht : T j) : j + 1 < n ∧ ¬ In12 n R j := by
  have h1 : j + 1 < n := by
    rcases H.st.ok p hp with h0 | ⟨k, hk, h1, _⟩ <;> omega
  refine ⟨h1, fun hin => ?_⟩
  rcases (H.who j hj ht).1 hin with hd | ⟨q, a, b, c⟩
  · exact F.nd j hd h1
  · have := H.st.inj q p b hp (by rw [c, e]) (by omega)
    omega
/-- One place more, where a suffix leads to another one. -/
theorem Pg12.step {n : Nat} {s : Nat → Int} {T U D : Nat → Prop} {le : Nat → Nat → Prop} {p : Nat} {R : Nat → Int} {h : Int → Int} (F : Fr12 n s T U D le) (H : Pg12 n s T U D le p R h) (hp : p < n) {j : Nat} (hj : j < n) (e : R p = ((j + 1 : Nat) : Int)) (ht : T j) :
    (p : Int) < h (s j) ∧ Pg12 n s T U D le (p + 1) (pR12 R h s j) (pH12 h s j) := by
  obtain ⟨h1, hn⟩ := H.new F hp hj e ht
  obtain ⟨P, eP, hP1, hP2, hP3, hPn, hPe⟩ := H.st.place hj ht hn
  have hlt : p < P := by
    rcases H.st.ok p hp with h0 | ⟨k, hk, hk1, hk2, hk3⟩
    · omega
    · obtain rfl : k = j + 1 := by omega
      have d := F.dn j h1 ht
      by_cases ev : s (j + 1) = s j
      · have := H.st.lo p (j + 1) hp hk hk1 (F.sm j h1 ht ev)
        rw [ev, eP] at this; omega
      · have := bk12_mono (n := n) (s := s) (show s (j + 1) + 1 ≤ s j by omega); omega
  have rP : ∀ q : Nat, pR12 R h s j q = if q = P then (j : Int) else R q := by
    intro q; unfold pR12; rw [eP]
    by_cases e : q = P
    · simp [e]
    · have : ¬ (q : Int) = (P : Int) := by omega
      simp [e, this]
  refine ⟨by rw [eP]; omega, H.st.put hj ht hn, fun i hi hti => ?_, ?_⟩
  · have hin : In12 n (pR12 R h s j) i ↔ In12 n R i ∨ i = j := by
      constructor
      · rintro ⟨q, hq, e⟩
        rw [rP] at e
        by_cases eq : q = P
        · rw [if_pos eq] at e; right; omega
        · rw [if_neg eq] at e; left; exact ⟨q, hq, e⟩
      · rintro (⟨q, hq, e⟩ | rfl)
        · refine ⟨q, hq, ?_⟩
          rw [rP, if_neg]
          · exact e
          · intro eq; rw [eq, hPe] at e; omega
        · exact ⟨P, hPn, by rw [rP, if_pos rfl]⟩
    rw [hin, H.who i hi hti]
    constructor
    · rintro ((a | ⟨q, a, b, c⟩) | rfl)
      · exact Or.inl a
      · exact Or.inr ⟨q, by omega, b, by rw [rP, if_neg (by omega)]; exact c⟩
      · exact Or.inr ⟨p, by omega, hp, by rw [rP, if_neg (by omega)]; exact e⟩
    · rintro (a | ⟨q, a, b, c⟩)
      · exact Or.inl (Or.inl a)
      · rw [rP, if_neg (by omega)] at c
        by_cases eq : q = p
        · subst eq; right; omega
        · exact Or.inl (Or.inr ⟨q, by omega, b, c⟩)
  · refine St12.so_put F.l1 F.l2 H.st H.so hj ht hn ?_
    intro i hi hti ev hin
    rcases (H.who i hi hti).1 hin with hd | ⟨q, a, b, c⟩
    · exact F.l4 i j hi h1 ev hti ht hd
    · have hi1 : i + 1 < n := by
        rcases H.st.ok q b with h0 | ⟨k, hk, hk1, _⟩ <;> omega
      exact F.l3 i j hi1 h1 ev hti ht (H.so q p (i + 1) (j + 1) a hp hi1 h1 c e)
/-- Behind the pass all of them are there. -/
theorem Pg12.all {n : Nat} {s : Nat → Int} {T U D : Nat → Prop} {le : Nat → Nat → Prop} {R : Nat → Int} {h : Int → Int} (F : Fr12 n s T U D le) (H : Pg12 n s T U D le n R h) : ∀ (d j : Nat), j < n → n ≤ j + d → T j → In12 n R j
  | 0, j, hj, hd, _ => by omega
  | d + 1, j, hj, hd, ht => by
    rw [H.who j hj ht]
    rcases F.nx j hj ht with h1 | ⟨h1, h2⟩
    · exact Or.inl h1
    · have hin : In12 n R (j + 1) := by
        by_cases ht1 : T (j + 1)
        · exact H.all F d (j + 1) h1 (by omega) ht1
        · rcases h2 with h2 | h2
          · exact absurd h2 ht1
          · exact (H.st.oth (j + 1) h1 ht1).2 h2
      obtain ⟨q, hq, e⟩ := hin
      exact Or.inr ⟨q, hq, hq, e⟩
/-- Behind the pass the place that is next stands behind all of them. -/
theorem Pg12.full {n : Nat} {s : Nat → Int} {T U D : Nat → Prop} {le : Nat → Nat → Prop} {R : Nat → Int} {h : Int → Int} (F : Fr12 n s T U D le) (H : Pg12 n s T U D le n R h) {i : Nat} (hi : i < n) : h (s i) = ((bk12 n s (s i) + tc12 n s T (s i) : Nat) : Int) := by
  rw [H.st.hd i hi]
  unfold tc12
  rw [cn12_congr (P := fun j => T j ∧ s j = s i ∧ In12 n R j) (Q := fun j => T j ∧ s j = s i)]
  intro j hj
  exact ⟨fun a => ⟨a.1, a.2.1⟩, fun a => ⟨a.1, a.2, H.all F (n - j) j hj (by omega) a.1⟩⟩
/-- A first one: nothing of its kind is there yet. -/
theorem Pg12.first {n : Nat} {s : Nat → Int} {T U D : Nat → Prop} {le : Nat → Nat → Prop} {R : Nat → Int} {h : Int → Int} (F : Fr12 n s T U D le) (H : St12 n s T U R h) (hno : ∀ j, j < n → T j → ¬ In12 n R j) {j : Nat} (hj : j < n) (ht : T j) (hD : ∀ i, i < n → T i → (D i ↔ i = j))
    (so : ∀ q q' i j : Nat, q < q' → q' < n → i < n → j < n → R q = (i : Int) → R q' = (j : Int) → le i j) : Pg12 n s T U D le 0 (pR12 R h s j) (pH12 h s j) := by
  have hn := hno j hj ht
  obtain ⟨P, eP, hP1, hP2, hP3, hPn, hPe⟩ := H.place hj ht hn
  refine ⟨H.put hj ht hn, fun i hi hti => ?_, St12.so_put F.l1 F.l2 H so hj ht hn (fun i hi hti _ hin => absurd hin (hno i hi hti))⟩
  constructor
  · rintro ⟨q, hq, e⟩
    left
    rw [hD i hi hti]
    unfold pR12 at e
    by_cases eq : (q : Int) = h (s j)
    · rw [if_pos eq] at e; omega
    · rw [if_neg eq] at e; exact absurd ⟨q, hq, e⟩ (hno i hi hti)
  · rintro (a | ⟨q, a, _⟩)
    · rw [hD i hi hti] at a
      subst a
      exact ⟨P, hPn, by unfold pR12; rw [if_pos eP.symm]⟩
    · omega
theorem Pg12.none {n : Nat} {s : Nat → Int} {T U D : Nat → Prop} {le : Nat → Nat → Prop} {R : Nat → Int} {h : Int → Int} (H : St12 n s T U R h) (hno : ∀ j, j < n → T j → ¬ In12 n R j) (hD : ∀ i, i < n → T i → ¬ D i)
    (so : ∀ q q' i j : Nat, q < q' → q' < n → i < n → j < n → R q = (i : Int) → R q' = (j : Int) → le i j) : Pg12 n s T U D le 0 R h := by
  refine ⟨H, fun i hi hti => ⟨fun a => absurd a (hno i hi hti), ?_⟩, so⟩
  rintro (a | ⟨q, a, _⟩)
  · exact absurd a (hD i hi hti)
  · omega
end Go.Proofs.YtmfpdchfofffeaaGreatDoor

namespace Go.Proofs.YtmfpdchfofffeaaGreatDoor
set_option linter.unusedVariables false
structure Ty12 (n : Nat) (S : Nat → Int) (sm : Nat → Bool) : Prop where
  rc : ∀ i, i + 1 < n → sm i = (decide (S i < S (i + 1)) || (decide (S i = S (i + 1)) && sm (i + 1)))
  last : ∀ i, ¬ i + 1 < n → sm i = false
inductive Ls12 (n : Nat) (S : Nat → Int) : Nat → Nat → Prop
  | fin {i j : Nat} : ¬ i < n → j < n → Ls12 n S i j
  | lt {i j : Nat} : i < n → j < n → S i < S j → Ls12 n S i j
  | eq {i j : Nat} : i < n → j < n → S i = S j → Ls12 n S (i + 1) (j + 1) → Ls12 n S i j
theorem Ls12.asymm {n : Nat} {S : Nat → Int} {i j : Nat} (h : Ls12 n S i j) : Ls12 n S j i → False := by
  induction h with
  | fin a b => intro k; cases k with
    | fin c d => exact a d
    | lt c d _ => exact a d
    | eq c d _ _ => exact a d
  | lt a b c => intro k; cases k with
    | fin d _ => exact d b
    | lt _ _ d => omega
    | eq _ _ d _ => omega
  | eq a b c d ih => intro k; cases k with
    | fin e _ => exact e b
    | lt _ _ e => omega
    | eq _ _ _ e => exact ih e
theorem Ls12.irrefl {n : Nat} {S : Nat → Int} {i : Nat} (h : Ls12 n S i i) : False := h.asymm h
theorem Ls12.trans {n : Nat} {S : Nat → Int} {i j : Nat} (h : Ls12 n S i j) : ∀ {k}, Ls12 n S j k → Ls12 n S i k := by
  induction h with
  | fin a b => intro k h; cases h with
    | fin c d => exact absurd b c
    | lt c d _ => exact .fin a d
    | eq c d _ _ => exact .fin a d
  | lt a b c => intro k h; cases h with
    | fin d _ => exact absurd b d
    | lt _ f d => exact .lt a f (by omega)
    | eq _ f d _ => exact .lt a f (by omega)
  | eq a b c d ih => intro k h; cases h with
    | fin e _ => exact absurd b e
    | lt _ f e => exact .lt a f (by omega)
    | eq _ f e g => exact .eq a f (by omega) (ih g)
theorem Ls12.tail {n : Nat} {S : Nat → Int} {i j : Nat} (h : Ls12 n S i j) (hi : i < n) (e : S i = S j) : Ls12 n S (i + 1) (j + 1) := by
  cases h with
  | fin a _ => exact absurd hi a
  | lt _ _ k => omega
  | eq _ _ _ k => exact k
theorem Ls12.skip {n : Nat} {S : Nat → Int} {i j : Nat} : ∀ {d : Nat}, (∀ m, m < d → i + m < n ∧ j + m < n ∧ S (i + m) = S (j + m)) → (Ls12 n S (i + d) (j + d) ↔ Ls12 n S i j)
  | 0, _ => Iff.rfl
  | d + 1, h => by
    rw [← Ls12.skip (d := d) (fun m hm => h m (by omega))]
    obtain ⟨h1, h2, h3⟩ := h d (by omega)
    constructor
    · intro k; exact .eq h1 h2 h3 k
    · intro k; exact k.tail h1 h3
/-- With one number ahead what is not small is less than what is. -/
theorem Ty12.less {n : Nat} {S : Nat → Int} {sm : Nat → Bool} (H : Ty12 n S sm) : ∀ (d i j : Nat), n ≤ i + d → i < n → j < n → S i = S j → sm i = false → sm j = true → Ls12 n S i j
  | 0, i, j, h, hi, _, _, _, _ => by omega
  | d + 1, i, j, h, hi, hj, e, h1, h2 => by
    have hj1 : j + 1 < n := by
      rcases Nat.lt_or_ge (j + 1) n with k | k
      · exact k
      · rw [H.last j (by omega)] at h2; cases h2
    refine .eq hi hj e ?_
    by_cases hi1 : i + 1 < n
    · rw [H.rc i hi1] at h1
      rw [H.rc j hj1] at h2
      simp only [Bool.or_eq_false_iff, decide_eq_false_iff_not, Bool.and_eq_false_imp, decide_eq_true_eq, Bool.or_eq_true, Bool.and_eq_true] at h1 h2
      obtain ⟨a, b⟩ := h1
      by_cases c : S (i + 1) < S (j + 1)
      · exact .lt hi1 hj1 c
      · rcases h2 with h2 | ⟨h2, h3⟩
        · omega
        · have e1 : S i = S (i + 1) := by omega
          exact H.less d (i + 1) (j + 1) (by omega) hi1 hj1 (by omega) (b e1) h3
    · exact .fin hi1 hj1
def tn12 (sm : Nat → Bool) (i : Nat) : Prop := 0 < i ∧ sm i = true ∧ sm (i - 1) = false
theorem Ty12.great {n : Nat} {S : Nat → Int} {sm : Nat → Bool} (H : Ty12 n S sm) {j : Nat} (hj : j + 1 < n) (h : sm j = false) : S (j + 1) ≤ S j ∧ (S (j + 1) = S j → sm (j + 1) = false) := by
  rw [H.rc j hj] at h
  simp only [Bool.or_eq_false_iff, decide_eq_false_iff_not, Bool.and_eq_false_imp, decide_eq_true_eq] at h
  exact ⟨by omega, fun e => h.2 e.symm⟩
theorem Ty12.small {n : Nat} {S : Nat → Int} {sm : Nat → Bool} (H : Ty12 n S sm) {j : Nat} (h : sm j = true) : j + 1 < n ∧ S j ≤ S (j + 1) ∧ (S (j + 1) = S j → sm (j + 1) = true) := by
  have hj1 : j + 1 < n := by
    rcases Nat.lt_or_ge (j + 1) n with k | k
    · exact k
    · rw [H.last j (by omega)] at h; cases h
  rw [H.rc j hj1] at h
  simp only [Bool.or_eq_true, decide_eq_true_eq, Bool.and_eq_true] at h
  refine ⟨hj1, by omega, fun e => ?_⟩
  rcases h with h | h
  · omega
  · exact h.2
def D12 (n : Nat) (j : Nat) : Prop := ¬ j + 1 < n
theorem Ty12.fr2 {n : Nat} {S : Nat → Int} {sm : Nat → Bool} (H : Ty12 n S sm) {le : Nat → Nat → Prop}
    (l1 : ∀ i j, i < n → j < n → S i < S j → le i j) (l2 : ∀ i j, i < n → j < n → S i = S j → sm i = false → sm j = true → le i j)
    (l3 : ∀ i j, i + 1 < n → j + 1 < n → S i = S j → sm i = false → sm j = false → le (i + 1) (j + 1) → le i j) (l4 : ∀ i j, i < n → j + 1 < n → S i = S j → sm i = false → sm j = false → ¬ i + 1 < n → le i j) :
    Fr12 n S (fun i => sm i = false) (tn12 sm) (D12 n) le where
  dn := fun j hj h => (H.great hj h).1
  sm := fun j hj h e => (H.great hj h).2 e
  nx := fun j hj h => by
    by_cases h1 : j + 1 < n
    · refine Or.inr ⟨h1, ?_⟩
      by_cases h2 : sm (j + 1) = false
      · exact Or.inl h2
      · exact Or.inr ⟨by omega, by simpa using h2, by simpa using h⟩
    · exact Or.inl h1
  nd := fun j h => h
  l1 := l1
  l2 := fun i j hi hj e h1 h2 => l2 i j hi hj e h1 (by simpa using h2)
  l3 := l3
  l4 := fun i j hi hj e h1 h2 h3 => l4 i j hi hj e h1 h2 h3
theorem Ty12.fr3 {n : Nat} {S : Nat → Int} {sm : Nat → Bool} (H : Ty12 n S sm) {le : Nat → Nat → Prop}
    (l1 : ∀ i j, i < n → j < n → S i < S j → le i j) (l2 : ∀ i j, i < n → j < n → S i = S j → sm i = false → sm j = true → le i j)
    (l3 : ∀ i j, i + 1 < n → j + 1 < n → S i = S j → sm i = true → sm j = true → le (i + 1) (j + 1) → le i j) :
    Fr12 n (fun i => - S i) (fun i => sm i = true) (fun i => sm i = false) (fun _ => False) (fun i j => le j i) where
  dn := fun j hj h => by have := (H.small h).2.1; omega
  sm := fun j hj h e => (H.small h).2.2 (by omega)
  nx := fun j hj h => by
    refine Or.inr ⟨(H.small h).1, ?_⟩
    by_cases h2 : sm (j + 1) = false
    · exact Or.inr h2
    · exact Or.inl (by simpa using h2)
  nd := fun j h => h.elim
  l1 := fun i j hi hj e => l1 j i hj hi (by omega)
  l2 := fun i j hi hj e h1 h2 => l2 j i hj hi (by omega) (by simpa using h2) h1
  l3 := fun i j hi hj e h1 h2 h3 => l3 j i hj hi (by omega) h2 h1 h3
  l4 := fun i j hi hj e h1 h2 h3 => h3.elim
inductive LL12 : List Int → List Int → Prop
  | nil {y : Int} {b : List Int} : LL12 [] (y :: b)
  | lt {x y : Int} {a b : List Int} : x < y → LL12 (x :: a) (y :: b)
  | eq {x : Int} {a b : List Int} : LL12 a b → LL12 (x :: a) (x :: b)
theorem LL12.asymm {a b : List Int} (h : LL12 a b) : LL12 b a → False := by
  induction h with
  | nil => intro k; cases k
  | lt e => intro k; cases k with
    | lt f => omega
    | eq _ => omega
  | eq e ih => intro k; cases k with
    | lt f => omega
    | eq f => exact ih f
theorem LL12.irrefl {a : List Int} (h : LL12 a a) : False := h.asymm h
theorem LL12.trans {a b : List Int} (h : LL12 a b) : ∀ {c}, LL12 b c → LL12 a c := by
  induction h with
  | nil => intro c k; cases k with
    | lt _ => exact .nil
    | eq _ => exact .nil
  | lt e => intro c k; cases k with
    | lt f => exact .lt (by omega)
    | eq _ => exact .lt e
  | eq e ih => intro c k; cases k with
    | lt f => exact .lt f
    | eq f => exact .eq (ih f)
theorem LL12.inv {x y : Int} {a b : List Int} (h : LL12 (x :: a) (y :: b)) : x < y ∨ (x = y ∧ LL12 a b) := by
  cases h with
  | lt e => exact Or.inl e
  | eq e => exact Or.inr ⟨rfl, e⟩
theorem LL12.no {a : List Int} (h : LL12 a []) : False := by
  generalize e : ([] : List Int) = b at h
  cases h <;> cases e
def LE12 (a b : List Int) : Prop := a = b ∨ LL12 a b
theorem LE12.cons {x : Int} {a b : List Int} (h : LE12 a b) : LE12 (x :: a) (x :: b) := by
  rcases h with rfl | h
  · exact Or.inl rfl
  · exact Or.inr (.eq h)
theorem LE12.nil (a : List Int) : LE12 [] a := by
  cases a with
  | nil => exact Or.inl rfl
  | cons x a => exact Or.inr .nil
theorem LE12.trans {a b c : List Int} (h : LE12 a b) (k : LE12 b c) : LE12 a c := by
  rcases h with rfl | h
  · exact k
  · rcases k with rfl | k
    · exact Or.inr h
    · exact Or.inr (h.trans k)
def cd12 (S : Nat → Int) (sm : Nat → Bool) (i : Nat) : Int := 2 * S i + (if sm i = true then 1 else 0)
open Classical in
noncomputable def tk12 (n : Nat) (S : Nat → Int) (sm : Nat → Bool) : Nat → Nat → List Int
  | 0, _ => []
  | f + 1, i => if i < n then cd12 S sm i :: (if tn12 sm i then [] else tk12 n S sm f (i + 1)) else []
theorem tk12_more {n : Nat} {S : Nat → Int} {sm : Nat → Bool} : ∀ (f g i : Nat), n ≤ i + f → n ≤ i + g → tk12 n S sm f i = tk12 n S sm g i
  | 0, 0, i, _, _ => rfl
  | 0, g + 1, i, h, _ => by unfold tk12; rw [if_neg (by omega)]
  | f + 1, 0, i, _, h => by unfold tk12; rw [if_neg (by omega)]
  | f + 1, g + 1, i, h, k => by unfold tk12; rw [tk12_more f g (i + 1) (by omega) (by omega)]
noncomputable def tkey12 (n : Nat) (S : Nat → Int) (sm : Nat → Bool) (i : Nat) : List Int := tk12 n S sm n i
noncomputable def key12 (n : Nat) (S : Nat → Int) (sm : Nat → Bool) (i : Nat) : List Int := cd12 S sm i :: tkey12 n S sm (i + 1)
theorem tkey12_none {n : Nat} {S : Nat → Int} {sm : Nat → Bool} {i : Nat} (h : ¬ i < n) : tkey12 n S sm i = [] := by
  unfold tkey12
  cases n with
  | zero => rfl
  | succ n => unfold tk12; rw [if_neg h]
theorem tkey12_turn {n : Nat} {S : Nat → Int} {sm : Nat → Bool} {i : Nat} (h : i < n) (ht : tn12 sm i) : tkey12 n S sm i = [cd12 S sm i] := by
  unfold tkey12
  cases n with
  | zero => omega
  | succ n => unfold tk12; rw [if_pos h, if_pos ht]
theorem tkey12_on {n : Nat} {S : Nat → Int} {sm : Nat → Bool} {i : Nat} (h : i < n) (ht : ¬ tn12 sm i) : tkey12 n S sm i = key12 n S sm i := by
  have hk : tk12 n S sm n (i + 1) = tk12 n S sm (n - 1) (i + 1) := tk12_more n (n - 1) (i + 1) (by omega) (by omega)
  unfold tkey12 key12 tkey12
  rw [hk]
  cases n with
  | zero => omega
  | succ m => rw [tk12, if_pos h, if_neg ht]; rfl
theorem cd12_eq {S : Nat → Int} {sm : Nat → Bool} {i j : Nat} : cd12 S sm i = cd12 S sm j ↔ S i = S j ∧ sm i = sm j := by
  unfold cd12
  cases h1 : sm i <;> cases h2 : sm j <;> simp <;> omega
theorem cd12_lt {S : Nat → Int} {sm : Nat → Bool} {i j : Nat} : cd12 S sm i < cd12 S sm j ↔ S i < S j ∨ (S i = S j ∧ sm i = false ∧ sm j = true) := by
  unfold cd12
  cases h1 : sm i <;> cases h2 : sm j <;> simp <;> omega
theorem tkey12_head {n : Nat} {S : Nat → Int} {sm : Nat → Bool} {i : Nat} (h : i < n) : ∃ l, tkey12 n S sm i = cd12 S sm i :: l := by
  by_cases ht : tn12 sm i
  · exact ⟨[], tkey12_turn h ht⟩
  · exact ⟨_, tkey12_on h ht⟩
theorem not_turn12 {sm : Nat → Bool} {i : Nat} (h : sm i = false) : ¬ tn12 sm i := fun k => by rw [k.2.1] at h; cases h
theorem not_turn12' {sm : Nat → Bool} {i : Nat} (h : sm i = true) : ¬ tn12 sm (i + 1) := fun k => by have := k.2.2; simp at this; rw [this] at h; cases h
/-- Pass 2 over pieces. -/
theorem Ty12.frk2 {n : Nat} {S : Nat → Int} {sm : Nat → Bool} (H : Ty12 n S sm) : Fr12 n S (fun i => sm i = false) (tn12 sm) (D12 n) (fun i j => LE12 (tkey12 n S sm i) (tkey12 n S sm j)) := by
  refine H.fr2 (fun i j hi hj e => ?_) (fun i j hi hj e h1 h2 => ?_) (fun i j hi hj e h1 h2 h3 => ?_) (fun i j hi hj e h1 h2 h3 => ?_)
  · obtain ⟨l, hl⟩ := tkey12_head (S := S) (sm := sm) hi
    obtain ⟨r, hr⟩ := tkey12_head (S := S) (sm := sm) hj
    rw [hl, hr]; exact Or.inr (.lt (cd12_lt.2 (Or.inl e)))
  · obtain ⟨l, hl⟩ := tkey12_head (S := S) (sm := sm) hi
    obtain ⟨r, hr⟩ := tkey12_head (S := S) (sm := sm) hj
    rw [hl, hr]; exact Or.inr (.lt (cd12_lt.2 (Or.inr ⟨e, h1, h2⟩)))
  · rw [tkey12_on (by omega) (not_turn12 h1), tkey12_on (by omega) (not_turn12 h2)]
    unfold key12
    rw [cd12_eq.2 ⟨e, h1.trans h2.symm⟩]
    exact h3.cons
  · rw [tkey12_on (by omega) (not_turn12 h1), tkey12_on (by omega) (not_turn12 h2)]
    unfold key12
    rw [cd12_eq.2 ⟨e, h1.trans h2.symm⟩, tkey12_none h3]
    exact (LE12.nil _).cons
theorem Ty12.frk3 {n : Nat} {S : Nat → Int} {sm : Nat → Bool} (H : Ty12 n S sm) : Fr12 n (fun i => - S i) (fun i => sm i = true) (fun i => sm i = false) (fun _ => False) (fun i j => LE12 (key12 n S sm j) (key12 n S sm i)) := by
  refine H.fr3 (le := fun i j => LE12 (key12 n S sm i) (key12 n S sm j)) (fun i j hi hj e => ?_) (fun i j hi hj e h1 h2 => ?_) (fun i j hi hj e h1 h2 h3 => ?_)
  · exact Or.inr (.lt (cd12_lt.2 (Or.inl e)))
  · exact Or.inr (.lt (cd12_lt.2 (Or.inr ⟨e, h1, h2⟩)))
  · rw [← tkey12_on (by omega) (not_turn12' h1), ← tkey12_on (by omega) (not_turn12' h2)] at h3
    show LE12 (_ :: _) (_ :: _)
    rw [cd12_eq.2 ⟨e, h1.trans h2.symm⟩]
    exact h3.cons
theorem Ty12.frs2 {n : Nat} {S : Nat → Int} {sm : Nat → Bool} (H : Ty12 n S sm) : Fr12 n S (fun i => sm i = false) (tn12 sm) (D12 n) (Ls12 n S) :=
  H.fr2 (fun i j hi hj e => .lt hi hj e) (fun i j hi hj e h1 h2 => H.less n i j (by omega) hi hj e h1 h2) (fun i j hi hj e h1 h2 h3 => .eq (by omega) (by omega) e h3) (fun i j hi hj e h1 h2 h3 => .eq hi (by omega) e (.fin h3 hj))
theorem Ty12.frs3 {n : Nat} {S : Nat → Int} {sm : Nat → Bool} (H : Ty12 n S sm) : Fr12 n (fun i => - S i) (fun i => sm i = true) (fun i => sm i = false) (fun _ => False) (fun i j => Ls12 n S j i) :=
  H.fr3 (le := Ls12 n S) (fun i j hi hj e => .lt hi hj e) (fun i j hi hj e h1 h2 => H.less n i j (by omega) hi hj e h1 h2) (fun i j hi hj e h1 h2 h3 => .eq (by omega) (by omega) e h3)
theorem Ty12.frt2 {n : Nat} {S : Nat → Int} {sm : Nat → Bool} (H : Ty12 n S sm) : Fr12 n S (fun i => sm i = false) (tn12 sm) (D12 n) (fun _ _ => True) :=
  H.fr2 (fun i j hi hj e => trivial) (fun i j hi hj e h1 h2 => trivial) (fun i j hi hj e h1 h2 h3 => trivial) (fun i j hi hj e h1 h2 h3 => trivial)
theorem Ty12.frt3 {n : Nat} {S : Nat → Int} {sm : Nat → Bool} (H : Ty12 n S sm) : Fr12 n (fun i => - S i) (fun i => sm i = true) (fun i => sm i = false) (fun _ => False) (fun _ _ => True) :=
  H.fr3 (le := fun _ _ => True) (fun i j hi hj e => trivial) (fun i j hi hj e h1 h2 => trivial) (fun i j hi hj e h1 h2 h3 => trivial)
/-- A lesser piece, a lesser suffix. -/
theorem Ty12.tkey_less {n : Nat} {S : Nat → Int} {sm : Nat → Bool} (H : Ty12 n S sm) : ∀ (d i j : Nat), n ≤ i + d → (sm i = sm j → (tn12 sm i ↔ tn12 sm j)) → LL12 (tkey12 n S sm i) (tkey12 n S sm j) → Ls12 n S i j := by
  intro d
  induction d with
  | zero =>
    intro i j h hc hl
    rw [tkey12_none (i := i) (by omega)] at hl
    by_cases hj : j < n
    · exact .fin (by omega) hj
    · rw [tkey12_none hj] at hl; cases hl
  | succ d ih =>
    intro i j h hc hl
    by_cases hi : i < n
    · by_cases hj : j < n
      · obtain ⟨a, ha⟩ := tkey12_head (S := S) (sm := sm) hi
        obtain ⟨b, hb⟩ := tkey12_head (S := S) (sm := sm) hj
        by_cases ec : cd12 S sm i = cd12 S sm j
        · obtain ⟨e1, e2⟩ := cd12_eq.1 ec
          by_cases ht : tn12 sm i
          · rw [tkey12_turn hi ht, tkey12_turn hj ((hc e2).1 ht), ec] at hl
            exact hl.irrefl.elim
          · have ht' : ¬ tn12 sm j := fun k => ht ((hc e2).2 k)
            rw [tkey12_on hi ht, tkey12_on hj ht'] at hl
            unfold key12 at hl
            rcases hl.inv with f | ⟨_, f⟩
            · omega
            · refine .eq hi hj e1 (ih (i + 1) (j + 1) (by omega) (fun e3 => ?_) f)
              unfold tn12
              simp [e3, e2]
        · rw [ha, hb] at hl
          rcases hl.inv with f | ⟨f, _⟩
          · rcases cd12_lt.1 f with f | ⟨f1, f2, f3⟩
            · exact .lt hi hj f
            · exact H.less n i j (by omega) hi hj f1 f2 f3
          · exact absurd f ec
      · rw [tkey12_none (i := j) hj] at hl; exact hl.no.elim
    · by_cases hj : j < n
      · exact .fin hi hj
      · rw [tkey12_none hi, tkey12_none hj] at hl; cases hl
theorem Ty12.key_less {n : Nat} {S : Nat → Int} {sm : Nat → Bool} (H : Ty12 n S sm) {i j : Nat} (hi : i < n) (hj : j < n) (h : LL12 (key12 n S sm i) (key12 n S sm j)) : Ls12 n S i j := by
  unfold key12 at h
  by_cases ec : cd12 S sm i = cd12 S sm j
  · obtain ⟨e1, e2⟩ := cd12_eq.1 ec
    rcases h.inv with f | ⟨_, f⟩
    · omega
    · exact .eq hi hj e1 (H.tkey_less n (i + 1) (j + 1) (by omega) (fun e3 => by unfold tn12; simp [e3, e2]) f)
  · rcases h.inv with f | ⟨f, _⟩
    · rcases cd12_lt.1 f with f | ⟨f1, f2, f3⟩
      · exact .lt hi hj f
      · exact H.less n i j (by omega) hi hj f1 f2 f3
    · exact absurd f ec
/-- Alike pieces at two places: up to the next turn all is alike. -/
theorem tkey12_same {n : Nat} {S : Nat → Int} {sm : Nat → Bool} : ∀ (d i j : Nat), n ≤ i + d → i ≤ n → j ≤ n → i ≠ j → (sm i = sm j → (tn12 sm i ↔ tn12 sm j)) → tkey12 n S sm i = tkey12 n S sm j →
    ∃ m, i + m < n ∧ j + m < n ∧ tn12 sm (i + m) ∧ tn12 sm (j + m) ∧ ∀ k, k < m → i + k < n ∧ j + k < n ∧ S (i + k) = S (j + k) ∧ ¬ tn12 sm (i + k) ∧ ¬ tn12 sm (j + k) := by
  intro d
  induction d with
  | zero =>
    intro i j h hi hj hne hc e
    rw [tkey12_none (i := i) (by omega)] at e
    obtain ⟨l, hl⟩ := tkey12_head (n := n) (S := S) (sm := sm) (i := j) (by omega)
    rw [hl] at e; cases e
  | succ d ih =>
    intro i j h hi hj hne hc e
    by_cases h1 : i < n
    · by_cases h2 : j < n
      · have ec : cd12 S sm i = cd12 S sm j := by
          obtain ⟨a, ha⟩ := tkey12_head (S := S) (sm := sm) h1
          obtain ⟨b, hb⟩ := tkey12_head (S := S) (sm := sm) h2
          rw [ha, hb] at e
          exact (List.cons.inj e).1
        obtain ⟨e1, e2⟩ := cd12_eq.1 ec
        by_cases ht : tn12 sm i
        · exact ⟨0, h1, h2, ht, (hc e2).1 ht, fun k hk => by omega⟩
        · have ht' : ¬ tn12 sm j := fun k => ht ((hc e2).2 k)
          rw [tkey12_on h1 ht, tkey12_on h2 ht'] at e
          obtain ⟨m, a, b, c, f, g⟩ := ih (i + 1) (j + 1) (by omega) (by omega) (by omega) (by omega) (fun e3 => by unfold tn12; simp [e3, e2]) (List.cons.inj e).2
          refine ⟨m + 1, by omega, by omega, by rw [show i + (m + 1) = i + 1 + m by omega]; exact c, by rw [show j + (m + 1) = j + 1 + m by omega]; exact f, fun k hk => ?_⟩
          cases k with
          | zero => exact ⟨h1, h2, e1, ht, ht'⟩
          | succ k => have := g k (by omega); rw [show i + (k + 1) = i + 1 + k by omega, show j + (k + 1) = j + 1 + k by omega]; exact this
      · rw [tkey12_none (i := j) h2] at e
        obtain ⟨l, hl⟩ := tkey12_head (n := n) (S := S) (sm := sm) h1
        rw [hl] at e; cases e
    · rw [tkey12_none (i := i) h1] at e
      obtain ⟨l, hl⟩ := tkey12_head (n := n) (S := S) (sm := sm) (i := j) (by omega)
      rw [hl] at e; cases e
end Go.Proofs.YtmfpdchfofffeaaGreatDoor
