import Derived.Test.YtmfpdchfofffeaaGreatDoorSaM1
namespace Go.Proofs.YtmfpdchfofffeaaGreatDoor
set_option linter.unusedVariables false
structure Ty12 (n : Nat) (S : Nat → Int) (sm : Nat → Bool) : Prop where
  rc : ∀ i, i + 1 < n → sm i = (decide (S i < S (i + 1)) || (decide (S i = S (i + 1)) && sm (i + 1)))
  last : ∀ i, ¬ i + 1 < n → sm i = false
inductive Ls12 (n : Nat) (S : Nat → Int) : Nat → Nat → Prop
  | fin {i j : Nat} : ¬ i < n → j < n → Ls12 n S i j
  | lt {i j : Nat} : i < n → j < n → S i < S j → Ls12 n S i j
  | eq {i j : Nat} : i < n → j < n → S i = S j → Ls12 n S (i + 1) (j + 1) → Ls12 n S i j
theorem Ls12.asymm {n : Nat} {S : Nat → Int} {i j : Nat} (h : Ls12 n S i j) : Ls12 n S j i → False := by
  induction h with
  | fin a b => intro k; cases k with
    | fin c d => exact a d
    | lt c d _ => exact a d
    | eq c d _ _ => exact a d
  | lt a b c => intro k; cases k with
    | fin d _ => exact d b
    | lt _ _ d => omega
    | eq _ _ d _ => omega
  | eq a b c d ih => intro k; cases k with
    | fin e _ => exact e b
    | lt _ _ e => omega
    | eq _ _ _ e => exact ih e
theorem Ls12.irrefl {n : Nat} {S : Nat → Int} {i : Nat} (h : Ls12 n S i i) : False := h.asymm h
theorem Ls12.trans {n : Nat} {S : Nat → Int} {i j : Nat} (h : Ls12 n S i j) : ∀ {k}, Ls12 n S j k → Ls12 n S i k := by
  induction h with
  | fin a b => intro k h; cases h with
    | fin c d => exact absurd b c
    | lt c d _ => exact .fin a d
    | eq c d _ _ => exact .fin a d
  | lt a b c => intro k h; cases h with
    | fin d _ => exact absurd b d
    | lt _ f d => exact .lt a f (by omega)
    | eq _ f d _ => exact .lt a f (by omega)
  | eq a b c d ih => intro k h; cases h with
    | fin e _ => exact absurd b e
    | lt _ f e => exact .lt a f (by omega)
    | eq _ f e g => exact .eq a f (by omega) (ih g)
theorem Ls12.tail {n : Nat} {S : Nat → Int} {i j : Nat} (h : Ls12 n S i j) (hi : i < n) (e : S i = S j) : Ls12 n S (i + 1) (j + 1) := by
  cases h with
  | fin a _ => exact absurd hi a
  | lt _ _ k => omega
  | eq _ _ _ k => exact k
theorem Ls12.skip {n : Nat} {S : Nat → Int} {i j : Nat} : ∀ {d : Nat}, (∀ m, m < d → i + m < n ∧ j + m < n ∧ S (i + m) = S (j + m)) → (Ls12 n S (i + d) (j + d) ↔ Ls12 n S i j)
  | 0, _ => Iff.rfl
  | d + 1, h => by
    rw [← Ls12.skip (d := d) (fun m hm => h m (by omega))]
    obtain ⟨h1, h2, h3⟩ := h d (by omega)
    constructor
    · intro k; exact .eq h1 h2 h3 k
    · intro k; exact k.tail h1 h3
/-- With one number ahead what is not small is less than what is. -/
theorem Ty12.less {n : Nat} {S : Nat → Int} {sm : Nat → Bool} (H : Ty12 n S sm) : ∀ (d i j : Nat), n ≤ i + d → i < n → j < n → S i = S j → sm i = false → sm j = true → Ls12 n S i j
  | 0, i, j, h, hi, _, _, _, _ => by omega
  | d + 1, i, j, h, hi, hj, e, h1, h2 => by
    have hj1 : j + 1 < n := by
      rcases Nat.lt_or_ge (j + 1) n with k | k
      · exact k
      · rw [H.last j (by omega)] at h2; cases h2
    refine .eq hi hj e ?_
    by_cases hi1 : i + 1 < n
    · rw [H.rc i hi1] at h1
      rw [H.rc j hj1] at h2
      simp only [Bool.or_eq_false_iff, decide_eq_false_iff_not, Bool.and_eq_false_imp, decide_eq_true_eq, Bool.or_eq_true, Bool.and_eq_true] at h1 h2
      obtain ⟨a, b⟩ := h1
      by_cases c : S (i + 1) < S (j + 1)
      · exact .lt hi1 hj1 c
      · rcases h2 with h2 | ⟨h2, h3⟩
        · omega
        · have e1 : S i = S (i + 1) := by omega
          exact H.less d (i + 1) (j + 1) (by omega) hi1 hj1 (by omega) (b e1) h3
    · exact .fin hi1 hj1
def tn12 (sm : Nat → Bool) (i : Nat) : Prop := 0 < i ∧ sm i = true ∧ sm (i - 1) = false
theorem Ty12.great {n : Nat} {S : Nat → Int} {sm : Nat → Bool} (H : Ty12 n S sm) {j : Nat} (hj : j + 1 < n) (h : sm j = false) : S (j + 1) ≤ S j ∧ (S (j + 1) = S j → sm (j + 1) = false) := by
  rw [H.rc j hj] at h
  simp only [Bool.or_eq_false_iff, decide_eq_false_iff_not, Bool.and_eq_false_imp, decide_eq_true_eq] at h
  exact ⟨by omega, fun e => h.2 e.symm⟩
theorem Ty12.small {n : Nat} {S : Nat → Int} {sm : Nat → Bool} (H : Ty12 n S sm) {j : Nat} (h : sm j = true) : j + 1 < n ∧ S j ≤ S (j + 1) ∧ (S (j + 1) = S j → sm (j + 1) = true) := by
  have hj1 : j + 1 < n := by
    rcases Nat.lt_or_ge (j + 1) n with k | k
    · exact k
    · rw [H.last j (by omega)] at h; cases h
  rw [H.rc j hj1] at h
  simp only [Bool.or_eq_true, decide_eq_true_eq, Bool.and_eq_true] at h
  refine ⟨hj1, by omega, fun e => ?_⟩
  rcases h with h | h
  · omega
  · exact h.2
def D12 (n : Nat) (j : Nat) : Prop := ¬ j + 1 < n
theorem Ty12.fr2 {n : Nat} {S : Nat → Int} {sm : Nat → Bool} (H : Ty12 n S sm) {le : Nat → Nat → Prop}
    (l1 : ∀ i j, i < n → j < n → S i < S j → le i j) (l2 : ∀ i j, i < n → j < n → S i = S j → sm i = false → sm j = true → le i j)
    (l3 : ∀ i j, i + 1 < n → j + 1 < n → S i = S j → sm i = false → sm j = false → le (i + 1) (j + 1) → le i j) (l4 : ∀ i j, i < n → j + 1 < n → S i = S j → sm i = false → sm j = false → ¬ i + 1 < n → le i j) :
    Fr12 n S (fun i => sm i = false) (tn12 sm) (D12 n) le where
  dn := fun j hj h => (H.great hj h).1
  sm := fun j hj h e => (H.great hj h).2 e
  nx := fun j hj h => by
    by_cases h1 : j + 1 < n
    · refine Or.inr ⟨h1, ?_⟩
      by_cases h2 : sm (j + 1) = false
      · exact Or.inl h2
      · exact Or.inr ⟨by omega, by simpa using h2, by simpa using h⟩
    · exact Or.inl h1
  nd := fun j h => h
  l1 := l1
  l2 := fun i j hi hj e h1 h2 => l2 i j hi hj e h1 (by simpa using h2)
  l3 := l3
  l4 := fun i j hi hj e h1 h2 h3 => l4 i j hi hj e h1 h2 h3
theorem Ty12.fr3 {n : Nat} {S : Nat → Int} {sm : Nat → Bool} (H : Ty12 n S sm) {le : Nat → Nat → Prop}
    (l1 : ∀ i j, i < n → j < n → S i < S j → le i j) (l2 : ∀ i j, i < n → j < n → S i = S j → sm i = false → sm j = true → le i j)
    (l3 : ∀ i j, i + 1 < n → j + 1 < n → S i = S j → sm i = true → sm j = true → le (i + 1) (j + 1) → le i j) :
    Fr12 n (fun i => - S i) (fun i => sm i = true) (fun i => sm i = false) (fun _ => False) (fun i j => le j i) where
  dn := fun j hj h => by have := (H.small h).2.1; omega
  sm := fun j hj h e => (H.small h).2.2 (by omega)
  nx := fun j hj h => by
    refine Or.inr ⟨(H.small h).1, ?_⟩
    by_cases h2 : sm (j + 1) = false
    · exact Or.inr h2
    · exact Or.inl (by simpa using h2)
  nd := fun j h => h.elim
  l1 := fun i j hi hj e => l1 j i hj hi (by omega)
  l2 := fun i j hi hj e h1 h2 => l2 j i hj hi (by omega) (by simpa using h2) h1
  l3 := fun i j hi hj e h1 h2 h3 => l3 j i hj hi (by omega) h2 h1 h3
  l4 := fun i j hi hj e h1 h2 h3 => h3.elim
inductive LL12 : List Int → List Int → Prop
  | nil {y : Int} {b : List Int} : LL12 [] (y :: b)
  | lt {x y : Int} {a b : List Int} : x < y → LL12 (x :: a) (y :: b)
  | eq {x : Int} {a b : List Int} : LL12 a b → LL12 (x :: a) (x :: b)
theorem LL12.asymm {a b : List Int} (h : LL12 a b) : LL12 b a → False := by
  induction h with
  | nil => intro k; cases k
  | lt e => intro k; cases k with
    | lt f => omega
    | eq _ => omega
  | eq e ih => intro k; cases k with
    | lt f => omega
    | eq f => exact ih f
theorem LL12.irrefl {a : List Int} (h : LL12 a a) : False := h.asymm h
theorem LL12.trans {a b : List Int} (h : LL12 a b) : ∀ {c}, LL12 b c → LL12 a c := by
  induction h with
  | nil => intro c k; cases k with
    | lt _ => exact .nil
    | eq _ => exact .nil
  | lt e => intro c k; cases k with
    | lt f => exact .lt (by omega)
    | eq _ => exact .lt e
  | eq e ih => intro c k; cases k with
    | lt f => exact .lt f
    | eq f => exact .eq (ih f)
theorem LL12.inv {x y : Int} {a b : List Int} (h : LL12 (x :: a) (y :: b)) : x < y ∨ (x = y ∧ LL12 a b) := by
  cases h with
  | lt e => exact Or.inl e
  | eq e => exact Or.inr ⟨rfl, e⟩
theorem LL12.no {a : List Int} (h : LL12 a []) : False := by
  generalize e : ([] : List Int) = b at h
  cases h <;> cases e
def LE12 (a b : List Int) : Prop := a = b ∨ LL12 a b
theorem LE12.cons {x : Int} {a b : List Int} (h : LE12 a b) : LE12 (x :: a) (x :: b) := by
  rcases h with rfl | h
  · exact Or.inl rfl
  · exact Or.inr (.eq h)
theorem LE12.nil (a : List Int) : LE12 [] a := by
  cases a with
  | nil => exact Or.inl rfl
  | cons x a => exact Or.inr .nil
theorem LE12.trans {a b c : List Int} (h : LE12 a b) (k : LE12 b c) : LE12 a c := by
  rcases h with rfl | h
  · exact k
  · rcases k with rfl | k
    · exact Or.inr h
    · exact Or.inr (h.trans k)
def cd12 (S : Nat → Int) (sm : Nat → Bool) (i : Nat) : Int := 2 * S i + (if sm i = true then 1 else 0)
open Classical in
noncomputable def tk12 (n : Nat) (S : Nat → Int) (sm : Nat → Bool) : Nat → Nat → List Int
  | 0, _ => []
  | f + 1, i => if i < n then cd12 S sm i :: (if tn12 sm i then [] else tk12 n S sm f (i + 1)) else []
theorem tk12_more {n : Nat} {S : Nat → Int} {sm : Nat → Bool} : ∀ (f g i : Nat), n ≤ i + f → n ≤ i + g → tk12 n S sm f i = tk12 n S sm g i
  | 0, 0, i, _, _ => rfl
  | 0, g + 1, i, h, _ => by unfold tk12; rw [if_neg (by omega)]
  | f + 1, 0, i, _, h => by unfold tk12; rw [if_neg (by omega)]
  | f + 1, g + 1, i, h, k => by unfold tk12; rw [tk12_more f g (i + 1) (by omega) (by omega)]
noncomputable def tkey12 (n : Nat) (S : Nat → Int) (sm : Nat → Bool) (i : Nat) : List Int := tk12 n S sm n i
noncomputable def key12 (n : Nat) (S : Nat → Int) (sm : Nat → Bool) (i : Nat) : List Int := cd12 S sm i :: tkey12 n S sm (i + 1)
theorem tkey12_none {n : Nat} {S : Nat → Int} {sm : Nat → Bool} {i : Nat} (h : ¬ i < n) : tkey12 n S sm i = [] := by
  unfold tkey12
  cases n with
  | zero => rfl
  | succ n => unfold tk12; rw [if_neg h]
theorem tkey12_turn {n : Nat} {S : Nat → Int} {sm : Nat → Bool} {i : Nat} (h : i < n) (ht : tn12 sm i) : tkey12 n S sm i = [cd12 S sm i] := by
  unfold tkey12
  cases n with
  | zero => omega
  | succ n => unfold tk12; rw [if_pos h, if_pos ht]
theorem tkey12_on {n : Nat} {S : Nat → Int} {sm : Nat → Bool} {i : Nat} (h : i < n) (ht : ¬ tn12 sm i) : tkey12 n S sm i = key12 n S sm i := by
  have hk : tk12 n S sm n (i + 1) = tk12 n S sm (n - 1) (i + 1) := tk12_more n (n - 1) (i + 1) (by omega) (by omega)
  unfold tkey12 key12 tkey12
  rw [hk]
  cases n with
  | zero => omega
  | succ m => rw [tk12, if_pos h, if_neg ht]; rfl
theorem cd12_eq {S : Nat → Int} {sm : Nat → Bool} {i j : Nat} : cd12 S sm i = cd12 S sm j ↔ S i = S j ∧ sm i = sm j := by
  unfold cd12
  cases h1 : sm i <;> cases h2 : sm j <;> simp <;> omega
theorem cd12_lt {S : Nat → Int} {sm : Nat → Bool} {i j : Nat} : cd12 S sm i < cd12 S sm j ↔ S i < S j ∨ (S i = S j ∧ sm i = false ∧ sm j = true) := by
  unfold cd12
  cases h1 : sm i <;> cases h2 : sm j <;> simp <;> omega
theorem tkey12_head {n : Nat} {S : Nat → Int} {sm : Nat → Bool} {i : Nat} (h : i < n) : ∃ l, tkey12 n S sm i = cd12 S sm i :: l := by
  by_cases ht : tn12 sm i
  · exact ⟨[], tkey12_turn h ht⟩
  · exact ⟨_, tkey12_on h ht⟩
theorem not_turn12 {sm : Nat → Bool} {i : Nat} (h : sm i = false) : ¬ tn12 sm i := fun k => by rw [k.2.1] at h; cases h
theorem not_turn12' {sm : Nat → Bool} {i : Nat} (h : sm i = true) : ¬ tn12 sm (i + 1) := fun k => by have := k.2.2; simp at this; rw [this] at h; cases h
/-- Pass 2 over pieces. -/
theorem Ty12.frk2 {n : Nat} {S : Nat → Int} {sm : Nat → Bool} (H : Ty12 n S sm) : Fr12 n S (fun i => sm i = false) (tn12 sm) (D12 n) (fun i j => LE12 (tkey12 n S sm i) (tkey12 n S sm j)) := by
  refine H.fr2 (fun i j hi hj e => ?_) (fun i j hi hj e h1 h2 => ?_) (fun i j hi hj e h1 h2 h3 => ?_) (fun i j hi hj e h1 h2 h3 => ?_)
  · obtain ⟨l, hl⟩ := tkey12_head (S := S) (sm := sm) hi
    obtain ⟨r, hr⟩ := tkey12_head (S := S) (sm := sm) hj
    rw [hl, hr]; exact Or.inr (.lt (cd12_lt.2 (Or.inl e)))
  · obtain ⟨l, hl⟩ := tkey12_head (S := S) (sm := sm) hi
    obtain ⟨r, hr⟩ := tkey12_head (S := S) (sm := sm) hj
    rw [hl, hr]; exact Or.inr (.lt (cd12_lt.2 (Or.inr ⟨e, h1, h2⟩)))
  · rw [tkey12_on (by omega) (not_turn12 h1), tkey12_on (by omega) (not_turn12 h2)]
    unfold key12
    rw [cd12_eq.2 ⟨e, h1.trans h2.symm⟩]
    exact h3.cons
  · rw [tkey12_on (by omega) (not_turn12 h1), tkey12_on (by omega) (not_turn12 h2)]
    unfold key12
    rw [cd12_eq.2 ⟨e, h1.trans h2.symm⟩, tkey12_none h3]
    exact (LE12.nil _).cons
theorem Ty12.frk3 {n : Nat} {S : Nat → Int} {sm : Nat → Bool} (H : Ty12 n S sm) : Fr12 n (fun i => - S i) (fun i => sm i = true) (fun i => sm i = false) (fun _ => False) (fun i j => LE12 (key12 n S sm j) (key12 n S sm i)) := by
  refine H.fr3 (le := fun i j => LE12 (key12 n S sm i) (key12 n S sm j)) (fun i j hi hj e => ?_) (fun i j hi hj e h1 h2 => ?_) (fun i j hi hj e h1 h2 h3 => ?_)
  · exact Or.inr (.lt (cd12_lt.2 (Or.inl e)))
  · exact Or.inr (.lt (cd12_lt.2 (Or.inr ⟨e, h1, h2⟩)))
  · rw [← tkey12_on (by omega) (not_turn12' h1), ← tkey12_on (by omega) (not_turn12' h2)] at h3
    show LE12 (_ :: _) (_ :: _)
    rw [cd12_eq.2 ⟨e, h1.trans h2.symm⟩]
    exact h3.cons
theorem Ty12.frs2 {n : Nat} {S : Nat → Int} {sm : Nat → Bool} (H : Ty12 n S sm) : Fr12 n S (fun i => sm i = false) (tn12 sm) (D12 n) (Ls12 n S) :=
  H.fr2 (fun i j hi hj e => .lt hi hj e) (fun i j hi hj e h1 h2 => H.less n i j (by omega) hi hj e h1 h2) (fun i j hi hj e h1 h2 h3 => .eq (by omega) (by omega) e h3) (fun i j hi hj e h1 h2 h3 => .eq hi (by omega) e (.fin h3 hj))
theorem Ty12.frs3 {n : Nat} {S : Nat → Int} {sm : Nat → Bool} (H : Ty12 n S sm) : Fr12 n (fun i => - S i) (fun i => sm i = true) (fun i => sm i = false) (fun _ => False) (fun i j => Ls12 n S j i) :=
  H.fr3 (le := Ls12 n S) (fun i j hi hj e => .lt hi hj e) (fun i j hi hj e h1 h2 => H.less n i j (by omega) hi hj e h1 h2) (fun i j hi hj e h1 h2 h3 => .eq (by omega) (by omega) e h3)
theorem Ty12.frt2 {n : Nat} {S : Nat → Int} {sm : Nat → Bool} (H : Ty12 n S sm) : Fr12 n S (fun i => sm i = false) (tn12 sm) (D12 n) (fun _ _ => True) :=
  H.fr2 (fun i j hi hj e => trivial) (fun i j hi hj e h1 h2 => trivial) (fun i j hi hj e h1 h2 h3 => trivial) (fun i j hi hj e h1 h2 h3 => trivial)
theorem Ty12.frt3 {n : Nat} {S : Nat → Int} {sm : Nat → Bool} (H : Ty12 n S sm) : Fr12 n (fun i => - S i) (fun i => sm i = true) (fun i => sm i = false) (fun _ => False) (fun _ _ => True) :=
  H.fr3 (le := fun _ _ => True) (fun i j hi hj e => trivial) (fun i j hi hj e h1 h2 => trivial) (fun i j hi hj e h1 h2 h3 => trivial)
/-- A lesser piece, a lesser suffix. -/
theorem Ty12.tkey_less {n : Nat} {S : Nat → Int} {sm : Nat → Bool} (H : Ty12 n S sm) : ∀ (d i j : Nat), n ≤ i + d → (sm i = sm j → (tn12 sm i ↔ tn12 sm j)) → LL12 (tkey12 n S sm i) (tkey12 n S sm j) → Ls12 n S i j := by
  intro d
  induction d with
  | zero =>
    intro i j h hc hl
    rw [tkey12_none (i := i) (by omega)] at hl
    by_cases hj : j < n
    · exact .fin (by omega) hj
    · rw [tkey12_none hj] at hl; cases hl
  | succ d ih =>
    intro i j h hc hl
    by_cases hi : i < n
    · by_cases hj : j < n
      · obtain ⟨a, ha⟩ := tkey12_head (S := S) (sm := sm) hi
        obtain ⟨b, hb⟩ := tkey12_head (S := S) (sm := sm) hj
        by_cases ec : cd12 S sm i = cd12 S sm j
        · obtain ⟨e1, e2⟩ := cd12_eq.1 ec
          by_cases ht : tn12 sm i
          · rw [tkey12_turn hi ht, tkey12_turn hj ((hc e2).1 ht), ec] at hl
            exact hl.irrefl.elim
          · have ht' : ¬ tn12 sm j := fun k => ht ((hc e2).2 k)
            rw [tkey12_on hi ht, tkey12_on hj ht'] at hl
            unfold key12 at hl
            rcases hl.inv with f | ⟨_, f⟩
            · omega
            · refine .eq hi hj e1 (ih (i + 1) (j + 1) (by omega) (fun e3 => ?_) f)
              unfold tn12
              simp [e3, e2]
        · rw [ha, hb] at hl
          rcases hl.inv with f | ⟨f, _⟩
          · rcases cd12_lt.1 f with f | ⟨f1, f2, f3⟩
            · exact .lt hi hj f
            · exact H.less n i j (by omega) hi hj f1 f2 f3
          · exact absurd f ec
      · rw [tkey12_none (i := j) hj] at hl; exact hl.no.elim
    · by_cases hj : j < n
      · exact .fin hi hj
      · rw [tkey12_none hi, tkey12_none hj] at hl; cases hl
theorem Ty12.key_less {n : Nat} {S : Nat → Int} {sm : Nat → Bool} (H : Ty12 n S sm) {i j : Nat} (hi : i < n) (hj : j < n) (h : LL12 (key12 n S sm i) (key12 n S sm j)) : Ls12 n S i j := by
  unfold key12 at h
  by_cases ec : cd12 S sm i = cd12 S sm j
  · obtain ⟨e1, e2⟩ := cd12_eq.1 ec
    rcases h.inv with f | ⟨_, f⟩
    · omega
    · exact .eq hi hj e1 (H.tkey_less n (i + 1) (j + 1) (by omega) (fun e3 => by unfold tn12; simp [e3, e2]) f)
  · rcases h.inv with f | ⟨f, _⟩
    · rcases cd12_lt.1 f with f | ⟨f1, f2, f3⟩
      · exact .lt hi hj f
      · exact H.less n i j (by omega) hi hj f1 f2 f3
    · exact absurd f ec
/-- Alike pieces at two places: up to the next turn all is alike. -/
theorem tkey12_same {n : Nat} {S : Nat → Int} {sm : Nat → Bool} : ∀ (d i j : Nat), n ≤ i + d → i ≤ n → j ≤ n → i ≠ j → (sm i = sm j → (tn12 sm i ↔ tn12 sm j)) → tkey12 n S sm i = tkey12 n S sm j →
    ∃ m, i + m < n ∧ j + m < n ∧ tn12 sm (i + m) ∧ tn12 sm (j + m) ∧ ∀ k, k < m → i + k < n ∧ j + k < n ∧ S (i + k) = S (j + k) ∧ ¬ tn12 sm (i + k) ∧ ¬ tn12 sm (j + k) := by
  intro d
  induction d with
  | zero =>
    intro i j h hi hj hne hc e
    rw [tkey12_none (i := i) (by omega)] at e
    obtain ⟨l, hl⟩ := tkey12_head (n := n) (S := S) (sm := sm) (i := j) (by omega)
    rw [hl] at e; cases e
  | succ d ih =>
    intro i j h hi hj hne hc e
    by_cases h1 : i < n
    · by_cases h2 : j < n
      · have ec : cd12 S sm i = cd12 S sm j := by
          obtain ⟨a, ha⟩ := tkey12_head (S := S) (sm := sm) h1
          obtain ⟨b, hb⟩ := tkey12_head (S := S) (sm := sm) h2
          rw [ha, hb] at e
          exact (List.cons.inj e).1
        obtain ⟨e1, e2⟩ := cd12_eq.1 ec
        by_cases ht : tn12 sm i
        · exact ⟨0, h1, h2, ht, (hc e2).1 ht, fun k hk => by omega⟩
        · have ht' : ¬ tn12 sm j := fun k => ht ((hc e2).2 k)
          rw [tkey12_on h1 ht, tkey12_on h2 ht'] at e
          obtain ⟨m, a, b, c, f, g⟩ := ih (i + 1) (j + 1) (by omega) (by omega) (by omega) (by omega) (fun e3 => by unfold tn12; simp [e3, e2]) (List.cons.inj e).2
          refine ⟨m + 1, by omega, by omega, by rw [show i + (m + 1) = i + 1 + m by omega]; exact c, by rw [show j + (m + 1) = j + 1 + m by omega]; exact f, fun k hk => ?_⟩
          cases k with
          | zero => exact ⟨h1, h2, e1, ht, ht'⟩
          | succ k => have := g k (by omega); rw [show i + (k + 1) = i + 1 + k by omega, show j + (k + 1) = j + 1 + k by omega]; exact this
      · rw [tkey12_none (i := j) h2] at e
        obtain ⟨l, hl⟩ := tkey12_head (n := n) (S := S) (sm := sm) h1
        rw [hl] at e; cases e
    · rw [tkey12_none (i := i) h1] at e
      obtain ⟨l, hl⟩ := tkey12_head (n := n) (S := S) (sm := sm) (i := j) (by omega)
      rw [hl] at e; cases e
end Go.Proofs.YtmfpdchfofffeaaGreatDoor
