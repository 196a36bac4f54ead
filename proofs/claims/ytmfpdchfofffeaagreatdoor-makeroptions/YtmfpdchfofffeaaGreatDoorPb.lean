import Derived.Test.YtmfpdchfofffeaaGreatDoorPa
namespace Go.Proofs.YtmfpdchfofffeaaGreatDoor
set_option linter.unusedVariables false
structure Ty12 (n : Nat) (S : Nat → Int) (sm : Nat → Bool) : Prop where
  rc : ∀ i, i + 1 < n → sm i = (decide (S i < S (i + 1)) || (decide (S i = S (i + 1)) && sm (i + 1)))
  last : ∀ i, ¬ i + 1 < n → sm i = false
inductive Ls12 (n : Nat) (S : Nat → Int) : Nat → Nat → Prop
  | fin {i j : Nat} : ¬ i < n → j < n → Ls12 n S i j
  | lt {i j : Nat} : i < n → j < n → S i < S j → Ls12 n S i j
  | eq {i j : Nat} : i < n → j < n → S i = S j → Ls12 n S (i + 1) (j + 1) → Ls12 n S i j
theorem Ls12.asymm {n : Nat} {S : Nat → Int} {i j : Nat} (h : Ls12 n S i j) : Ls12 n S j i → False := by
  induction h with
  | fin a b => intro k; cases k with
    | fin c d => exact a d
    | lt c d _ => exact a d
    | eq c d _ _ => exact a d
  | lt a b c => intro k; cases k with
    | fin d _ => exact d b
    | lt _ _ d => omega
    | eq _ _ d _ => omega
  | eq a b c d ih => intro k; cases k with
    | fin e _ => exact e b
    | lt _ _ e => omega
    | eq _ _ _ e => exact ih e
theorem Ls12.irrefl {n : Nat} {S : Nat → Int} {i : Nat} (h : Ls12 n S i i) : False := h.asymm h
theorem Ls12.trans {n : Nat} {S : Nat → Int} {i j : Nat} (h : Ls12 n S i j) : ∀ {k}, Ls12 n S j k → Ls12 n S i k := by
  induction h with
  | fin a b => intro k h; cases h with
    | fin c d => exact absurd b c
    | lt c d _ => exact .fin a d
    | eq c d _ _ => exact .fin a d
  | lt a b c => intro k h; cases h with
    | fin d _ => exact absurd b d
    | lt _ f d => exact .lt a f (by omega)
    | eq _ f d _ => exact .lt a f (by omega)
  | eq a b c d ih => intro k h; cases h with
    | fin e _ => exact absurd b e
    | lt _ f e => exact .lt a f (by omega)
    | eq _ f e g => exact .eq a f (by omega) (ih g)
theorem Ls12.tail {n : Nat} {S : Nat → Int} {i j : Nat} (h : Ls12 n S i j) (hi : i < n) (e : S i = S j) : Ls12 n S (i + 1) (j + 1) := by
  cases h with
  | fin a _ => exact absurd hi a
  | lt _ _ k => omega
  | eq _ _ _ k => exact k
theorem Ls12.skip {n : Nat} {S : Nat → Int} {i j : Nat} : ∀ {d : Nat}, (∀ m, m < d → i + m < n ∧ j + m < n ∧ S (i + m) = S (j + m)) → (Ls12 n S (i + d) (j + d) ↔ Ls12 n S i j)
  | 0, _ => Iff.rfl
  | d + 1, h => by
    rw [← Ls12.skip (d := d) (fun m hm => h m (by omega))]
    obtain ⟨h1, h2, h3⟩ := h d (by omega)
    constructor
    · intro k; exact .eq h1 h2 h3 k
    · intro k; exact k.tail h1 h3
/-- With one number ahead what is not small is less than what is. -/
theorem Ty12.less {n : Nat} {S : Nat → Int} {sm : Nat → Bool} (H : Ty12 n S sm) : ∀ (d i j : Nat), n ≤ i + d → i < n → j < n → S i = S j → sm i = false → sm j = true → Ls12 n S i j
  | 0, i, j, h, hi, _, _, _, _ => by omega
  | d + 1, i, j, h, hi, hj, e, h1, h2 => by
    have hj1 : j + 1 < n := by
      rcases Nat.lt_or_ge (j + 1) n with k | k
      · exact k
      · rw [H.last j (by omega)] at h2; cases h2
    refine .eq hi hj e ?_
    by_cases hi1 : i + 1 < n
    · rw [H.rc i hi1] at h1
      rw [H.rc j hj1] at h2
      simp only [Bool.or_eq_false_iff, decide_eq_false_iff_not, Bool.and_eq_false_imp, decide_eq_true_eq, Bool.or_eq_true, Bool.and_eq_true] at h1 h2
      obtain ⟨a, b⟩ := h1
      by_cases c : S (i + 1) < S (j + 1)
      · exact .lt hi1 hj1 c
      · rcases h2 with h2 | ⟨h2, h3⟩
        · omega
        · have e1 : S i = S (i + 1) := by omega
          exact H.less d (i + 1) (j + 1) (by omega) hi1 hj1 (by omega) (b e1) h3
    · exact .fin hi1 hj1
def tn12 (sm : Nat → Bool) (i : Nat) : Prop := 0 < i ∧ sm i = true ∧ sm (i - 1) = false
theorem Ty12.great {n : Nat} {S : Nat → Int} {sm : Nat → Bool} (H : Ty12 n S sm) {j : Nat} (hj : j + 1 < n) (h : sm j = false) : S (j + 1) ≤ S j ∧ (S (j + 1) = S j → sm (j + 1) = false) := by
  rw [H.rc j hj] at h
  simp only [Bool.or_eq_false_iff, decide_eq_false_iff_not, Bool.and_eq_false_imp, decide_eq_true_eq] at h
  exact ⟨by omega, fun e => h.2 e.symm⟩
theorem Ty12.small {n : Nat} {S : Nat → Int} {sm : Nat → Bool} (H : Ty12 n S sm) {j : Nat} (h : sm j = true) : j + 1 < n ∧ S j ≤ S (j + 1) ∧ (S (j + 1) = S j → sm (j + 1) = true) := by
  have hj1 : j + 1 < n := by
    rcases Nat.lt_or_ge (j + 1) n with k | k
    · exact k
    · rw [H.last j (by omega)] at h; cases h
  rw [H.rc j hj1] at h
  simp only [Bool.or_eq_true, decide_eq_true_eq, Bool.and_eq_true] at h
  refine ⟨hj1, by omega, fun e => ?_⟩
  rcases h with h | h
  · omega
  · exact h.2
def D12 (n : Nat) (j : Nat) : Prop := ¬ j + 1 < n
theorem Ty12.fr2 {n : Nat} {S : Nat → Int} {sm : Nat → Bool} (H : Ty12 n S sm) {le : Nat → Nat → Prop}
    (l1 : ∀ i j, i < n → j < n → S i < S j → le i j) (l2 : ∀ i j, i < n → j < n → S i = S j → sm i = false → sm j = true → le i j)
    (l3 : ∀ i j, i + 1 < n → j + 1 < n → S i = S j → sm i = false → sm j = false → le (i + 1) (j + 1) → le i j) (l4 : ∀ i j, i < n → j + 1 < n → S i = S j → sm i = false → sm j = false → ¬ i + 1 < n → le i j) :
    Fr12 n S (fun i => sm i = false) (tn12 sm) (D12 n) le where
  dn := fun j hj h => (H.great hj h).1
  sm := fun j hj h e => (H.great hj h).2 e
  nx := fun j hj h => by
    by_cases h1 : j + 1 < n
    · refine Or.inr ⟨h1, ?_⟩
      by_cases h2 : sm (j + 1) = false
      · exact Or.inl h2
      · exact Or.inr ⟨by omega, by simpa using h2, by simpa using h⟩
    · exact Or.inl h1
  nd := fun j h => h
  l1 := l1
  l2 := fun i j hi hj e h1 h2 => l2 i j hi hj e h1 (by simpa using h2)
  l3 := l3
  l4 := fun i j hi hj e h1 h2 h3 => l4 i j hi hj e h1 h2 h3
theorem Ty12.fr3 {n : Nat} {S : Nat → Int} {sm : Nat → Bool} (H : Ty12 n S sm) {le : Nat → Nat → Prop}
    (l1 : ∀ i j, i < n → j < n → S i < S j → le i j) (l2 : ∀ i j, i < n → j < n → S i = S j → sm i = false → sm j = true → le i j)
    (l3 : ∀ i j, i + 1 < n → j + 1 < n → S i = S j → sm i = true → sm j = true → le (i + 1) (j + 1) → le i j) :
    Fr12 n (fun i => - S i) (fun i => sm i = true) (fun i => sm i = false) (fun _ => False) (fun i j => le j i) where
  dn := fun j hj h => by have := (H.small h).2.1; omega
  sm := fun j hj h e => (H.small h).2.2 (by omega)
  nx := fun j hj h => by
    refine Or.inr ⟨(H.small h).1, ?_⟩
    by_cases h2 : sm (j + 1) = false
    · exact Or.inr h2
    · exact Or.inl (by simpa using h2)
  nd := fun j h => h.elim
  l1 := fun i j hi hj e => l1 j i hj hi (by omega)
  l2 := fun i j hi hj e h1 h2 => l2 j i hj hi (by omega) (by simpa using h2) h1
  l3 := fun i j hi hj e h1 h2 h3 => l3 j i hj hi (by omega) h2 h1 h3
  l4 := fun i j hi hj e h1 h2 h3 => h3.elim
inductive LL12 : List Int → List Int → Prop
  | nil {y : Int} {b : List Int} : LL12 [] (y :: b)
  | lt {x y : Int} {a b : List Int} : x < y → LL12 (x :: a) (y :: b)
  | eq {x : Int} {a b : List Int} : LL12 a b → LL12 (x :: a) (x :: b)
theorem LL12.asymm {a b : List Int} (h : LL12 a b) : LL12 b a → False := by
  induction h with
  | nil => intro k; cases k
  | lt e => intro k; cases k with
    | lt f => omega
    | eq _ => omega
  | eq e ih => intro k; cases k with
    | lt f => omega
    | eq f => exact ih f
theorem LL12.irrefl {a : List Int} (h : LL12 a a) : False := h.asymm h
theorem LL12.trans {a b : List Int} (h : LL12 a b) : ∀ {c}, LL12 b c → LL12 a c := by
  induction h with
  | nil => intro c k; cases k with
    | lt _ => exact .nil
    | eq _ => exact .nil
  | lt e => intro c k; cases k with
    | lt f => exact .lt (by omega)
    | eq _ => exact .lt e
  | eq e ih => intro c k; cases k with
    | lt f => exact .lt f
    | eq f => exact .eq (ih f)
theorem LL12.inv {x y : Int} {a b : List Int} (h : LL12 (x :: a) (y :: b)) : x < y ∨ (x = y ∧ LL12 a b) := by
  cases h with
  | lt e => exact Or.inl e
  | eq e => exact Or.inr ⟨rfl, e⟩
theorem LL12.no {a : List Int} (h : LL12 a []) : False := by
  generalize e : ([] : List Int) = b at h
  cases h <;> cases e
def LE12 (a b : List Int) : Prop := a = b ∨ LL12 a b
theorem LE12.cons {x : Int} {a b : List Int} (h : LE12 a b) : LE12 (x :: a) (x :: b) := by
  rcases h with rfl | h
  · exact Or.inl rfl
  · exact Or.inr (.eq h)
theorem LE12.nil (a : List Int) : LE12 [] a := by
  cases a with
  | nil => exact Or.inl rfl
  | cons x a => exact Or.inr .nil
theorem LE12.trans {a b c : List Int} (h : LE12 a b) (k : LE12 b c) : LE12 a c := by
  rcases h with rfl | h
  · exact k
  · rcases k with rfl | k
    · exact Or.inr h
    · exact Or.inr (h.trans k)
def cd12 (S : Nat → Int) (sm : Nat → Bool) (i : Nat) : Int := 2 * S i + (if sm i = true then 1 else 0)
open Classical in
noncomputable def tk12 (n : Nat) (S : Nat → Int) (sm : Nat → Bool) : Nat → Nat → List Int
  | 0, _ => []
  | f + 1, i => if i < n then cd12 S sm i :: (if tn12 sm i then [] else tk12 n S sm f (i + 1)) else []
theorem tk12_more {n : Nat} {S : Nat → Int} {sm : Nat → Bool} : ∀ (f g i : Nat), n ≤ i + f → n ≤ i + g → tk12 n S sm f i = tk12 n S sm g i
  | 0, 0, i, _, _ => rfl
  | 0, g + 1, i, h, _ => by unfold tk12; rw [if_neg (by omega)]
  | f + 1, 0, i, _, h => by unfold tk12; rw [if_neg (by omega)]
  | f + 1, g + 1, i, h, k => by unfold tk12; rw [tk12_more f g (i + 1) (by omega) (by omega)]
noncomputable def tkey12 (n : Nat) (S : Nat → Int) (sm : Nat → Bool) (i : Nat) : List Int := tk12 n S sm n i
noncomputable def key12 (n : Nat) (S : Nat → Int) (sm : Nat → Bool) (i : Nat) : List Int := cd12 S sm i :: tkey12 n S sm (i + 1)
theorem tkey12_none {n : Nat} {S : Nat → Int} {sm : Nat → Bool} {i : Nat} (h : ¬ i < n) : tkey12 n S sm i = [] := by
  unfold tkey12
  cases n with
  | zero => rfl
  | succ n => unfold tk12; rw [if_neg h]
theorem tkey12_turn {n : Nat} {S : Nat → Int} {sm : Nat → Bool} {i : Nat} (h : i < n) (ht : tn12 sm i) : tkey12 n S sm i = [cd12 S sm i] := by
  unfold tkey12
  cases n with
  | zero => omega
  | succ n => unfold tk12; rw [if_pos h, if_pos ht]
theorem tkey12_on {n : Nat} {S : Nat → Int} {sm : Nat → Bool} {i : Nat} (h : i < n) (ht : ¬ tn12 sm i) : tkey12 n S sm i = key12 n S sm i := by
  have hk : tk12 n S sm n (i + 1) = tk12 n S sm (n - 1) (i + 1) := tk12_more n (n - 1) (i + 1) (by omega) (by omega)
  unfold tkey12 key12 tkey12
  rw [hk]
  cases n with
  | zero => omega
  | succ m => rw [tk12, if_pos h, if_neg ht]; rfl
theorem cd12_eq {S : Nat → Int} {sm : Nat → Bool} {i j : Nat} : cd12 S sm i = cd12 S sm j ↔ S i = S j ∧ sm i = sm j := by
  unfold cd12
  cases h1 : sm i <;> cases h2 : sm j <;> simp <;> omega
theorem cd12_lt {S : Nat → Int} {sm : Nat → Bool} {i j : Nat} : cd12 S sm i < cd12 S sm j ↔ S i < S j ∨ (S i = S j ∧ sm i = false ∧ sm j = true) := by
  unfold cd12
  cases h1 : sm i <;> cases h2 : sm j <;> simp <;> omega
theorem tkey12_head {n : Nat} {S : Nat → Int} {sm : Nat → Bool} {i : Nat} (h : i < n) : ∃ l, tkey12 n S sm i = cd12 S sm i :: l := by
  by_cases ht : tn12 sm i
  · exact ⟨[], tkey12_turn h ht⟩
  · exact ⟨_, tkey12_on h ht⟩
theorem not_turn12 {sm : Nat → Bool} {i : Nat} (h : sm i = false) : ¬ tn12 sm i := fun k => by rw [k.2.1] at h; cases h
theorem not_turn12' {sm : Nat → Bool} {i : Nat} (h : sm i = true) : ¬ tn12 sm (i + 1) := fun k => by have := k.2.2; simp at this; rw [this] at h; cases h
/-- Pass 2 over pieces. -/
theorem Ty12.frk2 {n : Nat} {S : Nat → Int} {sm : Nat → Bool} (H : Ty12 n S sm) : Fr12 n S (fun i => sm i = false) (tn12 sm) (D12 n) (fun i j => LE12 (tkey12 n S sm i) (tkey12 n S sm j)) := by
  refine H.fr2 (fun i j hi hj e => ?_) (fun i j hi hj e h1 h2 => ?_) (fun i j hi hj e h1 h2 h3 => ?_) (fun i j hi hj e h1 h2 h3 => ?_)
  · obtain ⟨l, hl⟩ := tkey12_head (S := S) (sm := sm) hi
    obtain ⟨r, hr⟩ := tkey12_head (S := S) (sm := sm) hj
    rw [hl, hr]; exact Or.inr (.lt (cd12_lt.2 (Or.inl e)))
  · obtain ⟨l, hl⟩ := tkey12_head (S := S) (sm := sm) hi
    obtain ⟨r, hr⟩ := tkey12_head (S := S) (sm := sm) hj
    rw [hl, hr]; exact Or.inr (.lt (cd12_lt.2 (Or.inr ⟨e, h1, h2⟩)))
  · rw [tkey12_on (by omega) (not_turn12 h1), tkey12_on (by omega) (not_turn12 h2)]
    unfold key12
    rw [cd12_eq.2 ⟨e, h1.trans h2.symm⟩]
    exact h3.cons
  · rw [tkey12_on (by omega) (not_turn12 h1), tkey12_on (by omega) (not_turn12 h2)]
    unfold key12
    rw [cd12_eq.2 ⟨e, h1.trans h2.symm⟩, tkey12_none h3]
    exact (LE12.nil _).cons
theorem Ty12.frk3 {n : Nat} {S : Nat → Int} {sm : Nat → Bool} (H : Ty12 n S sm) : Fr12 n (fun i => - S i) (fun i => sm i = true) (fun i => sm i = false) (fun _ => False) (fun i j => LE12 (key12 n S sm j) (key12 n S sm i)) := by
  refine H.fr3 (le := fun i j => LE12 (key12 n S sm i) (key12 n S sm j)) (fun i j hi hj e => ?_) (fun i j hi hj e h1 h2 => ?_) (fun i j hi hj e h1 h2 h3 => ?_)
  · exact Or.inr (.lt (cd12_lt.2 (Or.inl e)))
  · exact Or.inr (.lt (cd12_lt.2 (Or.inr ⟨e, h1, h2⟩)))
  · rw [← tkey12_on (by omega) (not_turn12' h1), ← tkey12_on (by omega) (not_turn12' h2)] at h3
    show LE12 (_ :: _) (_ :: _)
    rw [cd12_eq.2 ⟨e, h1.trans h2.symm⟩]
    exact h3.cons
theorem Ty12.frs2 {n : Nat} {S : Nat → Int} {sm : Nat → Bool} (H : Ty12 n S sm) : Fr12 n S (fun i => sm i = false) (tn12 sm) (D12 n) (Ls12 n S) :=
  H.fr2 (fun i j hi hj e => .lt hi hj e) (fun i j hi hj e h1 h2 => H.less n i j (by omega) hi hj e h1 h2) (fun i j hi hj e h1 h2 h3 => .eq (by omega) (by omega) e h3) (fun i j hi hj e h1 h2 h3 => .eq hi (by omega) e (.fin h3 hj))
theorem Ty12.frs3 {n : Nat} {S : Nat → Int} {sm : Nat → Bool} (H : Ty12 n S sm) : Fr12 n (fun i => - S i) (fun i => sm i = true) (fun i => sm i = false) (fun _ => False) (fun i j => Ls12 n S j i) :=
  H.fr3 (le := Ls12 n S) (fun i j hi hj e => .lt hi hj e) (fun i j hi hj e h1 h2 => H.less n i j (by omega) hi hj e h1 h2) (fun i j hi hj e h1 h2 h3 => .eq (by omega) (by omega) e h3)
theorem Ty12.frt2 {n : Nat} {S : Nat → Int} {sm : Nat → Bool} (H : Ty12 n S sm) : Fr12 n S (fun i => sm i = false) (tn12 sm) (D12 n) (fun _ _ => True) :=
  H.fr2 (fun i j hi hj e => trivial) (fun i j hi hj e h1 h2 => trivial) (fun i j hi hj e h1 h2 h3 => trivial) (fun i j hi hj e h1 h2 h3 => trivial)
theorem Ty12.frt3 {n : Nat} {S : Nat → Int} {sm : Nat → Bool} (H : Ty12 n S sm) : Fr12 n (fun i => - S i) (fun i => sm i = true) (fun i => sm i = false) (fun _ => False) (fun _ _ => True) :=
  H.fr3 (le := fun _ _ => True) (fun i j hi hj e => trivial) (fun i j hi hj e h1 h2 => trivial) (fun i j hi hj e h1 h2 h3 => trivial)
/-- A lesser piece, a lesser suffix. -/
theorem Ty12.tkey_less {n : Nat} {S : Nat → Int} {sm : Nat → Bool} (H : Ty12 n S sm) : ∀ (d i j : Nat), n ≤ i + d → (sm i = sm j → (tn12 sm i ↔ tn12 sm j)) → LL12 (tkey12 n S sm i) (tkey12 n S sm j) → Ls12 n S i j := by
  intro d
  induction d with
  | zero =>
    intro i j h hc hl
    rw [tkey12_none (i := i) (by omega)] at hl
    by_cases hj : j < n
    · exact .fin (by omega) hj
    · rw [tkey12_none hj] at hl; cases hl
  | succ d ih =>
    intro i j h hc hl
    by_cases hi : i < n
    · by_cases hj : j < n
      · obtain ⟨a, ha⟩ := tkey12_head (S := S) (sm := sm) hi
        obtain ⟨b, hb⟩ := tkey12_head (S := S) (sm := sm) hj
        by_cases ec : cd12 S sm i = cd12 S sm j
        · obtain ⟨e1, e2⟩ := cd12_eq.1 ec
          by_cases ht : tn12 sm i
          · rw [tkey12_turn hi ht, tkey12_turn hj ((hc e2).1 ht), ec] at hl
            exact hl.irrefl.elim
          · have ht' : ¬ tn12 sm j := fun k => ht ((hc e2).2 k)
            rw [tkey12_on hi ht, tkey12_on hj ht'] at hl
            unfold key12 at hl
            rcases hl.inv with f | ⟨_, f⟩
            · omega
            · refine .eq hi hj e1 (ih (i + 1) (j + 1) (by omega) (fun e3 => ?_) f)
              unfold tn12
              simp [e3, e2]
        · rw [ha, hb] at hl
          rcases hl.inv with f | ⟨f, _⟩
          · rcases cd12_lt.1 f with f | ⟨f1, f2, f3⟩
            · exact .lt hi hj f
            · exact H.less n i j (by omega) hi hj f1 f2 f3
          · exact absurd f ec
      · rw [tkey12_none (i := j) hj] at hl; exact hl.no.elim
    · by_cases hj : j < n
      · exact .fin hi hj
      · rw [tkey12_none hi, tkey12_none hj] at hl; cases hl
theorem Ty12.key_less {n : Nat} {S : Nat → Int} {sm : Nat → Bool} (H : Ty12 n S sm) {i j : Nat} (hi : i < n) (hj : j < n) (h : LL12 (key12 n S sm i) (key12 n S sm j)) : Ls12 n S i j := by
  unfold key12 at h
  by_cases ec : cd12 S sm i = cd12 S sm j
  · obtain ⟨e1, e2⟩ := cd12_eq.1 ec
    rcases h.inv with f | ⟨_, f⟩
    · omega
    · exact .eq hi hj e1 (H.tkey_less n (i + 1) (j + 1) (by omega) (fun e3 => by unfold tn12; simp [e3, e2]) f)
  · rcases h.inv with f | ⟨f, _⟩
    · rcases cd12_lt.1 f with f | ⟨f1, f2, f3⟩
      · exact .lt hi hj f
      · exact H.less n i j (by omega) hi hj f1 f2 f3
    · exact absurd f ec
/-- Alike pieces at two places: up to the next turn all is alike. -/
theorem tkey12_same {n : Nat} {S : Nat → Int} {sm : Nat → Bool} : ∀ (d i j : Nat), n ≤ i + d → i ≤ n → j ≤ n → i ≠ j → (sm i = sm j → (tn12 sm i ↔ tn12 sm j)) → tkey12 n S sm i = tkey12 n S sm j →
    ∃ m, i + m < n ∧ j + m < n ∧ tn12 sm (i + m) ∧ tn12 sm (j + m) ∧ ∀ k, k < m → i + k < n ∧ j + k < n ∧ S (i + k) = S (j + k) ∧ ¬ tn12 sm (i + k) ∧ ¬ tn12 sm (j + k) := by
  intro d
  induction d with
  | zero =>
    intro i j h hi hj hne hc e
    rw [tkey12_none (i := i) (by omega)] at e
    obtain ⟨l, hl⟩ := tkey12_head (n := n) (S := S) (sm := sm) (i := j) (by omega)
    rw [hl] at e; cases e
  | succ d ih =>
    intro i j h hi hj hne hc e
    by_cases h1 : i < n
    · by_cases h2 : j < n
      · have ec : cd12 S sm i = cd12 S sm j := by
          obtain ⟨a, ha⟩ := tkey12_head (S := S) (sm := sm) h1
          obtain ⟨b, hb⟩ := tkey12_head (S := S) (sm := sm) h2
          rw [ha, hb] at e
          exact (List.cons.inj e).1
        obtain ⟨e1, e2⟩ := cd12_eq.1 ec
        by_cases ht : tn12 sm i
        · exact ⟨0, h1, h2, ht, (hc e2).1 ht, fun k hk => by omega⟩
        · have ht' : ¬ tn12 sm j := fun k => ht ((hc e2).2 k)
          rw [tkey12_on h1 ht, tkey12_on h2 ht'] at e
          obtain ⟨m, a, b, c, f, g⟩ := ih (i + 1) (j + 1) (by omega) (by omega) (by omega) (by omega) (fun e3 => by unfold tn12; simp [e3, e2]) (List.cons.inj e).2
          refine ⟨m + 1, by omega, by omega, by rw [show i + (m + 1) = i + 1 + m by omega]; exact c, by rw [show j + (m + 1) = j + 1 + m by omega]; exact f, fun k hk => ?_⟩
          cases k with
          | zero => exact ⟨h1, h2, e1, ht, ht'⟩
          | succ k => have := g k (by omega); rw [show i + (k + 1) = i + 1 + k by omega, show j + (k + 1) = j + 1 + k by omega]; exact this
      · rw [tkey12_none (i := j) h2] at e
        obtain ⟨l, hl⟩ := tkey12_head (n := n) (S := S) (sm := sm) h1
        rw [hl] at e; cases e
    · rw [tkey12_none (i := i) h1] at e
      obtain ⟨l, hl⟩ := tkey12_head (n := n) (S := S) (sm := sm) (i := j) (by omega)
      rw [hl] at e; cases e
end Go.Proofs.YtmfpdchfofffeaaGreatDoor

namespace Go.Proofs.YtmfpdchfofffeaaGreatDoor
set_option linter.unusedVariables false
abbrev Rw12 := (Nat → Int) × (Int → Int)
def put12 (s : Nat → Int) (x : Rw12) (j : Nat) : Rw12 := (pR12 x.1 x.2 s j, pH12 x.2 s j)
def ng12 (S : Nat → Int) : Nat → Int := fun i => - S i
noncomputable def h12 (n : Nat) (s : Nat → Int) : Int → Int := fun v => ((bk12 n s v : Nat) : Int)
/-- The turns, from the last of the order on; seen from the right. -/
noncomputable def ps12 (n : Nat) (S : Nat → Int) : List Nat → Rw12
  | [] => (fun _ => -1, h12 n (ng12 S))
  | j :: r => put12 (ng12 S) (ps12 n S r) j
def mir12 (n : Nat) (R : Nat → Int) : Nat → Int := fun q => R (n - 1 - q)
def go12 (s : Nat → Int) (t : Bool) (sm : Nat → Bool) (x : Rw12) (p : Nat) : Rw12 := if 0 < x.1 p ∧ sm (x.1 p - 1).toNat = t then put12 s x (x.1 p - 1).toNat else x
def ru12 (s : Nat → Int) (t : Bool) (sm : Nat → Bool) (x : Rw12) : Nat → Rw12
  | 0 => x
  | p + 1 => go12 s t sm (ru12 s t sm x p) p
noncomputable def ss12 (n : Nat) (S : Nat → Int) (o : List Nat) : Rw12 := (mir12 n (ps12 n S o).1, h12 n S)
noncomputable def s2i12 (n : Nat) (S : Nat → Int) (o : List Nat) : Rw12 := if 0 < n then put12 S (ss12 n S o) (n - 1) else ss12 n S o
noncomputable def st2_12 (n : Nat) (S : Nat → Int) (sm : Nat → Bool) (o : List Nat) (p : Nat) : Rw12 := ru12 S false sm (s2i12 n S o) p
def tak12 (sm : Nat → Bool) (R : Nat → Int) : Nat → Int := fun q => if 0 ≤ R q ∧ sm (R q).toNat = true then -1 else R q
noncomputable def s3i12 (n : Nat) (S : Nat → Int) (sm : Nat → Bool) (o : List Nat) : Rw12 := (mir12 n (tak12 sm (st2_12 n S sm o n).1), h12 n (ng12 S))
noncomputable def st3_12 (n : Nat) (S : Nat → Int) (sm : Nat → Bool) (o : List Nat) (p : Nat) : Rw12 := ru12 (ng12 S) true sm (s3i12 n S sm o) p
noncomputable def ind12 (n : Nat) (S : Nat → Int) (sm : Nat → Bool) (o : List Nat) : Nat → Int := mir12 n (st3_12 n S sm o n).1

theorem bk12_ng (n : Nat) (S : Nat → Int) (v : Int) : bk12 n (ng12 S) (-v) + bk12 n S (v + 1) = n := by
  have h1 : cn12 (fun _ => True) n = cn12 (fun i => ng12 S i < -v) n + cn12 (fun i => S i < v + 1) n := cn12_or (fun i _ => by unfold ng12; simp; omega) (fun i _ => by unfold ng12; omega)
  rw [cn12_all (P := fun _ => True) (fun _ _ => trivial)] at h1
  unfold bk12
  omega
theorem tc12_ng (n : Nat) (S : Nat → Int) (T : Nat → Prop) (v : Int) : tc12 n (ng12 S) T (-v) = tc12 n S T v := cn12_congr fun i _ => by unfold ng12; constructor <;> rintro ⟨a, b⟩ <;> exact ⟨a, by omega⟩
theorem pR12_at {R : Nat → Int} {h : Int → Int} {s : Nat → Int} {j P : Nat} (e : h (s j) = (P : Int)) (q : Nat) : pR12 R h s j q = if q = P then (j : Int) else R q := by
  unfold pR12; rw [e]
  by_cases k : q = P
  · simp [k]
  · have : ¬ (q : Int) = (P : Int) := by omega
    simp [k, this]
theorem St12.in_put {n : Nat} {s : Nat → Int} {T U : Nat → Prop} {R : Nat → Int} {h : Int → Int} (H : St12 n s T U R h) {j : Nat} (hj : j < n) (ht : T j) (hn : ¬ In12 n R j) (i : Nat) : In12 n (pR12 R h s j) i ↔ i = j ∨ In12 n R i := by
  obtain ⟨P, eP, hP1, hP2, hP3, hPn, hPe⟩ := H.place hj ht hn
  constructor
  · rintro ⟨q, hq, e⟩
    rw [pR12_at eP] at e
    by_cases eq : q = P
    · rw [if_pos eq] at e; left; omega
    · rw [if_neg eq] at e; right; exact ⟨q, hq, e⟩
  · rintro (rfl | ⟨q, hq, e⟩)
    · exact ⟨P, hPn, by rw [pR12_at eP, if_pos rfl]⟩
    · refine ⟨q, hq, ?_⟩
      rw [pR12_at eP, if_neg]
      · exact e
      · intro eq; rw [eq, hPe] at e; omega
/-- An empty row. -/
theorem st12_nil (n : Nat) (s : Nat → Int) (T : Nat → Prop) : St12 n s T (fun _ => False) (fun _ => -1) (h12 n s) where
  ok := fun q hq => Or.inl rfl
  inj := fun q q' _ _ _ h => by omega
  hd := fun i hi => by
    unfold h12
    rw [cn12_none (P := fun j => T j ∧ s j = s i ∧ In12 n (fun _ => -1) j)]
    · simp
    · rintro j _ ⟨_, _, q, _, e⟩; simp only at e; omega
  lo := fun q j _ _ e _ => by omega
  hi := fun q j _ _ e _ => by omega
  fl := fun i q hi hq e1 e2 => by exfalso; unfold h12 at e2; omega
  oth := fun j hj ht => ⟨by rintro ⟨q, _, e⟩; simp only at e; omega, False.elim⟩
/-- Pass 1. -/
theorem ps12_st {n : Nat} {S : Nat → Int} {sm : Nat → Bool} : ∀ (o : List Nat), o.Nodup → (∀ j ∈ o, j < n ∧ sm j = true) → St12 n (ng12 S) (fun i => sm i = true) (fun _ => False) (ps12 n S o).1 (ps12 n S o).2 ∧ ∀ j, In12 n (ps12 n S o).1 j ↔ j ∈ o
  | [], _, _ => ⟨st12_nil _ _ _, fun j => ⟨by rintro ⟨q, _, e⟩; simp only [ps12] at e; omega, by simp⟩⟩
  | j :: r, hn, hm => by
    obtain ⟨h1, h2⟩ := ps12_st (S := S) r (List.nodup_cons.1 hn).2 (fun k hk => hm k (by simp [hk]))
    have hj := hm j (by simp)
    have hno : ¬ In12 n (ps12 n S r).1 j := fun k => (List.nodup_cons.1 hn).1 ((h2 j).1 k)
    refine ⟨h1.put hj.1 hj.2 hno, fun i => ?_⟩
    show In12 n (pR12 _ _ _ _) i ↔ _
    rw [h1.in_put hj.1 hj.2 hno, h2 i, List.mem_cons]
theorem ps12_so {n : Nat} {S : Nat → Int} {sm : Nat → Bool} {le : Nat → Nat → Prop} (l1 : ∀ i j, i < n → j < n → S i < S j → le i j) (l2 : ∀ i j, i < n → j < n → S i = S j → sm i = false → sm j = true → le i j) : ∀ (o : List Nat), o.Nodup → (∀ j ∈ o, j < n ∧ sm j = true) → o.Pairwise (fun i j => S i = S j → le i j) →
    ∀ q q' i j : Nat, q < q' → q' < n → i < n → j < n → (ps12 n S o).1 q = (i : Int) → (ps12 n S o).1 q' = (j : Int) → le j i
  | [], _, _, _ => fun q q' i j _ _ _ _ e _ => by simp only [ps12] at e; omega
  | k :: r, hn, hm, hp => by
    obtain ⟨h1, h2⟩ := ps12_st (S := S) r (List.nodup_cons.1 hn).2 (fun k hk => hm k (by simp [hk]))
    have hj := hm k (by simp)
    have hno : ¬ In12 n (ps12 n S r).1 k := fun h => (List.nodup_cons.1 hn).1 ((h2 k).1 h)
    refine St12.so_put (le := fun i j => le j i) (fun i j hi hj e => l1 j i hj hi (by unfold ng12 at e; omega)) (fun i j hi hj e t1 t2 => l2 j i hj hi (by unfold ng12 at e; omega) (by simpa using t2) t1) h1 (ps12_so l1 l2 r (List.nodup_cons.1 hn).2 (fun k hk => hm k (by simp [hk])) (List.pairwise_cons.1 hp).2) hj.1 hj.2 hno ?_
    intro i hi hti ev hin
    exact (List.pairwise_cons.1 hp).1 i ((h2 i).1 hin) (by unfold ng12 at ev; omega)
structure Or12 (n : Nat) (sm : Nat → Bool) (o : List Nat) : Prop where
  nd : o.Nodup
  mem : ∀ j, j ∈ o ↔ j < n ∧ tn12 sm j
theorem Or12.small {n : Nat} {sm : Nat → Bool} {o : List Nat} (h : Or12 n sm o) : ∀ j ∈ o, j < n ∧ sm j = true := fun j hj => ⟨((h.mem j).1 hj).1, ((h.mem j).1 hj).2.2.1⟩
theorem mir12_in {n : Nat} {R : Nat → Int} (j : Nat) : In12 n (mir12 n R) j ↔ In12 n R j := by
  constructor
  · rintro ⟨q, hq, e⟩; exact ⟨n - 1 - q, by omega, e⟩
  · rintro ⟨q, hq, e⟩; exact ⟨n - 1 - q, by omega, by unfold mir12; rw [show n - 1 - (n - 1 - q) = q by omega]; exact e⟩
/-- The row ahead of pass 2. -/
theorem ss12_st {n : Nat} {S : Nat → Int} {sm : Nat → Bool} {o : List Nat} (ho : Or12 n sm o) : St12 n S (fun i => sm i = false) (tn12 sm) (ss12 n S o).1 (ss12 n S o).2 ∧ ∀ j, j < n → sm j = false → ¬ In12 n (ss12 n S o).1 j := by
  obtain ⟨h1, h2⟩ := ps12_st (S := S) o ho.nd ho.small
  have hno : ∀ j, j < n → sm j = false → ¬ In12 n (ss12 n S o).1 j := by
    intro j hj ht hin
    have := (ho.small j ((h2 j).1 ((mir12_in j).1 hin))).2
    rw [ht] at this; cases this
  refine ⟨⟨fun q hq => ?_, fun q q' hq hq' e e0 => ?_, fun i hi => ?_, fun q j hq hj e ht => ?_, fun q j hq hj e ht => ?_, fun i q hi hq e1 e2 => ?_, fun j hj ht => ?_⟩, hno⟩
  · rcases h1.ok (n - 1 - q) (by omega) with h0 | ⟨j, hj, e, a, b⟩
    · exact Or.inl h0
    · refine Or.inr ⟨j, hj, e, ?_, ?_⟩
      · have := bk12_ng n S (S j - 1)
        rw [show -(S j - 1) = ng12 S j + 1 by unfold ng12; omega, show S j - 1 + 1 = S j by omega] at this
        omega
      · have := bk12_ng n S (S j)
        rw [show -(S j) = ng12 S j from rfl] at this
        omega
  · have := h1.inj (n - 1 - q) (n - 1 - q') (by omega) (by omega) e e0
    omega
  · show h12 n S (S i) = _
    rw [cn12_none (P := fun j => sm j = false ∧ S j = S i ∧ In12 n (ss12 n S o).1 j)]
    · rfl
    · rintro j hj ⟨a, _, b⟩; exact hno j hj a b
  · exact absurd ⟨q, hq, e⟩ (hno j hj ht)
  · have ht' : sm j = true := by simpa using ht
    have a := h1.lo (n - 1 - q) j (by omega) hj e ht'
    rw [h1.hd j hj] at a
    have hle : cn12 (fun i => sm i = true ∧ ng12 S i = ng12 S j ∧ In12 n (ps12 n S o).1 i) n ≤ tc12 n (ng12 S) (fun i => sm i = true) (ng12 S j) := cn12_le (fun i _ h => ⟨h.1, h.2.1⟩)
    have b1 := bk12_ng n S (S j)
    have b2 := tc12_ng n S (fun i => sm i = true) (S j)
    rw [show -(S j) = ng12 S j from rfl] at b1 b2
    have b3 := bk12_succ n S (fun i => sm i = false) (S j)
    have b4 : tc12 n S (fun i => ¬ sm i = false) (S j) = tc12 n S (fun i => sm i = true) (S j) := cn12_congr (fun i _ => by simp)
    omega
  · have : h12 n S (S i) = ((bk12 n S (S i) : Nat) : Int) := rfl
    have e2 : (q : Int) < h12 n S (S i) := e2
    omega
  · show In12 n (mir12 n _) j ↔ _
    rw [mir12_in, h2 j, ho.mem j]
    exact ⟨fun h => h.2, fun h => ⟨hj, h⟩⟩
/-- A step of a pass. -/
theorem ru12_pg {n : Nat} {s : Nat → Int} {sm : Nat → Bool} {t : Bool} {U D : Nat → Prop} {le : Nat → Nat → Prop} {x : Rw12} (F : Fr12 n s (fun i => sm i = t) U D le) (H : Pg12 n s (fun i => sm i = t) U D le 0 x.1 x.2) : ∀ p, p ≤ n → Pg12 n s (fun i => sm i = t) U D le p (ru12 s t sm x p).1 (ru12 s t sm x p).2
  | 0, _ => H
  | p + 1, hp => by
    have ih := ru12_pg F H p (by omega)
    show Pg12 _ _ _ _ _ _ (p + 1) (go12 s t sm (ru12 s t sm x p) p).1 (go12 s t sm (ru12 s t sm x p) p).2
    unfold go12
    generalize ru12 s t sm x p = y at ih
    by_cases hc : 0 < y.1 p ∧ sm (y.1 p - 1).toNat = t
    · rw [if_pos hc]
      have hjn : (y.1 p - 1).toNat < n := by
        rcases ih.st.ok p (by omega) with h0 | ⟨k, hk, hk1, _⟩ <;> omega
      exact (ih.step F (by omega) hjn (by omega) hc.2).2
    · rw [if_neg hc]
      refine ih.skip fun j e hj ht => hc ⟨by omega, ?_⟩
      rw [show (y.1 p - 1).toNat = j by omega]; exact ht
/-- Pass 2. -/
theorem st2_pg {n : Nat} {S : Nat → Int} {sm : Nat → Bool} {o : List Nat} {le : Nat → Nat → Prop} (H : Ty12 n S sm) (F : Fr12 n S (fun i => sm i = false) (tn12 sm) (D12 n) le) (ho : Or12 n sm o) (hp : o.Pairwise (fun i j => S i = S j → le i j)) (p : Nat) (hpn : p ≤ n) :
    Pg12 n S (fun i => sm i = false) (tn12 sm) (D12 n) le p (st2_12 n S sm o p).1 (st2_12 n S sm o p).2 := by
  refine ru12_pg F ?_ p hpn
  obtain ⟨h1, h2⟩ := ss12_st (S := S) ho
  have so := ps12_so F.l1 (fun i j hi hj e t1 t2 => F.l2 i j hi hj e t1 (by simp [t2])) o ho.nd ho.small hp
  have so' : ∀ q q' i j : Nat, q < q' → q' < n → i < n → j < n → (ss12 n S o).1 q = (i : Int) → (ss12 n S o).1 q' = (j : Int) → le i j :=
    fun q q' i j a b hi hj e1 e2 => so (n - 1 - q') (n - 1 - q) j i (by omega) (by omega) hj hi e2 e1
  unfold s2i12
  by_cases hn : 0 < n
  · rw [if_pos hn]
    refine Pg12.first F h1 h2 (by omega) (H.last _ (by omega)) (fun i hi ht => ?_) so'
    unfold D12; omega
  · rw [if_neg hn]
    exact Pg12.none h1 h2 (fun i hi => by omega) so'
theorem st2_t {n : Nat} {S : Nat → Int} {sm : Nat → Bool} {o : List Nat} (H : Ty12 n S sm) (ho : Or12 n sm o) (p : Nat) (hpn : p ≤ n) :
    Pg12 n S (fun i => sm i = false) (tn12 sm) (D12 n) (fun _ _ => True) p (st2_12 n S sm o p).1 (st2_12 n S sm o p).2 := st2_pg H H.frt2 ho (List.pairwise_of_forall (fun _ _ _ => trivial)) p hpn
/-- The row ahead of pass 3. -/
theorem s3i12_st {n : Nat} {S : Nat → Int} {sm : Nat → Bool} {o : List Nat} (H : Ty12 n S sm) (ho : Or12 n sm o) : St12 n (ng12 S) (fun i => sm i = true) (fun i => sm i = false) (s3i12 n S sm o).1 (s3i12 n S sm o).2 ∧ ∀ j, j < n → sm j = true → ¬ In12 n (s3i12 n S sm o).1 j := by
  have h2 := st2_t (S := S) H ho n (Nat.le_refl n)
  have tk : ∀ q j : Nat, j < n → ((tak12 sm (st2_12 n S sm o n).1) q = (j : Int) ↔ (st2_12 n S sm o n).1 q = (j : Int) ∧ sm j = false) := by
    intro q j hj
    unfold tak12
    by_cases hc : 0 ≤ (st2_12 n S sm o n).1 q ∧ sm ((st2_12 n S sm o n).1 q).toNat = true
    · rw [if_pos hc]
      constructor
      · intro e; omega
      · rintro ⟨e, k⟩; rw [e] at hc; simp [k] at hc
    · rw [if_neg hc]
      constructor
      · intro e; refine ⟨e, ?_⟩; rw [e] at hc; simp at hc; exact hc
      · exact fun e => e.1
  have hno : ∀ j, j < n → sm j = true → ¬ In12 n (s3i12 n S sm o).1 j := by
    rintro j hj ht ⟨q, hq, e⟩
    have := ((tk (n - 1 - q) j hj).1 e).2
    rw [ht] at this; cases this
  refine ⟨⟨fun q hq => ?_, fun q q' hq hq' e e0 => ?_, fun i hi => ?_, fun q j hq hj e ht => ?_, fun q j hq hj e ht => ?_, fun i q hi hq e1 e2 => ?_, fun j hj ht => ?_⟩, hno⟩
  · show tak12 sm (st2_12 n S sm o n).1 (n - 1 - q) = -1 ∨ _
    rcases h2.st.ok (n - 1 - q) (by omega) with h0 | ⟨j, hj, e, a, b⟩
    · left; unfold tak12; rw [h0]; simp
    · by_cases ht : sm j = true
      · left; unfold tak12; rw [e]; simp [ht]
      · right
        refine ⟨j, hj, (tk _ j hj).2 ⟨e, by simpa using ht⟩, ?_, ?_⟩
        · have := bk12_ng n S (S j)
          rw [show -(S j) = ng12 S j from rfl] at this
          omega
        · have := bk12_ng n S (S j - 1)
          rw [show -(S j - 1) = ng12 S j + 1 by unfold ng12; omega, show S j - 1 + 1 = S j by omega] at this
          omega
  · have e : tak12 sm (st2_12 n S sm o n).1 (n - 1 - q) = tak12 sm (st2_12 n S sm o n).1 (n - 1 - q') := e
    have e0 : 0 ≤ tak12 sm (st2_12 n S sm o n).1 (n - 1 - q) := e0
    have g : ∀ r : Nat, 0 ≤ tak12 sm (st2_12 n S sm o n).1 r → tak12 sm (st2_12 n S sm o n).1 r = (st2_12 n S sm o n).1 r := by
      intro r hr
      unfold tak12 at hr ⊢
      by_cases hc : 0 ≤ (st2_12 n S sm o n).1 r ∧ sm ((st2_12 n S sm o n).1 r).toNat = true
      · rw [if_pos hc] at hr; omega
      · rw [if_neg hc]
    have e1 := g _ e0
    have e2 := g (n - 1 - q') (by omega)
    have := h2.st.inj (n - 1 - q) (n - 1 - q') (by omega) (by omega) (by omega) (by omega)
    omega
  · show h12 n (ng12 S) (ng12 S i) = _
    rw [cn12_none (P := fun j => sm j = true ∧ ng12 S j = ng12 S i ∧ In12 n (s3i12 n S sm o).1 j)]
    · rfl
    · rintro j hj ⟨a, _, b⟩; exact hno j hj a b
  · exact absurd ⟨q, hq, e⟩ (hno j hj ht)
  · have ht' : sm j = false := by simpa using ht
    have a := h2.st.lo (n - 1 - q) j (by omega) hj ((tk _ j hj).1 e).1 ht'
    rw [h2.full H.frt2 hj] at a
    have b1 := bk12_ng n S (S j)
    have b2 := tc12_ng n S (fun i => sm i = true) (S j)
    rw [show -(S j) = ng12 S j from rfl] at b1 b2
    have b3 := bk12_succ n S (fun i => sm i = false) (S j)
    have b4 : tc12 n S (fun i => ¬ sm i = false) (S j) = tc12 n S (fun i => sm i = true) (S j) := cn12_congr (fun i _ => by simp)
    omega
  · have e2 : (q : Int) < h12 n (ng12 S) (ng12 S i) := e2
    have : h12 n (ng12 S) (ng12 S i) = ((bk12 n (ng12 S) (ng12 S i) : Nat) : Int) := rfl
    omega
  · have ht' : sm j = false := by simpa using ht
    refine ⟨fun _ => ht', fun _ => ?_⟩
    obtain ⟨q, hq, e⟩ := h2.all H.frt2 (n - j) j hj (by omega) ht'
    exact (mir12_in j).2 ⟨q, hq, (tk q j hj).2 ⟨e, ht'⟩⟩
/-- Pass 3. -/
theorem st3_pg {n : Nat} {S : Nat → Int} {sm : Nat → Bool} {o : List Nat} {le2 le3 : Nat → Nat → Prop} (H : Ty12 n S sm) (F2 : Fr12 n S (fun i => sm i = false) (tn12 sm) (D12 n) le2) (F3 : Fr12 n (ng12 S) (fun i => sm i = true) (fun i => sm i = false) (fun _ => False) (fun i j => le3 j i)) (hl : ∀ i j, i < n → j < n → sm i = false → sm j = false → le2 i j → le3 i j) (ho : Or12 n sm o) (hp : o.Pairwise (fun i j => S i = S j → le2 i j)) (p : Nat) (hpn : p ≤ n) :
    Pg12 n (ng12 S) (fun i => sm i = true) (fun i => sm i = false) (fun _ => False) (fun i j => le3 j i) p (st3_12 n S sm o p).1 (st3_12 n S sm o p).2 := by
  refine ru12_pg F3 ?_ p hpn
  obtain ⟨h1, h2⟩ := s3i12_st (S := S) H ho
  have h3 := st2_pg (S := S) H F2 ho hp n (Nat.le_refl n)
  have g : ∀ (r j : Nat), j < n → tak12 sm (st2_12 n S sm o n).1 r = (j : Int) → (st2_12 n S sm o n).1 r = (j : Int) ∧ sm j = false := by
    intro r j hj e
    unfold tak12 at e
    by_cases hc : 0 ≤ (st2_12 n S sm o n).1 r ∧ sm ((st2_12 n S sm o n).1 r).toNat = true
    · rw [if_pos hc] at e; omega
    · rw [if_neg hc] at e; refine ⟨e, ?_⟩; rw [e] at hc; simp at hc; exact hc
  refine Pg12.none h1 h2 (fun i hi _ k => k) ?_
  intro q q' i j a b hi hj e1 e2
  obtain ⟨f1, f2⟩ := g (n - 1 - q) i hi e1
  obtain ⟨f3, f4⟩ := g (n - 1 - q') j hj e2
  exact hl j i hj hi f4 f2 (h3.so (n - 1 - q') (n - 1 - q) j i (by omega) (by omega) hj hi f3 f1)
theorem st3_t {n : Nat} {S : Nat → Int} {sm : Nat → Bool} {o : List Nat} (H : Ty12 n S sm) (ho : Or12 n sm o) (p : Nat) (hpn : p ≤ n) :
    Pg12 n (ng12 S) (fun i => sm i = true) (fun i => sm i = false) (fun _ => False) (fun _ _ => True) p (st3_12 n S sm o p).1 (st3_12 n S sm o p).2 := st3_pg (le3 := fun _ _ => True) H H.frt2 H.frt3 (fun _ _ _ _ _ _ _ => trivial) ho (List.pairwise_of_forall (fun _ _ _ => trivial)) p hpn
/-- Places that are taken by all are all taken. -/
theorem fill12 {n : Nat} {R : Nat → Int} (h : ∀ j, j < n → In12 n R j) : ∀ q, q < n → ∃ j, j < n ∧ R q = (j : Int) := by
  have hc : ∀ m, m ≤ n → m ≤ cn12 (fun q => ∃ j, j < m ∧ R q = (j : Int)) n := by
    intro m
    induction m with
    | zero => intro _; omega
    | succ m ih =>
      intro hm
      obtain ⟨q, hq, e⟩ := h m (by omega)
      have := cn12_lt (P := fun q => ∃ j, j < m ∧ R q = (j : Int)) (Q := fun q => ∃ j, j < m + 1 ∧ R q = (j : Int)) (n := n) (j := q) (fun i _ ⟨j, a, b⟩ => ⟨j, by omega, b⟩) hq (by rintro ⟨j, a, b⟩; omega) ⟨m, by omega, e⟩
      have := ih (by omega)
      omega
  intro q hq
  rcases Classical.em (∃ j, j < n ∧ R q = (j : Int)) with k | k
  · exact k
  · exfalso
    have h1 := hc n (Nat.le_refl n)
    have h2 := cn12_lt (P := fun q => ∃ j, j < n ∧ R q = (j : Int)) (Q := fun _ => True) (n := n) (j := q) (fun _ _ _ => trivial) hq k trivial
    rw [cn12_all (P := fun _ => True) (fun _ _ => trivial)] at h2
    omega
structure Pm12 (n : Nat) (R : Nat → Int) : Prop where
  all : ∀ j, j < n → In12 n R j
  fill : ∀ q, q < n → ∃ j, j < n ∧ R q = (j : Int)
  inj : ∀ q q', q < n → q' < n → R q = R q' → q = q'
theorem ind12_pm {n : Nat} {S : Nat → Int} {sm : Nat → Bool} {o : List Nat} (H : Ty12 n S sm) (ho : Or12 n sm o) : Pm12 n (ind12 n S sm o) := by
  have h3 := st3_t (S := S) H ho n (Nat.le_refl n)
  have hall : ∀ j, j < n → In12 n (ind12 n S sm o) j := by
    intro j hj
    refine (mir12_in j).2 ?_
    by_cases ht : sm j = true
    · exact h3.all H.frt3 (n - j) j hj (by omega) ht
    · exact (h3.st.oth j hj ht).2 (by simpa using ht)
  have hf := fill12 hall
  refine ⟨hall, hf, fun q q' hq hq' e => ?_⟩
  obtain ⟨j, _, ej⟩ := hf q hq
  have := h3.st.inj (n - 1 - q) (n - 1 - q') (by omega) (by omega) e (by show 0 ≤ ind12 n S sm o q; omega)
  omega
theorem ind12_so {n : Nat} {S : Nat → Int} {sm : Nat → Bool} {o : List Nat} {le2 le3 : Nat → Nat → Prop} (H : Ty12 n S sm) (F2 : Fr12 n S (fun i => sm i = false) (tn12 sm) (D12 n) le2) (F3 : Fr12 n (ng12 S) (fun i => sm i = true) (fun i => sm i = false) (fun _ => False) (fun i j => le3 j i)) (hl : ∀ i j, i < n → j < n → sm i = false → sm j = false → le2 i j → le3 i j) (ho : Or12 n sm o) (hp : o.Pairwise (fun i j => S i = S j → le2 i j)) :
    ∀ q q' i j : Nat, q < q' → q' < n → i < n → j < n → ind12 n S sm o q = (i : Int) → ind12 n S sm o q' = (j : Int) → le3 i j := by
  intro q q' i j a b hi hj e1 e2
  exact (st3_pg H F2 F3 hl ho hp n (Nat.le_refl n)).so (n - 1 - q') (n - 1 - q) j i (by omega) (by omega) hj hi e2 e1
/-- P12.6. -/
theorem ind12_less {n : Nat} {S : Nat → Int} {sm : Nat → Bool} {o : List Nat} (H : Ty12 n S sm) (ho : Or12 n sm o) (hp : o.Pairwise (Ls12 n S)) :
    ∀ q q' i j : Nat, q < q' → q' < n → i < n → j < n → ind12 n S sm o q = (i : Int) → ind12 n S sm o q' = (j : Int) → Ls12 n S i j :=
  ind12_so H H.frs2 H.frs3 (fun i j _ _ _ _ h => h) ho (List.Pairwise.imp (S := fun i j => S i = S j → Ls12 n S i j) (fun h _ => h) hp)
/-- P12.7. -/
theorem ind12_key {n : Nat} {S : Nat → Int} {sm : Nat → Bool} {o : List Nat} (H : Ty12 n S sm) (ho : Or12 n sm o) :
    ∀ q q' i j : Nat, q < q' → q' < n → i < n → j < n → ind12 n S sm o q = (i : Int) → ind12 n S sm o q' = (j : Int) → LE12 (key12 n S sm i) (key12 n S sm j) := by
  refine ind12_so H H.frk2 H.frk3 (fun i j hi hj h1 h2 h => ?_) ho ?_
  · rw [tkey12_on hi (not_turn12 h1), tkey12_on hj (not_turn12 h2)] at h
    exact h
  · have := ho.mem
    refine List.Pairwise.imp_of_mem (R := fun _ _ => True) (fun {i j} hi hj _ e => ?_) (List.pairwise_of_forall (fun _ _ => trivial))
    have a := (ho.mem i).1 hi
    have b := (ho.mem j).1 hj
    rw [tkey12_turn a.1 a.2, tkey12_turn b.1 b.2, cd12_eq.2 ⟨e, a.2.2.1.trans b.2.2.1.symm⟩]
    exact Or.inl rfl
end Go.Proofs.YtmfpdchfofffeaaGreatDoor

namespace Go.Proofs.YtmfpdchfofffeaaGreatDoor
set_option linter.unusedVariables false
def S12 (s : List Int) (i : Nat) : Int := s.getD i 0
def sf12 (n : Nat) (S : Nat → Int) : Nat → Nat → Bool
  | 0, _ => false
  | f + 1, i => if i + 1 < n then (decide (S i < S (i + 1)) || (decide (S i = S (i + 1)) && sf12 n S f (i + 1))) else false
theorem sf12_more {n : Nat} {S : Nat → Int} : ∀ (f g i : Nat), n ≤ i + f → n ≤ i + g → sf12 n S f i = sf12 n S g i
  | 0, 0, i, _, _ => rfl
  | 0, g + 1, i, h, _ => by unfold sf12; rw [if_neg (by omega)]
  | f + 1, 0, i, _, h => by unfold sf12; rw [if_neg (by omega)]
  | f + 1, g + 1, i, h, k => by unfold sf12; rw [sf12_more f g (i + 1) (by omega) (by omega)]
def sm12 (s : List Int) (i : Nat) : Bool := sf12 s.length (S12 s) s.length i
theorem ty12 (s : List Int) : Ty12 s.length (S12 s) (sm12 s) := by
  refine ⟨fun i hi => ?_, fun i hi => ?_⟩
  · unfold sm12
    rw [sf12_more s.length (s.length - 1) (i + 1) (by omega) (by omega)]
    generalize hn : s.length = n at *
    cases n with
    | zero => omega
    | succ m => rw [sf12, if_pos hi]; rfl
  · unfold sm12
    generalize hn : s.length = n at *
    cases n with
    | zero => rfl
    | succ m => rw [sf12, if_neg hi]
def typ12 (s : List Int) : List Bool := (List.range s.length).map (sm12 s)
theorem typ12_len (s : List Int) : (typ12 s).length = s.length := by simp [typ12]
theorem typ12_get (s : List Int) (i : Nat) : (typ12 s).getD i false = sm12 s i := by
  by_cases h : i < s.length
  · simp [typ12, List.getD, h]
  · rw [(ty12 s).last i (by omega)]
    simp [typ12, List.getD, h]
def tb12 (sm : Nat → Bool) (i : Nat) : Bool := decide (0 < i) && sm i && !sm (i - 1)
theorem tb12_iff {sm : Nat → Bool} {i : Nat} : tb12 sm i = true ↔ tn12 sm i := by
  unfold tb12 tn12
  simp only [Bool.and_eq_true, decide_eq_true_eq, Bool.not_eq_true', and_assoc]
def tns12 (s : List Int) : List Nat := (List.range s.length).filter (tb12 (sm12 s))
theorem tns12_or (s : List Int) : Or12 s.length (sm12 s) (tns12 s) :=
  ⟨List.Pairwise.filter _ List.nodup_range, fun j => by unfold tns12; rw [List.mem_filter, List.mem_range, tb12_iff]⟩
theorem tns12_lt (s : List Int) : (tns12 s).Pairwise (· < ·) := List.Pairwise.filter _ List.pairwise_lt_range
theorem tn12_lt {n : Nat} {S : Nat → Int} {sm : Nat → Bool} (H : Ty12 n S sm) {i : Nat} (h : tn12 sm i) : i + 1 < n := (H.small h.2.1).1
theorem tn12_two {sm : Nat → Bool} {i j : Nat} (hi : tn12 sm i) (hj : tn12 sm j) (h : i / 2 = j / 2) : i = j := by
  rcases Nat.lt_trichotomy i j with k | k | k
  · have : j = i + 1 := by omega
    subst this
    exact absurd hj (not_turn12' hi.2.1)
  · exact k
  · have : i = j + 1 := by omega
    subst this
    exact absurd hi (not_turn12' hj.2.1)
structure Ar12 (n : Nat) (S : Nat → Int) (A : List Nat) : Prop where
  len : A.length = n
  lt : ∀ j ∈ A, j < n
  all : ∀ j, j < n → j ∈ A
  so : A.Pairwise (Ls12 n S)
def row12 (n : Nat) (R : Nat → Int) : List Nat := (List.range n).map (fun q => (R q).toNat)
theorem row12_mem {n : Nat} {R : Nat → Int} (h : Pm12 n R) (j : Nat) : j ∈ row12 n R ↔ j < n := by
  unfold row12
  rw [List.mem_map]
  constructor
  · rintro ⟨q, hq, e⟩
    obtain ⟨k, hk, e2⟩ := h.fill q (List.mem_range.1 hq)
    omega
  · intro hj
    obtain ⟨q, hq, e⟩ := h.all j hj
    exact ⟨q, List.mem_range.2 hq, by omega⟩
theorem row12_pair {n : Nat} {R : Nat → Int} (h : Pm12 n R) {r : Nat → Nat → Prop} (hr : ∀ q q' i j : Nat, q < q' → q' < n → i < n → j < n → R q = (i : Int) → R q' = (j : Int) → r i j) : (row12 n R).Pairwise r := by
  unfold row12
  rw [List.pairwise_map]
  refine List.Pairwise.imp_of_mem (R := fun a b => a < b) (fun {q q'} hq hq' k => ?_) List.pairwise_lt_range
  obtain ⟨i, hi, e1⟩ := h.fill q (List.mem_range.1 hq)
  obtain ⟨j, hj, e2⟩ := h.fill q' (List.mem_range.1 hq')
  rw [e1, e2]
  exact hr q q' i j k (List.mem_range.1 hq') hi hj e1 e2
theorem row12_ints {n : Nat} {R : Nat → Int} (h : Pm12 n R) : (row12 n R).map (fun j : Nat => (j : Int)) = (List.range n).map R := by
  unfold row12
  rw [List.map_map]
  refine List.map_congr_left fun q hq => ?_
  obtain ⟨i, hi, e1⟩ := h.fill q (List.mem_range.1 hq)
  simp only [Function.comp]
  omega
/-- P12.6. -/
theorem ar12_ind {n : Nat} {S : Nat → Int} {sm : Nat → Bool} {o : List Nat} (H : Ty12 n S sm) (ho : Or12 n sm o) (hp : o.Pairwise (Ls12 n S)) : Ar12 n S (row12 n (ind12 n S sm o)) := by
  have hm := ind12_pm (S := S) H ho
  exact ⟨by simp [row12], fun j hj => (row12_mem hm j).1 hj, fun j hj => (row12_mem hm j).2 hj, row12_pair hm (ind12_less H ho hp)⟩
/-- The turns of a row. -/
def by12 (sm : Nat → Bool) (A : List Nat) : List Nat := A.filter (tb12 sm)
theorem by12_or {n : Nat} {S : Nat → Int} {sm : Nat → Bool} {o : List Nat} (H : Ty12 n S sm) (ho : Or12 n sm o) : Or12 n sm (by12 sm (row12 n (ind12 n S sm o))) := by
  have hm := ind12_pm (S := S) H ho
  refine ⟨List.Pairwise.filter _ ?_, fun j => ?_⟩
  · refine (row12_pair hm (r := (· ≠ ·)) fun q q' i j a b hi hj e1 e2 e => ?_)
    have := hm.inj q q' (by omega) b (by rw [e1, e2, e])
    omega
  · unfold by12
    rw [List.mem_filter, row12_mem hm, tb12_iff]
theorem by12_key {n : Nat} {S : Nat → Int} {sm : Nat → Bool} {o : List Nat} (H : Ty12 n S sm) (ho : Or12 n sm o) : (by12 sm (row12 n (ind12 n S sm o))).Pairwise (fun i j => LE12 (key12 n S sm i) (key12 n S sm j)) :=
  List.Pairwise.filter _ (row12_pair (ind12_pm H ho) (ind12_key H ho))
open Classical in
noncomputable def cr12 (K : Nat → List Int) (b : List Nat) : Nat → Nat
  | 0 => 0
  | r + 1 => cr12 K b r + (if r = 0 ∨ K (b.getD (r - 1) 0) ≠ K (b.getD r 0) then 1 else 0)
theorem cr12_step {K : Nat → List Int} {b : List Nat} (r : Nat) : cr12 K b r ≤ cr12 K b (r + 1) ∧ cr12 K b (r + 1) ≤ cr12 K b r + 1 := by
  rw [cr12]; split <;> omega
theorem cr12_mono {K : Nat → List Int} {b : List Nat} (r : Nat) : ∀ d, cr12 K b r ≤ cr12 K b (r + d)
  | 0 => Nat.le_refl _
  | d + 1 => by have := cr12_mono (K := K) (b := b) r d; have := (cr12_step (K := K) (b := b) (r + d)).1; rw [← Nat.add_assoc]; omega
theorem cr12_pos {K : Nat → List Int} {b : List Nat} (r : Nat) : 1 ≤ cr12 K b (r + 1) := by
  have h : cr12 K b 1 = 1 := by simp [cr12]
  have := cr12_mono (K := K) (b := b) 1 r
  rw [Nat.add_comm] at this; omega
theorem cr12_le {K : Nat → List Int} {b : List Nat} : ∀ r, cr12 K b r ≤ r
  | 0 => Nat.le_refl _
  | r + 1 => by have := cr12_le (K := K) (b := b) r; have := (cr12_step (K := K) (b := b) r).2; omega
theorem cr12_stay {K : Nat → List Int} {b : List Nat} (r : Nat) : ∀ d, cr12 K b (r + d + 1) = cr12 K b (r + 1) → K (b.getD (r + d) 0) = K (b.getD r 0)
  | 0, _ => rfl
  | d + 1, h => by
    have h1 := cr12_mono (K := K) (b := b) (r + 1) d
    rw [show r + 1 + d = r + d + 1 by omega] at h1
    have h2 := cr12_step (K := K) (b := b) (r + d + 1)
    rw [show r + (d + 1) + 1 = r + d + 1 + 1 by omega] at h
    have h3 := cr12_stay (K := K) (b := b) r d (by omega)
    rw [cr12] at h
    by_cases hc : r + d + 1 = 0 ∨ K (b.getD (r + d + 1 - 1) 0) ≠ K (b.getD (r + d + 1) 0)
    · rw [if_pos hc] at h; omega
    · have hc2 : ¬ K (b.getD (r + d) 0) ≠ K (b.getD (r + d + 1) 0) := fun k => hc (Or.inr k)
      have := Classical.not_not.1 hc2
      rw [← Nat.add_assoc, ← this, h3]
theorem cr12_same {K : Nat → List Int} {b : List Nat} (hb : b.Pairwise (fun i j => LE12 (K i) (K j))) (r : Nat) : ∀ d, r + d < b.length → K (b.getD (r + d) 0) = K (b.getD r 0) → cr12 K b (r + d + 1) = cr12 K b (r + 1)
  | 0, _, _ => rfl
  | d + 1, hd, e => by
    have hp := List.pairwise_iff_getElem.1 hb
    have g : ∀ k (hk : k < b.length), b.getD k 0 = b[k] := fun k hk => by simp [List.getD, hk]
    have h1 : LE12 (K (b.getD (r + d) 0)) (K (b.getD (r + d + 1) 0)) := by rw [g _ (by omega), g _ (by omega)]; exact hp (r + d) (r + d + 1) (by omega) (by omega) (by omega)
    have h2 : LE12 (K (b.getD r 0)) (K (b.getD (r + d) 0)) := by
      by_cases hd0 : d = 0
      · subst hd0; exact Or.inl rfl
      · rw [g _ (by omega), g _ (by omega)]; exact hp r (r + d) (by omega) (by omega) (by omega)
    rw [← Nat.add_assoc] at e
    have e2 : K (b.getD (r + d) 0) = K (b.getD r 0) := by
      rcases h2 with h2 | h2
      · exact h2.symm
      · exfalso
        rw [e] at h1
        rcases h1 with h1 | h1
        · rw [h1] at h2; exact h2.irrefl
        · exact h2.asymm h1
    have ih := cr12_same hb r d (by omega) e2
    have hno : ¬ (r + d + 1 = 0 ∨ K (b.getD (r + d + 1 - 1) 0) ≠ K (b.getD (r + d + 1) 0)) := by
      rintro (k | k)
      · omega
      · exact k (by rw [show r + d + 1 - 1 = r + d by omega, e, e2])
    rw [show r + (d + 1) + 1 = r + d + 1 + 1 by omega, cr12, if_neg hno, ih, Nat.add_zero]
/-- Names tell the pieces' order. -/
theorem cr12_lt {K : Nat → List Int} {b : List Nat} (hb : b.Pairwise (fun i j => LE12 (K i) (K j))) {r r' : Nat} (hr : r < b.length) (hr' : r' < b.length) :
    (cr12 K b (r + 1) < cr12 K b (r' + 1) → LL12 (K (b.getD r 0)) (K (b.getD r' 0))) ∧ (cr12 K b (r + 1) = cr12 K b (r' + 1) ↔ K (b.getD r 0) = K (b.getD r' 0)) := by
  have hp := List.pairwise_iff_getElem.1 hb
  have g : ∀ k (hk : k < b.length), b.getD k 0 = b[k] := fun k hk => by simp [List.getD, hk]
  rcases Nat.le_total r r' with h | h
  · obtain ⟨d, rfl⟩ : ∃ d, r' = r + d := ⟨r' - r, by omega⟩
    have h2 : LE12 (K (b.getD r 0)) (K (b.getD (r + d) 0)) := by
      by_cases hd0 : d = 0
      · subst hd0; exact Or.inl rfl
      · rw [g _ (by omega), g _ (by omega)]; exact hp r (r + d) (by omega) (by omega) (by omega)
    refine ⟨fun k => ?_, fun k => (cr12_stay r d k.symm).symm, fun k => (cr12_same hb r d hr' k.symm).symm⟩
    rcases h2 with h2 | h2
    · rw [cr12_same hb r d hr' h2.symm] at k; omega
    · exact h2
  · obtain ⟨d, rfl⟩ : ∃ d, r = r' + d := ⟨r - r', by omega⟩
    have := cr12_mono (K := K) (b := b) (r' + 1) d
    rw [show r' + 1 + d = r' + d + 1 by omega] at this
    exact ⟨fun k => by omega, fun k => cr12_stay r' d k, fun k => cr12_same hb r' d hr k⟩
/-- As many names as turns: no two pieces are alike. -/
theorem cr12_full {K : Nat → List Int} {b : List Nat} (hb : b.Pairwise (fun i j => LE12 (K i) (K j))) (hc : cr12 K b b.length = b.length) : b.Pairwise (fun i j => LL12 (K i) (K j)) := by
  have hall : ∀ d r, r + d = b.length → cr12 K b r = r := by
    intro d
    induction d with
    | zero => intro r h; rw [show r = b.length by omega]; exact hc
    | succ d ih =>
      intro r h
      have h1 := ih (r + 1) (by omega)
      have h2 := cr12_step (K := K) (b := b) r
      have h3 := cr12_le (K := K) (b := b) r
      omega
  have g : ∀ k (hk : k < b.length), b.getD k 0 = b[k] := fun k hk => by simp [List.getD, hk]
  refine List.pairwise_iff_getElem.2 fun i j hi hj k => ?_
  have e1 := hall (b.length - (i + 1)) (i + 1) (by omega)
  have e2 := hall (b.length - (j + 1)) (j + 1) (by omega)
  have := (cr12_lt hb hi hj).1 (by omega)
  rw [g i hi, g j hj] at this
  exact this
structure Nm12 (n : Nat) (S : Nat → Int) (sm : Nat → Bool) (t : List Nat) (N : List Int) : Prop where
  len : N.length = t.length
  lt : ∀ a a', a < t.length → a' < t.length → N.getD a 0 < N.getD a' 0 → LL12 (key12 n S sm (t.getD a n)) (key12 n S sm (t.getD a' n))
  eq : ∀ a a', a < t.length → a' < t.length → N.getD a 0 = N.getD a' 0 → key12 n S sm (t.getD a n) = key12 n S sm (t.getD a' n)
theorem next12 {n : Nat} {sm : Nat → Bool} {t : List Nat} (ho : Or12 n sm t) (hl : t.Pairwise (· < ·)) {a : Nat} (ha : a < t.length) {u : Nat} (h1 : t.getD a n < u) (h2 : u < n) (h3 : tn12 sm u) (h4 : ∀ k, t.getD a n < k → k < u → ¬ tn12 sm k) : t.getD (a + 1) n = u := by
  have g : ∀ k (hk : k < t.length), t.getD k n = t[k] := fun k hk => by simp [List.getD, hk]
  have hp := List.pairwise_iff_getElem.1 hl
  obtain ⟨c, hc, e⟩ := List.mem_iff_getElem.1 ((ho.mem u).2 ⟨h2, h3⟩)
  rw [g a ha] at h1 h4
  have hac : a < c := by
    rcases Nat.lt_trichotomy a c with k | k | k
    · exact k
    · subst k; omega
    · have := hp c a hc ha k; omega
  by_cases hc1 : c = a + 1
  · subst hc1; rw [g (a + 1) hc]; exact e
  · exfalso
    have q1 := hp a (a + 1) ha (by omega) (by omega)
    have q2 := hp (a + 1) c (by omega) hc (by omega)
    exact h4 t[a + 1] q1 (by omega) ((ho.mem _).1 (List.getElem_mem _)).2
theorem Nm12.less {n : Nat} {S : Nat → Int} {sm : Nat → Bool} {t : List Nat} {N : List Int} (H : Ty12 n S sm) (ho : Or12 n sm t) (hl : t.Pairwise (· < ·)) (hN : Nm12 n S sm t N) {a a' : Nat} (h : Ls12 N.length (S12 N) a a') : Ls12 n S (t.getD a n) (t.getD a' n) := by
  have g : ∀ k (hk : k < t.length), t.getD k n < n ∧ tn12 sm (t.getD k n) := fun k hk => by
    have : t.getD k n = t[k] := by simp [List.getD, hk]
    rw [this]
    exact (ho.mem _).1 (List.getElem_mem _)
  rw [hN.len] at h
  induction h with
  | @fin a a' h1 h2 =>
    have e : t.getD a n = n := by simp [List.getD, List.getElem?_eq_none (Nat.not_lt.1 h1)]
    rw [e]
    exact .fin (by omega) (g a' h2).1
  | @lt a a' h1 h2 h3 => exact H.key_less (g a h1).1 (g a' h2).1 (hN.lt a a' h1 h2 h3)
  | @eq a a' h1 h2 h3 h4 ih =>
    have hk := hN.eq a a' h1 h2 h3
    have gi := g a h1
    have gj := g a' h2
    have hne : t.getD a n ≠ t.getD a' n := by
      intro e
      have hp := List.pairwise_iff_getElem.1 hl
      have e1 : t.getD a n = t[a] := by simp [List.getD, h1]
      have e2 : t.getD a' n = t[a'] := by simp [List.getD, h2]
      rcases Nat.lt_trichotomy a a' with k | k | k
      · have := hp a a' h1 h2 k; omega
      · subst k; exact h4.irrefl
      · have := hp a' a h2 h1 k; omega
    have na := @next12 n sm t ho hl a h1
    have na' := @next12 n sm t ho hl a' h2
    generalize t.getD a n = i at *
    generalize t.getD a' n = j at *
    unfold key12 at hk
    obtain ⟨e1, e2⟩ := List.cons.inj hk
    obtain ⟨f1, f2⟩ := cd12_eq.1 e1
    obtain ⟨m, a1, a2, a3, a4, a5⟩ := tkey12_same n (i + 1) (j + 1) (by omega) (by omega) (by omega) (by omega) (fun e3 => by unfold tn12; simp [e3, f2]) e2
    have q1 := na (u := i + 1 + m) (by omega) a1 a3 (fun k k1 k2 => by have := (a5 (k - (i + 1)) (by omega)).2.2.2.1; rw [show i + 1 + (k - (i + 1)) = k by omega] at this; exact this)
    have q2 := na' (u := j + 1 + m) (by omega) a2 a4 (fun k k1 k2 => by have := (a5 (k - (j + 1)) (by omega)).2.2.2.2; rw [show j + 1 + (k - (j + 1)) = k by omega] at this; exact this)
    rw [q1, q2] at ih
    refine .eq gi.1 gj.1 f1 ?_
    exact (Ls12.skip (d := m) (fun k hk => ⟨(a5 k hk).1, (a5 k hk).2.1, (a5 k hk).2.2.1⟩)).1 ih
/-- The turns in the order of the suffixes of their names. -/
theorem Nm12.order {n : Nat} {S : Nat → Int} {sm : Nat → Bool} {t : List Nat} {N : List Int} (H : Ty12 n S sm) (ho : Or12 n sm t) (hl : t.Pairwise (· < ·)) (hN : Nm12 n S sm t N) {A : List Nat} (hA : Ar12 N.length (S12 N) A) : Or12 n sm (A.map (fun a => t.getD a n)) ∧ (A.map (fun a => t.getD a n)).Pairwise (Ls12 n S) := by
  have hp : (A.map (fun a => t.getD a n)).Pairwise (Ls12 n S) := by
    rw [List.pairwise_map]
    exact hA.so.imp (fun h => hN.less H ho hl h)
  refine ⟨⟨hp.imp (fun {a b} h e => by subst e; exact h.irrefl), fun j => ?_⟩, hp⟩
  rw [List.mem_map, ← ho.mem j]
  constructor
  · rintro ⟨a, ha, rfl⟩
    have : a < t.length := by rw [← hN.len]; exact hA.lt a ha
    simp [List.getD, this]
  · intro hj
    obtain ⟨c, hc, e⟩ := List.mem_iff_getElem.1 hj
    exact ⟨c, hA.all c (by rw [hN.len]; exact hc), by simp [List.getD, hc, e]⟩
end Go.Proofs.YtmfpdchfofffeaaGreatDoor

namespace Go.Proofs.YtmfpdchfofffeaaGreatDoor
open Go.RowKit
set_option linter.unusedVariables false
set_option maxRecDepth 100000 in
set_option maxHeartbeats 400000 in
theorem pist12 (a : Option Addr) (L : List Bool) (n cap i : Nat) (w : World) (hs : SegB w a L) (hn : Hid (L.length = n)) (hi : i < n) (hb : n ≤ 9223372036854775807) :
    Calls Tryz.prog 226 #[.slice a n cap, .int .i64 (i : Int)] w fun e w' => e = .returned (.bool (tb12 (gb12 L) i)) ∧ Below w.heap.size w w' := by
  have HT : Hid (tb12 (gb12 L) i = (decide (0 < i) && L.getD i false && !L.getD (i - 1) false)) := rfl
  by_cases h0 : i = 0
  · subst h0
    rw [HT.out]
    go_enter Tryz.func226, Tryz.ntmps226
    go_wp2
    go_ret
    exact ⟨by simp, Below.refl _ _⟩
  · obtain ⟨b, off, rfl, c1⟩ := hs.at_ i (by rw [hn.out]; exact hi)
    have c2 : w.cell? ⟨b, off + (i - 1), none⟩ = some (.bool (L.getD (i - 1) false)) := by
      obtain ⟨b', off', ha, c⟩ := hs.at_ (i - 1) (by rw [hn.out]; omega)
      cases ha
      exact c
    obtain ⟨p, rfl⟩ : ∃ p, i = p + 1 := ⟨i - 1, by omega⟩
    simp only [Nat.add_sub_cancel] at c2 HT
    have i1 : (p : Int) + 1 < (n : Int) := by omega
    have i2 : (p : Int) < (n : Int) := by omega
    have i0 : (0 : Int) < (p : Int) + 1 := by omega
    generalize L.getD (p + 1) false = x at *
    generalize L.getD p false = y at *
    rw [HT.out]
    cases x
    · go_enter Tryz.func226, Tryz.ntmps226
      go_wp2
      go_ret
      exact ⟨by simp, Below.refl _ _⟩
    · go_enter Tryz.func226, Tryz.ntmps226
      go_wp2
      go_ret
      exact ⟨by cases y <;> simp, Below.refl _ _⟩
end Go.Proofs.YtmfpdchfofffeaaGreatDoor
