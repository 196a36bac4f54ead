
import Derived.Test.YtkpfailmmcelcaaSuM1
namespace Go.Proofs.Ytkpfailmmcelcaa
set_option linter.unusedVariables false

/-! Turn and Unturn, pure: rows, what leads from one to the next, the data that is read. -/
def lt13 (B : Nat → Int) (j k : Nat) : Prop := B j < B k ∨ (B j = B k ∧ j < k)
noncomputable def nx13 (B : Nat → Int) (n k : Nat) : Nat := cn12 (fun j => lt13 B j k) n + 1
def la13 (e r : Nat) : Nat := if e < r then r - 1 else r
noncomputable def rw13 (B : Nat → Int) (n e : Nat) : Nat → Nat
  | 0 => 0
  | k + 1 => nx13 B n (la13 e (rw13 B n e k))
theorem nx13_one {B : Nat → Int} {n j k : Nat} (hj : j < n) (h : lt13 B j k) : nx13 B n j < nx13 B n k := by
  unfold nx13
  have := cn12_lt (P := fun i => lt13 B i j) (Q := fun i => lt13 B i k) (n := n) (j := j) (fun i _ hi => by unfold lt13 at *; omega) hj (by unfold lt13; omega) h
  omega
theorem nx13_lt {B : Nat → Int} {n j k : Nat} (hj : j < n) (hk : k < n) : nx13 B n j < nx13 B n k ↔ lt13 B j k := by
  refine ⟨fun h => ?_, nx13_one hj⟩
  by_cases e : j = k
  · subst e; omega
  · by_cases c : lt13 B j k
    · exact c
    · have : lt13 B k j := by unfold lt13 at *; omega
      have := nx13_one hk this
      omega
theorem nx13_le {B : Nat → Int} {n k : Nat} (hk : k < n) : nx13 B n k ≤ n := by
  unfold nx13
  have h1 := cn12_lt (P := fun i => lt13 B i k) (Q := fun _ => True) (n := n) (j := k) (fun i _ hi => trivial) hk (by unfold lt13; omega) trivial
  have h2 := cn12_all (P := fun _ => True) (n := n) (fun _ _ => trivial)
  omega
theorem la13_lt {n e r : Nat} (he : e ≤ n) (hr : r ≤ n) (h : r ≠ e) : la13 e r < n := by unfold la13; split <;> omega
theorem la13_mono {e r q : Nat} (h : r ≠ e) (h' : q ≠ e) : la13 e r < la13 e q ↔ r < q := by unfold la13; split <;> split <;> omega
theorem hit13 {f : Nat → Nat} {n : Nat} (hf : ∀ k, k < n → f k < n) (hi : ∀ i j, i < n → j < n → f i = f j → i = j) : ∀ m, m ≤ n → cn12 (fun y => ∃ k, k < m ∧ f k = y) n = m
  | 0, _ => cn12_none fun i _ ⟨k, hk, _⟩ => by omega
  | m + 1, h => by
    have ih := hit13 hf hi m (by omega)
    rw [cn12_upd (P := fun y => ∃ k, k < m ∧ f k = y) (Q := fun y => ∃ k, k < m + 1 ∧ f k = y) (j := f m) (hf m (by omega)) ?_ ?_, ih]
    · rintro ⟨k, hk, he⟩
      have := hi k m (by omega) (by omega) he
      omega
    · intro i _
      constructor
      · rintro ⟨k, hk, he⟩
        by_cases c : k = m
        · subst c; exact Or.inr he.symm
        · exact Or.inl ⟨k, by omega, he⟩
      · rintro (⟨k, hk, he⟩ | h1)
        · exact ⟨k, by omega, he⟩
        · exact ⟨m, by omega, h1.symm⟩
theorem onto13 {f : Nat → Nat} {n : Nat} (hf : ∀ k, k < n → f k < n) (hi : ∀ i j, i < n → j < n → f i = f j → i = j) {y : Nat} (hy : y < n) : ∃ k, k < n ∧ f k = y := by
  by_cases c : ∃ k, k < n ∧ f k = y
  · exact c
  · have h1 := cn12_lt (P := fun y => ∃ k, k < n ∧ f k = y) (Q := fun _ => True) (n := n) (j := y) (fun i _ hi => trivial) hy c trivial
    have h2 := cn12_all (P := fun _ => True) (n := n) (fun _ _ => trivial)
    have h3 := hit13 hf hi n (Nat.le_refl _)
    omega
/-- A walk that does not meet the end early. -/
structure Wk13 (B : Nat → Int) (n e : Nat) : Prop where
  le : e ≤ n
  run : ∀ k, k < n → rw13 B n e k ≠ e
theorem Wk13.bd {B : Nat → Int} {n e : Nat} (h : Wk13 B n e) : ∀ k, k ≤ n → rw13 B n e k ≤ n
  | 0, _ => Nat.zero_le _
  | k + 1, hk => nx13_le (la13_lt h.le (h.bd k (by omega)) (h.run k (by omega)))
noncomputable def rc13 (B : Nat → Int) (n e k : Nat) : Int := B (la13 e (rw13 B n e k))
theorem Wk13.ord {B : Nat → Int} {n e : Nat} (h : Wk13 B n e) {i j : Nat} (hi : i < n) (hj : j < n) : rw13 B n e (i + 1) < rw13 B n e (j + 1) ↔ (rc13 B n e i < rc13 B n e j ∨ (rc13 B n e i = rc13 B n e j ∧ rw13 B n e i < rw13 B n e j)) := by
  show nx13 _ _ _ < nx13 _ _ _ ↔ _
  rw [nx13_lt (la13_lt h.le (h.bd i (by omega)) (h.run i hi)) (la13_lt h.le (h.bd j (by omega)) (h.run j hj))]
  unfold lt13 rc13
  rw [la13_mono (h.run i hi) (h.run j hj)]
theorem Wk13.inj {B : Nat → Int} {n e : Nat} (h : Wk13 B n e) : ∀ i j, i ≤ n → j ≤ n → rw13 B n e i = rw13 B n e j → i = j
  | 0, 0, _, _, _ => rfl
  | 0, j + 1, _, _, k => by
    exfalso
    have k' : 0 = nx13 B n (la13 e (rw13 B n e j)) := k
    unfold nx13 at k'
    omega
  | i + 1, 0, _, _, k => by
    exfalso
    have k' : nx13 B n (la13 e (rw13 B n e i)) = 0 := k
    unfold nx13 at k'
    omega
  | i + 1, j + 1, hi, hj, k => by
    have h1 := h.ord (i := i) (j := j) (by omega) (by omega)
    have h2 := h.ord (i := j) (j := i) (by omega) (by omega)
    rw [k] at h1 h2
    have n1 := fun c => Nat.lt_irrefl _ (h1.2 c)
    have n2 := fun c => Nat.lt_irrefl _ (h2.2 c)
    have e1 : rc13 B n e i = rc13 B n e j := by
      have a1 : ¬ rc13 B n e i < rc13 B n e j := fun c => n1 (Or.inl c)
      have a2 : ¬ rc13 B n e j < rc13 B n e i := fun c => n2 (Or.inl c)
      omega
    have e2 : rw13 B n e i = rw13 B n e j := by
      have a1 : ¬ rw13 B n e i < rw13 B n e j := fun c => n1 (Or.inr ⟨e1, c⟩)
      have a2 : ¬ rw13 B n e j < rw13 B n e i := fun c => n2 (Or.inr ⟨e1.symm, c⟩)
      omega
    have := h.inj i j (by omega) (by omega) e2
    omega
theorem Wk13.onto {B : Nat → Int} {n e : Nat} (h : Wk13 B n e) {q : Nat} (hq : q ≤ n) : ∃ k, k ≤ n ∧ rw13 B n e k = q := by
  obtain ⟨k, h1, h2⟩ := onto13 (f := rw13 B n e) (n := n + 1) (fun k hk => by have := h.bd k (by omega); omega) (fun i j hi hj => h.inj i j (by omega) (by omega)) (y := q) (by omega)
  exact ⟨k, by omega, h2⟩
theorem Wk13.fin {B : Nat → Int} {n e : Nat} (h : Wk13 B n e) : rw13 B n e n = e := by
  obtain ⟨k, h1, h2⟩ := h.onto h.le
  by_cases c : k < n
  · exact absurd h2 (h.run k c)
  · have : k = n := by omega
    subst this; exact h2
/-- What is read: the last byte first. -/
structure Rd13 (B : Nat → Int) (n e : Nat) (x : List Int) : Prop where
  len : x.length = n
  at_ : ∀ k, k < n → x.getD (n - 1 - k) 0 = rc13 B n e k
theorem Wk13.ls {B : Nat → Int} {n e : Nat} {x : List Int} (h : Wk13 B n e) (hx : Rd13 B n e x) : ∀ i j, i ≤ n → j ≤ n → rw13 B n e i < rw13 B n e j → Ls12 n (S12 x) (n - i) (n - j)
  | _, 0, _, _, k => absurd k (Nat.not_lt_zero _)
  | 0, j + 1, _, hj, k => .fin (by omega) (by omega)
  | i + 1, j + 1, hi, hj, k => by
    have s1 : S12 x (n - (i + 1)) = rc13 B n e i := by
      have := hx.at_ i (by omega)
      rw [show n - 1 - i = n - (i + 1) by omega] at this
      exact this
    have s2 : S12 x (n - (j + 1)) = rc13 B n e j := by
      have := hx.at_ j (by omega)
      rw [show n - 1 - j = n - (j + 1) by omega] at this
      exact this
    rcases (h.ord (by omega) (by omega)).1 k with c | ⟨c, d⟩
    · exact .lt (by omega) (by omega) (by rw [s1, s2]; exact c)
    · refine .eq (by omega) (by omega) (by rw [s1, s2]; exact c) ?_
      have := h.ls hx i j (by omega) (by omega) d
      rw [show n - (i + 1) + 1 = n - i by omega, show n - (j + 1) + 1 = n - j by omega]
      exact this
open Classical in
noncomputable def iv13 (B : Nat → Int) (n e q : Nat) : Nat := if h : ∃ k, k ≤ n ∧ rw13 B n e k = q then Classical.choose h else 0
theorem Wk13.iv {B : Nat → Int} {n e : Nat} (h : Wk13 B n e) {q : Nat} (hq : q ≤ n) : iv13 B n e q ≤ n ∧ rw13 B n e (iv13 B n e q) = q := by
  have hh := h.onto hq
  unfold iv13
  rw [dif_pos hh]
  exact Classical.choose_spec hh
theorem Wk13.iv_rw {B : Nat → Int} {n e : Nat} (h : Wk13 B n e) {k : Nat} (hk : k ≤ n) : iv13 B n e (rw13 B n e k) = k := by
  obtain ⟨h1, h2⟩ := h.iv (h.bd k hk)
  exact h.inj _ _ h1 hk h2
/-- The array of what is read. -/
noncomputable def ia13 (B : Nat → Int) (n e : Nat) : List Nat := (List.range n).map fun q => n - iv13 B n e (q + 1)
theorem Wk13.pos {B : Nat → Int} {n e : Nat} (h : Wk13 B n e) {q : Nat} (hq : q < n) : 1 ≤ iv13 B n e (q + 1) := by
  obtain ⟨h1, h2⟩ := h.iv (q := q + 1) (by omega)
  rcases Nat.eq_zero_or_pos (iv13 B n e (q + 1)) with c | c
  · rw [c] at h2
    have : 0 = q + 1 := h2
    omega
  · exact c
theorem Wk13.ar {B : Nat → Int} {n e : Nat} {x : List Int} (h : Wk13 B n e) (hx : Rd13 B n e x) : Ar12 n (S12 x) (ia13 B n e) := by
  refine ⟨by simp [ia13], ?_, ?_, ?_⟩
  · intro j hj
    unfold ia13 at hj
    rw [List.mem_map] at hj
    obtain ⟨q, hq, rfl⟩ := hj
    rw [List.mem_range] at hq
    have := h.pos hq
    omega
  · intro j hj
    unfold ia13
    rw [List.mem_map]
    have hb := h.bd (n - j) (by omega)
    have h0 : 1 ≤ rw13 B n e (n - j) := by
      rcases Nat.eq_zero_or_pos (rw13 B n e (n - j)) with c | c
      · have := h.inj (n - j) 0 (by omega) (by omega) c
        omega
      · exact c
    refine ⟨rw13 B n e (n - j) - 1, by rw [List.mem_range]; omega, ?_⟩
    rw [show rw13 B n e (n - j) - 1 + 1 = rw13 B n e (n - j) by omega, h.iv_rw (by omega)]
    omega
  · unfold ia13
    rw [List.pairwise_map]
    rw [List.pairwise_iff_getElem]
    intro q p hq hp hqp
    simp only [List.length_range] at hq hp
    simp only [List.getElem_range]
    obtain ⟨a1, a2⟩ := h.iv (q := q + 1) (by omega)
    obtain ⟨b1, b2⟩ := h.iv (q := p + 1) (by omega)
    exact h.ls hx _ _ a1 b1 (by rw [a2, b2]; omega)
theorem Wk13.rows {B : Nat → Int} {n e : Nat} (h : Wk13 B n e) {q : Nat} (hq : q ≤ n) : (n :: ia13 B n e).getD q 0 = n - iv13 B n e q := by
  rcases q with _ | q
  · have : iv13 B n e 0 = 0 := h.iv_rw (k := 0) (by omega)
    rw [this]; rfl
  · simp [ia13, List.getD]
    have : q < n := by omega
    simp [this]
/-- Turn: of these rows. -/
def tn13 (z : List Int) (R : List Nat) : List Int := R.flatMap fun a => if a = 0 then [] else [z.getD (a - 1) 0]
theorem tn13_take (z : List Int) (R : List Nat) (i : Nat) (h : i < R.length) : tn13 z (R.take (i + 1)) = tn13 z (R.take i) ++ (if R.getD i 0 = 0 then [] else [z.getD (R.getD i 0 - 1) 0]) := by
  rw [List.take_succ_eq_append_getElem h]
  unfold tn13
  rw [List.flatMap_append]
  simp [List.getD, h]
/-- Turn of what is read is what it was read of. -/
theorem Wk13.turn {b : List Int} {n e : Nat} {x : List Int} (hb : b.length = n) (h : Wk13 (S12 b) n e) (hx : Rd13 (S12 b) n e x) : ∀ i, i ≤ n + 1 → tn13 x ((n :: ia13 (S12 b) n e).take i) = b.take (la13 e i)
  | 0, _ => by simp [tn13, la13]
  | i + 1, hi => by
    have ih := Wk13.turn hb h hx i (by omega)
    rw [tn13_take _ _ _ (by simp [ia13]; omega), ih, h.rows (by omega)]
    obtain ⟨k1, k2⟩ := h.iv (q := i) (by omega)
    by_cases c : i = e
    · have hk : iv13 (S12 b) n e i = n := by
        exact h.inj _ _ k1 (Nat.le_refl _) ((k2.trans c).trans h.fin.symm)
      rw [hk, if_pos (by omega)]
      subst c
      simp [la13]
    · have hk : iv13 (S12 b) n e i < n := by
        rcases Nat.lt_or_ge (iv13 (S12 b) n e i) n with c' | c'
        · exact c'
        · have : iv13 (S12 b) n e i = n := by omega
          rw [this, h.fin] at k2
          exact absurd k2.symm c
      rw [if_neg (by omega)]
      have hr := hx.at_ _ hk
      rw [show n - 1 - iv13 (S12 b) n e i = n - iv13 (S12 b) n e i - 1 by omega] at hr
      rw [hr]
      unfold rc13
      rw [k2]
      have hl := la13_lt (n := n) h.le (by omega) c
      have he : la13 e (i + 1) = la13 e i + 1 := by unfold la13; split <;> split <;> omega
      rw [he, List.take_succ_eq_append_getElem (by rw [hb]; exact hl)]
      unfold S12
      simp [List.getD, hb, hl]
theorem Wk13.turn_all {b : List Int} {n e : Nat} {x : List Int} (hb : b.length = n) (h : Wk13 (S12 b) n e) (hx : Rd13 (S12 b) n e x) : tn13 x (n :: ia13 (S12 b) n e) = b := by
  have h1 := Wk13.turn hb h hx (n + 1) (Nat.le_refl _)
  rw [List.take_of_length_le (by simp [ia13])] at h1
  rw [h1]
  have : la13 e (n + 1) = n := by have := h.le; unfold la13; split <;> omega
  rw [this, ← hb, List.take_length]
theorem Wk13.zero {B : Nat → Int} {n e : Nat} (h : Wk13 B n e) {q : Nat} (hq : q ≤ n) : (n :: ia13 B n e).getD q 0 = 0 ↔ q = e := by
  rw [h.rows hq]
  obtain ⟨k1, k2⟩ := h.iv hq
  constructor
  · intro c
    have : iv13 B n e q = n := by omega
    rw [this, h.fin] at k2
    exact k2.symm
  · intro c
    subst c
    have : iv13 B n q q = n := h.inj _ _ k1 (Nat.le_refl _) (k2.trans h.fin.symm)
    omega
/-! Where the whole data's row stands. -/
def te13 (n : Nat) (A : List Nat) : Nat := if n = 0 then 0 else rk13 A 0 + 1
theorem te13_le {n : Nat} {S : Nat → Int} {A : List Nat} (h : Ar12 n S A) : te13 n A ≤ n := by
  unfold te13
  split
  · omega
  · have := (h.rk (j := 0) (by omega)).1
    omega
theorem te13_iff {n : Nat} {S : Nat → Int} {A : List Nat} (h : Ar12 n S A) {q : Nat} (hq : q ≤ n) : (n :: A).getD q 0 = 0 ↔ q = te13 n A := by
  unfold te13
  rcases q with _ | q
  · show n = 0 ↔ _
    split <;> omega
  · show A.getD q 0 = 0 ↔ _
    rw [if_neg (by omega)]
    constructor
    · intro c
      have := h.rk_at (r := q) (by omega)
      rw [c] at this
      omega
    · intro c
      have h1 := (h.rk (j := 0) (by omega)).2
      have : q = rk13 A 0 := by omega
      rw [this]
      exact h1
theorem row13_le {n : Nat} {S : Nat → Int} {A : List Nat} (h : Ar12 n S A) {q : Nat} (hq : q ≤ n) : (n :: A).getD q 0 ≤ n := by
  rcases q with _ | q
  · exact Nat.le_refl _
  · show A.getD q 0 ≤ n
    have := h.get (r := q) (by omega)
    omega
theorem tn13_len {z : List Int} {n : Nat} {S : Nat → Int} {A : List Nat} (h : Ar12 n S A) : ∀ i, i ≤ n + 1 → (tn13 z ((n :: A).take i)).length = la13 (te13 n A) i
  | 0, _ => by simp [tn13, la13]
  | i + 1, hi => by
    rw [tn13_take _ _ _ (by simp [h.len]; omega), List.length_append, tn13_len h i (by omega)]
    have h1 := te13_iff h (q := i) (by omega)
    by_cases c : (n :: A).getD i 0 = 0
    · rw [if_pos c]
      have := h1.1 c
      subst this
      simp [la13]
    · rw [if_neg c]
      have : i ≠ te13 n A := fun e => c (h1.2 e)
      simp only [List.length_cons, List.length_nil]
      unfold la13
      split <;> split <;> omega
theorem Wk13.te {B : Nat → Int} {n e : Nat} {x : List Int} (h : Wk13 B n e) (hx : Rd13 B n e x) : te13 n (ia13 B n e) = e :=
  ((te13_iff (h.ar hx) h.le).1 ((h.zero h.le).2 rfl)).symm
def en13 (E i : Nat) : Nat := if E < i then E else 0
theorem en13_hit (E : Nat) : en13 E (E + 1) = E := by simp [en13]
theorem en13_not {E i : Nat} (h : i ≠ E) : en13 E (i + 1) = en13 E i := by unfold en13; split <;> split <;> omega
theorem en13_zero (E : Nat) : en13 E 0 = 0 := by simp [en13]
theorem en13_all {E n : Nat} (h : E ≤ n) : en13 E (n + 1) = E := by unfold en13; split <;> omega
theorem la13_hit (E : Nat) : la13 E (E + 1) = la13 E E := by simp [la13]
theorem la13_not {E i : Nat} (h : i ≠ E) : la13 E (i + 1) = la13 E i + 1 := by unfold la13; split <;> split <;> omega
theorem la13_all {E n : Nat} (h : E ≤ n) : la13 E (n + 1) = n := by unfold la13; split <;> omega
theorem la13_le (E i : Nat) : la13 E i ≤ i := by unfold la13; split <;> omega
theorem tn13_bd {z : List Int} (hz : ∀ y ∈ z, 0 ≤ y ∧ y ≤ 255) (R : List Nat) : ∀ y ∈ tn13 z R, 0 ≤ y ∧ y ≤ 255 := by
  intro y hy
  unfold tn13 at hy
  rw [List.mem_flatMap] at hy
  obtain ⟨a, _, h⟩ := hy
  split at h
  · simp at h
  · simp only [List.mem_cons, List.not_mem_nil, or_false] at h
    subst h
    by_cases c : a - 1 < z.length
    · have : z.getD (a - 1) 0 = z[a - 1] := by simp [List.getD, c]
      rw [this]; exact hz _ (List.getElem_mem c)
    · have : z.getD (a - 1) 0 = 0 := by simp [List.getD, Nat.le_of_not_lt c]
      rw [this]; omega
end Go.Proofs.Ytkpfailmmcelcaa
