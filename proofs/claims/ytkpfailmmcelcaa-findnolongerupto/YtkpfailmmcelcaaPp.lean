import Derived.Test.YtkpfailmmcelcaaPm
namespace Go.Proofs.Ytkpfailmmcelcaa
set_option linter.unusedVariables false

/-! Turn and Unturn, pure: rows, what leads from one to the next, the data that is read. -/
def lt13 (B : Nat → Int) (j k : Nat) : Prop := B j < B k ∨ (B j = B k ∧ j < k)
noncomputable def nx13 (B : Nat → Int) (n k : Nat) : Nat := cn12 (fun j => lt13 B j k) n + 1
def la13 (e r : Nat) : Nat := if e < r then r - 1 else r
noncomputable def rw13 (B : Nat → Int) (n e : Nat) : Nat → Nat
  | 0 => 0
  | k + 1 => nx13 B n (la13 e (rw13 B n e k))
theorem nx13_one {B : Nat → Int} {n j k : Nat} (hj : j < n) (h : lt13 B j k) : nx13 B n j < nx13 B n k := by
  unfold nx13
  have := cn12_lt (P := fun i => lt13 B i j) (Q := fun i => lt13 B i k) (n := n) (j := j) (fun i _ hi => by unfold lt13 at *; omega) hj (by unfold lt13; omega) h
  omega
theorem nx13_lt {B : Nat → Int} {n j k : Nat} (hj : j < n) (hk : k < n) : nx13 B n j < nx13 B n k ↔ lt13 B j k := by
  refine ⟨fun h => ?_, nx13_one hj⟩
  by_cases e : j = k
  · subst e; omega
  · by_cases c : lt13 B j k
    · exact c
    · have : lt13 B k j := by unfold lt13 at *; omega
      have := nx13_one hk this
      omega
theorem nx13_le {B : Nat → Int} {n k : Nat} (hk : k < n) : nx13 B n k ≤ n := by
  unfold nx13
  have h1 := cn12_lt (P := fun i => lt13 B i k) (Q := fun _ => True) (n := n) (j := k) (fun i _ hi => trivial) hk (by unfold lt13; omega) trivial
  have h2 := cn12_all (P := fun _ => True) (n := n) (fun _ _ => trivial)
  omega
theorem la13_lt {n e r : Nat} (he : e ≤ n) (hr : r ≤ n) (h : r ≠ e) : la13 e r < n := by unfold la13; split <;> omega
theorem la13_mono {e r q : Nat} (h : r ≠ e) (h' : q ≠ e) : la13 e r < la13 e q ↔ r < q := by unfold la13; split <;> split <;> omega
theorem hit13 {f : Nat → Nat} {n : Nat} (hf : ∀ k, k < n → f k < n) (hi : ∀ i j, i < n → j < n → f i = f j → i = j) : ∀ m, m ≤ n → cn12 (fun y => ∃ k, k < m ∧ f k = y) n = m
  | 0, _ => cn12_none fun i _ ⟨k, hk, _⟩ => by omega
  | m + 1, h => by
    have ih := hit13 hf hi m (by omega)
    rw [cn12_upd (P := fun y => ∃ k, k < m ∧ f k = y) (Q := fun y => ∃ k, k < m + 1 ∧ f k = y) (j := f m) (hf m (by omega)) ?_ ?_, ih]
    · rintro ⟨k, hk, he⟩
      have := hi k m (by omega) (by omega) he
      omega
    · intro i _
      constructor
      · rintro ⟨k, hk, he⟩
        by_cases c : k = m
        · subst c; exact Or.inr he.symm
        · exact Or.inl ⟨k, by omega, he⟩
      · rintro (⟨k, hk, he⟩ | h1)
        · exact ⟨k, by omega, he⟩
        · exact ⟨m, by omega, h1.symm⟩
theorem onto13 {f : Nat → Nat} {n : Nat} (hf : ∀ k, k < n → f k < n) (hi : ∀ i j, i < n → j < n → f i = f j → i = j) {y : Nat} (hy : y < n) : ∃ k, k < n ∧ f k = y := by
  by_cases c : ∃ k, k < n ∧ f k = y
  · exact c
  · have h1 := cn12_lt (P := fun y => ∃ k, k < n ∧ f k = y) (Q := fun _ => True) (n := n) (j := y) (fun i _ hi => trivial) hy c trivial
    have h2 := cn12_all (P := fun _ => True) (n := n) (fun _ _ => trivial)
    have h3 := hit13 hf hi n (Nat.le_refl _)
    omega
/-- A walk that does not meet the end early. -/
structure Wk13 (B : Nat → Int) (n e : Nat) : Prop where
  le : e ≤ n
  run : ∀ k, k < n → rw13 B n e k ≠ e
theorem Wk13.bd {B : Nat → Int} {n e : Nat} (h : Wk13 B n e) : ∀ k, k ≤ n → rw13 B n e k ≤ n
  | 0, _ => Nat.zero_le _
  | k + 1, hk => nx13_le (la13_lt h.le (h.bd k (by omega)) (h.run k (by omega)))
noncomputable def rc13 (B : Nat → Int) (n e k : Nat) : Int := B (la13 e (rw13 B n e k))
theorem Wk13.ord {B : Nat → Int} {n e : Nat} (h : Wk13 B n e) {i j : Nat} (hi : i < n) (hj : j < n) : rw13 B n e (i + 1) < rw13 B n e (j + 1) ↔ (rc13 B n e i < rc13 B n e j ∨ (rc13 B n e i = rc13 B n e j ∧ rw13 B n e i < rw13 B n e j)) := by
  show nx13 _ _ _ < nx13 _ _ _ ↔ _
  rw [nx13_lt (la13_lt h.le (h.bd i (by omega)) (h.run i hi)) (la13_lt h.le (h.bd j (by omega)) (h.run j hj))]
  unfold lt13 rc13
  rw [la13_mono (h.run i hi) (h.run j hj)]
theorem Wk13.inj {B : Nat → Int} {n e : Nat} (h : Wk13 B n e) : ∀ i j, i ≤ n → j ≤ n → rw13 B n e i = rw13 B n e j → i = j
  | 0, 0, _, _, _ => rfl
  | 0, j + 1, _, _, k => by
    exfalso
    have k' : 0 = nx13 B n (la13 e (rw13 B n e j)) := k
    unfold nx13 at k'
    omega
  | i + 1, 0, _, _, k => by
    exfalso
    have k' : nx13 B n (la13 e (rw13 B n e i)) = 0 := k
    unfold nx13 at k'
    omega
  | i + 1, j + 1, hi, hj, k => by
    have h1 := h.ord (i := i) (j := j) (by omega) (by omega)
    have h2 := h.ord (i := j) (j := i) (by omega) (by omega)
    rw [k] at h1 h2
    have n1 := fun c => Nat.lt_irrefl _ (h1.2 c)
    have n2 := fun c => Nat.lt_irrefl _ (h2.2 c)
    have e1 : rc13 B n e i = rc13 B n e j := by
      have a1 : ¬ rc13 B n e i < rc13 B n e j := fun c => n1 (Or.inl c)
      have a2 : ¬ rc13 B n e j < rc13 B n e i := fun c => n2 (Or.inl c)
      omega
    have e2 : rw13 B n e i = rw13 B n e j := by
      have a1 : ¬ rw13 B n e i < rw13 B n e j := fun c => n1 (Or.inr ⟨e1, c⟩)
      have a2 : ¬ rw13 B n e j < rw13 B n e i := fun c => n2 (Or.inr ⟨e1.symm, c⟩)
      omega
    have := h.inj i j (by omega) (by omega) e2
    omega
theorem Wk13.onto {B : Nat → Int} {n e : Nat} (h : Wk13 B n e) {q : Nat} (hq : q ≤ n) : ∃ k, k ≤ n ∧ rw13 B n e k = q := by
  obtain ⟨k, h1, h2⟩ := onto13 (f := rw13 B n e) (n := n + 1) (fun k hk => by have := h.bd k (by omega); omega) (fun i j hi hj => h.inj i j (by omega) (by omega)) (y := q) (by omega)
  exact ⟨k, by omega, h2⟩
theorem Wk13.fin {B : Nat → Int} {n e : Nat} (h : Wk13 B n e) : rw13 B n e n = e := by
  obtain ⟨k, h1, h2⟩ := h.onto h.le
  by_cases c : k < n
  · exact absurd h2 (h.run k c)
  · have : k = n := by omega
    subst this; exact h2
/-- What is read: the last byte first. -/
structure Rd13 (B : Nat → Int) (n e : Nat) (x : List Int) : Prop where
  len : x.length = n
  at_ : ∀ k, k < n → x.getD (n - 1 - k) 0 = rc13 B n e k
theorem Wk13.ls {B : Nat → Int} {n e : Nat} {x : List Int} (h : Wk13 B n e) (hx : Rd13 B n e x) : ∀ i j, i ≤ n → j ≤ n → rw13 B n e i < rw13 B n e j → Ls12 n (S12 x) (n - i) (n - j)
  | _, 0, _, _, k => absurd k (Nat.not_lt_zero _)
  | 0, j + 1, _, hj, k => .fin (by omega) (by omega)
  | i + 1, j + 1, hi, hj, k => by
    have s1 : S12 x (n - (i + 1)) = rc13 B n e i := by
      have := hx.at_ i (by omega)
      rw [show n - 1 - i = n - (i + 1) by omega] at this
      exact this
    have s2 : S12 x (n - (j + 1)) = rc13 B n e j := by
      have := hx.at_ j (by omega)
      rw [show n - 1 - j = n - (j + 1) by omega] at this
      exact this
    rcases (h.ord (by omega) (by omega)).1 k with c | ⟨c, d⟩
    · exact .lt (by omega) (by omega) (by rw [s1, s2]; exact c)
    · refine .eq (by omega) (by omega) (by rw [s1, s2]; exact c) ?_
      have := h.ls hx i j (by omega) (by omega) d
      rw [show n - (i + 1) + 1 = n - i by omega, show n - (j + 1) + 1 = n - j by omega]
      exact this
open Classical in
noncomputable def iv13 (B : Nat → Int) (n e q : Nat) : Nat := if h : ∃ k, k ≤ n ∧ rw13 B n e k = q then Classical.choose h else 0
theorem Wk13.iv {B : Nat → Int} {n e : Nat} (h : Wk13 B n e) {q : Nat} (hq : q ≤ n) : iv13 B n e q ≤ n ∧ rw13 B n e (iv13 B n e q) = q := by
  have hh := h.onto hq
  unfold iv13
  rw [dif_pos hh]
  exact Classical.choose_spec hh
theorem Wk13.iv_rw {B : Nat → Int} {n e : Nat} (h : Wk13 B n e) {k : Nat} (hk : k ≤ n) : iv13 B n e (rw13 B n e k) = k := by
  obtain ⟨h1, h2⟩ := h.iv (h.bd k hk)
  exact h.inj _ _ h1 hk h2
/-- The array of what is read. -/
noncomputable def ia13 (B : Nat → Int) (n e : Nat) : List Nat := (List.range n).map fun q => n - iv13 B n e (q + 1)
theorem Wk13.pos {B : Nat → Int} {n e : Nat} (h : Wk13 B n e) {q : Nat} (hq : q < n) : 1 ≤ iv13 B n e (q + 1) := by
  obtain ⟨h1, h2⟩ := h.iv (q := q + 1) (by omega)
  rcases Nat.eq_zero_or_pos (iv13 B n e (q + 1)) with c | c
  · rw [c] at h2
    have : 0 = q + 1 := h2
    omega
  · exact c
theorem Wk13.ar {B : Nat → Int} {n e : Nat} {x : List Int} (h : Wk13 B n e) (hx : Rd13 B n e x) : Ar12 n (S12 x) (ia13 B n e) := by
  refine ⟨by simp [ia13], ?_, ?_, ?_⟩
  · intro j hj
    unfold ia13 at hj
    rw [List.mem_map] at hj
    obtain ⟨q, hq, rfl⟩ := hj
    rw [List.mem_range] at hq
    have := h.pos hq
    omega
  · intro j hj
    unfold ia13
    rw [List.mem_map]
    have hb := h.bd (n - j) (by omega)
    have h0 : 1 ≤ rw13 B n e (n - j) := by
      rcases Nat.eq_zero_or_pos (rw13 B n e (n - j)) with c | c
      · have := h.inj (n - j) 0 (by omega) (by omega) c
        omega
      · exact c
    refine ⟨rw13 B n e (n - j) - 1, by rw [List.mem_range]; omega, ?_⟩
    rw [show rw13 B n e (n - j) - 1 + 1 = rw13 B n e (n - j) by omega, h.iv_rw (by omega)]
    omega
  · unfold ia13
    rw [List.pairwise_map]
    rw [List.pairwise_iff_getElem]
    intro q p hq hp hqp
    simp only [List.length_range] at hq hp
    simp only [List.getElem_range]
    obtain ⟨a1, a2⟩ := h.iv (q := q + 1) (by omega)
    obtain ⟨b1, b2⟩ := h.iv (q := p + 1) (by omega)
    exact h.ls hx _ _ a1 b1 (by rw [a2, b2]; omega)
theorem Wk13.rows {B : Nat → Int} {n e : Nat} (h : Wk13 B n e) {q : Nat} (hq : q ≤ n) : (n :: ia13 B n e).getD q 0 = n - iv13 B n e q := by
  rcases q with _ | q
  · have : iv13 B n e 0 = 0 := h.iv_rw (k := 0) (by omega)
    rw [this]; rfl
  · simp [ia13, List.getD]
    have : q < n := by omega
    simp [this]
/-- Turn: of these rows. -/
def tn13 (z : List Int) (R : List Nat) : List Int := R.flatMap fun a => if a = 0 then [] else [z.getD (a - 1) 0]
theorem tn13_take (z : List Int) (R : List Nat) (i : Nat) (h : i < R.length) : tn13 z (R.take (i + 1)) = tn13 z (R.take i) ++ (if R.getD i 0 = 0 then [] else [z.getD (R.getD i 0 - 1) 0]) := by
  rw [List.take_succ_eq_append_getElem h]
  unfold tn13
  rw [List.flatMap_append]
  simp [List.getD, h]
/-- Turn of what is read is what it was read of. -/
theorem Wk13.turn {b : List Int} {n e : Nat} {x : List Int} (hb : b.length = n) (h : Wk13 (S12 b) n e) (hx : Rd13 (S12 b) n e x) : ∀ i, i ≤ n + 1 → tn13 x ((n :: ia13 (S12 b) n e).take i) = b.take (la13 e i)
  | 0, _ => by simp [tn13, la13]
  | i + 1, hi => by
    have ih := Wk13.turn hb h hx i (by omega)
    rw [tn13_take _ _ _ (by simp [ia13]; omega), ih, h.rows (by omega)]
    obtain ⟨k1, k2⟩ := h.iv (q := i) (by omega)
    by_cases c : i = e
    · have hk : iv13 (S12 b) n e i = n := by
        exact h.inj _ _ k1 (Nat.le_refl _) ((k2.trans c).trans h.fin.symm)
      rw [hk, if_pos (by omega)]
      subst c
      simp [la13]
    · have hk : iv13 (S12 b) n e i < n := by
        rcases Nat.lt_or_ge (iv13 (S12 b) n e i) n with c' | c'
        · exact c'
        · have : iv13 (S12 b) n e i = n := by omega
          rw [this, h.fin] at k2
          exact absurd k2.symm c
      rw [if_neg (by omega)]
      have hr := hx.at_ _ hk
      rw [show n - 1 - iv13 (S12 b) n e i = n - iv13 (S12 b) n e i - 1 by omega] at hr
      rw [hr]
      unfold rc13
      rw [k2]
      have hl := la13_lt (n := n) h.le (by omega) c
      have he : la13 e (i + 1) = la13 e i + 1 := by unfold la13; split <;> split <;> omega
      rw [he, List.take_succ_eq_append_getElem (by rw [hb]; exact hl)]
      unfold S12
      simp [List.getD, hb, hl]
theorem Wk13.turn_all {b : List Int} {n e : Nat} {x : List Int} (hb : b.length = n) (h : Wk13 (S12 b) n e) (hx : Rd13 (S12 b) n e x) : tn13 x (n :: ia13 (S12 b) n e) = b := by
  have h1 := Wk13.turn hb h hx (n + 1) (Nat.le_refl _)
  rw [List.take_of_length_le (by simp [ia13])] at h1
  rw [h1]
  have : la13 e (n + 1) = n := by have := h.le; unfold la13; split <;> omega
  rw [this, ← hb, List.take_length]
theorem Wk13.zero {B : Nat → Int} {n e : Nat} (h : Wk13 B n e) {q : Nat} (hq : q ≤ n) : (n :: ia13 B n e).getD q 0 = 0 ↔ q = e := by
  rw [h.rows hq]
  obtain ⟨k1, k2⟩ := h.iv hq
  constructor
  · intro c
    have : iv13 B n e q = n := by omega
    rw [this, h.fin] at k2
    exact k2.symm
  · intro c
    subst c
    have : iv13 B n q q = n := h.inj _ _ k1 (Nat.le_refl _) (k2.trans h.fin.symm)
    omega
/-! Where the whole data's row stands. -/
def te13 (n : Nat) (A : List Nat) : Nat := if n = 0 then 0 else rk13 A 0 + 1
theorem te13_le {n : Nat} {S : Nat → Int} {A : List Nat} (h : Ar12 n S A) : te13 n A ≤ n := by
  unfold te13
  split
  · omega
  · have := (h.rk (j := 0) (by omega)).1
    omega
theorem te13_iff {n : Nat} {S : Nat → Int} {A : List Nat} (h : Ar12 n S A) {q : Nat} (hq : q ≤ n) : (n :: A).getD q 0 = 0 ↔ q = te13 n A := by
  unfold te13
  rcases q with _ | q
  · show n = 0 ↔ _
    split <;> omega
  · show A.getD q 0 = 0 ↔ _
    rw [if_neg (by omega)]
    constructor
    · intro c
      have := h.rk_at (r := q) (by omega)
      rw [c] at this
      omega
    · intro c
      have h1 := (h.rk (j := 0) (by omega)).2
      have : q = rk13 A 0 := by omega
      rw [this]
      exact h1
theorem row13_le {n : Nat} {S : Nat → Int} {A : List Nat} (h : Ar12 n S A) {q : Nat} (hq : q ≤ n) : (n :: A).getD q 0 ≤ n := by
  rcases q with _ | q
  · exact Nat.le_refl _
  · show A.getD q 0 ≤ n
    have := h.get (r := q) (by omega)
    omega
theorem tn13_len {z : List Int} {n : Nat} {S : Nat → Int} {A : List Nat} (h : Ar12 n S A) : ∀ i, i ≤ n + 1 → (tn13 z ((n :: A).take i)).length = la13 (te13 n A) i
  | 0, _ => by simp [tn13, la13]
  | i + 1, hi => by
    rw [tn13_take _ _ _ (by simp [h.len]; omega), List.length_append, tn13_len h i (by omega)]
    have h1 := te13_iff h (q := i) (by omega)
    by_cases c : (n :: A).getD i 0 = 0
    · rw [if_pos c]
      have := h1.1 c
      subst this
      simp [la13]
    · rw [if_neg c]
      have : i ≠ te13 n A := fun e => c (h1.2 e)
      simp only [List.length_cons, List.length_nil]
      unfold la13
      split <;> split <;> omega
theorem Wk13.te {B : Nat → Int} {n e : Nat} {x : List Int} (h : Wk13 B n e) (hx : Rd13 B n e x) : te13 n (ia13 B n e) = e :=
  ((te13_iff (h.ar hx) h.le).1 ((h.zero h.le).2 rfl)).symm
def en13 (E i : Nat) : Nat := if E < i then E else 0
theorem en13_hit (E : Nat) : en13 E (E + 1) = E := by simp [en13]
theorem en13_not {E i : Nat} (h : i ≠ E) : en13 E (i + 1) = en13 E i := by unfold en13; split <;> split <;> omega
theorem en13_zero (E : Nat) : en13 E 0 = 0 := by simp [en13]
theorem en13_all {E n : Nat} (h : E ≤ n) : en13 E (n + 1) = E := by unfold en13; split <;> omega
theorem la13_hit (E : Nat) : la13 E (E + 1) = la13 E E := by simp [la13]
theorem la13_not {E i : Nat} (h : i ≠ E) : la13 E (i + 1) = la13 E i + 1 := by unfold la13; split <;> split <;> omega
theorem la13_all {E n : Nat} (h : E ≤ n) : la13 E (n + 1) = n := by unfold la13; split <;> omega
theorem la13_le (E i : Nat) : la13 E i ≤ i := by unfold la13; split <;> omega
theorem tn13_bd {z : List Int} (hz : ∀ y ∈ z, 0 ≤ y ∧ y ≤ 255) (R : List Nat) : ∀ y ∈ tn13 z R, 0 ≤ y ∧ y ≤ 255 := by
  intro y hy
  unfold tn13 at hy
  rw [List.mem_flatMap] at hy
  obtain ⟨a, _, h⟩ := hy
  split at h
  · simp at h
  · simp only [List.mem_cons, List.not_mem_nil, or_false] at h
    subst h
    by_cases c : a - 1 < z.length
    · have : z.getD (a - 1) 0 = z[a - 1] := by simp [List.getD, c]
      rw [this]; exact hz _ (List.getElem_mem c)
    · have : z.getD (a - 1) 0 = 0 := by simp [List.getD, Nat.le_of_not_lt c]
      rw [this]; omega
end Go.Proofs.Ytkpfailmmcelcaa

namespace Go.Proofs.Ytkpfailmmcelcaa
set_option linter.unusedVariables false

/-! Unturn of Turn, pure; the bytes of the one are those of the other. -/
theorem cut13 {f : Nat → Nat} {n : Nat} (hf : ∀ k, k < n → f k < n) (hi : ∀ i j, i < n → j < n → f i = f j → i = j) : ∀ v, v ≤ n → cn12 (fun j => f j < v) n = v
  | 0, _ => cn12_none fun j _ h => by omega
  | v + 1, hv => by
    obtain ⟨k, hk, hfk⟩ := onto13 hf hi (y := v) (by omega)
    rw [cn12_upd (P := fun j => f j < v) (Q := fun j => f j < v + 1) (j := k) hk (by omega) (fun j hj => by
      constructor
      · intro h
        by_cases c : f j = v
        · exact Or.inr (hi j k hj hk (c.trans hfk.symm))
        · exact Or.inl (by omega)
      · rintro (h | h)
        · omega
        · subst h; omega), cut13 hf hi v (by omega)]
/-- Two ways to number that order alike are the same. -/
theorem like13 {f g : Nat → Nat} {n : Nat} (hf : ∀ k, k < n → f k < n) (hfi : ∀ i j, i < n → j < n → f i = f j → i = j) (hg : ∀ k, k < n → g k < n) (hgi : ∀ i j, i < n → j < n → g i = g j → i = j) (h : ∀ i j, i < n → j < n → (f i < f j ↔ g i < g j)) {k : Nat} (hk : k < n) : f k = g k := by
  have h1 := cut13 hf hfi (f k) (Nat.le_of_lt (hf k hk))
  have h2 := cut13 hg hgi (g k) (Nat.le_of_lt (hg k hk))
  rw [← h1, ← h2]
  exact cn12_congr fun j hj => h j k hj hk
theorem moved13 {f : Nat → Nat} {n : Nat} (hf : ∀ k, k < n → f k < n) (hi : ∀ i j, i < n → j < n → f i = f j → i = j) (P : Nat → Prop) : ∀ m, m ≤ n → cn12 (fun i => P (f i)) m = cn12 (fun y => P y ∧ ∃ k, k < m ∧ f k = y) n
  | 0, _ => by
    rw [cn12_none (P := fun y => P y ∧ ∃ k, k < 0 ∧ f k = y) (fun y _ ⟨_, k, hk, _⟩ => by omega)]
    rfl
  | m + 1, hm => by
    have ih := moved13 hf hi P m (by omega)
    by_cases c : P (f m)
    · have stp : cn12 (fun i => P (f i)) (m + 1) = cn12 (fun i => P (f i)) m + 1 := by simp [cn12, c]
      rw [stp, ih]
      rw [cn12_upd (P := fun y => P y ∧ ∃ k, k < m ∧ f k = y) (Q := fun y => P y ∧ ∃ k, k < m + 1 ∧ f k = y) (j := f m) (hf m (by omega)) (fun ⟨_, k, hk, he⟩ => by have := hi k m (by omega) (by omega) he; omega) (fun y _ => by
        constructor
        · rintro ⟨h1, k, hk, he⟩
          by_cases c2 : k = m
          · subst c2; exact Or.inr he.symm
          · exact Or.inl ⟨h1, k, by omega, he⟩
        · rintro (⟨h1, k, hk, he⟩ | h1)
          · exact ⟨h1, k, by omega, he⟩
          · subst h1; exact ⟨c, m, by omega, rfl⟩)]
    · have stp : cn12 (fun i => P (f i)) (m + 1) = cn12 (fun i => P (f i)) m := by simp [cn12, c]
      rw [stp, ih]
      refine cn12_congr fun y _ => ?_
      constructor
      · rintro ⟨h1, k, hk, he⟩
        exact ⟨h1, k, by omega, he⟩
      · rintro ⟨h1, k, hk, he⟩
        by_cases c2 : k = m
        · subst c2; rw [he] at c; exact absurd h1 c
        · exact ⟨h1, k, by omega, he⟩
theorem move13 {f : Nat → Nat} {n : Nat} (hf : ∀ k, k < n → f k < n) (hi : ∀ i j, i < n → j < n → f i = f j → i = j) (P : Nat → Prop) : cn12 (fun i => P (f i)) n = cn12 P n := by
  rw [moved13 hf hi P n (Nat.le_refl _)]
  refine cn12_congr fun y hy => ?_
  constructor
  · exact fun h => h.1
  · intro h
    obtain ⟨k, hk, he⟩ := onto13 hf hi hy
    exact ⟨h, k, hk, he⟩
/-- The row of the suffix of k bytes. -/
def qr13 (n : Nat) (A : List Nat) (k : Nat) : Nat := if k = 0 then 0 else rk13 A (n - k) + 1
theorem qr13_le {n : Nat} {S : Nat → Int} {A : List Nat} (h : Ar12 n S A) {k : Nat} (hk : k ≤ n) : qr13 n A k ≤ n := by
  unfold qr13
  split
  · omega
  · have := (h.rk (j := n - k) (by omega)).1
    omega
theorem qr13_row {n : Nat} {S : Nat → Int} {A : List Nat} (h : Ar12 n S A) {k : Nat} (hk : k ≤ n) : (n :: A).getD (qr13 n A k) 0 = n - k := by
  unfold qr13
  split
  · next c => subst c; rfl
  · exact (h.rk (j := n - k) (by omega)).2
theorem qr13_inj {n : Nat} {S : Nat → Int} {A : List Nat} (h : Ar12 n S A) {i j : Nat} (hi : i ≤ n) (hj : j ≤ n) (e : qr13 n A i = qr13 n A j) : i = j := by
  have h1 := qr13_row h hi
  have h2 := qr13_row h hj
  rw [e] at h1
  omega
theorem qr13_end {n : Nat} {S : Nat → Int} {A : List Nat} (h : Ar12 n S A) : qr13 n A n = te13 n A := by
  have h1 := qr13_row h (Nat.le_refl n)
  rw [Nat.sub_self] at h1
  exact (te13_iff h (qr13_le h (Nat.le_refl n))).1 h1
theorem qr13_lt {n : Nat} {S : Nat → Int} {A : List Nat} (h : Ar12 n S A) {i j : Nat} (hi : i ≤ n) (hj : j ≤ n) : qr13 n A i < qr13 n A j ↔ Ls12 n S (n - i) (n - j) := by
  have key : ∀ i j, i ≤ n → j ≤ n → qr13 n A i < qr13 n A j → Ls12 n S (n - i) (n - j) := by
    intro i j hi hj hlt
    by_cases c : i = 0
    · subst c
      have : j ≠ 0 := by intro e; subst e; omega
      exact .fin (by omega) (by omega)
    · have cj : j ≠ 0 := by intro e; subst e; simp [qr13] at hlt
      unfold qr13 at hlt
      rw [if_neg c, if_neg cj] at hlt
      obtain ⟨a1, a2⟩ := h.rk (j := n - i) (by omega)
      obtain ⟨b1, b2⟩ := h.rk (j := n - j) (by omega)
      have h5 := h.pair (r := rk13 A (n - i)) (q := rk13 A (n - j)) (by omega) b1
      rw [a2, b2] at h5
      exact h5
  refine ⟨key i j hi hj, fun hL => ?_⟩
  rcases Nat.lt_trichotomy (qr13 n A i) (qr13 n A j) with c | c | c
  · exact c
  · have := qr13_inj h hi hj c
    subst this
    exact hL.irrefl.elim
  · exact (hL.asymm (key j i hj hi c)).elim
/-- What stands in a row's last. -/
theorem tn13_at {z : List Int} {n : Nat} {S : Nat → Int} {A : List Nat} (h : Ar12 n S A) {r : Nat} (hr : r ≤ n) (hne : r ≠ te13 n A) : (tn13 z (n :: A)).getD (la13 (te13 n A) r) 0 = z.getD ((n :: A).getD r 0 - 1) 0 := by
  have h1 := tn13_take z (n :: A) r (by simp [h.len]; omega)
  have h0 : ¬ (n :: A).getD r 0 = 0 := fun c => hne ((te13_iff h hr).1 c)
  rw [if_neg h0] at h1
  have hl := tn13_len (z := z) h r (by omega)
  have hsplit : tn13 z (n :: A) = tn13 z ((n :: A).take (r + 1)) ++ tn13 z ((n :: A).drop (r + 1)) := by
    conv => lhs; rw [← List.take_append_drop (r + 1) (n :: A)]
    unfold tn13
    rw [List.flatMap_append]
  rw [hsplit, h1, ← hl]
  simp [List.getD]
theorem back13 {z : List Int} {n : Nat} {A : List Nat} (hz : z.length = n) (h : Ar12 n (S12 z) A) : Wk13 (S12 (tn13 z (n :: A))) n (te13 n A) ∧ Rd13 (S12 (tn13 z (n :: A))) n (te13 n A) z ∧ ∀ k, k ≤ n → rw13 (S12 (tn13 z (n :: A))) n (te13 n A) k = qr13 n A k := by
  have hne : ∀ k, k < n → qr13 n A k ≠ te13 n A := fun k hk e => by
    rw [← qr13_end h] at e
    have := qr13_inj h (by omega) (Nat.le_refl n) e
    omega
  have hB : ∀ k, k < n → S12 (tn13 z (n :: A)) (la13 (te13 n A) (qr13 n A k)) = S12 z (n - 1 - k) := fun k hk => by
    have h1 := tn13_at (z := z) h (qr13_le h (by omega)) (hne k hk)
    rw [qr13_row h (by omega)] at h1
    rw [show n - k - 1 = n - 1 - k by omega] at h1
    exact h1
  have hla : ∀ k, k < n → la13 (te13 n A) (qr13 n A k) < n := fun k hk => la13_lt (te13_le h) (qr13_le h (by omega)) (hne k hk)
  have hlt : ∀ i j, i < n → j < n → (nx13 (S12 (tn13 z (n :: A))) n (la13 (te13 n A) (qr13 n A i)) < nx13 (S12 (tn13 z (n :: A))) n (la13 (te13 n A) (qr13 n A j)) ↔ qr13 n A (i + 1) < qr13 n A (j + 1)) := by
    intro i j hi hj
    rw [nx13_lt (hla i hi) (hla j hj), qr13_lt h (by omega) (by omega)]
    unfold lt13
    rw [hB i hi, hB j hj, la13_mono (hne i hi) (hne j hj), qr13_lt h (by omega) (by omega)]
    rw [show n - (i + 1) = n - 1 - i by omega, show n - (j + 1) = n - 1 - j by omega]
    constructor
    · rintro (c | ⟨c, d⟩)
      · exact .lt (by omega) (by omega) c
      · refine .eq (by omega) (by omega) c ?_
        rw [show n - 1 - i + 1 = n - i by omega, show n - 1 - j + 1 = n - j by omega]
        exact d
    · intro c
      by_cases e : S12 z (n - 1 - i) = S12 z (n - 1 - j)
      · refine Or.inr ⟨e, ?_⟩
        have := c.tail (by omega) e
        rw [show n - 1 - i + 1 = n - i by omega, show n - 1 - j + 1 = n - j by omega] at this
        exact this
      · cases c with
        | fin a1 a2 => omega
        | lt _ _ c => exact Or.inl c
        | eq _ _ c _ => exact absurd c e
  have hlai : ∀ i j, i < n → j < n → la13 (te13 n A) (qr13 n A i) = la13 (te13 n A) (qr13 n A j) → i = j := fun i j hi hj e => by
    have m1 := la13_mono (hne i hi) (hne j hj)
    have m2 := la13_mono (hne j hj) (hne i hi)
    exact qr13_inj h (by omega) (by omega) (by omega)
  have step : ∀ k, k < n → nx13 (S12 (tn13 z (n :: A))) n (la13 (te13 n A) (qr13 n A k)) = qr13 n A (k + 1) := by
    intro k hk
    have hp : ∀ k, k < n → 1 ≤ nx13 (S12 (tn13 z (n :: A))) n (la13 (te13 n A) (qr13 n A k)) := fun k _ => by unfold nx13; omega
    have hq : ∀ k, 1 ≤ qr13 n A (k + 1) := fun k => by unfold qr13; rw [if_neg (by omega)]; omega
    have e1 := like13 (f := fun k => nx13 (S12 (tn13 z (n :: A))) n (la13 (te13 n A) (qr13 n A k)) - 1) (g := fun k => qr13 n A (k + 1) - 1) (n := n)
      (fun k hk => by have := nx13_le (B := S12 (tn13 z (n :: A))) (hla k hk); have := hp k hk; show nx13 _ _ _ - 1 < n; omega)
      (fun i j hi hj e => by
        have e' : nx13 (S12 (tn13 z (n :: A))) n (la13 (te13 n A) (qr13 n A i)) - 1 = nx13 (S12 (tn13 z (n :: A))) n (la13 (te13 n A) (qr13 n A j)) - 1 := e
        have a1 := hlt i j hi hj
        have a2 := hlt j i hj hi
        have p1 := hp i hi
        have p2 := hp j hj
        have := qr13_inj h (i := i + 1) (j := j + 1) (by omega) (by omega) (by omega)
        omega)
      (fun k hk => by have := qr13_le h (k := k + 1) (by omega); have := hq k; show qr13 _ _ _ - 1 < n; omega)
      (fun i j hi hj e => by
        have e' : qr13 n A (i + 1) - 1 = qr13 n A (j + 1) - 1 := e
        have q1 := hq i
        have q2 := hq j
        have := qr13_inj h (i := i + 1) (j := j + 1) (by omega) (by omega) (by omega)
        omega)
      (fun i j hi hj => by
        have a1 := hlt i j hi hj
        have p1 := hp i hi
        have p2 := hp j hj
        have q1 := hq i
        have q2 := hq j
        show nx13 _ _ _ - 1 < nx13 _ _ _ - 1 ↔ qr13 _ _ _ - 1 < qr13 _ _ _ - 1
        omega) hk
    have e2 : nx13 (S12 (tn13 z (n :: A))) n (la13 (te13 n A) (qr13 n A k)) - 1 = qr13 n A (k + 1) - 1 := e1
    have := hp k hk
    have := hq k
    omega
  have hrw : ∀ k, k ≤ n → rw13 (S12 (tn13 z (n :: A))) n (te13 n A) k = qr13 n A k := by
    intro k
    induction k with
    | zero => intro _; rfl
    | succ k ih =>
      intro hk
      show nx13 _ _ (la13 _ (rw13 _ _ _ k)) = _
      rw [ih (by omega)]
      exact step k (by omega)
  refine ⟨⟨te13_le h, fun k hk => by rw [hrw k (by omega)]; exact hne k hk⟩, ⟨hz, fun k hk => ?_⟩, hrw⟩
  unfold rc13
  rw [hrw k (by omega), hB k hk]
  rfl
/-- Turn moves bytes about. -/
theorem same13_count {z : List Int} {n : Nat} {A : List Nat} (hz : z.length = n) (h : Ar12 n (S12 z) A) (v : Int) : cn12 (fun i => S12 z i = v) n = cn12 (fun i => S12 (tn13 z (n :: A)) i = v) n := by
  obtain ⟨hW, hR, hrw⟩ := back13 hz h
  have h1 := move13 (f := fun i => la13 (te13 n A) (rw13 (S12 (tn13 z (n :: A))) n (te13 n A) (n - 1 - i))) (n := n)
    (fun k hk => la13_lt hW.le (hW.bd _ (by omega)) (hW.run _ (by omega)))
    (fun i j hi hj e => by
      have e' : la13 (te13 n A) (rw13 (S12 (tn13 z (n :: A))) n (te13 n A) (n - 1 - i)) = la13 (te13 n A) (rw13 (S12 (tn13 z (n :: A))) n (te13 n A) (n - 1 - j)) := e
      have m1 := la13_mono (hW.run (n - 1 - i) (by omega)) (hW.run (n - 1 - j) (by omega))
      have m2 := la13_mono (hW.run (n - 1 - j) (by omega)) (hW.run (n - 1 - i) (by omega))
      have := hW.inj (n - 1 - i) (n - 1 - j) (by omega) (by omega) (by omega)
      omega)
    (fun y => S12 (tn13 z (n :: A)) y = v)
  rw [← h1]
  refine cn12_congr fun i hi => ?_
  have h2 := hR.at_ (n - 1 - i) (by omega)
  rw [show n - 1 - (n - 1 - i) = i by omega] at h2
  have h3 : S12 z i = S12 (tn13 z (n :: A)) (la13 (te13 n A) (rw13 (S12 (tn13 z (n :: A))) n (te13 n A) (n - 1 - i))) := h2
  rw [h3]
end Go.Proofs.Ytkpfailmmcelcaa
