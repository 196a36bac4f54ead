
import Derived.Test.YtkpfailmmcelcaaSuM4
namespace Go.Proofs.Ytkpfailmmcelcaa
set_option linter.unusedVariables false

/-! Unturn of Turn, pure; the bytes of the one are those of the other. -/
theorem cut13 {f : Nat → Nat} {n : Nat} (hf : ∀ k, k < n → f k < n) (hi : ∀ i j, i < n → j < n → f i = f j → i = j) : ∀ v, v ≤ n → cn12 (fun j => f j < v) n = v
  | 0, _ => cn12_none fun j _ h => by omega
  | v + 1, hv => by
    obtain ⟨k, hk, hfk⟩ := onto13 hf hi (y := v) (by omega)
    rw [cn12_upd (P := fun j => f j < v) (Q := fun j => f j < v + 1) (j := k) hk (by omega) (fun j hj => by
      constructor
      · intro h
        by_cases c : f j = v
        · exact Or.inr (hi j k hj hk (c.trans hfk.symm))
        · exact Or.inl (by omega)
      · rintro (h | h)
        · omega
        · subst h; omega), cut13 hf hi v (by omega)]
/-- Two ways to number that order alike are the same. -/
theorem like13 {f g : Nat → Nat} {n : Nat} (hf : ∀ k, k < n → f k < n) (hfi : ∀ i j, i < n → j < n → f i = f j → i = j) (hg : ∀ k, k < n → g k < n) (hgi : ∀ i j, i < n → j < n → g i = g j → i = j) (h : ∀ i j, i < n → j < n → (f i < f j ↔ g i < g j)) {k : Nat} (hk : k < n) : f k = g k := by
  have h1 := cut13 hf hfi (f k) (Nat.le_of_lt (hf k hk))
  have h2 := cut13 hg hgi (g k) (Nat.le_of_lt (hg k hk))
  rw [← h1, ← h2]
  exact cn12_congr fun j hj => h j k hj hk
theorem moved13 {f : Nat → Nat} {n : Nat} (hf : ∀ k, k < n → f k < n) (hi : ∀ i j, i < n → j < n → f i = f j → i = j) (P : Nat → Prop) : ∀ m, m ≤ n → cn12 (fun i => P (f i)) m = cn12 (fun y => P y ∧ ∃ k, k < m ∧ f k = y) n
  | 0, _ => by
    rw [cn12_none (P := fun y => P y ∧ ∃ k, k < 0 ∧ f k = y) (fun y _ ⟨_, k, hk, _⟩ => by omega)]
    rfl
  | m + 1, hm => by
    have ih := moved13 hf hi P m (by omega)
    by_cases c : P (f m)
    · have stp : cn12 (fun i => P (f i)) (m + 1) = cn12 (fun i => P (f i)) m + 1 := by simp [cn12, c]
      rw [stp, ih]
      rw [cn12_upd (P := fun y => P y ∧ ∃ k, k < m ∧ f k = y) (Q := fun y => P y ∧ ∃ k, k < m + 1 ∧ f k = y) (j := f m) (hf m (by omega)) (fun ⟨_, k, hk, he⟩ => by have := hi k m (by omega) (by omega) he; omega) (fun y _ => by
        constructor
        · rintro ⟨h1, k, hk, he⟩
          by_cases c2 : k = m
          · subst c2; exact Or.inr he.symm
          · exact Or.inl ⟨h1, k, by omega, he⟩
        · rintro (⟨h1, k, hk, he⟩ | h1)
          · exact ⟨h1, k, by omega, he⟩
          · subst h1; exact ⟨c, m, by omega, rfl⟩)]
    · have stp : cn12 (fun i => P (f i)) (m + 1) = cn12 (fun i => P (f i)) m := by simp [cn12, c]
      rw [stp, ih]
      refine cn12_congr fun y _ => ?_
      constructor
      · rintro ⟨h1, k, hk, he⟩
        exact ⟨h1, k, by omega, he⟩
      · rintro ⟨h1, k, hk, he⟩
        by_cases c2 : k = m
        · subst c2; rw [he] at c; exact absurd h1 c
        · exact ⟨h1, k, by omega, he⟩
theorem move13 {f : Nat → Nat} {n : Nat} (hf : ∀ k, k < n → f k < n) (hi : ∀ i j, i < n → j < n → f i = f j → i = j) (P : Nat → Prop) : cn12 (fun i => P (f i)) n = cn12 P n := by
  rw [moved13 hf hi P n (Nat.le_refl _)]
  refine cn12_congr fun y hy => ?_
  constructor
  · exact fun h => h.1
  · intro h
    obtain ⟨k, hk, he⟩ := onto13 hf hi hy
    exact ⟨h, k, hk, he⟩
/-- The row of the suffix of k bytes. -/
def qr13 (n : Nat) (A : List Nat) (k : Nat) : Nat := if k = 0 then 0 else rk13 A (n - k) + 1
theorem qr13_le {n : Nat} {S : Nat → Int} {A : List Nat} (h : Ar12 n S A) {k : Nat} (hk : k ≤ n) : qr13 n A k ≤ n := by
  unfold qr13
  split
  · omega
  · have := (h.rk (j := n - k) (by omega)).1
    omega
theorem qr13_row {n : Nat} {S : Nat → Int} {A : List Nat} (h : Ar12 n S A) {k : Nat} (hk : k ≤ n) : (n :: A).getD (qr13 n A k) 0 = n - k := by
  unfold qr13
  split
  · next c => subst c; rfl
  · exact (h.rk (j := n - k) (by omega)).2
theorem qr13_inj {n : Nat} {S : Nat → Int} {A : List Nat} (h : Ar12 n S A) {i j : Nat} (hi : i ≤ n) (hj : j ≤ n) (e : qr13 n A i = qr13 n A j) : i = j := by
  have h1 := qr13_row h hi
  have h2 := qr13_row h hj
  rw [e] at h1
  omega
theorem qr13_end {n : Nat} {S : Nat → Int} {A : List Nat} (h : Ar12 n S A) : qr13 n A n = te13 n A := by
  have h1 := qr13_row h (Nat.le_refl n)
  rw [Nat.sub_self] at h1
  exact (te13_iff h (qr13_le h (Nat.le_refl n))).1 h1
theorem qr13_lt {n : Nat} {S : Nat → Int} {A : List Nat} (h : Ar12 n S A) {i j : Nat} (hi : i ≤ n) (hj : j ≤ n) : qr13 n A i < qr13 n A j ↔ Ls12 n S (n - i) (n - j) := by
  have key : ∀ i j, i ≤ n → j ≤ n → qr13 n A i < qr13 n A j → Ls12 n S (n - i) (n - j) := by
    intro i j hi hj hlt
    by_cases c : i = 0
    · subst c
      have : j ≠ 0 := by intro e; subst e; omega
      exact .fin (by omega) (by omega)
    · have cj : j ≠ 0 := by intro e; subst e; simp [qr13] at hlt
      unfold qr13 at hlt
      rw [if_neg c, if_neg cj] at hlt
      obtain ⟨a1, a2⟩ := h.rk (j := n - i) (by omega)
      obtain ⟨b1, b2⟩ := h.rk (j := n - j) (by omega)
      have h5 := h.pair (r := rk13 A (n - i)) (q := rk13 A (n - j)) (by omega) b1
      rw [a2, b2] at h5
      exact h5
  refine ⟨key i j hi hj, fun hL => ?_⟩
  rcases Nat.lt_trichotomy (qr13 n A i) (qr13 n A j) with c | c | c
  · exact c
  · have := qr13_inj h hi hj c
    subst this
    exact hL.irrefl.elim
  · exact (hL.asymm (key j i hj hi c)).elim
/-- What stands in a row's last. -/
theorem tn13_at {z : List Int} {n : Nat} {S : Nat → Int} {A : List Nat} (h : Ar12 n S A) {r : Nat} (hr : r ≤ n) (hne : r ≠ te13 n A) : (tn13 z (n :: A)).getD (la13 (te13 n A) r) 0 = z.getD ((n :: A).getD r 0 - 1) 0 := by
  have h1 := tn13_take z (n :: A) r (by simp [h.len]; omega)
  have h0 : ¬ (n :: A).getD r 0 = 0 := fun c => hne ((te13_iff h hr).1 c)
  rw [if_neg h0] at h1
  have hl := tn13_len (z := z) h r (by omega)
  have hsplit : tn13 z (n :: A) = tn13 z ((n :: A).take (r + 1)) ++ tn13 z ((n :: A).drop (r + 1)) := by
    conv => lhs; rw [← List.take_append_drop (r + 1) (n :: A)]
    unfold tn13
    rw [List.flatMap_append]
  rw [hsplit, h1, ← hl]
  simp [List.getD]
theorem back13 {z : List Int} {n : Nat} {A : List Nat} (hz : z.length = n) (h : Ar12 n (S12 z) A) : Wk13 (S12 (tn13 z (n :: A))) n (te13 n A) ∧ Rd13 (S12 (tn13 z (n :: A))) n (te13 n A) z ∧ ∀ k, k ≤ n → rw13 (S12 (tn13 z (n :: A))) n (te13 n A) k = qr13 n A k := by
  have hne : ∀ k, k < n → qr13 n A k ≠ te13 n A := fun k hk e => by
    rw [← qr13_end h] at e
    have := qr13_inj h (by omega) (Nat.le_refl n) e
    omega
  have hB : ∀ k, k < n → S12 (tn13 z (n :: A)) (la13 (te13 n A) (qr13 n A k)) = S12 z (n - 1 - k) := fun k hk => by
    have h1 := tn13_at (z := z) h (qr13_le h (by omega)) (hne k hk)
    rw [qr13_row h (by omega)] at h1
    rw [show n - k - 1 = n - 1 - k by omega] at h1
    exact h1
  have hla : ∀ k, k < n → la13 (te13 n A) (qr13 n A k) < n := fun k hk => la13_lt (te13_le h) (qr13_le h (by omega)) (hne k hk)
  have hlt : ∀ i j, i < n → j < n → (nx13 (S12 (tn13 z (n :: A))) n (la13 (te13 n A) (qr13 n A i)) < nx13 (S12 (tn13 z (n :: A))) n (la13 (te13 n A) (qr13 n A j)) ↔ qr13 n A (i + 1) < qr13 n A (j + 1)) := by
    intro i j hi hj
    rw [nx13_lt (hla i hi) (hla j hj), qr13_lt h (by omega) (by omega)]
    unfold lt13
    rw [hB i hi, hB j hj, la13_mono (hne i hi) (hne j hj), qr13_lt h (by omega) (by omega)]
    rw [show n - (i + 1) = n - 1 - i by omega, show n - (j + 1) = n - 1 - j by omega]
    constructor
    · rintro (c | ⟨c, d⟩)
      · exact .lt (by omega) (by omega) c
      · refine .eq (by omega) (by omega) c ?_
        rw [show n - 1 - i + 1 = n - i by omega, show n - 1 - j + 1 = n - j by omega]
        exact d
    · intro c
      by_cases e : S12 z (n - 1 - i) = S12 z (n - 1 - j)
      · refine Or.inr ⟨e, ?_⟩
        have := c.tail (by omega) e
        rw [show n - 1 - i + 1 = n - i by omega, show n - 1 - j + 1 = n - j by omega] at this
        exact this
      · cases c with
        | fin a1 a2 => omega
        | lt _ _ c => exact Or.inl c
        | eq _ _ c _ => exact absurd c e
  have hlai : ∀ i j, i < n → j < n → la13 (te13 n A) (qr13 n A i) = la13 (te13 n A) (qr13 n A j) → i = j := fun i j hi hj e => by
    have m1 := la13_mono (hne i hi) (hne j hj)
    have m2 := la13_mono (hne j hj) (hne i hi)
    exact qr13_inj h (by omega) (by omega) (by omega)
  have step : ∀ k, k < n → nx13 (S12 (tn13 z (n :: A))) n (la13 (te13 n A) (qr13 n A k)) = qr13 n A (k + 1) := by
    intro k hk
    have hp : ∀ k, k < n → 1 ≤ nx13 (S12 (tn13 z (n :: A))) n (la13 (te13 n A) (qr13 n A k)) := fun k _ => by unfold nx13; omega
    have hq : ∀ k, 1 ≤ qr13 n A (k + 1) := fun k => by unfold qr13; rw [if_neg (by omega)]; omega
    have e1 := like13 (f := fun k => nx13 (S12 (tn13 z (n :: A))) n (la13 (te13 n A) (qr13 n A k)) - 1) (g := fun k => qr13 n A (k + 1) - 1) (n := n)
      (fun k hk => by have := nx13_le (B := S12 (tn13 z (n :: A))) (hla k hk); have := hp k hk; show nx13 _ _ _ - 1 < n; omega)
      (fun i j hi hj e => by
        have e' : nx13 (S12 (tn13 z (n :: A))) n (la13 (te13 n A) (qr13 n A i)) - 1 = nx13 (S12 (tn13 z (n :: A))) n (la13 (te13 n A) (qr13 n A j)) - 1 := e
        have a1 := hlt i j hi hj
        have a2 := hlt j i hj hi
        have p1 := hp i hi
        have p2 := hp j hj
        have := qr13_inj h (i := i + 1) (j := j + 1) (by omega) (by omega) (by omega)
        omega)
      (fun k hk => by have := qr13_le h (k := k + 1) (by omega); have := hq k; show qr13 _ _ _ - 1 < n; omega)
      (fun i j hi hj e => by
        have e' : qr13 n A (i + 1) - 1 = qr13 n A (j + 1) - 1 := e
        have q1 := hq i
        have q2 := hq j
        have := qr13_inj h (i := i + 1) (j := j + 1) (by omega) (by omega) (by omega)
        omega)
      (fun i j hi hj => by
        have a1 := hlt i j hi hj
        have p1 := hp i hi
        have p2 := hp j hj
        have q1 := hq i
        have q2 := hq j
        show nx13 _ _ _ - 1 < nx13 _ _ _ - 1 ↔ qr13 _ _ _ - 1 < qr13 _ _ _ - 1
        omega) hk
    have e2 : nx13 (S12 (tn13 z (n :: A))) n (la13 (te13 n A) (qr13 n A k)) - 1 = qr13 n A (k + 1) - 1 := e1
    have := hp k hk
    have := hq k
    omega
  have hrw : ∀ k, k ≤ n → rw13 (S12 (tn13 z (n :: A))) n (te13 n A) k = qr13 n A k := by
    intro k
    induction k with
    | zero => intro _; rfl
    | succ k ih =>
      intro hk
      show nx13 _ _ (la13 _ (rw13 _ _ _ k)) = _
      rw [ih (by omega)]
      exact step k (by omega)
  refine ⟨⟨te13_le h, fun k hk => by rw [hrw k (by omega)]; exact hne k hk⟩, ⟨hz, fun k hk => ?_⟩, hrw⟩
  unfold rc13
  rw [hrw k (by omega), hB k hk]
  rfl
/-- Turn moves bytes about. -/
theorem same13_count {z : List Int} {n : Nat} {A : List Nat} (hz : z.length = n) (h : Ar12 n (S12 z) A) (v : Int) : cn12 (fun i => S12 z i = v) n = cn12 (fun i => S12 (tn13 z (n :: A)) i = v) n := by
  obtain ⟨hW, hR, hrw⟩ := back13 hz h
  have h1 := move13 (f := fun i => la13 (te13 n A) (rw13 (S12 (tn13 z (n :: A))) n (te13 n A) (n - 1 - i))) (n := n)
    (fun k hk => la13_lt hW.le (hW.bd _ (by omega)) (hW.run _ (by omega)))
    (fun i j hi hj e => by
      have e' : la13 (te13 n A) (rw13 (S12 (tn13 z (n :: A))) n (te13 n A) (n - 1 - i)) = la13 (te13 n A) (rw13 (S12 (tn13 z (n :: A))) n (te13 n A) (n - 1 - j)) := e
      have m1 := la13_mono (hW.run (n - 1 - i) (by omega)) (hW.run (n - 1 - j) (by omega))
      have m2 := la13_mono (hW.run (n - 1 - j) (by omega)) (hW.run (n - 1 - i) (by omega))
      have := hW.inj (n - 1 - i) (n - 1 - j) (by omega) (by omega) (by omega)
      omega)
    (fun y => S12 (tn13 z (n :: A)) y = v)
  rw [← h1]
  refine cn12_congr fun i hi => ?_
  have h2 := hR.at_ (n - 1 - i) (by omega)
  rw [show n - 1 - (n - 1 - i) = i by omega] at h2
  have h3 : S12 z i = S12 (tn13 z (n :: A)) (la13 (te13 n A) (rw13 (S12 (tn13 z (n :: A))) n (te13 n A) (n - 1 - i))) := h2
  rw [h3]
end Go.Proofs.Ytkpfailmmcelcaa
