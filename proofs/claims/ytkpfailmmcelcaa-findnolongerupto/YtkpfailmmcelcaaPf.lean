import Derived.Test.YtkpfailmmcelcaaPe
import Derived.Test.YtkpfailmmcelcaaPb
namespace Go.Proofs.Ytkpfailmmcelcaa
set_option linter.unusedVariables false

/-! Lists of numbers: types, turns, the order of suffixes, names (layer 12), as mathematics. -/
def S12 (s : List Int) (i : Nat) : Int := s.getD i 0
def sf12 (n : Nat) (S : Nat → Int) : Nat → Nat → Bool
  | 0, _ => false
  | f + 1, i => if i + 1 < n then (decide (S i < S (i + 1)) || (decide (S i = S (i + 1)) && sf12 n S f (i + 1))) else false
theorem sf12_more {n : Nat} {S : Nat → Int} : ∀ (f g i : Nat), n ≤ i + f → n ≤ i + g → sf12 n S f i = sf12 n S g i
  | 0, 0, i, _, _ => rfl
  | 0, g + 1, i, h, _ => by unfold sf12; rw [if_neg (by omega)]
  | f + 1, 0, i, _, h => by unfold sf12; rw [if_neg (by omega)]
  | f + 1, g + 1, i, h, k => by unfold sf12; rw [sf12_more f g (i + 1) (by omega) (by omega)]
def sm12 (s : List Int) (i : Nat) : Bool := sf12 s.length (S12 s) s.length i
theorem ty12 (s : List Int) : Ty12 s.length (S12 s) (sm12 s) := by
  refine ⟨fun i hi => ?_, fun i hi => ?_⟩
  · unfold sm12
    rw [sf12_more s.length (s.length - 1) (i + 1) (by omega) (by omega)]
    generalize hn : s.length = n at *
    cases n with
    | zero => omega
    | succ m => rw [sf12, if_pos hi]; rfl
  · unfold sm12
    generalize hn : s.length = n at *
    cases n with
    | zero => rfl
    | succ m => rw [sf12, if_neg hi]
theorem Ty12.unique {n : Nat} {S : Nat → Int} {a b : Nat → Bool} (h : Ty12 n S a) (k : Ty12 n S b) : ∀ (d i : Nat), n ≤ i + d → a i = b i
  | 0, i, hd => by rw [h.last i (by omega), k.last i (by omega)]
  | d + 1, i, hd => by
    by_cases hi : i + 1 < n
    · rw [h.rc i hi, k.rc i hi, Ty12.unique h k d (i + 1) (by omega)]
    · rw [h.last i hi, k.last i hi]
def typ12 (s : List Int) : List Bool := (List.range s.length).map (sm12 s)
theorem typ12_len (s : List Int) : (typ12 s).length = s.length := by simp [typ12]
theorem typ12_get (s : List Int) (i : Nat) : (typ12 s).getD i false = sm12 s i := by
  by_cases h : i < s.length
  · simp [typ12, List.getD, h]
  · rw [(ty12 s).last i (by omega)]
    simp [typ12, List.getD, h]
def tb12 (sm : Nat → Bool) (i : Nat) : Bool := decide (0 < i) && sm i && !sm (i - 1)
theorem tb12_iff {sm : Nat → Bool} {i : Nat} : tb12 sm i = true ↔ tn12 sm i := by
  unfold tb12 tn12
  simp only [Bool.and_eq_true, decide_eq_true_eq, Bool.not_eq_true', and_assoc]
def tns12 (s : List Int) : List Nat := (List.range s.length).filter (tb12 (sm12 s))
theorem tns12_or (s : List Int) : Or12 s.length (sm12 s) (tns12 s) :=
  ⟨List.Pairwise.filter _ List.nodup_range, fun j => by unfold tns12; rw [List.mem_filter, List.mem_range, tb12_iff]⟩
theorem tns12_lt (s : List Int) : (tns12 s).Pairwise (· < ·) := List.Pairwise.filter _ List.pairwise_lt_range
theorem tn12_lt {n : Nat} {S : Nat → Int} {sm : Nat → Bool} (H : Ty12 n S sm) {i : Nat} (h : tn12 sm i) : i + 1 < n := (H.small h.2.1).1
theorem tn12_two {sm : Nat → Bool} {i j : Nat} (hi : tn12 sm i) (hj : tn12 sm j) (h : i / 2 = j / 2) : i = j := by
  rcases Nat.lt_trichotomy i j with k | k | k
  · have : j = i + 1 := by omega
    subst this
    exact absurd hj (not_turn12' hi.2.1)
  · exact k
  · have : i = j + 1 := by omega
    subst this
    exact absurd hi (not_turn12' hj.2.1)
/-! The order of the suffixes. -/
structure Ar12 (n : Nat) (S : Nat → Int) (A : List Nat) : Prop where
  len : A.length = n
  lt : ∀ j ∈ A, j < n
  all : ∀ j, j < n → j ∈ A
  so : A.Pairwise (Ls12 n S)
theorem pair_unique12 {r : Nat → Nat → Prop} (has : ∀ i j, r i j → r j i → False) : ∀ (A B : List Nat), A.Pairwise r → B.Pairwise r → (∀ j, j ∈ A ↔ j ∈ B) → A = B
  | [], [], _, _, _ => rfl
  | [], b :: B, _, _, h => by have := (h b).2 (by simp); simp at this
  | a :: A, [], _, _, h => by have := (h a).1 (by simp); simp at this
  | a :: A, b :: B, ha, hb, h => by
    have ha' := List.pairwise_cons.1 ha
    have hb' := List.pairwise_cons.1 hb
    have e : a = b := by
      have h1 := (h a).1 (by simp)
      have h2 := (h b).2 (by simp)
      rw [List.mem_cons] at h1 h2
      rcases h1 with h1 | h1
      · exact h1
      · rcases h2 with h2 | h2
        · exact h2.symm
        · exact (has _ _ (ha'.1 b h2) (hb'.1 a h1)).elim
    subst e
    have na : a ∉ A := fun k => has a a (ha'.1 a k) (ha'.1 a k)
    have nb : a ∉ B := fun k => has a a (hb'.1 a k) (hb'.1 a k)
    rw [pair_unique12 has A B ha'.2 hb'.2]
    intro j
    have := h j
    rw [List.mem_cons, List.mem_cons] at this
    constructor
    · intro k
      rcases this.1 (Or.inr k) with e | e
      · subst e; exact absurd k na
      · exact e
    · intro k
      rcases this.2 (Or.inr k) with e | e
      · subst e; exact absurd k nb
      · exact e
theorem Ar12.unique {n : Nat} {S : Nat → Int} {A B : List Nat} (h : Ar12 n S A) (k : Ar12 n S B) : A = B :=
  pair_unique12 (fun i j a b => a.asymm b) A B h.so k.so (fun j => ⟨fun a => k.all j (h.lt j a), fun a => h.all j (k.lt j a)⟩)
def row12 (n : Nat) (R : Nat → Int) : List Nat := (List.range n).map (fun q => (R q).toNat)
theorem row12_get {n : Nat} {R : Nat → Int} {q : Nat} (hq : q < n) : (row12 n R)[q]'(by simp [row12]; exact hq) = (R q).toNat := by simp [row12]
theorem row12_mem {n : Nat} {R : Nat → Int} (h : Pm12 n R) (j : Nat) : j ∈ row12 n R ↔ j < n := by
  unfold row12
  rw [List.mem_map]
  constructor
  · rintro ⟨q, hq, e⟩
    obtain ⟨k, hk, e2⟩ := h.fill q (List.mem_range.1 hq)
    omega
  · intro hj
    obtain ⟨q, hq, e⟩ := h.all j hj
    exact ⟨q, List.mem_range.2 hq, by omega⟩
theorem row12_pair {n : Nat} {R : Nat → Int} (h : Pm12 n R) {r : Nat → Nat → Prop} (hr : ∀ q q' i j : Nat, q < q' → q' < n → i < n → j < n → R q = (i : Int) → R q' = (j : Int) → r i j) : (row12 n R).Pairwise r := by
  unfold row12
  rw [List.pairwise_map]
  refine List.Pairwise.imp_of_mem (R := fun a b => a < b) (fun {q q'} hq hq' k => ?_) List.pairwise_lt_range
  obtain ⟨i, hi, e1⟩ := h.fill q (List.mem_range.1 hq)
  obtain ⟨j, hj, e2⟩ := h.fill q' (List.mem_range.1 hq')
  rw [e1, e2]
  exact hr q q' i j k (List.mem_range.1 hq') hi hj e1 e2
theorem row12_ints {n : Nat} {R : Nat → Int} (h : Pm12 n R) : (row12 n R).map (fun j : Nat => (j : Int)) = (List.range n).map R := by
  unfold row12
  rw [List.map_map]
  refine List.map_congr_left fun q hq => ?_
  obtain ⟨i, hi, e1⟩ := h.fill q (List.mem_range.1 hq)
  simp only [Function.comp]
  omega
/-- P12.6. -/
theorem ar12_ind {n : Nat} {S : Nat → Int} {sm : Nat → Bool} {o : List Nat} (H : Ty12 n S sm) (ho : Or12 n sm o) (hp : o.Pairwise (Ls12 n S)) : Ar12 n S (row12 n (ind12 n S sm o)) := by
  have hm := ind12_pm (S := S) H ho
  exact ⟨by simp [row12], fun j hj => (row12_mem hm j).1 hj, fun j hj => (row12_mem hm j).2 hj, row12_pair hm (ind12_less H ho hp)⟩
/-- The turns of a row. -/
def by12 (sm : Nat → Bool) (A : List Nat) : List Nat := A.filter (tb12 sm)
theorem by12_or {n : Nat} {S : Nat → Int} {sm : Nat → Bool} {o : List Nat} (H : Ty12 n S sm) (ho : Or12 n sm o) : Or12 n sm (by12 sm (row12 n (ind12 n S sm o))) := by
  have hm := ind12_pm (S := S) H ho
  refine ⟨List.Pairwise.filter _ ?_, fun j => ?_⟩
  · refine (row12_pair hm (r := (· ≠ ·)) fun q q' i j a b hi hj e1 e2 e => ?_)
    have := hm.inj q q' (by omega) b (by rw [e1, e2, e])
    omega
  · unfold by12
    rw [List.mem_filter, row12_mem hm, tb12_iff]
theorem by12_key {n : Nat} {S : Nat → Int} {sm : Nat → Bool} {o : List Nat} (H : Ty12 n S sm) (ho : Or12 n sm o) : (by12 sm (row12 n (ind12 n S sm o))).Pairwise (fun i j => LE12 (key12 n S sm i) (key12 n S sm j)) :=
  List.Pairwise.filter _ (row12_pair (ind12_pm H ho) (ind12_key H ho))
/-! Names. -/
open Classical in
noncomputable def cr12 (K : Nat → List Int) (b : List Nat) : Nat → Nat
  | 0 => 0
  | r + 1 => cr12 K b r + (if r = 0 ∨ K (b.getD (r - 1) 0) ≠ K (b.getD r 0) then 1 else 0)
theorem cr12_step {K : Nat → List Int} {b : List Nat} (r : Nat) : cr12 K b r ≤ cr12 K b (r + 1) ∧ cr12 K b (r + 1) ≤ cr12 K b r + 1 := by
  rw [cr12]; split <;> omega
theorem cr12_mono {K : Nat → List Int} {b : List Nat} (r : Nat) : ∀ d, cr12 K b r ≤ cr12 K b (r + d)
  | 0 => Nat.le_refl _
  | d + 1 => by have := cr12_mono (K := K) (b := b) r d; have := (cr12_step (K := K) (b := b) (r + d)).1; rw [← Nat.add_assoc]; omega
theorem cr12_pos {K : Nat → List Int} {b : List Nat} (r : Nat) : 1 ≤ cr12 K b (r + 1) := by
  have h : cr12 K b 1 = 1 := by simp [cr12]
  have := cr12_mono (K := K) (b := b) 1 r
  rw [Nat.add_comm] at this; omega
theorem cr12_le {K : Nat → List Int} {b : List Nat} : ∀ r, cr12 K b r ≤ r
  | 0 => Nat.le_refl _
  | r + 1 => by have := cr12_le (K := K) (b := b) r; have := (cr12_step (K := K) (b := b) r).2; omega
theorem cr12_stay {K : Nat → List Int} {b : List Nat} (r : Nat) : ∀ d, cr12 K b (r + d + 1) = cr12 K b (r + 1) → K (b.getD (r + d) 0) = K (b.getD r 0)
  | 0, _ => rfl
  | d + 1, h => by
    have h1 := cr12_mono (K := K) (b := b) (r + 1) d
    rw [show r + 1 + d = r + d + 1 by omega] at h1
    have h2 := cr12_step (K := K) (b := b) (r + d + 1)
    rw [show r + (d + 1) + 1 = r + d + 1 + 1 by omega] at h
    have h3 := cr12_stay (K := K) (b := b) r d (by omega)
    rw [cr12] at h
    by_cases hc : r + d + 1 = 0 ∨ K (b.getD (r + d + 1 - 1) 0) ≠ K (b.getD (r + d + 1) 0)
    · rw [if_pos hc] at h; omega
    · have hc2 : ¬ K (b.getD (r + d) 0) ≠ K (b.getD (r + d + 1) 0) := fun k => hc (Or.inr k)
      have := Classical.not_not.1 hc2
      rw [← Nat.add_assoc, ← this, h3]
theorem cr12_same {K : Nat → List Int} {b : List Nat} (hb : b.Pairwise (fun i j => LE12 (K i) (K j))) (r : Nat) : ∀ d, r + d < b.length → K (b.getD (r + d) 0) = K (b.getD r 0) → cr12 K b (r + d + 1) = cr12 K b (r + 1)
  | 0, _, _ => rfl
  | d + 1, hd, e => by
    have hp := List.pairwise_iff_getElem.1 hb
    have g : ∀ k (hk : k < b.length), b.getD k 0 = b[k] := fun k hk => by simp [List.getD, hk]
    have h1 : LE12 (K (b.getD (r + d) 0)) (K (b.getD (r + d + 1) 0)) := by rw [g _ (by omega), g _ (by omega)]; exact hp (r + d) (r + d + 1) (by omega) (by omega) (by omega)
    have h2 : LE12 (K (b.getD r 0)) (K (b.getD (r + d) 0)) := by
      by_cases hd0 : d = 0
      · subst hd0; exact Or.inl rfl
      · rw [g _ (by omega), g _ (by omega)]; exact hp r (r + d) (by omega) (by omega) (by omega)
    rw [← Nat.add_assoc] at e
    have e2 : K (b.getD (r + d) 0) = K (b.getD r 0) := by
      rcases h2 with h2 | h2
      · exact h2.symm
      · exfalso
        rw [e] at h1
        rcases h1 with h1 | h1
        · rw [h1] at h2; exact h2.irrefl
        · exact h2.asymm h1
    have ih := cr12_same hb r d (by omega) e2
    have hno : ¬ (r + d + 1 = 0 ∨ K (b.getD (r + d + 1 - 1) 0) ≠ K (b.getD (r + d + 1) 0)) := by
      rintro (k | k)
      · omega
      · exact k (by rw [show r + d + 1 - 1 = r + d by omega, e, e2])
    rw [show r + (d + 1) + 1 = r + d + 1 + 1 by omega, cr12, if_neg hno, ih, Nat.add_zero]
/-- Names tell the pieces' order. -/
theorem cr12_lt {K : Nat → List Int} {b : List Nat} (hb : b.Pairwise (fun i j => LE12 (K i) (K j))) {r r' : Nat} (hr : r < b.length) (hr' : r' < b.length) :
    (cr12 K b (r + 1) < cr12 K b (r' + 1) → LL12 (K (b.getD r 0)) (K (b.getD r' 0))) ∧ (cr12 K b (r + 1) = cr12 K b (r' + 1) ↔ K (b.getD r 0) = K (b.getD r' 0)) := by
  have hp := List.pairwise_iff_getElem.1 hb
  have g : ∀ k (hk : k < b.length), b.getD k 0 = b[k] := fun k hk => by simp [List.getD, hk]
  rcases Nat.le_total r r' with h | h
  · obtain ⟨d, rfl⟩ : ∃ d, r' = r + d := ⟨r' - r, by omega⟩
    have h2 : LE12 (K (b.getD r 0)) (K (b.getD (r + d) 0)) := by
      by_cases hd0 : d = 0
      · subst hd0; exact Or.inl rfl
      · rw [g _ (by omega), g _ (by omega)]; exact hp r (r + d) (by omega) (by omega) (by omega)
    refine ⟨fun k => ?_, fun k => (cr12_stay r d k.symm).symm, fun k => (cr12_same hb r d hr' k.symm).symm⟩
    rcases h2 with h2 | h2
    · rw [cr12_same hb r d hr' h2.symm] at k; omega
    · exact h2
  · obtain ⟨d, rfl⟩ : ∃ d, r = r' + d := ⟨r - r', by omega⟩
    have := cr12_mono (K := K) (b := b) (r' + 1) d
    rw [show r' + 1 + d = r' + d + 1 by omega] at this
    exact ⟨fun k => by omega, fun k => cr12_stay r' d k, fun k => cr12_same hb r' d hr k⟩
/-- As many names as turns: no two pieces are alike. -/
theorem cr12_full {K : Nat → List Int} {b : List Nat} (hb : b.Pairwise (fun i j => LE12 (K i) (K j))) (hc : cr12 K b b.length = b.length) : b.Pairwise (fun i j => LL12 (K i) (K j)) := by
  have hall : ∀ d r, r + d = b.length → cr12 K b r = r := by
    intro d
    induction d with
    | zero => intro r h; rw [show r = b.length by omega]; exact hc
    | succ d ih =>
      intro r h
      have h1 := ih (r + 1) (by omega)
      have h2 := cr12_step (K := K) (b := b) r
      have h3 := cr12_le (K := K) (b := b) r
      omega
  have g : ∀ k (hk : k < b.length), b.getD k 0 = b[k] := fun k hk => by simp [List.getD, hk]
  refine List.pairwise_iff_getElem.2 fun i j hi hj k => ?_
  have e1 := hall (b.length - (i + 1)) (i + 1) (by omega)
  have e2 := hall (b.length - (j + 1)) (j + 1) (by omega)
  have := (cr12_lt hb hi hj).1 (by omega)
  rw [g i hi, g j hj] at this
  exact this
/-! The suffixes of names. -/
structure Nm12 (n : Nat) (S : Nat → Int) (sm : Nat → Bool) (t : List Nat) (N : List Int) : Prop where
  len : N.length = t.length
  lt : ∀ a a', a < t.length → a' < t.length → N.getD a 0 < N.getD a' 0 → LL12 (key12 n S sm (t.getD a n)) (key12 n S sm (t.getD a' n))
  eq : ∀ a a', a < t.length → a' < t.length → N.getD a 0 = N.getD a' 0 → key12 n S sm (t.getD a n) = key12 n S sm (t.getD a' n)
theorem next12 {n : Nat} {sm : Nat → Bool} {t : List Nat} (ho : Or12 n sm t) (hl : t.Pairwise (· < ·)) {a : Nat} (ha : a < t.length) {u : Nat} (h1 : t.getD a n < u) (h2 : u < n) (h3 : tn12 sm u) (h4 : ∀ k, t.getD a n < k → k < u → ¬ tn12 sm k) : t.getD (a + 1) n = u := by
  have g : ∀ k (hk : k < t.length), t.getD k n = t[k] := fun k hk => by simp [List.getD, hk]
  have hp := List.pairwise_iff_getElem.1 hl
  obtain ⟨c, hc, e⟩ := List.mem_iff_getElem.1 ((ho.mem u).2 ⟨h2, h3⟩)
  rw [g a ha] at h1 h4
  have hac : a < c := by
    rcases Nat.lt_trichotomy a c with k | k | k
    · exact k
    · subst k; omega
    · have := hp c a hc ha k; omega
  by_cases hc1 : c = a + 1
  · subst hc1; rw [g (a + 1) hc]; exact e
  · exfalso
    have q1 := hp a (a + 1) ha (by omega) (by omega)
    have q2 := hp (a + 1) c (by omega) hc (by omega)
    exact h4 t[a + 1] q1 (by omega) ((ho.mem _).1 (List.getElem_mem _)).2
theorem Nm12.less {n : Nat} {S : Nat → Int} {sm : Nat → Bool} {t : List Nat} {N : List Int} (H : Ty12 n S sm) (ho : Or12 n sm t) (hl : t.Pairwise (· < ·)) (hN : Nm12 n S sm t N) {a a' : Nat} (h : Ls12 N.length (S12 N) a a') : Ls12 n S (t.getD a n) (t.getD a' n) := by
  have g : ∀ k (hk : k < t.length), t.getD k n < n ∧ tn12 sm (t.getD k n) := fun k hk => by
    have : t.getD k n = t[k] := by simp [List.getD, hk]
    rw [this]
    exact (ho.mem _).1 (List.getElem_mem _)
  rw [hN.len] at h
  induction h with
  | @fin a a' h1 h2 =>
    have e : t.getD a n = n := by simp [List.getD, List.getElem?_eq_none (Nat.not_lt.1 h1)]
    rw [e]
    exact .fin (by omega) (g a' h2).1
  | @lt a a' h1 h2 h3 => exact H.key_less (g a h1).1 (g a' h2).1 (hN.lt a a' h1 h2 h3)
  | @eq a a' h1 h2 h3 h4 ih =>
    have hk := hN.eq a a' h1 h2 h3
    have gi := g a h1
    have gj := g a' h2
    have hne : t.getD a n ≠ t.getD a' n := by
      intro e
      have hp := List.pairwise_iff_getElem.1 hl
      have e1 : t.getD a n = t[a] := by simp [List.getD, h1]
      have e2 : t.getD a' n = t[a'] := by simp [List.getD, h2]
      rcases Nat.lt_trichotomy a a' with k | k | k
      · have := hp a a' h1 h2 k; omega
      · subst k; exact h4.irrefl
      · have := hp a' a h2 h1 k; omega
    have na := @next12 n sm t ho hl a h1
    have na' := @next12 n sm t ho hl a' h2
    generalize t.getD a n = i at *
    generalize t.getD a' n = j at *
    unfold key12 at hk
    obtain ⟨e1, e2⟩ := List.cons.inj hk
    obtain ⟨f1, f2⟩ := cd12_eq.1 e1
    obtain ⟨m, a1, a2, a3, a4, a5⟩ := tkey12_same n (i + 1) (j + 1) (by omega) (by omega) (by omega) (by omega) (fun e3 => by unfold tn12; simp [e3, f2]) e2
    have q1 := na (u := i + 1 + m) (by omega) a1 a3 (fun k k1 k2 => by have := (a5 (k - (i + 1)) (by omega)).2.2.2.1; rw [show i + 1 + (k - (i + 1)) = k by omega] at this; exact this)
    have q2 := na' (u := j + 1 + m) (by omega) a2 a4 (fun k k1 k2 => by have := (a5 (k - (j + 1)) (by omega)).2.2.2.2; rw [show j + 1 + (k - (j + 1)) = k by omega] at this; exact this)
    rw [q1, q2] at ih
    refine .eq gi.1 gj.1 f1 ?_
    exact (Ls12.skip (d := m) (fun k hk => ⟨(a5 k hk).1, (a5 k hk).2.1, (a5 k hk).2.2.1⟩)).1 ih
/-- The turns in the order of the suffixes of their names. -/
theorem Nm12.order {n : Nat} {S : Nat → Int} {sm : Nat → Bool} {t : List Nat} {N : List Int} (H : Ty12 n S sm) (ho : Or12 n sm t) (hl : t.Pairwise (· < ·)) (hN : Nm12 n S sm t N) {A : List Nat} (hA : Ar12 N.length (S12 N) A) : Or12 n sm (A.map (fun a => t.getD a n)) ∧ (A.map (fun a => t.getD a n)).Pairwise (Ls12 n S) := by
  have hp : (A.map (fun a => t.getD a n)).Pairwise (Ls12 n S) := by
    rw [List.pairwise_map]
    exact hA.so.imp (fun h => hN.less H ho hl h)
  refine ⟨⟨hp.imp (fun {a b} h e => by subst e; exact h.irrefl), fun j => ?_⟩, hp⟩
  rw [List.mem_map, ← ho.mem j]
  constructor
  · rintro ⟨a, ha, rfl⟩
    have : a < t.length := by rw [← hN.len]; exact hA.lt a ha
    simp [List.getD, this]
  · intro hj
    obtain ⟨c, hc, e⟩ := List.mem_iff_getElem.1 hj
    exact ⟨c, hA.all c (by rw [hN.len]; exact hc), by simp [List.getD, hc, e]⟩
end Go.Proofs.Ytkpfailmmcelcaa

namespace Go.Proofs.Ytkpfailmmcelcaa
open Go.RowKit
set_option linter.unusedVariables false

/-! The landed sais: types, turns, what may be. -/
set_option maxRecDepth 100000 in
set_option maxHeartbeats 400000 in
theorem pist12 (a : Option Addr) (L : List Bool) (n cap i : Nat) (w : World) (hs : SegB w a L) (hn : Hid (L.length = n)) (hi : i < n) (hb : n ≤ 9223372036854775807) :
    Calls Try.prog 68 #[.slice a n cap, .int .i64 (i : Int)] w fun e w' => e = .returned (.bool (tb12 (gb12 L) i)) ∧ Below w.heap.size w w' := by
  have HT : Hid (tb12 (gb12 L) i = (decide (0 < i) && L.getD i false && !L.getD (i - 1) false)) := rfl
  by_cases h0 : i = 0
  · subst h0
    rw [HT.out]
    go_enter Try.func68, Try.ntmps68
    go_wp2
    go_ret
    exact ⟨by simp, Below.refl _ _⟩
  · obtain ⟨b, off, rfl, c1⟩ := hs.at_ i (by rw [hn.out]; exact hi)
    have c2 : w.cell? ⟨b, off + (i - 1), none⟩ = some (.bool (L.getD (i - 1) false)) := by
      obtain ⟨b', off', ha, c⟩ := hs.at_ (i - 1) (by rw [hn.out]; omega)
      cases ha
      exact c
    obtain ⟨p, rfl⟩ : ∃ p, i = p + 1 := ⟨i - 1, by omega⟩
    simp only [Nat.add_sub_cancel] at c2 HT
    have i1 : (p : Int) + 1 < (n : Int) := by omega
    have i2 : (p : Int) < (n : Int) := by omega
    have i0 : (0 : Int) < (p : Int) + 1 := by omega
    generalize L.getD (p + 1) false = x at *
    generalize L.getD p false = y at *
    rw [HT.out]
    cases x
    · go_enter Try.func68, Try.ntmps68
      go_wp2
      go_ret
      exact ⟨by simp, Below.refl _ _⟩
    · go_enter Try.func68, Try.ntmps68
      go_wp2
      go_ret
      exact ⟨by cases y <;> simp, Below.refl _ _⟩
end Go.Proofs.Ytkpfailmmcelcaa

namespace Go.Proofs.Ytkpfailmmcelcaa
open Go.RowKit
set_option linter.unusedVariables false

/-! The landed Types. -/
def tl12 (s : List Int) (k : Nat) : List Bool := (List.range s.length).map (fun j => decide (s.length ≤ j + 1 + k) && sm12 s j)
theorem tl12_len (s : List Int) (k : Nat) : (tl12 s k).length = s.length := by simp [tl12]
theorem tl12_get (s : List Int) (k j : Nat) (h : j < s.length) : (tl12 s k).getD j false = (decide (s.length ≤ j + 1 + k) && sm12 s j) := by simp [tl12, List.getD, h]
theorem tl12_zero (s : List Int) : tl12 s 0 = List.replicate s.length false := by
  refine ext12 (d := false) (by simp [tl12]) fun i hi => ?_
  rw [tl12_len] at hi
  rw [tl12_get s 0 i hi]
  by_cases h : s.length ≤ i + 1 + 0
  · rw [(ty12 s).last i (by omega)]
    simp [List.getD, hi]
  · simp [List.getD, hi, h]
theorem tl12_all (s : List Int) (k : Nat) (h : s.length ≤ k + 1) : tl12 s k = typ12 s := by
  refine ext12 (d := false) (by simp [tl12, typ12]) fun i hi => ?_
  rw [tl12_len] at hi
  rw [tl12_get s k i hi, typ12_get]
  simp
  intro h2; omega
theorem tl12_set (s : List Int) (k i : Nat) (h : s.length = i + 2 + k) : (tl12 s k).set i (sm12 s i) = tl12 s (k + 1) := by
  refine ext12 (d := false) (by simp [tl12]) fun j hj => ?_
  rw [List.length_set, tl12_len] at hj
  rw [getD_set12 _ _ _ _ (by rw [tl12_len]; omega), tl12_get s k j hj, tl12_get s (k + 1) j hj]
  by_cases e : j = i
  · subst e
    rw [if_pos rfl]
    have : s.length ≤ j + 1 + (k + 1) := by omega
    simp [this]
  · rw [if_neg e]
    by_cases h2 : s.length ≤ j + 1 + k
    · have : s.length ≤ j + 1 + (k + 1) := by omega
      simp [h2, this]
    · have : ¬ s.length ≤ j + 1 + (k + 1) := by omega
      simp [h2, this]
set_option maxRecDepth 100000 in
set_option maxHeartbeats 1000000 in
theorem ptyp12 (a : Option Addr) (s : List Int) (n cap : Nat) (w : World) (hs : SegZ w a s) (hn : Hid (s.length = n)) (hb : n ≤ 140737488355328) :
    Calls Try.prog 57 #[.slice a n cap] w fun e w' => e = .returned (.slice (some ⟨w.heap.size, 0, none⟩) n n) ∧ Rb12 w' w.heap.size (typ12 s) ∧ Below w.heap.size w w' := by
  have HM := run_make_b12 n hb
  have HA : Hid (typ12 s = tl12 s (n - 1)) := (tl12_all s (n - 1) (by rw [hn.out]; omega)).symm
  have HZ : Hid (List.replicate n false = tl12 s 0) := by show _ = _; rw [tl12_zero, hn.out]
  have hal : Below w.heap.size w (w.alloc (.cells (vb12 (List.replicate n false)) 4)) := (Below.refl _ _).alloc (Nat.le_refl _) _
  have hr0 := Rb12.new w (List.replicate n false)
  rw [HZ.out] at hal hr0 HM
  generalize hg : w.heap.size = g at *
  generalize hw1 : w.alloc (.cells (vb12 (tl12 s 0)) 4) = w1 at *
  have HM1 : (Instr.makeSlice 86 (.int .i64 (n : Int)) (.int .i64 (n : Int))).run Try.prog w = .ok (.slice (some ⟨g, 0, none⟩) n n) w1 := by rw [HM w, hg, hw1]
  have HG : Hid (g ≤ w1.heap.size ∧ w.heap.size = g) := ⟨by have := hal.size; omega, hg⟩
  clear HM hw1 hg
  go_enter Try.func57, Try.ntmps57
  go_wp2
  go_loopw [12] (fun ti wr => ∃ k : Nat, (k = 0 ∨ k + 1 ≤ n) ∧ ti = .int .i64 k ∧ Rb12 wr g (tl12 s k) ∧ Below g w wr) (fun ti _ => n - (intOf ti).toNat)
  case atStart => exact ⟨0, Or.inl rfl, rfl, hr0, hal⟩
  case round =>
    obtain ⟨k, hk, rfl, hr, hb2⟩ := hrel
    by_cases h1 : k + 1 < n
    · have h1i : (k : Int) < (n : Int) - 1 := by omega
      obtain ⟨i, hi⟩ : ∃ i, n = i + 2 + k := ⟨n - 2 - k, by omega⟩
      have hsg : SegZ wr a s := hs.old (by rw [HG.out.2]; exact hb2)
      obtain ⟨b, off, rfl, c1⟩ := hsg.at_ i (by rw [hn.out]; omega)
      have c2 : wr.cell? ⟨b, off + (i + 1), none⟩ = some (.int .i64 (s.getD (i + 1) 0)) := by
        obtain ⟨b', off', ha, c⟩ := hsg.at_ (i + 1) (by rw [hn.out]; omega)
        cases ha
        exact c
      have bd1 := hsg.bd i
      have bd2 := hsg.bd (i + 1)
      have c3 : wr.cell? ⟨g, i + 1, none⟩ = some (.bool (sm12 s (i + 1))) := by
        rw [hr.cell (by rw [tl12_len, hn.out]; omega), tl12_get s k (i + 1) (by rw [hn.out]; omega)]
        have : s.length ≤ i + 1 + 1 + k := by rw [hn.out]; omega
        simp [this]
      have c4 : wr.cell? ⟨g, i, none⟩ = some (.bool ((tl12 s k).getD i false)) := hr.cell (by rw [tl12_len, hn.out]; omega)
      have f4 := hr.free i
      have HR : Hid (sm12 s i = (decide (s.getD i 0 < s.getD (i + 1) 0) || (decide (s.getD i 0 = s.getD (i + 1) 0) && sm12 s (i + 1)))) := (ty12 s).rc i (by rw [hn.out]; omega)
      have HS : Hid (∀ x, x = sm12 s i → Rb12 (wr.setCell ⟨g, i, none⟩ (.bool x)) g (tl12 s (k + 1))) := by
        intro x hx
        have := hr.set i x
        rw [hx, tl12_set s k i (by rw [hn.out]; omega)] at this
        rw [hx]; exact this
      have HB : Hid (∀ x, Below g w (wr.setCell ⟨g, i, none⟩ x)) := by
        intro x
        exact hb2.trans ((Kp.set (S := fun j => j = g) rfl x).below (fun j h => by omega) (by have := hb2.size; have := HG.out; omega))
      have ei : (n : Int) - 2 - (k : Int) = (i : Int) := by omega
      have in1 : (i : Int) < (n : Int) := by omega
      have in2 : (i : Int) + 1 < (n : Int) := by omega
      have kn : (k : Int) < 140737488355328 := by omega
      generalize s.getD i 0 = x at *
      generalize s.getD (i + 1) 0 = y at *
      generalize sm12 s (i + 1) = z at *
      generalize (tl12 s k).getD i false = u at *
      clear hi hk hr hsg
      rcases Int.lt_trichotomy x y with hx | hx | hx
      · go_wp2
        go_region
        go_wp2
        go_roundw
        case rel => exact ⟨k + 1, Or.inr (by omega), by go_num, (HS.out _ (by rw [HR.out]; simp [hx])).drew, (HB.out _).drew⟩
        case measure => simp [intOf]; omega
      · subst hx
        go_wp2
        go_region
        go_wp2
        go_roundw
        case rel => exact ⟨k + 1, Or.inr (by omega), by go_num, (HS.out _ (by rw [HR.out]; simp)).drew, (HB.out _).drew⟩
        case measure => simp [intOf]; omega
      · have hx1 : ¬ x < y := by omega
        have hx2 : ¬ x = y := by omega
        have hx3 : (x == y) = false := by simp [hx2]
        have hx4 : decide (x = y) = false := by simp [hx2]
        have hx5 : decide (x < y) = false := by simp [hx1]
        clear hx
        go_wp2
        go_region
        go_wp2
        go_roundw
        case rel => exact ⟨k + 1, Or.inr (by omega), by go_num, (HS.out _ (by rw [HR.out]; simp [hx1, hx2])).drew, (HB.out _).drew⟩
        case measure => simp [intOf]; omega
    · have h1i : ¬ (k : Int) < (n : Int) - 1 := by omega
      go_wp2
      go_ret
      refine ⟨rfl, ?_, hb2⟩
      rw [HA.out]
      rcases hk with rfl | hk
      · rw [show n - 1 = 0 by omega]; exact hr
      · rw [show n - 1 = k by omega]; exact hr
end Go.Proofs.Ytkpfailmmcelcaa

namespace Go.Proofs.Ytkpfailmmcelcaa
open Go.RowKit
set_option linter.unusedVariables false

/-! The landed turns, Lms, refusal. -/
def nz12 (l : List Nat) : List Int := l.map (fun j : Nat => (j : Int))
theorem nz12_len (l : List Nat) : (nz12 l).length = l.length := by simp [nz12]
theorem nz12_get (l : List Nat) (i d : Nat) (h : i < l.length) : (nz12 l).getD i 0 = ((l.getD i d : Nat) : Int) := by simp [nz12, List.getD, h]
theorem nz12_inj {a b : List Nat} (h : nz12 a = nz12 b) : a = b := by
  unfold nz12 at h
  exact (List.map_inj_right (fun x y e => by omega)).1 h
def tu12 (f : Nat → Bool) (k : Nat) : List Nat := (List.range k).filter (tb12 f)
theorem tu12_succ (f : Nat → Bool) (k : Nat) : tu12 f (k + 1) = if tb12 f k = true then tu12 f k ++ [k] else tu12 f k := by
  unfold tu12
  rw [List.range_succ, List.filter_append]
  by_cases h : tb12 f k = true
  · simp [h]
  · simp [h]
theorem tu12_le (f : Nat → Bool) (k : Nat) : (tu12 f k).length ≤ k := by
  have := List.length_filter_le (tb12 f) (List.range k)
  simpa [tu12] using this
/-- A row of numbers that a call has made and answers. -/
def AnsZ12 (w : World) (A : List Int) (e : Ending) (w' : World) : Prop := ∃ ra rc, e = .returned (.slice ra A.length rc) ∧ w'.ownsRow w.heap.size 3 1 (.slice ra A.length rc) A.length (A.map (Value.int .i64)) ∧ Below w.heap.size w w'
set_option maxRecDepth 100000 in
set_option maxHeartbeats 1000000 in
theorem ptns12 (a : Option Addr) (L : List Bool) (n cap : Nat) (w : World) (hs : SegB w a L) (hn : Hid (L.length = n)) (hb : n ≤ 17592186044416) :
    Calls Try.prog 63 #[.slice a n cap] w (AnsZ12 w (nz12 (tu12 (gb12 L) n))) := by
  obtain ⟨i0, hi, hz0, hz1, hz2⟩ := info_parts info_i12
  go_enter Try.func63, Try.ntmps63
  go_wp2
  go_loopw [3, 7] (fun to ti wr => ∃ (k m rc : Nat) (ra : Option Addr), k ≤ n ∧ ti = .int .i64 k ∧ to = .slice ra m rc ∧ Hid ((tu12 (gb12 L) k).length = m) ∧ wr.ownsRow w.heap.size 3 1 (.slice ra m rc) m ((nz12 (tu12 (gb12 L) k)).map (Value.int .i64)) ∧ Below w.heap.size w wr) (fun _ ti _ => n - (intOf ti).toNat)
  case atStart => exact ⟨0, 0, 0, none, Nat.zero_le _, rfl, rfl, (by simp [tu12] : _ = _), World.ownsRow_nil _ _ _ _, Below.refl _ _⟩
  case round =>
    obtain ⟨k, m, rc, ra, hk, rfl, rfl, HM, hown, hb2⟩ := hrel
    have hsz : w.heap.size ≤ wr.heap.size := hb2.size
    have hmk : m ≤ k := by rw [← HM.out]; exact tu12_le _ _
    by_cases h1 : k < n
    · have h1i : (k : Int) < (n : Int) := by omega
      have HC := pist12 a L n cap k wr (hs.old hb2) hn h1 (by omega)
      have HS : Hid (tu12 (gb12 L) (k + 1) = if tb12 (gb12 L) k = true then tu12 (gb12 L) k ++ [k] else tu12 (gb12 L) k) := tu12_succ _ k
      generalize tb12 (gb12 L) k = t at *
      generalize tu12 (gb12 L) k = T at *
      cases t
      · go_wp2_with (first | (go_at_call 68; refine HC.mono ?_; rintro e1 w1 ⟨rfl, B1⟩))
        go_roundw
        case rel => exact ⟨k + 1, m, rc, ra, by omega, by go_num, rfl, (by rw [HS.out]; exact HM.out : _ = _), by rw [HS.out]; exact own_below hown B1, hb2.trans (B1.mono hsz)⟩
        case measure => simp [intOf]; omega
      · have hown2 : ∀ w1, Below wr.heap.size wr w1 → w1.ownsRow w.heap.size 3 1 (.slice ra m rc) m ((nz12 T).map (Value.int .i64)) := fun w1 B1 => own_below hown B1
        go_wp2_with (first
          | (go_at_call 68; refine HC.mono ?_; rintro e1 w1 ⟨rfl, B1⟩; have OX := hown2 w1 B1; have hsz1 : w.heap.size ≤ w1.heap.size := Nat.le_trans hsz B1.size)
          | (at_builtin; refine wpList_ap12 rfl (.tmp 13) (.tmp 15) 28 rfl w.heap.size 3 i0 (.int .i64 0) 8 Try.underlying28 hi hz0 hz1 hz2 rfl w1 _ OX rfl rfl (by omega) (by omega) hsz1 ?_; intro ga gc w3 own3 hk3 hat3))
        have B3 : Below w.heap.size w w3 := (hb2.trans (B1.mono hsz)).trans (hk3.below (fun q e => (OX.lt q e).1) hsz1)
        go_roundw
        case rel => exact ⟨k + 1, m + 1, gc, some ⟨ga, 0, none⟩, by omega, by go_num, rfl, (by rw [HS.out]; simp [HM.out] : _ = _), by rw [HS.out]; simpa [nz12] using own3, B3⟩
        case measure => simp [intOf]; omega
    · have h1i : ¬ (k : Int) < (n : Int) := by omega
      obtain rfl : k = n := by omega
      go_wp2
      go_ret
      refine ⟨ra, rc, ?_, ?_, hb2⟩
      · (try rw [nz12_len]); rw [HM.out]; rfl
      · (try rw [nz12_len]); rw [HM.out]; exact hown
end Go.Proofs.Ytkpfailmmcelcaa
