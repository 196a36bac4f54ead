import Derived.Test.YtmfpdchfofffeaaGreatDoorSaM3
namespace Go.Proofs.YtmfpdchfofffeaaGreatDoor
set_option linter.unusedVariables false
def S12 (s : List Int) (i : Nat) : Int := s.getD i 0
def sf12 (n : Nat) (S : Nat → Int) : Nat → Nat → Bool
  | 0, _ => false
  | f + 1, i => if i + 1 < n then (decide (S i < S (i + 1)) || (decide (S i = S (i + 1)) && sf12 n S f (i + 1))) else false
theorem sf12_more {n : Nat} {S : Nat → Int} : ∀ (f g i : Nat), n ≤ i + f → n ≤ i + g → sf12 n S f i = sf12 n S g i
  | 0, 0, i, _, _ => rfl
  | 0, g + 1, i, h, _ => by unfold sf12; rw [if_neg (by omega)]
  | f + 1, 0, i, _, h => by unfold sf12; rw [if_neg (by omega)]
  | f + 1, g + 1, i, h, k => by unfold sf12; rw [sf12_more f g (i + 1) (by omega) (by omega)]
def sm12 (s : List Int) (i : Nat) : Bool := sf12 s.length (S12 s) s.length i
theorem ty12 (s : List Int) : Ty12 s.length (S12 s) (sm12 s) := by
  refine ⟨fun i hi => ?_, fun i hi => ?_⟩
  · unfold sm12
    rw [sf12_more s.length (s.length - 1) (i + 1) (by omega) (by omega)]
    generalize hn : s.length = n at *
    cases n with
    | zero => omega
    | succ m => rw [sf12, if_pos hi]; rfl
  · unfold sm12
    generalize hn : s.length = n at *
    cases n with
    | zero => rfl
    | succ m => rw [sf12, if_neg hi]
def typ12 (s : List Int) : List Bool := (List.range s.length).map (sm12 s)
theorem typ12_len (s : List Int) : (typ12 s).length = s.length := by simp [typ12]
theorem typ12_get (s : List Int) (i : Nat) : (typ12 s).getD i false = sm12 s i := by
  by_cases h : i < s.length
  · simp [typ12, List.getD, h]
  · rw [(ty12 s).last i (by omega)]
    simp [typ12, List.getD, h]
def tb12 (sm : Nat → Bool) (i : Nat) : Bool := decide (0 < i) && sm i && !sm (i - 1)
theorem tb12_iff {sm : Nat → Bool} {i : Nat} : tb12 sm i = true ↔ tn12 sm i := by
  unfold tb12 tn12
  simp only [Bool.and_eq_true, decide_eq_true_eq, Bool.not_eq_true', and_assoc]
def tns12 (s : List Int) : List Nat := (List.range s.length).filter (tb12 (sm12 s))
theorem tns12_or (s : List Int) : Or12 s.length (sm12 s) (tns12 s) :=
  ⟨List.Pairwise.filter _ List.nodup_range, fun j => by unfold tns12; rw [List.mem_filter, List.mem_range, tb12_iff]⟩
theorem tns12_lt (s : List Int) : (tns12 s).Pairwise (· < ·) := List.Pairwise.filter _ List.pairwise_lt_range
theorem tn12_lt {n : Nat} {S : Nat → Int} {sm : Nat → Bool} (H : Ty12 n S sm) {i : Nat} (h : tn12 sm i) : i + 1 < n := (H.small h.2.1).1
theorem tn12_two {sm : Nat → Bool} {i j : Nat} (hi : tn12 sm i) (hj : tn12 sm j) (h : i / 2 = j / 2) : i = j := by
  rcases Nat.lt_trichotomy i j with k | k | k
  · have : j = i + 1 := by omega
    subst this
    exact absurd hj (not_turn12' hi.2.1)
  · exact k
  · have : i = j + 1 := by omega
    subst this
    exact absurd hi (not_turn12' hj.2.1)
structure Ar12 (n : Nat) (S : Nat → Int) (A : List Nat) : Prop where
  len : A.length = n
  lt : ∀ j ∈ A, j < n
  all : ∀ j, j < n → j ∈ A
  so : A.Pairwise (Ls12 n S)
def row12 (n : Nat) (R : Nat → Int) : List Nat := (List.range n).map (fun q => (R q).toNat)
theorem row12_mem {n : Nat} {R : Nat → Int} (h : Pm12 n R) (j : Nat) : j ∈ row12 n R ↔ j < n := by
  unfold row12
  rw [List.mem_map]
  constructor
  · rintro ⟨q, hq, e⟩
    obtain ⟨k, hk, e2⟩ := h.fill q (List.mem_range.1 hq)
    omega
  · intro hj
    obtain ⟨q, hq, e⟩ := h.all j hj
    exact ⟨q, List.mem_range.2 hq, by omega⟩
theorem row12_pair {n : Nat} {R : Nat → Int} (h : Pm12 n R) {r : Nat → Nat → Prop} (hr : ∀ q q' i j : Nat, q < q' → q' < n → i < n → j < n → R q = (i : Int) → R q' = (j : Int) → r i j) : (row12 n R).Pairwise r := by
  unfold row12
  rw [List.pairwise_map]
  refine List.Pairwise.imp_of_mem (R := fun a b => a < b) (fun {q q'} hq hq' k => ?_) List.pairwise_lt_range
  obtain ⟨i, hi, e1⟩ := h.fill q (List.mem_range.1 hq)
  obtain ⟨j, hj, e2⟩ := h.fill q' (List.mem_range.1 hq')
  rw [e1, e2]
  exact hr q q' i j k (List.mem_range.1 hq') hi hj e1 e2
theorem row12_ints {n : Nat} {R : Nat → Int} (h : Pm12 n R) : (row12 n R).map (fun j : Nat => (j : Int)) = (List.range n).map R := by
  unfold row12
  rw [List.map_map]
  refine List.map_congr_left fun q hq => ?_
  obtain ⟨i, hi, e1⟩ := h.fill q (List.mem_range.1 hq)
  simp only [Function.comp]
  omega
/-- P12.6. -/
theorem ar12_ind {n : Nat} {S : Nat → Int} {sm : Nat → Bool} {o : List Nat} (H : Ty12 n S sm) (ho : Or12 n sm o) (hp : o.Pairwise (Ls12 n S)) : Ar12 n S (row12 n (ind12 n S sm o)) := by
  have hm := ind12_pm (S := S) H ho
  exact ⟨by simp [row12], fun j hj => (row12_mem hm j).1 hj, fun j hj => (row12_mem hm j).2 hj, row12_pair hm (ind12_less H ho hp)⟩
/-- The turns of a row. -/
def by12 (sm : Nat → Bool) (A : List Nat) : List Nat := A.filter (tb12 sm)
theorem by12_or {n : Nat} {S : Nat → Int} {sm : Nat → Bool} {o : List Nat} (H : Ty12 n S sm) (ho : Or12 n sm o) : Or12 n sm (by12 sm (row12 n (ind12 n S sm o))) := by
  have hm := ind12_pm (S := S) H ho
  refine ⟨List.Pairwise.filter _ ?_, fun j => ?_⟩
  · refine (row12_pair hm (r := (· ≠ ·)) fun q q' i j a b hi hj e1 e2 e => ?_)
    have := hm.inj q q' (by omega) b (by rw [e1, e2, e])
    omega
  · unfold by12
    rw [List.mem_filter, row12_mem hm, tb12_iff]
theorem by12_key {n : Nat} {S : Nat → Int} {sm : Nat → Bool} {o : List Nat} (H : Ty12 n S sm) (ho : Or12 n sm o) : (by12 sm (row12 n (ind12 n S sm o))).Pairwise (fun i j => LE12 (key12 n S sm i) (key12 n S sm j)) :=
  List.Pairwise.filter _ (row12_pair (ind12_pm H ho) (ind12_key H ho))
open Classical in
noncomputable def cr12 (K : Nat → List Int) (b : List Nat) : Nat → Nat
  | 0 => 0
  | r + 1 => cr12 K b r + (if r = 0 ∨ K (b.getD (r - 1) 0) ≠ K (b.getD r 0) then 1 else 0)
theorem cr12_step {K : Nat → List Int} {b : List Nat} (r : Nat) : cr12 K b r ≤ cr12 K b (r + 1) ∧ cr12 K b (r + 1) ≤ cr12 K b r + 1 := by
  rw [cr12]; split <;> omega
theorem cr12_mono {K : Nat → List Int} {b : List Nat} (r : Nat) : ∀ d, cr12 K b r ≤ cr12 K b (r + d)
  | 0 => Nat.le_refl _
  | d + 1 => by have := cr12_mono (K := K) (b := b) r d; have := (cr12_step (K := K) (b := b) (r + d)).1; rw [← Nat.add_assoc]; omega
theorem cr12_pos {K : Nat → List Int} {b : List Nat} (r : Nat) : 1 ≤ cr12 K b (r + 1) := by
  have h : cr12 K b 1 = 1 := by simp [cr12]
  have := cr12_mono (K := K) (b := b) 1 r
  rw [Nat.add_comm] at this; omega
theorem cr12_le {K : Nat → List Int} {b : List Nat} : ∀ r, cr12 K b r ≤ r
  | 0 => Nat.le_refl _
  | r + 1 => by have := cr12_le (K := K) (b := b) r; have := (cr12_step (K := K) (b := b) r).2; omega
theorem cr12_stay {K : Nat → List Int} {b : List Nat} (r : Nat) : ∀ d, cr12 K b (r + d + 1) = cr12 K b (r + 1) → K (b.getD (r + d) 0) = K (b.getD r 0)
  | 0, _ => rfl
  | d + 1, h => by
    have h1 := cr12_mono (K := K) (b := b) (r + 1) d
    rw [show r + 1 + d = r + d + 1 by omega] at h1
    have h2 := cr12_step (K := K) (b := b) (r + d + 1)
    rw [show r + (d + 1) + 1 = r + d + 1 + 1 by omega] at h
    have h3 := cr12_stay (K := K) (b := b) r d (by omega)
    rw [cr12] at h
    by_cases hc : r + d + 1 = 0 ∨ K (b.getD (r + d + 1 - 1) 0) ≠ K (b.getD (r + d + 1) 0)
    · rw [if_pos hc] at h; omega
    · have hc2 : ¬ K (b.getD (r + d) 0) ≠ K (b.getD (r + d + 1) 0) := fun k => hc (Or.inr k)
      have := Classical.not_not.1 hc2
      rw [← Nat.add_assoc, ← this, h3]
theorem cr12_same {K : Nat → List Int} {b : List Nat} (hb : b.Pairwise (fun i j => LE12 (K i) (K j))) (r : Nat) : ∀ d, r + d < b.length → K (b.getD (r + d) 0) = K (b.getD r 0) → cr12 K b (r + d + 1) = cr12 K b (r + 1)
  | 0, _, _ => rfl
  | d + 1, hd, e => by
    have hp := List.pairwise_iff_getElem.1 hb
    have g : ∀ k (hk : k < b.length), b.getD k 0 = b[k] := fun k hk => by simp [List.getD, hk]
    have h1 : LE12 (K (b.getD (r + d) 0)) (K (b.getD (r + d + 1) 0)) := by rw [g _ (by omega), g _ (by omega)]; exact hp (r + d) (r + d + 1) (by omega) (by omega) (by omega)
    have h2 : LE12 (K (b.getD r 0)) (K (b.getD (r + d) 0)) := by
      by_cases hd0 : d = 0
      · subst hd0; exact Or.inl rfl
      · rw [g _ (by omega), g _ (by omega)]; exact hp r (r + d) (by omega) (by omega) (by omega)
    rw [← Nat.add_assoc] at e
    have e2 : K (b.getD (r + d) 0) = K (b.getD r 0) := by
      rcases h2 with h2 | h2
      · exact h2.symm
      · exfalso
        rw [e] at h1
        rcases h1 with h1 | h1
        · rw [h1] at h2; exact h2.irrefl
        · exact h2.asymm h1
    have ih := cr12_same hb r d (by omega) e2
    have hno : ¬ (r + d + 1 = 0 ∨ K (b.getD (r + d + 1 - 1) 0) ≠ K (b.getD (r + d + 1) 0)) := by
      rintro (k | k)
      · omega
      · exact k (by rw [show r + d + 1 - 1 = r + d by omega, e, e2])
    rw [show r + (d + 1) + 1 = r + d + 1 + 1 by omega, cr12, if_neg hno, ih, Nat.add_zero]
/-- Names tell the pieces' order. -/
theorem cr12_lt {K : Nat → List Int} {b : List Nat} (hb : b.Pairwise (fun i j => LE12 (K i) (K j))) {r r' : Nat} (hr : r < b.length) (hr' : r' < b.length) :
    (cr12 K b (r + 1) < cr12 K b (r' + 1) → LL12 (K (b.getD r 0)) (K (b.getD r' 0))) ∧ (cr12 K b (r + 1) = cr12 K b (r' + 1) ↔ K (b.getD r 0) = K (b.getD r' 0)) := by
  have hp := List.pairwise_iff_getElem.1 hb
  have g : ∀ k (hk : k < b.length), b.getD k 0 = b[k] := fun k hk => by simp [List.getD, hk]
  rcases Nat.le_total r r' with h | h
  · obtain ⟨d, rfl⟩ : ∃ d, r' = r + d := ⟨r' - r, by omega⟩
    have h2 : LE12 (K (b.getD r 0)) (K (b.getD (r + d) 0)) := by
      by_cases hd0 : d = 0
      · subst hd0; exact Or.inl rfl
      · rw [g _ (by omega), g _ (by omega)]; exact hp r (r + d) (by omega) (by omega) (by omega)
    refine ⟨fun k => ?_, fun k => (cr12_stay r d k.symm).symm, fun k => (cr12_same hb r d hr' k.symm).symm⟩
    rcases h2 with h2 | h2
    · rw [cr12_same hb r d hr' h2.symm] at k; omega
    · exact h2
  · obtain ⟨d, rfl⟩ : ∃ d, r = r' + d := ⟨r - r', by omega⟩
    have := cr12_mono (K := K) (b := b) (r' + 1) d
    rw [show r' + 1 + d = r' + d + 1 by omega] at this
    exact ⟨fun k => by omega, fun k => cr12_stay r' d k, fun k => cr12_same hb r' d hr k⟩
/-- As many names as turns: no two pieces are alike. -/
theorem cr12_full {K : Nat → List Int} {b : List Nat} (hb : b.Pairwise (fun i j => LE12 (K i) (K j))) (hc : cr12 K b b.length = b.length) : b.Pairwise (fun i j => LL12 (K i) (K j)) := by
  have hall : ∀ d r, r + d = b.length → cr12 K b r = r := by
    intro d
    induction d with
    | zero => intro r h; rw [show r = b.length by omega]; exact hc
    | succ d ih =>
      intro r h
      have h1 := ih (r + 1) (by omega)
      have h2 := cr12_step (K := K) (b := b) r
      have h3 := cr12_le (K := K) (b := b) r
      omega
  have g : ∀ k (hk : k < b.length), b.getD k 0 = b[k] := fun k hk => by simp [List.getD, hk]
  refine List.pairwise_iff_getElem.2 fun i j hi hj k => ?_
  have e1 := hall (b.length - (i + 1)) (i + 1) (by omega)
  have e2 := hall (b.length - (j + 1)) (j + 1) (by omega)
  have := (cr12_lt hb hi hj).1 (by omega)
  rw [g i hi, g j hj] at this
  exact this
structure Nm12 (n : Nat) (S : Nat → Int) (sm : Nat → Bool) (t : List Nat) (N : List Int) : Prop where
  len : N.length = t.length
  lt : ∀ a a', a < t.length → a' < t.length → N.getD a 0 < N.getD a' 0 → LL12 (key12 n S sm (t.getD a n)) (key12 n S sm (t.getD a' n))
  eq : ∀ a a', a < t.length → a' < t.length → N.getD a 0 = N.getD a' 0 → key12 n S sm (t.getD a n) = key12 n S sm (t.getD a' n)
theorem next12 {n : Nat} {sm : Nat → Bool} {t : List Nat} (ho : Or12 n sm t) (hl : t.Pairwise (· < ·)) {a : Nat} (ha : a < t.length) {u : Nat} (h1 : t.getD a n < u) (h2 : u < n) (h3 : tn12 sm u) (h4 : ∀ k, t.getD a n < k → k < u → ¬ tn12 sm k) : t.getD (a + 1) n = u := by
  have g : ∀ k (hk : k < t.length), t.getD k n = t[k] := fun k hk => by simp [List.getD, hk]
  have hp := List.pairwise_iff_getElem.1 hl
  obtain ⟨c, hc, e⟩ := List.mem_iff_getElem.1 ((ho.mem u).2 ⟨h2, h3⟩)
  rw [g a ha] at h1 h4
  have hac : a < c := by
    rcases Nat.lt_trichotomy a c with k | k | k
    · exact k
    · subst k; omega
    · have := hp c a hc ha k; omega
  by_cases hc1 : c = a + 1
  · subst hc1; rw [g (a + 1) hc]; exact e
  · exfalso
    have q1 := hp a (a + 1) ha (by omega) (by omega)
    have q2 := hp (a + 1) c (by omega) hc (by omega)
    exact h4 t[a + 1] q1 (by omega) ((ho.mem _).1 (List.getElem_mem _)).2
theorem Nm12.less {n : Nat} {S : Nat → Int} {sm : Nat → Bool} {t : List Nat} {N : List Int} (H : Ty12 n S sm) (ho : Or12 n sm t) (hl : t.Pairwise (· < ·)) (hN : Nm12 n S sm t N) {a a' : Nat} (h : Ls12 N.length (S12 N) a a') : Ls12 n S (t.getD a n) (t.getD a' n) := by
  have g : ∀ k (hk : k < t.length), t.getD k n < n ∧ tn12 sm (t.getD k n) := fun k hk => by
    have : t.getD k n = t[k] := by simp [List.getD, hk]
    rw [this]
    exact (ho.mem _).1 (List.getElem_mem _)
  rw [hN.len] at h
  induction h with
  | @fin a a' h1 h2 =>
    have e : t.getD a n = n := by simp [List.getD, List.getElem?_eq_none (Nat.not_lt.1 h1)]
    rw [e]
    exact .fin (by omega) (g a' h2).1
  | @lt a a' h1 h2 h3 => exact H.key_less (g a h1).1 (g a' h2).1 (hN.lt a a' h1 h2 h3)
  | @eq a a' h1 h2 h3 h4 ih =>
    have hk := hN.eq a a' h1 h2 h3
    have gi := g a h1
    have gj := g a' h2
    have hne : t.getD a n ≠ t.getD a' n := by
      intro e
      have hp := List.pairwise_iff_getElem.1 hl
      have e1 : t.getD a n = t[a] := by simp [List.getD, h1]
      have e2 : t.getD a' n = t[a'] := by simp [List.getD, h2]
      rcases Nat.lt_trichotomy a a' with k | k | k
      · have := hp a a' h1 h2 k; omega
      · subst k; exact h4.irrefl
      · have := hp a' a h2 h1 k; omega
    have na := @next12 n sm t ho hl a h1
    have na' := @next12 n sm t ho hl a' h2
    generalize t.getD a n = i at *
    generalize t.getD a' n = j at *
    unfold key12 at hk
    obtain ⟨e1, e2⟩ := List.cons.inj hk
    obtain ⟨f1, f2⟩ := cd12_eq.1 e1
    obtain ⟨m, a1, a2, a3, a4, a5⟩ := tkey12_same n (i + 1) (j + 1) (by omega) (by omega) (by omega) (by omega) (fun e3 => by unfold tn12; simp [e3, f2]) e2
    have q1 := na (u := i + 1 + m) (by omega) a1 a3 (fun k k1 k2 => by have := (a5 (k - (i + 1)) (by omega)).2.2.2.1; rw [show i + 1 + (k - (i + 1)) = k by omega] at this; exact this)
    have q2 := na' (u := j + 1 + m) (by omega) a2 a4 (fun k k1 k2 => by have := (a5 (k - (j + 1)) (by omega)).2.2.2.2; rw [show j + 1 + (k - (j + 1)) = k by omega] at this; exact this)
    rw [q1, q2] at ih
    refine .eq gi.1 gj.1 f1 ?_
    exact (Ls12.skip (d := m) (fun k hk => ⟨(a5 k hk).1, (a5 k hk).2.1, (a5 k hk).2.2.1⟩)).1 ih
/-- The turns in the order of the suffixes of their names. -/
theorem Nm12.order {n : Nat} {S : Nat → Int} {sm : Nat → Bool} {t : List Nat} {N : List Int} (H : Ty12 n S sm) (ho : Or12 n sm t) (hl : t.Pairwise (· < ·)) (hN : Nm12 n S sm t N) {A : List Nat} (hA : Ar12 N.length (S12 N) A) : Or12 n sm (A.map (fun a => t.getD a n)) ∧ (A.map (fun a => t.getD a n)).Pairwise (Ls12 n S) := by
  have hp : (A.map (fun a => t.getD a n)).Pairwise (Ls12 n S) := by
    rw [List.pairwise_map]
    exact hA.so.imp (fun h => hN.less H ho hl h)
  refine ⟨⟨hp.imp (fun {a b} h e => by subst e; exact h.irrefl), fun j => ?_⟩, hp⟩
  rw [List.mem_map, ← ho.mem j]
  constructor
  · rintro ⟨a, ha, rfl⟩
    have : a < t.length := by rw [← hN.len]; exact hA.lt a ha
    simp [List.getD, this]
  · intro hj
    obtain ⟨c, hc, e⟩ := List.mem_iff_getElem.1 hj
    exact ⟨c, hA.all c (by rw [hN.len]; exact hc), by simp [List.getD, hc, e]⟩
end Go.Proofs.YtmfpdchfofffeaaGreatDoor
