import Derived.Test.YtaipfcfmhdigfaaPap
import Derived.Test.YtaipfcfmhdigfaaPah
import Derived.Test.YtaipfcfmhdigfaaPao
import Derived.Test.YtaipfcfmhdigfaaPam
import Derived.Deep.OwnRows
namespace Go.Proofs.Ytaipfcfmhdigfaa
set_option linter.unusedVariables false

/-! Trees in a row of numbers: place p has its two sides at 2p and 2p + 1. -/
def IsT7 (A : Nat → Int) : Int → Bt7 → Prop
  | v, .nil => v = -1
  | v, .node p l r => v = (p : Int) ∧ IsT7 A (A (2 * p)) l ∧ IsT7 A (A (2 * p + 1)) r
def slot7 (t : Bt7) (k : Nat) : Prop := ∃ p, t.mem p ∧ (k = 2 * p ∨ k = 2 * p + 1)
theorem IsT7.congr {A A' : Nat → Int} : ∀ {t : Bt7} {v : Int}, IsT7 A v t → (∀ k, slot7 t k → A' k = A k) → IsT7 A' v t
  | .nil, v, h, _ => h
  | .node p l r, v, ⟨h1, h2, h3⟩, hc => by
    refine ⟨h1, ?_, ?_⟩
    · rw [hc (2 * p) ⟨p, .inl rfl, .inl rfl⟩]
      exact h2.congr (fun k ⟨q, a, b⟩ => hc k ⟨q, .inr (.inl a), b⟩)
    · rw [hc (2 * p + 1) ⟨p, .inl rfl, .inr rfl⟩]
      exact h3.congr (fun k ⟨q, a, b⟩ => hc k ⟨q, .inr (.inr a), b⟩)
def Bt7.Dj : Bt7 → Prop
  | .nil => True
  | .node p l r => (∀ q, l.mem q → ¬ r.mem q) ∧ ¬ l.mem p ∧ ¬ r.mem p ∧ l.Dj ∧ r.Dj
theorem spl7_dj {D : List Int} {at_ W : Nat} : ∀ {t : Bt7}, t.Dj → (spl7 D at_ W t).1.Dj ∧ (spl7 D at_ W t).2.Dj ∧ ∀ q, (spl7 D at_ W t).1.mem q → ¬ (spl7 D at_ W t).2.mem q
  | .nil, _ => by simp [spl7, Bt7.Dj, Bt7.mem]
  | .node p l r, ⟨h1, h2, h3, h4, h5⟩ => by
    rw [spl7]
    split
    · simp [Bt7.Dj, Bt7.mem]
    · split
      · exact ⟨h4, h5, h1⟩
      · split
        · obtain ⟨i1, i2, i3⟩ := spl7_dj (D := D) (at_ := at_) (W := W) h5
          refine ⟨⟨fun q a b => h1 q a (spl7_mem (.inl b)), h2, fun a => h3 (spl7_mem (.inl a)), h4, i1⟩, i2, ?_⟩
          rintro q (rfl | a | a) b
          · exact h3 (spl7_mem (.inr b))
          · exact h1 q a (spl7_mem (.inr b))
          · exact i3 q a b
        · obtain ⟨i1, i2, i3⟩ := spl7_dj (D := D) (at_ := at_) (W := W) h4
          refine ⟨i1, ⟨fun q a b => h1 q (spl7_mem (.inr a)) b, fun a => h2 (spl7_mem (.inr a)), h3, i2, h5⟩, ?_⟩
          rintro q a (rfl | b | b)
          · exact h2 (spl7_mem (.inl a))
          · exact i3 q a b
          · exact h1 q (spl7_mem (.inl a)) b
/-- The row behind the parting of a tree whose sides are hung at less and at more. -/
def Po7 (D : List Int) (at_ W : Nat) (A : Nat → Int) (t : Bt7) (less more : Nat) (A' : Nat → Int) : Prop :=
  (∀ k, k ≠ less → k ≠ more → ¬ slot7 t k → A' k = A k) ∧ IsT7 A' (A' less) (spl7 D at_ W t).1 ∧ IsT7 A' (A' more) (spl7 D at_ W t).2
structure Cn7 (t : Bt7) (less more : Nat) : Prop where
  ne : less ≠ more
  l : ¬ slot7 t less
  m : ¬ slot7 t more
theorem po7_none {D : List Int} {at_ W : Nat} {A : Nat → Int} {t : Bt7} {less more : Nat} (hc : Cn7 t less more) (hs : spl7 D at_ W t = (.nil, .nil)) : Po7 D at_ W A t less more (updI (updI A less (-1)) more (-1)) := by
  refine ⟨fun k h1 h2 _ => ?_, ?_, ?_⟩
  · unfold updI; rw [if_neg h2, if_neg h1]
  · rw [hs]
    show updI (updI A less (-1)) more (-1) less = -1
    unfold updI
    rw [if_neg hc.ne, if_pos rfl]
  · rw [hs]
    show updI (updI A less (-1)) more (-1) more = -1
    unfold updI
    rw [if_pos rfl]
theorem po7_full {D : List Int} {at_ W p : Nat} {A : Nat → Int} {l r : Bt7} {v : Int} {less more : Nat} (ht : IsT7 A v (.node p l r)) (hc : Cn7 (.node p l r) less more) (hw : ¬ W < at_ - p) (hn : al7 D p at_ = lim7 D at_) :
    Po7 D at_ W A (.node p l r) less more (updI (updI A less (A (2 * p))) more (A (2 * p + 1))) := by
  obtain ⟨_, h2, h3⟩ := ht
  have hs : spl7 D at_ W (.node p l r) = (l, r) := by rw [spl7, if_neg hw, if_pos hn]
  refine ⟨fun k h1 h2 _ => ?_, ?_, ?_⟩
  · unfold updI; rw [if_neg h2, if_neg h1]
  · rw [hs]
    have e : updI (updI A less (A (2 * p))) more (A (2 * p + 1)) less = A (2 * p) := by unfold updI; rw [if_neg hc.ne, if_pos rfl]
    rw [e]
    refine h2.congr (fun k ⟨q, a, b⟩ => ?_)
    unfold updI
    rw [if_neg (fun (e : k = more) => hc.m (e ▸ ⟨q, .inr (.inl a), b⟩)), if_neg (fun (e : k = less) => hc.l (e ▸ ⟨q, .inr (.inl a), b⟩))]
  · rw [hs]
    have e : updI (updI A less (A (2 * p))) more (A (2 * p + 1)) more = A (2 * p + 1) := by unfold updI; rw [if_pos rfl]
    rw [e]
    refine h3.congr (fun k ⟨q, a, b⟩ => ?_)
    unfold updI
    rw [if_neg (fun (e : k = more) => hc.m (e ▸ ⟨q, .inr (.inr a), b⟩)), if_neg (fun (e : k = less) => hc.l (e ▸ ⟨q, .inr (.inr a), b⟩))]
theorem po7_right {D : List Int} {at_ W p : Nat} {A : Nat → Int} {l r : Bt7} {v : Int} {less more : Nat} (ht : IsT7 A v (.node p l r)) (hd : (Bt7.node p l r).Dj) (hc : Cn7 (.node p l r) less more) (hw : ¬ W < at_ - p) (hn : ¬ al7 D p at_ = lim7 D at_) (hl : sf7 D p (al7 D p at_) < sf7 D at_ (al7 D p at_)) :
    IsT7 (updI A less (p : Int)) (A (2 * p + 1)) r ∧ Cn7 r (2 * p + 1) more ∧ updI A less (p : Int) (2 * p + 1) = A (2 * p + 1) ∧ ∀ A', Po7 D at_ W (updI A less (p : Int)) r (2 * p + 1) more A' → Po7 D at_ W A (.node p l r) less more A' := by
  obtain ⟨_, h2, h3⟩ := ht
  obtain ⟨d1, d2, d3, d4, d5⟩ := hd
  have hl1 : less ≠ 2 * p + 1 := fun e => hc.l ⟨p, .inl rfl, .inr e⟩
  have hl0 : less ≠ 2 * p := fun e => hc.l ⟨p, .inl rfl, .inl e⟩
  have hm1 : more ≠ 2 * p + 1 := fun e => hc.m ⟨p, .inl rfl, .inr e⟩
  have hm0 : more ≠ 2 * p := fun e => hc.m ⟨p, .inl rfl, .inl e⟩
  have hr : ∀ k, slot7 r k → slot7 (.node p l r) k := fun k ⟨q, a, b⟩ => ⟨q, .inr (.inr a), b⟩
  have hpr : ∀ j, (j = 2 * p ∨ j = 2 * p + 1) → ¬ slot7 r j := fun j hj ⟨q, a, b⟩ => by
    have : q = p := by omega
    exact d3 (this ▸ a)
  have hs : spl7 D at_ W (.node p l r) = (.node p l (spl7 D at_ W r).1, (spl7 D at_ W r).2) := by rw [spl7, if_neg hw, if_neg hn, if_pos hl]
  refine ⟨h3.congr (fun k hk => ?_), ⟨fun e => hm1 e.symm, hpr _ (.inr rfl), fun e => hc.m (hr _ e)⟩, ?_, fun A' ⟨q1, q2, q3⟩ => ?_⟩
  · unfold updI; rw [if_neg (fun (e : k = less) => hc.l (e ▸ hr k hk))]
  · unfold updI; rw [if_neg (Ne.symm hl1)]
  · refine ⟨fun k k1 k2 k3 => ?_, ?_, by rw [hs]; exact q3⟩
    · rw [q1 k (fun e => k3 ⟨p, .inl rfl, .inr e⟩) k2 (fun e => k3 (hr k e))]
      unfold updI; rw [if_neg k1]
    · rw [hs]
      have e1 : A' less = (p : Int) := by
        rw [q1 less hl1 hc.ne (fun e => hc.l (hr _ e))]
        unfold updI; rw [if_pos rfl]
      refine ⟨e1, ?_, q2⟩
      have e2 : ∀ k, (k = 2 * p ∨ slot7 l k) → A' k = A k := fun k hk => by
        have hk1 : k ≠ less ∧ k ≠ more ∧ k ≠ 2 * p + 1 ∧ ¬ slot7 r k := by
          rcases hk with rfl | ⟨q, a, b⟩
          · exact ⟨Ne.symm hl0, Ne.symm hm0, by omega, hpr _ (.inl rfl)⟩
          · refine ⟨fun (e : k = less) => hc.l (e ▸ ⟨q, .inr (.inl a), b⟩), fun (e : k = more) => hc.m (e ▸ ⟨q, .inr (.inl a), b⟩), fun e => ?_, fun ⟨q', a', b'⟩ => ?_⟩
            · have : q = p := by omega
              exact d2 (this ▸ a)
            · have : q' = q := by omega
              exact d1 q a (this ▸ a')
        rw [q1 k hk1.2.2.1 hk1.2.1 hk1.2.2.2]
        unfold updI; rw [if_neg hk1.1]
      rw [e2 (2 * p) (.inl rfl)]
      exact h2.congr (fun k hk => e2 k (.inr hk))
theorem po7_left {D : List Int} {at_ W p : Nat} {A : Nat → Int} {l r : Bt7} {v : Int} {less more : Nat} (ht : IsT7 A v (.node p l r)) (hd : (Bt7.node p l r).Dj) (hc : Cn7 (.node p l r) less more) (hw : ¬ W < at_ - p) (hn : ¬ al7 D p at_ = lim7 D at_) (hl : ¬ sf7 D p (al7 D p at_) < sf7 D at_ (al7 D p at_)) :
    IsT7 (updI A more (p : Int)) (A (2 * p)) l ∧ Cn7 l less (2 * p) ∧ updI A more (p : Int) (2 * p) = A (2 * p) ∧ ∀ A', Po7 D at_ W (updI A more (p : Int)) l less (2 * p) A' → Po7 D at_ W A (.node p l r) less more A' := by
  obtain ⟨_, h2, h3⟩ := ht
  obtain ⟨d1, d2, d3, d4, d5⟩ := hd
  have hl1 : less ≠ 2 * p + 1 := fun e => hc.l ⟨p, .inl rfl, .inr e⟩
  have hl0 : less ≠ 2 * p := fun e => hc.l ⟨p, .inl rfl, .inl e⟩
  have hm1 : more ≠ 2 * p + 1 := fun e => hc.m ⟨p, .inl rfl, .inr e⟩
  have hm0 : more ≠ 2 * p := fun e => hc.m ⟨p, .inl rfl, .inl e⟩
  have hr : ∀ k, slot7 l k → slot7 (.node p l r) k := fun k ⟨q, a, b⟩ => ⟨q, .inr (.inl a), b⟩
  have hpr : ∀ j, (j = 2 * p ∨ j = 2 * p + 1) → ¬ slot7 l j := fun j hj ⟨q, a, b⟩ => by
    have : q = p := by omega
    exact d2 (this ▸ a)
  have hs : spl7 D at_ W (.node p l r) = ((spl7 D at_ W l).1, .node p (spl7 D at_ W l).2 r) := by rw [spl7, if_neg hw, if_neg hn, if_neg hl]
  refine ⟨h2.congr (fun k hk => ?_), ⟨hl0, fun e => hc.l (hr _ e), hpr _ (.inl rfl)⟩, ?_, fun A' ⟨q1, q2, q3⟩ => ?_⟩
  · unfold updI; rw [if_neg (fun (e : k = more) => hc.m (e ▸ hr k hk))]
  · unfold updI; rw [if_neg (Ne.symm hm0)]
  · refine ⟨fun k k1 k2 k3 => ?_, by rw [hs]; exact q2, ?_⟩
    · rw [q1 k k1 (fun e => k3 ⟨p, .inl rfl, .inl e⟩) (fun e => k3 (hr k e))]
      unfold updI; rw [if_neg k2]
    · rw [hs]
      have e1 : A' more = (p : Int) := by
        rw [q1 more (Ne.symm hc.ne) hm0 (fun e => hc.m (hr _ e))]
        unfold updI; rw [if_pos rfl]
      refine ⟨e1, q3, ?_⟩
      have e2 : ∀ k, (k = 2 * p + 1 ∨ slot7 r k) → A' k = A k := fun k hk => by
        have hk1 : k ≠ less ∧ k ≠ more ∧ k ≠ 2 * p ∧ ¬ slot7 l k := by
          rcases hk with rfl | ⟨q, a, b⟩
          · exact ⟨Ne.symm hl1, Ne.symm hm1, by omega, hpr _ (.inr rfl)⟩
          · refine ⟨fun (e : k = less) => hc.l (e ▸ ⟨q, .inr (.inr a), b⟩), fun (e : k = more) => hc.m (e ▸ ⟨q, .inr (.inr a), b⟩), fun e => ?_, fun ⟨q', a', b'⟩ => ?_⟩
            · have : q = p := by omega
              exact d3 (this ▸ a)
            · have : q' = q := by omega
              exact d1 q (this ▸ a') a
        rw [q1 k hk1.1 hk1.2.2.1 hk1.2.2.2]
        unfold updI; rw [if_neg hk1.2.1]
      rw [e2 (2 * p + 1) (.inl rfl)]
      exact h3.congr (fun k hk => e2 k (.inr hk))
def ky7 (D : List Int) (x y z : Int) (q : Nat) : Prop := x = D.getD q 0 ∧ y = D.getD (q + 1) 0 ∧ z = D.getD (q + 2) 0
structure Tr7 (D : List Int) (W s : Nat) (A : Nat → Int) (x y z : Int) (t : Bt7) : Prop where
  is : IsT7 A (lst7 D s x y z) t
  ok : t.Ok D
  dj : t.Dj
  mem : ∀ q, t.mem q → q < s ∧ ky7 D x y z q
  cov : Cov7 D W s (ky7 D x y z) t
/-- All trees behind s places. -/
def Fo7 (D : List Int) (W s : Nat) (A : Nat → Int) : Prop := ∀ x y z, ∃ t, Tr7 D W s A x y z t
theorem fo7_start (D : List Int) (W : Nat) (A : Nat → Int) : Fo7 D W 0 A := fun x y z => ⟨.nil, rfl, trivial, trivial, fun q h => h.elim, fun q h => by omega⟩
theorem fo7_next {D : List Int} {W s : Nat} {A A' : Nat → Int} (h : Fo7 D W s A) (hs : s + 2 < D.length) {t : Bt7} (ht : Tr7 D W s A (D.getD s 0) (D.getD (s + 1) 0) (D.getD (s + 2) 0) t) (hp : Po7 D s W A t (2 * s) (2 * s + 1) A') : Fo7 D W (s + 1) A' := by
  obtain ⟨p1, p2, p3⟩ := hp
  intro x y z
  by_cases hk : ky7 D x y z s
  · obtain ⟨rfl, rfl, rfl⟩ := hk
    have hso := spl7_ok (D := D) (at_ := s) (W := W) (by omega) ht.ok (fun q hq => (ht.mem q hq).1)
    have hsd := spl7_dj (D := D) (at_ := s) (W := W) ht.dj
    refine ⟨.node s (spl7 D s W t).1 (spl7 D s W t).2, ⟨by rw [lst7, if_pos ⟨rfl, rfl, rfl⟩], p2, p3⟩, ⟨fun q hq => ⟨(ht.mem q (spl7_mem (.inl hq))).1, hso.2.2.1 q hq⟩, fun q hq => ⟨(ht.mem q (spl7_mem (.inr hq))).1, hso.2.2.2 q hq⟩, hso.1, hso.2.1⟩, ⟨hsd.2.2, fun e => by have := (ht.mem s (spl7_mem (.inl e))).1; omega, fun e => by have := (ht.mem s (spl7_mem (.inr e))).1; omega, hsd.1, hsd.2.1⟩, ?_, ht.cov.plant ht.ok (fun q hq => (ht.mem q hq).1)⟩
    rintro q (rfl | hq | hq)
    · exact ⟨by omega, rfl, rfl, rfl⟩
    · have := ht.mem q (spl7_mem (.inl hq)); exact ⟨by omega, this.2⟩
    · have := ht.mem q (spl7_mem (.inr hq)); exact ⟨by omega, this.2⟩
  · obtain ⟨u, hu⟩ := h x y z
    refine ⟨u, ?_, hu.ok, hu.dj, fun q hq => ⟨by have := (hu.mem q hq).1; omega, (hu.mem q hq).2⟩, hu.cov.late hk⟩
    rw [lst7, if_neg (show ¬ (x = D.getD s 0 ∧ y = D.getD (s + 1) 0 ∧ z = D.getD (s + 2) 0) from hk)]
    refine hu.is.congr (fun k ⟨q, a, b⟩ => p1 k ?_ ?_ ?_)
    · have := (hu.mem q a).1; omega
    · have := (hu.mem q a).1; omega
    · rintro ⟨q', a', b'⟩
      have e : q' = q := by omega
      subst e
      obtain ⟨_, h1, h2, h3⟩ := ht.mem q' a'
      obtain ⟨_, g1, g2, g3⟩ := hu.mem q' a
      exact hk ⟨by rw [g1, h1], by rw [g2, h2], by rw [g3, h3]⟩
theorem tr7_rec {D : List Int} {W s : Nat} {A : Nat → Int} {t : Bt7} (hs : s + 2 < D.length) (ht : Tr7 D W s A (D.getD s 0) (D.getD (s + 1) 0) (D.getD (s + 2) 0) t) : vis7 D s W t 2 = rec7 D s W := by
  refine ht.cov.rec (by omega) ht.ok (fun q hq => (ht.mem q hq).1) (fun q hq h3 => ?_)
  obtain ⟨_, a1, a2, a3⟩ := al7_three.1 h3
  exact ⟨a1.symm, a2.symm, a3.symm⟩
theorem rec7_short {D : List Int} {W s : Nat} (hs : s ≤ D.length) (h : D.length - s < 3) : rec7 D s W = [] := by
  refine rcg7_none (fun e _ _ _ => ?_)
  have := al7_fits (D := D) (q := s - e) hs
  omega
/-- What is known of the places in a tree while at is brought down. -/
def Sw7 (D : List Int) (at_ : Nat) (t : Bt7) (n1 n2 : Nat) : Prop := ∀ q, t.mem q → le7 D at_ q n1 ∧ le7 D q at_ n2
theorem le7_anti {D : List Int} {x q L : Nat} (h1 : le7 D x q L) (h2 : le7 D q x L) : ∀ i, i < L → sf7 D x i = sf7 D q i := by
  rcases h1 with h1 | ⟨n, a1, a2, a3⟩
  · exact h1
  · rcases h2 with h2 | ⟨m, b1, b2, b3⟩
    · exact fun i hi => (h2 i hi).symm
    · exfalso
      by_cases e : n < m
      · have := b2 n e; omega
      · by_cases e2 : n = m
        · subst e2; omega
        · have := a2 m (by omega); omega
theorem sw7_known {D : List Int} {at_ : Nat} {t : Bt7} {n1 n2 : Nat} (h : Sw7 D at_ t n1 n2) (hat : at_ ≤ D.length) (hl : min n1 n2 ≤ lim7 D at_) {q : Nat} (hq : t.mem q) : min n1 n2 ≤ al7 D q at_ := by
  obtain ⟨h1, h2⟩ := h q hq
  exact al7_ge hl hat (fun i hi => (le7_anti (le7_mono h1 (Nat.min_le_left _ _)) (le7_mono h2 (Nat.min_le_right _ _)) i hi).symm)
theorem sw7_start {D : List Int} {W s : Nat} {A : Nat → Int} {t : Bt7} (ht : Tr7 D W s A (D.getD s 0) (D.getD (s + 1) 0) (D.getD (s + 2) 0) t) : Sw7 D s t 3 3 := by
  intro q hq
  obtain ⟨_, h1, h2, h3⟩ := ht.mem q hq
  have he : ∀ i, i < 3 → sf7 D s i = sf7 D q i := fun i hi => by
    obtain rfl | rfl | rfl : i = 0 ∨ i = 1 ∨ i = 2 := by omega
    · exact h1
    · exact h2
    · exact h3
  exact ⟨.inl he, .inl (fun i hi => (he i hi).symm)⟩
theorem sw7_right {D : List Int} {at_ p : Nat} {l r : Bt7} {n1 n2 : Nat} (h : Sw7 D at_ (.node p l r) n1 n2) (hk : (Bt7.node p l r).Ok D) (hat : at_ ≤ D.length) (hp : p < at_) : Sw7 D at_ r (al7 D p at_) n2 := by
  intro q hq
  have hlm := lim7_mono (D := D) (Nat.le_of_lt hp)
  have hal := al7_lim (D := D) (q := p) hat
  exact ⟨le7_eq_left (le7_mono (hk.2.1 q hq).2 (by omega)) (fun i hi => al7_sf hi), (h q (.inr (.inr hq))).2⟩
theorem sw7_left {D : List Int} {at_ p : Nat} {l r : Bt7} {n1 n2 : Nat} (h : Sw7 D at_ (.node p l r) n1 n2) (hk : (Bt7.node p l r).Ok D) (hat : at_ ≤ D.length) (hp : p < at_) : Sw7 D at_ l n1 (al7 D p at_) := by
  intro q hq
  have hlm := lim7_mono (D := D) (Nat.le_of_lt hp)
  have hal := al7_lim (D := D) (q := p) hat
  exact ⟨(h q (.inr (.inl hq))).1, le7_eq_right (le7_mono (hk.1 q hq).2 (by omega)) (fun i hi => al7_sf hi)⟩
end Go.Proofs.Ytaipfcfmhdigfaa

namespace Go.Proofs.Ytaipfcfmhdigfaa
open Go.RowKit
set_option linter.unusedVariables false

/-! The landed lz: a forest of places. -/
theorem make_ints7t (n : Nat) (h : n ≤ 4194304) (w : World) :
    (Instr.makeSlice 89 (.int .i64 (n : Int)) (.int .i64 (n : Int))).run Try.prog w = .ok (.slice (some ⟨w.heap.size, 0, none⟩) n n) (w.alloc (.cells (madeCells #[.int .i64 0] n) 3)) := by
  exact run_make_row' 89 3 (.int .i64 0) 8 Try.underlying89 info_int7 rfl .i64 .i64 n (by omega) (by omega) w
structure Fst (w : World) (B fb m g : Nat) (D : List Int) (a : Option Addr) (n cap W s : Nat) (A : Nat → Int) : Prop where
  hp : w.heap[fb]? = some (.cells #[.slice a n cap, .int .i64 (W : Int), .map (some m), .slice (some ⟨g, 0, none⟩) (2 * n) (2 * n)] 112 (0, 0))
  row : RowI w g (2 * n) A
  mp : MapK w m s (lst7 D s)
  seg : Seg w a D
  fg : fb ≠ g
  mg : m ≠ g
  gl : g < w.heap.size
  bf : B ≤ fb
  bm : B ≤ m
  bg : B ≤ g
  old : ∀ x off, a = some ⟨x, off, none⟩ → 0 < D.length → x < B
theorem Fst.lt {w : World} {B fb m g : Nat} {D : List Int} {a : Option Addr} {n cap W s : Nat} {A : Nat → Int} (h : Fst w B fb m g D a n cap W s A) : fb < w.heap.size := (Array.getElem?_eq_some_iff.1 h.hp).1
theorem Fst.fm {w : World} {B fb m g : Nat} {D : List Int} {a : Option Addr} {n cap W s : Nat} {A : Nat → Int} (h : Fst w B fb m g D a n cap W s A) : fb ≠ m := by
  intro e
  obtain ⟨D', ⟨es, cl, e4, _⟩, _⟩ := h.mp
  rw [← e, h.hp] at e4
  cases e4
theorem Fst.kps {w w' : World} {S : Nat → Prop} {B fb m g : Nat} {D : List Int} {a : Option Addr} {n cap W s : Nat} {A : Nat → Int} (h : Fst w B fb m g D a n cap W s A) (hk : Kp S w w') (h1 : ¬ S fb) (h2 : ¬ S m) (h3 : ¬ S g) (hB : ∀ k, S k → B ≤ k) : Fst w' B fb m g D a n cap W s A :=
  ⟨hk.heap h.hp h1, h.row.of_block (hk.block g h.gl h3), h.mp.block (hk.block m h.mp.lt h2), h.seg.kp hk (fun x off e h0 hS => by have h1 := h.old x off e h0; have h2 := hB x hS; omega), h.fg, h.mg, Nat.lt_of_lt_of_le h.gl hk.size, h.bf, h.bm, h.bg, h.old⟩
theorem Fst.kp {w w' : World} {B fb m g : Nat} {D : List Int} {a : Option Addr} {n cap W s : Nat} {A : Nat → Int} (h : Fst w B fb m g D a n cap W s A) (hb : Below w.heap.size w w') : Fst w' B fb m g D a n cap W s A :=
  h.kps (S := fun _ => False) (Kp.of_below hb) (fun e => e) (fun e => e) (fun e => e) (fun _ e => e.elim)
theorem Fst.cells {w : World} {B fb m g : Nat} {D : List Int} {a : Option Addr} {n cap W s : Nat} {A : Nat → Int} (h : Fst w B fb m g D a n cap W s A) : w.cell? ⟨fb, 0, none⟩ = some (.slice a n cap) ∧ w.cell? ⟨fb, 1, none⟩ = some (.int .i64 (W : Int)) ∧ w.cell? ⟨fb, 2, none⟩ = some (.map (some m)) ∧ w.cell? ⟨fb, 3, none⟩ = some (.slice (some ⟨g, 0, none⟩) (2 * n) (2 * n)) := by
  have := h.hp
  refine ⟨?_, ?_, ?_, ?_⟩ <;> simp [World.cell?, this]
theorem Fst.set {w : World} {B fb m g : Nat} {D : List Int} {a : Option Addr} {n cap W s : Nat} {A : Nat → Int} (h : Fst w B fb m g D a n cap W s A) {i : Nat} (hi : i < 2 * n) (x : Int) : Fst (w.setCell ⟨g, i, none⟩ (.int .i64 x)) B fb m g D a n cap W s (updI A i x) := by
  have hk : Kp (fun k => k = g) w (w.setCell ⟨g, i, none⟩ (.int .i64 x)) := Kp.set (S := fun k => k = g) rfl _
  exact ⟨hk.heap h.hp h.fg, h.row.set hi x, h.mp.block (hk.block m h.mp.lt h.mg), h.seg.kp hk (fun y off e h0 hS => by have h1 := h.old y off e h0; have h2 := h.bg; omega), h.fg, h.mg, Nat.lt_of_lt_of_le h.gl hk.size, h.bf, h.bm, h.bg, h.old⟩
theorem fst_new {D : List Int} (a : Option Addr) (n cap W : Nat) (w : World) (hs : Seg w a D) (B : Nat) (hB : B ≤ w.heap.size) (hold : ∀ x off, a = some ⟨x, off, none⟩ → 0 < D.length → x < B) :
    Fst (((w.alloc (.map #[] 0)).alloc (.cells (madeCells #[.int .i64 0] (2 * n)) 3)).alloc (.cells #[.slice a n cap, .int .i64 (W : Int), .map (some w.heap.size), .slice (some ⟨w.heap.size + 1, 0, none⟩) (2 * n) (2 * n)] 112)) B (w.heap.size + 1 + 1) w.heap.size (w.heap.size + 1) D a n cap W 0 (fun _ => 0) := by
  have b1 : Below w.heap.size w (w.alloc (.map #[] 0)) := (Below.refl _ _).alloc (Nat.le_refl _) _
  have hm := MapK.made w
  have hz : (w.alloc (.map #[] 0)).heap.size = w.heap.size + 1 := by simp
  generalize w.alloc (.map #[] 0) = w1 at *
  have hr := rowI_made w1 (2 * n) 3
  have b2 : Below w1.heap.size w1 (w1.alloc (.cells (madeCells #[.int .i64 0] (2 * n)) 3)) := (Below.refl _ _).alloc (Nat.le_refl _) _
  have hz2 : (w1.alloc (.cells (madeCells #[.int .i64 0] (2 * n)) 3)).heap.size = w.heap.size + 1 + 1 := by simp [hz]
  rw [hz] at hr
  generalize w1.alloc (.cells (madeCells #[.int .i64 0] (2 * n)) 3) = w2 at *
  have hn := heap_alloc_new w2 (.cells #[.slice a n cap, .int .i64 (W : Int), .map (some w.heap.size), .slice (some ⟨w.heap.size + 1, 0, none⟩) (2 * n) (2 * n)] 112)
  have b3 : Below w2.heap.size w2 (w2.alloc (.cells #[.slice a n cap, .int .i64 (W : Int), .map (some w.heap.size), .slice (some ⟨w.heap.size + 1, 0, none⟩) (2 * n) (2 * n)] 112)) := below_box _ _
  rw [hz2] at hn
  generalize w2.alloc (.cells #[.slice a n cap, .int .i64 (W : Int), .map (some w.heap.size), .slice (some ⟨w.heap.size + 1, 0, none⟩) (2 * n) (2 * n)] 112) = w3 at *
  refine ⟨hn, hr.of_block (b3.block _ (by omega)), (hm.block (b2.block _ (by omega))).block (b3.block _ (by omega)), ((hs.old b1).old b2).old b3, by omega, by omega, by have := b3.size; omega, by omega, hB, by omega, hold⟩
set_option maxRecDepth 100000 in
set_option maxHeartbeats 1000000 in
theorem pnewf7 (D : List Int) (a : Option Addr) (n cap W : Nat) (w : World) (hs : Seg w a D) (B : Nat) (hB : B ≤ w.heap.size) (hold : ∀ x off, a = some ⟨x, off, none⟩ → 0 < D.length → x < B) (hl : n ≤ 1048576) :
    Calls Try.prog 51 #[.slice a n cap, .int .i64 (W : Int)] w fun e w' => ∃ fb m g, e = .returned (.pointer (some ⟨fb, 0, none⟩)) ∧ Fst w' B fb m g D a n cap W 0 (fun _ => 0) ∧ Below w.heap.size w w' := by
  have hmm := @run_makeMap Try.prog
  have hmk := make_ints7t (2 * n) (by omega)
  have hw2 : IntKind.i64.wrap (2 * (n : Int)) = ((2 * n : Nat) : Int) := by rw [IntWalk.i64_in _ (by omega)]; omega
  have HF := fst_new (D := D) a n cap W w hs B hB hold
  have HB : Below w.heap.size w (((w.alloc (.map #[] 0)).alloc (.cells (madeCells #[.int .i64 0] (2 * n)) 3)).alloc (.cells #[.slice a n cap, .int .i64 (W : Int), .map (some w.heap.size), .slice (some ⟨w.heap.size + 1, 0, none⟩) (2 * n) (2 * n)] 112)) := by
    have b1 : Below w.heap.size w (w.alloc (.map #[] 0)) := (Below.refl _ _).alloc (Nat.le_refl _) _
    have b2 := b1.alloc b1.size (.cells (madeCells #[.int .i64 0] (2 * n)) 3)
    exact b2.alloc b2.size _
  obtain ⟨N, hN⟩ : ∃ N, N = 2 * n := ⟨_, rfl⟩
  rw [← hN] at hmk hw2
  have hi : 2 * (n : Int) = (N : Int) := by omega
  have HE : Hid (N = 2 * n) := hN
  have HF2 : Hid _ := HF
  have HB2 : Hid _ := HB
  clear hN HF HB
  go_enter Try.func51, Try.ntmps51
  go_wp2_with fail
  go_ret
  rw [HE.out]
  exact ⟨_, _, _, rfl, HF2.out, HB2.out⟩
end Go.Proofs.Ytaipfcfmhdigfaa

namespace Go.Proofs.Ytaipfcfmhdigfaa
open Go.RowKit
set_option linter.unusedVariables false

set_option maxRecDepth 100000 in
set_option maxHeartbeats 4000000 in
theorem pplant7 (B fb m g : Nat) (D : List Int) (a : Option Addr) (n cap W s : Nat) (A : Nat → Int) (hn : Hid (D.length = n)) (w : World) (h : Fst w B fb m g D a n cap W s A) (hs : s + 2 < n) (hl : n ≤ 1048576) :
    Calls Try.prog 54 #[.pointer (some ⟨fb, 0, none⟩), .int .i64 (s : Int)] w fun e w' => e = .returned (.int .i64 (lst7 D s (D.getD s 0) (D.getD (s + 1) 0) (D.getD (s + 2) 0))) ∧ Fst w' B fb m g D a n cap W (s + 1) A ∧ Kp (fun k => k = m) w w' := by
  have CK := pkey7 D a n cap s hn w h.seg hs (by omega)
  have bx := h.seg.bd s
  have byy := h.seg.bd (s + 1)
  have bz := h.seg.bd (s + 2)
  obtain ⟨c0, c1, c2, c3⟩ := h.cells
  have HST : Hid (lst7 D (s + 1) = fun x' y' z' => if x' = D.getD s 0 ∧ y' = D.getD (s + 1) 0 ∧ z' = D.getD (s + 2) 0 then (s : Int) else lst7 D s x' y' z') := rfl
  generalize D.getD s 0 = x at *
  generalize D.getD (s + 1) 0 = y at *
  generalize D.getD (s + 2) 0 = z at *
  have HC : Hid (Fst w B fb m g D a n cap W s A) := h
  have hbw := h.lt
  obtain ⟨pv, hpv⟩ : ∃ pv, pv = lst7 D s x y z := ⟨_, rfl⟩
  rw [← hpv]
  have HPV : Hid (pv = lst7 D s x y z) := hpv
  clear h hpv
  go_enter Try.func54, Try.ntmps54
  go_wp2_with fail
  refine CK.mono ?_
  rintro e w1 ⟨rfl, b1⟩
  have bA : Below w1.heap.size w1 (w1.alloc (.cells #[.int .u8 x, .int .u8 y, .int .u8 z] 97)) := below_box _ _
  have hCX := ((show Fst w B fb m g D a n cap W s A from HC.out).kp b1).kp bA
  have BX : Below w.heap.size w (w1.alloc (.cells #[.int .u8 x, .int .u8 y, .int .u8 z] 97)) := b1.trans (bA.mono b1.size)
  have hKX := heap_alloc_new w1 (.cells #[.int .u8 x, .int .u8 y, .int .u8 z] 97)
  obtain ⟨wX, hwX⟩ : ∃ wX, wX = w1.alloc (.cells #[.int .u8 x, .int .u8 y, .int .u8 z] 97) := ⟨_, rfl⟩
  obtain ⟨ob, hob⟩ : ∃ ob, ob = w1.heap.size := ⟨_, rfl⟩
  have HWX : Hid (wX = w1.alloc (.cells #[.int .u8 x, .int .u8 y, .int .u8 z] 97)) := hwX
  have HOB : Hid (ob = w1.heap.size) := hob
  rw [← hwX] at hCX hKX BX
  rw [← hob] at hKX
  have k0 : wX.cell? ⟨ob, 0, none⟩ = some (.int .u8 x) := three_cell0 hKX
  have k1 : wX.cell? ⟨ob, 1, none⟩ = some (.int .u8 y) := three_cell1 hKX
  have k2 : wX.cell? ⟨ob, 2, none⟩ = some (.int .u8 z) := three_cell2 hKX
  obtain ⟨d0, d1, d2, d3⟩ := hCX.cells
  obtain ⟨v, ok, hr, hcs⟩ := (hCX.mp.block (w' := wX.drew) rfl).look bx byy bz
  obtain ⟨w6, hr6, m6, g6⟩ := (hCX.mp.block (w' := wX.drew.drew) rfl).store (by unfold maxLen; omega) bx byy bz s (by omega)
  have HN6 : Hid (Fst w6 B fb m g D a n cap W (s + 1) A) := by
    have hb6 : ∀ k, k < wX.heap.size → k ≠ m → w6.heap[k]? = wX.heap[k]? := fun k h1 h2 => g6.block k h1 (fun e => h2 (by cases e; rfl))
    exact ⟨(hb6 fb hCX.lt hCX.fm).trans hCX.hp, hCX.row.of_block (hb6 g hCX.gl (Ne.symm hCX.mg)), by rw [HST.out]; exact m6, hCX.seg.drew.drew.grown g6 (fun x off e h0 e2 => by cases e2; have := hCX.old _ off e h0; have := hCX.bm; omega), hCX.fg, hCX.mg, Nat.lt_of_lt_of_le hCX.gl g6.size, hCX.bf, hCX.bm, hCX.bg, hCX.old⟩
  have B6 : Kp (fun k => k = m) w w6 := by
    have h1 : Kp (fun k => k = m) w wX := Kp.of_below BX
    have h2 : Kp (fun k => k = m) wX.drew.drew w6 := Kp.grown (S := fun k => k = m) g6 (fun k e => by cases e; rfl)
    have h3 : Kp (fun k => k = m) wX w6 := ⟨h2.os, h2.tape, h2.output, h2.size, h2.block⟩
    exact h1.trans h3 (fun _ _ e => e)
  clear hwX hob hCX hKX CK HC c0 c1 c2 c3 d0 d1 d3 bA m6 g6
  rw [← HPV.out] at hcs
  rcases hcs with ⟨rfl, rfl, hv⟩ | ⟨rfl, hf⟩
  · go_wp2_with fail
    rw [← HWX.out, ← HOB.out]
    go_region
    all_goals go_wp2
    all_goals go_region
    all_goals go_wp2
    all_goals go_ret
    all_goals exact ⟨rfl, HN6.out, B6⟩
  · clear HPV
    subst hf
    go_wp2_with fail
    rw [← HWX.out, ← HOB.out]
    go_region
    all_goals go_wp2
    all_goals go_region
    all_goals go_wp2
    all_goals go_ret
    all_goals exact ⟨rfl, HN6.out, B6⟩
end Go.Proofs.Ytaipfcfmhdigfaa
