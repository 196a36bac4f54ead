
import Derived.Test.YtoeabfcnfofbiaaDoorLnSort
namespace Go.Proofs.YtoeabfcnfofbiaaDoor
set_option linter.unusedVariables false

theorem so.le {X : Nat → Im} {a b i j : Nat} (h : so X a b) (hi : a ≤ i) (hij : i ≤ j) (hj : j < b) : i = j ∨ kl (X i) (X j) := by
  by_cases e : i = j
  · exact .inl e
  · exact .inr (h i j hi (by omega) hj)
theorem so.sub {X : Nat → Im} {a b a' b' : Nat} (h : so X a b) (h1 : a ≤ a') (h2 : b' ≤ b) : so X a' b' := fun i j hi hij hj => h i j (by omega) hij (by omega)
theorem kl_not {x y : Im} (h : kl x y) : ¬ kl y x := by unfold kl at *; omega
/-- Where both come from the two sides, the weights alone tell. -/
theorem wt_iff {x y : Im} (h : x.sy < y.sy) : y.wt < x.wt ↔ kl y x := by unfold kl; omega

/-- Where a search stands: below s the one, from r on the other. -/
def srch (t : Nat → Prop) (lo hi s r : Nat) : Prop := lo ≤ s ∧ s ≤ r ∧ r ≤ hi ∧ (∀ c, lo ≤ c → c < s → ¬ t c) ∧ ∀ c, r ≤ c → c < hi → t c
theorem srch_up {t : Nat → Prop} {lo hi s r c : Nat} (h : srch t lo hi s r) (hm : ∀ c c', lo ≤ c' → c' ≤ c → c < hi → t c' → t c) (h1 : s ≤ c) (h2 : c < r) (hc : ¬ t c) : srch t lo hi (c + 1) r := by
  obtain ⟨q1, q2, q3, q4, q5⟩ := h
  exact ⟨by omega, by omega, q3, fun d hd hd2 ht => hc (hm c d hd (by omega) (by omega) ht), q5⟩
theorem srch_down {t : Nat → Prop} {lo hi s r c : Nat} (h : srch t lo hi s r) (hm : ∀ c c', lo ≤ c' → c' ≤ c → c < hi → t c' → t c) (h1 : s ≤ c) (h2 : c < r) (hc : t c) : srch t lo hi s c := by
  obtain ⟨q1, q2, q3, q4, q5⟩ := h
  exact ⟨q1, h1, by omega, q4, fun d hd hd2 => hm d c (by omega) hd hd2 hc⟩

theorem rot_left (X : Nat → Im) (m b : Nat) : rot X m m b = X := by
  funext k
  unfold rot
  (repeat' split) <;> first | rfl | (exfalso; omega) | (congr 1; omega)
theorem rot_right (X : Nat → Im) (a m : Nat) : rot X a m m = X := by
  funext k
  unfold rot
  (repeat' split) <;> first | rfl | (exfalso; omega) | (congr 1; omega)

/-- The test of the search, c against its mirror. -/
def tst (X : Nat → Im) (p c : Nat) : Prop := (X (p - c)).wt < (X c).wt
structure Sy (X : Nat → Im) (a m b mid : Nat) : Prop where
  am : a < m
  mb : m < b
  mid1 : mid = (a + b) / 2
  l : so X a m
  r : so X m b
  s : sep X a m b
def slo (a m b mid : Nat) : Nat := if m > mid then mid + m - b else a
def shi (m mid : Nat) : Nat := if m > mid then mid else m
variable {X : Nat → Im} {a m b mid : Nat}
theorem Sy.bounds (h : Sy X a m b mid) : a ≤ slo a m b mid ∧ slo a m b mid ≤ shi m mid ∧ shi m mid ≤ m ∧ shi m mid ≤ mid ∧ ∀ c, slo a m b mid ≤ c → c < shi m mid → m ≤ mid + m - 1 - c ∧ mid + m - 1 - c < b ∧ a ≤ c ∧ c < m := by
  have := h.am; have := h.mb; have := h.mid1
  unfold slo shi
  split
  · refine ⟨by omega, by omega, by omega, by omega, fun c h1 h2 => ?_⟩
    omega
  · refine ⟨by omega, by omega, by omega, by omega, fun c h1 h2 => ?_⟩
    omega
theorem Sy.mono (h : Sy X a m b mid) : ∀ c c', slo a m b mid ≤ c' → c' ≤ c → c < shi m mid → tst X (mid + m - 1) c' → tst X (mid + m - 1) c := by
  intro c c' h1 h2 h3 ht
  obtain ⟨_, _, _, _, hb⟩ := h.bounds
  obtain ⟨p1, p2, p3, p4⟩ := hb c (by omega) h3
  obtain ⟨q1, q2, q3, q4⟩ := hb c' h1 (by omega)
  unfold tst at *
  have e1 := h.l.le q3 h2 p4
  have e2 := h.r.le (i := mid + m - 1 - c) (j := mid + m - 1 - c') p1 (by omega) q2
  have k1 : (X c').wt ≤ (X c).wt := by
    rcases e1 with e | e
    · rw [e]; exact Int.le_refl _
    · unfold kl at e; omega
  have k2 : (X (mid + m - 1 - c)).wt ≤ (X (mid + m - 1 - c')).wt := by
    rcases e2 with e | e
    · rw [e]; exact Int.le_refl _
    · unfold kl at e; omega
  omega
/-- Behind the turn: two sorted pairs, the left ones below the right ones. -/
theorem Sy.turned (h : Sy X a m b mid) {st : Nat} (hs : srch (tst X (mid + m - 1)) (slo a m b mid) (shi m mid) st st) :
    a ≤ st ∧ st ≤ mid ∧ st ≤ m ∧ m ≤ mid + m - st ∧ mid ≤ mid + m - st ∧ mid + m - st ≤ b ∧
    (so (rot X st m (mid + m - st)) a st ∧ so (rot X st m (mid + m - st)) st mid ∧ sep (rot X st m (mid + m - st)) a st mid) ∧
    (so (rot X st m (mid + m - st)) mid (mid + m - st) ∧ so (rot X st m (mid + m - st)) (mid + m - st) b ∧ sep (rot X st m (mid + m - st)) mid (mid + m - st) b) ∧
    ∀ i j, a ≤ i → i < mid → mid ≤ j → j < b → kl (rot X st m (mid + m - st) i) (rot X st m (mid + m - st) j) := by
  obtain ⟨b1, b2, b3, b4, hb⟩ := h.bounds
  obtain ⟨q1, _, q3, q4, q5⟩ := hs
  have ham := h.am; have hmb := h.mb; have hmid := h.mid1
  have hen : mid + m - st ≤ b := by
    unfold slo at q1
    split at q1
    · omega
    · omega
  have y1 : ∀ k, k < st → rot X st m (mid + m - st) k = X k := by
    intro k hk; unfold rot; rw [if_neg (by omega), if_neg (by omega)]
  have y2 : ∀ k, st ≤ k → k < mid → rot X st m (mid + m - st) k = X (k + (m - st)) := by
    intro k hk hk2; unfold rot; rw [if_pos (by omega)]
  have y3 : ∀ k, mid ≤ k → k < mid + m - st → rot X st m (mid + m - st) k = X (k - (mid + m - st - m)) := by
    intro k hk hk2; unfold rot; rw [if_neg (by omega), if_pos (by omega)]
  have y4 : ∀ k, mid + m - st ≤ k → rot X st m (mid + m - st) k = X k := by
    intro k hk; unfold rot; rw [if_neg (by omega), if_neg (by omega)]
  refine ⟨by omega, by omega, by omega, by omega, by omega, hen, ⟨?_, ?_, ?_⟩, ⟨?_, ?_, ?_⟩, ?_⟩
  · intro i j hi hij hj; rw [y1 i (by omega), y1 j hj]; exact h.l i j hi hij (by omega)
  · intro i j hi hij hj; rw [y2 i hi (by omega), y2 j (by omega) hj]; exact h.r _ _ (by omega) (by omega) (by omega)
  · intro i j hi hij hj hj2; rw [y1 i hij, y2 j hj hj2]; exact h.s _ _ hi (by omega) (by omega) (by omega)
  · intro i j hi hij hj; rw [y3 i hi (by omega), y3 j (by omega) hj]; exact h.l _ _ (by omega) (by omega) (by omega)
  · intro i j hi hij hj; rw [y4 i hi, y4 j (by omega)]; exact h.r _ _ (by omega) hij hj
  · intro i j hi hij hj hj2; rw [y3 i hi hij, y4 j hj]; exact h.s _ _ (by omega) (by omega) (by omega) hj2
  · intro i j hi hi2 hj hj2
    by_cases c1 : i < st
    · rw [y1 i c1]
      by_cases c2 : j < mid + m - st
      · rw [y3 j hj c2]; exact h.l _ _ hi (by omega) (by omega)
      · rw [y4 j (by omega)]
        have hlo : slo a m b mid < st := by
          unfold slo at q1 ⊢
          split at q1
          · rw [if_pos (by assumption)]; omega
          · rw [if_neg (by assumption)]; omega
        have ht := q4 (st - 1) (by omega) (by omega)
        obtain ⟨p1, p2, p3, p4⟩ := hb (st - 1) (by omega) (by omega)
        unfold tst at ht
        have e1 : mid + m - 1 - (st - 1) = mid + m - st := by omega
        rw [e1] at ht p1 p2
        have k0 : kl (X (st - 1)) (X (mid + m - st)) := kl_of_wt (h.s _ _ p3 p4 p1 p2) ht
        have k1 := h.l.le hi (show i ≤ st - 1 by omega) p4
        have k2 := h.r.le p1 (show mid + m - st ≤ j by omega) hj2
        have k3 : kl (X i) (X (mid + m - st)) := by
          rcases k1 with e | e
          · rw [e]; exact k0
          · exact kl_trans e k0
        rcases k2 with e | e
        · rw [← e]; exact k3
        · exact kl_trans k3 e
    · rw [y2 i (by omega) hi2]
      by_cases c2 : j < mid + m - st
      · rw [y3 j hj c2]
        have hhi : st < shi m mid := by
          unfold shi at q3 ⊢
          split at q3
          · rw [if_pos (by assumption)]; omega
          · rw [if_neg (by assumption)]; omega
        have ht := q5 st (Nat.le_refl _) hhi
        obtain ⟨p1, p2, p3, p4⟩ := hb st q1 hhi
        unfold tst at ht
        have k0 : kl (X (mid + m - 1 - st)) (X st) := (wt_iff (h.s _ _ p3 p4 p1 p2)).1 ht
        have k1 := h.r.le (i := i + (m - st)) (j := mid + m - 1 - st) (by omega) (by omega) p2
        have k2 := h.l.le (i := st) (j := j - (mid + m - st - m)) p3 (by omega) (by omega)
        have k3 : kl (X (i + (m - st))) (X st) := by
          rcases k1 with e | e
          · rw [e]; exact k0
          · exact kl_trans e k0
        rcases k2 with e | e
        · rw [← e]; exact k3
        · exact kl_trans k3 e
      · rw [y4 j (by omega)]; exact h.r _ _ (by omega) (by omega) hj2
/-- Two sorted halves, the left one below the right one. -/
theorem so_join {Y Z : Nat → Im} {a mid b : Nat} (h1 : a ≤ mid) (h2 : mid ≤ b) {Z1 : Nat → Im} (p1 : Pm Y Z1 a mid) (s1 : so Z1 a mid) (p2 : Pm Z1 Z mid b) (s2 : so Z mid b) (hc : ∀ i j, a ≤ i → i < mid → mid ≤ j → j < b → kl (Y i) (Y j)) : so Z a b := by
  intro i j hi hij hj
  by_cases c1 : j < mid
  · rw [p2.2 i (by omega), p2.2 j (by omega)]; exact s1 i j hi hij c1
  · by_cases c2 : i < mid
    · obtain ⟨i', a1, a2, a3⟩ := p1.mem hi c2
      obtain ⟨j', a4, a5, a6⟩ := p2.mem (k := j) (by omega) hj
      rw [p2.2 i (by omega), a3, a6, p1.2 j' (by omega)]
      exact hc i' j' a1 a2 a4 a5
    · exact s2 i j (by omega) hij hj
end Go.Proofs.YtoeabfcnfofbiaaDoor
