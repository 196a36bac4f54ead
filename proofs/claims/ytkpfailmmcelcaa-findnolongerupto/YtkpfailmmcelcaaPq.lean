import Derived.Test.YtkpfailmmcelcaaPp
import Derived.Test.YtkpfailmmcelcaaPo
import Derived.Test.YtkpfailmmcelcaaProg
import Derived.Test.YtkpfailmmcelcaaPa
import Derived.WalkKit
import Derived.WalkSpells
import Derived.Laws.BytesArg
namespace Go.Proofs.Ytkpfailmmcelcaa
set_option linter.unusedVariables false

/-! Where a text stands among the suffixes (layer 14), as mathematics. -/
def cq14 : List Int → List Int → Int
  | _, [] => 0
  | [], _ :: _ => -1
  | x :: X, y :: p => if x = y then cq14 X p else if x < y then -1 else 1
theorem cq14_is : ∀ (X p : List Int), cv13 X p = cq14 X p
  | X, [] => by unfold cq14; exact cv13_zero (by rw [lc13_nil']; rfl)
  | [], y :: p => by unfold cq14; exact cv13_less (by rw [lc13_nil]; simp) .nil
  | x :: X, y :: p => by
    have ih := cq14_is X p
    unfold cq14
    by_cases e : x = y
    · subst e
      rw [if_pos rfl, ← ih]
      unfold cv13
      have h1 : lc13 (x :: X) (x :: p) = lc13 X p + 1 := by rw [lc13]; rw [if_pos rfl]
      have h2 : LL12 (x :: X) (x :: p) ↔ LL12 X p := ⟨fun h => by rcases h.inv with h | h; omega; exact h.2, .eq⟩
      rw [h1, List.length_cons]
      by_cases c : lc13 X p = p.length
      · rw [if_pos (by omega), if_pos c]
      · rw [if_neg (by omega), if_neg c]
        by_cases d : LL12 X p
        · rw [if_pos (h2.2 d), if_pos d]
        · rw [if_neg (fun h => d (h2.1 h)), if_neg d]
    · rw [if_neg e]
      have h1 : lc13 (x :: X) (y :: p) = 0 := by rw [lc13]; rw [if_neg e]
      by_cases c : x < y
      · rw [if_pos c]; exact cv13_less (by rw [h1]; simp) (.lt c)
      · rw [if_neg c]; exact cv13_more (by rw [h1]; simp) (fun h => by rcases h.inv with h | h; omega; exact e h.1)
theorem cv13_bd (X p : List Int) : -1 ≤ cv13 X p ∧ cv13 X p ≤ 1 := by
  unfold cv13
  split
  · omega
  · split <;> omega
theorem cv13_zero_iff {X p : List Int} : cv13 X p = 0 ↔ lc13 X p = p.length := by
  constructor
  · intro h
    by_cases c : lc13 X p = p.length
    · exact c
    · by_cases d : LL12 X p
      · rw [cv13_less c d] at h; omega
      · rw [cv13_more c d] at h; omega
  · exact cv13_zero
theorem ll_begin14 : ∀ {X p : List Int}, lc13 X p = p.length → ¬ LL12 X p
  | _, [], _, h => h.no
  | [], y :: p, h, _ => by rw [lc13_nil] at h; simp at h
  | x :: X, y :: p, h, k => by
    unfold lc13 at h
    by_cases e : x = y
    · subst e
      rw [if_pos rfl, List.length_cons] at h
      rcases k.inv with k | ⟨_, k⟩
      · omega
      · exact ll_begin14 (by omega) k
    · rw [if_neg e] at h; simp at h
theorem cv13_neg_iff {X p : List Int} : cv13 X p < 0 ↔ LL12 X p := by
  constructor
  · intro h
    by_cases c : lc13 X p = p.length
    · rw [cv13_zero c] at h; omega
    · by_cases d : LL12 X p
      · exact d
      · rw [cv13_more c d] at h; omega
  · intro h
    rw [cv13_less (fun c => ll_begin14 c h) h]; omega
theorem cv13_pos_iff {X p : List Int} : 0 < cv13 X p ↔ LL12 p X ∧ ¬ lc13 X p = p.length := by
  constructor
  · intro h
    have h0 : ¬ lc13 X p = p.length := fun c => by rw [cv13_zero c] at h; omega
    have h1 : ¬ LL12 X p := fun c => by have := cv13_neg_iff.2 c; omega
    refine ⟨?_, h0⟩
    rcases ll_total13 X p with c | c | c
    · subst c
      exact absurd (Nat.le_antisymm (lc13_le _ _) (lc13_ge rfl (Nat.le_refl _) (Nat.le_refl _))) h0
    · exact absurd c h1
    · exact c
  · rintro ⟨h, h0⟩
    rw [cv13_more h0 (fun k => h.asymm k)]; omega
/-- It rises with the suffixes. -/
theorem cv13_mono {X Y p : List Int} (h : LL12 X Y) : cv13 X p ≤ cv13 Y p := by
  by_cases c : cv13 X p < 0
  · have h1 := cv13_bd Y p
    have h2 := cv13_bd X p
    omega
  · by_cases d : 0 < cv13 X p
    · obtain ⟨e1, e2⟩ := cv13_pos_iff.1 d
      have h3 : 0 < cv13 Y p := by
        refine cv13_pos_iff.2 ⟨e1.trans h, fun k => e2 ?_⟩
        have h4 := lc13_min e1 h
        rw [lc13_comm p Y, k, lc13_comm p X] at h4
        have h5 := lc13_le' X p
        omega
      have h1 := cv13_bd X p
      have h2 := cv13_bd Y p
      omega
    · have h1 : ¬ cv13 Y p < 0 := fun k => c (cv13_neg_iff.2 (h.trans (cv13_neg_iff.1 k)))
      omega
/-! A row of ranks, those that have something ahead of the others. -/
theorem cut_id14 {n b : Nat} (h : b ≤ n) : cn12 (fun r => r < b) n = b := cut13 (f := fun r => r) (fun k hk => hk) (fun i j _ _ e => e) b h
theorem down14 {Q : Nat → Prop} : ∀ {n : Nat}, (∀ r q, r ≤ q → q < n → Q q → Q r) → ∃ b, b ≤ n ∧ ∀ r, r < n → (Q r ↔ r < b)
  | 0, _ => ⟨0, Nat.le_refl _, fun r h => by omega⟩
  | n + 1, h => by
    obtain ⟨b, hb, H⟩ := down14 (n := n) (fun r q h1 h2 => h r q h1 (by omega))
    by_cases c : b < n
    · refine ⟨b, by omega, fun r hr => ?_⟩
      by_cases d : r < n
      · exact H r d
      · have : r = n := by omega
        subst this
        exact ⟨fun k => absurd ((H b c).1 (h b r (by omega) (by omega) k)) (by omega), fun k => by omega⟩
    · have : b = n := by omega
      subst this
      by_cases d : Q b
      · refine ⟨b + 1, by omega, fun r hr => ⟨fun _ => hr, fun _ => h r b (by omega) (by omega) d⟩⟩
      · refine ⟨b, by omega, fun r hr => ?_⟩
        by_cases e : r < b
        · exact H r e
        · have : r = b := by omega
          subst this
          exact ⟨fun k => absurd k d, fun k => by omega⟩
theorem down_cn14 {Q : Nat → Prop} {n : Nat} (h : ∀ r q, r ≤ q → q < n → Q q → Q r) {r : Nat} (hr : r < n) : Q r ↔ r < cn12 Q n := by
  obtain ⟨b, hb, H⟩ := down14 h
  rw [cn12_congr H, cut_id14 hb]
  exact H r hr
theorem cn12_bd14 (Q : Nat → Prop) (n : Nat) : cn12 Q n ≤ n := by
  have h1 : cn12 Q n ≤ cn12 (fun _ => True) n := cn12_le fun _ _ _ => trivial
  rw [cn12_all (P := fun _ => True) (fun _ _ => trivial)] at h1
  exact h1
/-- How many suffixes are less than a text; how many are, or begin with it. -/
noncomputable def lo14 (z p : List Int) : Nat := cn12 (fun j => cv13 (z.drop j) p < 0) z.length
noncomputable def hi14 (z p : List Int) : Nat := cn12 (fun j => cv13 (z.drop j) p ≤ 0) z.length
theorem lo14_le_hi (z p : List Int) : lo14 z p ≤ hi14 z p := cn12_le fun j _ h => by omega
theorem hi14_le (z p : List Int) : hi14 z p ≤ z.length := cn12_bd14 _ _
theorem lo14_le (z p : List Int) : lo14 z p ≤ z.length := cn12_bd14 _ _
theorem ar_move14 {z : List Int} {A : List Nat} (hA : Ar12 z.length (S12 z) A) (P : Nat → Prop) : cn12 (fun r => P (A.getD r 0)) z.length = cn12 P z.length :=
  move13 (f := fun r => A.getD r 0) (fun k hk => hA.get hk) (fun i j hi hj e => hA.inj hi hj e) P
theorem cv_ranks14 {z : List Int} {A : List Nat} (hA : Ar12 z.length (S12 z) A) (p : List Int) {r q : Nat} (h : r ≤ q) (hq : q < z.length) : cv13 (z.drop (A.getD r 0)) p ≤ cv13 (z.drop (A.getD q 0)) p := by
  by_cases c : r = q
  · subst c; omega
  · exact cv13_mono (ls_ll13 (hA.pair (r := r) (q := q) (by omega) hq))
theorem lo14_iff {z : List Int} {A : List Nat} (hA : Ar12 z.length (S12 z) A) (p : List Int) {r : Nat} (hr : r < z.length) : cv13 (z.drop (A.getD r 0)) p < 0 ↔ r < lo14 z p := by
  have h1 := down_cn14 (Q := fun r => cv13 (z.drop (A.getD r 0)) p < 0) (n := z.length) (fun r q h1 h2 h3 => by have := cv_ranks14 hA p h1 h2; omega) hr
  have h2 := ar_move14 hA (fun j => cv13 (z.drop j) p < 0)
  rw [h1]
  unfold lo14
  rw [← h2]
theorem hi14_iff {z : List Int} {A : List Nat} (hA : Ar12 z.length (S12 z) A) (p : List Int) {r : Nat} (hr : r < z.length) : cv13 (z.drop (A.getD r 0)) p ≤ 0 ↔ r < hi14 z p := by
  have h1 := down_cn14 (Q := fun r => cv13 (z.drop (A.getD r 0)) p ≤ 0) (n := z.length) (fun r q h1 h2 h3 => by have := cv_ranks14 hA p h1 h2; omega) hr
  have h2 := ar_move14 hA (fun j => cv13 (z.drop j) p ≤ 0)
  rw [h1]
  unfold hi14
  rw [← h2]
/-- A bound of ranks that is told by what stands to both its sides. -/
theorem bound14 {b c from_ to_ : Nat} (h1 : from_ ≤ b) (h2 : b ≤ to_) (hc1 : from_ ≤ c) (hc2 : c ≤ to_) {Q : Nat → Prop} (hb : ∀ r, from_ ≤ r → r < to_ → (Q r ↔ r < b)) (hc : ∀ r, from_ ≤ r → r < to_ → (Q r ↔ r < c)) : b = c := by
  rcases Nat.lt_trichotomy b c with k | k | k
  · have := (hc b h1 (by omega)).2 k
    have := (hb b h1 (by omega)).1 this
    omega
  · exact k
  · have := (hb c hc1 (by omega)).2 k
    have := (hc c hc1 (by omega)).1 this
    omega
/-- Beginnings of a text. -/
theorem begins14 : ∀ (X p : List Int) (m : Nat), m ≤ p.length → (lc13 X (p.take m) = (p.take m).length ↔ m ≤ lc13 X p)
  | X, p, 0, _ => by simp [lc13_nil']
  | X, [], m + 1, h => by simp at h
  | [], y :: p, m + 1, h => by simp [lc13_nil]
  | x :: X, y :: p, m + 1, h => by
    have ih := begins14 X p m (by simpa using h)
    rw [List.take_succ_cons, List.length_cons]
    unfold lc13
    by_cases e : x = y
    · rw [if_pos e, if_pos e]; omega
    · rw [if_neg e, if_neg e]; omega
theorem ll_take14 : ∀ {X p : List Int} {m : Nat}, LL12 X (p.take m) → LL12 X p
  | X, p, 0, h => by simp at h; exact h.no.elim
  | X, [], m + 1, h => by simp at h; exact h.no.elim
  | [], y :: p, m + 1, h => .nil
  | x :: X, y :: p, m + 1, h => by
    rw [List.take_succ_cons] at h
    rcases h.inv with h | ⟨h, k⟩
    · exact .lt h
    · subst h; exact .eq (ll_take14 k)
theorem ll_take14' : ∀ {X p : List Int} {m : Nat}, LL12 X p → cv13 X (p.take m) ≤ 0
  | X, p, m, h => by
    by_cases c : 0 < cv13 X (p.take m)
    · exfalso
      obtain ⟨h1, h2⟩ := cv13_pos_iff.1 c
      -- the text's beginning is less than the suffix, and no beginning of it
      have h3 : ∀ (p X : List Int) (m : Nat), LL12 (p.take m) X → ¬ lc13 X (p.take m) = (p.take m).length → ¬ LL12 X p := by
        intro p
        induction p with
        | nil => intro X m _ _ k; exact k.no
        | cons y p ih =>
          intro X m k1 k2 k3
          cases m with
          | zero => simp [lc13_nil'] at k2
          | succ m =>
            cases X with
            | nil => exact k1.no
            | cons x X =>
              rw [List.take_succ_cons] at k1 k2
              rcases k1.inv with k4 | ⟨e, k4⟩
              · rcases k3.inv with k5 | ⟨k5, _⟩ <;> omega
              · subst e
                rcases k3.inv with k5 | ⟨_, k5⟩
                · omega
                · refine ih X m k4 (fun h => k2 ?_) k5
                  rw [lc13, if_pos rfl, List.length_cons, h]
      exact h3 p X m h1 h2 h
    · omega
theorem lo14_take (z p : List Int) (m : Nat) : lo14 z (p.take m) ≤ lo14 z p := cn12_le fun j _ h => cv13_neg_iff.2 (ll_take14 (cv13_neg_iff.1 h))
theorem hi14_take (z p : List Int) (m : Nat) : lo14 z p ≤ hi14 z (p.take m) := cn12_le fun j _ h => ll_take14' (cv13_neg_iff.1 h)
/-- None has more in common with a text than its neighbours. -/
theorem near_lo14 {z : List Int} {A : List Nat} (hA : Ar12 z.length (S12 z) A) (p : List Int) {r : Nat} (hr : r < lo14 z p) : lc13 (z.drop (A.getD r 0)) p ≤ lc13 (z.drop (A.getD (lo14 z p - 1) 0)) p := by
  have hb := lo14_le z p
  by_cases c : r = lo14 z p - 1
  · rw [c]; exact Nat.le_refl _
  · have h1 := ls_ll13 (hA.pair (r := r) (q := lo14 z p - 1) (by omega) (by omega))
    have h2 := cv13_neg_iff.1 ((lo14_iff hA p (r := lo14 z p - 1) (by omega)).2 (by omega))
    have := lc13_min h1 h2
    omega
theorem near_hi14 {z : List Int} {A : List Nat} (hA : Ar12 z.length (S12 z) A) (p : List Int) {r : Nat} (hr : lo14 z p ≤ r) (hn : r < z.length) : lc13 (z.drop (A.getD r 0)) p ≤ lc13 (z.drop (A.getD (lo14 z p) 0)) p := by
  by_cases c : r = lo14 z p
  · rw [c]; exact Nat.le_refl _
  · have h1 := ls_ll13 (hA.pair (r := lo14 z p) (q := r) (by omega) hn)
    by_cases d : lc13 (z.drop (A.getD (lo14 z p) 0)) p = p.length
    · rw [d]; exact lc13_le' _ _
    · have h2 : ¬ cv13 (z.drop (A.getD (lo14 z p) 0)) p < 0 := fun k => by have := (lo14_iff hA p (by omega)).1 k; omega
      have h3 : 0 < cv13 (z.drop (A.getD (lo14 z p) 0)) p := by
        have : ¬ cv13 (z.drop (A.getD (lo14 z p) 0)) p = 0 := fun k => d (cv13_zero_iff.1 k)
        omega
      have h4 := (cv13_pos_iff.1 h3).1
      have h5 := lc13_min h4 h1
      rw [lc13_comm p, lc13_comm p] at h5
      omega
/-- The longest beginning of a text that stands anywhere. -/
def mp14 (z p : List Int) : Nat → Nat
  | 0 => 0
  | i + 1 => max (mp14 z p i) (lc13 (z.drop i) p)
def at14 (z p : List Int) : Nat → Nat
  | 0 => 0
  | i + 1 => if mp14 z p i < lc13 (z.drop i) p then i else at14 z p i
def mx14 (z p : List Int) : Nat := mp14 z p z.length
def lp14 (z p : List Int) : Nat := at14 z p z.length
theorem mp14_ge (z p : List Int) : ∀ {k i : Nat}, i < k → lc13 (z.drop i) p ≤ mp14 z p k
  | 0, i, h => by omega
  | k + 1, i, h => by
    unfold mp14
    by_cases c : i = k
    · subst c; omega
    · have := mp14_ge z p (k := k) (i := i) (by omega)
      omega
theorem mp14_has (z p : List Int) : ∀ (k : Nat), mp14 z p k = 0 ∨ ∃ i, i < k ∧ lc13 (z.drop i) p = mp14 z p k
  | 0 => Or.inl rfl
  | k + 1 => by
    unfold mp14
    rcases mp14_has z p k with h | ⟨i, h1, h2⟩
    · by_cases c : lc13 (z.drop k) p = 0
      · left; omega
      · right; exact ⟨k, by omega, by omega⟩
    · by_cases c : mp14 z p k ≤ lc13 (z.drop k) p
      · right; exact ⟨k, by omega, by omega⟩
      · right; exact ⟨i, by omega, by omega⟩
theorem at14_is (z p : List Int) : ∀ (k : Nat), (mp14 z p k = 0 → at14 z p k = 0) ∧ (0 < mp14 z p k → at14 z p k < k ∧ lc13 (z.drop (at14 z p k)) p = mp14 z p k ∧ ∀ i, i < at14 z p k → lc13 (z.drop i) p < mp14 z p k)
  | 0 => ⟨fun _ => rfl, fun h => by simp [mp14] at h⟩
  | k + 1 => by
    obtain ⟨h1, h2⟩ := at14_is z p k
    unfold mp14 at14
    by_cases c : mp14 z p k < lc13 (z.drop k) p
    · rw [if_pos c]
      refine ⟨fun h => by omega, fun _ => ⟨by omega, by omega, fun i hi => ?_⟩⟩
      have := mp14_ge z p (k := k) (i := i) hi
      omega
    · rw [if_neg c]
      have e : max (mp14 z p k) (lc13 (z.drop k) p) = mp14 z p k := by omega
      rw [e]
      exact ⟨h1, fun h => ⟨by have := (h2 h).1; omega, (h2 h).2⟩⟩
theorem mp14_le (z p : List Int) : ∀ k, mp14 z p k ≤ p.length
  | 0 => Nat.zero_le _
  | k + 1 => by
    unfold mp14
    have := mp14_le z p k
    have := lc13_le' (z.drop k) p
    omega
theorem mx14_le (z p : List Int) : mx14 z p ≤ p.length := mp14_le z p _
theorem mx14_near {z : List Int} {A : List Nat} (hA : Ar12 z.length (S12 z) A) (p : List Int) : mx14 z p = max (if lo14 z p = 0 then 0 else lc13 (z.drop (A.getD (lo14 z p - 1) 0)) p) (if lo14 z p < z.length then lc13 (z.drop (A.getD (lo14 z p) 0)) p else 0) := by
  have hb := lo14_le z p
  apply Nat.le_antisymm
  · rcases mp14_has z p z.length with h | ⟨i, h1, h2⟩
    · unfold mx14; omega
    · unfold mx14
      rw [← h2]
      obtain ⟨r1, r2⟩ := hA.rk h1
      by_cases c : rk13 A i < lo14 z p
      · have := near_lo14 hA p c
        rw [r2] at this
        rw [if_neg (by omega : ¬ lo14 z p = 0)]
        omega
      · have := near_hi14 hA p (r := rk13 A i) (by omega) r1
        rw [r2] at this
        rw [if_pos (by omega : lo14 z p < z.length)]
        omega
  · have g : ∀ r, r < z.length → lc13 (z.drop (A.getD r 0)) p ≤ mx14 z p := fun r hr => mp14_ge z p (hA.get hr)
    have h1 : (if lo14 z p = 0 then 0 else lc13 (z.drop (A.getD (lo14 z p - 1) 0)) p) ≤ mx14 z p := by
      split
      · omega
      · exact g _ (by omega)
    have h2 : (if lo14 z p < z.length then lc13 (z.drop (A.getD (lo14 z p) 0)) p else 0) ≤ mx14 z p := by
      split
      · exact g _ (by assumption)
      · omega
    omega
/-- Where the longest beginning stands: the ranks of its range, and its least place. -/
theorem range_mx14 {z : List Int} {A : List Nat} (hA : Ar12 z.length (S12 z) A) (p : List Int) {r : Nat} (hr : r < z.length) : (lo14 z (p.take (mx14 z p)) ≤ r ∧ r < hi14 z (p.take (mx14 z p))) ↔ lc13 (z.drop (A.getD r 0)) p = mx14 z p := by
  have h1 := lo14_iff hA (p.take (mx14 z p)) hr
  have h2 := hi14_iff hA (p.take (mx14 z p)) hr
  have h3 := begins14 (z.drop (A.getD r 0)) p (mx14 z p) (mx14_le z p)
  have h4 : lc13 (z.drop (A.getD r 0)) p ≤ mx14 z p := mp14_ge z p (hA.get hr)
  rw [← cv13_zero_iff] at h3
  constructor
  · rintro ⟨k1, k2⟩
    have k3 : ¬ cv13 (z.drop (A.getD r 0)) (p.take (mx14 z p)) < 0 := fun k => by have := h1.1 k; omega
    have k4 := h2.2 k2
    have := h3.1 (by omega)
    omega
  · intro k
    have k1 := h3.2 (by omega)
    exact ⟨by
      rcases Nat.lt_or_ge r (lo14 z (p.take (mx14 z p))) with c | c
      · have := h1.2 c; omega
      · exact c, h2.1 (by omega)⟩
end Go.Proofs.Ytkpfailmmcelcaa

namespace Go.Proofs.Ytkpfailmmcelcaa
open Go.RowKit
set_option linter.unusedVariables false

theorem run_conv_segS {P : Program} {w : World} {a : Option Addr} {zs : List Int} (cap : Nat) (h : Seg w a zs) (src e dst : TypeId) (hs : P.underlying src = some (.slice e)) (he : P.underlying e = some (.int .u8)) (hd : P.underlying dst = some .string) :
    (convert src dst (.slice a zs.length cap)).run P w = .ok (.string (strOfNums zs)) w := by
  by_cases hz : 0 < zs.length
  · obtain ⟨b, off, rfl, _⟩ := h.at_ 0 hz
    refine run_convert_bytes_arg w src e hs he b off zs.length cap zs rfl (fun i hi => ?_) dst hd
    obtain ⟨b', off', hb, hc⟩ := h.at_ i hi
    cases hb
    exact hc
  · have : zs = [] := List.eq_nil_of_length_eq_zero (by omega)
    subst this
    cases a with
    | none => exact run_convert_bytes_nil w src e hs he _ _ dst hd
    | some x =>
      rw [run_convert_bytes_string w src dst e _ _ cap hs he hd]
      have hl : (loadCells x 0).run P w = .ok (([] : List Int).map (Value.int .u8)).toArray w := by simp [loadCells, loadCellsFrom]
      have := run_bytesToString (P := P) w x 0 cap [] hl
      exact this

theorem str_injS {xs ys : List Int} (hx : ∀ z ∈ xs, 0 ≤ z ∧ z ≤ 255) (hy : ∀ z ∈ ys, 0 ≤ z ∧ z ≤ 255) : ((strOfNums xs).toList == (strOfNums ys).toList) = (xs == ys) := by
  rw [ByteArray.toList_eq, ByteArray.toList_eq, strOfNums_data, strOfNums_data]
  have key : ∀ (xs ys : List Int), (∀ z ∈ xs, 0 ≤ z ∧ z ≤ 255) → (∀ z ∈ ys, 0 ≤ z ∧ z ≤ 255) → (xs.map fun n => UInt8.ofNat n.toNat) = (ys.map fun n => UInt8.ofNat n.toNat) → xs = ys := by
    intro xs
    induction xs with
    | nil => intro ys _ _ h; cases ys with
      | nil => rfl
      | cons y r => simp at h
    | cons x r ih =>
      intro ys hx hy h
      cases ys with
      | nil => simp at h
      | cons y t =>
        simp only [List.map_cons, List.cons.injEq] at h
        have h1 := hx x (by simp)
        have h2 := hy y (by simp)
        have h3 := congrArg UInt8.toNat h.1
        simp at h3
        have h4 : x = y := by omega
        rw [h4, ih t (fun z hz => hx z (by simp [hz])) (fun z hz => hy z (by simp [hz])) h.2]
  rw [Bool.eq_iff_iff, beq_iff_eq, beq_iff_eq]
  exact ⟨key xs ys hx hy, fun h => by rw [h]⟩

end Go.Proofs.Ytkpfailmmcelcaa
