import Derived.Test.YtkpfailmmcelcaaPr
import Derived.Test.YtkpfailmmcelcaaPs
import Derived.Test.YtkpfailmmcelcaaPp
import Derived.Test.YtkpfailmmcelcaaPq
namespace Go.Proofs.Ytkpfailmmcelcaa
open Go.RowKit
set_option linter.unusedVariables false

/-! The document's Stands, less, Range, common, Longest (layer 14). -/
theorem drop_get14 (z : List Int) (i m : Nat) : (z.drop i).getD m 0 = z.getD (i + m) 0 := by simp [List.getD]
theorem cv_at14 {z p : List Int} {n m at_ i : Nat} (hn : z.length = n) (hm : p.length = m) (hat : at_ ≤ n) (hi : i ≤ lc13 (z.drop at_) p) (him : i < m) :
    (¬ at_ + i < n → cv13 (z.drop at_) p < 0) ∧ (at_ + i < n → z.getD (at_ + i) 0 = p.getD i 0 → i + 1 ≤ lc13 (z.drop at_) p) ∧ (at_ + i < n → ¬ z.getD (at_ + i) 0 = p.getD i 0 → (cv13 (z.drop at_) p < 0 ↔ z.getD (at_ + i) 0 < p.getD i 0) ∧ ¬ cv13 (z.drop at_) p = 0) := by
  have hdl : (z.drop at_).length = n - at_ := by rw [List.length_drop, hn]
  refine ⟨fun h => ?_, fun h e => ?_, fun h e => ?_⟩
  · have h1 := lc13_le (z.drop at_) p
    have h2 : lc13 (z.drop at_) p = (z.drop at_).length := by omega
    exact cv13_neg_iff.2 ((ll_iff13 _ _ (by omega)).2 (Or.inl h2))
  · exact lc13_more hi (by omega) (by omega) (by rw [drop_get14]; exact e)
  · have h1 : lc13 (z.drop at_) p = i := lc13_stop hi (by rw [drop_get14]; exact e)
    have h2 : ¬ lc13 (z.drop at_) p = p.length := by omega
    refine ⟨?_, fun k => h2 (cv13_zero_iff.1 k)⟩
    rw [cv13_neg_iff, ll_iff13 _ _ h2, h1, drop_get14]
    constructor
    · rintro (c | c)
      · omega
      · exact c
    · exact fun c => Or.inr c
/-- The ranks, of which so many places are counted. -/
noncomputable def loK14 (z p : List Int) (k : Nat) : Nat := cn12 (fun j => cv13 (z.drop j) p < 0) k
noncomputable def hiK14 (z p : List Int) (k : Nat) : Nat := cn12 (fun j => cv13 (z.drop j) p ≤ 0) k
theorem loK14_yes {z p : List Int} {k : Nat} (h : cv13 (z.drop k) p < 0) : loK14 z p (k + 1) = loK14 z p k + 1 := by
  unfold loK14
  show cn12 _ k + _ = _
  rw [if_pos h]
theorem loK14_no {z p : List Int} {k : Nat} (h : ¬ cv13 (z.drop k) p < 0) : loK14 z p (k + 1) = loK14 z p k := by
  unfold loK14
  show cn12 _ k + _ = _
  rw [if_neg h]
  rfl
theorem hiK14_yes {z p : List Int} {k : Nat} (h : cv13 (z.drop k) p ≤ 0) : hiK14 z p (k + 1) = hiK14 z p k + 1 := by
  unfold hiK14
  show cn12 _ k + _ = _
  rw [if_pos h]
theorem hiK14_no {z p : List Int} {k : Nat} (h : ¬ cv13 (z.drop k) p ≤ 0) : hiK14 z p (k + 1) = hiK14 z p k := by
  unfold hiK14
  show cn12 _ k + _ = _
  rw [if_neg h]
  rfl
theorem below_drewN14 (w : World) (d : Nat) : Below w.heap.size w (w.drewN d) := ⟨rfl, rfl, rfl, Nat.le_refl _, fun _ _ => rfl⟩
theorem drewN14 (w : World) (a b : Nat) : (w.drewN a).drewN b = w.drewN (a + b) := by simp [World.drewN, Nat.add_assoc]
end Go.Proofs.Ytkpfailmmcelcaa

namespace Go.Proofs.Ytkpfailmmcelcaa
open Go.RowKit
set_option linter.unusedVariables false

/-! The law's helpers of layer 14 in a form for every world that grew from here. -/
/-- A text that is lent. -/
structure Lt14 (w : World) (g c n : Nat) (p : List Int) : Prop where
  seg : Seg w (some ⟨g, 0, none⟩) (lentB14 p)
  cap : n + 3 ≤ c
  len : p.length = n
theorem Lt14.old {w w' : World} {g c n : Nat} {p : List Int} (h : Lt14 w g c n p) (hb : Below w.heap.size w w') : Lt14 w' g c n p := ⟨h.seg.old hb, h.cap, h.len⟩
theorem Lt14.txt {w : World} {g c n : Nat} {p : List Int} (h : Lt14 w g c n p) : Seg w (some ⟨g, 0, none⟩) p := by
  have := h.seg.take p.length
  rwa [lentB14_take] at this
theorem lendW14 {w : World} {a : Option Addr} {p : List Int} {n cap : Nat} (hs : Seg w a p) (hn : Hid (p.length = n)) (hnil : a = none → cap = 0) (hl : n ≤ 140737488351232) {W : World} (hb : Below w.heap.size w W) :
    Calls Try.prog 7 #[.slice a n cap] W fun e w' => ∃ g c, e = .returned (.slice (some ⟨g, 0, none⟩) (n + 3) c) ∧ Lt14 w' g c n p ∧ Below w.heap.size w w' ∧ Below W.heap.size W w' :=
  (lend14 a p n cap W (hs.old hb) hn hnil hl).mono fun e w' ⟨g, c, he, hseg, hc, hB⟩ => ⟨g, c, he, ⟨hseg, hc, hn.out⟩, hb.trans (hB.mono hb.size), hB⟩
theorem keptW14 {w : World} {a : Option Addr} {p : List Int} {n cap : Nat} (hs : Seg w a p) (hn : Hid (p.length = n)) (hnil : a = none → cap = 0) (hl : n ≤ 140737488351232) {W : World} (hb : Below w.heap.size w W) {g c : Nat} (hL : Lt14 W g c n p) :
    Calls Try.prog 11 #[.slice (some ⟨g, 0, none⟩) (n + 3) c, .slice a n cap] W fun e w' => e = .returned (.bool true) ∧ Below w.heap.size w w' ∧ Below W.heap.size W w' :=
  (kept14 (some ⟨g, 0, none⟩) a p n c cap W hL.seg (hs.old hb) hn hnil hl).mono fun e w' ⟨he, hB⟩ => ⟨he, hb.trans (hB.mono hb.size), hB⟩
theorem awkW14 {w W : World} (hb : Below w.heap.size w W) : Calls Try.prog 6 #[] W fun e w' => e = .returned (.bool true) ∧ Below w.heap.size w w' :=
  (pawk14 W).mono fun e w' ⟨he, hB⟩ => ⟨he, hb.trans (hB.mono hb.size)⟩
end Go.Proofs.Ytkpfailmmcelcaa

namespace Go.Proofs.Ytkpfailmmcelcaa
set_option linter.unusedVariables false

/-! Kth, pure: the unlike texts in their order. -/
/-- How many texts a rank's suffix has that no rank ahead has; the sum of all ahead. -/
def fr13 (z : List Int) (A : List Nat) (r : Nat) : Nat := z.length - A.getD r 0 - lv13 z A r
def ks13 (z : List Int) (A : List Nat) : Nat → Nat
  | 0 => 0
  | r + 1 => ks13 z A r + fr13 z A r
/-- The k-th text stands at this rank. -/
structure Kr13 (z : List Int) (A : List Nat) (k r : Nat) : Prop where
  lt : r < z.length
  lo : ks13 z A r ≤ k
  hi : k < ks13 z A r + fr13 z A r
def kt13 (z : List Int) (A : List Nat) (k r : Nat) : List Int := (z.drop (A.getD r 0)).take (lv13 z A r + (k - ks13 z A r) + 1)
theorem kt13_len {z : List Int} {A : List Nat} {S : Nat → Int} {k r : Nat} (hA : Ar12 z.length S A) (h : Kr13 z A k r) : (kt13 z A k r).length = lv13 z A r + (k - ks13 z A r) + 1 := by
  unfold kt13
  rw [List.length_take, List.length_drop]
  have h1 := h.hi
  have h2 := h.lo
  unfold fr13 at h1
  omega
theorem ll_take13 {X Y : List Int} (h : LL12 X Y) : LL12 X (Y.take (lc13 Y X + 1)) := by
  induction h with
  | nil => rw [lc13_nil']; exact .nil
  | lt c =>
    unfold lc13
    rw [if_neg (by omega)]
    exact .lt c
  | eq _ ih =>
    unfold lc13
    rw [if_pos rfl, List.take_succ_cons]
    exact .eq ih
theorem ll_len13 {X Y : List Int} (h : LL12 X Y) : lc13 Y X < Y.length := by
  induction h with
  | nil => rw [lc13_nil']; simp
  | lt c =>
    unfold lc13
    rw [if_neg (by omega)]
    simp
  | eq _ ih =>
    unfold lc13
    rw [if_pos rfl, List.length_cons]
    omega
theorem take_ll13 : ∀ (l : List Int) (m : Nat), m < l.length → LL12 (l.take m) (l.take (m + 1))
  | [], _, h => by simp at h
  | x :: l, 0, _ => .nil
  | x :: l, m + 1, h => by
    rw [List.take_succ_cons, List.take_succ_cons]
    exact .eq (take_ll13 l m (by simpa using h))
theorem lv13_lt {z : List Int} {A : List Nat} (hA : Ar12 z.length (S12 z) A) {r : Nat} (hr : r < z.length) : lv13 z A r < z.length - A.getD r 0 := by
  have h1 := hA.get hr
  unfold lv13
  split
  · omega
  · have h2 := ll_len13 (ls_ll13 (hA.pair (r := r - 1) (q := r) (by omega) hr))
    rw [List.length_drop] at h2
    exact h2
theorem fr13_pos {z : List Int} {A : List Nat} (hA : Ar12 z.length (S12 z) A) {r : Nat} (hr : r < z.length) : 1 ≤ fr13 z A r := by
  have := lv13_lt hA hr
  unfold fr13
  omega
theorem ks13_mono (z : List Int) (A : List Nat) {r q : Nat} (h : r ≤ q) : ks13 z A r ≤ ks13 z A q := by
  induction q with
  | zero => have : r = 0 := by omega
            subst this; exact Nat.le_refl _
  | succ q ih =>
    by_cases c : r = q + 1
    · subst c; exact Nat.le_refl _
    · have := ih (by omega)
      show _ ≤ ks13 z A q + fr13 z A q
      omega
theorem Kr13.unique {z : List Int} {A : List Nat} {k r q : Nat} (h : Kr13 z A k r) (h' : Kr13 z A k q) : r = q := by
  rcases Nat.lt_trichotomy r q with c | c | c
  · have h1 := ks13_mono z A (r := r + 1) (q := q) c
    have h2 : ks13 z A (r + 1) = ks13 z A r + fr13 z A r := rfl
    have := h.hi
    have := h'.lo
    omega
  · exact c
  · have h1 := ks13_mono z A (r := q + 1) (q := r) c
    have h2 : ks13 z A (q + 1) = ks13 z A q + fr13 z A q := rfl
    have := h'.hi
    have := h.lo
    omega
/-- The texts rise. -/
theorem kt13_rise {z : List Int} {A : List Nat} (hA : Ar12 z.length (S12 z) A) {k r q : Nat} (h : Kr13 z A k r) (h' : Kr13 z A (k + 1) q) : LL12 (kt13 z A k r) (kt13 z A (k + 1) q) := by
  have hlo := h.lo
  have hhi := h.hi
  by_cases c : k + 1 < ks13 z A r + fr13 z A r
  · obtain rfl := h'.unique (⟨h.lt, by omega, c⟩ : Kr13 z A (k + 1) r)
    unfold kt13
    rw [show lv13 z A q + (k + 1 - ks13 z A q) + 1 = lv13 z A q + (k - ks13 z A q) + 1 + 1 by omega]
    refine take_ll13 _ _ ?_
    rw [List.length_drop]
    unfold fr13 at c
    omega
  · have hk : k + 1 = ks13 z A (r + 1) := by show _ = ks13 z A r + fr13 z A r; omega
    have hq : r < q := by
      rcases Nat.lt_or_ge r q with d | d
      · exact d
      · have h1 := ks13_mono z A (r := q + 1) (q := r + 1) (by omega)
        have h2 : ks13 z A (q + 1) = ks13 z A q + fr13 z A q := rfl
        have := h'.hi
        omega
    have hq2 : q = r + 1 := by
      rcases Nat.lt_or_ge (r + 1) q with d | d
      · have h1 := ks13_mono z A (r := r + 1 + 1) (q := q) d
        have h2 : ks13 z A (r + 1 + 1) = ks13 z A (r + 1) + fr13 z A (r + 1) := rfl
        have h3 := fr13_pos hA (r := r + 1) (by have := h'.lt; omega)
        have := h'.lo
        omega
      · omega
    subst hq2
    have e1 : kt13 z A k r = z.drop (A.getD r 0) := by
      unfold kt13
      rw [List.take_of_length_le]
      rw [List.length_drop]
      unfold fr13 at hhi c
      omega
    have e2 : kt13 z A (k + 1) (r + 1) = (z.drop (A.getD (r + 1) 0)).take (lc13 (z.drop (A.getD (r + 1) 0)) (z.drop (A.getD r 0)) + 1) := by
      unfold kt13
      have : lv13 z A (r + 1) = lc13 (z.drop (A.getD (r + 1) 0)) (z.drop (A.getD r 0)) := by unfold lv13; rw [if_neg (by omega)]; rfl
      rw [this, hk]
      rw [show ks13 z A (r + 1) - ks13 z A (r + 1) = 0 by omega, Nat.add_zero]
    rw [e1, e2]
    exact ll_take13 (ls_ll13 (hA.pair (r := r) (q := r + 1) (by omega) h'.lt))
/-! Sums. -/
def sm13 (g : Nat → Nat) : Nat → Nat
  | 0 => 0
  | n + 1 => sm13 g n + g n
theorem sm13_congr {f g : Nat → Nat} : ∀ {n : Nat}, (∀ i, i < n → f i = g i) → sm13 f n = sm13 g n
  | 0, _ => rfl
  | n + 1, h => by
    show sm13 f n + f n = sm13 g n + g n
    rw [sm13_congr (fun i hi => h i (by omega)), h n (by omega)]
theorem sm13_zero : ∀ n, sm13 (fun _ => 0) n = 0
  | 0 => rfl
  | n + 1 => sm13_zero n
theorem sm13_upd {f g : Nat → Nat} {j : Nat} : ∀ {n : Nat}, j < n → (∀ i, i < n → i ≠ j → f i = g i) → sm13 f n + g j = sm13 g n + f j
  | n + 1, hj, h => by
    show sm13 f n + f n + g j = sm13 g n + g n + f j
    by_cases c : j = n
    · subst c
      have := sm13_congr (f := f) (g := g) (n := j) (fun i hi => h i (by omega) (by omega))
      omega
    · have := sm13_upd (f := f) (g := g) (j := j) (n := n) (by omega) (fun i hi hne => h i (by omega) hne)
      have := h n (by omega) (fun e => c e.symm)
      omega
open Classical in
theorem sm13_moved {f : Nat → Nat} {n : Nat} (hf : ∀ k, k < n → f k < n) (hi : ∀ i j, i < n → j < n → f i = f j → i = j) (g : Nat → Nat) : ∀ m, m ≤ n → sm13 (fun i => g (f i)) m = sm13 (fun y => if ∃ k, k < m ∧ f k = y then g y else 0) n
  | 0, _ => by
    exact (sm13_zero n).symm.trans (sm13_congr fun y _ => (if_neg (by rintro ⟨k, hk, _⟩; omega)).symm)
  | m + 1, hm => by
    have ih := sm13_moved hf hi g m (by omega)
    show sm13 (fun i => g (f i)) m + g (f m) = _
    rw [ih]
    have h1 := sm13_upd (f := fun y => if ∃ k, k < m + 1 ∧ f k = y then g y else 0) (g := fun y => if ∃ k, k < m ∧ f k = y then g y else 0) (j := f m) (n := n) (hf m (by omega)) (fun y _ hne => by
      have : (∃ k, k < m + 1 ∧ f k = y) ↔ (∃ k, k < m ∧ f k = y) := by
        constructor
        · rintro ⟨k, hk, he⟩
          by_cases c : k = m
          · subst c; exact absurd he.symm hne
          · exact ⟨k, by omega, he⟩
        · rintro ⟨k, hk, he⟩
          exact ⟨k, by omega, he⟩
      show (if ∃ k, k < m + 1 ∧ f k = y then g y else 0) = (if ∃ k, k < m ∧ f k = y then g y else 0)
      simp only [this])
    have e1 : (if ∃ k, k < m + 1 ∧ f k = f m then g (f m) else 0) = g (f m) := if_pos ⟨m, by omega, rfl⟩
    have e2 : (if ∃ k, k < m ∧ f k = f m then g (f m) else 0) = 0 := if_neg (by rintro ⟨k, hk, he⟩; have := hi k m (by omega) (by omega) he; omega)
    have h1' : sm13 (fun y => if ∃ k, k < m + 1 ∧ f k = y then g y else 0) n + (if ∃ k, k < m ∧ f k = f m then g (f m) else 0) = sm13 (fun y => if ∃ k, k < m ∧ f k = y then g y else 0) n + (if ∃ k, k < m + 1 ∧ f k = f m then g (f m) else 0) := h1
    rw [e1, e2] at h1'
    omega
theorem sm13_move {f : Nat → Nat} {n : Nat} (hf : ∀ k, k < n → f k < n) (hi : ∀ i j, i < n → j < n → f i = f j → i = j) (g : Nat → Nat) : sm13 (fun i => g (f i)) n = sm13 g n := by
  rw [sm13_moved hf hi g n (Nat.le_refl _)]
  exact sm13_congr fun y hy => if_pos (onto13 hf hi hy)
theorem sm13_id : ∀ n, 2 * sm13 (fun i => i) n + n = n * n
  | 0 => rfl
  | n + 1 => by
    have := sm13_id n
    show 2 * (sm13 (fun i => i) n + n) + (n + 1) = (n + 1) * (n + 1)
    have e : (n + 1) * (n + 1) = n * n + n + n + 1 := by rw [Nat.mul_add, Nat.mul_one, Nat.add_mul, Nat.one_mul]; omega
    rw [e]
    omega
theorem ks13_sum {z : List Int} {A : List Nat} (hA : Ar12 z.length (S12 z) A) : ∀ r, r ≤ z.length → ks13 z A r + sm13 (lv13 z A) r + sm13 (fun q => A.getD q 0) r = r * z.length
  | 0, _ => by simp [ks13, sm13]
  | r + 1, hr => by
    have ih := ks13_sum hA r (by omega)
    have h1 := lv13_lt hA (r := r) (by omega)
    have h2 := hA.get (r := r) (by omega)
    show ks13 z A r + fr13 z A r + (sm13 (lv13 z A) r + lv13 z A r) + (sm13 (fun q => A.getD q 0) r + A.getD r 0) = (r + 1) * z.length
    rw [Nat.add_mul, Nat.one_mul, ← ih]
    unfold fr13
    omega
/-- How many unlike texts there are. -/
theorem ks13_all {z : List Int} {A : List Nat} (hA : Ar12 z.length (S12 z) A) : 2 * (ks13 z A z.length + sm13 (lv13 z A) z.length) = z.length * (z.length + 1) := by
  have h1 := ks13_sum hA z.length (Nat.le_refl _)
  have h2 := sm13_move (f := fun q => A.getD q 0) (n := z.length) (fun k hk => hA.get hk) (fun i j hi hj e => by
    have a1 := hA.rk_at hi
    have a2 := hA.rk_at hj
    have e' : A.getD i 0 = A.getD j 0 := e
    rw [e', a2] at a1
    exact a1.symm) (fun i => i)
  have h3 := sm13_id z.length
  have h2' : sm13 (fun q => A.getD q 0) z.length = sm13 (fun i => i) z.length := h2
  have e : z.length * (z.length + 1) = z.length * z.length + z.length := by rw [Nat.mul_add, Nat.mul_one]
  rw [e]
  omega
end Go.Proofs.Ytkpfailmmcelcaa

namespace Go.Proofs.Ytkpfailmmcelcaa
set_option linter.unusedVariables false

/-! How many unlike texts there are, place by place (layer 14), as mathematics. -/
def adj14 (z : List Int) : List Nat → Nat
  | a :: b :: l => lc13 (z.drop a) (z.drop b) + adj14 z (b :: l)
  | _ => 0
open Classical in
noncomputable def ins14 (z : List Int) (i : Nat) : List Nat → List Nat
  | [] => [i]
  | a :: l => if LL12 (z.drop i) (z.drop a) then i :: a :: l else a :: ins14 z i l
def mxl14 (z : List Int) (i : Nat) : List Nat → Nat
  | [] => 0
  | a :: l => max (lc13 (z.drop a) (z.drop i)) (mxl14 z i l)
theorem mxl14_bd {z : List Int} {i M : Nat} : ∀ {l : List Nat}, (∀ b ∈ l, lc13 (z.drop b) (z.drop i) ≤ M) → mxl14 z i l ≤ M
  | [], _ => Nat.zero_le _
  | a :: l, h => by
    have h1 := h a (by simp)
    have h2 := mxl14_bd (l := l) (fun b hb => h b (by simp [hb]))
    show max _ _ ≤ M
    omega
theorem mxl14_ge {z : List Int} {i : Nat} : ∀ {l : List Nat} {b : Nat}, b ∈ l → lc13 (z.drop b) (z.drop i) ≤ mxl14 z i l
  | [], b, h => by cases h
  | a :: l, b, h => by
    show _ ≤ max _ _
    rcases List.mem_cons.1 h with rfl | h
    · omega
    · have := mxl14_ge (z := z) (i := i) (l := l) h
      omega
theorem mxl14_head {z : List Int} {i a : Nat} {l : List Nat} (hs : (a :: l).Pairwise (fun x y => LL12 (z.drop x) (z.drop y))) (h : LL12 (z.drop i) (z.drop a)) : mxl14 z i (a :: l) = lc13 (z.drop a) (z.drop i) := by
  have h2 : mxl14 z i l ≤ lc13 (z.drop a) (z.drop i) := mxl14_bd fun b hb => by
    have h3 := lc13_min h ((List.pairwise_cons.1 hs).1 b hb)
    rw [lc13_comm (z.drop b), lc13_comm (z.drop a)]
    omega
  show max _ _ = _
  omega
theorem adj14_ins {z : List Int} {i : Nat} : ∀ {l : List Nat} {a : Nat}, (a :: l).Pairwise (fun x y => LL12 (z.drop x) (z.drop y)) → LL12 (z.drop a) (z.drop i) → (∀ b ∈ l, LL12 (z.drop i) (z.drop b) ∨ LL12 (z.drop b) (z.drop i)) →
    adj14 z (a :: ins14 z i l) = adj14 z (a :: l) + mxl14 z i (a :: l)
  | [], a, hs, h, ht => by simp [ins14, adj14, mxl14]
  | b :: l, a, hs, h, ht => by
    have hs2 := (List.pairwise_cons.1 hs).2
    have hab := (List.pairwise_cons.1 hs).1 b (by simp)
    unfold ins14
    by_cases c : LL12 (z.drop i) (z.drop b)
    · rw [if_pos c]
      have e1 := mxl14_head hs2 c
      have e2 := lc13_min h c
      show lc13 _ _ + (lc13 _ _ + adj14 z (b :: l)) = lc13 _ _ + adj14 z (b :: l) + max _ (mxl14 z i (b :: l))
      rw [e1, e2, lc13_comm (z.drop b) (z.drop i)]
      omega
    · rw [if_neg c]
      have hbi : LL12 (z.drop b) (z.drop i) := by rcases ht b (by simp) with k | k; exact absurd k c; exact k
      have ih := adj14_ins (l := l) (a := b) hs2 hbi (fun x hx => ht x (by simp [hx]))
      have e2 := lc13_min hab hbi
      have e3 : lc13 (z.drop b) (z.drop i) ≤ mxl14 z i (b :: l) := mxl14_ge (by simp)
      show lc13 _ _ + adj14 z (b :: ins14 z i l) = lc13 _ _ + adj14 z (b :: l) + max _ (mxl14 z i (b :: l))
      rw [ih]
      omega
theorem adj14_all {z : List Int} {i : Nat} : ∀ {l : List Nat}, l.Pairwise (fun x y => LL12 (z.drop x) (z.drop y)) → (∀ b ∈ l, LL12 (z.drop i) (z.drop b) ∨ LL12 (z.drop b) (z.drop i)) →
    adj14 z (ins14 z i l) = adj14 z l + mxl14 z i l
  | [], _, _ => by simp [ins14, adj14, mxl14]
  | a :: l, hs, ht => by
    by_cases c : LL12 (z.drop i) (z.drop a)
    · have e1 := mxl14_head hs c
      unfold ins14
      rw [if_pos c, e1]
      show lc13 _ _ + adj14 z (a :: l) = _
      rw [lc13_comm]
      omega
    · have hai : LL12 (z.drop a) (z.drop i) := by rcases ht a (by simp) with k | k; exact absurd k c; exact k
      have := adj14_ins hs hai (fun x hx => ht x (by simp [hx]))
      unfold ins14
      rw [if_neg c]
      exact this
theorem ins14_mem {z : List Int} {i x : Nat} : ∀ {l : List Nat}, x ∈ ins14 z i l ↔ x = i ∨ x ∈ l
  | [] => by simp [ins14]
  | a :: l => by
    unfold ins14
    split
    · simp
    · rw [List.mem_cons, ins14_mem (l := l), List.mem_cons]
      constructor
      · rintro (h | h | h)
        · exact Or.inr (Or.inl h)
        · exact Or.inl h
        · exact Or.inr (Or.inr h)
      · rintro (h | h | h)
        · exact Or.inr (Or.inl h)
        · exact Or.inl h
        · exact Or.inr (Or.inr h)
theorem ins14_len {z : List Int} {i : Nat} : ∀ {l : List Nat}, (ins14 z i l).length = l.length + 1
  | [] => rfl
  | a :: l => by
    unfold ins14
    split
    · rfl
    · rw [List.length_cons, ins14_len (l := l), List.length_cons]
theorem ins14_so {z : List Int} {i : Nat} : ∀ {l : List Nat}, l.Pairwise (fun x y => LL12 (z.drop x) (z.drop y)) → (∀ b ∈ l, LL12 (z.drop i) (z.drop b) ∨ LL12 (z.drop b) (z.drop i)) → (ins14 z i l).Pairwise (fun x y => LL12 (z.drop x) (z.drop y))
  | [], _, _ => by simp [ins14]
  | a :: l, hs, ht => by
    unfold ins14
    split
    · next c =>
      refine List.pairwise_cons.2 ⟨fun b hb => ?_, hs⟩
      rcases List.mem_cons.1 hb with rfl | hb
      · exact c
      · exact c.trans ((List.pairwise_cons.1 hs).1 b hb)
    · next c =>
      have hai : LL12 (z.drop a) (z.drop i) := by rcases ht a (by simp) with k | k; exact absurd k c; exact k
      refine List.pairwise_cons.2 ⟨fun b hb => ?_, ins14_so (List.pairwise_cons.1 hs).2 (fun x hx => ht x (by simp [hx]))⟩
      rcases ins14_mem.1 hb with rfl | hb
      · exact hai
      · exact (List.pairwise_cons.1 hs).1 b hb
theorem drops14 {z : List Int} {i b : Nat} (hi : i < z.length) (hb : b < i) : LL12 (z.drop i) (z.drop b) ∨ LL12 (z.drop b) (z.drop i) := by
  rcases ll_total13 (z.drop i) (z.drop b) with h | h | h
  · have := congrArg List.length h
    rw [List.length_drop, List.length_drop] at this
    omega
  · exact Or.inl h
  · exact Or.inr h
noncomputable def srt14 (z : List Int) : Nat → List Nat
  | 0 => []
  | m + 1 => ins14 z m (srt14 z m)
theorem srt14_mem {z : List Int} {x : Nat} : ∀ {m : Nat}, x ∈ srt14 z m ↔ x < m
  | 0 => by simp [srt14]
  | m + 1 => by
    show x ∈ ins14 z m (srt14 z m) ↔ _
    rw [ins14_mem, srt14_mem (m := m)]
    omega
theorem srt14_len {z : List Int} : ∀ {m : Nat}, (srt14 z m).length = m
  | 0 => rfl
  | m + 1 => by
    show (ins14 z m (srt14 z m)).length = _
    rw [ins14_len, srt14_len]
theorem srt14_so {z : List Int} : ∀ {m : Nat}, m ≤ z.length → (srt14 z m).Pairwise (fun x y => LL12 (z.drop x) (z.drop y))
  | 0, _ => List.Pairwise.nil
  | m + 1, h => ins14_so (srt14_so (m := m) (by omega)) (fun b hb => drops14 (by omega) (srt14_mem.1 hb))
theorem srt14_ar {z : List Int} : Ar12 z.length (S12 z) (srt14 z z.length) :=
  ⟨srt14_len, fun j hj => srt14_mem.1 hj, fun j hj => srt14_mem.2 hj, (srt14_so (Nat.le_refl _)).imp fun {x y} h => ll_ls13 _ x y (Nat.le_add_left _ _) h⟩
theorem mxl14_mp {z : List Int} {i : Nat} : mxl14 z i (srt14 z i) = mp14 z (z.drop i) i := by
  apply Nat.le_antisymm
  · exact mxl14_bd fun b hb => mp14_ge z (z.drop i) (srt14_mem.1 hb)
  · rcases mp14_has z (z.drop i) i with h | ⟨k, hk, h⟩
    · omega
    · rw [← h]
      exact mxl14_ge (srt14_mem.2 hk)
theorem adj14_sum {z : List Int} : ∀ m, m ≤ z.length → adj14 z (srt14 z m) = sm13 (fun i => mp14 z (z.drop i) i) m
  | 0, _ => rfl
  | m + 1, h => by
    show adj14 z (ins14 z m (srt14 z m)) = sm13 _ m + mp14 z (z.drop m) m
    rw [adj14_all (srt14_so (by omega)) (fun b hb => drops14 (by omega) (srt14_mem.1 hb)), adj14_sum m (by omega), mxl14_mp]
theorem sm13_shift (g : Nat → Nat) : ∀ k, sm13 g (k + 1) = g 0 + sm13 (fun r => g (r + 1)) k
  | 0 => by show 0 + g 0 = g 0 + 0; omega
  | k + 1 => by
    show sm13 g (k + 1) + g (k + 1) = g 0 + (sm13 (fun r => g (r + 1)) k + g (k + 1))
    rw [sm13_shift g k]
    omega
theorem adj14_lv {z : List Int} : ∀ (l : List Nat), adj14 z l = sm13 (fun r => lc13 (z.drop (l.getD (r + 1) 0)) (z.drop (l.getD r 0))) (l.length - 1)
  | [] => rfl
  | [a] => rfl
  | a :: b :: l => by
    show lc13 _ _ + adj14 z (b :: l) = sm13 _ (l.length + 1)
    rw [sm13_shift, adj14_lv (b :: l), lc13_comm]
    rfl
theorem adj14_ar {z : List Int} {A : List Nat} (hA : Ar12 z.length (S12 z) A) : adj14 z A = sm13 (lv13 z A) z.length := by
  rw [adj14_lv, hA.len]
  cases hn : z.length with
  | zero => rfl
  | succ k =>
    rw [sm13_shift]
    show sm13 _ k = 0 + _
    rw [Nat.zero_add]
    refine sm13_congr fun r hr => ?_
    unfold lv13
    rw [if_neg (by omega)]
    rfl
/-- The sum, place by place. -/
def ds14 (z : List Int) (k : Nat) : Nat := sm13 (fun i => z.length - i - mp14 z (z.drop i) i) k
theorem ds14_sum {z : List Int} : ∀ k, k ≤ z.length → ds14 z k + sm13 (fun i => mp14 z (z.drop i) i) k + sm13 (fun i => i) k = k * z.length
  | 0, _ => by simp [ds14, sm13]
  | k + 1, h => by
    have ih := ds14_sum (z := z) k (by omega)
    have h1 := mp14_le z (z.drop k) k
    rw [List.length_drop] at h1
    show ds14 z k + (z.length - k - mp14 z (z.drop k) k) + (sm13 _ k + mp14 z (z.drop k) k) + (sm13 _ k + k) = (k + 1) * z.length
    rw [Nat.add_mul, Nat.one_mul, ← ih]
    omega
theorem ds14_all {z : List Int} {A : List Nat} (hA : Ar12 z.length (S12 z) A) : ds14 z z.length = ks13 z A z.length := by
  have h1 := ds14_sum (z := z) z.length (Nat.le_refl _)
  have h2 := ks13_sum hA z.length (Nat.le_refl _)
  have h3 := adj14_sum (z := z) z.length (Nat.le_refl _)
  have h4 : sm13 (fun q => A.getD q 0) z.length = sm13 (fun i => i) z.length :=
    sm13_move (f := fun q => A.getD q 0) (n := z.length) (fun k hk => hA.get hk) (fun i j hi hj e => hA.inj hi hj e) (fun i => i)
  have h5 := adj14_ar hA
  have h6 : srt14 z z.length = A := srt14_ar.unique hA
  rw [h6, h5] at h3
  omega
theorem ds14_le (z : List Int) : ∀ k, ds14 z k ≤ k * z.length
  | 0 => by simp [ds14, sm13]
  | k + 1 => by
    have := ds14_le z k
    show ds14 z k + (z.length - k - mp14 z (z.drop k) k) ≤ (k + 1) * z.length
    rw [Nat.add_mul, Nat.one_mul]
    omega
/-- What is left of all texts once so many neighbours are taken off. -/
def dt14 (z : List Int) (A : List Nat) (r : Nat) : Nat := ks13 z A z.length + (sm13 (lv13 z A) z.length - sm13 (lv13 z A) r)
theorem sm13_mono (g : Nat → Nat) {r q : Nat} (h : r ≤ q) : sm13 g r ≤ sm13 g q := by
  induction q with
  | zero => have : r = 0 := by omega
            subst this; exact Nat.le_refl _
  | succ q ih =>
    by_cases c : r = q + 1
    · subst c; exact Nat.le_refl _
    · have := ih (by omega)
      show _ ≤ sm13 g q + g q
      omega
theorem dt14_step {z : List Int} {A : List Nat} {r : Nat} (h : r < z.length) : dt14 z A (r + 1) + lv13 z A r = dt14 z A r := by
  have h1 := sm13_mono (lv13 z A) (r := r + 1) (q := z.length) h
  have e : sm13 (lv13 z A) (r + 1) = sm13 (lv13 z A) r + lv13 z A r := rfl
  unfold dt14
  omega
theorem dt14_end (z : List Int) (A : List Nat) : dt14 z A z.length = ks13 z A z.length := by unfold dt14; omega
theorem dt14_zero {z : List Int} {A : List Nat} (hA : Ar12 z.length (S12 z) A) : 2 * dt14 z A 0 = z.length * (z.length + 1) := by
  have h := ks13_all hA
  have e : sm13 (lv13 z A) 0 = 0 := rfl
  unfold dt14
  rw [e]
  omega
theorem dt14_le (z : List Int) (A : List Nat) (r : Nat) : dt14 z A r ≤ dt14 z A 0 := by
  have e : sm13 (lv13 z A) 0 = 0 := rfl
  unfold dt14
  rw [e]
  omega
end Go.Proofs.Ytkpfailmmcelcaa

namespace Go.Proofs.Ytkpfailmmcelcaa
open Go.RowKit
set_option linter.unusedVariables false

/-! Distinct: the landed one, the document's; the document's common. -/
set_option maxRecDepth 100000 in
set_option maxHeartbeats 2000000 in
theorem rcomm14 (da : Option Addr) (z : List Int) (n dc : Nat) (pa : Option Addr) (p : List Int) (m pc : Nat) (at_ : Nat) (w : World) (hs : Seg w da z) (hp : Seg w pa p) (hn : Hid (z.length = n)) (hm : Hid (p.length = m)) (hb : n ≤ 140737488351232) (hb2 : m ≤ 140737488351232) (hat : at_ ≤ n) :
    Calls Try.prog 30 #[.slice da n dc, .slice pa m pc, .int .i64 (at_ : Int)] w fun e w' => e = .returned (.int .i64 ((lc13 (z.drop at_) p : Nat) : Int)) ∧ ∃ d, w' = w.drewN d := by
  have KEY : Hid (∀ wr, (∃ d, wr = w.drewN d) → Seg wr da z ∧ Seg wr pa p) := by
    rintro wr ⟨d, rfl⟩
    exact ⟨hs.drewN d, hp.drewN d⟩
  have HL : Hid (lc13 (z.drop at_) p ≤ m ∧ lc13 (z.drop at_) p ≤ n - at_) := ⟨by rw [← hm.out]; exact lc13_le' _ _, by rw [← hn.out, ← List.length_drop]; exact lc13_le _ _⟩
  have HMO : Hid (∀ i, i ≤ lc13 (z.drop at_) p → i < m → at_ + i < n → z.getD (at_ + i) 0 = p.getD i 0 → i + 1 ≤ lc13 (z.drop at_) p) := fun i h1 h2 h3 h4 => (cv_at14 hn.out hm.out hat h1 h2).2.1 h3 h4
  have HSP : Hid (∀ i, i ≤ lc13 (z.drop at_) p → ¬ z.getD (at_ + i) 0 = p.getD i 0 → lc13 (z.drop at_) p = i) := fun i h1 h4 => lc13_stop h1 (by rw [drop_get14]; exact h4)
  clear hs hp
  generalize lc13 (z.drop at_) p = lc at *
  go_enter Try.func30, Try.ntmps30
  go_wp2_with fail
  go_loopw [7] (fun ti wr => ∃ i : Nat, Hid (i ≤ lc) ∧ ti = .int .i64 i ∧ ∃ d, wr = w.drewN d) (fun ti _ => m - (intOf ti).toNat)
  case atStart => exact ⟨0, Nat.zero_le _, rfl, 0, rfl⟩
  case round =>
    obtain ⟨i, HI, rfl, hd⟩ := hrel
    obtain ⟨sx, sy⟩ := KEY.out wr hd
    obtain ⟨d, hd⟩ := hd
    have HD : Hid (wr = w.drewN d) := hd
    clear hd
    have hib : i ≤ m := by have := HL.out; have := HI.out; omega
    by_cases h1 : i < m
    · have h1i : (i : Int) < (m : Int) := by omega
      obtain ⟨s, hsm⟩ : ∃ s, s = at_ + i := ⟨_, rfl⟩
      have hsi : (at_ : Int) + (i : Int) = (s : Int) := by omega
      have hsw : IntKind.i64.wrap ((at_ : Int) + (i : Int)) = (s : Int) := by rw [hsi]; exact IntWalk.i64_in _ (by omega)
      by_cases h2 : s < n
      · have h2j : (s : Int) < (n : Int) := by omega
        obtain ⟨b1, o1, rfl, c1⟩ := sx.at_ s (by rw [hn.out]; omega)
        obtain ⟨b2, o2, rfl, c2⟩ := sy.at_ i (by rw [hm.out]; omega)
        have v1 := sx.bd s
        have v2 := sy.bd i
        have HEQ : Hid (z.getD s 0 = p.getD i 0 → i + 1 ≤ lc) := fun h => HMO.out i HI.out h1 (by omega) (by rw [← hsm]; exact h)
        have HNE : Hid (¬ z.getD s 0 = p.getD i 0 → lc = i) := fun h => HSP.out i HI.out (by rw [← hsm]; exact h)
        clear sx sy hsm
        generalize z.getD s 0 = x at *
        generalize p.getD i 0 = y at *
        have g1 : decide ((i : Int) < (m : Int)) = true := decide_eq_true h1i
        have g2 : decide ((s : Int) < (n : Int)) = true := decide_eq_true h2j
        by_cases hxy : x = y
        · subst hxy
          have HEQ2 : Hid (i + 1 ≤ lc) := HEQ.out rfl
          clear HEQ HNE
          go_wp2_with fail
          go_quiet (fail)
          go_wp2_with fail
          go_roundw
          case rel => exact ⟨i + 1, HEQ2, by go_num, d + nq, by rw [HD.out, drewN14]⟩
          case measure => simp [intOf]; omega
        · have HNE2 : Hid (lc = i) := HNE.out hxy
          have g3 : (x == y) = false := beq_eq_false_iff_ne.2 hxy
          clear HEQ HNE
          go_wp2_with fail
          go_quiet (fail)
          go_wp2_with fail
          go_ret
          exact ⟨by rw [HNE2.out]; rfl, d + nq, by rw [HD.out, drewN14]⟩
      · have h2j : ¬ (s : Int) < (n : Int) := by omega
        have g1 : decide ((i : Int) < (m : Int)) = true := decide_eq_true h1i
        have g2 : decide ((s : Int) < (n : Int)) = false := decide_eq_false h2j
        have HNE2 : Hid (lc = i) := by show _ = _; have := HL.out; have := HI.out; omega
        clear hsm
        go_wp2_with fail
        go_quiet (fail)
        go_wp2_with fail
        go_ret
        exact ⟨by rw [HNE2.out]; rfl, d + nq, by rw [HD.out, drewN14]⟩
    · have h1i : ¬ (i : Int) < (m : Int) := by omega
      have g1 : decide ((i : Int) < (m : Int)) = false := decide_eq_false h1i
      have HNE2 : Hid (lc = i) := by show _ = _; have := HL.out; have := HI.out; omega
      go_wp2_with fail
      go_quiet (fail)
      go_wp2_with fail
      go_ret
      exact ⟨by rw [HNE2.out]; rfl, d + nq, by rw [HD.out, drewN14]⟩
end Go.Proofs.Ytkpfailmmcelcaa
