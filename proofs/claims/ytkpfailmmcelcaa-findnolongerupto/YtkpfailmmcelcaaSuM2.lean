
import Derived.Test.YtkpfailmmcelcaaSuM1
import Derived.Lib.Bytes
namespace Go.Proofs.Ytkpfailmmcelcaa
set_option linter.unusedVariables false

/-! Strings by their order; the order by counting (layer 13), as mathematics. -/
theorem u8_lt13 {x y : Int} (hx : 0 ≤ x ∧ x ≤ 255) (hy : 0 ≤ y ∧ y ≤ 255) : UInt8.ofNat x.toNat < UInt8.ofNat y.toNat ↔ x < y := by
  rw [UInt8.lt_iff_toNat_lt, UInt8.toNat_ofNat', UInt8.toNat_ofNat']
  rw [Nat.mod_eq_of_lt (by omega), Nat.mod_eq_of_lt (by omega)]
  omega
theorem u8_eq13 {x y : Int} (hx : 0 ≤ x ∧ x ≤ 255) (hy : 0 ≤ y ∧ y ≤ 255) : UInt8.ofNat x.toNat = UInt8.ofNat y.toNat ↔ x = y := by
  constructor
  · intro h
    have := congrArg UInt8.toNat h
    rw [UInt8.toNat_ofNat', UInt8.toNat_ofNat', Nat.mod_eq_of_lt (by omega), Nat.mod_eq_of_lt (by omega)] at this
    omega
  · intro h; rw [h]
theorem bl13 : ∀ (a b : List Int), (∀ y ∈ a, 0 ≤ y ∧ y ≤ 255) → (∀ y ∈ b, 0 ≤ y ∧ y ≤ 255) → (Op.bytesLess (Lib.bytesOf a) (Lib.bytesOf b) = true ↔ LL12 a b)
  | [], [], _, _ => ⟨fun h => by simp [Lib.bytesOf, Op.bytesLess] at h, fun h => h.no.elim⟩
  | _ :: _, [], _, _ => ⟨fun h => by simp [Lib.bytesOf, Op.bytesLess] at h, fun h => h.no.elim⟩
  | [], _ :: _, _, _ => ⟨fun _ => .nil, fun _ => by simp [Lib.bytesOf, Op.bytesLess]⟩
  | x :: a, y :: b, ha, hb => by
    have hx := ha x (by simp)
    have hy := hb y (by simp)
    have ih := bl13 a b (fun z hz => ha z (by simp [hz])) (fun z hz => hb z (by simp [hz]))
    have e : Op.bytesLess (Lib.bytesOf (x :: a)) (Lib.bytesOf (y :: b)) = (decide (UInt8.ofNat x.toNat < UInt8.ofNat y.toNat) || (UInt8.ofNat x.toNat == UInt8.ofNat y.toNat && Op.bytesLess (Lib.bytesOf a) (Lib.bytesOf b))) := rfl
    rw [e, Bool.or_eq_true, decide_eq_true_eq, Bool.and_eq_true, beq_iff_eq, u8_lt13 hx hy, u8_eq13 hx hy, ih]
    constructor
    · rintro (h | ⟨rfl, h⟩)
      · exact .lt h
      · exact .eq h
    · intro h
      exact h.inv
theorem sl13 {a b : List Int} (ha : ∀ y ∈ a, 0 ≤ y ∧ y ≤ 255) (hb : ∀ y ∈ b, 0 ≤ y ∧ y ≤ 255) (h : LL12 a b) : Op.bytesLess (strOfNums a).toList (strOfNums b).toList = true := by
  rw [Lib.strOfNums_toList, Lib.strOfNums_toList]
  exact (bl13 a b ha hb).2 h
theorem sln13 {a b : List Int} (ha : ∀ y ∈ a, 0 ≤ y ∧ y ≤ 255) (hb : ∀ y ∈ b, 0 ≤ y ∧ y ≤ 255) (h : ¬ LL12 a b) : Op.bytesLess (strOfNums a).toList (strOfNums b).toList = false := by
  rw [Lib.strOfNums_toList, Lib.strOfNums_toList]
  exact Bool.eq_false_iff.2 fun k => h ((bl13 a b ha hb).1 k)
/-- How many of the first suffixes are less than a suffix. -/
noncomputable def ct13 (z : List Int) (i k : Nat) : Nat := cn12 (fun j => LL12 (z.drop j) (z.drop i)) k
theorem ct13_yes {z : List Int} {i k : Nat} (h : LL12 (z.drop k) (z.drop i)) : ct13 z i (k + 1) = ct13 z i k + 1 := by
  unfold ct13
  show cn12 _ k + _ = _
  rw [if_pos h]
theorem ct13_no {z : List Int} {i k : Nat} (h : ¬ LL12 (z.drop k) (z.drop i)) : ct13 z i (k + 1) = ct13 z i k := by
  unfold ct13
  show cn12 _ k + _ = _
  rw [if_neg h]
  rfl
theorem ct13_le (z : List Int) (i : Nat) : ∀ k, ct13 z i k ≤ k
  | 0 => Nat.le_refl _
  | k + 1 => by
    have := ct13_le z i k
    by_cases h : LL12 (z.drop k) (z.drop i)
    · rw [ct13_yes h]; omega
    · rw [ct13_no h]; omega
theorem take13 {n : Nat} {S : Nat → Int} {A : List Nat} (h : Ar12 n S A) : ∀ r, r ≤ n → cn12 (fun j => j ∈ A.take r) n = r
  | 0, _ => cn12_none fun i _ => by simp
  | r + 1, hr => by
    have hl : r < A.length := by rw [h.len]; omega
    have e : A.take (r + 1) = A.take r ++ [A.getD r 0] := by rw [List.take_add_one]; simp [List.getD, hl]
    have h1 := take13 h r (by omega)
    have h2 := cn12_upd (P := fun j => j ∈ A.take r) (Q := fun j => j ∈ A.take (r + 1)) (n := n) (j := A.getD r 0) (h.get (by omega)) (fun hm => by
      obtain ⟨q, hq, e2⟩ := List.mem_iff_getElem.1 hm
      rw [List.length_take] at hq
      rw [List.getElem_take] at e2
      have hq2 : q < A.length := by omega
      have e3 : A.getD q 0 = A.getD r 0 := by rw [← e2]; simp [List.getD, hq2]
      have := h.inj (r := q) (q := r) (by omega) (by omega) e3
      omega) (fun i _ => by rw [e]; simp)
    rw [h2, h1]
theorem ct13_rk {z : List Int} {A : List Nat} (h : Ar12 z.length (S12 z) A) {i : Nat} (hi : i < z.length) : ct13 z i z.length = rk13 A i := by
  obtain ⟨h1, h2⟩ := h.rk hi
  rw [← take13 h (rk13 A i) (by omega)]
  unfold ct13
  refine cn12_congr fun j hj => ?_
  obtain ⟨g1, g2⟩ := h.rk hj
  constructor
  · intro k
    have k2 := ll_ls13 _ j i (Nat.le_add_left _ _) k
    have hlt : rk13 A j < rk13 A i := by
      rcases Nat.lt_trichotomy (rk13 A j) (rk13 A i) with c | c | c
      · exact c
      · have : j = i := by rw [← g2, ← h2, c]
        rw [this] at k2; exact k2.irrefl.elim
      · have := h.pair c g1; rw [g2, h2] at this; exact (k2.asymm this).elim
    rw [List.mem_iff_getElem]
    have hl : rk13 A j < A.length := by rw [h.len]; exact g1
    refine ⟨rk13 A j, by rw [List.length_take]; omega, ?_⟩
    rw [List.getElem_take]
    have : A.getD (rk13 A j) 0 = A[rk13 A j] := by simp [List.getD, hl]
    rw [← this, g2]
  · intro k
    obtain ⟨q, hq, e2⟩ := List.mem_iff_getElem.1 k
    rw [List.length_take] at hq
    rw [List.getElem_take] at e2
    have hq2 : q < A.length := by omega
    have e3 : A.getD q 0 = j := by rw [← e2]; simp [List.getD, hq2]
    have := h.pair (r := q) (q := rk13 A i) (by omega) h1
    rw [e3, h2] at this
    exact ls_ll13 this
/-- The array, of which so many places are put in. -/
def ap13 (n : Nat) (A : List Nat) (k : Nat) : List Int := (List.range n).map fun r => if A.getD r 0 < k then ((A.getD r 0 : Nat) : Int) else 0
theorem ap13_len (n : Nat) (A : List Nat) (k : Nat) : (ap13 n A k).length = n := by simp [ap13]
theorem ap13_zero (n : Nat) (A : List Nat) : ap13 n A 0 = List.replicate n 0 := by
  refine List.ext_getElem (by simp [ap13]) fun i h1 h2 => ?_
  simp [ap13]
theorem ap13_all {n : Nat} {S : Nat → Int} {A : List Nat} (h : Ar12 n S A) : ap13 n A n = A.map (fun j : Nat => (j : Int)) := by
  refine List.ext_getElem (by simp [ap13, h.len]) fun i h1 h2 => ?_
  simp [ap13] at h1
  have hl : i < A.length := by rw [h.len]; exact h1
  have := h.get h1
  simp only [ap13, List.getElem_map, List.getElem_range]
  rw [if_pos this]
  simp [List.getD, hl]
theorem ap13_set {n : Nat} {S : Nat → Int} {A : List Nat} (h : Ar12 n S A) {j : Nat} (hj : j < n) : (ap13 n A j).set (rk13 A j) (j : Int) = ap13 n A (j + 1) := by
  obtain ⟨h1, h2⟩ := h.rk hj
  refine List.ext_getElem (by simp [ap13]) fun i h3 h4 => ?_
  simp [ap13] at h4
  rw [List.getElem_set]
  by_cases e : rk13 A j = i
  · rw [if_pos e]
    subst e
    simp only [ap13, List.getElem_map, List.getElem_range]
    rw [if_pos (by omega), h2]
  · rw [if_neg e]
    simp only [ap13, List.getElem_map, List.getElem_range]
    have : A.getD i 0 ≠ j := by
      intro c
      exact e (h.inj h1 h4 (by rw [h2, c]))
    by_cases c : A.getD i 0 < j
    · rw [if_pos c, if_pos (by omega)]
    · rw [if_neg c, if_neg (by omega)]
/-- What neighbours have in common, of which so many ranks are told. -/
def lq13 (z : List Int) (A : List Nat) (k : Nat) : List Int := (List.range z.length).map fun r => if r < k then ((lv13 z A r : Nat) : Int) else 0
theorem lq13_len (z : List Int) (A : List Nat) (k : Nat) : (lq13 z A k).length = z.length := by simp [lq13]
theorem lq13_one (z : List Int) (A : List Nat) : lq13 z A 1 = List.replicate z.length 0 := by
  refine List.ext_getElem (by simp [lq13]) fun i h1 h2 => ?_
  simp only [lq13, List.getElem_map, List.getElem_range, List.getElem_replicate]
  by_cases c : i < 1
  · rw [if_pos c]
    have : i = 0 := by omega
    subst this
    rfl
  · rw [if_neg c]
theorem lq13_all {z : List Int} {A : List Nat} {k : Nat} (h : z.length ≤ k) : lq13 z A k = lp13 z A := by
  refine List.ext_getElem (by simp [lq13, lp13]) fun i h1 h2 => ?_
  simp [lq13] at h1
  simp only [lq13, lp13, List.getElem_map, List.getElem_range]
  rw [if_pos (by omega)]
theorem lq13_set {z : List Int} {A : List Nat} {k : Nat} (h : k < z.length) : (lq13 z A k).set k ((lv13 z A k : Nat) : Int) = lq13 z A (k + 1) := by
  refine List.ext_getElem (by simp [lq13]) fun i h1 h2 => ?_
  simp only [lq13, List.getElem_set, List.getElem_map, List.getElem_range]
  by_cases c : k = i
  · subst c
    rw [if_pos rfl, if_pos (by omega)]
  · rw [if_neg c]
    by_cases d : i < k
    · rw [if_pos d, if_pos (by omega)]
    · rw [if_neg d, if_neg (by omega)]
end Go.Proofs.Ytkpfailmmcelcaa
