
import Derived.Test.YtoeabfcnfofbiaaDoorLnSeg
namespace Go.Proofs.YtoeabfcnfofbiaaDoor
set_option linter.unusedVariables false

/-! A row of numbers of which two change places; heaps. -/
def swp (zs : List Int) (i j : Nat) : List Int := (zs.set i (zs.getD j 0)).set j (zs.getD i 0)
theorem swp_len (zs : List Int) (i j : Nat) : (swp zs i j).length = zs.length := by simp [swp]
theorem swp_getD (zs : List Int) (i j k : Nat) (hi : i < zs.length) (hj : j < zs.length) : (swp zs i j).getD k 0 = if k = j then zs.getD i 0 else if k = i then zs.getD j 0 else zs.getD k 0 := by
  unfold swp
  simp only [List.getD, List.getElem?_set, List.length_set]
  by_cases h1 : j = k
  · subst h1; simp [hj]
  · have h1' : ¬ k = j := fun e => h1 e.symm
    by_cases h2 : i = k
    · subst h2; simp [h1, h1', hi]
    · have h2' : ¬ k = i := fun e => h2 e.symm
      simp [h1, h1', h2, h2']
theorem set_perm : ∀ (zs : List Int) (i : Nat) (x : Int), i < zs.length → (zs.getD i 0 :: zs.set i x).Perm (x :: zs)
  | [], _, _, h => by simp at h
  | z :: r, 0, x, _ => by simpa using List.Perm.swap x z r
  | z :: r, i + 1, x, h => by
    have := set_perm r i x (by simpa using h)
    simp only [List.getD_cons_succ, List.set_cons_succ]
    exact (List.Perm.swap z (r.getD i 0) (r.set i x)).trans ((this.cons z).trans (List.Perm.swap x z r))
theorem swp_perm (zs : List Int) (i j : Nat) (hi : i < zs.length) (hj : j < zs.length) : (swp zs i j).Perm zs := by
  unfold swp
  have h1 := set_perm zs i (zs.getD j 0) hi
  have h2 := set_perm (zs.set i (zs.getD j 0)) j (zs.getD i 0) (by simpa using hj)
  have h3 : (zs.set i (zs.getD j 0)).getD j 0 = zs.getD j 0 := by
    simp only [List.getD, List.getElem?_set]
    by_cases e : i = j
    · subst e; simp [hi]
    · simp [e]
  rw [h3] at h2
  exact (List.Perm.cons_inv (h2.trans h1))

def kid (q c : Nat) : Prop := c = 2 * q + 1 ∨ c = 2 * q + 2
/-- From lo on, no parent is greater than its children. -/
def hp (z : Nat → Int) (n lo : Nat) : Prop := ∀ q c, lo ≤ q → kid q c → c < n → z q ≤ z c
/-- .. but for the parent i, whose own parent is not greater than i's children. -/
def dn (z : Nat → Int) (n lo i : Nat) : Prop := (∀ q c, lo ≤ q → q ≠ i → kid q c → c < n → z q ≤ z c) ∧ ∀ q c, lo ≤ q → kid q i → kid i c → c < n → z q ≤ z c
theorem dn_start {z : Nat → Int} {n i : Nat} (h : hp z n (i + 1)) : dn z n i i :=
  ⟨fun q c hq hne hk hc => h q c (by omega) hk hc, fun q c hq hk => by unfold kid at hk; omega⟩
theorem dn_leaf {z : Nat → Int} {n lo i : Nat} (h : dn z n lo i) (hn : n ≤ 2 * i + 1) : hp z n lo := by
  intro q c hq hk hc
  by_cases e : q = i
  · subst e; unfold kid at hk; omega
  · exact h.1 q c hq e hk hc
theorem dn_stop {z : Nat → Int} {n lo i j : Nat} (h : dn z n lo i) (hj : ∀ c, kid i c → c < n → z j ≤ z c) (hs : ¬ z j < z i) : hp z n lo := by
  intro q c hq hk hc
  by_cases e : q = i
  · subst e; have := hj c hk hc; omega
  · exact h.1 q c hq e hk hc
theorem dn_step {z z' : Nat → Int} {n lo i j : Nat} (h : dn z n lo i) (hlo : lo ≤ i) (hk : kid i j) (hjn : j < n) (hj : ∀ c, kid i c → c < n → z j ≤ z c) (hs : z j < z i)
    (hz : ∀ k, z' k = if k = j then z i else if k = i then z j else z k) : dn z' n lo j := by
  have hij : i < j := by unfold kid at hk; omega
  constructor
  · intro q c hq hne hqc hc
    have hqlt : q < c := by unfold kid at hqc; omega
    rw [hz q, hz c, if_neg hne]
    by_cases e : q = i
    · subst e
      rw [if_pos rfl]
      by_cases e2 : c = j
      · rw [if_pos e2]; omega
      · rw [if_neg e2, if_neg (by omega)]; exact hj c hqc hc
    · rw [if_neg e]
      have e2 : c ≠ j := by
        rintro rfl
        unfold kid at hk hqc
        omega
      rw [if_neg e2]
      by_cases e3 : c = i
      · rw [if_pos e3]; subst e3; exact h.2 q j hq hqc hk hjn
      · rw [if_neg e3]; exact h.1 q c hq e hqc hc
  · intro q c hq hqj hjc hc
    have e : q = i := by unfold kid at hk hqj; omega
    subst e
    have hjc' : j < c := by unfold kid at hjc; omega
    rw [hz q, hz c, if_neg (by omega), if_pos rfl, if_neg (by omega), if_neg (by omega)]
    exact h.1 j c (by omega) (by omega) hjc hc
theorem hp_root {z : Nat → Int} {n : Nat} (h : hp z n 0) : ∀ i, i < n → z 0 ≤ z i := by
  intro i
  induction i using Nat.strongRecOn with
  | ind i ih =>
    intro hi
    by_cases e : i = 0
    · subst e; exact Int.le_refl _
    · have h1 := ih ((i - 1) / 2) (by omega) (by omega)
      have h2 := h ((i - 1) / 2) i (Nat.zero_le _) (by unfold kid; omega) hi
      omega
/-- All is well but for j against its parent. -/
def upI (z : Nat → Int) (n j : Nat) : Prop := (∀ q c, kid q c → c < n → c ≠ j → z q ≤ z c) ∧ ∀ q c, kid q j → kid j c → c < n → z q ≤ z c
theorem up_root {z : Nat → Int} {n : Nat} (h : upI z n 0) : hp z n 0 := by
  intro q c _ hk hc
  exact h.1 q c hk hc (by unfold kid at hk; omega)
theorem up_stop {z : Nat → Int} {n i j : Nat} (h : upI z n j) (hij : kid i j) (hs : ¬ z j < z i) : hp z n 0 := by
  intro q c _ hk hc
  by_cases e : c = j
  · subst e
    have : q = i := by unfold kid at hij hk; omega
    subst this
    omega
  · exact h.1 q c hk hc e
theorem up_step {z z' : Nat → Int} {n i j : Nat} (h : upI z n j) (hij : kid i j) (hjn : j < n) (hs : z j < z i) (hz : ∀ k, z' k = if k = j then z i else if k = i then z j else z k) : upI z' n i := by
  have hlt : i < j := by unfold kid at hij; omega
  constructor
  · intro q c hqc hc hne
    have hq : q < c := by unfold kid at hqc; omega
    rw [hz q, hz c]
    by_cases e : c = j
    · subst e
      have : q = i := by unfold kid at hij hqc; omega
      subst this
      rw [if_neg (by omega), if_pos rfl, if_pos rfl]; omega
    · rw [if_neg e, if_neg hne]
      by_cases e2 : q = j
      · subst e2; rw [if_pos rfl]; exact h.2 i c hij hqc hc
      · rw [if_neg e2]
        by_cases e3 : q = i
        · subst e3; rw [if_pos rfl]; have := h.1 q c hqc hc e; omega
        · rw [if_neg e3]; exact h.1 q c hqc hc e
  · intro q c hqi hic hc
    have hq : q < i := by unfold kid at hqi; omega
    have hcl : i < c := by unfold kid at hic; omega
    rw [hz q, hz c, if_neg (by omega), if_neg (by omega)]
    have h1 := h.1 q i hqi (by omega) (by omega)
    by_cases e : c = j
    · rw [if_pos e]; exact h1
    · rw [if_neg e, if_neg (by omega)]
      have := h.1 i c hic hc e
      omega
/-- One more at the end: all is well but for it. -/
theorem up_start {z z' : Nat → Int} {n : Nat} (h : hp z n 0) (hz : ∀ k, k < n → z' k = z k) : upI z' (n + 1) n := by
  constructor
  · intro q c hk hc hne
    have : q < c := by unfold kid at hk; omega
    rw [hz q (by omega), hz c (by omega)]
    exact h q c (Nat.zero_le _) hk (by omega)
  · intro q c hq hk hc
    unfold kid at hk; omega
theorem hp_cut {z z' : Nat → Int} {n m lo : Nat} (h : hp z n lo) (hm : m ≤ n) (hz : ∀ k, lo ≤ k → k < m → z' k = z k) : hp z' m lo := by
  intro q c hq hk hc
  have : q < c := by unfold kid at hk; omega
  rw [hz q hq (by omega), hz c (by omega) hc]
  exact h q c hq hk (by omega)
end Go.Proofs.YtoeabfcnfofbiaaDoor
