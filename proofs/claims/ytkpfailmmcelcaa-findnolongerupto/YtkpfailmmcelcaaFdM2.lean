
import Derived.Test.YtkpfailmmcelcaaFdM1
import Derived.Test.YtkpfailmmcelcaaSuM6
namespace Go.Proofs.Ytkpfailmmcelcaa
set_option linter.unusedVariables false

/-! How many unlike texts there are, place by place (layer 14), as mathematics. -/
def adj14 (z : List Int) : List Nat → Nat
  | a :: b :: l => lc13 (z.drop a) (z.drop b) + adj14 z (b :: l)
  | _ => 0
open Classical in
noncomputable def ins14 (z : List Int) (i : Nat) : List Nat → List Nat
  | [] => [i]
  | a :: l => if LL12 (z.drop i) (z.drop a) then i :: a :: l else a :: ins14 z i l
def mxl14 (z : List Int) (i : Nat) : List Nat → Nat
  | [] => 0
  | a :: l => max (lc13 (z.drop a) (z.drop i)) (mxl14 z i l)
theorem mxl14_bd {z : List Int} {i M : Nat} : ∀ {l : List Nat}, (∀ b ∈ l, lc13 (z.drop b) (z.drop i) ≤ M) → mxl14 z i l ≤ M
  | [], _ => Nat.zero_le _
  | a :: l, h => by
    have h1 := h a (by simp)
    have h2 := mxl14_bd (l := l) (fun b hb => h b (by simp [hb]))
    show max _ _ ≤ M
    omega
theorem mxl14_ge {z : List Int} {i : Nat} : ∀ {l : List Nat} {b : Nat}, b ∈ l → lc13 (z.drop b) (z.drop i) ≤ mxl14 z i l
  | [], b, h => by cases h
  | a :: l, b, h => by
    show _ ≤ max _ _
    rcases List.mem_cons.1 h with rfl | h
    · omega
    · have := mxl14_ge (z := z) (i := i) (l := l) h
      omega
theorem mxl14_head {z : List Int} {i a : Nat} {l : List Nat} (hs : (a :: l).Pairwise (fun x y => LL12 (z.drop x) (z.drop y))) (h : LL12 (z.drop i) (z.drop a)) : mxl14 z i (a :: l) = lc13 (z.drop a) (z.drop i) := by
  have h2 : mxl14 z i l ≤ lc13 (z.drop a) (z.drop i) := mxl14_bd fun b hb => by
    have h3 := lc13_min h ((List.pairwise_cons.1 hs).1 b hb)
    rw [lc13_comm (z.drop b), lc13_comm (z.drop a)]
    omega
  show max _ _ = _
  omega
theorem adj14_ins {z : List Int} {i : Nat} : ∀ {l : List Nat} {a : Nat}, (a :: l).Pairwise (fun x y => LL12 (z.drop x) (z.drop y)) → LL12 (z.drop a) (z.drop i) → (∀ b ∈ l, LL12 (z.drop i) (z.drop b) ∨ LL12 (z.drop b) (z.drop i)) →
    adj14 z (a :: ins14 z i l) = adj14 z (a :: l) + mxl14 z i (a :: l)
  | [], a, hs, h, ht => by simp [ins14, adj14, mxl14]
  | b :: l, a, hs, h, ht => by
    have hs2 := (List.pairwise_cons.1 hs).2
    have hab := (List.pairwise_cons.1 hs).1 b (by simp)
    unfold ins14
    by_cases c : LL12 (z.drop i) (z.drop b)
    · rw [if_pos c]
      have e1 := mxl14_head hs2 c
      have e2 := lc13_min h c
      show lc13 _ _ + (lc13 _ _ + adj14 z (b :: l)) = lc13 _ _ + adj14 z (b :: l) + max _ (mxl14 z i (b :: l))
      rw [e1, e2, lc13_comm (z.drop b) (z.drop i)]
      omega
    · rw [if_neg c]
      have hbi : LL12 (z.drop b) (z.drop i) := by rcases ht b (by simp) with k | k; exact absurd k c; exact k
      have ih := adj14_ins (l := l) (a := b) hs2 hbi (fun x hx => ht x (by simp [hx]))
      have e2 := lc13_min hab hbi
      have e3 : lc13 (z.drop b) (z.drop i) ≤ mxl14 z i (b :: l) := mxl14_ge (by simp)
      show lc13 _ _ + adj14 z (b :: ins14 z i l) = lc13 _ _ + adj14 z (b :: l) + max _ (mxl14 z i (b :: l))
      rw [ih]
      omega
theorem adj14_all {z : List Int} {i : Nat} : ∀ {l : List Nat}, l.Pairwise (fun x y => LL12 (z.drop x) (z.drop y)) → (∀ b ∈ l, LL12 (z.drop i) (z.drop b) ∨ LL12 (z.drop b) (z.drop i)) →
    adj14 z (ins14 z i l) = adj14 z l + mxl14 z i l
  | [], _, _ => by simp [ins14, adj14, mxl14]
  | a :: l, hs, ht => by
    by_cases c : LL12 (z.drop i) (z.drop a)
    · have e1 := mxl14_head hs c
      unfold ins14
      rw [if_pos c, e1]
      show lc13 _ _ + adj14 z (a :: l) = _
      rw [lc13_comm]
      omega
    · have hai : LL12 (z.drop a) (z.drop i) := by rcases ht a (by simp) with k | k; exact absurd k c; exact k
      have := adj14_ins hs hai (fun x hx => ht x (by simp [hx]))
      unfold ins14
      rw [if_neg c]
      exact this
theorem ins14_mem {z : List Int} {i x : Nat} : ∀ {l : List Nat}, x ∈ ins14 z i l ↔ x = i ∨ x ∈ l
  | [] => by simp [ins14]
  | a :: l => by
    unfold ins14
    split
    · simp
    · rw [List.mem_cons, ins14_mem (l := l), List.mem_cons]
      constructor
      · rintro (h | h | h)
        · exact Or.inr (Or.inl h)
        · exact Or.inl h
        · exact Or.inr (Or.inr h)
      · rintro (h | h | h)
        · exact Or.inr (Or.inl h)
        · exact Or.inl h
        · exact Or.inr (Or.inr h)
theorem ins14_len {z : List Int} {i : Nat} : ∀ {l : List Nat}, (ins14 z i l).length = l.length + 1
  | [] => rfl
  | a :: l => by
    unfold ins14
    split
    · rfl
    · rw [List.length_cons, ins14_len (l := l), List.length_cons]
theorem ins14_so {z : List Int} {i : Nat} : ∀ {l : List Nat}, l.Pairwise (fun x y => LL12 (z.drop x) (z.drop y)) → (∀ b ∈ l, LL12 (z.drop i) (z.drop b) ∨ LL12 (z.drop b) (z.drop i)) → (ins14 z i l).Pairwise (fun x y => LL12 (z.drop x) (z.drop y))
  | [], _, _ => by simp [ins14]
  | a :: l, hs, ht => by
    unfold ins14
    split
    · next c =>
      refine List.pairwise_cons.2 ⟨fun b hb => ?_, hs⟩
      rcases List.mem_cons.1 hb with rfl | hb
      · exact c
      · exact c.trans ((List.pairwise_cons.1 hs).1 b hb)
    · next c =>
      have hai : LL12 (z.drop a) (z.drop i) := by rcases ht a (by simp) with k | k; exact absurd k c; exact k
      refine List.pairwise_cons.2 ⟨fun b hb => ?_, ins14_so (List.pairwise_cons.1 hs).2 (fun x hx => ht x (by simp [hx]))⟩
      rcases ins14_mem.1 hb with rfl | hb
      · exact hai
      · exact (List.pairwise_cons.1 hs).1 b hb
theorem drops14 {z : List Int} {i b : Nat} (hi : i < z.length) (hb : b < i) : LL12 (z.drop i) (z.drop b) ∨ LL12 (z.drop b) (z.drop i) := by
  rcases ll_total13 (z.drop i) (z.drop b) with h | h | h
  · have := congrArg List.length h
    rw [List.length_drop, List.length_drop] at this
    omega
  · exact Or.inl h
  · exact Or.inr h
noncomputable def srt14 (z : List Int) : Nat → List Nat
  | 0 => []
  | m + 1 => ins14 z m (srt14 z m)
theorem srt14_mem {z : List Int} {x : Nat} : ∀ {m : Nat}, x ∈ srt14 z m ↔ x < m
  | 0 => by simp [srt14]
  | m + 1 => by
    show x ∈ ins14 z m (srt14 z m) ↔ _
    rw [ins14_mem, srt14_mem (m := m)]
    omega
theorem srt14_len {z : List Int} : ∀ {m : Nat}, (srt14 z m).length = m
  | 0 => rfl
  | m + 1 => by
    show (ins14 z m (srt14 z m)).length = _
    rw [ins14_len, srt14_len]
theorem srt14_so {z : List Int} : ∀ {m : Nat}, m ≤ z.length → (srt14 z m).Pairwise (fun x y => LL12 (z.drop x) (z.drop y))
  | 0, _ => List.Pairwise.nil
  | m + 1, h => ins14_so (srt14_so (m := m) (by omega)) (fun b hb => drops14 (by omega) (srt14_mem.1 hb))
theorem srt14_ar {z : List Int} : Ar12 z.length (S12 z) (srt14 z z.length) :=
  ⟨srt14_len, fun j hj => srt14_mem.1 hj, fun j hj => srt14_mem.2 hj, (srt14_so (Nat.le_refl _)).imp fun {x y} h => ll_ls13 _ x y (Nat.le_add_left _ _) h⟩
theorem mxl14_mp {z : List Int} {i : Nat} : mxl14 z i (srt14 z i) = mp14 z (z.drop i) i := by
  apply Nat.le_antisymm
  · exact mxl14_bd fun b hb => mp14_ge z (z.drop i) (srt14_mem.1 hb)
  · rcases mp14_has z (z.drop i) i with h | ⟨k, hk, h⟩
    · omega
    · rw [← h]
      exact mxl14_ge (srt14_mem.2 hk)
theorem adj14_sum {z : List Int} : ∀ m, m ≤ z.length → adj14 z (srt14 z m) = sm13 (fun i => mp14 z (z.drop i) i) m
  | 0, _ => rfl
  | m + 1, h => by
    show adj14 z (ins14 z m (srt14 z m)) = sm13 _ m + mp14 z (z.drop m) m
    rw [adj14_all (srt14_so (by omega)) (fun b hb => drops14 (by omega) (srt14_mem.1 hb)), adj14_sum m (by omega), mxl14_mp]
theorem sm13_shift (g : Nat → Nat) : ∀ k, sm13 g (k + 1) = g 0 + sm13 (fun r => g (r + 1)) k
  | 0 => by show 0 + g 0 = g 0 + 0; omega
  | k + 1 => by
    show sm13 g (k + 1) + g (k + 1) = g 0 + (sm13 (fun r => g (r + 1)) k + g (k + 1))
    rw [sm13_shift g k]
    omega
theorem adj14_lv {z : List Int} : ∀ (l : List Nat), adj14 z l = sm13 (fun r => lc13 (z.drop (l.getD (r + 1) 0)) (z.drop (l.getD r 0))) (l.length - 1)
  | [] => rfl
  | [a] => rfl
  | a :: b :: l => by
    show lc13 _ _ + adj14 z (b :: l) = sm13 _ (l.length + 1)
    rw [sm13_shift, adj14_lv (b :: l), lc13_comm]
    rfl
theorem adj14_ar {z : List Int} {A : List Nat} (hA : Ar12 z.length (S12 z) A) : adj14 z A = sm13 (lv13 z A) z.length := by
  rw [adj14_lv, hA.len]
  cases hn : z.length with
  | zero => rfl
  | succ k =>
    rw [sm13_shift]
    show sm13 _ k = 0 + _
    rw [Nat.zero_add]
    refine sm13_congr fun r hr => ?_
    unfold lv13
    rw [if_neg (by omega)]
    rfl
/-- The sum, place by place. -/
def ds14 (z : List Int) (k : Nat) : Nat := sm13 (fun i => z.length - i - mp14 z (z.drop i) i) k
theorem ds14_sum {z : List Int} : ∀ k, k ≤ z.length → ds14 z k + sm13 (fun i => mp14 z (z.drop i) i) k + sm13 (fun i => i) k = k * z.length
  | 0, _ => by simp [ds14, sm13]
  | k + 1, h => by
    have ih := ds14_sum (z := z) k (by omega)
    have h1 := mp14_le z (z.drop k) k
    rw [List.length_drop] at h1
    show ds14 z k + (z.length - k - mp14 z (z.drop k) k) + (sm13 _ k + mp14 z (z.drop k) k) + (sm13 _ k + k) = (k + 1) * z.length
    rw [Nat.add_mul, Nat.one_mul, ← ih]
    omega
theorem ds14_all {z : List Int} {A : List Nat} (hA : Ar12 z.length (S12 z) A) : ds14 z z.length = ks13 z A z.length := by
  have h1 := ds14_sum (z := z) z.length (Nat.le_refl _)
  have h2 := ks13_sum hA z.length (Nat.le_refl _)
  have h3 := adj14_sum (z := z) z.length (Nat.le_refl _)
  have h4 : sm13 (fun q => A.getD q 0) z.length = sm13 (fun i => i) z.length :=
    sm13_move (f := fun q => A.getD q 0) (n := z.length) (fun k hk => hA.get hk) (fun i j hi hj e => hA.inj hi hj e) (fun i => i)
  have h5 := adj14_ar hA
  have h6 : srt14 z z.length = A := srt14_ar.unique hA
  rw [h6, h5] at h3
  omega
theorem ds14_le (z : List Int) : ∀ k, ds14 z k ≤ k * z.length
  | 0 => by simp [ds14, sm13]
  | k + 1 => by
    have := ds14_le z k
    show ds14 z k + (z.length - k - mp14 z (z.drop k) k) ≤ (k + 1) * z.length
    rw [Nat.add_mul, Nat.one_mul]
    omega
/-- What is left of all texts once so many neighbours are taken off. -/
def dt14 (z : List Int) (A : List Nat) (r : Nat) : Nat := ks13 z A z.length + (sm13 (lv13 z A) z.length - sm13 (lv13 z A) r)
theorem sm13_mono (g : Nat → Nat) {r q : Nat} (h : r ≤ q) : sm13 g r ≤ sm13 g q := by
  induction q with
  | zero => have : r = 0 := by omega
            subst this; exact Nat.le_refl _
  | succ q ih =>
    by_cases c : r = q + 1
    · subst c; exact Nat.le_refl _
    · have := ih (by omega)
      show _ ≤ sm13 g q + g q
      omega
theorem dt14_step {z : List Int} {A : List Nat} {r : Nat} (h : r < z.length) : dt14 z A (r + 1) + lv13 z A r = dt14 z A r := by
  have h1 := sm13_mono (lv13 z A) (r := r + 1) (q := z.length) h
  have e : sm13 (lv13 z A) (r + 1) = sm13 (lv13 z A) r + lv13 z A r := rfl
  unfold dt14
  omega
theorem dt14_end (z : List Int) (A : List Nat) : dt14 z A z.length = ks13 z A z.length := by unfold dt14; omega
theorem dt14_zero {z : List Int} {A : List Nat} (hA : Ar12 z.length (S12 z) A) : 2 * dt14 z A 0 = z.length * (z.length + 1) := by
  have h := ks13_all hA
  have e : sm13 (lv13 z A) 0 = 0 := rfl
  unfold dt14
  rw [e]
  omega
theorem dt14_le (z : List Int) (A : List Nat) (r : Nat) : dt14 z A r ≤ dt14 z A 0 := by
  have e : sm13 (lv13 z A) 0 = 0 := rfl
  unfold dt14
  rw [e]
  omega
end Go.Proofs.Ytkpfailmmcelcaa
