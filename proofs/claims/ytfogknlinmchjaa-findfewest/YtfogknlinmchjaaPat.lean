import Derived.Test.YtfogknlinmchjaaPaq
import Derived.Test.YtfogknlinmchjaaPas
import Derived.Test.YtfogknlinmchjaaPar
import Derived.Laws.Rows
import Derived.Deep.RegionHeld3
namespace Go.Proofs.Ytfogknlinmchjaa
set_option linter.unusedVariables false

/-! How many unlike texts there are, place by place (layer 14), as mathematics. -/
def adj14 (z : List Int) : List Nat → Nat
  | a :: b :: l => lc13 (z.drop a) (z.drop b) + adj14 z (b :: l)
  | _ => 0
open Classical in
noncomputable def ins14 (z : List Int) (i : Nat) : List Nat → List Nat
  | [] => [i]
  | a :: l => if LL12 (z.drop i) (z.drop a) then i :: a :: l else a :: ins14 z i l
def mxl14 (z : List Int) (i : Nat) : List Nat → Nat
  | [] => 0
  | a :: l => max (lc13 (z.drop a) (z.drop i)) (mxl14 z i l)
theorem mxl14_bd {z : List Int} {i M : Nat} : ∀ {l : List Nat}, (∀ b ∈ l, lc13 (z.drop b) (z.drop i) ≤ M) → mxl14 z i l ≤ M
  | [], _ => Nat.zero_le _
  | a :: l, h => by
    have h1 := h a (by simp)
    have h2 := mxl14_bd (l := l) (fun b hb => h b (by simp [hb]))
    show max _ _ ≤ M
    omega
theorem mxl14_ge {z : List Int} {i : Nat} : ∀ {l : List Nat} {b : Nat}, b ∈ l → lc13 (z.drop b) (z.drop i) ≤ mxl14 z i l
  | [], b, h => by cases h
  | a :: l, b, h => by
    show _ ≤ max _ _
    rcases List.mem_cons.1 h with rfl | h
    · omega
    · have := mxl14_ge (z := z) (i := i) (l := l) h
      omega
theorem mxl14_head {z : List Int} {i a : Nat} {l : List Nat} (hs : (a :: l).Pairwise (fun x y => LL12 (z.drop x) (z.drop y))) (h : LL12 (z.drop i) (z.drop a)) : mxl14 z i (a :: l) = lc13 (z.drop a) (z.drop i) := by
  have h2 : mxl14 z i l ≤ lc13 (z.drop a) (z.drop i) := mxl14_bd fun b hb => by
    have h3 := lc13_min h ((List.pairwise_cons.1 hs).1 b hb)
    rw [lc13_comm (z.drop b), lc13_comm (z.drop a)]
    omega
  show max _ _ = _
  omega
theorem adj14_ins {z : List Int} {i : Nat} : ∀ {l : List Nat} {a : Nat}, (a :: l).Pairwise (fun x y => LL12 (z.drop x) (z.drop y)) → LL12 (z.drop a) (z.drop i) → (∀ b ∈ l, LL12 (z.drop i) (z.drop b) ∨ LL12 (z.drop b) (z.drop i)) →
    adj14 z (a :: ins14 z i l) = adj14 z (a :: l) + mxl14 z i (a :: l)
  | [], a, hs, h, ht => by simp [ins14, adj14, mxl14]
  | b :: l, a, hs, h, ht => by
    have hs2 := (List.pairwise_cons.1 hs).2
    have hab := (List.pairwise_cons.1 hs).1 b (by simp)
    unfold ins14
    by_cases c : LL12 (z.drop i) (z.drop b)
    · rw [if_pos c]
      have e1 := mxl14_head hs2 c
      have e2 := lc13_min h c
      show lc13 _ _ + (lc13 _ _ + adj14 z (b :: l)) = lc13 _ _ + adj14 z (b :: l) + max _ (mxl14 z i (b :: l))
      rw [e1, e2, lc13_comm (z.drop b) (z.drop i)]
      omega
    · rw [if_neg c]
      have hbi : LL12 (z.drop b) (z.drop i) := by rcases ht b (by simp) with k | k; exact absurd k c; exact k
      have ih := adj14_ins (l := l) (a := b) hs2 hbi (fun x hx => ht x (by simp [hx]))
      have e2 := lc13_min hab hbi
      have e3 : lc13 (z.drop b) (z.drop i) ≤ mxl14 z i (b :: l) := mxl14_ge (by simp)
      show lc13 _ _ + adj14 z (b :: ins14 z i l) = lc13 _ _ + adj14 z (b :: l) + max _ (mxl14 z i (b :: l))
      rw [ih]
      omega
theorem adj14_all {z : List Int} {i : Nat} : ∀ {l : List Nat}, l.Pairwise (fun x y => LL12 (z.drop x) (z.drop y)) → (∀ b ∈ l, LL12 (z.drop i) (z.drop b) ∨ LL12 (z.drop b) (z.drop i)) →
    adj14 z (ins14 z i l) = adj14 z l + mxl14 z i l
  | [], _, _ => by simp [ins14, adj14, mxl14]
  | a :: l, hs, ht => by
    by_cases c : LL12 (z.drop i) (z.drop a)
    · have e1 := mxl14_head hs c
      unfold ins14
      rw [if_pos c, e1]
      show lc13 _ _ + adj14 z (a :: l) = _
      rw [lc13_comm]
      omega
    · have hai : LL12 (z.drop a) (z.drop i) := by rcases ht a (by simp) with k | k; exact absurd k c; exact k
      have := adj14_ins hs hai (fun x hx => ht x (by simp [hx]))
      unfold ins14
      rw [if_neg c]
      exact this
theorem ins14_mem {z : List Int} {i x : Nat} : ∀ {l : List Nat}, x ∈ ins14 z i l ↔ x = i ∨ x ∈ l
  | [] => by simp [ins14]
  | a :: l => by
    unfold ins14
    split
    · simp
    · rw [List.mem_cons, ins14_mem (l := l), List.mem_cons]
      constructor
      · rintro (h | h | h)
        · exact Or.inr (Or.inl h)
        · exact Or.inl h
        · exact Or.inr (Or.inr h)
      · rintro (h | h | h)
        · exact Or.inr (Or.inl h)
        · exact Or.inl h
        · exact Or.inr (Or.inr h)
theorem ins14_len {z : List Int} {i : Nat} : ∀ {l : List Nat}, (ins14 z i l).length = l.length + 1
  | [] => rfl
  | a :: l => by
    unfold ins14
    split
    · rfl
    · rw [List.length_cons, ins14_len (l := l), List.length_cons]
theorem ins14_so {z : List Int} {i : Nat} : ∀ {l : List Nat}, l.Pairwise (fun x y => LL12 (z.drop x) (z.drop y)) → (∀ b ∈ l, LL12 (z.drop i) (z.drop b) ∨ LL12 (z.drop b) (z.drop i)) → (ins14 z i l).Pairwise (fun x y => LL12 (z.drop x) (z.drop y))
  | [], _, _ => by simp [ins14]
  | a :: l, hs, ht => by
    unfold ins14
    split
    · next c =>
      refine List.pairwise_cons.2 ⟨fun b hb => ?_, hs⟩
      rcases List.mem_cons.1 hb with rfl | hb
      · exact c
      · exact c.trans ((List.pairwise_cons.1 hs).1 b hb)
    · next c =>
      have hai : LL12 (z.drop a) (z.drop i) := by rcases ht a (by simp) with k | k; exact absurd k c; exact k
      refine List.pairwise_cons.2 ⟨fun b hb => ?_, ins14_so (List.pairwise_cons.1 hs).2 (fun x hx => ht x (by simp [hx]))⟩
      rcases ins14_mem.1 hb with rfl | hb
      · exact hai
      · exact (List.pairwise_cons.1 hs).1 b hb
theorem drops14 {z : List Int} {i b : Nat} (hi : i < z.length) (hb : b < i) : LL12 (z.drop i) (z.drop b) ∨ LL12 (z.drop b) (z.drop i) := by
  rcases ll_total13 (z.drop i) (z.drop b) with h | h | h
  · have := congrArg List.length h
    rw [List.length_drop, List.length_drop] at this
    omega
  · exact Or.inl h
  · exact Or.inr h
noncomputable def srt14 (z : List Int) : Nat → List Nat
  | 0 => []
  | m + 1 => ins14 z m (srt14 z m)
theorem srt14_mem {z : List Int} {x : Nat} : ∀ {m : Nat}, x ∈ srt14 z m ↔ x < m
  | 0 => by simp [srt14]
  | m + 1 => by
    show x ∈ ins14 z m (srt14 z m) ↔ _
    rw [ins14_mem, srt14_mem (m := m)]
    omega
theorem srt14_len {z : List Int} : ∀ {m : Nat}, (srt14 z m).length = m
  | 0 => rfl
  | m + 1 => by
    show (ins14 z m (srt14 z m)).length = _
    rw [ins14_len, srt14_len]
theorem srt14_so {z : List Int} : ∀ {m : Nat}, m ≤ z.length → (srt14 z m).Pairwise (fun x y => LL12 (z.drop x) (z.drop y))
  | 0, _ => List.Pairwise.nil
  | m + 1, h => ins14_so (srt14_so (m := m) (by omega)) (fun b hb => drops14 (by omega) (srt14_mem.1 hb))
theorem srt14_ar {z : List Int} : Ar12 z.length (S12 z) (srt14 z z.length) :=
  ⟨srt14_len, fun j hj => srt14_mem.1 hj, fun j hj => srt14_mem.2 hj, (srt14_so (Nat.le_refl _)).imp fun {x y} h => ll_ls13 _ x y (Nat.le_add_left _ _) h⟩
theorem mxl14_mp {z : List Int} {i : Nat} : mxl14 z i (srt14 z i) = mp14 z (z.drop i) i := by
  apply Nat.le_antisymm
  · exact mxl14_bd fun b hb => mp14_ge z (z.drop i) (srt14_mem.1 hb)
  · rcases mp14_has z (z.drop i) i with h | ⟨k, hk, h⟩
    · omega
    · rw [← h]
      exact mxl14_ge (srt14_mem.2 hk)
theorem adj14_sum {z : List Int} : ∀ m, m ≤ z.length → adj14 z (srt14 z m) = sm13 (fun i => mp14 z (z.drop i) i) m
  | 0, _ => rfl
  | m + 1, h => by
    show adj14 z (ins14 z m (srt14 z m)) = sm13 _ m + mp14 z (z.drop m) m
    rw [adj14_all (srt14_so (by omega)) (fun b hb => drops14 (by omega) (srt14_mem.1 hb)), adj14_sum m (by omega), mxl14_mp]
theorem sm13_shift (g : Nat → Nat) : ∀ k, sm13 g (k + 1) = g 0 + sm13 (fun r => g (r + 1)) k
  | 0 => by show 0 + g 0 = g 0 + 0; omega
  | k + 1 => by
    show sm13 g (k + 1) + g (k + 1) = g 0 + (sm13 (fun r => g (r + 1)) k + g (k + 1))
    rw [sm13_shift g k]
    omega
theorem adj14_lv {z : List Int} : ∀ (l : List Nat), adj14 z l = sm13 (fun r => lc13 (z.drop (l.getD (r + 1) 0)) (z.drop (l.getD r 0))) (l.length - 1)
  | [] => rfl
  | [a] => rfl
  | a :: b :: l => by
    show lc13 _ _ + adj14 z (b :: l) = sm13 _ (l.length + 1)
    rw [sm13_shift, adj14_lv (b :: l), lc13_comm]
    rfl
theorem adj14_ar {z : List Int} {A : List Nat} (hA : Ar12 z.length (S12 z) A) : adj14 z A = sm13 (lv13 z A) z.length := by
  rw [adj14_lv, hA.len]
  cases hn : z.length with
  | zero => rfl
  | succ k =>
    rw [sm13_shift]
    show sm13 _ k = 0 + _
    rw [Nat.zero_add]
    refine sm13_congr fun r hr => ?_
    unfold lv13
    rw [if_neg (by omega)]
    rfl
/-- The sum, place by place. -/
def ds14 (z : List Int) (k : Nat) : Nat := sm13 (fun i => z.length - i - mp14 z (z.drop i) i) k
theorem ds14_sum {z : List Int} : ∀ k, k ≤ z.length → ds14 z k + sm13 (fun i => mp14 z (z.drop i) i) k + sm13 (fun i => i) k = k * z.length
  | 0, _ => by simp [ds14, sm13]
  | k + 1, h => by
    have ih := ds14_sum (z := z) k (by omega)
    have h1 := mp14_le z (z.drop k) k
    rw [List.length_drop] at h1
    show ds14 z k + (z.length - k - mp14 z (z.drop k) k) + (sm13 _ k + mp14 z (z.drop k) k) + (sm13 _ k + k) = (k + 1) * z.length
    rw [Nat.add_mul, Nat.one_mul, ← ih]
    omega
theorem ds14_all {z : List Int} {A : List Nat} (hA : Ar12 z.length (S12 z) A) : ds14 z z.length = ks13 z A z.length := by
  have h1 := ds14_sum (z := z) z.length (Nat.le_refl _)
  have h2 := ks13_sum hA z.length (Nat.le_refl _)
  have h3 := adj14_sum (z := z) z.length (Nat.le_refl _)
  have h4 : sm13 (fun q => A.getD q 0) z.length = sm13 (fun i => i) z.length :=
    sm13_move (f := fun q => A.getD q 0) (n := z.length) (fun k hk => hA.get hk) (fun i j hi hj e => hA.inj hi hj e) (fun i => i)
  have h5 := adj14_ar hA
  have h6 : srt14 z z.length = A := srt14_ar.unique hA
  rw [h6, h5] at h3
  omega
theorem ds14_le (z : List Int) : ∀ k, ds14 z k ≤ k * z.length
  | 0 => by simp [ds14, sm13]
  | k + 1 => by
    have := ds14_le z k
    show ds14 z k + (z.length - k - mp14 z (z.drop k) k) ≤ (k + 1) * z.length
    rw [Nat.add_mul, Nat.one_mul]
    omega
/-- What is left of all texts once so many neighbours are taken off. -/
def dt14 (z : List Int) (A : List Nat) (r : Nat) : Nat := ks13 z A z.length + (sm13 (lv13 z A) z.length - sm13 (lv13 z A) r)
theorem sm13_mono (g : Nat → Nat) {r q : Nat} (h : r ≤ q) : sm13 g r ≤ sm13 g q := by
  induction q with
  | zero => have : r = 0 := by omega
            subst this; exact Nat.le_refl _
  | succ q ih =>
    by_cases c : r = q + 1
    · subst c; exact Nat.le_refl _
    · have := ih (by omega)
      show _ ≤ sm13 g q + g q
      omega
theorem dt14_step {z : List Int} {A : List Nat} {r : Nat} (h : r < z.length) : dt14 z A (r + 1) + lv13 z A r = dt14 z A r := by
  have h1 := sm13_mono (lv13 z A) (r := r + 1) (q := z.length) h
  have e : sm13 (lv13 z A) (r + 1) = sm13 (lv13 z A) r + lv13 z A r := rfl
  unfold dt14
  omega
theorem dt14_end (z : List Int) (A : List Nat) : dt14 z A z.length = ks13 z A z.length := by unfold dt14; omega
theorem dt14_zero {z : List Int} {A : List Nat} (hA : Ar12 z.length (S12 z) A) : 2 * dt14 z A 0 = z.length * (z.length + 1) := by
  have h := ks13_all hA
  have e : sm13 (lv13 z A) 0 = 0 := rfl
  unfold dt14
  rw [e]
  omega
theorem dt14_le (z : List Int) (A : List Nat) (r : Nat) : dt14 z A r ≤ dt14 z A 0 := by
  have e : sm13 (lv13 z A) 0 = 0 := rfl
  unfold dt14
  rw [e]
  omega
end Go.Proofs.Ytfogknlinmchjaa

namespace Go.Proofs.Ytfogknlinmchjaa
open Go.RowKit
set_option linter.unusedVariables false

/-! Distinct: the landed one, the document's; the document's common. -/
set_option maxRecDepth 100000 in
set_option maxHeartbeats 2000000 in
theorem rcomm14 (da : Option Addr) (z : List Int) (n dc : Nat) (pa : Option Addr) (p : List Int) (m pc : Nat) (at_ : Nat) (w : World) (hs : Seg w da z) (hp : Seg w pa p) (hn : Hid (z.length = n)) (hm : Hid (p.length = m)) (hb : n ≤ 140737488351232) (hb2 : m ≤ 140737488351232) (hat : at_ ≤ n) :
    Calls Try.prog 40 #[.slice da n dc, .slice pa m pc, .int .i64 (at_ : Int)] w fun e w' => e = .returned (.int .i64 ((lc13 (z.drop at_) p : Nat) : Int)) ∧ ∃ d, w' = w.drewN d := by
  have KEY : Hid (∀ wr, (∃ d, wr = w.drewN d) → Seg wr da z ∧ Seg wr pa p) := by
    rintro wr ⟨d, rfl⟩
    exact ⟨hs.drewN d, hp.drewN d⟩
  have HL : Hid (lc13 (z.drop at_) p ≤ m ∧ lc13 (z.drop at_) p ≤ n - at_) := ⟨by rw [← hm.out]; exact lc13_le' _ _, by rw [← hn.out, ← List.length_drop]; exact lc13_le _ _⟩
  have HMO : Hid (∀ i, i ≤ lc13 (z.drop at_) p → i < m → at_ + i < n → z.getD (at_ + i) 0 = p.getD i 0 → i + 1 ≤ lc13 (z.drop at_) p) := fun i h1 h2 h3 h4 => (cv_at14 hn.out hm.out hat h1 h2).2.1 h3 h4
  have HSP : Hid (∀ i, i ≤ lc13 (z.drop at_) p → ¬ z.getD (at_ + i) 0 = p.getD i 0 → lc13 (z.drop at_) p = i) := fun i h1 h4 => lc13_stop h1 (by rw [drop_get14]; exact h4)
  clear hs hp
  generalize lc13 (z.drop at_) p = lc at *
  go_enter Try.func40, Try.ntmps40
  go_wp2_with fail
  go_loopw [7] (fun ti wr => ∃ i : Nat, Hid (i ≤ lc) ∧ ti = .int .i64 i ∧ ∃ d, wr = w.drewN d) (fun ti _ => m - (intOf ti).toNat)
  case atStart => exact ⟨0, Nat.zero_le _, rfl, 0, rfl⟩
  case round =>
    obtain ⟨i, HI, rfl, hd⟩ := hrel
    obtain ⟨sx, sy⟩ := KEY.out wr hd
    obtain ⟨d, hd⟩ := hd
    have HD : Hid (wr = w.drewN d) := hd
    clear hd
    have hib : i ≤ m := by have := HL.out; have := HI.out; omega
    by_cases h1 : i < m
    · have h1i : (i : Int) < (m : Int) := by omega
      obtain ⟨s, hsm⟩ : ∃ s, s = at_ + i := ⟨_, rfl⟩
      have hsi : (at_ : Int) + (i : Int) = (s : Int) := by omega
      have hsw : IntKind.i64.wrap ((at_ : Int) + (i : Int)) = (s : Int) := by rw [hsi]; exact IntWalk.i64_in _ (by omega)
      by_cases h2 : s < n
      · have h2j : (s : Int) < (n : Int) := by omega
        obtain ⟨b1, o1, rfl, c1⟩ := sx.at_ s (by rw [hn.out]; omega)
        obtain ⟨b2, o2, rfl, c2⟩ := sy.at_ i (by rw [hm.out]; omega)
        have v1 := sx.bd s
        have v2 := sy.bd i
        have HEQ : Hid (z.getD s 0 = p.getD i 0 → i + 1 ≤ lc) := fun h => HMO.out i HI.out h1 (by omega) (by rw [← hsm]; exact h)
        have HNE : Hid (¬ z.getD s 0 = p.getD i 0 → lc = i) := fun h => HSP.out i HI.out (by rw [← hsm]; exact h)
        clear sx sy hsm
        generalize z.getD s 0 = x at *
        generalize p.getD i 0 = y at *
        have g1 : decide ((i : Int) < (m : Int)) = true := decide_eq_true h1i
        have g2 : decide ((s : Int) < (n : Int)) = true := decide_eq_true h2j
        by_cases hxy : x = y
        · subst hxy
          have HEQ2 : Hid (i + 1 ≤ lc) := HEQ.out rfl
          clear HEQ HNE
          go_wp2_with fail
          go_quiet (fail)
          go_wp2_with fail
          go_roundw
          case rel => exact ⟨i + 1, HEQ2, by go_num, d + nq, by rw [HD.out, drewN14]⟩
          case measure => simp [intOf]; omega
        · have HNE2 : Hid (lc = i) := HNE.out hxy
          have g3 : (x == y) = false := beq_eq_false_iff_ne.2 hxy
          clear HEQ HNE
          go_wp2_with fail
          go_quiet (fail)
          go_wp2_with fail
          go_ret
          exact ⟨by rw [HNE2.out]; rfl, d + nq, by rw [HD.out, drewN14]⟩
      · have h2j : ¬ (s : Int) < (n : Int) := by omega
        have g1 : decide ((i : Int) < (m : Int)) = true := decide_eq_true h1i
        have g2 : decide ((s : Int) < (n : Int)) = false := decide_eq_false h2j
        have HNE2 : Hid (lc = i) := by show _ = _; have := HL.out; have := HI.out; omega
        clear hsm
        go_wp2_with fail
        go_quiet (fail)
        go_wp2_with fail
        go_ret
        exact ⟨by rw [HNE2.out]; rfl, d + nq, by rw [HD.out, drewN14]⟩
    · have h1i : ¬ (i : Int) < (m : Int) := by omega
      have g1 : decide ((i : Int) < (m : Int)) = false := decide_eq_false h1i
      have HNE2 : Hid (lc = i) := by show _ = _; have := HL.out; have := HI.out; omega
      go_wp2_with fail
      go_quiet (fail)
      go_wp2_with fail
      go_ret
      exact ⟨by rw [HNE2.out]; rfl, d + nq, by rw [HD.out, drewN14]⟩
end Go.Proofs.Ytfogknlinmchjaa

namespace Go.Proofs.Ytfogknlinmchjaa
open Go.RowKit
set_option linter.unusedVariables false

/-! The landed find: common, nearOf, longest, least, Longest; the document's Longest. -/
theorem IX14.cmpn {w : World} {b n : Nat} {z : List Int} {A : List Nat} (h : IX14 w b n z A) {r : Int} {pa : Option Addr} {m pc : Nat} (hb : -9223372036854775808 ≤ r ∧ r ≤ 9223372036854775807) (hr : ¬ (0 ≤ r ∧ r < (n : Int))) :
    Calls Try.prog 58 #[.pointer (some ⟨b, 0, none⟩), .int .i64 r, .slice pa m pc] w fun e w' => e = .returned (.tuple #[.int .i64 0, .int .i64 0, .int .i64 132]) ∧ Below w.heap.size w w' := by
  obtain ⟨da, dc, aa, ac, gb, gr, h⟩ := h
  exact pcmpn13 b da dc aa ac gb gr n z A r pa m pc w h hb hr
theorem IX14.rank {w : World} {b n : Nat} {z : List Int} {A : List Nat} (h : IX14 w b n z A) {j : Nat} (hr : j < n) :
    Calls Try.prog 45 #[.pointer (some ⟨b, 0, none⟩), .int .i64 (j : Int)] w fun e w' => e = .returned (.tuple #[.int .i64 ((rk13 A j : Nat) : Int), .int .i64 0]) ∧ Below w.heap.size w w' := by
  obtain ⟨da, dc, aa, ac, gb, gr, h⟩ := h
  exact prank13 b da dc aa ac gb gr n z A j w h hr
theorem lc13_drop14 : ∀ {X p : List Int} {K : Nat}, K ≤ lc13 X p → lc13 X p = K + lc13 (X.drop K) (p.drop K)
  | X, p, 0, _ => by simp
  | [], p, K + 1, h => by rw [lc13_nil] at h; omega
  | x :: X, [], K + 1, h => by rw [lc13_nil'] at h; omega
  | x :: X, y :: p, K + 1, h => by
    by_cases e : x = y
    · have e1 : lc13 (x :: X) (y :: p) = lc13 X p + 1 := by rw [lc13, if_pos e]
      rw [e1] at h ⊢
      rw [List.drop_succ_cons, List.drop_succ_cons]
      have := lc13_drop14 (X := X) (p := p) (K := K) (by omega)
      omega
    · have e1 : lc13 (x :: X) (y :: p) = 0 := by rw [lc13, if_neg e]
      omega
theorem max_cases14 (k : Int) : (k ≤ 0 ∧ max 0 k = 0) ∨ (0 < k ∧ max 0 k = k) := by omega
/-- What a call of common answers. -/
structure Cm14 (w : World) (b : Nat) (pa : Option Addr) (m pc : Nat) (rho kap : Int) (v : Nat) : Prop where
  out : ∀ W, Below w.heap.size w W → Calls Try.prog 57 #[.pointer (some ⟨b, 0, none⟩), .int .i64 rho, .slice pa m pc, .int .i64 kap] W fun e w' => e = .returned (.int .i64 (v : Int)) ∧ Below W.heap.size W w'
set_option maxRecDepth 100000 in
set_option maxHeartbeats 1000000 in
theorem pcomn14 {b n : Nat} {z : List Int} {A : List Nat} (rho : Int) (pa : Option Addr) (m pc : Nat) (kap : Int) {w : World} (h : IX14 w b n z A) (hb : -9223372036854775808 ≤ rho ∧ rho ≤ 9223372036854775807) (hr : ¬ (0 ≤ rho ∧ rho < (n : Int))) : Cm14 w b pa m pc rho kap 0 := by
  refine ⟨fun W hB => ?_⟩
  have HA := (h.old hB).atn hb hr
  clear h
  go_enter Try.func57, Try.ntmps57
  go_wp2_with (first
    | (go_at_call 36; refine HA.mono ?_; rintro e1 w1 ⟨rfl, B1⟩))
  go_ret
  exact ⟨rfl, B1⟩
set_option maxRecDepth 100000 in
set_option maxHeartbeats 2000000 in
theorem pcom14 {b n : Nat} {z : List Int} {A : List Nat} (r : Nat) {pa : Option Addr} {p : List Int} {m pc : Nat} (kap : Int) (K : Nat) {w : World} (h : IX14 w b n z A) (hp : Seg w pa p) (hm : Hid (p.length = m)) (hmb : m ≤ 140737488351232) (hpc : m ≤ pc) (hr : r < n) (hk1 : -9223372036854775808 ≤ kap) (hK : K = kap.toNat) (hKl : K ≤ lc13 (z.drop (A.getD r 0)) p) :
    Cm14 w b pa m pc (r : Int) kap (lc13 (z.drop (A.getD r 0)) p) := by
  refine ⟨fun W hB => ?_⟩
  have h := h.old hB
  have hp := hp.old hB
  have hn24 := h.n24
  have HA := h.at_ hr
  have hat := h.ar.get hr
  have hlc := lc13_drop14 hKl
  have hl1 := lc13_le (z.drop (A.getD r 0)) p
  have hl2 := lc13_le' (z.drop (A.getD r 0)) p
  rw [List.drop_drop] at hlc
  rw [List.length_drop, h.len] at hl1
  rw [hm.out] at hl2
  have HBW : Hid (∀ W', Below W.heap.size W W' → Below w.heap.size w W') := fun W' h' => hB.trans (h'.mono hB.size)
  have hKm : K ≤ m := by omega
  have hKn : A.getD r 0 + K ≤ n := by omega
  by_cases hend : A.getD r 0 + K < n
  · have HC : Hid (∀ W' pa' pc', Below W.heap.size W W' → Seg W' pa' (p.drop K) → Calls Try.prog 58 #[.pointer (some ⟨b, 0, none⟩), .int .i64 ((A.getD r 0 + K : Nat) : Int), .slice pa' (m - K) pc'] W' fun e w' => e = .returned (.tuple #[.int .i64 (cv13 (z.drop (A.getD r 0 + K)) (p.drop K)), .int .i64 ((lc13 (z.drop (A.getD r 0 + K)) (p.drop K) : Nat) : Int), .int .i64 0]) ∧ Below W.heap.size W w') := fun W' pa' pc' hb hs => ((h.old hb).cmp hs (by show _ = _; rw [List.length_drop, hm.out]) (by omega) hend).mono fun e w' ⟨he, hB'⟩ => ⟨he, hb.trans (hB'.mono hb.size)⟩
    have HSP : Hid (∀ W', Below W.heap.size W W' → Seg W' pa p) := fun W' hb => hp.old hb
    rw [hlc]
    generalize cv13 (z.drop (A.getD r 0 + K)) (p.drop K) = cv at *
    generalize hv : lc13 (z.drop (A.getD r 0 + K)) (p.drop K) = v at *
    obtain ⟨s, hs⟩ : ∃ s, s = A.getD r 0 + K := ⟨_, rfl⟩
    rw [← hs] at HC
    have hvb : K + v ≤ 140737488351232 := by omega
    clear hlc hKl hv h hp
    generalize A.getD r 0 = at0 at *
    have hsi : (at0 : Int) + (K : Int) = (s : Int) := by omega
    rcases max_cases14 kap with ⟨k0, kmx⟩ | ⟨k0, kmx⟩
    · obtain rfl : K = 0 := by omega
      obtain rfl : s = at0 := by omega
      clear hs hK hsi kmx
      rw [Nat.sub_zero] at HC
      have kng : ¬ 0 < kap := by omega
      have HC2 : Hid (∀ W', Below W.heap.size W W' → Calls Try.prog 58 #[.pointer (some ⟨b, 0, none⟩), .int .i64 (s : Int), .slice pa m pc] W' fun e w' => e = .returned (.tuple #[.int .i64 cv, .int .i64 (v : Int), .int .i64 0]) ∧ Below W.heap.size W w') := fun W' hb => HC.out W' pa pc hb (HSP.out W' hb)
      clear HC
      cases pa with
      | none =>
        go_enter Try.func57, Try.ntmps57
        go_wp2_with (first
          | (go_at_call 36; refine HA.mono ?_; rintro e1 w1 ⟨rfl, B1⟩)
          | (go_at_call 58; refine (HC2.out w1 B1).mono ?_; rintro e2 w2 ⟨rfl, B2⟩))
        go_ret
        exact ⟨by first | rfl | simp, B2⟩
      | some ad =>
        go_enter Try.func57, Try.ntmps57
        go_wp2_with (first
          | (go_at_call 36; refine HA.mono ?_; rintro e1 w1 ⟨rfl, B1⟩)
          | (go_at_call 58; refine (HC2.out w1 B1).mono ?_; rintro e2 w2 ⟨rfl, B2⟩))
        go_ret
        exact ⟨by first | rfl | simp, B2⟩
    · obtain rfl : kap = (K : Int) := by omega
      have hsb : s ≤ n := by omega
      clear hK kmx hs
      obtain ⟨pb, po, rfl, -⟩ := (HSP.out W (Below.refl _ _)).at_ 0 (by rw [hm.out]; omega)
      by_cases hcc : pc = K
      · obtain rfl : K = m := by omega
        subst hcc
        have HC2 : Hid (∀ W' pa' l pc', Below W.heap.size W W' → l = 0 → Calls Try.prog 58 #[.pointer (some ⟨b, 0, none⟩), .int .i64 (s : Int), .slice pa' l pc'] W' fun e w' => e = .returned (.tuple #[.int .i64 cv, .int .i64 (v : Int), .int .i64 0]) ∧ Below W.heap.size W w') := fun W' pa' l pc' hb hl => by
          have := HC.out W' pa' pc' hb (by rw [List.drop_eq_nil_of_le (by rw [hm.out]; omega)]; exact SegK.nil (by decide) _ _)
          rw [hl]
          rw [Nat.sub_self] at this
          exact this
        clear HC
        go_enter Try.func57, Try.ntmps57
        go_wp2_with (first
          | (go_at_call 36; refine HA.mono ?_; rintro e1 w1 ⟨rfl, B1⟩)
          | (go_at_call 58; refine (HC2.out w1 _ _ _ B1 (by first | rfl | omega | simp)).mono ?_; rintro e2 w2 ⟨rfl, B2⟩))
        go_ret
        exact ⟨by first | rfl | simp, B2⟩
      · have HC2 : Hid (∀ W', Below W.heap.size W W' → Calls Try.prog 58 #[.pointer (some ⟨b, 0, none⟩), .int .i64 (s : Int), .slice (some ⟨pb, po + K, none⟩) (m - K) (pc - K)] W' fun e w' => e = .returned (.tuple #[.int .i64 cv, .int .i64 (v : Int), .int .i64 0]) ∧ Below W.heap.size W w') := fun W' hb => HC.out W' _ _ hb ((HSP.out W' hb).drop K)
        clear HC
        have l1 : K ≤ m := by omega
        have l2 : (K : Int) ≤ (m : Int) := by omega
        go_enter Try.func57, Try.ntmps57
        go_wp2_with (first
          | (go_at_call 36; refine HA.mono ?_; rintro e1 w1 ⟨rfl, B1⟩)
          | (go_at_call 58; refine (HC2.out w1 B1).mono ?_; rintro e2 w2 ⟨rfl, B2⟩))
        go_ret
        exact ⟨by first | rfl | simp, B2⟩
  · have HC : Hid (∀ W' pa' m' pc', Below W.heap.size W W' → Calls Try.prog 58 #[.pointer (some ⟨b, 0, none⟩), .int .i64 ((A.getD r 0 + K : Nat) : Int), .slice pa' m' pc'] W' fun e w' => e = .returned (.tuple #[.int .i64 0, .int .i64 0, .int .i64 132]) ∧ Below W.heap.size W w') := fun W' pa' m' pc' hb => ((h.old hb).cmpn (by omega) (by omega)).mono fun e w' ⟨he, hB'⟩ => ⟨he, hb.trans (hB'.mono hb.size)⟩
    have HSP : Hid (∀ W', Below W.heap.size W W' → Seg W' pa p) := fun W' hb => hp.old hb
    have hv0 : lc13 (z.drop (A.getD r 0)) p = K := by omega
    rw [hv0]
    obtain ⟨s, hs⟩ : ∃ s, s = A.getD r 0 + K := ⟨_, rfl⟩
    rw [← hs] at HC
    have hkp : 0 < K := by omega
    clear hlc hKl h hp hv0
    generalize A.getD r 0 = at0 at *
    have hsi : (at0 : Int) + (K : Int) = (s : Int) := by omega
    obtain rfl : kap = (K : Int) := by omega
    have hsb : s ≤ n := by omega
    clear hK hs
    obtain ⟨pb, po, rfl, -⟩ := (HSP.out W (Below.refl _ _)).at_ 0 (by rw [hm.out]; omega)
    have l1 : K ≤ m := by omega
    have l2 : (K : Int) ≤ (m : Int) := by omega
    have l3 : (0 : Int) < (K : Int) := by omega
    by_cases hcc : pc = K
    · subst hcc
      go_enter Try.func57, Try.ntmps57
      go_wp2_with (first
        | (go_at_call 36; refine HA.mono ?_; rintro e1 w1 ⟨rfl, B1⟩)
        | (go_at_call 58; refine (HC.out w1 _ _ _ B1).mono ?_; rintro e2 w2 ⟨rfl, B2⟩))
      go_ret
      exact ⟨by first | rfl | simp, B2⟩
    · go_enter Try.func57, Try.ntmps57
      go_wp2_with (first
        | (go_at_call 36; refine HA.mono ?_; rintro e1 w1 ⟨rfl, B1⟩)
        | (go_at_call 58; refine (HC.out w1 _ _ _ B1).mono ?_; rintro e2 w2 ⟨rfl, B2⟩))
      go_ret
      exact ⟨by first | rfl | simp, B2⟩
end Go.Proofs.Ytfogknlinmchjaa
