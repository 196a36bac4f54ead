
import Derived.Test.YthefcmhmcgjcoaaFlX
namespace Go.Proofs.Ythefcmhmcgjcoaa
open Go.RowKit Go.Shelf Go.Deep
set_option linter.unusedVariables false
set_option linter.unusedSimpArgs false

/-! FlashKeeps: what a call does to the pages. -/
def bt21 (S : Fs21) (x y : Int) (j : Nat) : Int := (sh21 S x y).b.getD j 255
theorem pB21_at (S : Fs21) (i : Nat) (hp : 0 < S.pg) : pB21 S i = (List.range S.pg).map (bt21 S ((i / 4096 : Nat) : Int) ((i % 4096 : Nat) : Int)) := by
  unfold pB21 rb21
  apply List.map_congr_left
  intro j hj
  have hj' := List.mem_range.1 hj
  have e1 : (i % 4096 * S.pg + j) / S.pg = i % 4096 := by
    rw [Nat.mul_comm, Nat.mul_add_div hp, Nat.div_eq_of_lt hj']; rfl
  have e2 : (i % 4096 * S.pg + j) % S.pg = j := by
    rw [Nat.mul_comm, Nat.mul_add_mod, Nat.mod_eq_of_lt hj']
  rw [e1, e2]
  rfl
theorem pB21_eq {S S' : Fs21} (h : S'.pg = S.pg) (hp : 0 < S.pg) (i : Nat) (hb : ∀ j, j < S.pg → bt21 S' ((i / 4096 : Nat) : Int) ((i % 4096 : Nat) : Int) j = bt21 S ((i / 4096 : Nat) : Int) ((i % 4096 : Nat) : Int) j) : pB21 S' i = pB21 S i := by
  rw [pB21_at S i hp, pB21_at S' i (by omega), h]
  apply List.map_congr_left
  intro j hj
  exact hb j (List.mem_range.1 hj)
/-- The pages' bytes are the same. -/
def Eq21 (S S' : Fs21) : Prop := S'.pg = S.pg ∧ S'.ps = S.ps ∧ ∀ i, pB21 S' i = pB21 S i
theorem Eq21.refl (S : Fs21) : Eq21 S S := ⟨rfl, rfl, fun _ => rfl⟩
theorem Eq21.trans {S S' S2 : Fs21} (h : Eq21 S S') (h' : Eq21 S' S2) : Eq21 S S2 := ⟨h'.1.trans h.1, h'.2.1.trans h.2.1, fun i => (h'.2.2 i).trans (h.2.2 i)⟩
theorem Eq21.al {S S' : Fs21} (h : Eq21 S S') (t i : Nat) : al21 S' t i = al21 S t i := by
  unfold al21
  rw [h.2.1, h.2.2 i]
theorem eq21_pa {S S' : Fs21} (h1 : S'.pg = S.pg) (h2 : S'.ps = S.ps) (h3 : S'.pa = S.pa) : Eq21 S S' := by
  refine ⟨h1, h2, fun i => ?_⟩
  unfold pB21 rb21 pb21 sh21
  rw [h1, h3]
theorem la21_nil (pg : Nat) (B : List Int) (hB : B.length ≤ pg) (j : Nat) (hj : j < pg) : (la21 pg [] B).getD j 255 = B.getD j 255 := by
  unfold la21 sp21
  simp only [List.take_zero, List.nil_append, List.length_nil, Nat.zero_add, List.drop_zero]
  by_cases h : j < B.length
  · simp [List.getD, List.getElem?_append, h]
  · have e : B[j]? = none := List.getElem?_eq_none (by omega)
    simp [List.getD, List.getElem?_append, h, List.getElem?_replicate]
    split <;> rfl
/-- What a call does: nothing to the pages, or one operation. -/
def St21 (S S' : Fs21) : Prop := S'.pg = S.pg ∧ S'.ps = S.ps ∧ S'.lm = S.lm ∧ ((S'.lg = S.lg ∧ S'.pa = S.pa) ∨ (S.on = true ∧ ∃ kd x y, S'.lg = S.lg ++ [(kd, x, y)] ∧ ∀ x' y', ¬ (x' = x ∧ y' = y) → S'.pa x' y' = S.pa x' y'))
theorem rn21_pa (S : Fs21) (kd x y : Int) (nn : Sh21) (x' y' : Int) (h : ¬ (x' = x ∧ y' = y)) : (rn21 S kd x y nn).pa x' y' = S.pa x' y' := by
  unfold rn21
  split
  · show up21 _ _ _ _ _ _ = _
    unfold up21; rw [if_neg h]
  · show up21 _ _ _ _ _ _ = _
    unfold up21; rw [if_neg h]
theorem st21_refl (S : Fs21) : St21 S S := ⟨rfl, rfl, rfl, .inl ⟨rfl, rfl⟩⟩
theorem st21_rn (S : Fs21) (kd x y : Int) (nn : Sh21) (h : S.on = true) : St21 S (rn21 S kd x y nn) := by
  obtain ⟨e1, e2, e3, e4⟩ := rn21_lg S kd x y nn
  exact ⟨e4, e3, e2, .inr ⟨h, kd, x, y, e1, fun x' y' h => rn21_pa S kd x y nn x' y' h⟩⟩
theorem rf21_on {on : Bool} {ps : Nat} {x y : Int} (h : ¬ rf21 on ps x y ≠ 0) : on = true := by
  unfold rf21 at h
  cases on
  · simp at h
  · rfl
theorem st21_er (S : Fs21) (x y : Int) : St21 S (erS21 S x y) := by
  unfold erS21
  split
  · exact st21_refl S
  · rename_i h1
    split
    · exact st21_refl S
    · exact st21_rn _ _ _ _ _ (rf21_on h1)
theorem st21_pg (S : Fs21) (x y : Int) (L : List Int) : St21 S (pgS21 S x y L) := by
  unfold pgS21
  split
  · exact st21_refl S
  · rename_i h1
    split
    · exact st21_refl S
    · split
      · exact st21_refl S
      · exact st21_rn _ _ _ _ _ (rf21_on h1)
theorem st21_cu (S : Fs21) (n : Int) (L : List Int) : St21 S (cuS21 S n L) := by
  unfold cuS21
  split
  · exact st21_refl S
  · split
    · exact st21_refl S
    · exact ⟨rfl, rfl, rfl, .inl ⟨rfl, rfl⟩⟩
theorem st21_po (S : Fs21) : St21 S { S with on := true } := ⟨rfl, rfl, rfl, .inl ⟨rfl, rfl⟩⟩
theorem st21_tu (S : Fs21) : St21 S (tuS21 S) := by
  unfold tuS21
  split
  · exact ⟨rfl, rfl, rfl, .inl ⟨rfl, rfl⟩⟩
  · exact st21_refl S
theorem er21_zero {S : Fs21} {x y : Int} (h : erE21 S x y = 0) : S.on = true ∧ (erS21 S x y).lg.length = S.lg.length + 1 := by
  unfold erE21 at h
  unfold erS21
  by_cases h1 : rf21 S.on S.ps x y ≠ 0
  · rw [if_pos h1] at h; exact absurd h h1
  · rw [if_neg h1] at h ⊢
    by_cases h2 : wo21 S x y = true
    · rw [if_pos h2] at h; omega
    · rw [if_neg h2]
      exact ⟨rf21_on h1, by rw [(rn21_lg _ _ _ _ _).1]; simp⟩
theorem pg21_zero {S : Fs21} {x y : Int} {L : List Int} (h : pgE21 S x y L.length = 0) : S.on = true ∧ (pgS21 S x y L).lg.length = S.lg.length + 1 := by
  unfold pgE21 at h
  unfold pgS21
  by_cases h1 : rf21 S.on S.ps x y ≠ 0
  · rw [if_pos h1] at h; exact absurd h h1
  · rw [if_neg h1] at h ⊢
    by_cases h2 : S.pg < L.length
    · rw [if_pos h2] at h; omega
    · rw [if_neg h2] at h ⊢
      by_cases h3 : (sh21 S x y).er = false
      · rw [if_pos h3] at h; omega
      · rw [if_neg h3]
        exact ⟨rf21_on h1, by rw [(rn21_lg _ _ _ _ _).1]; simp⟩
/-- The wear, by the log's length; no limit. -/
structure Wk21 (S : Fs21) : Prop where
  lm : S.lm = 0
  wr : ∀ x y, (sh21 S x y).wr ≤ (S.lg.length : Int)
theorem Wk21.rn {S : Fs21} (h : Wk21 S) (kd x y : Int) (nn : Sh21) (hn : nn.wr ≤ (sh21 S x y).wr + 1) : Wk21 (rn21 S kd x y nn) := by
  obtain ⟨e1, e2, e3, e4⟩ := rn21_lg S kd x y nn
  refine ⟨by rw [e2]; exact h.lm, fun x' y' => ?_⟩
  rw [sh21_rn, e1]
  have h1 := h.wr x' y'
  have h2 := h.wr x y
  simp only [List.length_append, List.length_cons, List.length_nil]
  split <;> omega
theorem Wk21.er {S : Fs21} (h : Wk21 S) (x y : Int) : Wk21 (erS21 S x y) := by
  unfold erS21; split; exact h; split; exact h; exact h.rn _ _ _ _ (by simp)
theorem Wk21.pg {S : Fs21} (h : Wk21 S) (x y : Int) (L : List Int) : Wk21 (pgS21 S x y L) := by
  unfold pgS21; split; exact h; split; exact h; split; exact h; exact h.rn _ _ _ _ (by show (sh21 S x y).wr ≤ _; omega)
theorem Wk21.cu {S : Fs21} (h : Wk21 S) (n : Int) (L : List Int) : Wk21 (cuS21 S n L) := by
  unfold cuS21; split; exact h; split; exact h; exact ⟨h.lm, h.wr⟩
theorem Wk21.po {S : Fs21} (h : Wk21 S) : Wk21 { S with on := true } := ⟨h.lm, h.wr⟩
theorem Wk21.tu {S : Fs21} (h : Wk21 S) : Wk21 (tuS21 S) := by
  unfold tuS21; split; exact ⟨h.lm, h.wr⟩; exact h
theorem ok21_tu {S : Fs21} (h : Ok21 S) : Ok21 (tuS21 S) := by
  unfold tuS21
  split
  · exact ⟨h.pg, h.ps, by show 1 - S.ac = 0 ∨ 1 - S.ac = 1; have := h.ac; omega, h.lm, h.lf, h.tn, h.sh⟩
  · exact h
/-- It has no power again. -/
theorem dn21 {S : Fs21} (h : Ok21 S) (hw : Wk21 S) (hon : S.on = true) (hl : (S.lg.length : Int) < 1099511627776) :
    cuE21 S 1 0 = 0 ∧ erE21 (cuS21 S 1 []) 2 1 = 213 ∧ (erS21 (cuS21 S 1 []) 2 1).on = false ∧ (erS21 (cuS21 S 1 []) 2 1).lg.length = S.lg.length + 1 ∧ Eq21 S (erS21 (cuS21 S 1 []) 2 1) := by
  have e0 : cuS21 S 1 [] = { S with lf := 1, tn := [] } := by
    unfold cuS21
    rw [if_neg (by rw [hon]; simp), if_neg (by simp)]
    simp
  have hr : rf21 (cuS21 S 1 []).on (cuS21 S 1 []).ps 2 1 = 0 := by
    rw [e0]
    show rf21 S.on S.ps 2 1 = 0
    rw [hon]
    simp [rf21, ms21, pn21]
  have hwo : wo21 (cuS21 S 1 []) 2 1 = false := by
    rw [e0]
    have h1 := hw.wr 2 1
    have h2 := hw.lm
    show (decide (1099511627776 ≤ (sh21 S 2 1).wr) || (decide (0 < S.lm) && decide (S.lm ≤ (sh21 S 2 1).wr))) = false
    rw [h2]
    simp
    omega
  have hE : erS21 (cuS21 S 1 []) 2 1 = cu21 { S with lf := 1, tn := [] } 1 2 1 ⟨[], true, (sh21 S 2 1).wr + 1⟩ := by
    unfold erS21
    rw [if_neg (by rw [hr]; simp), if_neg (by rw [hwo]; simp), e0]
    unfold rn21
    rw [if_pos rfl]
    rfl
  refine ⟨?_, ?_, ?_, ?_, ?_⟩
  · unfold cuE21
    rw [if_neg (by rw [hon]; simp), if_neg (by simp)]
  · unfold erE21
    rw [if_neg (by rw [hr]; simp), if_neg (by rw [hwo]; simp), e0]
    rfl
  · rw [hE]; rfl
  · rw [hE]; show (S.lg ++ _).length = _; simp
  · rw [hE]
    refine ⟨rfl, rfl, fun i => ?_⟩
    refine pB21_eq (S := S) (S' := cu21 { S with lf := 1, tn := [] } 1 2 1 ⟨[], true, (sh21 S 2 1).wr + 1⟩) rfl (by have := h.pg; omega) i fun j hj => ?_
    unfold bt21 cu21
    generalize ((i / 4096 : Nat) : Int) = x
    generalize ((i % 4096 : Nat) : Int) = y
    by_cases e : x = 2 ∧ y = 1
    · obtain ⟨rfl, rfl⟩ := e
      have hb := (sh21_ok h 2 1).1
      show (((up21 S.pa 2 1 ⟨la21 S.pg [] (sh21 S 2 1).b, false, _⟩) 2 1).getD _).b.getD j 255 = _
      unfold up21
      rw [if_pos ⟨rfl, rfl⟩]
      exact la21_nil S.pg _ hb j hj
    · show (((up21 S.pa 2 1 ⟨la21 S.pg [] (sh21 S 2 1).b, false, _⟩) x y).getD _).b.getD j 255 = _
      unfold up21
      rw [if_neg e]
      rfl
/-- A page that is not the operation's has kept its bytes. -/
theorem St21.keeps {S S' : Fs21} (h : St21 S S') (hp : 0 < S.pg) (i : Nat) :
    pB21 S' i = pB21 S i ∨ (∃ o, S'.lg[S.lg.length]? = some o ∧ S.lg.length < S'.lg.length ∧ o.2.1 = ((i / 4096 : Nat) : Int) ∧ o.2.2 = ((i % 4096 : Nat) : Int)) := by
  obtain ⟨h1, h2, -, h3⟩ := h
  rcases h3 with ⟨-, h4⟩ | ⟨-, kd, x, y, h4, h5⟩
  · exact .inl ((eq21_pa h1 h2 h4).2.2 i)
  · by_cases e : ((i / 4096 : Nat) : Int) = x ∧ ((i % 4096 : Nat) : Int) = y
    · refine .inr ⟨(kd, x, y), by rw [h4]; simp, by rw [h4]; simp, e.1.symm, e.2.symm⟩
    · refine .inl (pB21_eq h1 hp i fun j hj => ?_)
      unfold bt21 sh21
      rw [h5 _ _ e]
theorem St21.al {S S' : Fs21} (h : St21 S S') (hp : 0 < S.pg) (t i : Nat) :
    al21 S' t i = al21 S t i ∨ (∃ o, S'.lg[S.lg.length]? = some o ∧ S.lg.length < S'.lg.length ∧ o.2.1 = ((i / 4096 : Nat) : Int) ∧ o.2.2 = ((i % 4096 : Nat) : Int)) := by
  rcases h.keeps hp i with e | e
  · refine .inl ?_
    unfold al21
    rw [h.2.1, e]
  · exact .inr e
theorem wk21_new (p q : Nat) (ac : Int) (L0 L1 : List Int) : Wk21 (nw21 p q ac L0 L1) := by
  have h := wi21_new p q ac 0 L0 L1 (by omega)
  refine ⟨rfl, fun x y => ?_⟩
  have h1 := (h.wr x y).2
  exact Int.le_trans h1 (by omega)
end Go.Proofs.Ythefcmhmcgjcoaa
