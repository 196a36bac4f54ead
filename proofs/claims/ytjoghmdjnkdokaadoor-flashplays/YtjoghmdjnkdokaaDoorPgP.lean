
import Derived.Test.YtjoghmdjnkdokaaDoorPgF
import Derived.Test.YtjoghmdjnkdokaaDoorRfB
namespace Go.Proofs.YtjoghmdjnkdokaaDoor
open Go.RowKit Go.Shelf
set_option linter.unusedVariables false
set_option linter.unusedSimpArgs false

/-! What stands in the pages behind bytes that were written (pure). -/
def ch22 (pg : Nat) (L : List Int) (y : Nat) : List Int := (L.drop (y * pg)).take pg
/-- A flash that nothing stops. -/
structure Qt22 (S : Fs21) : Prop where
  on : S.on = true
  lf : S.lf = 0
  lm : S.lm = 0
theorem sh21_go (S : Fs21) (kd x y : Int) (s : Sh21) (x' y' : Int) : sh21 (go21 S kd x y s) x' y' = if x' = x ∧ y' = y then s else sh21 S x' y' := by
  have := sh21_up S x y s x' y'
  rw [← this]
  rfl
theorem rn22 {S : Fs21} (h : Qt22 S) (kd x y : Int) (s : Sh21) : rn21 S kd x y s = go21 S kd x y s ∧ Qt22 (go21 S kd x y s) ∧ rc21 S = 0 := by
  have h1 := h.lf
  refine ⟨?_, ⟨h.on, ?_, h.lm⟩, ?_⟩
  · unfold rn21; rw [if_neg (by omega)]
  · show max 0 (S.lf - 1) = 0; omega
  · unfold rc21; rw [if_neg (by omega)]
theorem ly22_hold {S : Fs21} {P : Pw22} (h : Qt22 S) (har : P.ar = 0 ∨ P.ar = 1) (hpn : P.pn < S.ps) (hbf : P.bf.length ≤ S.pg) (hwr : (sh21 S P.ar (P.pn : Int)).wr = 0) :
    lyE22 S P = 0 ∧ lyP22 S P = { P with pn := P.pn + 1, bf := [] } ∧ Qt22 (lyS22 S P) ∧ (lyS22 S P).lg = S.lg ++ [(1, P.ar, (P.pn : Int)), (2, P.ar, (P.pn : Int))] ∧ ∀ x y, sh21 (lyS22 S P) x y = if x = P.ar ∧ y = (P.pn : Int) then ⟨P.bf, false, 1⟩ else sh21 S x y := by
  have hms : ms21 S.ps P.ar (P.pn : Int) = 0 := by
    have hpn21 : pn21 S.ps P.ar = (S.ps : Int) := by unfold pn21; rw [if_neg (by omega), if_neg (by omega)]
    unfold ms21
    rw [hpn21, if_neg (by omega)]
  have hrf : rf21 S.on S.ps P.ar (P.pn : Int) = 0 := by rw [h.on]; exact hms
  have hwo : wo21 S P.ar (P.pn : Int) = false := by unfold wo21; rw [hwr, h.lm]; decide
  obtain ⟨r1, r2, r3⟩ := rn22 h 1 P.ar (P.pn : Int) ⟨[], true, (sh21 S P.ar (P.pn : Int)).wr + 1⟩
  have e1 : erE21 S P.ar (P.pn : Int) = 0 := by unfold erE21; rw [hrf, if_neg (by simp), hwo]; exact r3
  have e2 : erS21 S P.ar (P.pn : Int) = go21 S 1 P.ar (P.pn : Int) ⟨[], true, (sh21 S P.ar (P.pn : Int)).wr + 1⟩ := by unfold erS21; rw [hrf, if_neg (by simp), hwo, if_neg (by simp)]; exact r1
  obtain ⟨S1, hS1⟩ : ∃ S1, S1 = go21 S 1 P.ar (P.pn : Int) ⟨[], true, (sh21 S P.ar (P.pn : Int)).wr + 1⟩ := ⟨_, rfl⟩
  rw [← hS1] at e2 r2
  have hs1 : sh21 S1 P.ar (P.pn : Int) = ⟨[], true, 1⟩ := by rw [hS1, sh21_go, hwr]; simp
  have hrf1 : rf21 S1.on S1.ps P.ar (P.pn : Int) = 0 := by rw [r2.on, show S1.ps = S.ps by rw [hS1]; rfl]; exact hms
  have hpg1 : S1.pg = S.pg := by rw [hS1]; rfl
  obtain ⟨q1, q2, q3⟩ := rn22 r2 2 P.ar (P.pn : Int) ⟨P.bf, false, (sh21 S1 P.ar (P.pn : Int)).wr⟩
  have e3 : pgE21 S1 P.ar (P.pn : Int) P.bf.length = 0 := by unfold pgE21; rw [hrf1, if_neg (by simp), if_neg (by omega), hs1, if_neg (by simp)]; exact q3
  have e4 : pgS21 S1 P.ar (P.pn : Int) P.bf = go21 S1 2 P.ar (P.pn : Int) ⟨P.bf, false, (sh21 S1 P.ar (P.pn : Int)).wr⟩ := by unfold pgS21; rw [hrf1, if_neg (by simp), if_neg (by omega)]; rw [if_neg (by rw [hs1]; simp)]; exact q1
  have hE : lyE22 S P = 0 := by unfold lyE22; rw [e1, if_neg (by simp), e2]; exact e3
  have hS : lyS22 S P = go21 S1 2 P.ar (P.pn : Int) ⟨P.bf, false, (sh21 S1 P.ar (P.pn : Int)).wr⟩ := by unfold lyS22; rw [e1, if_neg (by simp), e2]; exact e4
  refine ⟨hE, ?_, by rw [hS]; exact q2, ?_, fun x y => ?_⟩
  · unfold lyP22; rw [if_neg (by rw [hE]; simp)]
  · rw [hS]
    show S1.lg ++ _ = _
    rw [hS1]
    show (S.lg ++ _) ++ _ = _
    simp
  · rw [hS, sh21_go, hs1]
    by_cases e : x = P.ar ∧ y = (P.pn : Int)
    · rw [if_pos e, if_pos e]
    · rw [if_neg e, if_neg e, hS1, sh21_go, if_neg e]
/-- What holds behind the bytes L. -/
structure Hp22 (S0 S : Fs21) (P : Pw22) (ar : Int) (L : List Int) : Prop where
  qt : Qt22 S
  pg : S.pg = S0.pg
  ps : S.ps = S0.ps
  ac : S.ac = S0.ac
  ok : Ok21 S
  sh : ∀ x y : Int, sh21 S x y = if x = ar ∧ 0 ≤ y ∧ y < (P.pn : Int) then ⟨ch22 S0.pg L y.toNat, false, 1⟩ else sh21 S0 x y
  pn : P.pn * S0.pg + P.bf.length = L.length
  bf : P.bf = L.drop (P.pn * S0.pg)
  lt : P.bf.length < S0.pg
  ea : P.ar = ar
  cl : P.cl = 0
  lg : S.lg.length = 2 * P.pn
  wr : ∀ y, (sh21 S0 ar y).wr = 0
theorem ch22_more (pg : Nat) (L M : List Int) (y : Nat) (h : (y + 1) * pg ≤ L.length) : ch22 pg (L ++ M) y = ch22 pg L y := by
  unfold ch22
  rw [Nat.succ_mul] at h
  rw [List.drop_append, List.take_append, List.length_drop]
  have : pg - (L.length - y * pg) = 0 := by omega
  rw [this]; simp
theorem hp22_one {S0 S : Fs21} {P : Pw22} {ar : Int} {L : List Int} (h : Hp22 S0 S P ar L) (har : ar = 0 ∨ ar = 1) (c : Int) (hl : L.length + 1 ≤ S0.pg * S0.ps) :
    if (P.bf ++ [c]).length = S.pg then lyE22 S { P with bf := P.bf ++ [c] } = 0 ∧ Hp22 S0 (lyS22 S { P with bf := P.bf ++ [c] }) (lyP22 S { P with bf := P.bf ++ [c] }) ar (L ++ [c]) ∧ (lyP22 S { P with bf := P.bf ++ [c] }).wn = P.wn
    else Hp22 S0 S { P with bf := P.bf ++ [c] } ar (L ++ [c]) := by
  have hpn := h.pn
  have hdr : (L ++ [c]).drop (P.pn * S0.pg) = P.bf ++ [c] := by
    rw [List.drop_append, ← h.bf, show P.pn * S0.pg - L.length = 0 by omega]; rfl
  have hshm : ∀ x y : Int, (if x = ar ∧ 0 ≤ y ∧ y < (P.pn : Int) then (⟨ch22 S0.pg (L ++ [c]) y.toNat, false, 1⟩ : Sh21) else sh21 S0 x y) = sh21 S x y := fun x y => by
    rw [h.sh]
    by_cases e : x = ar ∧ 0 ≤ y ∧ y < (P.pn : Int)
    · rw [if_pos e, if_pos e, ch22_more]
      have : (y.toNat + 1) * S0.pg ≤ P.pn * S0.pg := Nat.mul_le_mul_right _ (by omega)
      omega
    · rw [if_neg e, if_neg e]
  split
  · rename_i hf
    have hf' : (P.bf ++ [c]).length = S0.pg := by rw [hf, h.pg]
    have hsm : (P.pn + 1) * S0.pg = P.pn * S0.pg + S0.pg := Nat.succ_mul _ _
    have hlt : P.pn < S.ps := by
      rw [h.ps]
      have h1 : (P.pn + 1) * S0.pg ≤ S0.ps * S0.pg := by rw [Nat.mul_comm S0.ps]; simp at hf'; omega
      have h2 : 0 < S0.pg := by have := h.lt; omega
      have := Nat.le_of_mul_le_mul_right h1 h2
      omega
    obtain ⟨y1, y2, y3, y4, y5⟩ := ly22_hold (P := { P with bf := P.bf ++ [c] }) h.qt (by show P.ar = 0 ∨ P.ar = 1; rw [h.ea]; exact har) hlt (by show (P.bf ++ [c]).length ≤ S.pg; omega) (by
      show (sh21 S P.ar (P.pn : Int)).wr = 0
      rw [h.sh, if_neg (by omega), h.ea]; exact h.wr _)
    have hy := lyS22_pg S { P with bf := P.bf ++ [c] }
    refine ⟨y1, ⟨y3, hy.1.trans h.pg, hy.2.1.trans h.ps, hy.2.2.1.trans h.ac, ok22_ly h.ok _, fun x y => ?_, ?_, ?_, ?_, ?_, ?_, ?_, h.wr⟩, ?_⟩
    · rw [y5, y2]
      show (if x = P.ar ∧ y = (P.pn : Int) then _ else _) = if x = ar ∧ 0 ≤ y ∧ y < ((P.pn + 1 : Nat) : Int) then _ else _
      rw [h.ea, ← hshm]
      by_cases e : x = ar ∧ y = (P.pn : Int)
      · rw [if_pos e, if_pos ⟨e.1, by omega, by omega⟩]
        have e2 : y.toNat = P.pn := by omega
        rw [e2]
        unfold ch22
        rw [hdr, List.take_of_length_le (by omega)]
      · rw [if_neg e]
        by_cases e3 : x = ar ∧ 0 ≤ y ∧ y < (P.pn : Int)
        · rw [if_pos e3, if_pos ⟨e3.1, e3.2.1, by omega⟩]
        · rw [if_neg e3, if_neg (fun q => by
            rcases Int.lt_or_le y (P.pn : Int) with w | w
            · exact e3 ⟨q.1, q.2.1, w⟩
            · exact e ⟨q.1, by omega⟩)]
    · rw [y2]; show (P.pn + 1) * S0.pg + 0 = (L ++ [c]).length; simp at hf' ⊢; omega
    · rw [y2]; show [] = _; rw [List.drop_eq_nil_of_le]; simp at hf' ⊢; show L.length + 1 ≤ (P.pn + 1) * S0.pg; omega
    · rw [y2]; show 0 < S0.pg; have := h.lt; omega
    · rw [y2]; exact h.ea
    · rw [y2]; exact h.cl
    · rw [y4, y2, List.length_append]; show S.lg.length + 2 = 2 * (P.pn + 1); rw [h.lg]; omega
    · rw [y2]
  · rename_i hf
    rw [h.pg] at hf
    refine ⟨h.qt, h.pg, h.ps, h.ac, h.ok, fun x y => (hshm x y).symm, ?_, hdr.symm, ?_, h.ea, h.cl, h.lg, h.wr⟩
    · show P.pn * S0.pg + (P.bf ++ [c]).length = (L ++ [c]).length; simp; omega
    · show (P.bf ++ [c]).length < S0.pg; have := h.lt; simp at hf ⊢; omega
theorem hp22_tk {S0 : Fs21} {ar : Int} (har : ar = 0 ∨ ar = 1) : ∀ (M : List Int) (S : Fs21) (P : Pw22) (L : List Int), Hp22 S0 S P ar L → L.length + M.length ≤ S0.pg * S0.ps →
    (tk22 S P M).2.2 = 0 ∧ Hp22 S0 (tk22 S P M).1 (tk22 S P M).2.1 ar (L ++ M) ∧ (tk22 S P M).2.1.wn = P.wn
  | [], S, P, L, h, _ => by
    rw [tk22, List.append_nil]; exact ⟨rfl, h, rfl⟩
  | c :: M, S, P, L, h, hl => by
    have h1 := hp22_one h har c (by simp at hl; omega)
    have el : L ++ c :: M = (L ++ [c]) ++ M := by simp
    rw [tk22]
    split
    · rename_i hf
      rw [if_pos hf] at h1
      obtain ⟨q1, q2, q3⟩ := h1
      rw [if_neg (by rw [q1]; simp), el]
      have := hp22_tk har M _ _ _ q2 (by simp at hl ⊢; omega)
      exact ⟨this.1, this.2.1, this.2.2.trans q3⟩
    · rename_i hf
      rw [if_neg hf] at h1
      rw [el]
      exact hp22_tk har M _ _ _ h1 (by simp at hl ⊢; omega)
theorem hp22_wr {S0 S : Fs21} {P : Pw22} {ar : Int} {L : List Int} (h : Hp22 S0 S P ar L) (har : ar = 0 ∨ ar = 1) (hw : P.wn = L.length) (hL : L.length ≤ S0.pg * S0.ps) (M : List Int) :
    if S0.pg * S0.ps < L.length + M.length then wrE22 S P M = 220 ∧ wrS22 S P M = S ∧ wrP22 S P M = P
    else wrE22 S P M = 0 ∧ Hp22 S0 (wrS22 S P M) (wrP22 S P M) ar (L ++ M) ∧ (wrP22 S P M).wn = (L ++ M).length := by
  have hmx : mx22 S = S0.pg * S0.ps := by unfold mx22; rw [h.pg, h.ps]
  have hfu : fu22 S P M.length ↔ S0.pg * S0.ps < L.length + M.length := by
    unfold fu22; rw [hmx, hw]; omega
  unfold wrE22 wrS22 wrP22
  rw [h.cl]
  have hz : ¬ ((0 : Int) ≠ 0) := by simp
  rw [if_neg hz, if_neg hz, if_neg hz]
  split
  · rename_i e
    rw [if_pos (hfu.2 e), if_pos (hfu.2 e), if_pos (hfu.2 e)]
    exact ⟨rfl, rfl, rfl⟩
  · rename_i e
    have hn : ¬ fu22 S P M.length := fun q => e (hfu.1 q)
    rw [if_neg hn, if_neg hn, if_neg hn]
    obtain ⟨q1, q2, q3⟩ := hp22_tk har M S P L h (by omega)
    have hP : tkP22 S P M = { (tk22 S P M).2.1 with wn := (tk22 S P M).2.1.wn + M.length } := by unfold tkP22; rw [if_pos q1]
    refine ⟨q1, ?_, ?_⟩
    · rw [hP]
      exact ⟨q2.qt, q2.pg, q2.ps, q2.ac, q2.ok, q2.sh, q2.pn, q2.bf, q2.lt, q2.ea, q2.cl, q2.lg, q2.wr⟩
    · rw [hP]; show (tk22 S P M).2.1.wn + M.length = _; rw [q3, hw]; simp
theorem hp22_new (p q : Nat) (ac : Int) (L0 L1 : List Int) (hp : 64 ≤ p ∧ p ≤ 4096) (hq : 1 ≤ q ∧ q ≤ 4096) (ha : ac = 0 ∨ ac = 1) : Hp22 (nw21 p q ac L0 L1) (nw21 p q ac L0 L1) ⟨1 - ac, [], 0, 0, 0⟩ (1 - ac) [] := by
  refine ⟨⟨rfl, rfl, rfl⟩, rfl, rfl, rfl, ok21_new p q ac L0 L1 hp hq ha, fun x y => ?_, by simp, by simp, ?_, rfl, rfl, rfl, fun y => ?_⟩
  · rw [if_neg (by show ¬ (_ ∧ _ ∧ y < ((0 : Nat) : Int)); omega)]
  · show 0 < p; omega
  · unfold sh21 nw21 pj21
    simp only
    split
    · unfold ck21
      split <;> rfl
    · rfl
end Go.Proofs.YtjoghmdjnkdokaaDoor
