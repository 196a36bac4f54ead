
import Derived.Test.YtjoghmdjnkdokaaDoorPgP
import Derived.Test.YtjoghmdjnkdokaaDoorFlQ
namespace Go.Proofs.YtjoghmdjnkdokaaDoor
open Go.RowKit Go.Shelf
set_option linter.unusedVariables false
set_option linter.unusedSimpArgs false

/-! The log behind bytes that were written, the power cut at an operation (pure). -/
def od22 (ar : Int) (k : Nat) : List (Int × Int × Int) := (List.range k).map fun i => ((if i % 2 = 0 then 1 else 2 : Int), ar, ((i / 2 : Nat) : Int))
theorem od22_len (ar : Int) (k : Nat) : (od22 ar k).length = k := by simp [od22]
theorem od22_e (ar : Int) (k : Nat) : od22 ar (2 * k + 1) = od22 ar (2 * k) ++ [(1, ar, (k : Int))] := by
  unfold od22
  rw [List.range_succ, List.map_append]
  have h1 : 2 * k % 2 = 0 := by omega
  have h2 : 2 * k / 2 = k := by omega
  simp [h1, h2]
theorem od22_p (ar : Int) (k : Nat) : od22 ar (2 * (k + 1)) = od22 ar (2 * k + 1) ++ [(2, ar, (k : Int))] := by
  unfold od22
  rw [show 2 * (k + 1) = (2 * k + 1) + 1 by omega, List.range_succ, List.map_append]
  have h1 : ¬ (2 * k + 1) % 2 = 0 := by omega
  have h2 : (2 * k + 1) / 2 = k := by omega
  simp
  omega
/-- The power is there. -/
structure Ay22 (S0 S : Fs21) (P : Pw22) (ar : Int) (tc : Nat) : Prop where
  on : S.on = true
  lm : S.lm = 0
  lf : S.lf = if tc = 0 then 0 else (tc : Int) - 2 * (P.pn : Int)
  hl : tc = 0 ∨ 2 * P.pn < tc
  pg : S.pg = S0.pg
  ps : S.ps = S0.ps
  ac : S.ac = S0.ac
  ok : Ok21 S
  wr : ∀ y : Int, (P.pn : Int) ≤ y → (sh21 S ar y).wr = 0
  ea : P.ar = ar
  cl : P.cl = 0
  lg : S.lg = od22 ar (2 * P.pn)
/-- It was cut. -/
structure De22 (S0 S : Fs21) (P : Pw22) (ar : Int) (tc : Nat) : Prop where
  cl : P.cl ≠ 0
  lg : S.lg = od22 ar tc
  po : 0 < tc
  pg : S.pg = S0.pg
  ps : S.ps = S0.ps
  ac : S.ac = S0.ac
  ok : Ok21 S
  ea : P.ar = ar
theorem ly22_cut {S0 S : Fs21} {P : Pw22} {ar : Int} {tc : Nat} (h : Ay22 S0 S P ar tc) (har : ar = 0 ∨ ar = 1) (hpn : P.pn < S.ps) (hbf : P.bf.length ≤ S.pg) :
    (lyE22 S P = 0 ∧ lyP22 S P = { P with pn := P.pn + 1, bf := [] } ∧ Ay22 S0 (lyS22 S P) (lyP22 S P) ar tc) ∨ (lyE22 S P ≠ 0 ∧ De22 S0 (lyS22 S P) (lyP22 S P) ar tc ∧ tc ≤ 2 * (P.pn + 1) ∧ (lyP22 S P).wn = P.wn ∧ (lyP22 S P).pn = P.pn) := by
  have hwr := h.wr (P.pn : Int) (by omega)
  rw [← h.ea] at hwr
  have hms : ms21 S.ps P.ar (P.pn : Int) = 0 := by
    have hpn21 : pn21 S.ps P.ar = (S.ps : Int) := by unfold pn21; rw [if_neg (by rw [h.ea]; omega), if_neg (by rw [h.ea]; omega)]
    unfold ms21
    rw [hpn21, if_neg (by omega)]
  have hrf : rf21 S.on S.ps P.ar (P.pn : Int) = 0 := by rw [h.on]; exact hms
  have hwo : wo21 S P.ar (P.pn : Int) = false := by unfold wo21; rw [hwr, h.lm]; decide
  have hy := lyS22_pg S P
  have hok := ok22_ly h.ok P
  have e1 : erE21 S P.ar (P.pn : Int) = rc21 S := by unfold erE21; rw [hrf, if_neg (by simp), hwo]; simp
  have e2 : erS21 S P.ar (P.pn : Int) = rn21 S 1 P.ar (P.pn : Int) ⟨[], true, (sh21 S P.ar (P.pn : Int)).wr + 1⟩ := by unfold erS21; rw [hrf, if_neg (by simp), hwo, if_neg (by simp)]
  have hlf := h.lf
  have hhl := h.hl
  by_cases l1 : S.lf = 1
  · right
    have htc : tc = 2 * P.pn + 1 := by
      by_cases t0 : tc = 0
      · rw [if_pos t0] at hlf; omega
      · rw [if_neg t0] at hlf; omega
    have hrc : rc21 S = 213 := by unfold rc21; rw [if_pos l1]
    have hE : lyE22 S P = 213 := by unfold lyE22; rw [e1, hrc, if_pos (by decide)]
    have hS : lyS22 S P = rn21 S 1 P.ar (P.pn : Int) ⟨[], true, (sh21 S P.ar (P.pn : Int)).wr + 1⟩ := by unfold lyS22; rw [e1, hrc, if_pos (by decide), e2]
    have hP : lyP22 S P = { P with cl := 213 } := by unfold lyP22; rw [hE, if_pos (by decide)]
    refine ⟨by rw [hE]; decide, ⟨by rw [hP]; simp, ?_, by omega, hy.1.trans h.pg, hy.2.1.trans h.ps, hy.2.2.1.trans h.ac, hok, by rw [hP]; exact h.ea⟩, by omega, by rw [hP], by rw [hP]⟩
    rw [hS]
    unfold rn21
    rw [if_pos l1]
    show S.lg ++ [(1, P.ar, (P.pn : Int))] = _
    rw [htc, od22_e, h.lg, h.ea]
  · have hrc : rc21 S = 0 := by unfold rc21; rw [if_neg l1]
    rw [hrc] at e1
    obtain ⟨S1, hS1⟩ : ∃ S1, S1 = go21 S 1 P.ar (P.pn : Int) ⟨[], true, (sh21 S P.ar (P.pn : Int)).wr + 1⟩ := ⟨_, rfl⟩
    have e2' : erS21 S P.ar (P.pn : Int) = S1 := by rw [e2, hS1]; unfold rn21; rw [if_neg l1]
    have hs1 : sh21 S1 P.ar (P.pn : Int) = ⟨[], true, 1⟩ := by rw [hS1, sh21_go, hwr]; simp
    have hon1 : S1.on = true := by rw [hS1]; exact h.on
    have hps1 : S1.ps = S.ps := by rw [hS1]; rfl
    have hpg1 : S1.pg = S.pg := by rw [hS1]; rfl
    have hlf1 : S1.lf = max 0 (S.lf - 1) := by rw [hS1]; rfl
    have hlg1 : S1.lg = od22 ar (2 * P.pn + 1) := by rw [hS1, od22_e]; show S.lg ++ _ = _; rw [h.lg, h.ea]
    have hrf1 : rf21 S1.on S1.ps P.ar (P.pn : Int) = 0 := by rw [hon1, hps1]; exact hms
    have e3 : pgE21 S1 P.ar (P.pn : Int) P.bf.length = rc21 S1 := by unfold pgE21; rw [hrf1, if_neg (by simp), if_neg (by omega), hs1, if_neg (by simp)]
    have e4 : pgS21 S1 P.ar (P.pn : Int) P.bf = rn21 S1 2 P.ar (P.pn : Int) ⟨P.bf, false, (sh21 S1 P.ar (P.pn : Int)).wr⟩ := by unfold pgS21; rw [hrf1, if_neg (by simp), if_neg (by omega)]; rw [if_neg (by rw [hs1]; simp)]
    have hE : lyE22 S P = rc21 S1 := by unfold lyE22; rw [e1, if_neg (by simp), e2']; exact e3
    have hS : lyS22 S P = rn21 S1 2 P.ar (P.pn : Int) ⟨P.bf, false, (sh21 S1 P.ar (P.pn : Int)).wr⟩ := by unfold lyS22; rw [e1, if_neg (by simp), e2']; exact e4
    by_cases l2 : S1.lf = 1
    · right
      have htc : tc = 2 * (P.pn + 1) := by
        by_cases t0 : tc = 0
        · rw [if_pos t0] at hlf; omega
        · rw [if_neg t0] at hlf; omega
      have hrc1 : rc21 S1 = 213 := by unfold rc21; rw [if_pos l2]
      rw [hrc1] at hE
      have hP : lyP22 S P = { P with cl := 213 } := by unfold lyP22; rw [hE, if_pos (by decide)]
      refine ⟨by rw [hE]; decide, ⟨by rw [hP]; simp, ?_, by omega, hy.1.trans h.pg, hy.2.1.trans h.ps, hy.2.2.1.trans h.ac, hok, by rw [hP]; exact h.ea⟩, by omega, by rw [hP], by rw [hP]⟩
      rw [hS]
      unfold rn21
      rw [if_pos l2]
      show S1.lg ++ [(2, P.ar, (P.pn : Int))] = _
      rw [htc, od22_p, hlg1, h.ea]
    · left
      have hrc1 : rc21 S1 = 0 := by unfold rc21; rw [if_neg l2]
      rw [hrc1] at hE
      have hP : lyP22 S P = { P with pn := P.pn + 1, bf := [] } := by unfold lyP22; rw [hE, if_neg (by simp)]
      have hS' : lyS22 S P = go21 S1 2 P.ar (P.pn : Int) ⟨P.bf, false, (sh21 S1 P.ar (P.pn : Int)).wr⟩ := by rw [hS]; unfold rn21; rw [if_neg l2]
      have hlm1 : S1.lm = 0 := by rw [hS1]; exact h.lm
      refine ⟨hE, hP, ?_, ?_, ?_, ?_, hy.1.trans h.pg, hy.2.1.trans h.ps, hy.2.2.1.trans h.ac, hok, fun y hy' => ?_, by rw [hP]; exact h.ea, by rw [hP]; exact h.cl, ?_⟩
      · rw [hS']; exact hon1
      · rw [hS']; exact hlm1
      · rw [hS', hP]
        show max 0 (S1.lf - 1) = if tc = 0 then 0 else (tc : Int) - 2 * ((P.pn + 1 : Nat) : Int)
        by_cases t0 : tc = 0
        · rw [if_pos t0] at hlf ⊢; omega
        · rw [if_neg t0] at hlf ⊢; omega
      · rw [hP]
        show tc = 0 ∨ 2 * (P.pn + 1) < tc
        by_cases t0 : tc = 0
        · exact .inl t0
        · rw [if_neg t0] at hlf; right; omega
      · rw [hP] at hy'
        have hy2 : ((P.pn + 1 : Nat) : Int) ≤ y := hy'
        rw [hS', sh21_go, if_neg (by omega), hS1, sh21_go, if_neg (by omega)]
        exact h.wr y (by omega)
      · rw [hS', hP]
        show S1.lg ++ [(2, P.ar, (P.pn : Int))] = od22 ar (2 * (P.pn + 1))
        rw [od22_p, hlg1, h.ea]
/-- Alive behind n bytes. -/
structure Al22 (S0 S : Fs21) (P : Pw22) (ar : Int) (tc n : Nat) : Prop where
  ay : Ay22 S0 S P ar tc
  pn : P.pn * S0.pg + P.bf.length = n
  lt : P.bf.length < S0.pg
def Dd22 (S0 S : Fs21) (P : Pw22) (ar : Int) (tc T : Nat) : Prop := De22 S0 S P ar tc ∧ ∃ m, tc ≤ 2 * m ∧ m * S0.pg ≤ T ∧ P.pn ≤ m
theorem tk22_cut {S0 : Fs21} {ar : Int} {tc : Nat} (har : ar = 0 ∨ ar = 1) : ∀ (M : List Int) (S : Fs21) (P : Pw22) (n : Nat), Al22 S0 S P ar tc n → n + M.length ≤ S0.pg * S0.ps →
    ((tk22 S P M).2.2 = 0 ∧ Al22 S0 (tk22 S P M).1 (tk22 S P M).2.1 ar tc (n + M.length) ∧ (tk22 S P M).2.1.wn = P.wn) ∨ ((tk22 S P M).2.2 ≠ 0 ∧ Dd22 S0 (tk22 S P M).1 (tk22 S P M).2.1 ar tc (n + M.length) ∧ (tk22 S P M).2.1.wn = P.wn)
  | [], S, P, n, h, _ => by
    rw [tk22]; exact .inl ⟨rfl, h, rfl⟩
  | c :: M, S, P, n, h, hl => by
    have hlt := h.lt
    have hpn := h.pn
    have el : n + (c :: M).length = (n + 1) + M.length := by simp; omega
    rw [tk22, el]
    rw [el] at hl
    split
    · rename_i hf
      rw [h.ay.pg] at hf
      have hf' : P.bf.length + 1 = S0.pg := by simpa using hf
      have hsm : (P.pn + 1) * S0.pg = P.pn * S0.pg + S0.pg := Nat.succ_mul _ _
      have hps : P.pn < S.ps := by
        rw [h.ay.ps]
        have h1 : (P.pn + 1) * S0.pg ≤ S0.ps * S0.pg := by rw [Nat.mul_comm S0.ps]; omega
        have := Nat.le_of_mul_le_mul_right h1 (by omega)
        omega
      have hay : Ay22 S0 S { P with bf := P.bf ++ [c] } ar tc := ⟨h.ay.on, h.ay.lm, h.ay.lf, h.ay.hl, h.ay.pg, h.ay.ps, h.ay.ac, h.ay.ok, h.ay.wr, h.ay.ea, h.ay.cl, h.ay.lg⟩
      rcases ly22_cut hay har hps (by show (P.bf ++ [c]).length ≤ S.pg; rw [h.ay.pg]; omega) with ⟨q1, q2, q3⟩ | ⟨q1, q2, q3, q4, q5⟩
      · rw [if_neg (by rw [q1]; simp)]
        have hw : (lyP22 S { P with bf := P.bf ++ [c] }).wn = P.wn := by rw [q2]
        have := tk22_cut har M _ _ (n + 1) ⟨q3, by rw [q2]; show (P.pn + 1) * S0.pg + 0 = n + 1; omega, by rw [q2]; show 0 < S0.pg; omega⟩ hl
        rw [hw] at this
        exact this
      · rw [if_pos q1]
        exact .inr ⟨q1, ⟨q2, P.pn + 1, q3, by omega, by rw [q5]; exact Nat.le_succ _⟩, q4⟩
    · rename_i hf
      rw [h.ay.pg] at hf
      have hf' : ¬ P.bf.length + 1 = S0.pg := by simpa using hf
      exact tk22_cut har M S { P with bf := P.bf ++ [c] } (n + 1) ⟨⟨h.ay.on, h.ay.lm, h.ay.lf, h.ay.hl, h.ay.pg, h.ay.ps, h.ay.ac, h.ay.ok, h.ay.wr, h.ay.ea, h.ay.cl, h.ay.lg⟩, by show P.pn * S0.pg + (P.bf ++ [c]).length = n + 1; simp; omega, by show (P.bf ++ [c]).length < S0.pg; simp; omega⟩ hl
/-- Behind n of T bytes. -/
def St22 (S0 S : Fs21) (P : Pw22) (ar : Int) (tc n T : Nat) : Prop := (Al22 S0 S P ar tc n ∧ P.wn = n) ∨ (Dd22 S0 S P ar tc T ∧ P.wn ≤ T)
theorem st22_wr {S0 S : Fs21} {P : Pw22} {ar : Int} {tc n T : Nat} (h : St22 S0 S P ar tc n T) (har : ar = 0 ∨ ar = 1) (M : List Int) (hn : n + M.length ≤ T) (hT : T ≤ S0.pg * S0.ps) : St22 S0 (wrS22 S P M) (wrP22 S P M) ar tc (n + M.length) T := by
  rcases h with ⟨h, hw⟩ | ⟨h, hw⟩
  · have hz : ¬ ((0 : Int) ≠ 0) := by simp
    have hmx : mx22 S = S0.pg * S0.ps := by unfold mx22; rw [h.ay.pg, h.ay.ps]
    have hnf : ¬ fu22 S P M.length := by unfold fu22; rw [hmx, hw]; omega
    unfold wrS22 wrP22
    rw [h.ay.cl, if_neg hz, if_neg hz, if_neg hnf, if_neg hnf]
    rcases tk22_cut har M S P n h (by omega) with ⟨q1, q2, q3⟩ | ⟨q1, q2, q3⟩
    · left
      have hP : tkP22 S P M = { (tk22 S P M).2.1 with wn := (tk22 S P M).2.1.wn + M.length } := by unfold tkP22; rw [if_pos q1]
      rw [hP]
      refine ⟨⟨⟨q2.ay.on, q2.ay.lm, q2.ay.lf, q2.ay.hl, q2.ay.pg, q2.ay.ps, q2.ay.ac, q2.ay.ok, q2.ay.wr, q2.ay.ea, q2.ay.cl, q2.ay.lg⟩, q2.pn, q2.lt⟩, ?_⟩
      show (tk22 S P M).2.1.wn + M.length = _
      rw [q3, hw]
    · right
      have hP : tkP22 S P M = (tk22 S P M).2.1 := by unfold tkP22; rw [if_neg q1]
      rw [hP]
      obtain ⟨d1, m, d2, d3, d4⟩ := q2
      exact ⟨⟨d1, m, d2, by omega, d4⟩, by rw [q3]; omega⟩
  · right
    unfold wrS22 wrP22
    rw [if_pos h.1.cl, if_pos h.1.cl]
    exact ⟨h, hw⟩
theorem st22_end {S0 S : Fs21} {P : Pw22} {ar : Int} {tc T : Nat} (h : St22 S0 S P ar tc T T) (har : ar = 0 ∨ ar = 1) (hT : T ≤ S0.pg * S0.ps) (hp : 0 < S0.pg) :
    (edS22 S P).lg = od22 ar (if 0 < tc ∧ tc < 2 * ((T + S0.pg - 1) / S0.pg) then tc else 2 * ((T + S0.pg - 1) / S0.pg)) ∧ (edS22 S P).ac = S0.ac ∧ Ok21 (edS22 S P) := by
  have hdead : ∀ (S' : Fs21) (P' : Pw22), De22 S0 S' P' ar tc → tc ≤ 2 * ((T + S0.pg - 1) / S0.pg) → S'.lg = od22 ar (if 0 < tc ∧ tc < 2 * ((T + S0.pg - 1) / S0.pg) then tc else 2 * ((T + S0.pg - 1) / S0.pg)) ∧ S'.ac = S0.ac ∧ Ok21 S' := fun S' P' d hm => by
    refine ⟨?_, d.ac, d.ok⟩
    rw [d.lg]
    by_cases e : tc < 2 * ((T + S0.pg - 1) / S0.pg)
    · rw [if_pos ⟨d.po, e⟩]
    · rw [if_neg (by omega)]; congr 1; omega
  rcases h with ⟨h, hw⟩ | ⟨⟨h, m, hm1, hm2, -⟩, hw⟩
  · have hz : ¬ ((0 : Int) ≠ 0) := by simp
    have hpn := h.pn
    have hlt := h.lt
    unfold edS22
    rw [h.ay.cl, if_neg hz]
    unfold enS22
    by_cases hb : 0 < P.bf.length
    · rw [if_pos hb]
      have hN : (T + S0.pg - 1) / S0.pg = P.pn + 1 := by
        have e : T + S0.pg - 1 = (P.bf.length - 1) + (P.pn + 1) * S0.pg := by rw [Nat.succ_mul]; omega
        rw [e, Nat.add_mul_div_right _ _ hp, Nat.div_eq_of_lt (by omega)]; omega
      have hps : P.pn < S.ps := by
        rw [h.ay.ps]
        have h3 : P.pn * S0.pg < S0.ps * S0.pg := by rw [Nat.mul_comm S0.ps]; omega
        exact Nat.lt_of_mul_lt_mul_right h3
      rcases ly22_cut h.ay har hps (by rw [h.ay.pg]; omega) with ⟨q1, q2, q3⟩ | ⟨q1, q2, q3, q4, q5⟩
      · have hl := q3.hl
        have hlg := q3.lg
        rw [q2] at hl hlg
        have hl' : tc = 0 ∨ 2 * (P.pn + 1) < tc := hl
        have hlg' : (lyS22 S P).lg = od22 ar (2 * (P.pn + 1)) := hlg
        rw [hN, if_neg (by omega)]
        exact ⟨hlg', q3.ac, q3.ok⟩
      · exact hdead _ _ q2 (by rw [hN]; exact q3)
    · rw [if_neg hb]
      have hN : (T + S0.pg - 1) / S0.pg = P.pn := by
        have e : T + S0.pg - 1 = (S0.pg - 1) + P.pn * S0.pg := by omega
        rw [e, Nat.add_mul_div_right _ _ hp, Nat.div_eq_of_lt (by omega)]; omega
      have hl := h.ay.hl
      rw [hN, if_neg (by omega)]
      exact ⟨h.ay.lg, h.ay.ac, h.ay.ok⟩
  · unfold edS22
    rw [if_pos h.cl]
    refine hdead S P h ?_
    have : m ≤ (T + S0.pg - 1) / S0.pg := (Nat.le_div_iff_mul_le hp).2 (by omega)
    omega
theorem st22_new (p q : Nat) (ac : Int) (L0 L1 : List Int) (hp : 64 ≤ p ∧ p ≤ 4096) (hq : 1 ≤ q ∧ q ≤ 4096) (ha : ac = 0 ∨ ac = 1) (tc T : Nat) (ht : tc ≤ 1000000) : cuE21 (nw21 p q ac L0 L1) (tc : Int) 0 = 0 ∧ Ok21 (cuS21 (nw21 p q ac L0 L1) (tc : Int) []) ∧ (cuS21 (nw21 p q ac L0 L1) (tc : Int) []).ac = ac ∧ (cuS21 (nw21 p q ac L0 L1) (tc : Int) []).pg = p ∧ (cuS21 (nw21 p q ac L0 L1) (tc : Int) []).ps = q ∧ St22 (nw21 p q ac L0 L1) (cuS21 (nw21 p q ac L0 L1) (tc : Int) []) ⟨1 - ac, [], 0, 0, 0⟩ (1 - ac) tc 0 T := by
  have hok := ok21_new p q ac L0 L1 hp hq ha
  have hS : cuS21 (nw21 p q ac L0 L1) (tc : Int) [] = { nw21 p q ac L0 L1 with lf := (tc : Int), tn := [] } := by
    unfold cuS21
    rw [if_neg (by show ¬ (true = false); simp), if_neg (by show ¬ ((tc : Int) < 0 ∨ p < 0); omega)]
    split <;> rfl
  rw [hS]
  have hok2 : Ok21 ({ nw21 p q ac L0 L1 with lf := (tc : Int), tn := [] } : Fs21) := ⟨hok.pg, hok.ps, hok.ac, hok.lm, ⟨by show (0 : Int) ≤ (tc : Int); omega, by show (tc : Int) ≤ _; omega⟩, by show 0 ≤ _; omega, hok.sh⟩
  refine ⟨?_, hok2, rfl, rfl, rfl, .inl ⟨⟨⟨rfl, rfl, ?_, ?_, rfl, rfl, rfl, hok2, fun y _ => ?_, rfl, rfl, rfl⟩, by simp, ?_⟩, rfl⟩⟩
  · unfold cuE21
    rw [if_neg (by show ¬ (true = false); simp), if_neg (by show ¬ ((tc : Int) < 0 ∨ p < 0); omega)]
  · show (tc : Int) = if tc = 0 then 0 else (tc : Int) - 2 * ((0 : Nat) : Int)
    split <;> omega
  · show tc = 0 ∨ 2 * 0 < tc; omega
  · exact (hp22_new p q ac L0 L1 hp hq ha).wr y
  · show 0 < p; omega
end Go.Proofs.YtjoghmdjnkdokaaDoor
