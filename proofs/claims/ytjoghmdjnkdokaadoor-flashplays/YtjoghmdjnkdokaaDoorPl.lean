import Derived.Test.YtjoghmdjnkdokaaDoorPk
import Derived.Test.YtjoghmdjnkdokaaDoorPi
import Derived.Test.YtjoghmdjnkdokaaDoorPh
import Derived.StillTailTactics
import Derived.Laws.StructEq
import Derived.Test.YtjoghmdjnkdokaaDoorPb
import Derived.Test.YtjoghmdjnkdokaaDoorProg
import Derived.WalkKit
import Derived.Lib.BitFns
import Derived.Laws.BitsAllLaws
namespace Go.Proofs.YtjoghmdjnkdokaaDoor
open Go.RowKit Go.Shelf
set_option linter.unusedVariables false
set_option linter.unusedSimpArgs false

/-! The document's page writer: End. -/
section
variable {w w' : World} {u b : Nat} {G H : Nat → Prop} {ha : Option Addr} {hc : Nat} {S S' : Fs21} {P P' : Pw22}
theorem Rw22.setO (h : Rw22 w u b ha hc P) (h0 : P.cl = 0) : Rw22 (w.setCell ⟨u, 6, none⟩ (.bool true)) u b ha hc { P with cl := 221 } := by
  refine ⟨?_, own_tr22 h.ow (fun r hr => set_other22 w _ (h.ne r hr)), h.ne, h.bd⟩
  have q := (seven_set22 h.hu (.bool true)).2.2.2
  have e1 : (if P.cl = 221 then 0 else P.cl) = 0 := by rw [h0]; rfl
  rw [e1] at q
  exact q
theorem Rh22.over (h : Rh22 w u b G H ha hc S P) (h0 : P.cl = 0) : Ren22 w (w.setCell ⟨u, 6, none⟩ (.bool true)) u b H S { P with cl := 221 } := by
  have hk : Kp H w (w.setCell ⟨u, 6, none⟩ (.bool true)) := Kp.set h.uH _
  refine ⟨H, ⟨G, ha, hc, ⟨h.fl.kp (fun k e => set_other22 w _ (fun q => h.nu (q ▸ e))) hk.size, h.wr.setO h0, h.nu, h.nh, h.gH, h.uH, h.hH, fun k e => Nat.lt_of_lt_of_le (h.lt k e) hk.size⟩⟩, fun _ e => .inl e, hk⟩
theorem Rh22.same (h : Rh22 w u b G H ha hc S P) : Ren22 w w u b H S P := ⟨H, ⟨G, ha, hc, h⟩, fun _ e => .inl e, Kp.refl _ _⟩
end
end Go.Proofs.YtjoghmdjnkdokaaDoor

namespace Go.Proofs.YtjoghmdjnkdokaaDoor
open Go.RowKit Go.Shelf
set_option linter.unusedVariables false
set_option linter.unusedSimpArgs false

/-! What stands in the pages behind bytes that were written (pure). -/
def ch22 (pg : Nat) (L : List Int) (y : Nat) : List Int := (L.drop (y * pg)).take pg
/-- A flash that nothing stops. -/
structure Qt22 (S : Fs21) : Prop where
  on : S.on = true
  lf : S.lf = 0
  lm : S.lm = 0
theorem sh21_go (S : Fs21) (kd x y : Int) (s : Sh21) (x' y' : Int) : sh21 (go21 S kd x y s) x' y' = if x' = x ∧ y' = y then s else sh21 S x' y' := by
  have := sh21_up S x y s x' y'
  rw [← this]
  rfl
theorem rn22 {S : Fs21} (h : Qt22 S) (kd x y : Int) (s : Sh21) : rn21 S kd x y s = go21 S kd x y s ∧ Qt22 (go21 S kd x y s) ∧ rc21 S = 0 := by
  have h1 := h.lf
  refine ⟨?_, ⟨h.on, ?_, h.lm⟩, ?_⟩
  · unfold rn21; rw [if_neg (by omega)]
  · show max 0 (S.lf - 1) = 0; omega
  · unfold rc21; rw [if_neg (by omega)]
theorem ly22_hold {S : Fs21} {P : Pw22} (h : Qt22 S) (har : P.ar = 0 ∨ P.ar = 1) (hpn : P.pn < S.ps) (hbf : P.bf.length ≤ S.pg) (hwr : (sh21 S P.ar (P.pn : Int)).wr = 0) :
    lyE22 S P = 0 ∧ lyP22 S P = { P with pn := P.pn + 1, bf := [] } ∧ Qt22 (lyS22 S P) ∧ (lyS22 S P).lg = S.lg ++ [(1, P.ar, (P.pn : Int)), (2, P.ar, (P.pn : Int))] ∧ ∀ x y, sh21 (lyS22 S P) x y = if x = P.ar ∧ y = (P.pn : Int) then ⟨P.bf, false, 1⟩ else sh21 S x y := by
  have hms : ms21 S.ps P.ar (P.pn : Int) = 0 := by
    have hpn21 : pn21 S.ps P.ar = (S.ps : Int) := by unfold pn21; rw [if_neg (by omega), if_neg (by omega)]
    unfold ms21
    rw [hpn21, if_neg (by omega)]
  have hrf : rf21 S.on S.ps P.ar (P.pn : Int) = 0 := by rw [h.on]; exact hms
  have hwo : wo21 S P.ar (P.pn : Int) = false := by unfold wo21; rw [hwr, h.lm]; decide
  obtain ⟨r1, r2, r3⟩ := rn22 h 1 P.ar (P.pn : Int) ⟨[], true, (sh21 S P.ar (P.pn : Int)).wr + 1⟩
  have e1 : erE21 S P.ar (P.pn : Int) = 0 := by unfold erE21; rw [hrf, if_neg (by simp), hwo]; exact r3
  have e2 : erS21 S P.ar (P.pn : Int) = go21 S 1 P.ar (P.pn : Int) ⟨[], true, (sh21 S P.ar (P.pn : Int)).wr + 1⟩ := by unfold erS21; rw [hrf, if_neg (by simp), hwo, if_neg (by simp)]; exact r1
  obtain ⟨S1, hS1⟩ : ∃ S1, S1 = go21 S 1 P.ar (P.pn : Int) ⟨[], true, (sh21 S P.ar (P.pn : Int)).wr + 1⟩ := ⟨_, rfl⟩
  rw [← hS1] at e2 r2
  have hs1 : sh21 S1 P.ar (P.pn : Int) = ⟨[], true, 1⟩ := by rw [hS1, sh21_go, hwr]; simp
  have hrf1 : rf21 S1.on S1.ps P.ar (P.pn : Int) = 0 := by rw [r2.on, show S1.ps = S.ps by rw [hS1]; rfl]; exact hms
  have hpg1 : S1.pg = S.pg := by rw [hS1]; rfl
  obtain ⟨q1, q2, q3⟩ := rn22 r2 2 P.ar (P.pn : Int) ⟨P.bf, false, (sh21 S1 P.ar (P.pn : Int)).wr⟩
  have e3 : pgE21 S1 P.ar (P.pn : Int) P.bf.length = 0 := by unfold pgE21; rw [hrf1, if_neg (by simp), if_neg (by omega), hs1, if_neg (by simp)]; exact q3
  have e4 : pgS21 S1 P.ar (P.pn : Int) P.bf = go21 S1 2 P.ar (P.pn : Int) ⟨P.bf, false, (sh21 S1 P.ar (P.pn : Int)).wr⟩ := by unfold pgS21; rw [hrf1, if_neg (by simp), if_neg (by omega)]; rw [if_neg (by rw [hs1]; simp)]; exact q1
  have hE : lyE22 S P = 0 := by unfold lyE22; rw [e1, if_neg (by simp), e2]; exact e3
  have hS : lyS22 S P = go21 S1 2 P.ar (P.pn : Int) ⟨P.bf, false, (sh21 S1 P.ar (P.pn : Int)).wr⟩ := by unfold lyS22; rw [e1, if_neg (by simp), e2]; exact e4
  refine ⟨hE, ?_, by rw [hS]; exact q2, ?_, fun x y => ?_⟩
  · unfold lyP22; rw [if_neg (by rw [hE]; simp)]
  · rw [hS]
    show S1.lg ++ _ = _
    rw [hS1]
    show (S.lg ++ _) ++ _ = _
    simp
  · rw [hS, sh21_go, hs1]
    by_cases e : x = P.ar ∧ y = (P.pn : Int)
    · rw [if_pos e, if_pos e]
    · rw [if_neg e, if_neg e, hS1, sh21_go, if_neg e]
/-- What holds behind the bytes L. -/
structure Hp22 (S0 S : Fs21) (P : Pw22) (ar : Int) (L : List Int) : Prop where
  qt : Qt22 S
  pg : S.pg = S0.pg
  ps : S.ps = S0.ps
  ac : S.ac = S0.ac
  ok : Ok21 S
  sh : ∀ x y : Int, sh21 S x y = if x = ar ∧ 0 ≤ y ∧ y < (P.pn : Int) then ⟨ch22 S0.pg L y.toNat, false, 1⟩ else sh21 S0 x y
  pn : P.pn * S0.pg + P.bf.length = L.length
  bf : P.bf = L.drop (P.pn * S0.pg)
  lt : P.bf.length < S0.pg
  ea : P.ar = ar
  cl : P.cl = 0
  lg : S.lg.length = 2 * P.pn
  wr : ∀ y, (sh21 S0 ar y).wr = 0
theorem ch22_more (pg : Nat) (L M : List Int) (y : Nat) (h : (y + 1) * pg ≤ L.length) : ch22 pg (L ++ M) y = ch22 pg L y := by
  unfold ch22
  rw [Nat.succ_mul] at h
  rw [List.drop_append, List.take_append, List.length_drop]
  have : pg - (L.length - y * pg) = 0 := by omega
  rw [this]; simp
theorem hp22_one {S0 S : Fs21} {P : Pw22} {ar : Int} {L : List Int} (h : Hp22 S0 S P ar L) (har : ar = 0 ∨ ar = 1) (c : Int) (hl : L.length + 1 ≤ S0.pg * S0.ps) :
    if (P.bf ++ [c]).length = S.pg then lyE22 S { P with bf := P.bf ++ [c] } = 0 ∧ Hp22 S0 (lyS22 S { P with bf := P.bf ++ [c] }) (lyP22 S { P with bf := P.bf ++ [c] }) ar (L ++ [c]) ∧ (lyP22 S { P with bf := P.bf ++ [c] }).wn = P.wn
    else Hp22 S0 S { P with bf := P.bf ++ [c] } ar (L ++ [c]) := by
  have hpn := h.pn
  have hdr : (L ++ [c]).drop (P.pn * S0.pg) = P.bf ++ [c] := by
    rw [List.drop_append, ← h.bf, show P.pn * S0.pg - L.length = 0 by omega]; rfl
  have hshm : ∀ x y : Int, (if x = ar ∧ 0 ≤ y ∧ y < (P.pn : Int) then (⟨ch22 S0.pg (L ++ [c]) y.toNat, false, 1⟩ : Sh21) else sh21 S0 x y) = sh21 S x y := fun x y => by
    rw [h.sh]
    by_cases e : x = ar ∧ 0 ≤ y ∧ y < (P.pn : Int)
    · rw [if_pos e, if_pos e, ch22_more]
      have : (y.toNat + 1) * S0.pg ≤ P.pn * S0.pg := Nat.mul_le_mul_right _ (by omega)
      omega
    · rw [if_neg e, if_neg e]
  split
  · rename_i hf
    have hf' : (P.bf ++ [c]).length = S0.pg := by rw [hf, h.pg]
    have hsm : (P.pn + 1) * S0.pg = P.pn * S0.pg + S0.pg := Nat.succ_mul _ _
    have hlt : P.pn < S.ps := by
      rw [h.ps]
      have h1 : (P.pn + 1) * S0.pg ≤ S0.ps * S0.pg := by rw [Nat.mul_comm S0.ps]; simp at hf'; omega
      have h2 : 0 < S0.pg := by have := h.lt; omega
      have := Nat.le_of_mul_le_mul_right h1 h2
      omega
    obtain ⟨y1, y2, y3, y4, y5⟩ := ly22_hold (P := { P with bf := P.bf ++ [c] }) h.qt (by show P.ar = 0 ∨ P.ar = 1; rw [h.ea]; exact har) hlt (by show (P.bf ++ [c]).length ≤ S.pg; omega) (by
      show (sh21 S P.ar (P.pn : Int)).wr = 0
      rw [h.sh, if_neg (by omega), h.ea]; exact h.wr _)
    have hy := lyS22_pg S { P with bf := P.bf ++ [c] }
    refine ⟨y1, ⟨y3, hy.1.trans h.pg, hy.2.1.trans h.ps, hy.2.2.1.trans h.ac, ok22_ly h.ok _, fun x y => ?_, ?_, ?_, ?_, ?_, ?_, ?_, h.wr⟩, ?_⟩
    · rw [y5, y2]
      show (if x = P.ar ∧ y = (P.pn : Int) then _ else _) = if x = ar ∧ 0 ≤ y ∧ y < ((P.pn + 1 : Nat) : Int) then _ else _
      rw [h.ea, ← hshm]
      by_cases e : x = ar ∧ y = (P.pn : Int)
      · rw [if_pos e, if_pos ⟨e.1, by omega, by omega⟩]
        have e2 : y.toNat = P.pn := by omega
        rw [e2]
        unfold ch22
        rw [hdr, List.take_of_length_le (by omega)]
      · rw [if_neg e]
        by_cases e3 : x = ar ∧ 0 ≤ y ∧ y < (P.pn : Int)
        · rw [if_pos e3, if_pos ⟨e3.1, e3.2.1, by omega⟩]
        · rw [if_neg e3, if_neg (fun q => by
            rcases Int.lt_or_le y (P.pn : Int) with w | w
            · exact e3 ⟨q.1, q.2.1, w⟩
            · exact e ⟨q.1, by omega⟩)]
    · rw [y2]; show (P.pn + 1) * S0.pg + 0 = (L ++ [c]).length; simp at hf' ⊢; omega
    · rw [y2]; show [] = _; rw [List.drop_eq_nil_of_le]; simp at hf' ⊢; show L.length + 1 ≤ (P.pn + 1) * S0.pg; omega
    · rw [y2]; show 0 < S0.pg; have := h.lt; omega
    · rw [y2]; exact h.ea
    · rw [y2]; exact h.cl
    · rw [y4, y2, List.length_append]; show S.lg.length + 2 = 2 * (P.pn + 1); rw [h.lg]; omega
    · rw [y2]
  · rename_i hf
    rw [h.pg] at hf
    refine ⟨h.qt, h.pg, h.ps, h.ac, h.ok, fun x y => (hshm x y).symm, ?_, hdr.symm, ?_, h.ea, h.cl, h.lg, h.wr⟩
    · show P.pn * S0.pg + (P.bf ++ [c]).length = (L ++ [c]).length; simp; omega
    · show (P.bf ++ [c]).length < S0.pg; have := h.lt; simp at hf ⊢; omega
theorem hp22_tk {S0 : Fs21} {ar : Int} (har : ar = 0 ∨ ar = 1) : ∀ (M : List Int) (S : Fs21) (P : Pw22) (L : List Int), Hp22 S0 S P ar L → L.length + M.length ≤ S0.pg * S0.ps →
    (tk22 S P M).2.2 = 0 ∧ Hp22 S0 (tk22 S P M).1 (tk22 S P M).2.1 ar (L ++ M) ∧ (tk22 S P M).2.1.wn = P.wn
  | [], S, P, L, h, _ => by
    rw [tk22, List.append_nil]; exact ⟨rfl, h, rfl⟩
  | c :: M, S, P, L, h, hl => by
    have h1 := hp22_one h har c (by simp at hl; omega)
    have el : L ++ c :: M = (L ++ [c]) ++ M := by simp
    rw [tk22]
    split
    · rename_i hf
      rw [if_pos hf] at h1
      obtain ⟨q1, q2, q3⟩ := h1
      rw [if_neg (by rw [q1]; simp), el]
      have := hp22_tk har M _ _ _ q2 (by simp at hl ⊢; omega)
      exact ⟨this.1, this.2.1, this.2.2.trans q3⟩
    · rename_i hf
      rw [if_neg hf] at h1
      rw [el]
      exact hp22_tk har M _ _ _ h1 (by simp at hl ⊢; omega)
theorem hp22_wr {S0 S : Fs21} {P : Pw22} {ar : Int} {L : List Int} (h : Hp22 S0 S P ar L) (har : ar = 0 ∨ ar = 1) (hw : P.wn = L.length) (hL : L.length ≤ S0.pg * S0.ps) (M : List Int) :
    if S0.pg * S0.ps < L.length + M.length then wrE22 S P M = 220 ∧ wrS22 S P M = S ∧ wrP22 S P M = P
    else wrE22 S P M = 0 ∧ Hp22 S0 (wrS22 S P M) (wrP22 S P M) ar (L ++ M) ∧ (wrP22 S P M).wn = (L ++ M).length := by
  have hmx : mx22 S = S0.pg * S0.ps := by unfold mx22; rw [h.pg, h.ps]
  have hfu : fu22 S P M.length ↔ S0.pg * S0.ps < L.length + M.length := by
    unfold fu22; rw [hmx, hw]; omega
  unfold wrE22 wrS22 wrP22
  rw [h.cl]
  have hz : ¬ ((0 : Int) ≠ 0) := by simp
  rw [if_neg hz, if_neg hz, if_neg hz]
  split
  · rename_i e
    rw [if_pos (hfu.2 e), if_pos (hfu.2 e), if_pos (hfu.2 e)]
    exact ⟨rfl, rfl, rfl⟩
  · rename_i e
    have hn : ¬ fu22 S P M.length := fun q => e (hfu.1 q)
    rw [if_neg hn, if_neg hn, if_neg hn]
    obtain ⟨q1, q2, q3⟩ := hp22_tk har M S P L h (by omega)
    have hP : tkP22 S P M = { (tk22 S P M).2.1 with wn := (tk22 S P M).2.1.wn + M.length } := by unfold tkP22; rw [if_pos q1]
    refine ⟨q1, ?_, ?_⟩
    · rw [hP]
      exact ⟨q2.qt, q2.pg, q2.ps, q2.ac, q2.ok, q2.sh, q2.pn, q2.bf, q2.lt, q2.ea, q2.cl, q2.lg, q2.wr⟩
    · rw [hP]; show (tk22 S P M).2.1.wn + M.length = _; rw [q3, hw]; simp
theorem hp22_new (p q : Nat) (ac : Int) (L0 L1 : List Int) (hp : 64 ≤ p ∧ p ≤ 4096) (hq : 1 ≤ q ∧ q ≤ 4096) (ha : ac = 0 ∨ ac = 1) : Hp22 (nw21 p q ac L0 L1) (nw21 p q ac L0 L1) ⟨1 - ac, [], 0, 0, 0⟩ (1 - ac) [] := by
  refine ⟨⟨rfl, rfl, rfl⟩, rfl, rfl, rfl, ok21_new p q ac L0 L1 hp hq ha, fun x y => ?_, by simp, by simp, ?_, rfl, rfl, rfl, fun y => ?_⟩
  · rw [if_neg (by show ¬ (_ ∧ _ ∧ y < ((0 : Nat) : Int)); omega)]
  · show 0 < p; omega
  · unfold sh21 nw21 pj21
    simp only
    split
    · unfold ck21
      split <;> rfl
    · rfl
end Go.Proofs.YtjoghmdjnkdokaaDoor

namespace Go.Proofs.YtjoghmdjnkdokaaDoor
open Go.RowKit Go.Shelf
set_option linter.unusedVariables false
set_option linter.unusedSimpArgs false

/-! The log behind bytes that were written, the power cut at an operation (pure). -/
def od22 (ar : Int) (k : Nat) : List (Int × Int × Int) := (List.range k).map fun i => ((if i % 2 = 0 then 1 else 2 : Int), ar, ((i / 2 : Nat) : Int))
theorem od22_len (ar : Int) (k : Nat) : (od22 ar k).length = k := by simp [od22]
theorem od22_e (ar : Int) (k : Nat) : od22 ar (2 * k + 1) = od22 ar (2 * k) ++ [(1, ar, (k : Int))] := by
  unfold od22
  rw [List.range_succ, List.map_append]
  have h1 : 2 * k % 2 = 0 := by omega
  have h2 : 2 * k / 2 = k := by omega
  simp [h1, h2]
theorem od22_p (ar : Int) (k : Nat) : od22 ar (2 * (k + 1)) = od22 ar (2 * k + 1) ++ [(2, ar, (k : Int))] := by
  unfold od22
  rw [show 2 * (k + 1) = (2 * k + 1) + 1 by omega, List.range_succ, List.map_append]
  have h1 : ¬ (2 * k + 1) % 2 = 0 := by omega
  have h2 : (2 * k + 1) / 2 = k := by omega
  simp
  omega
/-- The power is there. -/
structure Ay22 (S0 S : Fs21) (P : Pw22) (ar : Int) (tc : Nat) : Prop where
  on : S.on = true
  lm : S.lm = 0
  lf : S.lf = if tc = 0 then 0 else (tc : Int) - 2 * (P.pn : Int)
  hl : tc = 0 ∨ 2 * P.pn < tc
  pg : S.pg = S0.pg
  ps : S.ps = S0.ps
  ac : S.ac = S0.ac
  ok : Ok21 S
  wr : ∀ y : Int, (P.pn : Int) ≤ y → (sh21 S ar y).wr = 0
  ea : P.ar = ar
  cl : P.cl = 0
  lg : S.lg = od22 ar (2 * P.pn)
/-- It was cut. -/
structure De22 (S0 S : Fs21) (P : Pw22) (ar : Int) (tc : Nat) : Prop where
  cl : P.cl ≠ 0
  lg : S.lg = od22 ar tc
  po : 0 < tc
  pg : S.pg = S0.pg
  ps : S.ps = S0.ps
  ac : S.ac = S0.ac
  ok : Ok21 S
  ea : P.ar = ar
theorem ly22_cut {S0 S : Fs21} {P : Pw22} {ar : Int} {tc : Nat} (h : Ay22 S0 S P ar tc) (har : ar = 0 ∨ ar = 1) (hpn : P.pn < S.ps) (hbf : P.bf.length ≤ S.pg) :
    (lyE22 S P = 0 ∧ lyP22 S P = { P with pn := P.pn + 1, bf := [] } ∧ Ay22 S0 (lyS22 S P) (lyP22 S P) ar tc) ∨ (lyE22 S P ≠ 0 ∧ De22 S0 (lyS22 S P) (lyP22 S P) ar tc ∧ tc ≤ 2 * (P.pn + 1) ∧ (lyP22 S P).wn = P.wn ∧ (lyP22 S P).pn = P.pn) := by
  have hwr := h.wr (P.pn : Int) (by omega)
  rw [← h.ea] at hwr
  have hms : ms21 S.ps P.ar (P.pn : Int) = 0 := by
    have hpn21 : pn21 S.ps P.ar = (S.ps : Int) := by unfold pn21; rw [if_neg (by rw [h.ea]; omega), if_neg (by rw [h.ea]; omega)]
    unfold ms21
    rw [hpn21, if_neg (by omega)]
  have hrf : rf21 S.on S.ps P.ar (P.pn : Int) = 0 := by rw [h.on]; exact hms
  have hwo : wo21 S P.ar (P.pn : Int) = false := by unfold wo21; rw [hwr, h.lm]; decide
  have hy := lyS22_pg S P
  have hok := ok22_ly h.ok P
  have e1 : erE21 S P.ar (P.pn : Int) = rc21 S := by unfold erE21; rw [hrf, if_neg (by simp), hwo]; simp
  have e2 : erS21 S P.ar (P.pn : Int) = rn21 S 1 P.ar (P.pn : Int) ⟨[], true, (sh21 S P.ar (P.pn : Int)).wr + 1⟩ := by unfold erS21; rw [hrf, if_neg (by simp), hwo, if_neg (by simp)]
  have hlf := h.lf
  have hhl := h.hl
  by_cases l1 : S.lf = 1
  · right
    have htc : tc = 2 * P.pn + 1 := by
      by_cases t0 : tc = 0
      · rw [if_pos t0] at hlf; omega
      · rw [if_neg t0] at hlf; omega
    have hrc : rc21 S = 213 := by unfold rc21; rw [if_pos l1]
    have hE : lyE22 S P = 213 := by unfold lyE22; rw [e1, hrc, if_pos (by decide)]
    have hS : lyS22 S P = rn21 S 1 P.ar (P.pn : Int) ⟨[], true, (sh21 S P.ar (P.pn : Int)).wr + 1⟩ := by unfold lyS22; rw [e1, hrc, if_pos (by decide), e2]
    have hP : lyP22 S P = { P with cl := 213 } := by unfold lyP22; rw [hE, if_pos (by decide)]
    refine ⟨by rw [hE]; decide, ⟨by rw [hP]; simp, ?_, by omega, hy.1.trans h.pg, hy.2.1.trans h.ps, hy.2.2.1.trans h.ac, hok, by rw [hP]; exact h.ea⟩, by omega, by rw [hP], by rw [hP]⟩
    rw [hS]
    unfold rn21
    rw [if_pos l1]
    show S.lg ++ [(1, P.ar, (P.pn : Int))] = _
    rw [htc, od22_e, h.lg, h.ea]
  · have hrc : rc21 S = 0 := by unfold rc21; rw [if_neg l1]
    rw [hrc] at e1
    obtain ⟨S1, hS1⟩ : ∃ S1, S1 = go21 S 1 P.ar (P.pn : Int) ⟨[], true, (sh21 S P.ar (P.pn : Int)).wr + 1⟩ := ⟨_, rfl⟩
    have e2' : erS21 S P.ar (P.pn : Int) = S1 := by rw [e2, hS1]; unfold rn21; rw [if_neg l1]
    have hs1 : sh21 S1 P.ar (P.pn : Int) = ⟨[], true, 1⟩ := by rw [hS1, sh21_go, hwr]; simp
    have hon1 : S1.on = true := by rw [hS1]; exact h.on
    have hps1 : S1.ps = S.ps := by rw [hS1]; rfl
    have hpg1 : S1.pg = S.pg := by rw [hS1]; rfl
    have hlf1 : S1.lf = max 0 (S.lf - 1) := by rw [hS1]; rfl
    have hlg1 : S1.lg = od22 ar (2 * P.pn + 1) := by rw [hS1, od22_e]; show S.lg ++ _ = _; rw [h.lg, h.ea]
    have hrf1 : rf21 S1.on S1.ps P.ar (P.pn : Int) = 0 := by rw [hon1, hps1]; exact hms
    have e3 : pgE21 S1 P.ar (P.pn : Int) P.bf.length = rc21 S1 := by unfold pgE21; rw [hrf1, if_neg (by simp), if_neg (by omega), hs1, if_neg (by simp)]
    have e4 : pgS21 S1 P.ar (P.pn : Int) P.bf = rn21 S1 2 P.ar (P.pn : Int) ⟨P.bf, false, (sh21 S1 P.ar (P.pn : Int)).wr⟩ := by unfold pgS21; rw [hrf1, if_neg (by simp), if_neg (by omega)]; rw [if_neg (by rw [hs1]; simp)]
    have hE : lyE22 S P = rc21 S1 := by unfold lyE22; rw [e1, if_neg (by simp), e2']; exact e3
    have hS : lyS22 S P = rn21 S1 2 P.ar (P.pn : Int) ⟨P.bf, false, (sh21 S1 P.ar (P.pn : Int)).wr⟩ := by unfold lyS22; rw [e1, if_neg (by simp), e2']; exact e4
    by_cases l2 : S1.lf = 1
    · right
      have htc : tc = 2 * (P.pn + 1) := by
        by_cases t0 : tc = 0
        · rw [if_pos t0] at hlf; omega
        · rw [if_neg t0] at hlf; omega
      have hrc1 : rc21 S1 = 213 := by unfold rc21; rw [if_pos l2]
      rw [hrc1] at hE
      have hP : lyP22 S P = { P with cl := 213 } := by unfold lyP22; rw [hE, if_pos (by decide)]
      refine ⟨by rw [hE]; decide, ⟨by rw [hP]; simp, ?_, by omega, hy.1.trans h.pg, hy.2.1.trans h.ps, hy.2.2.1.trans h.ac, hok, by rw [hP]; exact h.ea⟩, by omega, by rw [hP], by rw [hP]⟩
      rw [hS]
      unfold rn21
      rw [if_pos l2]
      show S1.lg ++ [(2, P.ar, (P.pn : Int))] = _
      rw [htc, od22_p, hlg1, h.ea]
    · left
      have hrc1 : rc21 S1 = 0 := by unfold rc21; rw [if_neg l2]
      rw [hrc1] at hE
      have hP : lyP22 S P = { P with pn := P.pn + 1, bf := [] } := by unfold lyP22; rw [hE, if_neg (by simp)]
      have hS' : lyS22 S P = go21 S1 2 P.ar (P.pn : Int) ⟨P.bf, false, (sh21 S1 P.ar (P.pn : Int)).wr⟩ := by rw [hS]; unfold rn21; rw [if_neg l2]
      have hlm1 : S1.lm = 0 := by rw [hS1]; exact h.lm
      refine ⟨hE, hP, ?_, ?_, ?_, ?_, hy.1.trans h.pg, hy.2.1.trans h.ps, hy.2.2.1.trans h.ac, hok, fun y hy' => ?_, by rw [hP]; exact h.ea, by rw [hP]; exact h.cl, ?_⟩
      · rw [hS']; exact hon1
      · rw [hS']; exact hlm1
      · rw [hS', hP]
        show max 0 (S1.lf - 1) = if tc = 0 then 0 else (tc : Int) - 2 * ((P.pn + 1 : Nat) : Int)
        by_cases t0 : tc = 0
        · rw [if_pos t0] at hlf ⊢; omega
        · rw [if_neg t0] at hlf ⊢; omega
      · rw [hP]
        show tc = 0 ∨ 2 * (P.pn + 1) < tc
        by_cases t0 : tc = 0
        · exact .inl t0
        · rw [if_neg t0] at hlf; right; omega
      · rw [hP] at hy'
        have hy2 : ((P.pn + 1 : Nat) : Int) ≤ y := hy'
        rw [hS', sh21_go, if_neg (by omega), hS1, sh21_go, if_neg (by omega)]
        exact h.wr y (by omega)
      · rw [hS', hP]
        show S1.lg ++ [(2, P.ar, (P.pn : Int))] = od22 ar (2 * (P.pn + 1))
        rw [od22_p, hlg1, h.ea]
/-- Alive behind n bytes. -/
structure Al22 (S0 S : Fs21) (P : Pw22) (ar : Int) (tc n : Nat) : Prop where
  ay : Ay22 S0 S P ar tc
  pn : P.pn * S0.pg + P.bf.length = n
  lt : P.bf.length < S0.pg
def Dd22 (S0 S : Fs21) (P : Pw22) (ar : Int) (tc T : Nat) : Prop := De22 S0 S P ar tc ∧ ∃ m, tc ≤ 2 * m ∧ m * S0.pg ≤ T ∧ P.pn ≤ m
theorem tk22_cut {S0 : Fs21} {ar : Int} {tc : Nat} (har : ar = 0 ∨ ar = 1) : ∀ (M : List Int) (S : Fs21) (P : Pw22) (n : Nat), Al22 S0 S P ar tc n → n + M.length ≤ S0.pg * S0.ps →
    ((tk22 S P M).2.2 = 0 ∧ Al22 S0 (tk22 S P M).1 (tk22 S P M).2.1 ar tc (n + M.length) ∧ (tk22 S P M).2.1.wn = P.wn) ∨ ((tk22 S P M).2.2 ≠ 0 ∧ Dd22 S0 (tk22 S P M).1 (tk22 S P M).2.1 ar tc (n + M.length) ∧ (tk22 S P M).2.1.wn = P.wn)
  | [], S, P, n, h, _ => by
    rw [tk22]; exact .inl ⟨rfl, h, rfl⟩
  | c :: M, S, P, n, h, hl => by
    have hlt := h.lt
    have hpn := h.pn
    have el : n + (c :: M).length = (n + 1) + M.length := by simp; omega
    rw [tk22, el]
    rw [el] at hl
    split
    · rename_i hf
      rw [h.ay.pg] at hf
      have hf' : P.bf.length + 1 = S0.pg := by simpa using hf
      have hsm : (P.pn + 1) * S0.pg = P.pn * S0.pg + S0.pg := Nat.succ_mul _ _
      have hps : P.pn < S.ps := by
        rw [h.ay.ps]
        have h1 : (P.pn + 1) * S0.pg ≤ S0.ps * S0.pg := by rw [Nat.mul_comm S0.ps]; omega
        have := Nat.le_of_mul_le_mul_right h1 (by omega)
        omega
      have hay : Ay22 S0 S { P with bf := P.bf ++ [c] } ar tc := ⟨h.ay.on, h.ay.lm, h.ay.lf, h.ay.hl, h.ay.pg, h.ay.ps, h.ay.ac, h.ay.ok, h.ay.wr, h.ay.ea, h.ay.cl, h.ay.lg⟩
      rcases ly22_cut hay har hps (by show (P.bf ++ [c]).length ≤ S.pg; rw [h.ay.pg]; omega) with ⟨q1, q2, q3⟩ | ⟨q1, q2, q3, q4, q5⟩
      · rw [if_neg (by rw [q1]; simp)]
        have hw : (lyP22 S { P with bf := P.bf ++ [c] }).wn = P.wn := by rw [q2]
        have := tk22_cut har M _ _ (n + 1) ⟨q3, by rw [q2]; show (P.pn + 1) * S0.pg + 0 = n + 1; omega, by rw [q2]; show 0 < S0.pg; omega⟩ hl
        rw [hw] at this
        exact this
      · rw [if_pos q1]
        exact .inr ⟨q1, ⟨q2, P.pn + 1, q3, by omega, by rw [q5]; exact Nat.le_succ _⟩, q4⟩
    · rename_i hf
      rw [h.ay.pg] at hf
      have hf' : ¬ P.bf.length + 1 = S0.pg := by simpa using hf
      exact tk22_cut har M S { P with bf := P.bf ++ [c] } (n + 1) ⟨⟨h.ay.on, h.ay.lm, h.ay.lf, h.ay.hl, h.ay.pg, h.ay.ps, h.ay.ac, h.ay.ok, h.ay.wr, h.ay.ea, h.ay.cl, h.ay.lg⟩, by show P.pn * S0.pg + (P.bf ++ [c]).length = n + 1; simp; omega, by show (P.bf ++ [c]).length < S0.pg; simp; omega⟩ hl
/-- Behind n of T bytes. -/
def St22 (S0 S : Fs21) (P : Pw22) (ar : Int) (tc n T : Nat) : Prop := (Al22 S0 S P ar tc n ∧ P.wn = n) ∨ (Dd22 S0 S P ar tc T ∧ P.wn ≤ T)
theorem st22_wr {S0 S : Fs21} {P : Pw22} {ar : Int} {tc n T : Nat} (h : St22 S0 S P ar tc n T) (har : ar = 0 ∨ ar = 1) (M : List Int) (hn : n + M.length ≤ T) (hT : T ≤ S0.pg * S0.ps) : St22 S0 (wrS22 S P M) (wrP22 S P M) ar tc (n + M.length) T := by
  rcases h with ⟨h, hw⟩ | ⟨h, hw⟩
  · have hz : ¬ ((0 : Int) ≠ 0) := by simp
    have hmx : mx22 S = S0.pg * S0.ps := by unfold mx22; rw [h.ay.pg, h.ay.ps]
    have hnf : ¬ fu22 S P M.length := by unfold fu22; rw [hmx, hw]; omega
    unfold wrS22 wrP22
    rw [h.ay.cl, if_neg hz, if_neg hz, if_neg hnf, if_neg hnf]
    rcases tk22_cut har M S P n h (by omega) with ⟨q1, q2, q3⟩ | ⟨q1, q2, q3⟩
    · left
      have hP : tkP22 S P M = { (tk22 S P M).2.1 with wn := (tk22 S P M).2.1.wn + M.length } := by unfold tkP22; rw [if_pos q1]
      rw [hP]
      refine ⟨⟨⟨q2.ay.on, q2.ay.lm, q2.ay.lf, q2.ay.hl, q2.ay.pg, q2.ay.ps, q2.ay.ac, q2.ay.ok, q2.ay.wr, q2.ay.ea, q2.ay.cl, q2.ay.lg⟩, q2.pn, q2.lt⟩, ?_⟩
      show (tk22 S P M).2.1.wn + M.length = _
      rw [q3, hw]
    · right
      have hP : tkP22 S P M = (tk22 S P M).2.1 := by unfold tkP22; rw [if_neg q1]
      rw [hP]
      obtain ⟨d1, m, d2, d3, d4⟩ := q2
      exact ⟨⟨d1, m, d2, by omega, d4⟩, by rw [q3]; omega⟩
  · right
    unfold wrS22 wrP22
    rw [if_pos h.1.cl, if_pos h.1.cl]
    exact ⟨h, hw⟩
theorem st22_end {S0 S : Fs21} {P : Pw22} {ar : Int} {tc T : Nat} (h : St22 S0 S P ar tc T T) (har : ar = 0 ∨ ar = 1) (hT : T ≤ S0.pg * S0.ps) (hp : 0 < S0.pg) :
    (edS22 S P).lg = od22 ar (if 0 < tc ∧ tc < 2 * ((T + S0.pg - 1) / S0.pg) then tc else 2 * ((T + S0.pg - 1) / S0.pg)) ∧ (edS22 S P).ac = S0.ac ∧ Ok21 (edS22 S P) := by
  have hdead : ∀ (S' : Fs21) (P' : Pw22), De22 S0 S' P' ar tc → tc ≤ 2 * ((T + S0.pg - 1) / S0.pg) → S'.lg = od22 ar (if 0 < tc ∧ tc < 2 * ((T + S0.pg - 1) / S0.pg) then tc else 2 * ((T + S0.pg - 1) / S0.pg)) ∧ S'.ac = S0.ac ∧ Ok21 S' := fun S' P' d hm => by
    refine ⟨?_, d.ac, d.ok⟩
    rw [d.lg]
    by_cases e : tc < 2 * ((T + S0.pg - 1) / S0.pg)
    · rw [if_pos ⟨d.po, e⟩]
    · rw [if_neg (by omega)]; congr 1; omega
  rcases h with ⟨h, hw⟩ | ⟨⟨h, m, hm1, hm2, -⟩, hw⟩
  · have hz : ¬ ((0 : Int) ≠ 0) := by simp
    have hpn := h.pn
    have hlt := h.lt
    unfold edS22
    rw [h.ay.cl, if_neg hz]
    unfold enS22
    by_cases hb : 0 < P.bf.length
    · rw [if_pos hb]
      have hN : (T + S0.pg - 1) / S0.pg = P.pn + 1 := by
        have e : T + S0.pg - 1 = (P.bf.length - 1) + (P.pn + 1) * S0.pg := by rw [Nat.succ_mul]; omega
        rw [e, Nat.add_mul_div_right _ _ hp, Nat.div_eq_of_lt (by omega)]; omega
      have hps : P.pn < S.ps := by
        rw [h.ay.ps]
        have h3 : P.pn * S0.pg < S0.ps * S0.pg := by rw [Nat.mul_comm S0.ps]; omega
        exact Nat.lt_of_mul_lt_mul_right h3
      rcases ly22_cut h.ay har hps (by rw [h.ay.pg]; omega) with ⟨q1, q2, q3⟩ | ⟨q1, q2, q3, q4, q5⟩
      · have hl := q3.hl
        have hlg := q3.lg
        rw [q2] at hl hlg
        have hl' : tc = 0 ∨ 2 * (P.pn + 1) < tc := hl
        have hlg' : (lyS22 S P).lg = od22 ar (2 * (P.pn + 1)) := hlg
        rw [hN, if_neg (by omega)]
        exact ⟨hlg', q3.ac, q3.ok⟩
      · exact hdead _ _ q2 (by rw [hN]; exact q3)
    · rw [if_neg hb]
      have hN : (T + S0.pg - 1) / S0.pg = P.pn := by
        have e : T + S0.pg - 1 = (S0.pg - 1) + P.pn * S0.pg := by omega
        rw [e, Nat.add_mul_div_right _ _ hp, Nat.div_eq_of_lt (by omega)]; omega
      have hl := h.ay.hl
      rw [hN, if_neg (by omega)]
      exact ⟨h.ay.lg, h.ay.ac, h.ay.ok⟩
  · unfold edS22
    rw [if_pos h.cl]
    refine hdead S P h ?_
    have : m ≤ (T + S0.pg - 1) / S0.pg := (Nat.le_div_iff_mul_le hp).2 (by omega)
    omega
theorem st22_new (p q : Nat) (ac : Int) (L0 L1 : List Int) (hp : 64 ≤ p ∧ p ≤ 4096) (hq : 1 ≤ q ∧ q ≤ 4096) (ha : ac = 0 ∨ ac = 1) (tc T : Nat) (ht : tc ≤ 1000000) : cuE21 (nw21 p q ac L0 L1) (tc : Int) 0 = 0 ∧ Ok21 (cuS21 (nw21 p q ac L0 L1) (tc : Int) []) ∧ (cuS21 (nw21 p q ac L0 L1) (tc : Int) []).ac = ac ∧ (cuS21 (nw21 p q ac L0 L1) (tc : Int) []).pg = p ∧ (cuS21 (nw21 p q ac L0 L1) (tc : Int) []).ps = q ∧ St22 (nw21 p q ac L0 L1) (cuS21 (nw21 p q ac L0 L1) (tc : Int) []) ⟨1 - ac, [], 0, 0, 0⟩ (1 - ac) tc 0 T := by
  have hok := ok21_new p q ac L0 L1 hp hq ha
  have hS : cuS21 (nw21 p q ac L0 L1) (tc : Int) [] = { nw21 p q ac L0 L1 with lf := (tc : Int), tn := [] } := by
    unfold cuS21
    rw [if_neg (by show ¬ (true = false); simp), if_neg (by show ¬ ((tc : Int) < 0 ∨ p < 0); omega)]
    split <;> rfl
  rw [hS]
  have hok2 : Ok21 ({ nw21 p q ac L0 L1 with lf := (tc : Int), tn := [] } : Fs21) := ⟨hok.pg, hok.ps, hok.ac, hok.lm, ⟨by show (0 : Int) ≤ (tc : Int); omega, by show (tc : Int) ≤ _; omega⟩, by show 0 ≤ _; omega, hok.sh⟩
  refine ⟨?_, hok2, rfl, rfl, rfl, .inl ⟨⟨⟨rfl, rfl, ?_, ?_, rfl, rfl, rfl, hok2, fun y _ => ?_, rfl, rfl, rfl⟩, by simp, ?_⟩, rfl⟩⟩
  · unfold cuE21
    rw [if_neg (by show ¬ (true = false); simp), if_neg (by show ¬ ((tc : Int) < 0 ∨ p < 0); omega)]
  · show (tc : Int) = if tc = 0 then 0 else (tc : Int) - 2 * ((0 : Nat) : Int)
    split <;> omega
  · show tc = 0 ∨ 2 * 0 < tc; omega
  · exact (hp22_new p q ac L0 L1 hp hq ha).wr y
  · show 0 < p; omega
end Go.Proofs.YtjoghmdjnkdokaaDoor

namespace Go.Proofs.YtjoghmdjnkdokaaDoor
open Go.RowKit Go.Shelf
set_option linter.unusedVariables false
set_option linter.unusedSimpArgs false

/-! PageCuts: logs held against each other. -/
theorem still_all22c {P : Program} {id : Nat} {Q : Exit → Act → World → Prop} {a : Act} {w : World} {l : List Oper} (hm : P.follows .mixedOrders = true) (hB : Region.lexB .any l.toArray = true)
    (h : wpStill P l.toArray w.drew (fun a' => Q .normal a' w.drew) l a) : (Code.region id l.toArray true).wp P Q a w := wp_region_still_lit hm hB h
theorem ops22 {w : World} {N n rc : Nat} {ra : Option Addr} {L : List (Int × Int × Int)} (h : w.ownsRow N 128 3 (.slice ra n rc) n (lgc21 L)) (hn : L.length = n) {i : Nat} (hi : i < n) :
    ∃ (g : Nat) (o : Int × Int × Int), L[i]? = some o ∧ ra = some ⟨g, 0, none⟩ ∧ g < w.heap.size ∧ w.cell? ⟨g, i * 3, none⟩ = some (.int .i64 o.1) ∧ w.cell? ⟨g, i * 3 + 1, none⟩ = some (.int .i64 o.2.1) ∧ w.cell? ⟨g, i * 3 + 2, none⟩ = some (.int .i64 o.2.2) := by
  obtain ⟨o, ho⟩ : ∃ o, L[i]? = some o := ⟨_, List.getElem?_eq_getElem (by omega)⟩
  rcases h.2 with ⟨h1, h2⟩ | ⟨g, cp, cu, h1, h2, h3, h4⟩
  · omega
  · simp only [Value.slice.injEq] at h1
    obtain ⟨rfl, -, rfl⟩ := h1
    obtain ⟨e1, e2, e3⟩ := lgc21_get L i o ho
    have hadd : ∀ j, (⟨g, 0, none⟩ : Addr).add j = ⟨g, j, none⟩ := fun j => by unfold Addr.add; split <;> simp_all
    have c1 := h.cells (g := g) rfl _ _ e1
    have c2 := h.cells (g := g) rfl _ _ e2
    have c3 := h.cells (g := g) rfl _ _ e3
    rw [hadd] at c1 c2 c3
    exact ⟨g, o, ho, rfl, (Array.getElem?_eq_some_iff.1 h3).1, c1, c2, c3⟩
end Go.Proofs.YtjoghmdjnkdokaaDoor

namespace Go.Proofs.YtjoghmdjnkdokaaDoor
open Go.RowKit Go.Shelf
set_option linter.unusedVariables false
set_option linter.unusedSimpArgs false

/-! PageRuns: the two logs. -/
theorem ops22d {w : World} {N n rc : Nat} {ra : Option Addr} {L : List (Int × Int × Int)} (h : w.ownsRow N 125 3 (.slice ra n rc) n (lgc21 L)) (hn : L.length = n) {i : Nat} (hi : i < n) :
    ∃ (g : Nat) (o : Int × Int × Int), L[i]? = some o ∧ ra = some ⟨g, 0, none⟩ ∧ g < w.heap.size ∧ w.cell? ⟨g, i * 3, none⟩ = some (.int .i64 o.1) ∧ w.cell? ⟨g, i * 3 + 1, none⟩ = some (.int .i64 o.2.1) ∧ w.cell? ⟨g, i * 3 + 2, none⟩ = some (.int .i64 o.2.2) := by
  obtain ⟨o, ho⟩ : ∃ o, L[i]? = some o := ⟨_, List.getElem?_eq_getElem (by omega)⟩
  rcases h.2 with ⟨h1, h2⟩ | ⟨g, cp, cu, h1, h2, h3, h4⟩
  · omega
  · simp only [Value.slice.injEq] at h1
    obtain ⟨rfl, -, rfl⟩ := h1
    obtain ⟨e1, e2, e3⟩ := lgc21_get L i o ho
    have hadd : ∀ j, (⟨g, 0, none⟩ : Addr).add j = ⟨g, j, none⟩ := fun j => by unfold Addr.add; split <;> simp_all
    have c1 := h.cells (g := g) rfl _ _ e1
    have c2 := h.cells (g := g) rfl _ _ e2
    have c3 := h.cells (g := g) rfl _ _ e3
    rw [hadd] at c1 c2 c3
    exact ⟨g, o, ho, rfl, (Array.getElem?_eq_some_iff.1 h3).1, c1, c2, c3⟩
end Go.Proofs.YtjoghmdjnkdokaaDoor

namespace Go.Proofs.YtjoghmdjnkdokaaDoor
open Go.RowKit Go.Shelf
set_option linter.unusedVariables false
set_option linter.unusedSimpArgs false

/-! Regions walked by hand: two operations that may come up; an append by its run. -/
section
variable {P : Program} {ops : Array Oper} {Q : Exit → Act → World → Prop} {md : Region.Mode} {S : World → Prop} {fin : Nat}
theorem wpAnyK_two24 {i j : Nat} {fuel : Nat} {listed : Array Bool} {a : Act} {w : World} {o p : Oper} (hr : Region.ready md ops listed = [i, j]) (ho : ops[i]? = some o) (hp : ops[j]? = some p)
    (h : ∀ K' : Act → World → Prop, Shut (∀ a w, (i ≠ fin → S w) → ((i ≠ fin → S w) → wpAnyK P md ops Q S fin fuel (listed.setIfInBounds i true) a w) → K' a w) → if Region.wanted o (yielded ops a.tmps) = true then Oper.wp P o a w K' Q else K' (a.put o.dst undef) w)
    (h2 : ∀ K' : Act → World → Prop, Shut (∀ a w, (j ≠ fin → S w) → ((j ≠ fin → S w) → wpAnyK P md ops Q S fin fuel (listed.setIfInBounds j true) a w) → K' a w) → if Region.wanted p (yielded ops a.tmps) = true then Oper.wp P p a w K' Q else K' (a.put p.dst undef) w) :
    wpAnyK P md ops Q S fin (fuel + 1) listed a w :=
  ⟨fun h0 => (by rw [hr] at h0; cases h0), fun k hk => by
    rw [hr] at hk
    have : k = i ∨ k = j := by simpa using hk
    rcases this with rfl | rfl
    · exact wpOp_step ho (fun K' hK => h K' (fun a w hS hW => hK a w ⟨hS, hW hS⟩))
    · exact wpOp_step hp (fun K' hK => h2 K' (fun a w hS hW => hK a w ⟨hS, hW hS⟩))⟩
end
theorem operwp_app24 {P : Program} {o : Oper} {a : Act} {K : Act → World → Prop} {Q : Exit → Act → World → Prop} {w : World} (s x : Operand) (t : TypeId)
    (ho : o.op = Op.call { callee := Callee.builtin Builtin.append, args := #[s, x], argTypes := #[t, t] }) {u v v' : Value} {w' : World} (hs : a.eval s = u) (hx : a.eval x = v) (hr : (Builtin.append_ #[t, t] o.type #[u, v]).run P w = .ok v' w')
    (h : K (a.put o.dst v') w') : Oper.wp P o a w K Q := by
  unfold Oper.wp execOp
  simp only [ho, resolve, invoke, builtin, Sem.run_bind, Sem.run_pure, Result.andThen_ok, List.map_toArray, List.map_cons, List.map_nil, hs, hx, hr]
  exact h
end Go.Proofs.YtjoghmdjnkdokaaDoor

namespace Go.Proofs.YtjoghmdjnkdokaaDoor
open Go.RowKit
set_option linter.unusedVariables false

theorem tab_size : (Lib.len8tab.size : Int) = 256 := by rw [Lib.len8tab_size]; rfl
/-- One way's end: the table's number behind so many bits. -/
theorem len_end (k a : Nat) (y : Int) (h : y.toNat < Lib.len8tab.size) (h0 : 0 ≤ y) (h1 : y ≤ 255) (hk : k ≤ 56) (ha : a = k + Lib.bitLen y.toNat) : wrap64 ((k : Int) + wrap64 ((Lib.len8tab[y.toNat]'h).toNat : Int)) = (a : Int) := by
  have e : ((Lib.len8tab[y.toNat]'h).toNat : Int) = Lib.len8 y := by
    unfold Lib.len8
    rw [getElem?_pos Lib.len8tab y.toNat h]
    rfl
  have l := Lib.bitLen_le8' y h0 h1
  rw [e, Lib.len8_of y h0 h1, ha]
  unfold wrap64
  omega
theorem len_end0 (a : Nat) (y : Int) (h : y.toNat < Lib.len8tab.size) (h0 : 0 ≤ y) (h1 : y ≤ 255) (ha : a = Lib.bitLen y.toNat) : wrap64 (wrap64 ((Lib.len8tab[y.toNat]'h).toNat : Int)) = (a : Int) := by
  have := len_end 0 a y h h0 h1 (by omega) (by omega)
  simpa using this

theorem shift_to (x : Int) (d k : Nat) (h0 : 0 ≤ x) (h : Lib.bitLen x.toNat = k + Lib.bitLen (x.toNat / d)) (y : Int) (hy : y.toNat = x.toNat / d) : Lib.bitLen x.toNat = k + Lib.bitLen y.toNat := by rw [hy]; exact h

set_option maxHeartbeats 1000000 in
set_option maxRecDepth 100000 in
theorem len64_any (x : Int) (w : World) (h0 : 0 ≤ x) (h1 : x ≤ 18446744073709551615) :
    Calls Tryd.prog 83 #[.int .u64 x] w fun e w' => e = .returned (.int .i64 (Lib.bitLen x.toNat)) ∧ w' = w := by
  have hsz := tab_size
  go_enter Tryd.func83, Tryd.ntmps83
  go_wp2
  all_goals (go_ret; refine ⟨congrArg Ending.returned (congrArg (Value.int IntKind.i64) ?_), rfl⟩)
  · exact len_end 56 _ _ _ (by omega) (by omega) (by omega) (shift_to x 72057594037927936 56 h0 (Lib.bitLen_shift56 _ (by omega) (by omega)) _ (by omega))
  · exact len_end 48 _ _ _ (by omega) (by omega) (by omega) (shift_to x 281474976710656 48 h0 (Lib.bitLen_shift48 _ (by omega) (by omega)) _ (by omega))
  · exact len_end 40 _ _ _ (by omega) (by omega) (by omega) (shift_to x 1099511627776 40 h0 (Lib.bitLen_shift40 _ (by omega) (by omega)) _ (by omega))
  · exact len_end 32 _ _ _ (by omega) (by omega) (by omega) (shift_to x 4294967296 32 h0 (Lib.bitLen_shift32 _ (by omega) (by omega)) _ (by omega))
  · exact len_end 24 _ _ _ (by omega) (by omega) (by omega) (shift_to x 16777216 24 h0 (Lib.bitLen_shift24 _ (by omega) (by omega)) _ (by omega))
  · exact len_end 16 _ _ _ (by omega) (by omega) (by omega) (shift_to x 65536 16 h0 (Lib.bitLen_shift16 _ (by omega) (by omega)) _ (by omega))
  · exact len_end 8 _ _ _ (by omega) (by omega) (by omega) (shift_to x 256 8 h0 (Lib.bitLen_shift8 _ (by omega) (by omega)) _ (by omega))
  · exact len_end0 _ _ _ (by omega) (by omega) rfl
end Go.Proofs.YtjoghmdjnkdokaaDoor

namespace Go.Proofs.YtjoghmdjnkdokaaDoor
open Go.RowKit
set_option linter.unusedVariables false

theorem pow128 (c : Nat) : (128 : Int) ^ c = 2 ^ (7 * c) := by
  rw [Int.pow_mul]; rfl
theorem pow128_pos (c : Nat) : (0 : Int) < 128 ^ c := Int.pow_pos (by decide)
theorem pow128_mono {a b : Nat} (h : a ≤ b) : (128 : Int) ^ a ≤ 128 ^ b := by
  have := Nat.pow_le_pow_right (n := 128) (by decide) h
  have e : ∀ k : Nat, (128 : Int) ^ k = ((128 ^ k : Nat) : Int) := fun k => by simp
  rw [e, e]; omega
theorem pow128_8 : (128 : Int) ^ 8 = 72057594037927936 := by decide
theorem pow128_9 : (128 : Int) ^ 9 = 9223372036854775808 := by decide

theorem and127 (x : Int) (h0 : 0 ≤ x) (h1 : x ≤ 255) : bits .and .u8 x 127 = x % 128 := by
  rw [u8_and x 127 h0 (by omega) (by decide) (by decide)]
  have : Int.toNat 127 = 127 := rfl
  rw [this, nat_mask7]
  omega
theorem and128 (x : Int) (h0 : 0 ≤ x) (h1 : x ≤ 255) : bits .and .u8 x 128 = if 128 ≤ x then 128 else 0 := by
  rw [u8_and x 128 h0 (by omega) (by decide) (by decide)]
  have : Int.toNat 128 = 2 ^ 7 := rfl
  rw [this, nat_bit]
  split <;> omega

/-- The number that a byte's seven bits make a greater one. -/
def tkVal (v : Int) (c : Nat) (x : Int) : Int := v + x % 128 * 128 ^ c

theorem tk_fits (c : Nat) (x : Int) (hc : c ≤ 9) (h0 : 0 ≤ x) (h9 : c = 9 → x ≤ 1) : 0 ≤ x % 128 * 128 ^ c ∧ x % 128 * 128 ^ c + 128 ^ c ≤ 18446744073709551616 := by
  have hp := pow128_pos c
  have hm : 0 ≤ x % 128 := by omega
  refine ⟨Int.mul_nonneg hm (Int.le_of_lt hp), ?_⟩
  by_cases e : c = 9
  · subst e
    have := h9 rfl
    rw [pow128_9]
    omega
  · have h8 : (128 : Int) ^ c ≤ 128 ^ 8 := pow128_mono (by omega)
    rw [pow128_8] at h8
    have h2 : x % 128 * 128 ^ c ≤ 127 * 128 ^ c := Int.mul_le_mul_of_nonneg_right (by omega) (Int.le_of_lt hp)
    omega

theorem tk_or (v : Int) (c : Nat) (x : Int) (hv : 0 ≤ v) (hv1 : v < 128 ^ c) (hc : c ≤ 9) (h0 : 0 ≤ x) (h1 : x ≤ 255) (h9 : c = 9 → x ≤ 1) :
    bits .or .u64 v (IntKind.u64.wrap (IntKind.u64.wrap (bits .and .u8 x 127) * 2 ^ (7 * c))) = tkVal v c x := by
  have hf := tk_fits c x hc h0 h9
  have hp := pow128_pos c
  have e1 : IntKind.u64.wrap (bits .and .u8 x 127) = x % 128 := by
    rw [and127 x h0 h1, IntKind.wrap_u64]; exact Int.emod_eq_of_lt (by omega) (by omega)
  have e2 : IntKind.u64.wrap (x % 128 * 128 ^ c) = x % 128 * 128 ^ c := by
    rw [IntKind.wrap_u64]; exact Int.emod_eq_of_lt hf.1 (by omega)
  rw [e1, ← pow128, e2]
  unfold tkVal
  generalize hy : x % 128 * 128 ^ c = y at *
  have hd : y % 128 ^ c = 0 := by rw [← hy]; exact Int.mul_emod_left _ _
  have hc2 : ((128 : Int) ^ c) = ((2 ^ (7 * c) : Nat) : Int) := by rw [pow128]; simp
  rw [hc2] at hd hv1 hf
  obtain ⟨V, rfl⟩ := Int.eq_ofNat_of_zero_le hv
  obtain ⟨Y, rfl⟩ := Int.eq_ofNat_of_zero_le hf.1
  rw [u64_or_nat V Y (by omega) (by omega), Nat.or_comm, nat_join (7 * c) Y V (by omega) (by omega)]
  omega
end Go.Proofs.YtjoghmdjnkdokaaDoor

namespace Go.Proofs.YtjoghmdjnkdokaaDoor
open Go.RowKit
set_option linter.unusedVariables false

/-- A number's shortest form, in at most so many bytes more. -/
def encL : Nat → Int → List Int
  | 0, v => [v]
  | f + 1, v => if 127 < v then (v % 128 + 128) :: encL f (v / 128) else [v]
def encI (v : Int) : List Int := encL 9 v
def encA : List Int → List Int
  | [] => []
  | v :: r => encI v ++ encA r

theorem encA_append (a b : List Int) : encA (a ++ b) = encA a ++ encA b := by
  induction a with
  | nil => rfl
  | cons v r ih => simp [encA, ih]
theorem encA_one (v : Int) : encA [v] = encI v := by simp [encA]
theorem encA_take (zs : List Int) (k : Nat) (h : k < zs.length) : encA (zs.take (k + 1)) = encA (zs.take k) ++ encI (zs.getD k 0) := by
  rw [List.take_succ_eq_append_getElem h, encA_append, encA_one]
  simp [List.getD, h]
theorem encL_len_le : ∀ (f : Nat) (v : Int), 1 ≤ (encL f v).length ∧ (encL f v).length ≤ f + 1
  | 0, v => by simp [encL]
  | f + 1, v => by
    unfold encL
    split
    · have := encL_len_le f (v / 128); simp; omega
    · simp
theorem encI_len (v : Int) : 1 ≤ (encI v).length ∧ (encI v).length ≤ 10 := encL_len_le 9 v
theorem encA_len : ∀ (zs : List Int), zs.length ≤ (encA zs).length ∧ (encA zs).length ≤ 10 * zs.length
  | [] => by simp [encA]
  | v :: r => by
    have := encA_len r
    have := encI_len v
    simp [encA]; omega
theorem encA_take_len (zs : List Int) (k : Nat) : (encA (zs.take k)).length ≤ 10 * k := by
  have := (encA_len (zs.take k)).2
  simp at this
  omega

theorem encL_bd : ∀ (f : Nat) (v : Int), 0 ≤ v → v < 2 * 128 ^ f → ∀ z ∈ encL f v, 0 ≤ z ∧ z ≤ 255
  | 0, v, h0, h1 => by simp [encL]; simp at h1; omega
  | f + 1, v, h0, h1 => by
    have hp := pow128_pos f
    have h2 : v / 128 < 2 * 128 ^ f := by rw [Int.pow_succ] at h1; omega
    have ih := encL_bd f (v / 128) (by omega) h2
    unfold encL
    split
    · intro z hz
      simp at hz
      rcases hz with rfl | hz
      · omega
      · exact ih z hz
    · intro z hz
      simp at hz
      omega
theorem pow9 : (2 : Int) * 128 ^ 9 = 18446744073709551616 := by decide
theorem encI_bd (v : Int) (h0 : 0 ≤ v) (h1 : v ≤ 18446744073709551615) : ∀ z ∈ encI v, 0 ≤ z ∧ z ≤ 255 := encL_bd 9 v h0 (by rw [pow9]; omega)
theorem encA_bd : ∀ (zs : List Int), (∀ v ∈ zs, 0 ≤ v ∧ v ≤ 18446744073709551615) → ∀ z ∈ encA zs, 0 ≤ z ∧ z ≤ 255
  | [], _ => by simp [encA]
  | v :: r, h => by
    intro z hz
    simp [encA] at hz
    rcases hz with hz | hz
    · exact encI_bd v (h v (by simp)).1 (h v (by simp)).2 z hz
    · exact encA_bd r (fun u hu => h u (by simp [hu])) z hz

theorem encL_len : ∀ (n f : Nat) (v : Int), n ≤ f → v < 128 ^ (n + 1) → (n = 0 ∨ 128 ^ n ≤ v) → (encL f v).length = n + 1
  | 0, f, v, hf, h1, _ => by
    cases f with
    | zero => rfl
    | succ f => unfold encL; rw [if_neg (by simp at h1; omega)]; rfl
  | n + 1, 0, v, hf, _, _ => by omega
  | n + 1, f + 1, v, hf, h1, h2 => by
    have h2 : (128 : Int) ^ (n + 1) ≤ v := by rcases h2 with h | h; · omega
                                              · exact h
    have hp := pow128_pos n
    have h3 : (128 : Int) ^ (n + 1) = 128 ^ n * 128 := Int.pow_succ _ _
    have h4 : (128 : Int) ^ (n + 1 + 1) = 128 ^ (n + 1) * 128 := Int.pow_succ _ _
    have hr := encL_len n f (v / 128) (by omega) (by omega) (Or.inr (by omega))
    unfold encL
    rw [if_pos (by omega)]
    simp [hr]

theorem bitLenAux_bd : ∀ (f x : Nat), x < 2 ^ f → x < 2 ^ Lib.bitLenAux f x ∧ (0 < x → 2 ^ Lib.bitLenAux f x ≤ 2 * x)
  | 0, x, h => by simp at h; subst h; simp [Lib.bitLenAux]
  | f + 1, x, h => by
    unfold Lib.bitLenAux
    split
    · rename_i e; subst e; simp
    · rename_i e
      have ih := bitLenAux_bd f (x / 2) (by rw [Nat.pow_succ] at h; omega)
      rw [Nat.add_comm, Nat.pow_succ]
      refine ⟨by omega, fun _ => ?_⟩
      by_cases hx : 0 < x / 2
      · have := ih.2 hx; omega
      · have h1 : x / 2 = 0 := by omega
        rw [h1]
        have : Lib.bitLenAux f 0 = 0 := by cases f <;> simp [Lib.bitLenAux]
        rw [this]; omega

theorem or1 (v : Int) (h0 : 0 ≤ v) (h1 : v ≤ 18446744073709551615) : bits .or .u64 v 1 = v + 1 - v % 2 := by
  rw [u64_or v 1 h0 (by omega) (by decide) (by decide)]
  have e : Int.toNat 1 = 1 := rfl
  rw [e]
  have h2 : v.toNat = 2 * (v.toNat / 2) + v.toNat % 2 := by omega
  have h3 : v.toNat ||| 1 = 2 * (v.toNat / 2) + 1 := by
    apply Nat.eq_of_testBit_eq
    intro i
    cases i with
    | zero => simp
    | succ i =>
      rw [Nat.testBit_or, Nat.testBit_succ, Nat.testBit_succ, Nat.testBit_succ]
      have : (2 * (v.toNat / 2) + 1) / 2 = v.toNat / 2 := by omega
      rw [this]
      simp
  rw [h3]
  omega

/-- The bytes of a number, by its bits. -/
theorem size_len (v : Int) (h0 : 0 ≤ v) (h1 : v ≤ 18446744073709551615) : ((Lib.bitLen (bits .or .u64 v 1).toNat : Int) + 7 - 1) / 7 = ((encI v).length : Int) := by
  rw [or1 v h0 h1]
  have hx : (v + 1 - v % 2).toNat < 2 ^ 64 := by omega
  have hb := bitLenAux_bd 64 (v + 1 - v % 2).toNat hx
  have hle := Lib.bitLen_le _ 64 (by decide) hx
  have hge : 1 ≤ Lib.bitLen (v + 1 - v % 2).toNat := by
    by_cases e : Lib.bitLen (v + 1 - v % 2).toNat = 0
    · have := hb.1
      unfold Lib.bitLen at e
      rw [e] at this
      simp at this; omega
    · omega
  change _ < 2 ^ Lib.bitLen _ ∧ (_ → 2 ^ Lib.bitLen _ ≤ _) at hb
  generalize Lib.bitLen (v + 1 - v % 2).toNat = L at *
  obtain ⟨n, hn⟩ : ∃ n, n = (L - 1) / 7 := ⟨_, rfl⟩
  have hlo : 2 ^ (7 * n) ≤ 2 ^ (L - 1) := Nat.pow_le_pow_right (by decide) (by omega)
  have hhi : 2 ^ L ≤ 2 ^ (7 * (n + 1)) := Nat.pow_le_pow_right (by decide) (by omega)
  have hL : 2 ^ L = 2 ^ (L - 1) * 2 := by rw [← Nat.pow_succ]; congr 1; omega
  have e1 : (128 : Int) ^ (n + 1) = ((2 ^ (7 * (n + 1)) : Nat) : Int) := by rw [pow128]; simp
  have e2 : (128 : Int) ^ n = ((2 ^ (7 * n) : Nat) : Int) := by rw [pow128]; simp
  have hb2 := hb.2 (by omega)
  have key : (encI v).length = n + 1 := by
    refine encL_len n 9 v (by omega) (by rw [e1]; omega) ?_
    by_cases e : n = 0
    · exact Or.inl e
    · refine Or.inr ?_
      have hev : 2 ^ (7 * n) % 2 = 0 := by
        have : 7 * n = (7 * n - 1) + 1 := by omega
        rw [this, Nat.pow_succ]; omega
      rw [e2]; omega
  rw [key]
  omega

theorem enc_byte (u : Int) (h0 : 0 ≤ u) (h1 : u ≤ 18446744073709551615) : bits .and .u64 u 127 = u % 128 := by
  rw [u64_and u 127 h0 (by omega) (by decide) (by decide)]
  have : Int.toNat 127 = 127 := rfl
  rw [this, nat_mask7]
  omega
theorem or128 (x : Int) (h0 : 0 ≤ x) (h1 : x ≤ 127) : bits .or .u8 x 128 = x + 128 := by
  rw [u8_or x 128 h0 (by omega) (by decide) (by decide)]
  have : Int.toNat 128 = 128 := rfl
  rw [this, Nat.or_comm, nat_join 7 128 x.toNat (by decide) (by omega)]
  omega
end Go.Proofs.YtjoghmdjnkdokaaDoor
