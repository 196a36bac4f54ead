import Derived.Test.YtalojcpgkgeofaaGreatDoorPam
import Derived.Test.YtalojcpgkgeofaaGreatDoorProg
import Derived.WalkKit
import Derived.WalkSpells
import Derived.Test.YtalojcpgkgeofaaGreatDoorPab
import Derived.Test.YtalojcpgkgeofaaGreatDoorPaa
import Derived.Deep.QuietTactic
import Derived.BigQuiet
import Derived.Deep.RegionHeld3
import Derived.Deep.AppendLies
namespace Go.Proofs.YtalojcpgkgeofaaGreatDoor
set_option linter.unusedVariables false

/-! What tokens cost; the cheapest ones (P7.9, P7.10). -/
def bits7 (d : Nat) : Nat := if h : d = 0 then 0 else bits7 (d / 2) + 1
termination_by d
decreasing_by omega
theorem bits7_zero : bits7 0 = 0 := by rw [bits7]; simp
theorem bits7_pos {d : Nat} (h : 0 < d) : bits7 d = bits7 (d / 2) + 1 := by
  rw [bits7, dif_neg (by omega)]
theorem bits7_mono : ∀ (e d : Nat), d ≤ e → bits7 d ≤ bits7 e := by
  intro e
  induction e using Nat.strongRecOn with
  | ind e ih =>
    intro d h
    by_cases h0 : d = 0
    · rw [h0, bits7_zero]; omega
    · rw [bits7_pos (show 0 < d by omega), bits7_pos (show 0 < e by omega)]
      have := ih (e / 2) (by omega) (d / 2) (by omega)
      omega
theorem bits7_le : ∀ k d, d < 2 ^ k → bits7 d ≤ k
  | 0, d, h => by
    obtain rfl : d = 0 := by simpa using h
    rw [bits7_zero]; omega
  | k + 1, d, h => by
    by_cases h0 : d = 0
    · rw [h0, bits7_zero]; omega
    · rw [bits7_pos (show 0 < d by omega)]
      have := bits7_le k (d / 2) (by rw [Nat.pow_succ] at h; omega)
      omega
def nrg7 (D : List Int) (p n win : Nat) : Nat → Nat → Nat
  | 0, _ => 0
  | f + 1, d => if d ≤ win ∧ d ≤ p then (if n ≤ al7 D (p - d) p then d else nrg7 D p n win f (d + 1)) else 0
/-- The least distance at which n bytes are alike; 0: there is none. -/
def nst7 (D : List Int) (p n win : Nat) : Nat := nrg7 D p n win p 1
theorem nrg7_spec (D : List Int) (p n win : Nat) : ∀ f d, 1 ≤ d → p < d + f →
    (nrg7 D p n win f d = 0 ∧ ∀ e, d ≤ e → e ≤ win → e ≤ p → ¬ n ≤ al7 D (p - e) p) ∨
    (d ≤ nrg7 D p n win f d ∧ nrg7 D p n win f d ≤ win ∧ nrg7 D p n win f d ≤ p ∧ n ≤ al7 D (p - nrg7 D p n win f d) p ∧ ∀ e, d ≤ e → e ≤ win → e ≤ p → n ≤ al7 D (p - e) p → nrg7 D p n win f d ≤ e)
  | 0, d, h1, h2 => .inl ⟨rfl, fun e a b c => by omega⟩
  | f + 1, d, h1, h2 => by
    rw [nrg7]
    by_cases hc : d ≤ win ∧ d ≤ p
    · rw [if_pos hc]
      by_cases ha : n ≤ al7 D (p - d) p
      · rw [if_pos ha]
        exact .inr ⟨Nat.le_refl _, hc.1, hc.2, ha, fun e a _ _ _ => a⟩
      · rw [if_neg ha]
        have hx : ∀ e, d ≤ e → n ≤ al7 D (p - e) p → d + 1 ≤ e := fun e a b => by
          rcases Nat.eq_or_lt_of_le a with e1 | e1
          · subst e1; exact absurd b ha
          · exact e1
        rcases nrg7_spec D p n win f (d + 1) (by omega) (by omega) with ⟨a, b⟩ | ⟨a, b, c, e, g⟩
        · exact .inl ⟨a, fun e h3 h4 h5 h6 => b e (hx e h3 h6) h4 h5 h6⟩
        · exact .inr ⟨by omega, b, c, e, fun x h3 h4 h5 h6 => g x (hx x h3 h6) h4 h5 h6⟩
    · rw [if_neg hc]
      exact .inl ⟨rfl, fun e a b c => by omega⟩
theorem nst7_spec (D : List Int) (p n win : Nat) : (nst7 D p n win = 0 ∧ ∀ e, 1 ≤ e → e ≤ win → e ≤ p → ¬ n ≤ al7 D (p - e) p) ∨
    (1 ≤ nst7 D p n win ∧ nst7 D p n win ≤ win ∧ nst7 D p n win ≤ p ∧ n ≤ al7 D (p - nst7 D p n win) p ∧ ∀ e, 1 ≤ e → e ≤ win → e ≤ p → n ≤ al7 D (p - e) p → nst7 D p n win ≤ e) :=
  nrg7_spec D p n win p 1 (Nat.le_refl _) (by omega)
structure Pr7 where
  lit : Int
  mat : Int
  far : Int
/-- What a match costs ahead of what comes behind it. -/
def mc7 (c : Pr7) (d : Nat) : Int := c.mat + c.far * (bits7 d : Int)
/-- One length tried: the value and the token so far. T: from the next place on, what is least and with which token. -/
def try7 (D : List Int) (win : Nat) (c : Pr7) (p : Nat) (T : List (Int × Tok7)) (l : Nat) (a : Int × Tok7) : Int × Tok7 :=
  if p + l ≤ D.length ∧ nst7 D p l win ≠ 0 ∧ mc7 c (nst7 D p l win) + (T.getD (l - 1) (0, ⟨0, 0, 0⟩)).1 < a.1 then (mc7 c (nst7 D p l win) + (T.getD (l - 1) (0, ⟨0, 0, 0⟩)).1, ⟨0, (l : Int), (nst7 D p l win : Int)⟩) else a
/-- The lengths from j + 2 down to 3. -/
def chg7 (D : List Int) (win : Nat) (c : Pr7) (p : Nat) (T : List (Int × Tok7)) : Nat → Int × Tok7 → Int × Tok7
  | 0, a => a
  | j + 1, a => chg7 D win c p T j (try7 D win c p T (j + 3) a)
def lit7 (D : List Int) (c : Pr7) (p : Nat) (T : List (Int × Tok7)) : Int × Tok7 := (c.lit + (T.getD 0 (0, ⟨0, 0, 0⟩)).1, ⟨D.getD p 0, 0, 0⟩)
/-- The table of the last j places, and the end. -/
def tab7 (D : List Int) (win : Nat) (c : Pr7) : Nat → List (Int × Tok7)
  | 0 => [(0, ⟨0, 0, 0⟩)]
  | j + 1 => chg7 D win c (D.length - (j + 1)) (tab7 D win c j) 256 (lit7 D c (D.length - (j + 1)) (tab7 D win c j)) :: tab7 D win c j
theorem tab7_len (D : List Int) (win : Nat) (c : Pr7) : ∀ j, (tab7 D win c j).length = j + 1
  | 0 => rfl
  | j + 1 => by rw [tab7, List.length_cons, tab7_len D win c j]
/-- What is least from a place on, and with which token. -/
def lea7 (D : List Int) (win : Nat) (c : Pr7) (p : Nat) : Int × Tok7 := (tab7 D win c (D.length - p)).getD 0 (0, ⟨0, 0, 0⟩)
theorem tab7_at (D : List Int) (win : Nat) (c : Pr7) : ∀ j i, i ≤ j → (tab7 D win c j).getD i (0, ⟨0, 0, 0⟩) = (tab7 D win c (j - i)).getD 0 (0, ⟨0, 0, 0⟩)
  | j, 0, _ => by simp
  | 0, i + 1, h => by omega
  | j + 1, i + 1, h => by
    rw [tab7]
    have := tab7_at D win c j i (by omega)
    rw [show j + 1 - (i + 1) = j - i by omega, ← this]
    simp [List.getD]
theorem lea7_end (D : List Int) (win : Nat) (c : Pr7) : lea7 D win c D.length = (0, ⟨0, 0, 0⟩) := by
  unfold lea7
  rw [Nat.sub_self, tab7]
  rfl
/-- What a length tried is worth. -/
def val7 (D : List Int) (win : Nat) (c : Pr7) (p l : Nat) : Int := mc7 c (nst7 D p l win) + (lea7 D win c (p + l)).1
theorem tab7_next (D : List Int) (win : Nat) (c : Pr7) (p l : Nat) (h1 : 1 ≤ l) (h2 : p + l ≤ D.length) : (tab7 D win c (D.length - (p + 1))).getD (l - 1) (0, ⟨0, 0, 0⟩) = lea7 D win c (p + l) := by
  rw [tab7_at _ _ _ _ _ (by omega)]
  unfold lea7
  rw [show D.length - (p + 1) - (l - 1) = D.length - (p + l) by omega]
theorem chg7_spec (D : List Int) (win : Nat) (c : Pr7) (p : Nat) (hp : p < D.length) : ∀ j a,
    (chg7 D win c p (tab7 D win c (D.length - (p + 1))) j a).1 ≤ a.1 ∧
    (∀ l, 3 ≤ l → l ≤ j + 2 → p + l ≤ D.length → nst7 D p l win ≠ 0 → (chg7 D win c p (tab7 D win c (D.length - (p + 1))) j a).1 ≤ val7 D win c p l) ∧
    (chg7 D win c p (tab7 D win c (D.length - (p + 1))) j a = a ∨ ∃ l, 3 ≤ l ∧ l ≤ j + 2 ∧ p + l ≤ D.length ∧ nst7 D p l win ≠ 0 ∧ chg7 D win c p (tab7 D win c (D.length - (p + 1))) j a = (val7 D win c p l, ⟨0, (l : Int), (nst7 D p l win : Int)⟩))
  | 0, a => ⟨Int.le_refl _, fun l a b => by omega, .inl rfl⟩
  | j + 1, a => by
    obtain ⟨h1, h2, h3⟩ := chg7_spec D win c p hp j (try7 D win c p (tab7 D win c (D.length - (p + 1))) (j + 3) a)
    have ht : (try7 D win c p (tab7 D win c (D.length - (p + 1))) (j + 3) a).1 ≤ a.1 ∧ (p + (j + 3) ≤ D.length → nst7 D p (j + 3) win ≠ 0 → (try7 D win c p (tab7 D win c (D.length - (p + 1))) (j + 3) a).1 ≤ val7 D win c p (j + 3)) ∧
        (try7 D win c p (tab7 D win c (D.length - (p + 1))) (j + 3) a = a ∨ (p + (j + 3) ≤ D.length ∧ nst7 D p (j + 3) win ≠ 0 ∧ try7 D win c p (tab7 D win c (D.length - (p + 1))) (j + 3) a = (val7 D win c p (j + 3), ⟨0, ((j + 3 : Nat) : Int), (nst7 D p (j + 3) win : Int)⟩))) := by
      unfold try7
      by_cases e : p + (j + 3) ≤ D.length
      · rw [tab7_next D win c p (j + 3) (by omega) e]
        by_cases h : p + (j + 3) ≤ D.length ∧ nst7 D p (j + 3) win ≠ 0 ∧ mc7 c (nst7 D p (j + 3) win) + (lea7 D win c (p + (j + 3))).1 < a.1
        · rw [if_pos h]
          exact ⟨Int.le_of_lt h.2.2, fun _ _ => Int.le_refl _, .inr ⟨e, h.2.1, rfl⟩⟩
        · rw [if_neg h]
          refine ⟨Int.le_refl _, fun e1 e2 => ?_, .inl rfl⟩
          unfold val7
          have := fun x => h ⟨e1, e2, x⟩
          omega
      · rw [if_neg (fun x => e x.1)]
        exact ⟨Int.le_refl _, fun x => absurd x e, .inl rfl⟩
    rw [chg7]
    refine ⟨Int.le_trans h1 ht.1, fun l a1 a2 a3 a4 => ?_, ?_⟩
    · by_cases e : l ≤ j + 2
      · exact h2 l a1 e a3 a4
      · obtain rfl : l = j + 3 := by omega
        exact Int.le_trans h1 (ht.2.1 a3 a4)
    · rcases h3 with h3 | ⟨l, b1, b2, b3, b4, b5⟩
      · rw [h3]
        rcases ht.2.2 with e | ⟨e1, e2, e3⟩
        · exact .inl e
        · exact .inr ⟨j + 3, by omega, by omega, e1, e2, e3⟩
      · exact .inr ⟨l, b1, by omega, b3, b4, b5⟩
theorem lea7_step (D : List Int) (win : Nat) (c : Pr7) (p : Nat) (hp : p < D.length) : lea7 D win c p = chg7 D win c p (tab7 D win c (D.length - (p + 1))) 256 (lit7 D c p (tab7 D win c (D.length - (p + 1)))) := by
  unfold lea7
  rw [show D.length - p = D.length - (p + 1) + 1 by omega, tab7, show D.length - (D.length - (p + 1) + 1) = p by omega]
  exact List.getD_cons_zero
theorem lit7_eq (D : List Int) (win : Nat) (c : Pr7) (p : Nat) (hp : p < D.length) : lit7 D c p (tab7 D win c (D.length - (p + 1))) = (c.lit + (lea7 D win c (p + 1)).1, ⟨D.getD p 0, 0, 0⟩) := rfl
/-- The least, place by place. -/
theorem lea7_spec (D : List Int) (win : Nat) (c : Pr7) (p : Nat) (hp : p < D.length) :
    (lea7 D win c p).1 ≤ c.lit + (lea7 D win c (p + 1)).1 ∧
    (∀ l, 3 ≤ l → l ≤ 258 → p + l ≤ D.length → nst7 D p l win ≠ 0 → (lea7 D win c p).1 ≤ val7 D win c p l) ∧
    (lea7 D win c p = (c.lit + (lea7 D win c (p + 1)).1, ⟨D.getD p 0, 0, 0⟩) ∨ ∃ l, 3 ≤ l ∧ l ≤ 258 ∧ p + l ≤ D.length ∧ nst7 D p l win ≠ 0 ∧ lea7 D win c p = (val7 D win c p l, ⟨0, (l : Int), (nst7 D p l win : Int)⟩)) := by
  have h := chg7_spec D win c p hp 256 (lit7 D c p (tab7 D win c (D.length - (p + 1))))
  rw [← lea7_step D win c p hp, lit7_eq D win c p hp] at h
  exact h
def cost7 (c : Pr7) : List Tok7 → Int
  | [] => 0
  | t :: r => (if t.len = 0 then c.lit else mc7 c t.dist.toNat) + cost7 c r
/-- No tokens that are the bytes cost less (P7.10). -/
theorem lea7_least {D : List Int} {win : Nat} {c : Pr7} (hf : 0 ≤ c.far) : ∀ (l : List Tok7) (p : Nat), Tz7 D win l p → (lea7 D win c p).1 ≤ cost7 c l
  | [], p, h => by
    rw [Tz7] at h
    subst h
    rw [lea7_end, cost7]
    exact Int.le_refl _
  | t :: r, p, ⟨hp, h⟩ => by
    obtain ⟨s1, s2, _⟩ := lea7_spec D win c p hp
    rcases h with ⟨rfl, h⟩ | ⟨n, d, rfl, hm, h⟩
    · have := lea7_least hf r (p + 1) h
      rw [cost7]
      simp only [if_true]
      omega
    · have ih := lea7_least hf r (p + n) h
      have hn3 := hm.n3
      rw [cost7]
      simp only
      rw [if_neg (by omega), Int.toNat_natCast]
      rcases nst7_spec D p n win with ⟨_, b⟩ | ⟨b1, b2, b3, b4, b5⟩
      · exact absurd hm.al (b d hm.d1 hm.dw hm.dp)
      · have h1 := b5 d hm.d1 hm.dw hm.dp hm.al
        have h2 := s2 n hn3 hm.n258 hm.fits (by omega)
        have h3 := bits7_mono d _ h1
        have h4 : c.far * (bits7 (nst7 D p n win) : Int) ≤ c.far * (bits7 d : Int) := Int.mul_le_mul_of_nonneg_left (by omega) hf
        unfold val7 mc7 at h2
        unfold mc7
        omega
/-- The tokens that the table leads to. -/
def outg7 (D : List Int) (win : Nat) (c : Pr7) : Nat → Nat → List Tok7
  | 0, _ => []
  | f + 1, p => if p < D.length then (lea7 D win c p).2 :: outg7 D win c f (p + (if (lea7 D win c p).2.len = 0 then 1 else (lea7 D win c p).2.len.toNat)) else []
def che7 (D : List Int) (win : Nat) (c : Pr7) : List Tok7 := outg7 D win c D.length 0
theorem outg7_tz (D : List Int) (win : Nat) (c : Pr7) : ∀ f p, p ≤ D.length → D.length ≤ p + f → Tz7 D win (outg7 D win c f p) p ∧ cost7 c (outg7 D win c f p) = (lea7 D win c p).1
  | 0, p, h1, h2 => by
    obtain rfl : p = D.length := by omega
    rw [outg7, Tz7, cost7, lea7_end]
    exact ⟨rfl, rfl⟩
  | f + 1, p, h1, h2 => by
    rw [outg7]
    by_cases hp : p < D.length
    · rw [if_pos hp]
      rcases (lea7_spec D win c p hp).2.2 with e | ⟨l, a1, a2, a3, a4, e⟩
      · rw [e]
        simp only [if_true]
        obtain ⟨i1, i2⟩ := outg7_tz D win c f (p + 1) (by omega) (by omega)
        refine ⟨⟨hp, .inl ⟨rfl, i1⟩⟩, ?_⟩
        rw [cost7, i2]
        simp
      · rw [e]
        simp only
        rw [if_neg (by omega), Int.toNat_natCast]
        obtain ⟨i1, i2⟩ := outg7_tz D win c f (p + l) a3 (by omega)
        rcases nst7_spec D p l win with ⟨b, _⟩ | ⟨b1, b2, b3, b4, _⟩
        · exact absurd b a4
        · refine ⟨⟨hp, .inr ⟨l, _, rfl, ⟨a1, a2, b1, b2, b3, b4⟩, i1⟩⟩, ?_⟩
          rw [cost7, i2]
          simp only
          rw [if_neg (by omega), Int.toNat_natCast]
          rfl
    · rw [if_neg hp]
      obtain rfl : p = D.length := by omega
      rw [Tz7, cost7, lea7_end]
      exact ⟨rfl, rfl⟩
theorem che7_tz (D : List Int) (win : Nat) (c : Pr7) : Tz7 D win (che7 D win c) 0 ∧ cost7 c (che7 D win c) = (lea7 D win c 0).1 := outg7_tz D win c D.length 0 (by omega) (by omega)
/-- All bytes as they are. -/
def lits7 (D : List Int) : Nat → Nat → List Tok7
  | 0, _ => []
  | f + 1, p => ⟨D.getD p 0, 0, 0⟩ :: lits7 D f (p + 1)
theorem lits7_tz (D : List Int) (win : Nat) (c : Pr7) : ∀ f p, p + f = D.length → Tz7 D win (lits7 D f p) p ∧ cost7 c (lits7 D f p) = c.lit * (f : Int)
  | 0, p, h => by
    rw [lits7, Tz7, cost7]
    exact ⟨by omega, by simp⟩
  | f + 1, p, h => by
    obtain ⟨i1, i2⟩ := lits7_tz D win c f (p + 1) (by omega)
    rw [lits7]
    refine ⟨⟨by omega, .inl ⟨rfl, i1⟩⟩, ?_⟩
    rw [cost7, i2]
    simp only [if_true]
    rw [Int.natCast_succ, Int.mul_add, Int.mul_one, Int.add_comm]
theorem lea7_lits (D : List Int) (win : Nat) (c : Pr7) (hf : 0 ≤ c.far) : (lea7 D win c 0).1 ≤ c.lit * (D.length : Int) := by
  obtain ⟨h1, h2⟩ := lits7_tz D win c D.length 0 (by omega)
  have := lea7_least (c := c) hf _ _ h1
  rw [h2] at this
  exact this
theorem lea7_nonneg {D : List Int} {win : Nat} {c : Pr7} (h1 : 0 ≤ c.lit) (h2 : 0 ≤ c.mat) (h3 : 0 ≤ c.far) : ∀ f p, p ≤ D.length → D.length ≤ p + f → 0 ≤ (lea7 D win c p).1
  | 0, p, a, b => by
    obtain rfl : p = D.length := by omega
    rw [lea7_end]; exact Int.le_refl _
  | f + 1, p, a, b => by
    by_cases hp : p < D.length
    · rcases (lea7_spec D win c p hp).2.2 with e | ⟨l, a1, a2, a3, a4, e⟩
      · rw [e]
        have := lea7_nonneg (D := D) (win := win) h1 h2 h3 f (p + 1) (by omega) (by omega)
        simp only
        omega
      · rw [e]
        have := lea7_nonneg (D := D) (win := win) h1 h2 h3 f (p + l) (by omega) (by omega)
        have h4 : 0 ≤ c.far * (bits7 (nst7 D p l win) : Int) := Int.mul_nonneg h3 (by omega)
        simp only [val7, mc7]
        omega
    · obtain rfl : p = D.length := by omega
      rw [lea7_end]; exact Int.le_refl _
end Go.Proofs.YtalojcpgkgeofaaGreatDoor

namespace Go.Proofs.YtalojcpgkgeofaaGreatDoor
open Go.RowKit
set_option linter.unusedVariables false

/-! Tokens in memory: three cells each. -/
def Tok7.val (t : Tok7) : Value := .agg #[.int .u8 t.lit, .int .i64 t.len, .int .i64 t.dist]
structure TkAt (w : World) (g o : Nat) (t : Tok7) : Prop where
  c0 : w.cell? ⟨g, o, none⟩ = some (.int .u8 t.lit)
  c1 : w.cell? ⟨g, o + 1, none⟩ = some (.int .i64 t.len)
  c2 : w.cell? ⟨g, o + 2, none⟩ = some (.int .i64 t.dist)
theorem TkAt.of_block {w w' : World} {g o : Nat} {x : Tok7} (h : TkAt w g o x) (hb : w'.heap[g]? = w.heap[g]?) : TkAt w' g o x :=
  ⟨(World.cell?_of_block (a := ⟨g, o, none⟩) hb).trans h.c0, (World.cell?_of_block (a := ⟨g, o + 1, none⟩) hb).trans h.c1, (World.cell?_of_block (a := ⟨g, o + 2, none⟩) hb).trans h.c2⟩
theorem TkAt.lt {w : World} {g o : Nat} {x : Tok7} (h : TkAt w g o x) : g < w.heap.size := World.block_lt_of_cell? w _ h.c0
abbrev tk0 : Tok7 := ⟨0, 0, 0⟩
def Tok7.Fit (t : Tok7) : Prop := (0 ≤ t.lit ∧ t.lit ≤ 255) ∧ (-9223372036854775808 ≤ t.len ∧ t.len ≤ 9223372036854775807) ∧ (-9223372036854775808 ≤ t.dist ∧ t.dist ≤ 9223372036854775807)
structure SegT (w : World) (a : Option Addr) (l : List Tok7) : Prop where
  at_ : ∀ i, i < l.length → ∃ b off, a = some ⟨b, off, none⟩ ∧ TkAt w b (off + i * 3) (l.getD i tk0)
  fit : ∀ t ∈ l, t.Fit
theorem SegT.nil (w : World) (a : Option Addr) : SegT w a [] := ⟨fun i h => by simp at h, fun t h => by simp at h⟩
theorem SegT.kp {w w' : World} {S : Nat → Prop} {a : Option Addr} {l : List Tok7} (h : SegT w a l) (hb : Kp S w w') (hn : ∀ b off, a = some ⟨b, off, none⟩ → 0 < l.length → ¬ S b) : SegT w' a l := by
  refine ⟨fun i hi => ?_, h.fit⟩
  obtain ⟨b, off, ha, ht⟩ := h.at_ i hi
  exact ⟨b, off, ha, ht.of_block (hb.block b ht.lt (hn b off ha (by omega)))⟩
theorem SegT.old {w w' : World} {a : Option Addr} {l : List Tok7} (h : SegT w a l) (hb : Below w.heap.size w w') : SegT w' a l := h.kp (S := fun _ => False) (Kp.of_below hb) (fun _ _ _ _ e => e)
theorem SegT.lt {w : World} {a : Option Addr} {l : List Tok7} (h : SegT w a l) : ∀ b off, a = some ⟨b, off, none⟩ → 0 < l.length → b < w.heap.size := by
  intro b off e hl
  obtain ⟨b', off', ha, ht⟩ := h.at_ 0 hl
  rw [e] at ha
  cases ha
  exact ht.lt
theorem SegT.take {w : World} {a : Option Addr} {l : List Tok7} (h : SegT w a l) (n : Nat) : SegT w a (l.take n) := by
  refine ⟨fun i hi => ?_, fun t ht => h.fit t (List.mem_of_mem_take ht)⟩
  rw [List.length_take] at hi
  obtain ⟨b, off, ha, ht⟩ := h.at_ i (by omega)
  refine ⟨b, off, ha, ?_⟩
  have : (l.take n).getD i tk0 = l.getD i tk0 := by simp [List.getD, show i < n by omega]
  rw [this]
  exact ht
theorem getD_memT {l : List Tok7} {i : Nat} (h : i < l.length) : l.getD i tk0 ∈ l := by simp [List.getD, h]
theorem dropT {l : List Tok7} {i : Nat} (h : i < l.length) : l.drop i = l.getD i tk0 :: l.drop (i + 1) := by
  rw [List.drop_eq_getElem_cons h]
  simp [List.getD, h]
theorem takeT7 {l : List Tok7} {i : Nat} (h : i < l.length) : l.take (i + 1) = l.take i ++ [l.getD i tk0] := by
  rw [List.take_succ_eq_append_getElem h]; simp [List.getD, h]
theorem below_box {w : World} (cs : Array Value) (t : TypeId) : Below w.heap.size w (w.alloc (.cells cs t)) := (Below.refl _ _).alloc (Nat.le_refl _) _

/-! The document's May, Width, Check, Size. -/
end Go.Proofs.YtalojcpgkgeofaaGreatDoor

namespace Go.Proofs.YtalojcpgkgeofaaGreatDoor
open Go.RowKit
set_option linter.unusedVariables false

theorem wid7_le (t : Tok7) : wid7 t ≤ 258 := by
  have := siz7_le [t]
  simpa [siz7] using this
end Go.Proofs.YtalojcpgkgeofaaGreatDoor

namespace Go.Proofs.YtalojcpgkgeofaaGreatDoor
open Go.RowKit
set_option linter.unusedVariables false

theorem ok7_at (win : Int) : ∀ (l : List Tok7) (tot i : Nat), ok7 win l tot → i < l.length → may7 (l.getD i tk0) ∧ ¬ far7 win (tot + siz7 (l.take i)) (l.getD i tk0)
  | [], _, _, _, h => by simp at h
  | t :: r, tot, 0, ⟨h1, h2, h3⟩, _ => ⟨h1, by simpa [siz7] using h2⟩
  | t :: r, tot, i + 1, ⟨h1, h2, h3⟩, h => by
    have := ok7_at win r (tot + wid7 t) i h3 (by simpa using h)
    rw [List.take_succ_cons, siz7, ← Nat.add_assoc]
    simpa [List.getD] using this
theorem ok7_sub (win : Int) (l : List Tok7) (n : Nat) (h : ok7 win l 0) : (exp7 [] (l.take n)).length = siz7 (l.take n) := by
  rw [exp7_len win _ _ 0 (ok7_take win l 0 n h)]
  simp
theorem exp7_succ {l : List Tok7} {i : Nat} (h : i < l.length) : exp7 [] (l.take (i + 1)) = tok7 (exp7 [] (l.take i)) (l.getD i tk0) := by
  rw [takeT7 h, exp7_app]
  rfl
theorem info_u8l : (Tryz.prog.info? 5).map (fun i => (i.zero, i.size, i.bytes)) = some (some (.int .u8 0), 1, 1) := by kernel_rfl
theorem below_own7 {w w' : World} {base n : Nat} {e : TypeId} {sz : Nat} {v : Value} {xs : List Value} (hown : w.ownsRow base e sz v n xs) (hg : w.grownBy w' v.ownBlock) (hb : base ≤ w.heap.size) : Below base w w' := (Below.refl _ _).grown hg hb (fun k hk => (hown.lt k hk).1)
theorem getD_bd7 {b : List Int} (hb : ∀ z ∈ b, 0 ≤ z ∧ z ≤ 255) (i : Nat) : 0 ≤ b.getD i 0 ∧ b.getD i 0 ≤ 255 := getD_bd (by decide) hb i
end Go.Proofs.YtalojcpgkgeofaaGreatDoor

namespace Go.Proofs.YtalojcpgkgeofaaGreatDoor
open Go.RowKit
set_option linter.unusedVariables false

/-! The document's Options, alike, Best. -/
def opt7 (win chain : Int) : Int := if win < 1 ∨ 32768 < win ∨ chain < 0 ∨ 4096 < chain then 72 else 0
def look7 (win chain : Int) (lazy : Bool) : Value := .agg #[.int .i64 win, .int .i64 chain, .bool lazy]
theorem opt7_ok {win chain : Int} (h : opt7 win chain = 0) : 1 ≤ win ∧ win ≤ 32768 ∧ 0 ≤ chain ∧ chain ≤ 4096 := by
  unfold opt7 at h
  split at h
  · omega
  · omega
theorem opt7_no {win chain : Int} (h : opt7 win chain ≠ 0) : opt7 win chain = 72 := by
  unfold opt7 at h ⊢
  split
  · rfl
  · rename_i h2; rw [if_neg h2] at h; exact absurd rfl h
end Go.Proofs.YtalojcpgkgeofaaGreatDoor

namespace Go.Proofs.YtalojcpgkgeofaaGreatDoor
open Go.RowKit
set_option linter.unusedVariables false

structure LkAt (w : World) (g : Nat) (win chain : Int) (lazy : Bool) : Prop where
  c0 : w.cell? ⟨g, 0, none⟩ = some (.int .i64 win)
  c1 : w.cell? ⟨g, 1, none⟩ = some (.int .i64 chain)
  c2 : w.cell? ⟨g, 2, none⟩ = some (.bool lazy)
theorem LkAt.of_block {w w' : World} {g : Nat} {win chain : Int} {lazy : Bool} (h : LkAt w g win chain lazy) (hb : w'.heap[g]? = w.heap[g]?) : LkAt w' g win chain lazy :=
  ⟨(World.cell?_of_block (a := ⟨g, 0, none⟩) hb).trans h.c0, (World.cell?_of_block (a := ⟨g, 1, none⟩) hb).trans h.c1, (World.cell?_of_block (a := ⟨g, 2, none⟩) hb).trans h.c2⟩
theorem LkAt.lt {w : World} {g : Nat} {win chain : Int} {lazy : Bool} (h : LkAt w g win chain lazy) : g < w.heap.size := World.block_lt_of_cell? w _ h.c0
theorem boxL {w wA : World} {win chain : Int} {lazy : Bool} {ty : TypeId} (hA : wA = w.alloc (.cells #[.int .i64 win, .int .i64 chain, .bool lazy] ty)) : LkAt wA w.heap.size win chain lazy := by
  have h : wA.heap[w.heap.size]? = some (.cells #[.int .i64 win, .int .i64 chain, .bool lazy] ty (0, 0)) := by rw [hA]; exact heap_alloc_new w _
  refine ⟨?_, ?_, ?_⟩ <;> simp [World.cell?, h]
/-- How far the search has come. -/
def BsI (D : List Int) (p W C : Nat) (wA wr : World) (tb td ts tq : Value) : Prop := ∃ d best dist seen : Nat, 1 ≤ d ∧ d ≤ p + 1 ∧ seen < d ∧ tb = .int .i64 (best : Int) ∧ td = .int .i64 (dist : Int) ∧ ts = .int .i64 (seen : Int) ∧ tq = .int .i64 ((p : Int) - (d : Int)) ∧
  best ≤ 258 ∧ bst7 D p W C = bsg7 D p W C (p + 1 - d) d best dist seen ∧ Below wA.heap.size wA wr
end Go.Proofs.YtalojcpgkgeofaaGreatDoor
