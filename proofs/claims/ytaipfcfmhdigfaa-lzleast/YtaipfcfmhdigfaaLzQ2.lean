
import Derived.Test.YtaipfcfmhdigfaaLzR8
import Derived.Test.YtaipfcfmhdigfaaLzQ
namespace Go.Proofs.Ytaipfcfmhdigfaa
open Go.RowKit
set_option linter.unusedVariables false

/-! What Cheapest answers, in one form for the program and the document. -/
instance (c : Pr7) : Decidable (badP c) := by unfold badP; infer_instance
def cheap7 (D : List Int) (win chain : Int) (c : Pr7) : List Tok7 := if opt7 win chain = 0 ∧ ¬ badP c then che7 D win.toNat c else []
def cheapV7 (D : List Int) (win chain : Int) (c : Pr7) : Int := if opt7 win chain = 0 ∧ ¬ badP c then (lea7 D win.toNat c 0).1 else 0
def cheapE7 (win chain : Int) (c : Pr7) : Int := if opt7 win chain = 0 ∧ ¬ badP c then 0 else 72
def CheP (w : World) (ty : TypeId) (T : List Tok7) (v er : Int) (e : Ending) (w' : World) : Prop := ∃ oa oc, e = .returned (.tuple #[.slice oa T.length oc, .int .i64 v, .int .i64 er]) ∧ w'.ownsRow w.heap.size ty 3 (.slice oa T.length oc) T.length (flatT T) ∧ Below w.heap.size w w'
theorem tz7_fit {D : List Int} {win : Nat} (hD : ∀ z ∈ D, 0 ≤ z ∧ z ≤ 255) (hw : win ≤ 32768) : ∀ (l : List Tok7) (p : Nat), Tz7 D win l p → ∀ t ∈ l, t.Fit ∧ 0 ≤ t.len ∧ 0 ≤ t.dist ∧ t.dist ≤ 32768
  | [], _, _, t, h => by simp at h
  | x :: r, p, ⟨hp, h⟩, t, ht => by
    rcases h with ⟨rfl, h⟩ | ⟨n, d, rfl, hm, h⟩
    · rcases List.mem_cons.1 ht with rfl | ht
      · have := getD_bd7 hD p
        exact ⟨⟨this, by simp, by simp⟩, by simp, by simp, by simp⟩
      · exact tz7_fit hD hw r _ h t ht
    · rcases List.mem_cons.1 ht with rfl | ht
      · have h1 := hm.n258
        have h2 := hm.dw
        exact ⟨⟨by simp, by simp only; omega, by simp only; omega⟩, by simp only; omega, by simp only; omega, by simp only; omega⟩
      · exact tz7_fit hD hw r _ h t ht
theorem cheap7_all {D : List Int} {win chain : Int} {c : Pr7} (hD : ∀ z ∈ D, 0 ≤ z ∧ z ≤ 255) (h : opt7 win chain = 0) (hb : ¬ badP c) :
    check7 win (cheap7 D win chain c) = (0, 0) ∧ xpd7 win (cheap7 D win chain c) = D ∧ cost7 c (cheap7 D win chain c) = cheapV7 D win chain c ∧ (cheap7 D win chain c).length ≤ D.length ∧ cheapE7 win chain c = 0 ∧ (∀ t ∈ cheap7 D win chain c, t.Fit ∧ 0 ≤ t.len ∧ 0 ≤ t.dist ∧ t.dist ≤ 32768) ∧ cheapV7 D win chain c ≤ c.lit * (D.length : Int) ∧
    ∀ chain' lazy, opt7 win chain' = 0 → cheapV7 D win chain c ≤ cost7 c (parse7 D win chain' lazy) ∧ ∀ t ∈ parse7 D win chain' lazy, t.Fit ∧ 0 ≤ t.len ∧ 0 ≤ t.dist ∧ t.dist ≤ 32768 := by
  obtain ⟨h1, h2, h3, h4⟩ := opt7_ok h
  obtain ⟨W, rfl⟩ := Int.eq_ofNat_of_zero_le (show 0 ≤ win by omega)
  have e1 : cheap7 D W chain c = che7 D W c := by unfold cheap7; rw [if_pos ⟨h, hb⟩]; rfl
  have e2 : cheapV7 D W chain c = (lea7 D W c 0).1 := by unfold cheapV7; rw [if_pos ⟨h, hb⟩]; rfl
  have e3 : cheapE7 W chain c = 0 := by unfold cheapE7; rw [if_pos ⟨h, hb⟩]
  obtain ⟨t1, t2⟩ := che7_tz D W c
  obtain ⟨a1, a2, a3, a4⟩ := Tz7.all (by omega) _ _ t1
  have hf : 0 ≤ c.far := by unfold badP at hb; omega
  have hc : check7 W (che7 D W c) = (0, 0) := by
    unfold check7
    rw [if_neg (by omega)]
    exact chk7_ok _ _ _ _ a1
  rw [e1, e2, e3]
  refine ⟨hc, ?_, t2, by simpa using a4, rfl, tz7_fit hD (by omega) _ _ t1, lea7_lits D W c hf, fun chain' lazy ho => ?_⟩
  · unfold xpd7
    rw [hc, if_pos rfl]
    simpa using a2
  · have e4 : parse7 D W chain' lazy = par7 D W chain'.toNat lazy := by unfold parse7; rw [if_pos ho]; rfl
    rw [e4]
    have tz := par7_tz D W chain'.toNat lazy
    exact ⟨lea7_least hf _ _ tz, tz7_fit hD (by omega) _ _ tz⟩
end Go.Proofs.Ytaipfcfmhdigfaa
