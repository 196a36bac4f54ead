
import Derived.Test.YtcgaembnibnglaaCu12
import Derived.Test.YtcgaembnibnglaaCu13
namespace Go.Proofs.Ytcgaembnibnglaa
set_option linter.unusedVariables false

/-! The document's way to say it. -/
def H17 (S : List St16) (pos old : Int) (i : Nat) : Prop :=
  ¬ ((S.getD i z16).1 = 0 ∧ (S.getD i z16).2.1 = 0) ∧ (i + 1 = S.length → (S.getD i z16).2.2 = 0) ∧ (-16777216 ≤ (S.getD i z16).2.2 ∧ (S.getD i z16).2.2 ≤ 16777216) ∧ (0 ≤ pos + pl16 S i + (S.getD i z16).1 ∧ pos + pl16 S i + (S.getD i z16).1 ≤ old) ∧ (0 ≤ pos + pl16 S i + (S.getD i z16).1 + (S.getD i z16).2.2 ∧ pos + pl16 S i + (S.getD i z16).1 + (S.getD i z16).2.2 ≤ old)
theorem cg17_all {S : List St16} {m k : Nat} {pos old : Int} (hp : 0 ≤ pos ∧ pos ≤ old) : ∀ i, (∀ j, j < i → G17 S m k pos old j) → Cg17 S m k pos old i
  | 0, _ => Cg17.zero hp
  | i + 1, h => (cg17_all hp i (fun j hj => h j (by omega))).succ (h i (by omega))
theorem w17_iff (pos : Int) (S : List St16) (m k : Nat) (old size : Int) : W17 pos S m k old size ↔ ((∀ i, i < S.length → M17 S i) ∧ (1 ≤ size ∧ size ≤ 65536) ∧ (0 ≤ old ∧ old ≤ 16777216) ∧ sa16 S S.length = m ∧ sc16 S S.length = k ∧ ((m + k : Nat) : Int) = size ∧ (0 ≤ pos ∧ pos ≤ old) ∧ ∀ i, i < S.length → H17 S pos old i) := by
  constructor
  · rintro ⟨⟨s1, s2, s3⟩, ⟨o1, o2, o3, o4⟩, g, ha, hc⟩
    refine ⟨fun i hi => ?_, ⟨s1, s2⟩, ⟨o1, o2⟩, ha, hc, s3, ⟨o3, o4⟩, fun i hi => ?_⟩
    · obtain ⟨g1, g2, g3, g4, g5, g6, g7, g8, g9⟩ := g i hi
      have hcg := cg17_all ⟨o3, o4⟩ i (fun j hj => g j (by omega))
      have h1 := hcg.a
      have h2 := hcg.c
      refine ⟨g1, by omega, g2, by omega, ?_, ?_⟩
      · simp only [sa16, ad16]; omega
      · simp only [sc16, cp16]; omega
    · obtain ⟨g1, g2, g3, g4, g5, g6, g7, g8, g9⟩ := g i hi
      have hcg := cg17_all ⟨o3, o4⟩ i (fun j hj => g j (by omega))
      have h1 := hcg.p
      exact ⟨g3, g9, by omega, by omega, by omega⟩
  · rintro ⟨hm, ⟨s1, s2⟩, ⟨o1, o2⟩, ha, hc, s3, ⟨o3, o4⟩, hh⟩
    refine ⟨⟨s1, s2, s3⟩, ⟨o1, o2, o3, o4⟩, fun i hi => ?_, ha, hc⟩
    obtain ⟨m1, m2, m3, m4, m5, m6⟩ := hm i hi
    obtain ⟨h1, h2, h3, h4, h5⟩ := hh i hi
    have hmo := sa16_mono (S := S) (i := i + 1) S.length (by omega)
    rw [ha, hc] at hmo
    simp only [sa16, sc16, ad16, cp16] at hmo
    exact ⟨m1, m3, h1, by omega, by omega, by omega, by omega, by omega, h2⟩
end Go.Proofs.Ytcgaembnibnglaa
