
import Derived.Test.YtgbpejnafgllpaaEd23
import Derived.Test.YtgbpejnafgllpaaEd18
namespace Go.Proofs.Ytgbpejnafgllpaa
open Go.RowKit Go.Shelf
set_option linter.unusedVariables false

/-! What Normal answers, as an edit in memory. -/
theorem flat16_get : ∀ (l : List St16) (i : Nat) (t : St16), l[i]? = some t → (flat16 l)[i * 3]? = some (.int .i64 t.1) ∧ (flat16 l)[i * 3 + 1]? = some (.int .i64 t.2.1) ∧ (flat16 l)[i * 3 + 2]? = some (.int .i64 t.2.2)
  | [], i, t, h => by simp at h
  | x :: l, 0, t, h => by
    have : x = t := by simpa using h
    subst this
    simp [flat16]
  | x :: l, i + 1, t, h => by
    have ih := flat16_get l i t (by simpa using h)
    have e : flat16 (x :: l) = [.int .i64 x.1, .int .i64 x.2.1, .int .i64 x.2.2] ++ flat16 l := by simp [flat16]
    rw [e]
    have e1 : (i + 1) * 3 = i * 3 + 3 := by omega
    rw [e1, show i * 3 + 3 + 1 = i * 3 + 1 + 3 by omega, show i * 3 + 3 + 2 = i * 3 + 2 + 3 by omega]
    simpa using ih
theorem own_segS16 {w : World} {base n cap : Nat} {e : TypeId} {a : Option Addr} {l : List St16} (h : w.ownsRow base e 3 (.slice a n cap) n (flat16 l)) (hl : l.length = n) (hf : ∀ t ∈ l, Fit16 t) : SegS w a l := by
  refine ⟨fun i hi => ?_, hf⟩
  rcases h.2 with ⟨_, h0⟩ | ⟨g, cp, cur, hv, _⟩
  · omega
  simp only [Value.slice.injEq] at hv
  obtain ⟨rfl, _, rfl⟩ := hv
  have hc : ∀ j u, (flat16 l)[j]? = some u → w.cell? ⟨g, j, none⟩ = some u := by
    intro j u hu
    have := h.cells (g := g) rfl j u hu
    have hadd : (⟨g, 0, none⟩ : Addr).add j = ⟨g, j, none⟩ := by unfold Addr.add; split <;> simp_all
    rwa [hadd] at this
  have hg : l[i]? = some (l.getD i z16) := by simp [List.getD, hi]
  obtain ⟨q0, q1, q2⟩ := flat16_get l i _ hg
  exact ⟨g, 0, rfl, by rw [Nat.zero_add]; exact hc _ _ q0, by rw [Nat.zero_add]; exact hc _ _ q1, by rw [Nat.zero_add]; exact hc _ _ q2⟩
theorem wr16_by {O : List Og16} (hb : ∀ o ∈ O, 0 ≤ o.2.1 ∧ o.2.1 ≤ 255) : ∀ i, i ≤ O.length → ∀ s, wr16 (O.take i) = some s → (∀ v ∈ s.D, 0 ≤ v ∧ v ≤ 255) ∧ (∀ v ∈ s.X, 0 ≤ v ∧ v ≤ 255)
  | 0, _, s, h => by
    have h : some wz16 = some s := h
    obtain rfl := Option.some.inj h
    simp [wz16]
  | i + 1, hi, s, h => by
    have hil : i < O.length := by omega
    rw [List.take_succ_eq_append_getElem hil] at h
    cases hp : wr16 (O.take i) with
    | none => rw [wr16_none hp] at h; cases h
    | some s0 =>
      obtain ⟨d0, x0⟩ := wr16_by hb i (by omega) s0 hp
      rw [wr16_snoc hp] at h
      have hm := hb _ (List.getElem_mem hil)
      generalize O[i] = o at *
      have ad : ∀ (l : List Int), (∀ v ∈ l, 0 ≤ v ∧ v ≤ 255) → ∀ v ∈ l ++ [o.2.1], 0 ≤ v ∧ v ≤ 255 := by
        intro l hl v hv
        rcases List.mem_append.1 hv with y | y
        · exact hl v y
        · have : v = o.2.1 := by simpa using y
          rw [this]; exact hm
      unfold tk16 at h
      split at h
      · obtain rfl := Option.some.inj h
        exact ⟨d0, ad _ x0⟩
      · split at h
        · obtain rfl := Option.some.inj h
          exact ⟨ad _ d0, x0⟩
        · split at h
          · obtain rfl := Option.some.inj h
            exact ⟨ad _ d0, x0⟩
          · cases h
end Go.Proofs.Ytgbpejnafgllpaa
