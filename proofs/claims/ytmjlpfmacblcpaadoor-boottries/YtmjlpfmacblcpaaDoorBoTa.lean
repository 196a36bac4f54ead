import Derived.Test.YtmjlpfmacblcpaaDoorBoB
namespace Go.Proofs.YtmjlpfmacblcpaaDoor
set_option linter.unusedVariables false
/-- A record may be, and is started at most so often. -/
def Iv25 (r : Rc25) (l : Int) : Prop := r.may ∧ r.t ≤ l ∧ l ≤ 15
theorem may_first25 {i : Im25} (h : ck25 ⟨1, i, no25, 0⟩ = 0) : (⟨1, i, no25, 0⟩ : Rc25).may := by
  unfold ck25 at h
  split at h
  · assumption
  · cases h
theorem cd_may25 {r : Rc25} (h : r.may) : cd25 r = r := if_pos h
theorem ck_may25 {r : Rc25} (h : r.may) : ck25 r = 0 := if_pos h
/-- Offer answers OK: the record that may be; or not, whatever it answers then. -/
theorem offer25 {r : Rc25} (hm : r.may) {i : Im25} {k : Int} (h : (of25 r i k).2 = 0) : (of25 r i k).1.may ∧ (of25 r i k).1.g = r.g ∧ (of25 r i k).1.t = k ∧ k ≤ 15 := by
  unfold of25 at h ⊢
  rw [if_pos hm] at h ⊢
  by_cases h1 : 1 ≤ k ∧ k ≤ 15
  · rw [if_pos h1] at h ⊢
    by_cases h2 : i.v < r.g.v
    · rw [if_pos h2] at h; cases h
    · rw [if_neg h2] at h ⊢
      by_cases h3 : (⟨r.q, r.g, i, k⟩ : Rc25).may
      · rw [cd_may25 h3]; exact ⟨h3, rfl, rfl, h1.2⟩
      · simp only [ck25, if_neg h3] at h; cases h
  · rw [if_neg h1] at h; cases h
/-- Start: OK; the image that is good, or the next one, with a start left. -/
theorem start25 {r : Rc25} (hm : r.may) : (st25 r).2.2 = 0 ∧ (st25 r).1.g = r.g ∧ (st25 r).1.may ∧ ((0 < r.t ∧ (st25 r).2.1 = r.n ∧ r.n ≠ r.g ∧ (st25 r).1.t = r.t - 1) ∨ ((st25 r).2.1 = r.g ∧ (st25 r).1.t = 0)) := by
  unfold st25
  rw [if_pos hm]
  obtain ⟨h1, h2, h3, h4⟩ := hm
  by_cases ht : 0 < r.t
  · rw [if_pos ht]
    rcases h4 with ⟨_, h5⟩ | ⟨h5, h6, h7⟩
    · omega
    · exact ⟨rfl, rfl, ⟨h1, ⟨by show 0 ≤ r.t - 1; omega, by show r.t - 1 ≤ 15; omega⟩, h3, .inr ⟨h5, h6, h7⟩⟩, .inl ⟨ht, rfl, fun e => h7 (by rw [e]), rfl⟩⟩
  · rw [if_neg ht]
    have h0 : r.t = 0 := by omega
    exact ⟨rfl, rfl, ⟨h1, h2, h3, .inl ⟨rfl, h0⟩⟩, .inr ⟨rfl, h0⟩⟩
/-- Confirm: the next one, if there is one. -/
theorem confirm25 {r : Rc25} (hm : r.may) : ((cf25 r).2 ≠ 0 ∧ r.n.v = 0) ∨ ((cf25 r).2 = 0 ∧ (cf25 r).1.g = r.n ∧ (cf25 r).1.n = no25 ∧ (cf25 r).1.may ∧ (cf25 r).1.t = 0 ∧ r.g.v ≤ r.n.v) := by
  unfold cf25
  rw [if_pos hm]
  obtain ⟨h1, h2, h3, h4⟩ := hm
  by_cases hn : r.n = no25
  · rw [if_pos hn]
    exact .inl ⟨by decide, by rw [hn]; rfl⟩
  · rw [if_neg hn]
    rcases h4 with ⟨h5, _⟩ | ⟨_, h6, _⟩
    · exact absurd h5 hn
    · exact .inr ⟨rfl, rfl, rfl, ⟨h1, ⟨(by decide : (0 : Int) ≤ 0), (by decide : (0 : Int) ≤ 15)⟩, ⟨h6.1, by show 1 ≤ r.n.v; have := h3.2.1; have := h6.2.1; omega, h6.2.2.1, h6.2.2.2⟩, .inl ⟨rfl, rfl⟩⟩, rfl, h6.2.1⟩
end Go.Proofs.YtmjlpfmacblcpaaDoor
