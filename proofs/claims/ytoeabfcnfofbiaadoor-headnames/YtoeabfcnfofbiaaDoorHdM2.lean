
import Derived.Test.YtoeabfcnfofbiaaDoorHdR3
namespace Go.Proofs.YtoeabfcnfofbiaaDoor
set_option linter.unusedVariables false

/-! Layer 8: what the runs of lengths are like. -/
def ok8 (r : Rn8) : Prop := 0 ≤ r.sy ∧ r.sy ≤ 18 ∧ lst8 r.sy ≤ r.ct ∧ r.ct ≤ grt8 r.sy
theorem rep8_ok : ∀ (f k : Nat), ∀ r ∈ rep8 f k, ok8 r
  | 0, k, r, h => by simp [rep8] at h
  | f + 1, k, r, h => by
    rw [rep8] at h
    split at h
    · rcases List.mem_cons.1 h with rfl | h
      · unfold ok8 lst8 grt8
        simp
        omega
      · exact rep8_ok f _ r h
    · simp at h
theorem row8_ok {v : Int} {k : Nat} (hv : 0 ≤ v ∧ v ≤ 15) (hk : 1 ≤ k) : ∀ r ∈ row8 v k, ok8 r := by
  intro r h
  unfold row8 at h
  split at h
  · split at h
    · simp at h; subst h; unfold ok8 lst8 grt8; simp; omega
    · split at h
      · simp at h; subst h; unfold ok8 lst8 grt8; simp; omega
      · simp at h; subst h; unfold ok8 lst8 grt8; simp
  · rcases List.mem_cons.1 h with rfl | h
    · have e16 : ¬ v = 16 := by omega
      have e17 : ¬ v = 17 := by omega
      have e18 : ¬ v = 18 := by omega
      unfold ok8 lst8 grt8
      simp [e16, e17, e18]
      omega
    · exact rep8_ok _ _ r h
theorem row8_len {v : Int} {k : Nat} (hk : 1 ≤ k) : (row8 v k).length ≤ sum8 (row8 v k) := sum8_len _ fun r hr => (row8_ct v k hk r hr).1
theorem rung8_ok : ∀ (f : Nat) (l : List Int), (∀ z ∈ l, 0 ≤ z ∧ z ≤ 15) → (∀ r ∈ rung8 f l, ok8 r) ∧ (rung8 f l).length ≤ l.length
  | 0, l, _ => by simp [rung8]
  | f + 1, [], _ => by simp [rung8]
  | f + 1, v :: t, h => by
    have hp : 1 ≤ pre8 v (v :: t) := by rw [pre8, if_pos rfl]; omega
    have hs := row8_sum (v := v) hp
    have hl := row8_len (v := v) hp
    have hpl := pre8_le v (v :: t)
    obtain ⟨i1, i2⟩ := rung8_ok f ((v :: t).drop (sum8 (row8 v (pre8 v (v :: t))))) fun z hz => h z (List.mem_of_mem_drop hz)
    rw [List.length_drop] at i2
    rw [rung8]
    refine ⟨fun r hr => ?_, ?_⟩
    · rcases List.mem_append.1 hr with hr | hr
      · exact row8_ok (h v (by simp)) hp r hr
      · exact i1 r hr
    · rw [List.length_append]
      omega
/-- The runs of lengths that may be: symbols 0 to 18, each count within its bounds; no more runs than lengths. -/
theorem runs8_ok {zs : List Int} (h : may8 zs) : (∀ r ∈ runs8 zs, ok8 r) ∧ (runs8 zs).length ≤ zs.length := rung8_ok zs.length zs h.2
theorem rns8_ok (zs : List Int) : (∀ r ∈ rns8 zs, ok8 r) ∧ (rns8 zs).length ≤ 320 := by
  unfold rns8
  split
  · rename_i h
    have h1 := runs8_ok h
    have h2 := h.1
    exact ⟨h1.1, by omega⟩
  · exact ⟨by simp, by simp⟩
theorem end8_mem : ∀ (l : List Int), 0 < l.length → end8 l ∈ l
  | [], h => by simp at h
  | [x], _ => by simp [end8]
  | x :: y :: r, _ => by
    have := end8_mem (y :: r) (by simp)
    rw [end8]
    · exact List.mem_cons_of_mem _ this
    · intro h; cases h
/-- Lengths that runs say: within 0 to 15, no more than 320. -/
theorem lng8_bd : ∀ (R : List Rn8) (out l : List Int), lng8 R out = some l → (∀ z ∈ out, 0 ≤ z ∧ z ≤ 15) → out.length ≤ 320 → (∀ z ∈ l, 0 ≤ z ∧ z ≤ 15) ∧ l.length ≤ 320
  | [], out, l, h, hb, hl => by
    rw [lng8] at h
    cases h
    exact ⟨hb, hl⟩
  | r :: R, out, l, h, hb, hl => by
    rw [lng8] at h
    split at h
    · cases h
    · rename_i hbad
      split at h
      · cases h
      · rename_i hlen
        refine lng8_bd R _ l h (fun z hz => ?_) (by omega)
        rcases List.mem_append.1 hz with hz | hz
        · exact hb z hz
        · rw [List.eq_of_mem_replicate hz]
          unfold val8
          unfold bad8 at hbad
          split
          · rename_i h16
            have hne : 0 < out.length := by
              by_cases e : out.length = 0
              · exact absurd (.inr (.inr (.inr (.inr ⟨h16, e⟩)))) hbad
              · omega
            exact hb _ (end8_mem out hne)
          · split <;> omega
theorem lens8_bd {R : List Rn8} {l : List Int} (h : lens8 R = some l) : (∀ z ∈ l, 0 ≤ z ∧ z ≤ 15) ∧ l.length ≤ 320 := lng8_bd R [] l h (by simp) (by simp)
end Go.Proofs.YtoeabfcnfofbiaaDoor
