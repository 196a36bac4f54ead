import Derived.Test.YtmpbaabmpcejdaaBackMath
namespace Go.Proofs.Ytmpbaabmpcejdaa
open Go.RowKit
set_option linter.unusedVariables false

/-- What is taken is just what is written. -/
theorem dec_ok : ∀ (zs : List Int) (c : Nat) (u w n : Int), c ≤ 9 → 0 ≤ u → u < 128 ^ c → (∀ z ∈ zs, 0 ≤ z ∧ z ≤ 255) → decL u c zs = (w, n, 0) →
    ∃ (m : Nat) (v : Int), 1 ≤ m ∧ m ≤ zs.length ∧ n = (c : Int) + (m : Int) ∧ 0 ≤ v ∧ v < 2 * 128 ^ (9 - c) ∧ w = u + v * 128 ^ c ∧ zs.take m = encL (9 - c) v ∧ (0 < c → 0 < v)
  | [], c, u, w, n, _, _, _, _, h => by simp [decL] at h
  | x :: r, c, u, w, n, hc, hu0, hu1, hz, h => by
    have hx := hz x (by simp)
    have hp := pow128_pos c
    rw [decL] at h
    by_cases he : tkErr c x = 0
    · rw [if_neg (by simp [he])] at h
      have h9 := tkErr_nine he
      have hne : 0 < c → x ≠ 0 := by
        intro h1 h2
        subst h2
        unfold tkErr at he
        split at he
        · cases he
        · rw [if_pos ⟨h1, rfl⟩] at he; cases he
      by_cases h7 : x < 128
      · rw [if_pos h7] at h
        simp only [Prod.mk.injEq, and_true] at h
        obtain ⟨rfl, rfl⟩ := h
        have e2 : x % 128 = x := by omega
        have hp9 := pow128_pos (9 - c)
        refine ⟨1, x, by omega, by simp, by omega, hx.1, ?_, by unfold tkVal; rw [e2], ?_, fun h1 => by have := hne h1; omega⟩
        · by_cases e : c = 9
          · subst e; have := h9 rfl; simp; omega
          · have h1 : (128 : Int) ^ 1 ≤ 128 ^ (9 - c) := pow128_mono (by omega)
            simp at h1
            omega
        · cases 9 - c with
          | zero => simp [encL]
          | succ f => rw [encL, if_neg (by omega)]; simp
      · rw [if_neg h7] at h
        have hc8 := tk_more_le hc he (by omega)
        have hbd := tkVal_bd u c x hu0 hu1 hx.1
        obtain ⟨m, v, h1, h2, h3, h4, h5, h6, h8, h10⟩ := dec_ok r (c + 1) (tkVal u c x) w n (by omega) hbd.1 hbd.2 (fun z hz' => hz z (by simp [hz'])) h
        have hv := h10 (by omega)
        obtain ⟨f, hf⟩ : ∃ f, 9 - c = f + 1 := ⟨9 - c - 1, by omega⟩
        have hf2 : 9 - (c + 1) = f := by omega
        rw [hf2] at h5 h8
        have e3 : (128 : Int) ^ (f + 1) = 128 ^ f * 128 := Int.pow_succ _ _
        have hpf := pow128_pos f
        have d1 : (x % 128 + v * 128) / 128 = v := by omega
        have d2 : (x % 128 + v * 128) % 128 + 128 = x := by omega
        refine ⟨m + 1, x % 128 + v * 128, by omega, by simp; omega, by omega, by omega, by rw [hf, e3]; omega, ?_, ?_, fun _ => by omega⟩
        · rw [h6]
          unfold tkVal
          rw [Int.add_mul, Int.pow_succ, Int.add_assoc, Int.mul_assoc, Int.mul_comm 128]
        · rw [hf, encL, if_pos (by omega), d1, d2, List.take_succ_cons, h8]
    · rw [if_pos (by simp [he])] at h
      simp at h
      exact absurd h.2.2 he

theorem decI_ok (zs : List Int) (w n : Int) (hz : ∀ z ∈ zs, 0 ≤ z ∧ z ≤ 255) (h : decL 0 0 zs = (w, n, 0)) : ∃ m : Nat, 1 ≤ m ∧ m ≤ zs.length ∧ n = (m : Int) ∧ 0 ≤ w ∧ w ≤ 18446744073709551615 ∧ zs.take m = encI w := by
  obtain ⟨m, v, h1, h2, h3, h4, h5, h6, h7, _⟩ := dec_ok zs 0 0 w n (by omega) (by omega) (by decide) hz h
  have := pow9
  simp only [Nat.sub_zero, Int.pow_zero, Int.mul_one, Int.zero_add] at h5 h6 h7
  subst h6
  exact ⟨m, h1, h2, by omega, h4, by omega, h7⟩

theorem dec_bad : ∀ (zs : List Int) (c : Nat) (u : Int), (decL u c zs).2.2 ≠ 0 → (decL u c zs).1 = 0 ∧ (decL u c zs).2.1 = 0
  | [], c, u, h => by simp [decL]
  | x :: r, c, u, h => by
    rw [decL] at h ⊢
    by_cases he : tkErr c x = 0
    · rw [if_neg (by simp [he])] at h ⊢
      by_cases h7 : x < 128
      · rw [if_pos h7] at h; simp at h
      · rw [if_neg h7] at h ⊢; exact dec_bad r _ _ h
    · rw [if_pos (by simp [he])]; simp

/-- No number's form begins another one's. -/
theorem enc_prefix (u v : Int) (hu0 : 0 ≤ u) (hu1 : u ≤ 18446744073709551615) (hv0 : 0 ≤ v) (hv1 : v ≤ 18446744073709551615) (h : encI u = (encI v).take (encI u).length) : u = v := by
  have h1 := dec_encI v [] hv0 hv1
  have h2 := dec_encI u ((encI v).drop (encI u).length) hu0 hu1
  have e : encI u ++ (encI v).drop (encI u).length = encI v := by
    conv => lhs; arg 1; rw [h]
    exact List.take_append_drop _ _
  rw [e] at h2
  rw [List.append_nil] at h1
  rw [h1] at h2
  simp at h2
  exact h2.1.symm
end Go.Proofs.Ytmpbaabmpcejdaa
