import Derived.Test.YtnofaodahcfldabDoorPowW
namespace Go.Proofs.YtnofaodahcfldabDoor
set_option linter.unusedVariables false
set_option linter.unusedSimpArgs false

/-! The order of x modulo G. -/
def Per (d : Nat) : Prop := onN d oneW = oneW
theorem Per.all {d : Nat} (h : Per d) (w : W32) : onN d w = w := by
  rw [← act_pow w d, h, act_one]
theorem Per.zero : Per 0 := rfl
theorem Per.add {a b : Nat} (ha : Per a) (hb : Per b) : Per (a + b) := by
  show onN (a + b) oneW = oneW
  rw [onN_add, hb, ha]
theorem Per.mul {a : Nat} (h : Per a) (k : Nat) : Per (a * k) := by
  induction k with
  | zero => exact Per.zero
  | succ k ih => rw [Nat.mul_succ]; exact Per.add ih h
theorem Per.sub {a b : Nat} (ha : Per a) (hb : Per (a + b)) : Per b := by
  have := hb
  unfold Per at this
  rw [onN_add] at this
  exact onN_inj a (this.trans ha.symm)
theorem Per.mod {a b : Nat} (ha : Per a) (hb : Per b) : Per (b % a) := by
  have e : b = a * (b / a) + b % a := (Nat.div_add_mod b a).symm
  rw [e] at hb
  exact Per.sub (ha.mul _) hb
theorem Per.gcd (a b : Nat) : Per a → Per b → Per (Nat.gcd a b) := by
  refine Nat.gcd.induction a b ?_ ?_
  · intro n _ h
    rw [Nat.gcd_zero_left]
    exact h
  · intro m n _ ih hm hn
    rw [Nat.gcd_rec]
    exact ih (Per.mod hm hn) hm

theorem prime_3 : ∀ d, d ∣ 3 → d = 1 ∨ d = 3 := by
  intro d h
  have := Nat.le_of_dvd (by decide) h
  have all : ∀ d : Fin 4, d.val ∣ 3 → d.val = 1 ∨ d.val = 3 := by decide
  exact all ⟨d, by omega⟩ h
theorem prime_5 : ∀ d, d ∣ 5 → d = 1 ∨ d = 5 := by
  intro d h
  have := Nat.le_of_dvd (by decide) h
  have all : ∀ d : Fin 6, d.val ∣ 5 → d.val = 1 ∨ d.val = 5 := by decide
  exact all ⟨d, by omega⟩ h
theorem prime_17 : ∀ d, d ∣ 17 → d = 1 ∨ d = 17 := by
  intro d h
  have := Nat.le_of_dvd (by decide) h
  have all : ∀ d : Fin 18, d.val ∣ 17 → d.val = 1 ∨ d.val = 17 := by decide
  exact all ⟨d, by omega⟩ h
theorem prime_257 : ∀ d, d ∣ 257 → d = 1 ∨ d = 257 := by
  intro d h
  have := Nat.le_of_dvd (by decide) h
  have all : ∀ d : Fin 258, d.val ∣ 257 → d.val = 1 ∨ d.val = 257 := by decide +kernel
  exact all ⟨d, by omega⟩ h
theorem prime_65537 : ∀ d, d ∣ 65537 → d = 1 ∨ d = 65537 := by
  intro d h
  obtain ⟨e, he⟩ := h
  have all : ∀ d : Fin 257, d.val ∣ 65537 → d.val = 1 := by decide +kernel
  by_cases hd : d < 257
  · exact .inl (all ⟨d, hd⟩ ⟨e, he⟩)
  · by_cases h2 : e < 257
    · have h1 : e = 1 := all ⟨e, h2⟩ ⟨d, by rw [he, Nat.mul_comm]⟩
      rw [h1, Nat.mul_one] at he
      exact .inr he.symm
    · have : 257 * 257 ≤ d * e := Nat.mul_le_mul (by omega) (by omega)
      omega
theorem cop {p : Nat} (hp : ∀ d, d ∣ p → d = 1 ∨ d = p) (h : Nat) (hn : ¬ p ∣ h) : Nat.Coprime h p := by
  rcases hp (Nat.gcd h p) (Nat.gcd_dvd_right h p) with e | e
  · exact e
  · exact absurd (e ▸ Nat.gcd_dvd_left h p) hn
theorem per_all : Per 4294967295 := pow_4294967295
theorem no_3 : ¬ Per 1431655765 := fun h => absurd (pow_1431655765.symm.trans h) (by decide)
theorem no_5 : ¬ Per 858993459 := fun h => absurd (pow_858993459.symm.trans h) (by decide)
theorem no_17 : ¬ Per 252645135 := fun h => absurd (pow_252645135.symm.trans h) (by decide)
theorem no_257 : ¬ Per 16711935 := fun h => absurd (pow_16711935.symm.trans h) (by decide)
theorem no_65537 : ¬ Per 65535 := fun h => absurd (pow_65535.symm.trans h) (by decide)
/-- No power of x below the 4294967295th is 1. -/
theorem order {d : Nat} (h0 : 0 < d) (h1 : d < 4294967295) : ¬ Per d := by
  intro h
  have hg := Per.gcd d 4294967295 h per_all
  obtain ⟨k, hk⟩ := Nat.gcd_dvd_right d 4294967295
  have hle : Nat.gcd d 4294967295 ≤ d := Nat.le_of_dvd h0 (Nat.gcd_dvd_left _ _)
  have hgp : 0 < Nat.gcd d 4294967295 := Nat.gcd_pos_of_pos_left _ h0
  generalize Nat.gcd d 4294967295 = g at *
  have key : ∀ p q : Nat, 0 < p → p * q = 4294967295 → ¬ Per q → ¬ p ∣ k := by
    intro p q hp hpq hq ⟨c, hc⟩
    apply hq
    have e : q = g * c := by
      have : p * q = p * (g * c) := by rw [hpq, hk, hc]; rw [← Nat.mul_assoc, ← Nat.mul_assoc, Nat.mul_comm g p]
      exact Nat.eq_of_mul_eq_mul_left hp this
    rw [e]
    exact hg.mul c
  have c3 := cop prime_3 k (key 3 1431655765 (by decide) (by decide) no_3)
  have c5 := cop prime_5 k (key 5 858993459 (by decide) (by decide) no_5)
  have c17 := cop prime_17 k (key 17 252645135 (by decide) (by decide) no_17)
  have c257 := cop prime_257 k (key 257 16711935 (by decide) (by decide) no_257)
  have c6 := cop prime_65537 k (key 65537 65535 (by decide) (by decide) no_65537)
  have hd : k ∣ 3 * (5 * (17 * (257 * 65537))) := ⟨g, by rw [Nat.mul_comm k g, ← hk]⟩
  have h2 := c3.dvd_of_dvd_mul_left hd
  have h3 := c5.dvd_of_dvd_mul_left h2
  have h4 := c17.dvd_of_dvd_mul_left h3
  have h5 := c257.dvd_of_dvd_mul_left h4
  have h6 : k ∣ 1 := by
    have : Nat.gcd k 65537 = 1 := c6
    rw [← this]
    exact Nat.dvd_gcd (Nat.dvd_refl k) h5
  have h7 : k = 1 := Nat.dvd_one.1 h6
  rw [h7, Nat.mul_one] at hk
  omega
end Go.Proofs.YtnofaodahcfldabDoor
