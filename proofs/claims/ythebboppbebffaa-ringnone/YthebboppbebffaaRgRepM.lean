
import Derived.Test.YthebboppbebffaaRgRef3
namespace Go.Proofs.Ythebboppbebffaa
set_option linter.unusedVariables false

/-- What is copied repeats what stood there. -/
theorem cpyA_rep (L : List Int) (d : Nat) (hd : 1 ≤ d) (hl : d ≤ L.length) : ∀ n j, L.length - d ≤ j → j < L.length + n → (cpyA L d n).getD j 0 = L.getD (L.length - d + (j - (L.length - d)) % d) 0
  | 0, j, h1, h2 => by
    rw [Nat.mod_eq_of_lt (by omega), cpyA]
    congr 1
    omega
  | n + 1, j, h1, h2 => by
    have hA := cpyA_len L d n
    rw [cpyA]
    by_cases hj : j < L.length + n
    · rw [← cpyA_rep L d hd hl n j h1 hj]
      simp only [List.getD]
      rw [List.getElem?_append_left (by omega)]
    · obtain rfl : j = L.length + n := by omega
      have h3 := cpyA_rep L d hd hl n (L.length + n - d) (by omega) (by omega)
      have e : ∀ x : Int, (cpyA L d n ++ [x]).getD (L.length + n) 0 = x := fun x => by
        simp only [List.getD]
        rw [List.getElem?_append_right (by omega), hA]
        simp
      rw [e, hA, h3]
      rw [show L.length + n - (L.length - d) = n + d by omega, show L.length + n - d - (L.length - d) = n by omega, Nat.add_mod_right]
theorem cpyO_rep (L : List Int) (d n i : Nat) (hd : 1 ≤ d) (hl : d ≤ L.length) (hi : i < n) : (cpyO L d n).getD i 0 = (L.drop (L.length - d)).getD (i % d) 0 := by
  have h := cpyA_rep L d hd hl n (L.length + i) (by omega) (by omega)
  rw [show L.length + i - (L.length - d) = i + d by omega, Nat.add_mod_right] at h
  unfold cpyO
  simp only [List.getD, List.getElem?_drop] at h ⊢
  exact h
end Go.Proofs.Ythebboppbebffaa
