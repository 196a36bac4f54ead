
import Derived.Test.YtjoghmdjnkdokaaDoorFlM
namespace Go.Proofs.YtjoghmdjnkdokaaDoor
open Go.RowKit Go.Shelf
set_option linter.unusedVariables false
set_option linter.unusedSimpArgs false

/-! The landed flash: Read. -/
def pb21 (S : Fs21) (x : Int) (p i : Nat) : Int := (sh21 S x (p : Int)).b.getD i 255
def rb21 (S : Fs21) (x : Int) (a n : Nat) : List Int := (List.range n).map fun i => pb21 S x ((a + i) / S.pg) ((a + i) % S.pg)
theorem rb21_len (S : Fs21) (x : Int) (a n : Nat) : (rb21 S x a n).length = n := by simp [rb21]
theorem pad21 (B : List Int) (fr : Nat) : ∀ k, (List.range k).map (fun i => B.getD (fr + i) 255) = (B.drop fr).take k ++ List.replicate (k - ((B.drop fr).take k).length) 255 := by
  intro k
  apply List.ext_getElem?
  intro i
  by_cases hi : i < k
  · by_cases h2 : fr + i < B.length
    · have h3 : i < min k (B.length - fr) := by omega
      simp [List.getElem?_append, hi, h2, h3, List.getD, List.getElem?_take, List.getElem?_drop]
    · have h3 : ¬ i < min k (B.length - fr) := by omega
      have h4 : i - min k (B.length - fr) < k - min k (B.length - fr) := by omega
      have h5 : B[fr + i]? = none := List.getElem?_eq_none (by omega)
      simp [List.getElem?_append, hi, h2, h3, h4, h5, List.getD, List.getElem?_replicate]
  · have h3 : ¬ i < min k (B.length - fr) := by omega
    have h4 : ¬ i - min k (B.length - fr) < k - min k (B.length - fr) := by omega
    simp [List.getElem?_append, hi, h3, h4, List.getElem?_replicate]
theorem rb21_more (S : Fs21) (x : Int) (a d k : Nat) (hpg : 0 < S.pg) (hk : k ≤ S.pg - (a + d) % S.pg) : rb21 S x a (d + k) = rb21 S x a d ++ (List.range k).map (fun i => (sh21 S x (((a + d) / S.pg : Nat) : Int)).b.getD ((a + d) % S.pg + i) 255) := by
  unfold rb21
  rw [List.range_add, List.map_append, List.map_map]
  congr 1
  apply List.map_congr_left
  intro i hi
  have hi' : i < k := by simpa using hi
  have hm : (a + d) % S.pg < S.pg := Nat.mod_lt _ hpg
  have e := Nat.div_add_mod (a + d) S.pg
  have e1 : (a + (d + i)) / S.pg = (a + d) / S.pg := by
    have : a + (d + i) = S.pg * ((a + d) / S.pg) + ((a + d) % S.pg + i) := by omega
    have hz : ((a + d) % S.pg + i) / S.pg = 0 := Nat.div_eq_of_lt (by omega)
    rw [this, Nat.mul_add_div hpg, hz, Nat.add_zero]
  have e2 : (a + (d + i)) % S.pg = (a + d) % S.pg + i := by
    have : a + (d + i) = S.pg * ((a + d) / S.pg) + ((a + d) % S.pg + i) := by omega
    have hz : ((a + d) % S.pg + i) % S.pg = (a + d) % S.pg + i := Nat.mod_eq_of_lt (by omega)
    rw [this, Nat.mul_add_mod, hz]
  show pb21 S x ((a + (d + i)) / S.pg) ((a + (d + i)) % S.pg) = _
  rw [e1, e2]
  rfl
theorem sp21_at (A R cs : List Int) (d : Nat) (hl : A.length = d) : sp21 (A ++ R) d cs = A ++ cs ++ R.drop cs.length := by
  subst hl
  unfold sp21
  rw [List.take_left, List.drop_append]
  have e1 : A.drop (A.length + cs.length) = [] := List.drop_eq_nil_of_le (by omega)
  have e2 : A.length + cs.length - A.length = cs.length := by omega
  rw [e1, e2, List.nil_append]
theorem rb21_step (S : Fs21) (x : Int) (a d k n : Nat) (X : List Int) (hpg : 0 < S.pg) (hk : k ≤ S.pg - (a + d) % S.pg) (hn : d + k ≤ n) :
    sp21 (rb21 S x a d ++ List.replicate (n - d) 255 ++ X) d (((sh21 S x (((a + d) / S.pg : Nat) : Int)).b.drop ((a + d) % S.pg)).take k) = rb21 S x a (d + k) ++ List.replicate (n - (d + k)) 255 ++ X := by
  rw [rb21_more S x a d k hpg hk, pad21]
  obtain ⟨cs, hcs⟩ : ∃ cs, cs = ((sh21 S x (((a + d) / S.pg : Nat) : Int)).b.drop ((a + d) % S.pg)).take k := ⟨_, rfl⟩
  have hcl : cs.length ≤ k := by rw [hcs]; simp; omega
  rw [← hcs]
  have hl := rb21_len S x a d
  generalize rb21 S x a d = A at *
  rw [List.append_assoc A, sp21_at A _ cs d hl, List.drop_append, List.drop_replicate]
  have e3 : X.drop (cs.length - (List.replicate (n - d) (255 : Int)).length) = X := by
    rw [List.length_replicate, show cs.length - (n - d) = 0 by omega]; rfl
  rw [e3, show n - d - cs.length = (k - cs.length) + (n - (d + k)) by omega, ← List.replicate_append_replicate]
  simp
end Go.Proofs.YtjoghmdjnkdokaaDoor
