
import Derived.WalkKit
import Derived.Lib.BitFns
import Derived.Test.YteboaolflecibaaDoorBits
namespace Go.Proofs.YteboaolflecibaaDoor
open Go.RowKit
set_option linter.unusedVariables false

/-- A number's shortest form, in at most so many bytes more. -/
def encL : Nat → Int → List Int
  | 0, v => [v]
  | f + 1, v => if 127 < v then (v % 128 + 128) :: encL f (v / 128) else [v]
def encI (v : Int) : List Int := encL 9 v
def encA : List Int → List Int
  | [] => []
  | v :: r => encI v ++ encA r

theorem encA_append (a b : List Int) : encA (a ++ b) = encA a ++ encA b := by
  induction a with
  | nil => rfl
  | cons v r ih => simp [encA, ih]
theorem encA_one (v : Int) : encA [v] = encI v := by simp [encA]
theorem encA_take (zs : List Int) (k : Nat) (h : k < zs.length) : encA (zs.take (k + 1)) = encA (zs.take k) ++ encI (zs.getD k 0) := by
  rw [List.take_succ_eq_append_getElem h, encA_append, encA_one]
  simp [List.getD, h]
theorem encL_len_le : ∀ (f : Nat) (v : Int), 1 ≤ (encL f v).length ∧ (encL f v).length ≤ f + 1
  | 0, v => by simp [encL]
  | f + 1, v => by
    unfold encL
    split
    · have := encL_len_le f (v / 128); simp; omega
    · simp
theorem encI_len (v : Int) : 1 ≤ (encI v).length ∧ (encI v).length ≤ 10 := encL_len_le 9 v
theorem encA_len : ∀ (zs : List Int), zs.length ≤ (encA zs).length ∧ (encA zs).length ≤ 10 * zs.length
  | [] => by simp [encA]
  | v :: r => by
    have := encA_len r
    have := encI_len v
    simp [encA]; omega
theorem encA_take_len (zs : List Int) (k : Nat) : (encA (zs.take k)).length ≤ 10 * k := by
  have := (encA_len (zs.take k)).2
  simp at this
  omega

theorem encL_bd : ∀ (f : Nat) (v : Int), 0 ≤ v → v < 2 * 128 ^ f → ∀ z ∈ encL f v, 0 ≤ z ∧ z ≤ 255
  | 0, v, h0, h1 => by simp [encL]; simp at h1; omega
  | f + 1, v, h0, h1 => by
    have hp := pow128_pos f
    have h2 : v / 128 < 2 * 128 ^ f := by rw [Int.pow_succ] at h1; omega
    have ih := encL_bd f (v / 128) (by omega) h2
    unfold encL
    split
    · intro z hz
      simp at hz
      rcases hz with rfl | hz
      · omega
      · exact ih z hz
    · intro z hz
      simp at hz
      omega
theorem pow9 : (2 : Int) * 128 ^ 9 = 18446744073709551616 := by decide
theorem encI_bd (v : Int) (h0 : 0 ≤ v) (h1 : v ≤ 18446744073709551615) : ∀ z ∈ encI v, 0 ≤ z ∧ z ≤ 255 := encL_bd 9 v h0 (by rw [pow9]; omega)
theorem encA_bd : ∀ (zs : List Int), (∀ v ∈ zs, 0 ≤ v ∧ v ≤ 18446744073709551615) → ∀ z ∈ encA zs, 0 ≤ z ∧ z ≤ 255
  | [], _ => by simp [encA]
  | v :: r, h => by
    intro z hz
    simp [encA] at hz
    rcases hz with hz | hz
    · exact encI_bd v (h v (by simp)).1 (h v (by simp)).2 z hz
    · exact encA_bd r (fun u hu => h u (by simp [hu])) z hz

theorem encL_len : ∀ (n f : Nat) (v : Int), n ≤ f → v < 128 ^ (n + 1) → (n = 0 ∨ 128 ^ n ≤ v) → (encL f v).length = n + 1
  | 0, f, v, hf, h1, _ => by
    cases f with
    | zero => rfl
    | succ f => unfold encL; rw [if_neg (by simp at h1; omega)]; rfl
  | n + 1, 0, v, hf, _, _ => by omega
  | n + 1, f + 1, v, hf, h1, h2 => by
    have h2 : (128 : Int) ^ (n + 1) ≤ v := by rcases h2 with h | h; · omega
                                              · exact h
    have hp := pow128_pos n
    have h3 : (128 : Int) ^ (n + 1) = 128 ^ n * 128 := Int.pow_succ _ _
    have h4 : (128 : Int) ^ (n + 1 + 1) = 128 ^ (n + 1) * 128 := Int.pow_succ _ _
    have hr := encL_len n f (v / 128) (by omega) (by omega) (Or.inr (by omega))
    unfold encL
    rw [if_pos (by omega)]
    simp [hr]

theorem bitLenAux_bd : ∀ (f x : Nat), x < 2 ^ f → x < 2 ^ Lib.bitLenAux f x ∧ (0 < x → 2 ^ Lib.bitLenAux f x ≤ 2 * x)
  | 0, x, h => by simp at h; subst h; simp [Lib.bitLenAux]
  | f + 1, x, h => by
    unfold Lib.bitLenAux
    split
    · rename_i e; subst e; simp
    · rename_i e
      have ih := bitLenAux_bd f (x / 2) (by rw [Nat.pow_succ] at h; omega)
      rw [Nat.add_comm, Nat.pow_succ]
      refine ⟨by omega, fun _ => ?_⟩
      by_cases hx : 0 < x / 2
      · have := ih.2 hx; omega
      · have h1 : x / 2 = 0 := by omega
        rw [h1]
        have : Lib.bitLenAux f 0 = 0 := by cases f <;> simp [Lib.bitLenAux]
        rw [this]; omega

theorem or1 (v : Int) (h0 : 0 ≤ v) (h1 : v ≤ 18446744073709551615) : bits .or .u64 v 1 = v + 1 - v % 2 := by
  rw [u64_or v 1 h0 (by omega) (by decide) (by decide)]
  have e : Int.toNat 1 = 1 := rfl
  rw [e]
  have h2 : v.toNat = 2 * (v.toNat / 2) + v.toNat % 2 := by omega
  have h3 : v.toNat ||| 1 = 2 * (v.toNat / 2) + 1 := by
    apply Nat.eq_of_testBit_eq
    intro i
    cases i with
    | zero => simp
    | succ i =>
      rw [Nat.testBit_or, Nat.testBit_succ, Nat.testBit_succ, Nat.testBit_succ]
      have : (2 * (v.toNat / 2) + 1) / 2 = v.toNat / 2 := by omega
      rw [this]
      simp
  rw [h3]
  omega

/-- The bytes of a number, by its bits. -/
theorem size_len (v : Int) (h0 : 0 ≤ v) (h1 : v ≤ 18446744073709551615) : ((Lib.bitLen (bits .or .u64 v 1).toNat : Int) + 7 - 1) / 7 = ((encI v).length : Int) := by
  rw [or1 v h0 h1]
  have hx : (v + 1 - v % 2).toNat < 2 ^ 64 := by omega
  have hb := bitLenAux_bd 64 (v + 1 - v % 2).toNat hx
  have hle := Lib.bitLen_le _ 64 (by decide) hx
  have hge : 1 ≤ Lib.bitLen (v + 1 - v % 2).toNat := by
    by_cases e : Lib.bitLen (v + 1 - v % 2).toNat = 0
    · have := hb.1
      unfold Lib.bitLen at e
      rw [e] at this
      simp at this; omega
    · omega
  change _ < 2 ^ Lib.bitLen _ ∧ (_ → 2 ^ Lib.bitLen _ ≤ _) at hb
  generalize Lib.bitLen (v + 1 - v % 2).toNat = L at *
  obtain ⟨n, hn⟩ : ∃ n, n = (L - 1) / 7 := ⟨_, rfl⟩
  have hlo : 2 ^ (7 * n) ≤ 2 ^ (L - 1) := Nat.pow_le_pow_right (by decide) (by omega)
  have hhi : 2 ^ L ≤ 2 ^ (7 * (n + 1)) := Nat.pow_le_pow_right (by decide) (by omega)
  have hL : 2 ^ L = 2 ^ (L - 1) * 2 := by rw [← Nat.pow_succ]; congr 1; omega
  have e1 : (128 : Int) ^ (n + 1) = ((2 ^ (7 * (n + 1)) : Nat) : Int) := by rw [pow128]; simp
  have e2 : (128 : Int) ^ n = ((2 ^ (7 * n) : Nat) : Int) := by rw [pow128]; simp
  have hb2 := hb.2 (by omega)
  have key : (encI v).length = n + 1 := by
    refine encL_len n 9 v (by omega) (by rw [e1]; omega) ?_
    by_cases e : n = 0
    · exact Or.inl e
    · refine Or.inr ?_
      have hev : 2 ^ (7 * n) % 2 = 0 := by
        have : 7 * n = (7 * n - 1) + 1 := by omega
        rw [this, Nat.pow_succ]; omega
      rw [e2]; omega
  rw [key]
  omega

theorem enc_byte (u : Int) (h0 : 0 ≤ u) (h1 : u ≤ 18446744073709551615) : bits .and .u64 u 127 = u % 128 := by
  rw [u64_and u 127 h0 (by omega) (by decide) (by decide)]
  have : Int.toNat 127 = 127 := rfl
  rw [this, nat_mask7]
  omega
theorem or128 (x : Int) (h0 : 0 ≤ x) (h1 : x ≤ 127) : bits .or .u8 x 128 = x + 128 := by
  rw [u8_or x 128 h0 (by omega) (by decide) (by decide)]
  have : Int.toNat 128 = 128 := rfl
  rw [this, Nat.or_comm, nat_join 7 128 x.toNat (by decide) (by omega)]
  omega
end Go.Proofs.YteboaolflecibaaDoor
