import Derived.Test.YtnofaodahcfldabDoorCrcAct
import Derived.KernelRfl
namespace Go.Proofs.YtnofaodahcfldabDoor
open Go.RowKit
set_option linter.unusedVariables false
set_option linter.unusedSimpArgs false

/-! That the first 91632 powers of x are told by their words but the highest bit: reckoned by the kernel, with a tree of what was met. -/
/-- A tree of so many floors, a list of numbers at each of its ends. -/
def Tr (k : Nat) : Type := Nat.rec (List Nat) (fun _ t => t × t) k
def noTr : (k : Nat) → Tr k
  | 0 => ([] : List Nat)
  | k + 1 => (noTr k, noTr k)
def forceP (x : Nat) (k : Nat → Prop) : Prop := Nat.rec (k 0) (fun m _ => k (Nat.succ m)) x
def memP (v : Nat) (L : List Nat) (yes no : Prop) : Prop := List.rec no (fun u _ ih => Bool.rec ih yes (Nat.beq u v)) L
def insC (k : Nat) : Nat → Nat → Tr k → (Tr k → Prop) → Prop :=
  Nat.rec (motive := fun k => Nat → Nat → Tr k → (Tr k → Prop) → Prop)
    (fun _ V (L : List Nat) c => memP V L False (c (V :: L : List Nat)))
    (fun k ih v V (t : Tr k × Tr k) c => Prod.rec (motive := fun _ => Prop) (fun l r => Bool.rec (motive := fun _ => Prop)
      (ih (Nat.div v 2) V r fun r' => c ((l, r') : Tr k × Tr k))
      (ih (Nat.div v 2) V l fun l' => c ((l', r) : Tr k × Tr k))
      (Nat.beq (Nat.mod v 2) 0)) t) k
def goV (d n : Nat) : Nat → Tr d → Prop :=
  Nat.rec (motive := fun _ => Nat → Tr d → Prop) (fun _ _ => True) (fun _ ih x t => forceP (Nat.mod x 2147483648) fun V => insC d V V t fun t' => forceP (Nat.xor (Nat.div x 2) (Nat.mul (Nat.mod x 2) 3988292384)) fun y => ih y t') n

theorem forceP_eq (x : Nat) (k : Nat → Prop) : forceP x k = k x := by cases x <;> rfl
theorem memP_mem {v : Nat} {L : List Nat} {no : Prop} (h : memP v L False no) : v ∉ L ∧ no := by
  induction L with
  | nil => exact ⟨by simp, h⟩
  | cons u L ih =>
    have h' : (Bool.rec (memP v L False no) False (Nat.beq u v) : Prop) := h
    cases hb : Nat.beq u v with
    | true => rw [hb] at h'; exact h'.elim
    | false =>
      rw [hb] at h'
      have hne : u ≠ v := Nat.ne_of_beq_eq_false hb
      obtain ⟨h1, h2⟩ := ih h'
      refine ⟨fun hm => ?_, h2⟩
      rcases List.mem_cons.1 hm with rfl | hm
      · exact hne rfl
      · exact h1 hm
/-- What a tree holds. -/
def memT : (k : Nat) → Nat → Nat → Tr k → Prop
  | 0, _, V, (L : List Nat) => V ∈ L
  | k + 1, v, V, (t : Tr k × Tr k) => if v % 2 = 0 then memT k (v / 2) V t.1 else memT k (v / 2) V t.2
theorem insC_sound (k : Nat) : ∀ (v V : Nat) (t : Tr k) (c : Tr k → Prop), insC k v V t c → ∃ t', c t' ∧ ¬ memT k v V t ∧ memT k v V t' ∧ ∀ u U, memT k u U t → memT k u U t' := by
  induction k with
  | zero =>
    intro v V t c h
    have h' : memP V (t : List Nat) False (c (V :: (t : List Nat) : List Nat)) := h
    obtain ⟨h1, h2⟩ := memP_mem h'
    exact ⟨_, h2, h1, List.mem_cons_self, fun u U hm => List.mem_cons_of_mem _ hm⟩
  | succ k ih =>
    intro v V t c h
    obtain ⟨l, r⟩ := (t : Tr k × Tr k)
    have h' : (Bool.rec (motive := fun _ => Prop) (insC k (v / 2) V r fun r' => c ((l, r') : Tr k × Tr k)) (insC k (v / 2) V l fun l' => c ((l', r) : Tr k × Tr k)) (Nat.beq (v % 2) 0)) := h
    cases hb : Nat.beq (v % 2) 0 with
    | true =>
      have h0 : v % 2 = 0 := Nat.eq_of_beq_eq_true hb
      rw [hb] at h'
      obtain ⟨l', h1, h2, h3, h4⟩ := ih _ _ _ _ h'
      refine ⟨_, h1, ?_, ?_, fun u U hm => ?_⟩
      · simpa only [memT, if_pos h0] using h2
      · simpa only [memT, if_pos h0] using h3
      · simp only [memT] at hm ⊢
        split
        · rename_i hu; rw [if_pos hu] at hm; exact h4 _ _ hm
        · rename_i hu; rw [if_neg hu] at hm; exact hm
    | false =>
      have h0 : ¬ v % 2 = 0 := Nat.ne_of_beq_eq_false hb
      rw [hb] at h'
      obtain ⟨l', h1, h2, h3, h4⟩ := ih _ _ _ _ h'
      refine ⟨_, h1, ?_, ?_, fun u U hm => ?_⟩
      · simpa only [memT, if_neg h0] using h2
      · simpa only [memT, if_neg h0] using h3
      · simp only [memT] at hm ⊢
        split
        · rename_i hu; rw [if_pos hu] at hm; exact hm
        · rename_i hu; rw [if_neg hu] at hm; exact h4 _ _ hm
def onV (x : Nat) : Nat := Nat.xor (Nat.div x 2) (Nat.mul (Nat.mod x 2) 3988292384)
def onVN : Nat → Nat → Nat
  | 0, x => x
  | k + 1, x => onVN k (onV x)
theorem goV_succ (d n x : Nat) (t : Tr d) : goV d (n + 1) x t = forceP (x % 2147483648) fun V => insC d V V t fun t' => forceP (onV x) fun y => goV d n y t' := rfl
theorem goV_sound (d n : Nat) : ∀ (x : Nat) (t : Tr d), goV d n x t →
    (∀ i, i < n → ¬ memT d (onVN i x % 2147483648) (onVN i x % 2147483648) t) ∧ ∀ i j, i < j → j < n → onVN i x % 2147483648 ≠ onVN j x % 2147483648 := by
  induction n with
  | zero => intro x t _; exact ⟨fun i h => by omega, fun i j _ h => by omega⟩
  | succ n ih =>
    intro x t h
    rw [goV_succ, forceP_eq] at h
    obtain ⟨t', h1, h2, h3, h4⟩ := insC_sound d _ _ _ _ h
    rw [forceP_eq] at h1
    obtain ⟨i1, i2⟩ := ih _ _ h1
    refine ⟨fun i hi => ?_, fun i j hij hj => ?_⟩
    · cases i with
      | zero => exact h2
      | succ i => exact fun hm => i1 i (by omega) (h4 _ _ hm)
    · cases j with
      | zero => omega
      | succ j =>
        cases i with
        | zero =>
          intro e
          apply i1 j (by omega)
          have e2 : x % 2147483648 = onVN j (onV x) % 2147483648 := e
          rw [← e2]
          exact h3
        | succ i => exact i2 i j (by omega) (by omega)
theorem goV_true {d n x : Nat} {t : Tr d} (h : goV d n x t = True) : ∀ i j, i < j → j < n → onVN i x % 2147483648 ≠ onVN j x % 2147483648 :=
  (goV_sound d n x t (of_eq_true h)).2
theorem onV_on (w : W32) : onV w.toNat = (on w).toNat := by
  unfold on onV
  rw [BitVec.toNat_xor, BitVec.toNat_ushiftRight, Nat.shiftRight_eq_div_pow]
  have e0 : w.getLsbD 0 = decide (w.toNat % 2 = 1) := by rw [BitVec.getLsbD, Nat.testBit_zero]
  show Nat.xor (w.toNat / 2) (w.toNat % 2 * 3988292384) = Nat.xor (w.toNat / 2 ^ 1) _
  rw [Nat.pow_one]
  congr 1
  rw [e0]
  rcases Nat.mod_two_eq_zero_or_one w.toNat with h | h <;> rw [h] <;> rfl
theorem onVN_on (k : Nat) : ∀ w : W32, onVN k w.toNat = (onN k w).toNat := by
  induction k with
  | zero => intro w; rfl
  | succ k ih =>
    intro w
    show onVN k (onV w.toNat) = _
    rw [onV_on, ih]
    show _ = (on (onN k w)).toNat
    rw [show onN k (on w) = on (onN k w) from onN_comm k 1 w]
end Go.Proofs.YtnofaodahcfldabDoor
