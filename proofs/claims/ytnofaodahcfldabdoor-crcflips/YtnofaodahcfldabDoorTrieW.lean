import Derived.Test.YtnofaodahcfldabDoorCrcAct
import Derived.KernelRfl
namespace Go.Proofs.YtnofaodahcfldabDoor
open Go.RowKit
set_option linter.unusedVariables false
set_option linter.unusedSimpArgs false

/-! That the first 91632 powers of x are told by their words but the highest bit: reckoned by the kernel, with a tree of what was met. -/
inductive Tr where
  | nil : Tr
  | leaf : List Nat → Tr
  | node : Tr → Tr → Tr
noncomputable def forceN (x : Nat) (k : Nat → Bool) : Bool := Nat.rec (k 0) (fun m _ => k (Nat.succ m)) x
noncomputable def memB (v : Nat) (L : List Nat) : Bool := List.rec false (fun u _ ih => Bool.rec ih true (Nat.beq u v)) L
noncomputable def insC (k : Nat) : Nat → Nat → Tr → (Tr → Bool) → Bool :=
  Nat.rec (fun _ V t c => Tr.rec (c (.leaf [V])) (fun L => Bool.rec (c (.leaf (V :: L))) false (memB V L)) (fun _ _ _ _ => false) t)
    (fun _ ih v V t c => Bool.rec
      (Tr.rec (ih (Nat.div v 2) V .nil fun r => c (.node .nil r)) (fun _ => false) (fun l r _ _ => ih (Nat.div v 2) V r fun r' => c (.node l r')) t)
      (Tr.rec (ih (Nat.div v 2) V .nil fun l => c (.node l .nil)) (fun _ => false) (fun l r _ _ => ih (Nat.div v 2) V l fun l' => c (.node l' r)) t)
      (Nat.beq (Nat.mod v 2) 0)) k
noncomputable def goV (d n : Nat) : Nat → Tr → Bool :=
  Nat.rec (fun _ _ => true) (fun _ ih x t => forceN (Nat.mod x 2147483648) fun V => insC d V V t fun t' => forceN (Nat.xor (Nat.div x 2) (Nat.mul (Nat.mod x 2) 3988292384)) fun y => ih y t') n

theorem forceN_eq (x : Nat) (k : Nat → Bool) : forceN x k = k x := by cases x <;> rfl
theorem memB_mem {v : Nat} {L : List Nat} (h : memB v L = false) : v ∉ L := by
  induction L with
  | nil => simp
  | cons u L ih =>
    have e : memB v (u :: L) = Bool.rec (memB v L) true (Nat.beq u v) := rfl
    rw [e] at h
    cases hb : Nat.beq u v with
    | true => rw [hb] at h; cases h
    | false =>
      rw [hb] at h
      have hne : u ≠ v := Nat.ne_of_beq_eq_false hb
      intro hm
      rcases List.mem_cons.1 hm with rfl | hm
      · exact hne rfl
      · exact ih h hm
/-- What a tree holds. -/
def memT : Nat → Nat → Nat → Tr → Prop
  | 0, _, V, .leaf L => V ∈ L
  | k + 1, v, V, .node l r => if v % 2 = 0 then memT k (v / 2) V l else memT k (v / 2) V r
  | _, _, _, _ => False
theorem memT_nil (k v V : Nat) : ¬ memT k v V .nil := by cases k <;> simp [memT]
theorem insC_zero (v V : Nat) (t : Tr) (c : Tr → Bool) : insC 0 v V t c = Tr.rec (c (.leaf [V])) (fun L => Bool.rec (c (.leaf (V :: L))) false (memB V L)) (fun _ _ _ _ => false) t := rfl
theorem insC_succ (k v V : Nat) (t : Tr) (c : Tr → Bool) : insC (k + 1) v V t c = Bool.rec
      (Tr.rec (insC k (v / 2) V .nil fun r => c (.node .nil r)) (fun _ => false) (fun l r _ _ => insC k (v / 2) V r fun r' => c (.node l r')) t)
      (Tr.rec (insC k (v / 2) V .nil fun l => c (.node l .nil)) (fun _ => false) (fun l r _ _ => insC k (v / 2) V l fun l' => c (.node l' r)) t)
      (Nat.beq (v % 2) 0) := rfl
theorem insC_sound (k : Nat) : ∀ (v V : Nat) (t : Tr) (c : Tr → Bool), insC k v V t c = true → ∃ t', c t' = true ∧ ¬ memT k v V t ∧ memT k v V t' ∧ ∀ u U, memT k u U t → memT k u U t' := by
  induction k with
  | zero =>
    intro v V t c h
    rw [insC_zero] at h
    cases t with
    | nil => exact ⟨_, h, memT_nil _ _ _, by simp [memT], fun u U hm => absurd hm (memT_nil _ _ _)⟩
    | node l r => cases h
    | leaf L =>
      cases hb : memB V L with
      | true =>
        have e : (Bool.rec (c (.leaf (V :: L))) false (memB V L) : Bool) = true := h
        rw [hb] at e
        cases e
      | false =>
        have e : (Bool.rec (c (.leaf (V :: L))) false (memB V L) : Bool) = true := h
        rw [hb] at e
        exact ⟨_, e, by simpa [memT] using memB_mem hb, by simp [memT], fun u U hm => by simp only [memT] at hm ⊢; exact List.mem_cons_of_mem _ hm⟩
  | succ k ih =>
    intro v V t c h
    rw [insC_succ] at h
    cases hb : Nat.beq (v % 2) 0 with
    | true =>
      have h0 : v % 2 = 0 := Nat.eq_of_beq_eq_true hb
      rw [hb] at h
      cases t with
      | leaf L => cases h
      | nil =>
        obtain ⟨l, h1, _, h3, _⟩ := ih _ _ _ _ h
        exact ⟨_, h1, memT_nil _ _ _, by simpa [memT, h0] using h3, fun u U hm => absurd hm (memT_nil _ _ _)⟩
      | node l r =>
        obtain ⟨l', h1, h2, h3, h4⟩ := ih _ _ _ _ h
        refine ⟨_, h1, by simpa [memT, h0] using h2, by simpa [memT, h0] using h3, fun u U hm => ?_⟩
        simp only [memT] at hm ⊢
        split
        · rename_i hu; rw [if_pos hu] at hm; exact h4 _ _ hm
        · rename_i hu; rw [if_neg hu] at hm; exact hm
    | false =>
      have h0 : ¬ v % 2 = 0 := Nat.ne_of_beq_eq_false hb
      rw [hb] at h
      cases t with
      | leaf L => cases h
      | nil =>
        obtain ⟨l, h1, _, h3, _⟩ := ih _ _ _ _ h
        exact ⟨_, h1, memT_nil _ _ _, by simpa only [memT, if_neg h0] using h3, fun u U hm => absurd hm (memT_nil _ _ _)⟩
      | node l r =>
        obtain ⟨l', h1, h2, h3, h4⟩ := ih _ _ _ _ h
        refine ⟨_, h1, by simpa only [memT, if_neg h0] using h2, by simpa only [memT, if_neg h0] using h3, fun u U hm => ?_⟩
        simp only [memT] at hm ⊢
        split
        · rename_i hu; rw [if_pos hu] at hm; exact hm
        · rename_i hu; rw [if_neg hu] at hm; exact h4 _ _ hm
def onV (x : Nat) : Nat := Nat.xor (Nat.div x 2) (Nat.mul (Nat.mod x 2) 3988292384)
def onVN : Nat → Nat → Nat
  | 0, x => x
  | k + 1, x => onVN k (onV x)
theorem goV_succ (d n x : Nat) (t : Tr) : goV d (n + 1) x t = forceN (x % 2147483648) fun V => insC d V V t fun t' => forceN (onV x) fun y => goV d n y t' := rfl
theorem goV_sound (d n : Nat) : ∀ (x : Nat) (t : Tr), goV d n x t = true →
    (∀ i, i < n → ¬ memT d (onVN i x % 2147483648) (onVN i x % 2147483648) t) ∧ ∀ i j, i < j → j < n → onVN i x % 2147483648 ≠ onVN j x % 2147483648 := by
  induction n with
  | zero => intro x t _; exact ⟨fun i h => by omega, fun i j _ h => by omega⟩
  | succ n ih =>
    intro x t h
    rw [goV_succ, forceN_eq] at h
    obtain ⟨t', h1, h2, h3, h4⟩ := insC_sound d _ _ _ _ h
    rw [forceN_eq] at h1
    obtain ⟨i1, i2⟩ := ih _ _ h1
    refine ⟨fun i hi => ?_, fun i j hij hj => ?_⟩
    · cases i with
      | zero => exact h2
      | succ i => exact fun hm => i1 i (by omega) (h4 _ _ hm)
    · cases j with
      | zero => omega
      | succ j =>
        cases i with
        | zero =>
          intro e
          apply i1 j (by omega)
          have e2 : x % 2147483648 = onVN j (onV x) % 2147483648 := e
          rw [← e2]
          exact h3
        | succ i => exact i2 i j (by omega) (by omega)
theorem onV_on (w : W32) : onV w.toNat = (on w).toNat := by
  unfold on onV
  rw [BitVec.toNat_xor, BitVec.toNat_ushiftRight, Nat.shiftRight_eq_div_pow]
  have e0 : w.getLsbD 0 = decide (w.toNat % 2 = 1) := by rw [BitVec.getLsbD, Nat.testBit_zero]
  show Nat.xor (w.toNat / 2) (w.toNat % 2 * 3988292384) = Nat.xor (w.toNat / 2 ^ 1) _
  rw [Nat.pow_one]
  congr 1
  rw [e0]
  rcases Nat.mod_two_eq_zero_or_one w.toNat with h | h <;> rw [h] <;> rfl
theorem onVN_on (k : Nat) : ∀ w : W32, onVN k w.toNat = (onN k w).toNat := by
  induction k with
  | zero => intro w; rfl
  | succ k ih =>
    intro w
    show onVN k (onV w.toNat) = _
    rw [onV_on, ih]
    show _ = (on (onN k w)).toNat
    rw [show onN k (on w) = on (onN k w) from onN_comm k 1 w]
end Go.Proofs.YtnofaodahcfldabDoor
