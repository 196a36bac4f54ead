import Derived.Test.YtppjcgkgemhilaaBtTwo
import Derived.Deep.QuietTactic
import Derived.BigQuiet
namespace Go.Proofs.Ytppjcgkgemhilaa
open Go.RowKit
set_option linter.unusedVariables false

def fitN (n : Int) : Nat := (n.tmod 57).natAbs
theorem fit_le (n : Int) : fitN n ≤ 56 := by
  unfold fitN
  have := Int.tmod_lt_of_pos n (by decide : (0 : Int) < 57)
  have := Int.lt_tmod_of_pos n (by decide : (0 : Int) < 57)
  omega
theorem fit_any (n : Int) (w : World) (hn0 : -9223372036854775808 ≤ n) (hn1 : n ≤ 9223372036854775807) :
    Calls Try.prog 14 #[.int .i64 n] w fun e w' => e = .returned (.int .i64 (fitN n : Int)) ∧ w' = w := by
  have h1 := Int.tmod_lt_of_pos n (by decide : (0 : Int) < 57)
  have h2 := Int.lt_tmod_of_pos n (by decide : (0 : Int) < 57)
  have HF : Hid ((fitN n : Int) = if n.tmod 57 < 0 then - n.tmod 57 else n.tmod 57) := by show _ = _; unfold fitN; split <;> omega
  go_enter Try.func14, Try.ntmps14
  go_wp2
  · rename_i h
    go_ret
    exact ⟨by rw [HF.out, if_pos h]; rfl, rfl⟩
  · rename_i h
    go_ret
    exact ⟨by rw [HF.out, if_neg (by omega)]; rfl, rfl⟩

/-- The bits of a field, and of the first ones. -/
def fb (V : Nat) (k : Nat) (hi : Bool) : List Bool := if hi then (bN V k).reverse else bN V k
theorem fb_len (V k : Nat) (hi : Bool) : (fb V k hi).length = k := by unfold fb; cases hi <;> simp [bN_len]
def FB (V : Nat → Int) (N : Nat → Int) (Hi : Nat → Bool) : Nat → List Bool
  | 0 => []
  | i + 1 => FB V N Hi i ++ fb (V i).toNat (fitN (N i)) (Hi i)
theorem FB_len_le (V N : Nat → Int) (Hi : Nat → Bool) (i : Nat) : (FB V N Hi i).length ≤ 56 * i := by
  induction i with
  | zero => simp [FB]
  | succ i ih =>
    have := fit_le (N i)
    simp only [FB, List.length_append, fb_len]
    omega
theorem FB_split (V N : Nat → Int) (Hi : Nat → Bool) (i j : Nat) (h : i ≤ j) : ∃ R, FB V N Hi j = FB V N Hi i ++ R := by
  induction j with
  | zero => obtain rfl : i = 0 := by omega
            exact ⟨[], by simp⟩
  | succ j ih =>
    by_cases hij : i ≤ j
    · obtain ⟨R, hR⟩ := ih hij
      exact ⟨R ++ fb (V j).toNat (fitN (N j)) (Hi j), by simp only [FB]; rw [hR, List.append_assoc]⟩
    · obtain rfl : i = j + 1 := by omega
      exact ⟨[], by simp⟩
/-- What is held begins with the next field. -/
theorem next_field {V N : Nat → Int} {Hi : Nat → Bool} {n j fed : Nat} {H : List Bool} (hj : j < n) (hH : FB V N Hi j ++ H = bB ((toB (FB V N Hi n)).take fed)) (hk : fitN (N j) ≤ H.length) :
    H.take (fitN (N j)) = fb (V j).toNat (fitN (N j)) (Hi j) := by
  obtain ⟨R, hR⟩ := FB_split V N Hi (j + 1) n hj
  obtain ⟨k, _, hB⟩ := bB_toB (L := FB V N Hi n)
  have h1 : bB (toB (FB V N Hi n)) = FB V N Hi j ++ H ++ bB ((toB (FB V N Hi n)).drop fed) := by
    rw [hH, ← bB_append, List.take_append_drop]
  rw [hB, hR] at h1
  simp only [FB, List.append_assoc] at h1
  have h2 := List.append_cancel_left h1
  have h3 := congrArg (List.take (fitN (N j))) h2
  rw [List.take_left' (fb_len _ _ _), List.take_append_of_le_length hk] at h3
  exact h3.symm
theorem fed_lt {V N : Nat → Int} {Hi : Nat → Bool} {n j fed : Nat} {H : List Bool} (hj : j < n) (hH : FB V N Hi j ++ H = bB ((toB (FB V N Hi n)).take fed)) (hk : H.length < fitN (N j)) : fed < (toB (FB V N Hi n)).length := by
  obtain ⟨R, hR⟩ := FB_split V N Hi (j + 1) n hj
  rcases Nat.lt_or_ge fed (toB (FB V N Hi n)).length with h | h
  · exact h
  · exfalso
    rw [List.take_of_length_le h] at hH
    obtain ⟨k, _, hB⟩ := bB_toB (L := FB V N Hi n)
    have h1 := congrArg List.length hH
    rw [hB, hR] at h1
    simp only [FB, List.length_append, fb_len] at h1
    omega
theorem fed_bits {V N : Nat → Int} {Hi : Nat → Bool} {n j fed : Nat} {H : List Bool} (hf : fed ≤ (toB (FB V N Hi n)).length) (hH : FB V N Hi j ++ H = bB ((toB (FB V N Hi n)).take fed)) : 8 * fed = (FB V N Hi j).length + H.length := by
  have h1 := congrArg List.length hH
  rw [bB_len, List.length_append, List.length_take] at h1
  omega
theorem num_fb (V k : Nat) (hk : k ≤ 56) : num (fb V k true) = flipN (V % 2 ^ k) k ∧ num (fb V k false) = V % 2 ^ k := by
  have hc : cnt (k : Int) = k := by unfold cnt; omega
  constructor
  · unfold fb flipN
    rw [hc, bN_mod]
    simp
  · unfold fb
    simp [num_bN]

theorem flip_fits (v : Nat) (n : Int) : flipN v n < 18446744073709551616 := Nat.lt_of_lt_of_le (flip_lt v n) (pow_le_64 (cnt_le n))
/-- Fields that came in. -/
structure SegF (w : World) (a : Option Addr) (n : Nat) (V N : Nat → Int) (Hi : Nat → Bool) : Prop where
  at_ : ∀ i, i < n → ∃ b off, a = some ⟨b, off, none⟩ ∧ w.cell? ⟨b, off + i * 3, none⟩ = some (.int .u64 (V i)) ∧ w.cell? ⟨b, off + i * 3 + 1, none⟩ = some (.int .i64 (N i)) ∧ w.cell? ⟨b, off + i * 3 + 2, none⟩ = some (.bool (Hi i))
  bd : ∀ i, i < n → 0 ≤ V i ∧ V i ≤ 18446744073709551615 ∧ -9223372036854775808 ≤ N i ∧ N i ≤ 9223372036854775807
theorem SegF.old {w w' : World} {a : Option Addr} {n : Nat} {V N : Nat → Int} {Hi : Nat → Bool} (h : SegF w a n V N Hi) (hb : Below w.heap.size w w') : SegF w' a n V N Hi := by
  refine ⟨fun i hi => ?_, h.bd⟩
  obtain ⟨b, off, ha, h1, h2, h3⟩ := h.at_ i hi
  have hlt := World.block_lt_of_cell? w _ h1
  exact ⟨b, off, ha, (hb.cell (p := ⟨b, off + i * 3, none⟩) hlt).trans h1, (hb.cell (p := ⟨b, off + i * 3 + 1, none⟩) hlt).trans h2, (hb.cell (p := ⟨b, off + i * 3 + 2, none⟩) hlt).trans h3⟩
/-- Sizes that came in. -/
structure SegI (w : World) (a : Option Addr) (zs : List Int) : Prop where
  at_ : ∀ i, i < zs.length → ∃ b off, a = some ⟨b, off, none⟩ ∧ w.cell? ⟨b, off + i, none⟩ = some (.int .i64 (zs.getD i 0))
  bd : ∀ i, i < zs.length → -9223372036854775808 ≤ zs.getD i 0 ∧ zs.getD i 0 ≤ 9223372036854775807
theorem SegI.old {w w' : World} {a : Option Addr} {zs : List Int} (h : SegI w a zs) (hb : Below w.heap.size w w') : SegI w' a zs := by
  refine ⟨fun i hi => ?_, h.bd⟩
  obtain ⟨b, off, ha, h1⟩ := h.at_ i hi
  exact ⟨b, off, ha, (hb.cell (p := ⟨b, off + i, none⟩) (World.block_lt_of_cell? w _ h1)).trans h1⟩
end Go.Proofs.Ytppjcgkgemhilaa
