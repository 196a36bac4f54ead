
import Derived.Below
namespace Go.Proofs.Ytaipfcfmhdigfaa
set_option linter.unusedVariables false

/-! Tokens as the document has them (layer 7), without any program: which may be, what they are. -/
structure Tok7 where
  lit : Int
  len : Int
  dist : Int
def may7 (t : Tok7) : Prop := if t.len = 0 then t.dist = 0 else 3 ≤ t.len ∧ t.len ≤ 258 ∧ 1 ≤ t.dist ∧ t.dist ≤ 32768 ∧ t.lit = 0
instance (t : Tok7) : Decidable (may7 t) := by unfold may7; infer_instance
def wid7 (t : Tok7) : Nat := if may7 t then (if t.len = 0 then 1 else t.len.toNat) else 0
def siz7 : List Tok7 → Nat
  | [] => 0
  | t :: r => wid7 t + siz7 r
def far7 (win : Int) (tot : Nat) (t : Tok7) : Prop := 0 < t.len ∧ (win < t.dist ∨ (tot : Int) < t.dist)
instance (win : Int) (tot : Nat) (t : Tok7) : Decidable (far7 win tot t) := by unfold far7; infer_instance
def chk7 (win : Int) : List Tok7 → Nat → Nat → Nat × Int
  | [], _, _ => (0, 0)
  | t :: r, tot, i => if ¬ may7 t then (i, 70) else if far7 win tot t then (i, 71) else chk7 win r (tot + wid7 t) (i + 1)
def check7 (win : Int) (l : List Tok7) : Nat × Int := if win < 1 ∨ 32768 < win then (0, 1) else chk7 win l 0 0
/-- The tokens are in order, where tot bytes stand ahead. -/
def ok7 (win : Int) : List Tok7 → Nat → Prop
  | [], _ => True
  | t :: r, tot => may7 t ∧ ¬ far7 win tot t ∧ ok7 win r (tot + wid7 t)
theorem chk7_ok (win : Int) : ∀ (l : List Tok7) (tot i : Nat), ok7 win l tot → chk7 win l tot i = (0, 0)
  | [], _, _, _ => rfl
  | t :: r, tot, i, ⟨h1, h2, h3⟩ => by
    rw [chk7, if_neg (by simpa using h1), if_neg h2]
    exact chk7_ok win r _ _ h3
theorem ok7_chk (win : Int) : ∀ (l : List Tok7) (tot i : Nat), (chk7 win l tot i).2 = 0 → ok7 win l tot
  | [], _, _, _ => trivial
  | t :: r, tot, i, h => by
    rw [chk7] at h
    by_cases h1 : may7 t
    · rw [if_neg (by simpa using h1)] at h
      by_cases h2 : far7 win tot t
      · rw [if_pos h2] at h; simp at h
      · rw [if_neg h2] at h
        exact ⟨h1, h2, ok7_chk win r _ _ h⟩
    · rw [if_pos h1] at h; simp at h
theorem ok7_take (win : Int) : ∀ (l : List Tok7) (tot n : Nat), ok7 win l tot → ok7 win (l.take n) tot
  | [], _, _, _ => by simp [ok7]
  | t :: r, tot, 0, _ => by simp [ok7]
  | t :: r, tot, n + 1, ⟨h1, h2, h3⟩ => by
    rw [List.take_succ_cons]
    exact ⟨h1, h2, ok7_take win r _ n h3⟩
/-- n bytes, each the one that stands d ahead. -/
def cp7 (b : List Int) (d : Nat) : Nat → List Int
  | 0 => b
  | n + 1 => cp7 b d n ++ [(cp7 b d n).getD ((cp7 b d n).length - d) 0]
theorem cp7_len (b : List Int) (d : Nat) : ∀ n, (cp7 b d n).length = b.length + n
  | 0 => rfl
  | n + 1 => by rw [cp7, List.length_append, cp7_len b d n]; rfl
theorem cp7_take (b : List Int) (d : Nat) : ∀ n, (cp7 b d n).take b.length = b
  | 0 => by rw [cp7]; exact List.take_length
  | n + 1 => by rw [cp7, List.take_append_of_le_length (by rw [cp7_len]; omega), cp7_take b d n]
def tok7 (b : List Int) (t : Tok7) : List Int := if t.len = 0 then b ++ [t.lit] else cp7 b t.dist.toNat t.len.toNat
def exp7 (b : List Int) : List Tok7 → List Int
  | [] => b
  | t :: r => exp7 (tok7 b t) r
theorem tok7_len {b : List Int} {t : Tok7} (h : may7 t) : (tok7 b t).length = b.length + wid7 t := by
  unfold tok7 wid7
  rw [if_pos h]
  by_cases h0 : t.len = 0
  · rw [if_pos h0, if_pos h0, List.length_append]; rfl
  · rw [if_neg h0, if_neg h0, cp7_len]
theorem tok7_take (b : List Int) (t : Tok7) : (tok7 b t).take b.length = b := by
  unfold tok7
  split
  · rw [List.take_append_of_le_length (Nat.le_refl _), List.take_length]
  · exact cp7_take _ _ _
theorem tok7_le (b : List Int) (t : Tok7) : b.length ≤ (tok7 b t).length := by
  unfold tok7
  split
  · rw [List.length_append]; omega
  · rw [cp7_len]; omega
theorem exp7_le : ∀ (l : List Tok7) (b : List Int), b.length ≤ (exp7 b l).length
  | [], b => Nat.le_refl _
  | t :: r, b => Nat.le_trans (tok7_le b t) (exp7_le r _)
theorem exp7_take : ∀ (l : List Tok7) (b : List Int), (exp7 b l).take b.length = b
  | [], b => List.take_length
  | t :: r, b => by
    rw [exp7]
    have h1 := exp7_take r (tok7 b t)
    have h2 := congrArg (List.take b.length) h1
    rw [List.take_take, Nat.min_eq_left (tok7_le b t), tok7_take] at h2
    exact h2
theorem exp7_app : ∀ (l l' : List Tok7) (b : List Int), exp7 b (l ++ l') = exp7 (exp7 b l) l'
  | [], _, _ => rfl
  | t :: r, l', b => by rw [List.cons_append, exp7, exp7, exp7_app r l']
theorem exp7_len (win : Int) : ∀ (l : List Tok7) (b : List Int) (tot : Nat), ok7 win l tot → (exp7 b l).length = b.length + siz7 l
  | [], _, _, _ => rfl
  | t :: r, b, tot, ⟨h1, h2, h3⟩ => by
    rw [exp7, exp7_len win r _ _ h3, tok7_len h1, siz7]; omega
/-- The first tokens are the first bytes (P7.8). -/
theorem exp7_begin (l : List Tok7) (n : Nat) (b : List Int) : (exp7 b l).take (exp7 b (l.take n)).length = exp7 b (l.take n) := by
  have h := exp7_app (l.take n) (l.drop n) b
  rw [List.take_append_drop] at h
  rw [h]
  exact exp7_take _ _
theorem siz7_le : ∀ (l : List Tok7), siz7 l ≤ 258 * l.length
  | [] => by simp [siz7]
  | t :: r => by
    have h := siz7_le r
    have h1 : wid7 t ≤ 258 := by
      unfold wid7
      split
      · rename_i h1
        unfold may7 at h1
        split at h1 <;> split <;> omega
      · omega
    rw [siz7, List.length_cons]; omega
theorem tok7_bd {b : List Int} {t : Tok7} (hb : ∀ z ∈ b, 0 ≤ z ∧ z ≤ 255) (ht : 0 ≤ t.lit ∧ t.lit ≤ 255) : ∀ z ∈ tok7 b t, 0 ≤ z ∧ z ≤ 255 := by
  have hc : ∀ n, ∀ z ∈ cp7 b t.dist.toNat n, 0 ≤ z ∧ z ≤ 255 := by
    intro n
    induction n with
    | zero => exact hb
    | succ n ih =>
      intro z hz
      rw [cp7] at hz
      rcases List.mem_append.1 hz with hz | hz
      · exact ih z hz
      · rw [List.mem_singleton] at hz
        subst hz
        by_cases hi : (cp7 b t.dist.toNat n).length - t.dist.toNat < (cp7 b t.dist.toNat n).length
        · have : (cp7 b t.dist.toNat n).getD ((cp7 b t.dist.toNat n).length - t.dist.toNat) 0 ∈ cp7 b t.dist.toNat n := by
            simp [List.getD, hi]
          exact ih _ this
        · simp [List.getD, List.getElem?_eq_none (show (cp7 b t.dist.toNat n).length ≤ (cp7 b t.dist.toNat n).length - t.dist.toNat by omega)]
  unfold tok7
  split
  · intro z hz
    rcases List.mem_append.1 hz with hz | hz
    · exact hb z hz
    · rw [List.mem_singleton] at hz; subst hz; exact ht
  · exact hc _
theorem exp7_bd : ∀ (l : List Tok7) (b : List Int), (∀ z ∈ b, 0 ≤ z ∧ z ≤ 255) → (∀ t ∈ l, 0 ≤ t.lit ∧ t.lit ≤ 255) → ∀ z ∈ exp7 b l, 0 ≤ z ∧ z ≤ 255
  | [], _, hb, _ => hb
  | t :: r, b, hb, hl => exp7_bd r (tok7 b t) (tok7_bd hb (hl t (by simp))) (fun x hx => hl x (by simp [hx]))
end Go.Proofs.Ytaipfcfmhdigfaa
