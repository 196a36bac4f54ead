import Derived.Test.YtbjjddoeilhomaaPg
import Derived.WalkKit
import Derived.Deep.Draws
import Derived.OneCell
import Derived.WalkSpells
import Derived.Laws.AppendOwnNone
namespace Go.Proofs.Ytbjjddoeilhomaa
open Go.RowKit
set_option linter.unusedVariables false

/-! Layer 15, pure: how far it pays; where two are parted. -/
def o15 (b : Bool) : Int := if b then 1 else 0
def sc15 (g l : Nat → Bool) : Nat → Int
  | 0 => 0
  | i + 1 => sc15 g l i + o15 (g i) - o15 (l i)
def al15 (s : Nat → Bool) : Nat → Nat
  | 0 => 0
  | i + 1 => al15 s i + (if s i then 1 else 0)
def top15 (f : Nat → Int) : Nat → Int
  | 0 => 0
  | i + 1 => if top15 f i < f (i + 1) then f (i + 1) else top15 f i
def bst15 (f : Nat → Int) : Nat → Nat
  | 0 => 0
  | i + 1 => if top15 f i < f (i + 1) then i + 1 else bst15 f i
theorem bst15_le (f : Nat → Int) : ∀ n, bst15 f n ≤ n
  | 0 => Nat.le_refl _
  | n + 1 => by
    have := bst15_le f n
    unfold bst15
    split <;> omega
theorem bst15_congr {f g : Nat → Int} : ∀ n, (∀ i, i ≤ n → f i = g i) → top15 f n = top15 g n ∧ bst15 f n = bst15 g n
  | 0, _ => ⟨rfl, rfl⟩
  | n + 1, h => by
    obtain ⟨h1, h2⟩ := bst15_congr n (fun i hi => h i (by omega))
    have h3 := h (n + 1) (Nat.le_refl _)
    simp only [top15, bst15, h1, h2, h3]
    exact ⟨trivial, trivial⟩
theorem o15_bd (b : Bool) : 0 ≤ o15 b ∧ o15 b ≤ 1 := by cases b <;> decide
theorem sc15_bd (g l : Nat → Bool) : ∀ n : Nat, -(n : Int) ≤ sc15 g l n ∧ sc15 g l n ≤ (n : Int)
  | 0 => by simp [sc15]
  | n + 1 => by
    have h := sc15_bd g l n
    have h1 := o15_bd (g n)
    have h2 := o15_bd (l n)
    show _ ≤ sc15 g l n + o15 (g n) - o15 (l n) ∧ sc15 g l n + o15 (g n) - o15 (l n) ≤ _
    omega
theorem top15_bd (g l : Nat → Bool) : ∀ n : Nat, 0 ≤ top15 (sc15 g l) n ∧ top15 (sc15 g l) n ≤ (n : Int)
  | 0 => by simp [top15]
  | n + 1 => by
    have h := top15_bd g l n
    have h1 := sc15_bd g l (n + 1)
    show _ ≤ (if _ then _ else _) ∧ (if _ then _ else _) ≤ _
    split <;> omega
theorem al15_le (s : Nat → Bool) : ∀ n, al15 s n ≤ n
  | 0 => Nat.le_refl _
  | n + 1 => by
    have := al15_le s n
    unfold al15
    split <;> omega
theorem al15_mono (s : Nat → Bool) {a b : Nat} (h : a ≤ b) : al15 s a ≤ al15 s b := by
  induction b with
  | zero => have : a = 0 := by omega
            subst this; exact Nat.le_refl _
  | succ b ih =>
    by_cases c : a = b + 1
    · subst c; exact Nat.le_refl _
    · have := ih (by omega)
      show _ ≤ al15 s b + _
      omega
theorem al15_gap (s : Nat → Bool) {a b : Nat} (h : a ≤ b) : al15 s b ≤ al15 s a + (b - a) := by
  induction b with
  | zero => have : a = 0 := by omega
            subst this; simp
  | succ b ih =>
    by_cases c : a = b + 1
    · subst c; simp
    · have := ih (by omega)
      show al15 s b + _ ≤ _
      split <;> omega
theorem al15_congr {s t : Nat → Bool} : ∀ n, (∀ i, i < n → s i = t i) → al15 s n = al15 t n
  | 0, _ => rfl
  | n + 1, h => by
    show al15 s n + _ = al15 t n + _
    rw [al15_congr n (fun i hi => h i (by omega)), h n (by omega)]
theorem al15_shift (s : Nat → Bool) : ∀ n, al15 s (n + 1) = (if s 0 then 1 else 0) + al15 (fun j => s (j + 1)) n
  | 0 => by simp [al15]
  | n + 1 => by
    have h := al15_shift s n
    show al15 s (n + 1) + (if s (n + 1) then 1 else 0) = _ + (al15 (fun j => s (j + 1)) n + (if s (n + 1) then 1 else 0))
    omega
theorem al15_rev : ∀ (n : Nat) (s : Nat → Bool), al15 (fun j => s (n - 1 - j)) n = al15 s n
  | 0, s => rfl
  | n + 1, s => by
    rw [al15_shift]
    have h := al15_rev n s
    have e : al15 (fun j => s (n + 1 - 1 - (j + 1))) n = al15 (fun j => s (n - 1 - j)) n := al15_congr n fun i hi => by rw [show n + 1 - 1 - (i + 1) = n - 1 - i by omega]
    rw [e, h]
    show _ = al15 s n + _
    simp
    omega
theorem sc15_pay (s : Nat → Bool) : ∀ n : Nat, sc15 s (fun i => !s i) n = 2 * (al15 s n : Int) - (n : Int)
  | 0 => by simp [sc15, al15]
  | n + 1 => by
    have h := sc15_pay s n
    show sc15 s _ n + o15 (s n) - o15 (!s n) = 2 * ((al15 s n + _ : Nat) : Int) - _
    cases e : s n <;> simp [o15] <;> omega
theorem sc15_two (g l : Nat → Bool) : ∀ n : Nat, sc15 g l n = (al15 g n : Int) - (al15 l n : Int)
  | 0 => by simp [sc15, al15]
  | n + 1 => by
    have h := sc15_two g l n
    show sc15 g l n + o15 (g n) - o15 (l n) = ((al15 g n + _ : Nat) : Int) - ((al15 l n + _ : Nat) : Int)
    cases e : g n <;> cases e2 : l n <;> simp [o15] <;> omega
theorem sc15_le_self (s : Nat → Bool) (h : ∀ i, s i = true) : ∀ n : Nat, sc15 s (fun i => !s i) n = (n : Int)
  | 0 => rfl
  | n + 1 => by
    have := sc15_le_self s h n
    show sc15 s _ n + o15 (s n) - o15 (!s n) = _
    rw [this, h n]
    simp [o15]
def fs15 (z : List Int) (p : Nat) (q : List Int) (f i : Nat) : Bool := z.getD (p + i) 0 == q.getD (f + i) 0
def bk15 (z : List Int) (p : Nat) (q : List Int) (t i : Nat) : Bool := z.getD (p - 1 - i) 0 == q.getD (t - 1 - i) 0
def py15 (s : Nat → Bool) (most : Nat) : Nat := bst15 (sc15 s fun i => !s i) most
theorem py15_le (s : Nat → Bool) (m : Nat) : py15 s m ≤ m := bst15_le _ _
def pl15 (z : List Int) (pos : Int) (q : List Int) (frm to : Int) : Prop := 0 ≤ pos ∧ pos ≤ (z.length : Int) ∧ 0 ≤ frm ∧ frm ≤ to ∧ to ≤ (q.length : Int)
instance (z : List Int) (pos : Int) (q : List Int) (frm to : Int) : Decidable (pl15 z pos q frm to) := by unfold pl15; infer_instance
def fw15 (z : List Int) (pos : Int) (q : List Int) (frm to : Int) : Nat := if pl15 z pos q frm to then py15 (fs15 z pos.toNat q frm.toNat) (min (to.toNat - frm.toNat) (z.length - pos.toNat)) else 0
def bw15 (z : List Int) (pos : Int) (q : List Int) (frm to : Int) : Nat := if pl15 z pos q frm to then py15 (bk15 z pos.toNat q to.toNat) (min (to.toNat - frm.toNat) pos.toNat) else 0
def pt15 (z : List Int) (pos back : Int) (q : List Int) (at_ n : Int) : Prop := 0 ≤ n ∧ (0 ≤ pos ∧ pos ≤ (z.length : Int) - n) ∧ (0 ≤ back ∧ back ≤ (z.length : Int) - n) ∧ (0 ≤ at_ ∧ at_ ≤ (q.length : Int) - n)
instance (z : List Int) (pos back : Int) (q : List Int) (at_ n : Int) : Decidable (pt15 z pos back q at_ n) := by unfold pt15; infer_instance
def sp15 (z : List Int) (pos back : Int) (q : List Int) (at_ n : Int) : Nat := if pt15 z pos back q at_ n then bst15 (sc15 (fs15 z pos.toNat q at_.toNat) (fs15 z back.toNat q at_.toNat)) n.toNat else 0
theorem fw15_bd {z q : List Int} {pos frm to : Nat} (h1 : pos ≤ z.length) (h2 : frm ≤ to) : frm + fw15 z pos q frm to ≤ to ∧ pos + fw15 z pos q frm to ≤ z.length := by
  unfold fw15
  split
  · have := py15_le (fs15 z (pos : Int).toNat q (frm : Int).toNat) (min ((to : Int).toNat - (frm : Int).toNat) (z.length - (pos : Int).toNat))
    omega
  · omega
theorem bw15_bd {z q : List Int} {pos frm to : Nat} (h2 : frm ≤ to) : frm + bw15 z pos q frm to ≤ to ∧ bw15 z pos q frm to ≤ pos := by
  unfold bw15
  split
  · have := py15_le (bk15 z (pos : Int).toNat q (to : Int).toNat) (min ((to : Int).toNat - (frm : Int).toNat) (pos : Int).toNat)
    omega
  · omega
theorem sp15_bd {z q : List Int} {pos back at_ : Int} {n : Nat} : sp15 z pos back q at_ (n : Int) ≤ n := by
  unfold sp15
  split
  · have := bst15_le (sc15 (fs15 z pos.toNat q at_.toNat) (fs15 z back.toNat q at_.toNat)) (n : Int).toNat
    omega
  · omega

/-! Layer 15, pure: the steps. -/
/-- Has old, by a shift, the byte that next has there? -/
def sm15 (z q : List Int) (sh : Int) (k : Nat) : Bool := decide (0 ≤ (k : Int) + sh) && decide ((k : Int) + sh < (z.length : Int)) && (z.getD ((k : Int) + sh).toNat 0 == q.getD k 0)
def ct15 (z q : List Int) (sh : Int) (k : Nat) : Nat := al15 (sm15 z q sh) k
def sco15 (z q : List Int) (sh : Int) (mk at_ : Nat) : Int := (ct15 z q sh mk : Int) - (ct15 z q sh at_ : Int)
theorem ct15_le (z q : List Int) (sh : Int) (k : Nat) : ct15 z q sh k ≤ k := al15_le _ _
theorem ct15_succ (z q : List Int) (sh : Int) (k : Nat) : ct15 z q sh (k + 1) = ct15 z q sh k + (if sm15 z q sh k then 1 else 0) := rfl
def Go15 (n : Nat) (sc : Int) : Prop := ((n : Int) = sc ∧ n ≠ 0) ∨ sc + 8 < (n : Int)
instance (n : Nat) (sc : Int) : Decidable (Go15 n sc) := by unfold Go15; infer_instance
def look15 (z q : List Int) (sh : Int) : Nat → Nat → Nat → Nat × Nat × Nat
  | 0, at_, mk => (at_, 0, mk)
  | f + 1, at_, mk => if Go15 (mx14 z (q.drop at_)) (sco15 z q sh (max mk (at_ + mx14 z (q.drop at_))) at_) then (at_, mx14 z (q.drop at_), max mk (at_ + mx14 z (q.drop at_))) else look15 z q sh f (at_ + 1) (max mk (at_ + mx14 z (q.drop at_)))
theorem mx_drop15 (z q : List Int) {a : Nat} (h : a ≤ q.length) : a + mx14 z (q.drop a) ≤ q.length := by
  have := mx14_le z (q.drop a)
  rw [List.length_drop] at this
  omega
/-- Where a look ends. -/
structure Lk15 (z q : List Int) (sh : Int) (a : Nat) (r : Nat × Nat × Nat) : Prop where
  ge : a ≤ r.1
  le : r.1 ≤ q.length
  mq : r.2.2 ≤ q.length
  go : r.1 < q.length → r.2.1 = mx14 z (q.drop r.1) ∧ 0 < r.2.1 ∧ r.1 + r.2.1 ≤ q.length ∧ r.1 + r.2.1 ≤ r.2.2
theorem sco15_bd (z q : List Int) (sh : Int) {mk at_ : Nat} (h : at_ ≤ mk) : 0 ≤ sco15 z q sh mk at_ := by
  have := al15_mono (sm15 z q sh) h
  unfold sco15 ct15
  omega
theorem sco15_abs (z q : List Int) (sh : Int) {mk at_ N : Nat} (h : at_ ≤ N) (h2 : mk ≤ N) : -(N : Int) ≤ sco15 z q sh mk at_ ∧ sco15 z q sh mk at_ ≤ (N : Int) := by
  have h3 := ct15_le z q sh mk
  have h4 := ct15_le z q sh at_
  unfold sco15
  omega
theorem look15_lk (z q : List Int) (sh : Int) : ∀ (f at_ mk : Nat), at_ + f = q.length → mk ≤ q.length → Lk15 z q sh at_ (look15 z q sh f at_ mk)
  | 0, at_, mk, h, hm => ⟨Nat.le_refl _, by unfold look15; simp; omega, by unfold look15; simpa using hm, fun k => by unfold look15 at k; simp at k; omega⟩
  | f + 1, at_, mk, h, hm => by
    have h1 := mx_drop15 z q (a := at_) (by omega)
    unfold look15
    by_cases c : Go15 (mx14 z (q.drop at_)) (sco15 z q sh (max mk (at_ + mx14 z (q.drop at_))) at_)
    · rw [if_pos c]
      refine ⟨Nat.le_refl _, by simp; omega, by simp; omega, fun _ => ⟨rfl, ?_, h1, by simp; omega⟩⟩
      have := sco15_bd z q sh (mk := max mk (at_ + mx14 z (q.drop at_))) (at_ := at_) (by omega)
      show 0 < mx14 z (q.drop at_)
      rcases c with c | c
      · omega
      · omega
    · rw [if_neg c]
      have ih := look15_lk z q sh f (at_ + 1) (max mk (at_ + mx14 z (q.drop at_))) (by omega) (by omega)
      exact ⟨by have := ih.ge; omega, ih.le, ih.mq, ih.go⟩
/-- How far forward and back, once what overlaps is parted. -/
def ov15 (d f b at_ : Nat) : Nat := d + f + b - at_
def stp15 (z q : List Int) (d b at_ : Nat) : Nat × Nat :=
  let f := fw15 z (b : Int) q (d : Int) (at_ : Int)
  let p := lp14 z (q.drop at_)
  let c := bw15 z (p : Int) q (d : Int) (at_ : Int)
  let o := ov15 d f c at_
  if 0 < o then
    let k := sp15 z ((b + f - o : Nat) : Int) ((p - c : Nat) : Int) q ((d + f - o : Nat) : Int) (o : Int)
    (f + k - o, c - k)
  else (f, c)
def lst15 (z q : List Int) (d b : Nat) : Int × Int × Int := ((fw15 z (b : Int) q (d : Int) (q.length : Int) : Nat), (q.length : Int) - ((d : Int) + ((fw15 z (b : Int) q (d : Int) (q.length : Int) : Nat) : Int)), 0)
def run15 (z q : List Int) : Nat → Nat → Nat → Int → Nat → List (Int × Int × Int)
  | 0, _, _, _, _ => []
  | f + 1, d, b, sh, a =>
    if (look15 z q sh (q.length - a) a a).1 = q.length then [lst15 z q d b]
    else if ((look15 z q sh (q.length - a) a a).2.1 : Int) = sco15 z q sh (look15 z q sh (q.length - a) a a).2.2 (look15 z q sh (q.length - a) a a).1 then run15 z q f d b sh ((look15 z q sh (q.length - a) a a).1 + (look15 z q sh (q.length - a) a a).2.1)
    else
      (((stp15 z q d b (look15 z q sh (q.length - a) a a).1).1 : Nat), (((look15 z q sh (q.length - a) a a).1 : Nat) : Int) - ((stp15 z q d b (look15 z q sh (q.length - a) a a).1).2 : Nat) - ((d : Int) + ((stp15 z q d b (look15 z q sh (q.length - a) a a).1).1 : Nat)), ((lp14 z (q.drop (look15 z q sh (q.length - a) a a).1) : Nat) : Int) - ((stp15 z q d b (look15 z q sh (q.length - a) a a).1).2 : Nat) - ((b : Int) + ((stp15 z q d b (look15 z q sh (q.length - a) a a).1).1 : Nat)))
        :: run15 z q f ((look15 z q sh (q.length - a) a a).1 - (stp15 z q d b (look15 z q sh (q.length - a) a a).1).2) (lp14 z (q.drop (look15 z q sh (q.length - a) a a).1) - (stp15 z q d b (look15 z q sh (q.length - a) a a).1).2) ((lp14 z (q.drop (look15 z q sh (q.length - a) a a).1) : Int) - ((look15 z q sh (q.length - a) a a).1 : Int)) ((look15 z q sh (q.length - a) a a).1 + (look15 z q sh (q.length - a) a a).2.1)
def all15 (z q : List Int) : List (Int × Int × Int) := if q.length = 0 then [] else run15 z q (q.length + 1) 0 0 0 0
theorem mx_none15 (p : List Int) : mx14 [] p = 0 := rfl
theorem look_none15 (q : List Int) (sh : Int) : ∀ (f at_ mk : Nat), at_ + f = q.length → mk ≤ at_ → look15 [] q sh f at_ mk = (q.length, 0, if f = 0 then mk else at_ + f - 1)
  | 0, at_, mk, h, hm => by unfold look15; simp; omega
  | f + 1, at_, mk, h, hm => by
    have e : ∀ k, sm15 [] q sh k = false := fun k => by
      unfold sm15
      by_cases c : 0 ≤ (k : Int) + sh
      · have : decide ((k : Int) + sh < ((([] : List Int).length : Nat) : Int)) = false := decide_eq_false (by simp; omega)
        rw [this]; simp
      · rw [decide_eq_false c]; rfl
    have e2 : ∀ k, ct15 [] q sh k = 0 := fun k => by
      unfold ct15
      induction k with
      | zero => rfl
      | succ k ih => show al15 _ k + _ = 0; rw [ih, e k]; rfl
    have e3 : max mk (at_ + 0) = at_ := by omega
    unfold look15
    rw [mx_none15, e3, if_neg (by unfold Go15 sco15; rw [e2]; omega), look_none15 q sh f (at_ + 1) at_ (by omega) (by omega)]
    by_cases c : f = 0
    · subst c; simp
    · rw [if_neg c, if_neg (by omega)]; congr 2; omega
theorem none15 (q : List Int) (h : q.length ≠ 0) : all15 [] q = [(0, (q.length : Int), 0)] := by
  unfold all15
  rw [if_neg h]
  unfold run15
  rw [look_none15 q 0 (q.length - 0) 0 0 (by omega) (by omega)]
  rw [if_pos rfl]
  have e : fw15 [] ((0 : Nat) : Int) q ((0 : Nat) : Int) (q.length : Int) = 0 := by
    have := (fw15_bd (z := []) (q := q) (pos := 0) (frm := 0) (to := q.length) (by simp) (by omega)).2
    simpa using this
  unfold lst15
  rw [e]
  simp
theorem lc_self15 : ∀ (z : List Int), lc13 z z = z.length
  | [] => rfl
  | x :: z => by rw [lc13, if_pos rfl, lc_self15 z]; rfl
theorem mx_self15 (z : List Int) : mx14 z z = z.length := by
  apply Nat.le_antisymm (mx14_le z z)
  by_cases c : z.length = 0
  · omega
  · have := mp14_ge z z (k := z.length) (i := 0) (by omega)
    rw [List.drop_zero, lc_self15] at this
    exact this
theorem sm_self15 (z : List Int) {k : Nat} (h : k < z.length) : sm15 z z 0 k = true := by
  unfold sm15
  rw [Int.add_zero, Int.toNat_natCast]
  simp
  omega
theorem ct_self15 (z : List Int) : ∀ k, k ≤ z.length → ct15 z z 0 k = k
  | 0, _ => rfl
  | k + 1, h => by
    rw [ct15_succ, ct_self15 z k (by omega), sm_self15 z (by omega)]
    rfl
theorem look_self15 (z : List Int) (h : z.length ≠ 0) : look15 z z 0 (z.length - 0) 0 0 = (0, z.length, z.length) := by
  obtain ⟨f, hf⟩ : ∃ f, z.length - 0 = f + 1 := ⟨z.length - 1, by omega⟩
  rw [hf]
  unfold look15
  rw [List.drop_zero, mx_self15, show max 0 (0 + z.length) = z.length by omega]
  rw [if_pos]
  unfold Go15 sco15
  rw [ct_self15 z _ (Nat.le_refl _), ct_self15 z 0 (by omega)]
  left
  exact ⟨by omega, h⟩
theorem bst_self15 {g : Nat → Int} : ∀ n : Nat, (∀ i, i ≤ n → g i = (i : Int)) → bst15 g n = n ∧ top15 g n = (n : Int)
  | 0, _ => ⟨rfl, rfl⟩
  | n + 1, h => by
    obtain ⟨h1, h2⟩ := bst_self15 n (fun i hi => h i (by omega))
    have h3 := h (n + 1) (Nat.le_refl _)
    have h4 : top15 g n < g (n + 1) := by omega
    exact ⟨by show (if _ then _ else _) = _; rw [if_pos h4], by show (if _ then _ else _) = _; rw [if_pos h4, h3]⟩
theorem sc_true15 {s : Nat → Bool} : ∀ n : Nat, (∀ i, i < n → s i = true) → sc15 s (fun i => !s i) n = (n : Int)
  | 0, _ => rfl
  | n + 1, h => by
    show sc15 s _ n + o15 (s n) - o15 (!s n) = _
    rw [sc_true15 n (fun i hi => h i (by omega)), h n (by omega)]
    simp [o15]
theorem fw_self15 (z : List Int) : fw15 z ((0 : Nat) : Int) z ((0 : Nat) : Int) (z.length : Int) = z.length := by
  unfold fw15
  rw [if_pos (by unfold pl15; omega)]
  unfold py15
  rw [show min ((z.length : Int).toNat - ((0 : Nat) : Int).toNat) (z.length - ((0 : Nat) : Int).toNat) = z.length by omega]
  exact (bst_self15 z.length fun i hi => sc_true15 i fun j hj => by unfold fs15; simp).1
theorem self15 (z : List Int) (h : z.length ≠ 0) : all15 z z = [((z.length : Int), 0, 0)] := by
  unfold all15
  rw [if_neg h]
  unfold run15
  rw [look_self15 z h]
  have h1 : ¬ (0 : Nat) = z.length := by omega
  rw [if_neg h1, if_pos (by show ((z.length : Nat) : Int) = _; unfold sco15; rw [ct_self15 z _ (Nat.le_refl _), ct_self15 z 0 (by omega)]; omega)]
  show run15 z z z.length 0 0 0 (0 + z.length) = _
  rw [Nat.zero_add]
  obtain ⟨f, hf⟩ : ∃ f, z.length = f + 1 := ⟨z.length - 1, by omega⟩
  have e : ∀ g, g = z.length → run15 z z g 0 0 0 z.length = [lst15 z z 0 0] := fun g hg => by
    rw [hf] at hg
    subst hg
    unfold run15
    rw [Nat.sub_self]
    rw [show look15 z z 0 0 z.length z.length = (z.length, 0, z.length) from rfl, if_pos rfl]
  rw [e _ rfl]
  unfold lst15
  rw [fw_self15]
  simp

/-! Layer 15, pure: looks and runs in which no match is gone over again, and no place is asked for. -/
def Qu15 (z q : List Int) (sh : Int) : Nat → Nat → Nat → Prop
  | 0, _, _ => True
  | f + 1, at_, mk => Go15 (mx14 z (q.drop at_)) (sco15 z q sh (max mk (at_ + mx14 z (q.drop at_))) at_) ∨ (mx14 z (q.drop at_) ≤ 1 ∧ Qu15 z q sh f (at_ + 1) (max mk (at_ + mx14 z (q.drop at_))))
def Qr15 (z q : List Int) : Nat → Nat → Nat → Int → Nat → Prop
  | 0, _, _, _, _ => True
  | f + 1, d, b, sh, a => Qu15 z q sh (q.length - a) a a ∧ ((look15 z q sh (q.length - a) a a).1 = q.length ∨ (((look15 z q sh (q.length - a) a a).2.1 : Int) = sco15 z q sh (look15 z q sh (q.length - a) a a).2.2 (look15 z q sh (q.length - a) a a).1 ∧ Qr15 z q f d b sh ((look15 z q sh (q.length - a) a a).1 + (look15 z q sh (q.length - a) a a).2.1)))
theorem qu_none15 (q : List Int) (sh : Int) : ∀ (f at_ mk : Nat), Qu15 [] q sh f at_ mk
  | 0, _, _ => trivial
  | f + 1, at_, mk => Or.inr ⟨by rw [mx_none15]; omega, qu_none15 q sh f _ _⟩
theorem qr_none15 (q : List Int) (f : Nat) : Qr15 [] q f 0 0 0 0 := by
  cases f with
  | zero => trivial
  | succ f => exact ⟨qu_none15 q 0 _ _ _, Or.inl (by rw [look_none15 q 0 (q.length - 0) 0 0 (by omega) (by omega)])⟩
theorem qr_self15 (z : List Int) (h : z.length ≠ 0) (f : Nat) : Qr15 z z f 0 0 0 0 := by
  cases f with
  | zero => trivial
  | succ f =>
    refine ⟨?_, Or.inr ⟨?_, ?_⟩⟩
    · obtain ⟨k, hk⟩ : ∃ k, z.length - 0 = k + 1 := ⟨z.length - 1, by omega⟩
      rw [hk]
      left
      rw [List.drop_zero, mx_self15, show max 0 (0 + z.length) = z.length by omega]
      unfold Go15 sco15
      rw [ct_self15 z _ (Nat.le_refl _), ct_self15 z 0 (by omega)]
      left
      exact ⟨by omega, h⟩
    · rw [look_self15 z h]
      show ((z.length : Nat) : Int) = _
      unfold sco15
      rw [ct_self15 z _ (Nat.le_refl _), ct_self15 z 0 (by omega)]
      omega
    · rw [look_self15 z h]
      show Qr15 z z f 0 0 0 (0 + z.length)
      rw [Nat.zero_add]
      cases f with
      | zero => trivial
      | succ f =>
        refine ⟨?_, Or.inl ?_⟩
        · rw [Nat.sub_self]; trivial
        · rw [Nat.sub_self]; rfl
end Go.Proofs.Ytbjjddoeilhomaa

namespace Go.Proofs.Ytbjjddoeilhomaa
open Go.RowKit

/-! A block of two cells. -/
theorem two_cell0 {w : World} {b : Nat} {u v : Value} {t : TypeId} (h : w.heap[b]? = some (.cells #[u, v] t (0, 0))) : w.cell? ⟨b, 0, none⟩ = some u := by simp [World.cell?, h]
theorem two_cell1 {w : World} {b : Nat} {u v : Value} {t : TypeId} (h : w.heap[b]? = some (.cells #[u, v] t (0, 0))) : w.cell? ⟨b, 1, none⟩ = some v := by simp [World.cell?, h]
theorem two_free {w : World} {b : Nat} {u v : Value} {t : TypeId} (h : w.heap[b]? = some (.cells #[u, v] t (0, 0))) (i : Nat) : w.frozen? ⟨b, i, none⟩ = false := by simp [World.frozen?, h]
theorem two_set0 {w : World} {b : Nat} {u v : Value} {t : TypeId} (h : w.heap[b]? = some (.cells #[u, v] t (0, 0))) (x : Value) : (w.setCell ⟨b, 0, none⟩ x).heap[b]? = some (.cells #[x, v] t (0, 0)) := by
  simp [World.setCell, Array.getElem?_modify, h]
theorem two_set1 {w : World} {b : Nat} {u v : Value} {t : TypeId} (h : w.heap[b]? = some (.cells #[u, v] t (0, 0))) (x : Value) : (w.setCell ⟨b, 1, none⟩ x).heap[b]? = some (.cells #[u, x] t (0, 0)) := by
  simp [World.setCell, Array.getElem?_modify, h]

/-! What one row's writer leaves of the others. -/
theorem grownBy_trans {a b c : World} {row : Option Nat} (h : a.grownBy b row) (k : b.grownBy c row) : a.grownBy c row :=
  ⟨k.os.trans h.os, k.tape.trans h.tape, k.output.trans h.output, Nat.le_trans h.size k.size, fun i hi hne => (k.block i (Nat.lt_of_lt_of_le hi h.size) hne).trans (h.block i hi hne)⟩
theorem grownBy_drew {a b : World} {row : Option Nat} (h : a.grownBy b row) : a.grownBy b.drew row := ⟨h.os, h.tape, h.output, h.size, h.block⟩
theorem grownBy_drewN {a b : World} {row : Option Nat} (h : a.grownBy b row) (n : Nat) : a.grownBy (b.drewN n) row := ⟨h.os, h.tape, h.output, h.size, h.block⟩
theorem grownBy_set {a w : World} {b i : Nat} (h : a.grownBy w (some b)) (x : Value) : a.grownBy (w.setCell ⟨b, i, none⟩ x) (some b) :=
  grownBy_trans h ⟨rfl, rfl, rfl, by simp [World.setCell], fun k _ hne => Below.heap_setCell _ _ _ _ (fun e => hne (by rw [e]))⟩
theorem grownBy_of_none {a w : World} {row : Option Nat} (h : a.grownBy w none) : a.grownBy w row := ⟨h.os, h.tape, h.output, h.size, fun k hk _ => h.block k hk (by simp)⟩
theorem below_of_grown {a w : World} {b B : Nat} (h : a.grownBy w (some b)) (hB : B ≤ b) (hs : B ≤ a.heap.size) : Below B a w :=
  (Below.refl B a).grown h hs (by intro k e; cases e; exact hB)

theorem ret3 {a a' b b' c c' : Value} (h : a = a') (h' : b = b') (h'' : c = c') : Ending.returned (.tuple #[a, b, c]) = .returned (.tuple #[a', b', c']) := by rw [h, h', h'']
end Go.Proofs.Ytbjjddoeilhomaa

namespace Go.Proofs.Ytbjjddoeilhomaa
open Go.RowKit
set_option linter.unusedVariables false

/-- Bytes lie where a slice's address leads. -/
structure SegK (k : IntKind) (M : Int) (w : World) (a : Option Addr) (zs : List Int) : Prop where
  at_ : ∀ i, i < zs.length → ∃ b off, a = some ⟨b, off, none⟩ ∧ w.cell? ⟨b, off + i, none⟩ = some (.int k (zs.getD i 0))
  pos : 0 ≤ M
  bd : ∀ i, 0 ≤ zs.getD i 0 ∧ zs.getD i 0 ≤ M
abbrev Seg (w : World) (a : Option Addr) (zs : List Int) : Prop := SegK .u8 255 w a zs
abbrev Seg64 (w : World) (a : Option Addr) (zs : List Int) : Prop := SegK .u64 18446744073709551615 w a zs
variable {k : IntKind} {M : Int}

theorem SegK.nil (hM : 0 ≤ M) (w : World) (a : Option Addr) : SegK k M w a [] := ⟨fun i h => by simp at h, hM, fun i => by simp [hM]⟩
theorem SegK.of_cells {w w' : World} {a : Option Addr} {zs : List Int} (h : SegK k M w a zs) (hc : ∀ b off i v, i < zs.length → a = some ⟨b, off, none⟩ → w.cell? ⟨b, off + i, none⟩ = some v → w'.cell? ⟨b, off + i, none⟩ = some v) : SegK k M w' a zs :=
  ⟨fun i hi => by obtain ⟨b, off, ha, hcl⟩ := h.at_ i hi; exact ⟨b, off, ha, hc b off i _ hi ha hcl⟩, h.pos, h.bd⟩
theorem SegK.below {w w' : World} {a : Option Addr} {zs : List Int} {B : Nat} (h : SegK k M w a zs) (hb : Below B w w') (hB : ∀ b off, a = some ⟨b, off, none⟩ → 0 < zs.length → b < B) : SegK k M w' a zs :=
  h.of_cells fun b off i v hi ha hcl => (hb.cell (p := ⟨b, off + i, none⟩) (hB b off ha (by omega))).trans hcl
theorem SegK.lt {w : World} {a : Option Addr} {zs : List Int} (h : SegK k M w a zs) : ∀ b off, a = some ⟨b, off, none⟩ → 0 < zs.length → b < w.heap.size := by
  intro b off ha hl
  obtain ⟨b', off', ha', hc⟩ := h.at_ 0 hl
  rw [ha] at ha'
  cases ha'
  exact World.block_lt_of_cell? w _ hc
theorem SegK.old {w w' : World} {a : Option Addr} {zs : List Int} (h : SegK k M w a zs) (hb : Below w.heap.size w w') : SegK k M w' a zs := h.below hb h.lt
theorem SegK.drewN {w : World} {a : Option Addr} {zs : List Int} (h : SegK k M w a zs) (n : Nat) : SegK k M (w.drewN n) a zs := ⟨h.at_, h.pos, h.bd⟩
theorem SegK.drew {w : World} {a : Option Addr} {zs : List Int} (h : SegK k M w a zs) : SegK k M w.drew a zs := ⟨h.at_, h.pos, h.bd⟩
theorem SegK.alloc {w : World} {a : Option Addr} {zs : List Int} (h : SegK k M w a zs) (o : Obj) : SegK k M (w.alloc o) a zs := h.old ((Below.refl _ _).alloc (Nat.le_refl _) o)
theorem SegK.grown {w w' : World} {a : Option Addr} {zs : List Int} {row : Option Nat} (h : SegK k M w a zs) (hg : w.grownBy w' row) (hne : ∀ b off, a = some ⟨b, off, none⟩ → 0 < zs.length → some b ≠ row) : SegK k M w' a zs :=
  h.of_cells fun b off i v hi ha hcl => hg.cell hcl (hne b off ha (by omega))
theorem SegK.take {w : World} {a : Option Addr} {zs : List Int} (h : SegK k M w a zs) (m : Nat) : SegK k M w a (zs.take m) := by
  refine ⟨fun i hi => ?_, h.pos, fun i => ?_⟩
  · simp at hi
    obtain ⟨b, off, ha, hc⟩ := h.at_ i (by omega)
    refine ⟨b, off, ha, ?_⟩
    rw [hc]
    have hk : i < m := by omega
    simp [List.getD, hk]
  · have := h.bd i
    simp only [List.getD, List.getElem?_take]
    split
    · exact this
    · simp [h.pos]
theorem SegK.mem {w : World} {a : Option Addr} {zs : List Int} (h : SegK k M w a zs) : ∀ z ∈ zs, 0 ≤ z ∧ z ≤ M := by
  intro z hz
  obtain ⟨i, hi, rfl⟩ := List.mem_iff_getElem.1 hz
  have := h.bd i
  simpa [List.getD, hi] using this
theorem SegK.drop {w : World} {b off : Nat} {zs : List Int} (h : SegK k M w (some ⟨b, off, none⟩) zs) (m : Nat) : SegK k M w (some ⟨b, off + m, none⟩) (zs.drop m) := by
  refine ⟨fun i hi => ?_, h.pos, fun i => ?_⟩
  · simp at hi
    obtain ⟨b', off', ha, hc⟩ := h.at_ (m + i) (by omega)
    cases ha
    refine ⟨b, off + m, rfl, ?_⟩
    rw [Nat.add_assoc, hc]
    simp [List.getD]
  · have := h.bd (m + i)
    simpa [List.getD] using this
end Go.Proofs.Ytbjjddoeilhomaa

namespace Go.Proofs.Ytbjjddoeilhomaa
open Go.RowKit
set_option linter.unusedVariables false

/-- 'out = append(out, y)', y one cell that lies in a block of its own, out the call's own row. -/
theorem wpList_push {P : Program} {ops : Array Oper} {rest : List Oper} {o : Oper} {a : Act} {Q : Exit → Act → World → Prop} (hgd : o.guard = none) (s x : Operand) (t : TypeId)
    (ho : o.op = .call { callee := .builtin .append, args := #[s, x], argTypes := #[t, t] })
    (base : Nat) (e : TypeId) (i : TypeInfo) (z : Value) (bytes : Nat) (ht : P.underlying t = some (.slice e)) (hi : P.info? e = some i) (hz : i.zero = some z)
    (hsize : i.size = 1) (hby : i.bytes = bytes) (hzs : z.cells.size = 1)
    (w0 : World) (y : Value) (hy : y.oneCell' = true) {v : Value} {n : Nat} {xs : List Value} (hown : w0.ownsRow base e 1 v n xs) (hs : a.eval s = v) (hx : a.eval x = .slice (some ⟨w0.heap.size, 0, none⟩) 1 1)
    (h63 : n + 1 ≤ 140737488355328) (hbytes : (n + 1) * bytes ≤ 140737488355328) (hbase : base ≤ w0.heap.size)
    (h : ∀ v' w', w'.ownsRow base e 1 v' (n + 1) (xs ++ [y]) → w0.grownBy w' v.ownBlock → Below base w0 w' → wpList P ops Q rest (a.put o.dst v') w') : wpList P ops Q (o :: rest) a (w0.alloc (.cells #[y] e)) := by
  refine wpList_append_own _ hgd s x t ho base e i z 1 bytes ht hi hz hsize hby hzs (by decide) v n xs hs (hown.alloc _) ⟨w0.heap.size, 0, none⟩ 1 1 [y] hx rfl (cell_one_new _ _ _) ?_ (by unfold maxLen; omega) hbytes (by simp; omega) ?_
  · intro u hu; simp at hu; subst hu; exact hy
  · intro v' w' h1 h2 _
    have hg : w0.grownBy w' v.ownBlock := grownBy_trans (World.grownBy_alloc w0 _ _) h2
    exact h v' w' h1 hg ((Below.refl _ _).grown hg hbase (fun k hk => (hown.lt k hk).1))

theorem seg_cells {k : IntKind} {M : Int} {w : World} {x : Addr} {zs : List Int} (h : SegK k M w (some x) zs) : ∀ j u, (zs.map (Value.int k))[j]? = some u → w.cell? (x.add j) = some u := by
  intro j u hu
  have hj : j < zs.length := by
    rcases Nat.lt_or_ge j zs.length with h | h
    · exact h
    · simp [List.getElem?_eq_none h] at hu
  obtain ⟨b, off, hx, hc⟩ := h.at_ j hj
  cases hx
  have hadd : (⟨b, off, none⟩ : Addr).add j = ⟨b, off + j, none⟩ := by unfold Addr.add; split <;> simp_all
  rw [hadd, hc]
  simp [hj] at hu
  subst hu
  simp [List.getD, hj]

/-- 'out = append(out, src...)', src whatever numbers lie there. -/
theorem wpList_append_seg {P : Program} {ops : Array Oper} {rest : List Oper} {o : Oper} {a : Act} {Q : Exit → Act → World → Prop} (hgd : o.guard = none) (s x : Operand) (t : TypeId)
    (ho : o.op = .call { callee := .builtin .append, args := #[s, x], argTypes := #[t, t] })
    (base : Nat) (e : TypeId) (i : TypeInfo) (z : Value) (bytes : Nat) (ht : P.underlying t = some (.slice e)) (hi : P.info? e = some i) (hz : i.zero = some z)
    (hsize : i.size = 1) (hby : i.bytes = bytes) (hzs : z.cells.size = 1)
    {w : World} {v : Value} {n : Nat} {xs : List Value} (hown : w.ownsRow base e 1 v n xs) {k : IntKind} {M : Int} {ao : Option Addr} {zs : List Int} {cap : Nat} (hseg : SegK k M w ao zs) (hnil : ao = none → cap = 0)
    (hs : a.eval s = v) (hx : a.eval x = .slice ao zs.length cap)
    (h63 : n + zs.length ≤ 140737488355328) (hbytes : (n + zs.length) * bytes ≤ 140737488355328) (hbase : base ≤ w.heap.size)
    (h : ∀ v' w', w'.ownsRow base e 1 v' (n + zs.length) (xs ++ zs.map (Value.int k)) → w.grownBy w' v.ownBlock → Below base w w' → wpList P ops Q rest (a.put o.dst v') w') : wpList P ops Q (o :: rest) a w := by
  cases ao with
  | none =>
    have hz : zs = [] := by
      cases zs with
      | nil => rfl
      | cons z r => obtain ⟨b, off, hx, _⟩ := hseg.at_ 0 (by simp); cases hx
    subst hz
    rw [hnil rfl] at hx
    refine wpList_append_own_none hgd s x t ho base e i 1 ht hi v n xs hs hown hx ?_
    exact h v w (by simpa using hown) (World.grownBy.refl _ _) (Below.refl _ _)
  | some ad =>
    refine wpList_append_own _ hgd s x t ho base e i z 1 bytes ht hi hz hsize hby hzs (by decide) v n xs hs hown ad zs.length cap (zs.map (Value.int k)) hx (by simp) (seg_cells hseg) (ints_oneCell _ _) (by unfold maxLen; omega) hbytes hbase ?_
    intro v' w' h1 h2 _
    exact h v' w' h1 h2 ((Below.refl _ _).grown h2 hbase (fun k hk => (hown.lt k hk).1))

/-- A row that holds something has a place. -/
theorem own_shape {w : World} {base n : Nat} {e : TypeId} {v : Value} {xs : List Value} (h : w.ownsRow base e 1 v n xs) (hn : 0 < n) : ∃ g cap, v = .slice (some ⟨g, 0, none⟩) n cap ∧ n ≤ cap ∧ base ≤ g ∧ g < w.heap.size := by
  rcases h.2 with ⟨_, h0⟩ | ⟨g, cap, cur, rfl, hg, hh, hc, _⟩
  · omega
  · exact ⟨g, cap, rfl, hc, hg, (Array.getElem?_eq_some_iff.1 hh).1⟩
end Go.Proofs.Ytbjjddoeilhomaa

namespace Go.Proofs.Ytbjjddoeilhomaa
open Go.RowKit
set_option linter.unusedVariables false

theorem getD_bd {zs : List Int} {M : Int} (hM : 0 ≤ M) (h : ∀ z ∈ zs, 0 ≤ z ∧ z ≤ M) (i : Nat) : 0 ≤ zs.getD i 0 ∧ zs.getD i 0 ≤ M := by
  by_cases hi : i < zs.length
  · have := h zs[i] (List.getElem_mem hi)
    simpa [List.getD, hi] using this
  · have : zs[i]? = none := List.getElem?_eq_none (by omega)
    simp [List.getD, this, hM]

/-- A row that the call owns, as bytes that lie there. -/
theorem own_seg {w : World} {base n : Nat} {e : TypeId} {v : Value} {k : IntKind} {M : Int} {zs : List Int} (h : w.ownsRow base e 1 v n (zs.map (Value.int k))) (hM : 0 ≤ M) (hb : ∀ z ∈ zs, 0 ≤ z ∧ z ≤ M) :
    n = zs.length ∧ ∃ a cap, v = .slice a n cap ∧ SegK k M w a zs ∧ (∀ x, a = some x → x.off = 0 ∧ x.spot = none ∧ base ≤ x.block ∧ x.block < w.heap.size) ∧ n ≤ cap ∧ v.ownBlock = a.map (·.block) := by
  have hl : zs.length = n := by simpa using h.1
  refine ⟨hl.symm, ?_⟩
  rcases h.2 with ⟨rfl, hn⟩ | ⟨g, cap, cur, rfl, hg, hh, hc, _, _, ht⟩
  · have : zs = [] := List.eq_nil_of_length_eq_zero (by omega)
    subst this
    exact ⟨none, 0, by rw [hn], SegK.nil hM _ _, by simp, by omega, rfl⟩
  · refine ⟨some ⟨g, 0, none⟩, cap, rfl, ⟨fun i hi => ⟨g, 0, rfl, ?_⟩, hM, getD_bd hM hb⟩, ?_, hc, rfl⟩
    · have := h.cells (g := g) rfl i (.int k (zs.getD i 0)) (by simp [List.getD, hi])
      have hadd : (⟨g, 0, none⟩ : Addr).add i = ⟨g, 0 + i, none⟩ := by unfold Addr.add; split <;> simp_all
      rw [hadd] at this
      exact this
    · intro x hx
      cases hx
      exact ⟨rfl, rfl, hg, (Array.getElem?_eq_some_iff.1 hh).1⟩

/-- What is owned stays owned where nothing that was there turned. -/
theorem own_below {w w' : World} {base n : Nat} {e : TypeId} {v : Value} {xs : List Value} (h : w.ownsRow base e 1 v n xs) (hb : Below w.heap.size w w') : w'.ownsRow base e 1 v n xs := by
  refine ⟨h.1, ?_⟩
  rcases h.2 with h2 | ⟨g, cap, cur, hv, hg, hh, r⟩
  · exact Or.inl h2
  · exact Or.inr ⟨g, cap, cur, hv, hg, by rw [hb.block g (Array.getElem?_eq_some_iff.1 hh).1]; exact hh, r⟩
theorem own_base {w : World} {base base' n : Nat} {e : TypeId} {v : Value} {xs : List Value} (h : w.ownsRow base e 1 v n xs) (hb : base' ≤ base) : w.ownsRow base' e 1 v n xs := by
  refine ⟨h.1, ?_⟩
  rcases h.2 with h2 | ⟨g, cap, cur, hv, hg, r⟩
  · exact Or.inl h2
  · exact Or.inr ⟨g, cap, cur, hv, by omega, r⟩
end Go.Proofs.Ytbjjddoeilhomaa
