
import Derived.Test.YtoeabfcnfofbiaaDoorLnLeaf2
import Derived.Test.YtoeabfcnfofbiaaDoorLnPm
namespace Go.Proofs.YtoeabfcnfofbiaaDoor
open Go.RowKit
set_option linter.unusedVariables false

def isLeaf (x : Im) (t : It) : Prop := x.fs = none ∧ x.sn = none ∧ 0 ≤ x.wt ∧ 0 ≤ x.sy ∧ t = (x.wt.toNat, [x.sy.toNat])
/-- What an item means: all that it points to lies in blocks of G. -/
def Mn (G : Nat → Prop) (w : World) : Nat → Im → It → Prop
  | 0, x, t => isLeaf x t
  | d + 1, x, t => isLeaf x t ∨ ∃ (b o b' o' : Nat) (y z : Im) (s u : It), x.fs = some ⟨b, o, none⟩ ∧ x.sn = some ⟨b', o', none⟩ ∧ G b ∧ G b' ∧ ItAt w b o y ∧ ItAt w b' o' z ∧ Mn G w d y s ∧ Mn G w d z u ∧ x.wt = ((s.1 + u.1 : Nat) : Int) ∧ t = (s.1 + u.1, s.2 ++ u.2)
theorem Mn.keep {G : Nat → Prop} {w w' : World} (hk : ∀ b, G b → w'.heap[b]? = w.heap[b]?) : ∀ (d : Nat) (x : Im) (t : It), Mn G w d x t → Mn G w' d x t
  | 0, x, t, h => h
  | d + 1, x, t, h => by
    rcases h with h | ⟨b, o, b', o', y, z, s, u, h1, h2, h3, h4, h5, h6, h7, h8, h9⟩
    · exact .inl h
    · exact .inr ⟨b, o, b', o', y, z, s, u, h1, h2, h3, h4, h5.of_block (hk b h3), h6.of_block (hk b' h4), Mn.keep hk d y s h7, Mn.keep hk d z u h8, h9⟩
theorem Mn.mono {G G' : Nat → Prop} {w : World} (hg : ∀ b, G b → G' b) : ∀ (d : Nat) (x : Im) (t : It), Mn G w d x t → Mn G' w d x t
  | 0, x, t, h => h
  | d + 1, x, t, h => by
    rcases h with h | ⟨b, o, b', o', y, z, s, u, h1, h2, h3, h4, h5, h6, h7, h8, h9⟩
    · exact .inl h
    · exact .inr ⟨b, o, b', o', y, z, s, u, h1, h2, hg b h3, hg b' h4, h5, h6, Mn.mono hg d y s h7, Mn.mono hg d z u h8, h9⟩
theorem Mn.leaf {G : Nat → Prop} {w : World} {x : Im} {t : It} (h : isLeaf x t) : ∀ d, Mn G w d x t
  | 0 => h
  | d + 1 => .inl h
theorem Mn.up {G : Nat → Prop} {w : World} : ∀ (d : Nat) (x : Im) (t : It), Mn G w d x t → Mn G w (d + 1) x t
  | 0, x, t, h => .inl h
  | d + 1, x, t, h => by
    rcases h with h | ⟨b, o, b', o', y, z, s, u, h1, h2, h3, h4, h5, h6, h7, h8, h9⟩
    · exact .inl h
    · exact .inr ⟨b, o, b', o', y, z, s, u, h1, h2, h3, h4, h5, h6, Mn.up d y s h7, Mn.up d z u h8, h9⟩
theorem Mn.wt {G : Nat → Prop} {w : World} {d : Nat} {x : Im} {t : It} (h : Mn G w d x t) : x.wt = (t.1 : Int) := by
  have hl : isLeaf x t → x.wt = (t.1 : Int) := by
    rintro ⟨_, _, h3, _, rfl⟩
    simp only
    omega
  cases d with
  | zero => exact hl h
  | succ d =>
    rcases h with h | ⟨b, o, b', o', y, z, s, u, h1, h2, h3, h4, h5, h6, h7, h8, h9, rfl⟩
    · exact hl h
    · exact h9
def im0 : Im := ⟨0, 0, none, none⟩
def it0 : It := (0, [])
/-- Items that lie where a slice's address leads. -/
structure RL (w : World) (a : Option Addr) (L : List Im) : Prop where
  at_ : ∀ k, k < L.length → ∃ b off, a = some ⟨b, off, none⟩ ∧ ItAt w b (off + k * 4) (L.getD k im0)
theorem RL.old {w w' : World} {a : Option Addr} {L : List Im} (h : RL w a L) (hb : Below w.heap.size w w') : RL w' a L :=
  ⟨fun k hk => by obtain ⟨b, off, ha, hi⟩ := h.at_ k hk; exact ⟨b, off, ha, hi.of_block (hb.block b hi.lt)⟩⟩
theorem RL.grown {w w' : World} {a : Option Addr} {L : List Im} {row : Option Nat} (h : RL w a L) (hg : w.grownBy w' row) (hne : ∀ b off, a = some ⟨b, off, none⟩ → 0 < L.length → some b ≠ row) : RL w' a L :=
  ⟨fun k hk => by obtain ⟨b, off, ha, hi⟩ := h.at_ k hk; exact ⟨b, off, ha, hi.of_block (hg.block b hi.lt (hne b off ha (by omega)))⟩⟩
theorem RL.tail {w : World} {b off : Nat} {x : Im} {L : List Im} (h : RL w (some ⟨b, off, none⟩) (x :: L)) : RL w (some ⟨b, off + 4, none⟩) L := by
  refine ⟨fun k hk => ?_⟩
  obtain ⟨b', off', e, hi⟩ := h.at_ (k + 1) (by simp; omega)
  cases e
  refine ⟨b, off + 4, rfl, ?_⟩
  have e1 : off + 4 + k * 4 = off + (k + 1) * 4 := by omega
  rw [e1]
  simpa [List.getD] using hi
theorem RL.cells {w : World} {x : Addr} {L : List Im} (h : RL w (some x) L) : ∀ j u, (flatI L)[j]? = some u → w.cell? (x.add j) = some u := by
  intro j u hu
  have hj : j < L.length * 4 := by
    rcases Nat.lt_or_ge j (L.length * 4) with h1 | h1
    · exact h1
    · rw [List.getElem?_eq_none (by rw [flatI_len]; exact h1)] at hu; cases hu
  obtain ⟨k, r, hr, rfl⟩ : ∃ k r, r < 4 ∧ j = k * 4 + r := ⟨j / 4, j % 4, by omega, by omega⟩
  obtain ⟨b, off, hx, hi⟩ := h.at_ k (by omega)
  cases hx
  have hadd : (⟨b, off, none⟩ : Addr).add (k * 4 + r) = ⟨b, off + (k * 4 + r), none⟩ := by unfold Addr.add; split <;> simp_all
  rw [hadd]
  have hg : L[k]? = some (L.getD k im0) := by simp [List.getD, show k < L.length by omega]
  obtain ⟨q0, q1, q2, q3⟩ := flatI_get L k _ hg
  rcases (by omega : r = 0 ∨ r = 1 ∨ r = 2 ∨ r = 3) with rfl | rfl | rfl | rfl
  · have := hi.c0; rw [Nat.add_zero] at hu ⊢; rw [q0] at hu; rw [← hu]; exact this
  · have := hi.c1; rw [q1] at hu; rw [← hu, ← Nat.add_assoc]; exact this
  · have := hi.c2; rw [q2] at hu; rw [← hu, ← Nat.add_assoc]; exact this
  · have := hi.c3; rw [q3] at hu; rw [← hu, ← Nat.add_assoc]; exact this
/-- What a list of items means. -/
structure ML (G : Nat → Prop) (w : World) (d : Nat) (L : List Im) (ts : List It) : Prop where
  len : L.length = ts.length
  mn : ∀ k, k < L.length → Mn G w d (L.getD k im0) (ts.getD k it0)
theorem ML.keep {G : Nat → Prop} {w w' : World} {d : Nat} {L : List Im} {ts : List It} (h : ML G w d L ts) (hk : ∀ b, G b → w'.heap[b]? = w.heap[b]?) : ML G w' d L ts := ⟨h.len, fun k hl => Mn.keep hk d _ _ (h.mn k hl)⟩
theorem ML.mono {G G' : Nat → Prop} {w : World} {d : Nat} {L : List Im} {ts : List It} (h : ML G w d L ts) (hg : ∀ b, G b → G' b) : ML G' w d L ts := ⟨h.len, fun k hl => Mn.mono hg d _ _ (h.mn k hl)⟩
theorem ML.up {G : Nat → Prop} {w : World} {d : Nat} {L : List Im} {ts : List It} (h : ML G w d L ts) : ML G w (d + 1) L ts := ⟨h.len, fun k hl => Mn.up d _ _ (h.mn k hl)⟩
theorem ML.nil (G : Nat → Prop) (w : World) (d : Nat) : ML G w d [] [] := ⟨rfl, fun k h => by simp at h⟩
theorem ML.app {G : Nat → Prop} {w : World} {d : Nat} {L M : List Im} {ts us : List It} (h : ML G w d L ts) (k : ML G w d M us) : ML G w d (L ++ M) (ts ++ us) := by
  refine ⟨by simp [h.len, k.len], fun i hi => ?_⟩
  by_cases c : i < L.length
  · have e1 : (L ++ M).getD i im0 = L.getD i im0 := by simp [List.getD, List.getElem?_append_left c]
    have e2 : (ts ++ us).getD i it0 = ts.getD i it0 := by simp [List.getD, List.getElem?_append_left (show i < ts.length by rw [← h.len]; exact c)]
    rw [e1, e2]; exact h.mn i c
  · have hl := h.len
    have e1 : (L ++ M).getD i im0 = M.getD (i - L.length) im0 := by simp [List.getD, List.getElem?_append_right (show L.length ≤ i by omega)]
    have e2 : (ts ++ us).getD i it0 = us.getD (i - L.length) it0 := by simp [List.getD, List.getElem?_append_right (show ts.length ≤ i by omega), hl]
    rw [e1, e2]; exact k.mn _ (by simp at hi; omega)
theorem ML.one {G : Nat → Prop} {w : World} {d : Nat} {x : Im} {t : It} (h : Mn G w d x t) : ML G w d [x] [t] := ⟨rfl, fun k hk => by
  have : k = 0 := by simp at hk; omega
  subst this
  exact h⟩
theorem ML.tail {G : Nat → Prop} {w : World} {d : Nat} {x : Im} {t : It} {L : List Im} {ts : List It} (h : ML G w d (x :: L) (t :: ts)) : Mn G w d x t ∧ ML G w d L ts :=
  ⟨h.mn 0 (by simp), ⟨by have := h.len; simpa using this, fun k hk => by have := h.mn (k + 1) (by simp; omega); simpa [List.getD] using this⟩⟩
/-- Two by two. -/
theorem pk_snoc : ∀ (l : List It) (k : Nat), 2 * k + 1 < l.length → pk (l.take (2 * (k + 1))) = pk (l.take (2 * k)) ++ [((l.getD (2 * k) it0).1 + (l.getD (2 * k + 1) it0).1, (l.getD (2 * k) it0).2 ++ (l.getD (2 * k + 1) it0).2)]
  | [], k, h => by simp at h
  | [_], k, h => by simp at h
  | a :: b :: r, 0, h => by simp [pk]
  | a :: b :: r, k + 1, h => by
    have ih := pk_snoc r k (by simp at h; omega)
    rw [show 2 * (k + 1 + 1) = 2 * (k + 1) + 1 + 1 by omega, show 2 * (k + 1) = 2 * k + 1 + 1 by omega]
    simp only [List.take_succ_cons, pk]
    rw [show 2 * k + 1 + 1 = 2 * (k + 1) by omega, ih, List.cons_append]
    simp [List.getD, show 2 * (k + 1) = 2 * k + 1 + 1 by omega]
theorem pk_whole (l : List It) (k : Nat) (h : ¬ 2 * k + 1 < l.length) (h2 : 2 * k ≤ l.length) : pk (l.take (2 * k)) = pk l := by
  by_cases e : l.length = 2 * k
  · rw [List.take_of_length_le (by omega)]
  · have e2 : l.length = 2 * k + 1 := by omega
    clear h h2 e
    induction k generalizing l with
    | zero =>
      match l, e2 with
      | [x], _ => rfl
    | succ k ih =>
      match l, e2 with
      | a :: b :: r, e2 =>
        have := ih r (by simp at e2; omega)
        rw [show 2 * (k + 1) = 2 * k + 1 + 1 by omega]
        simp only [List.take_succ_cons, pk, this]
end Go.Proofs.YtoeabfcnfofbiaaDoor
