import Derived.Test.YtboangeopbblnaaPk
import Derived.Test.YtboangeopbblnaaPn
import Derived.Test.YtboangeopbblnaaProg
import Derived.Test.YtboangeopbblnaaPe
import Derived.WalkKit
import Derived.WalkSpells
import Derived.BigQuiet
import Derived.Deep.QuietTactic
import Derived.WalkLawsBesides
import Derived.Deep.RegionHeld3
import Derived.Deep.OwnRows
import Derived.Laws.CopyOwn
import Derived.Test.YtboangeopbblnaaPb
import Derived.Laws.AppendOwnNone
import Derived.Below
namespace Go.Proofs.Ytboangeopbblnaa
open Go.RowKit
set_option linter.unusedVariables false
def swA (H : List Bool) (t dl dd hd : Nat) (win lim nx : Int) (last : Bool) : List Value := [.int .u64 (num H : Int), .int .i64 (H.length : Int), .int .i64 (t : Int), .pointer (some ⟨dl, 0, none⟩), .pointer (some ⟨dd, 0, none⟩), .pointer (some ⟨hd, 0, none⟩), .int .i64 win, .int .i64 lim, .int .i64 nx, .bool last, .int .i64 0, .int .i64 0, .int .i64 0, .int .i64 0, .int .i64 0]
structure Sw (w : World) (b g S : Nat) (L K : List Int) (H : List Bool) (t dl dd hd : Nat) (win lim nx : Int) (last : Bool) : Prop where
  hp : w.heap[b]? = some (.cells (.slice (some ⟨g, 0, none⟩) S S :: .int .i64 (L.length : Int) :: swA H t dl dd hd win lim nx last).toArray 110 (0, 0))
  hk : w.heap[g]? = some (.cells (K.map (Value.int .u8)).toArray 5 (0, 0))
  rd : Rnd S L K
  ne : b ≠ g
  bd : ∀ z ∈ L, 0 ≤ z ∧ z ≤ 255
  s1 : 1 ≤ S
  s2 : S ≤ 32768
  le : H.length ≤ 64
section
variable {w w' : World} {b g S : Nat} {L K L' K' : List Int} {H H' : List Bool} {t t' dl dd hd : Nat} {win lim nx : Int} {last : Bool} {Q : Nat → Prop}
theorem Sw.ring (h : Sw w b g S L K H t dl dd hd win lim nx last) : RPkO 110 (swA H t dl dd hd win lim nx last) w b g S L K := ⟨h.hp, h.hk, h.rd, h.ne, h.bd, h.s1, h.s2⟩
theorem Sw.ofO (h : Sw w b g S L K H t dl dd hd win lim nx last) (hr : RPkO 110 (swA H t dl dd hd win lim nx last) w' b g S L' K') : Sw w' b g S L' K' H t dl dd hd win lim nx last :=
  ⟨hr.hp, hr.hk, hr.rd, hr.ne, hr.bd, hr.s1, hr.s2, h.le⟩
theorem Sw.kp (h : Sw w b g S L K H t dl dd hd win lim nx last) (hk : Kp Q w w') (h1 : ¬ Q b) (h2 : ¬ Q g) : Sw w' b g S L K H t dl dd hd win lim nx last :=
  ⟨hk.heap h.hp h1, hk.heap h.hk h2, h.rd, h.ne, h.bd, h.s1, h.s2, h.le⟩
theorem Sw.old (h : Sw w b g S L K H t dl dd hd win lim nx last) (hb : Below w.heap.size w w') : Sw w' b g S L K H t dl dd hd win lim nx last := h.kp (Q := fun _ => False) (Kp.of_below hb) (fun e => e) (fun e => e)
theorem Sw.b_lt (h : Sw w b g S L K H t dl dd hd win lim nx last) : b < w.heap.size := (Array.getElem?_eq_some_iff.1 h.hp).1
theorem Sw.g_lt (h : Sw w b g S L K H t dl dd hd win lim nx last) : g < w.heap.size := (Array.getElem?_eq_some_iff.1 h.hk).1
theorem Sw.cell (h : Sw w b g S L K H t dl dd hd win lim nx last) (i : Nat) (v : Value) (hv : (Value.slice (some ⟨g, 0, none⟩) S S :: .int .i64 (L.length : Int) :: swA H t dl dd hd win lim nx last)[i]? = some v) : w.cell? ⟨b, i, none⟩ = some v := by
  rw [cell_of_row w b i _ _ _ h.hp]
  simpa using hv
theorem Sw.free (h : Sw w b g S L K H t dl dd hd win lim nx last) (i : Nat) : w.frozen? ⟨b, i, none⟩ = false := cons_free h.hp i
/-- What goes in and comes out. -/
structure Fl (w : World) (bf : Nat) (pa : Option Addr) (np pc tk : Nat) (most : Int) (out : Value) : Prop where
  hp : w.heap[bf]? = some (.cells #[.slice pa np pc, .int .i64 (tk : Int), .int .i64 most, out] 179 (0, 0))
variable {bf np pc tk : Nat} {pa : Option Addr} {most : Int} {out : Value}
theorem Fl.cell (h : Fl w bf pa np pc tk most out) (i : Nat) (v : Value) (hv : ([.slice pa np pc, .int .i64 (tk : Int), .int .i64 most, out] : List Value)[i]? = some v) : w.cell? ⟨bf, i, none⟩ = some v := by
  rw [cell_of_row w bf i _ _ _ h.hp]
  simpa using hv
theorem Fl.free (h : Fl w bf pa np pc tk most out) (i : Nat) : w.frozen? ⟨bf, i, none⟩ = false := cons_free h.hp i
theorem Fl.kp (h : Fl w bf pa np pc tk most out) (hk : Kp Q w w') (hn : ¬ Q bf) : Fl w' bf pa np pc tk most out := ⟨hk.heap h.hp hn⟩
end
end Go.Proofs.Ytboangeopbblnaa

namespace Go.Proofs.Ytboangeopbblnaa
open Go.RowKit
set_option linter.unusedVariables false
section
variable {w w' : World} {b g S : Nat} {L K L' K' : List Int} {H H' : List Bool} {t t' dl dd hd : Nat} {win lim nx : Int} {last : Bool} {Q : Nat → Prop} {bf np pc tk : Nat} {pa : Option Addr} {most : Int} {out : Value}
theorem below_box8' (w : World) (o : Obj) : Below w.heap.size w (w.alloc o) := (Below.refl _ _).alloc (Nat.le_refl _) _
end
end Go.Proofs.Ytboangeopbblnaa

namespace Go.Proofs.Ytboangeopbblnaa
set_option linter.unusedVariables false
structure Tok7 where
  lit : Int
  len : Int
  dist : Int
def may7 (t : Tok7) : Prop := if t.len = 0 then t.dist = 0 else 3 ≤ t.len ∧ t.len ≤ 258 ∧ 1 ≤ t.dist ∧ t.dist ≤ 32768 ∧ t.lit = 0
instance (t : Tok7) : Decidable (may7 t) := by unfold may7; infer_instance
def wid7 (t : Tok7) : Nat := if may7 t then (if t.len = 0 then 1 else t.len.toNat) else 0
def siz7 : List Tok7 → Nat
  | [] => 0
  | t :: r => wid7 t + siz7 r
def far7 (win : Int) (tot : Nat) (t : Tok7) : Prop := 0 < t.len ∧ (win < t.dist ∨ (tot : Int) < t.dist)
instance (win : Int) (tot : Nat) (t : Tok7) : Decidable (far7 win tot t) := by unfold far7; infer_instance
/-- The tokens are in order, where tot bytes stand ahead. -/
def ok7 (win : Int) : List Tok7 → Nat → Prop
  | [], _ => True
  | t :: r, tot => may7 t ∧ ¬ far7 win tot t ∧ ok7 win r (tot + wid7 t)
/-- n bytes, each the one that stands d ahead. -/
def cp7 (b : List Int) (d : Nat) : Nat → List Int
  | 0 => b
  | n + 1 => cp7 b d n ++ [(cp7 b d n).getD ((cp7 b d n).length - d) 0]
def tok7 (b : List Int) (t : Tok7) : List Int := if t.len = 0 then b ++ [t.lit] else cp7 b t.dist.toNat t.len.toNat
def exp7 (b : List Int) : List Tok7 → List Int
  | [] => b
  | t :: r => exp7 (tok7 b t) r
end Go.Proofs.Ytboangeopbblnaa

namespace Go.Proofs.Ytboangeopbblnaa
set_option linter.unusedVariables false
def alg7 (D : List Int) (q p : Nat) : Nat → Nat → Nat
  | 0, n => n
  | f + 1, n => if p + n < D.length ∧ D.getD (q + n) 0 = D.getD (p + n) 0 then alg7 D q p f (n + 1) else n
def al7 (D : List Int) (q p : Nat) : Nat := alg7 D q p 258 0
theorem alg7_same (D : List Int) (q p : Nat) : ∀ f n i, n ≤ i → i < alg7 D q p f n → p + i < D.length ∧ D.getD (q + i) 0 = D.getD (p + i) 0
  | 0, n, i, h1, h2 => by rw [alg7] at h2; omega
  | f + 1, n, i, h1, h2 => by
    rw [alg7] at h2
    split at h2
    · rename_i h
      by_cases e : i = n
      · subst e; exact h
      · exact alg7_same D q p f (n + 1) i (by omega) h2
    · omega
theorem al7_same {D : List Int} {q p i : Nat} (h : i < al7 D q p) : p + i < D.length ∧ D.getD (q + i) 0 = D.getD (p + i) 0 := alg7_same D q p 258 0 i (Nat.zero_le _) h
/-- A match that is there. -/
structure Mt7 (D : List Int) (p win n d : Nat) : Prop where
  n3 : 3 ≤ n
  n258 : n ≤ 258
  d1 : 1 ≤ d
  dw : d ≤ win
  dp : d ≤ p
  al : n ≤ al7 D (p - d) p
/-- These tokens are the bytes of D from p on, over this window. -/
def Tz7 (D : List Int) (win : Nat) : List Tok7 → Nat → Prop
  | [], p => p = D.length
  | t :: r, p => p < D.length ∧ ((t = ⟨D.getD p 0, 0, 0⟩ ∧ Tz7 D win r (p + 1)) ∨ ∃ n d : Nat, t = ⟨0, n, d⟩ ∧ Mt7 D p win n d ∧ Tz7 D win r (p + n))
theorem Mt7.fits {D : List Int} {p win n d : Nat} (h : Mt7 D p win n d) : p + n ≤ D.length := by
  have := (al7_same (D := D) (q := p - d) (p := p) (i := n - 1) (by have := h.al; have := h.n3; omega)).1
  have := h.n3
  omega
theorem getD_take7 (A : List Int) (j i : Nat) (h : i < j) : (A.take j).getD i 0 = A.getD i 0 := by simp [List.getD, h]
theorem take_succ7 (D : List Int) (p : Nat) (h : p < D.length) : D.take (p + 1) = D.take p ++ [D.getD p 0] := by
  rw [List.take_succ_eq_append_getElem h]; simp [List.getD, h]
theorem cp7_mt {D : List Int} {p win n d : Nat} (h : Mt7 D p win n d) : ∀ i, i ≤ n → cp7 (D.take p) d i = D.take (p + i)
  | 0, _ => rfl
  | i + 1, hi => by
    have h1 := h.fits
    have ih := cp7_mt h i (by omega)
    have hs := al7_same (D := D) (q := p - d) (p := p) (i := i) (by have := h.al; omega)
    rw [cp7, ih, show p + (i + 1) = p + i + 1 by omega, take_succ7 D (p + i) (by omega)]
    have hl : (D.take (p + i)).length = p + i := by rw [List.length_take]; omega
    have d1 := h.d1
    have dp := h.dp
    rw [hl, getD_take7 _ _ _ (by omega), ← hs.2, show p - d + i = p + i - d by omega]
theorem Mt7.wid {D : List Int} {p win n d : Nat} (h : Mt7 D p win n d) (hw : win ≤ 32768) : may7 ⟨0, n, d⟩ ∧ wid7 ⟨0, n, d⟩ = n := by
  have h1 := h.n3
  have h2 := h.n258
  have h3 := h.d1
  have h4 := h.dw
  have hm : may7 ⟨0, n, d⟩ := by
    unfold may7
    simp only
    rw [if_neg (by omega)]
    exact ⟨by omega, by omega, by omega, by omega, trivial⟩
  refine ⟨hm, ?_⟩
  unfold wid7
  rw [if_pos hm]
  simp only
  rw [if_neg (by omega)]
  omega
theorem lit7_wid (z : Int) : may7 ⟨z, 0, 0⟩ ∧ wid7 ⟨z, 0, 0⟩ = 1 := by
  have hm : may7 ⟨z, 0, 0⟩ := by unfold may7; simp
  refine ⟨hm, ?_⟩
  unfold wid7
  rw [if_pos hm]
  simp
theorem Tz7.all {D : List Int} {win : Nat} (hw : win ≤ 32768) : ∀ (l : List Tok7) (p : Nat), Tz7 D win l p → ok7 win l p ∧ exp7 (D.take p) l = D ∧ siz7 l = D.length - p ∧ l.length ≤ D.length - p
  | [], p, h => by
    rw [Tz7] at h
    subst h
    exact ⟨trivial, by rw [exp7, List.take_length], by simp [siz7], by simp⟩
  | t :: r, p, ⟨hp, h⟩ => by
    rcases h with ⟨rfl, h⟩ | ⟨n, d, rfl, hm, h⟩
    · obtain ⟨a1, a2, a3, a4⟩ := Tz7.all hw r (p + 1) h
      have hl := lit7_wid (D.getD p 0)
      refine ⟨⟨hl.1, by unfold far7; simp, by rw [hl.2]; exact a1⟩, ?_, by rw [siz7, hl.2, a3]; omega, by rw [List.length_cons]; omega⟩
      rw [exp7]
      unfold tok7
      simp only [if_true]
      rw [← take_succ7 D p hp]
      exact a2
    · obtain ⟨a1, a2, a3, a4⟩ := Tz7.all hw r (p + n) h
      have hl := hm.wid hw
      have h1 := hm.n3
      have h2 := hm.fits
      have h3 := hm.dw
      have h4 := hm.dp
      refine ⟨⟨hl.1, by unfold far7; simp only; omega, by rw [hl.2]; exact a1⟩, ?_, by rw [siz7, hl.2, a3]; omega, by rw [List.length_cons]; omega⟩
      rw [exp7]
      unfold tok7
      simp only
      rw [if_neg (by omega), Int.toNat_natCast, Int.toNat_natCast, cp7_mt hm n (Nat.le_refl _)]
      exact a2
end Go.Proofs.Ytboangeopbblnaa
