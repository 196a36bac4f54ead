import Derived.Test.YtboangeopbblnaaPj
import Derived.Test.YtboangeopbblnaaPi
import Derived.Test.YtboangeopbblnaaProg
import Derived.WalkKit
import Derived.WalkSpells
import Derived.Test.YtboangeopbblnaaPc
import Derived.Test.YtboangeopbblnaaPb
import Derived.Laws.AppendOwnNone
import Derived.Deep.QuietTactic
import Derived.BigQuiet
import Derived.Deep.RegionHeld3
namespace Go.Proofs.Ytboangeopbblnaa
open Go.RowKit
set_option linter.unusedVariables false
/-- Where a symbol stands in the order of the codes. -/
def pos (zs : List Int) (s : Nat) : Nat := cS zs (ln zs s) + rk zs s
theorem pos_lt {zs : List Int} (h : LOk zs) {s : Nat} (hs : s < zs.length) (h0 : zs.getD s 0 ≠ 0) : pos zs s < cS zs (ln zs s + 1) := by
  unfold pos
  rw [cS_succ]
  have := rk_lt_c h hs h0
  omega
theorem pos_tot {zs : List Int} (h : LOk zs) {s : Nat} (hs : s < zs.length) (h0 : zs.getD s 0 ≠ 0) : pos zs s < tot zs :=
  Nat.lt_of_lt_of_le (pos_lt h hs h0) (cS_mono zs (by have := (h.ln s).2; omega))
theorem pos_inj {zs : List Int} (h : LOk zs) {s t : Nat} (hs : s < zs.length) (ht : t < zs.length) (h0 : zs.getD s 0 ≠ 0) (t0 : zs.getD t 0 ≠ 0) (he : pos zs s = pos zs t) : s = t := by
  have a1 := pos_lt h hs h0
  have a2 := pos_lt h ht t0
  have b1 : cS zs (ln zs s) ≤ pos zs s := by unfold pos; omega
  have b2 : cS zs (ln zs t) ≤ pos zs t := by unfold pos; omega
  rcases Nat.lt_trichotomy (ln zs s) (ln zs t) with c | c | c
  · have := cS_mono zs (a := ln zs s + 1) (b := ln zs t) c; omega
  · refine rk_inj hs ht ?_ ?_
    · rw [(h.ln s).1, (h.ln t).1, c]
    · unfold pos at he
      rw [c] at he
      omega
  · have := cS_mono zs (a := ln zs t + 1) (b := ln zs s) c; omega
theorem SymOk.put {zs S : List Int} {j : Nat} (h : LOk zs) (hS : S.length = 288) (hk : SymOk zs S j) (hj : j < zs.length) (h0 : zs.getD j 0 ≠ 0) (ht : tot zs ≤ 288) : SymOk zs (S.set (pos zs j) (j : Int)) (j + 1) := by
  intro s hs hs0
  have hp : pos zs j < S.length := by have := pos_tot h hj h0; omega
  show (S.set (pos zs j) (j : Int)).getD (pos zs s) 0 = (s : Int)
  by_cases e : s = j
  · subst e
    simp [List.getD, hp]
  · have := hk s (by omega) hs0
    have hne : pos zs j ≠ pos zs s := fun he => e (pos_inj h (by omega) hj hs0 h0 he.symm)
    have h2 : S.getD (pos zs s) 0 = (s : Int) := this
    rw [← h2]
    simp [List.getD, hne]
theorem SymOk.skip {zs S : List Int} {j : Nat} (hk : SymOk zs S j) (h0 : zs.getD j 0 = 0) : SymOk zs S (j + 1) := by
  intro s hs hs0
  by_cases e : s = j
  · subst e; exact absurd h0 hs0
  · exact hk s (by omega) hs0
end Go.Proofs.Ytboangeopbblnaa

namespace Go.Proofs.Ytboangeopbblnaa
open Go.RowKit
set_option linter.unusedVariables false
/-- A Reader in a block of its own: the bits that it holds, and how many are gone. -/
structure Rd (w : World) (b : Nat) (H : List Bool) (t : Nat) : Prop where
  hp : w.heap[b]? = some (.cells #[.int .u64 (num H : Int), .int .i64 (H.length : Int), .int .i64 (t : Int)] 107 (0, 0))
  le : H.length ≤ 64
theorem Rd.b_lt {w : World} {b : Nat} {H : List Bool} {t : Nat} (h : Rd w b H t) : b < w.heap.size := (Array.getElem?_eq_some_iff.1 h.hp).1
theorem Rd.kp {w w' : World} {b : Nat} {H : List Bool} {t : Nat} {S : Nat → Prop} (h : Rd w b H t) (hk : Kp S w w') (hn : ¬ S b) : Rd w' b H t := ⟨hk.heap h.hp hn, h.le⟩
theorem Rd.fits {w : World} {b : Nat} {H : List Bool} {t : Nat} (h : Rd w b H t) : num H < 18446744073709551616 := Nat.lt_of_lt_of_le (num_lt H) (pow_le_64 h.le)
theorem Rd.new {w : World} {b : Nat} (h : w.heap[b]? = some (.cells #[.int .u64 0, .int .i64 0, .int .i64 0] 107 (0, 0))) : Rd w b [] 0 := ⟨h, by simp⟩

/-- Are so many bits there, for one call? -/
def there (H : List Bool) (n : Int) : Bool := decide (0 ≤ n ∧ n ≤ 56 ∧ n ≤ H.length)
end Go.Proofs.Ytboangeopbblnaa

namespace Go.Proofs.Ytboangeopbblnaa
open Go.RowKit
set_option linter.unusedVariables false
/-- The first bits as a code: the first the highest. -/
def vB (H : List Bool) (l : Nat) : Nat := num (H.take l).reverse
/-- The bits begin with this symbol's code. -/
def Beg (zs : List Int) (H : List Bool) (s : Nat) : Prop := s < zs.length ∧ zs.getD s 0 ≠ 0 ∧ ln zs s ≤ H.length ∧ vB H (ln zs s) = cd zs s
/-- The bits are the beginning of some code, and not the whole of it. -/
def May (zs : List Int) (H : List Bool) : Prop := ∃ s, s < zs.length ∧ zs.getD s 0 ≠ 0 ∧ H.length < ln zs s ∧ cd zs s / 2 ^ (ln zs s - H.length) = vB H H.length
end Go.Proofs.Ytboangeopbblnaa

namespace Go.Proofs.Ytboangeopbblnaa
open Go.RowKit
set_option linter.unusedVariables false
section
variable {o : Nat} {T : TypeId} {P S : List Value}
theorem mid_cell0 {w : World} {b : Nat} {x y z : Value} (ho : P.length = o) (h : w.heap[b]? = some (.cells (P ++ x :: y :: z :: S).toArray T (0, 0))) : w.cell? ⟨b, o, none⟩ = some x := by
  subst ho
  rw [cell_of_row w b _ _ _ _ h]
  simp
theorem mid_cell1 {w : World} {b : Nat} {x y z : Value} (ho : P.length = o) (h : w.heap[b]? = some (.cells (P ++ x :: y :: z :: S).toArray T (0, 0))) : w.cell? ⟨b, o + 1, none⟩ = some y := by
  subst ho
  rw [cell_of_row w b _ _ _ _ h]
  simp
theorem mid_cell2 {w : World} {b : Nat} {x y z : Value} (ho : P.length = o) (h : w.heap[b]? = some (.cells (P ++ x :: y :: z :: S).toArray T (0, 0))) : w.cell? ⟨b, o + 2, none⟩ = some z := by
  subst ho
  rw [cell_of_row w b _ _ _ _ h]
  simp
theorem mid_free {w : World} {b : Nat} {c : Array Value} (h : w.heap[b]? = some (.cells c T (0, 0))) (i : Nat) : w.frozen? ⟨b, i, none⟩ = false := by simp [World.frozen?, h]
theorem mid_set {w : World} {b i : Nat} {c : Array Value} (h : w.heap[b]? = some (.cells c T (0, 0))) (u : Value) : (w.setCell ⟨b, i, none⟩ u).heap[b]? = some (.cells (c.setIfInBounds i u) T (0, 0)) := by
  simp [World.setCell, Array.getElem?_modify, h]
/-- The bits that it holds, and how many are gone. -/
structure RdO (o : Nat) (T : TypeId) (P S : List Value) (w : World) (b : Nat) (H : List Bool) (t : Nat) : Prop where
  hp : w.heap[b]? = some (.cells (P ++ .int .u64 (num H : Int) :: .int .i64 (H.length : Int) :: .int .i64 (t : Int) :: S).toArray T (0, 0))
  le : H.length ≤ 64
  ho : P.length = o
theorem RdO.c0 {w : World} {b : Nat} {H : List Bool} {t : Nat} (h : RdO o T P S w b H t) : w.cell? ⟨b, o, none⟩ = some (.int .u64 (num H : Int)) := mid_cell0 h.ho h.hp
theorem RdO.c1 {w : World} {b : Nat} {H : List Bool} {t : Nat} (h : RdO o T P S w b H t) : w.cell? ⟨b, o + 1, none⟩ = some (.int .i64 (H.length : Int)) := mid_cell1 h.ho h.hp
theorem RdO.c2 {w : World} {b : Nat} {H : List Bool} {t : Nat} (h : RdO o T P S w b H t) : w.cell? ⟨b, o + 2, none⟩ = some (.int .i64 (t : Int)) := mid_cell2 h.ho h.hp
theorem RdO.free {w : World} {b : Nat} {H : List Bool} {t : Nat} (h : RdO o T P S w b H t) (i : Nat) : w.frozen? ⟨b, i, none⟩ = false := mid_free h.hp i
theorem RdO.b_lt {w : World} {b : Nat} {H : List Bool} {t : Nat} (h : RdO o T P S w b H t) : b < w.heap.size := (Array.getElem?_eq_some_iff.1 h.hp).1
theorem RdO.kp {w w' : World} {b : Nat} {H : List Bool} {t : Nat} {X : Nat → Prop} (h : RdO o T P S w b H t) (hk : Kp X w w') (hn : ¬ X b) : RdO o T P S w' b H t := ⟨hk.heap h.hp hn, h.le, h.ho⟩
theorem RdO.fits {w : World} {b : Nat} {H : List Bool} {t : Nat} (h : RdO o T P S w b H t) : num H < 18446744073709551616 := Nat.lt_of_lt_of_le (num_lt H) (pow_le_64 h.le)

end
end Go.Proofs.Ytboangeopbblnaa

namespace Go.Proofs.Ytboangeopbblnaa
open Go.RowKit
set_option linter.unusedVariables false
structure RgA (w : World) (b B S : Nat) (a : Option Addr) (cap : Nat) (L : List Int) : Prop where
  hp : w.heap[b]? = some (.cells #[.int .i64 (S : Int), .slice a L.length cap] 179 (0, 0))
  own : w.ownsRow B 5 1 (.slice a L.length cap) L.length (L.map (Value.int .u8))
  ne : (Value.slice a L.length cap).ownBlock ≠ some b
  bB : B ≤ w.heap.size
  bd : ∀ z ∈ L, 0 ≤ z ∧ z ≤ 255
def RgR (w : World) (b B S : Nat) (v : Value) (L : List Int) : Prop := ∃ a cap, v = .slice a L.length cap ∧ RgA w b B S a cap L
variable {w w' : World} {b B S : Nat} {v : Value} {L : List Int} {a : Option Addr} {cap : Nat}
theorem RgA.b_lt (h : RgA w b B S a cap L) : b < w.heap.size := (Array.getElem?_eq_some_iff.1 h.hp).1
theorem RgR.b_lt (h : RgR w b B S v L) : b < w.heap.size := by
  obtain ⟨a, c, rfl, h⟩ := h
  exact h.b_lt
theorem RgR.own_lt (h : RgR w b B S v L) : ∀ k, v.ownBlock = some k → B ≤ k ∧ k < w.heap.size ∧ k ≠ b := by
  obtain ⟨a, c, rfl, h⟩ := h
  intro k e
  have := h.own.lt k e
  exact ⟨this.1, this.2, fun e2 => h.ne (by rw [e, e2])⟩
theorem RgR.kp {Q : Nat → Prop} (h : RgR w b B S v L) (hk : Kp Q w w') (h1 : ¬ Q b) (h2 : ∀ k, v.ownBlock = some k → ¬ Q k) : RgR w' b B S v L := by
  obtain ⟨a, c, rfl, h⟩ := h
  exact ⟨a, c, rfl, hk.heap h.hp h1, own_kp h.own hk h2, h.ne, Nat.le_trans h.bB hk.size, h.bd⟩
theorem RgR.old (h : RgR w b B S v L) (hb : Below w.heap.size w w') : RgR w' b B S v L := h.kp (Q := fun _ => False) (Kp.of_below hb) (by simp) (by simp)
theorem RgR.bd (h : RgR w b B S v L) : ∀ z ∈ L, 0 ≤ z ∧ z ≤ 255 := by
  obtain ⟨a, c, rfl, h⟩ := h
  exact h.bd
end Go.Proofs.Ytboangeopbblnaa

namespace Go.Proofs.Ytboangeopbblnaa
open Go.RowKit
set_option linter.unusedVariables false
theorem info_u8r : (Try.prog.info? 5).map (fun i => (i.zero, i.size, i.bytes)) = some (some (.int .u8 0), 1, 1) := by kernel_rfl
end Go.Proofs.Ytboangeopbblnaa
