
import Derived.Test.YthebboppbebffaaProg
import Derived.WalkKit
import Derived.WalkSpells
import Derived.Test.YthebboppbebffaaBtMem
import Derived.Test.YthebboppbebffaaPush
import Derived.Deep.QuietTactic
import Derived.BigQuiet
import Derived.Deep.RegionHeld3
namespace Go.Proofs.Ythebboppbebffaa
open Go.RowKit
set_option linter.unusedVariables false

/-! The document's ring (sapperref06): all bytes that were put in. -/
structure RgA (w : World) (b B S : Nat) (a : Option Addr) (cap : Nat) (L : List Int) : Prop where
  hp : w.heap[b]? = some (.cells #[.int .i64 (S : Int), .slice a L.length cap] 59 (0, 0))
  own : w.ownsRow B 5 1 (.slice a L.length cap) L.length (L.map (Value.int .u8))
  ne : (Value.slice a L.length cap).ownBlock ≠ some b
  bB : B ≤ w.heap.size
  bd : ∀ z ∈ L, 0 ≤ z ∧ z ≤ 255
def RgR (w : World) (b B S : Nat) (v : Value) (L : List Int) : Prop := ∃ a cap, v = .slice a L.length cap ∧ RgA w b B S a cap L
variable {w w' : World} {b B S : Nat} {v : Value} {L : List Int} {a : Option Addr} {cap : Nat}
theorem RgA.b_lt (h : RgA w b B S a cap L) : b < w.heap.size := (Array.getElem?_eq_some_iff.1 h.hp).1
theorem RgR.b_lt (h : RgR w b B S v L) : b < w.heap.size := by
  obtain ⟨a, c, rfl, h⟩ := h
  exact h.b_lt
theorem RgR.own_lt (h : RgR w b B S v L) : ∀ k, v.ownBlock = some k → B ≤ k ∧ k < w.heap.size ∧ k ≠ b := by
  obtain ⟨a, c, rfl, h⟩ := h
  intro k e
  have := h.own.lt k e
  exact ⟨this.1, this.2, fun e2 => h.ne (by rw [e, e2])⟩
theorem RgR.kp {Q : Nat → Prop} (h : RgR w b B S v L) (hk : Kp Q w w') (h1 : ¬ Q b) (h2 : ∀ k, v.ownBlock = some k → ¬ Q k) : RgR w' b B S v L := by
  obtain ⟨a, c, rfl, h⟩ := h
  exact ⟨a, c, rfl, hk.heap h.hp h1, own_kp h.own hk h2, h.ne, Nat.le_trans h.bB hk.size, h.bd⟩
theorem RgR.old (h : RgR w b B S v L) (hb : Below w.heap.size w w') : RgR w' b B S v L := h.kp (Q := fun _ => False) (Kp.of_below hb) (by simp) (by simp)
theorem RgR.bd (h : RgR w b B S v L) : ∀ z ∈ L, 0 ≤ z ∧ z ≤ 255 := by
  obtain ⟨a, c, rfl, h⟩ := h
  exact h.bd
theorem RgR.new {w : World} {b B S : Nat} (h : w.heap[b]? = some (.cells #[.int .i64 (S : Int), .slice none 0 0] 59 (0, 0))) (hB : B ≤ w.heap.size) : RgR w b B S (.slice none 0 0) [] :=
  ⟨none, 0, rfl, h, World.ownsRow_nil _ _ _ _, by simp [Value.ownBlock], hB, by simp⟩

set_option maxRecDepth 100000 in
theorem rnew6_no (s : Int) (h : s < 1 ∨ 32768 < s) (w : World) :
    Calls Try.prog 12 #[.int .i64 s] w fun e w' => e = .returned (.tuple #[.pointer none, .int .i64 60]) ∧ w' = w := by
  by_cases h1 : s < 1
  · go_enter Try.func12, Try.ntmps12
    go_wp2_with fail
    go_ret2
    exact ⟨rfl, rfl⟩
  · have h2 : 32768 < s := by omega
    go_enter Try.func12, Try.ntmps12
    go_wp2_with fail
    go_ret2
    exact ⟨rfl, rfl⟩
set_option maxRecDepth 100000 in
theorem rnew6_ok (S : Nat) (h1 : 1 ≤ S) (h2 : S ≤ 32768) (w : World) :
    Calls Try.prog 12 #[.int .i64 (S : Int)] w fun e w' => e = .returned (.tuple #[.pointer (some ⟨w.heap.size, 0, none⟩), .int .i64 0]) ∧ w' = w.alloc (.cells #[.int .i64 (S : Int), .slice none 0 0] 59) := by
  have h1i : ¬ (S : Int) < 1 := by omega
  have h2i : ¬ (32768 : Int) < (S : Int) := by omega
  go_enter Try.func12, Try.ntmps12
  go_wp2_with fail
  go_ret2
  exact ⟨rfl, rfl⟩
set_option maxRecDepth 100000 in
set_option maxHeartbeats 1000000 in
theorem rheld6_any (b B S : Nat) (v : Value) (L : List Int) (w : World) (h : RgR w b B S v L) (hl : L.length ≤ 4611686018427387904) (hS : S ≤ 32768) :
    Calls Try.prog 25 #[.pointer (some ⟨b, 0, none⟩)] w fun e w' => e = .returned (.int .i64 ((min L.length S : Nat) : Int)) ∧ Below w.heap.size w w' := by
  obtain ⟨a, cap, rfl, h⟩ := h
  have c0 : w.cell? ⟨b, 0, none⟩ = some (.int .i64 (S : Int)) := two_cell0 h.hp
  have c1 : w.cell? ⟨b, 1, none⟩ = some (.slice a L.length cap) := two_cell1 h.hp
  obtain ⟨n, hn⟩ : ∃ n, n = L.length := ⟨_, rfl⟩
  have HN : Hid (L.length = n) := hn.symm
  rw [← hn] at c1 hl ⊢
  clear hn h
  by_cases hlt : n < S
  · have hlti : (n : Int) < (S : Int) := by omega
    have HM : Hid (min n S = n) := by show _ = _; omega
    go_enter Try.func25, Try.ntmps25
    go_wp2_with fail
    go_quiet (fail)
    go_wp2
    go_ret
    exact ⟨by rw [HM.out]; rfl, ⟨rfl, rfl, rfl, Nat.le_refl _, fun _ _ => rfl⟩⟩
  · have hlti : ¬ (n : Int) < (S : Int) := by omega
    have HM : Hid (min n S = S) := by show _ = _; omega
    go_enter Try.func25, Try.ntmps25
    go_wp2_with fail
    go_quiet (fail)
    go_wp2
    go_ret
    exact ⟨by rw [HM.out]; rfl, ⟨rfl, rfl, rfl, Nat.le_refl _, fun _ _ => rfl⟩⟩
/-- How many bytes are held. -/
def heldN (S : Nat) (L : List Int) : Nat := min L.length S
def atV (S : Nat) (L : List Int) (d : Int) : Int := if 1 ≤ d ∧ d ≤ (heldN S L : Int) then L.getD (L.length - d.toNat) 0 else 0
def atE (S : Nat) (L : List Int) (d : Int) : Int := if 1 ≤ d ∧ d ≤ (heldN S L : Int) then 0 else 61
set_option maxRecDepth 100000 in
set_option maxHeartbeats 1000000 in
theorem rat6_any (b B S : Nat) (v : Value) (L : List Int) (d : Int) (w : World) (h : RgR w b B S v L) (hl : L.length ≤ 4611686018427387904) (hS : S ≤ 32768) :
    Calls Try.prog 27 #[.pointer (some ⟨b, 0, none⟩), .int .i64 d] w fun e w' => e = .returned (.tuple #[.int .u8 (atV S L d), .int .i64 (atE S L d)]) ∧ Below w.heap.size w w' := by
  have CH := rheld6_any b B S v L w h hl hS
  by_cases h1 : d < 1
  · have HV : Hid (atV S L d = 0 ∧ atE S L d = 61) := ⟨by unfold atV; rw [if_neg (by omega)], by unfold atE; rw [if_neg (by omega)]⟩
    go_enter Try.func27, Try.ntmps27
    go_wp2_with fail
    go_ret2
    exact ⟨by rw [HV.out.1, HV.out.2]; rfl, Below.refl _ _⟩
  · by_cases h2 : (heldN S L : Int) < d
    · have HV : Hid (atV S L d = 0 ∧ atE S L d = 61) := ⟨by unfold atV; rw [if_neg (by omega)], by unfold atE; rw [if_neg (by omega)]⟩
      have HH : Hid ((min L.length S : Nat) = heldN S L) := rfl
      rw [HH.out] at CH
      generalize heldN S L = hN at *
      go_enter Try.func27, Try.ntmps27
      go_wp2_with fail
      refine CH.mono ?_
      rintro e w1 ⟨rfl, B1⟩
      go_wp2_with fail
      go_ret2
      exact ⟨by rw [HV.out.1, HV.out.2]; rfl, B1⟩
    · obtain ⟨D, rfl⟩ : ∃ D : Nat, d = D := ⟨d.toNat, by omega⟩
      have HV : Hid (atV S L D = L.getD (L.length - D) 0 ∧ atE S L D = 0) := ⟨by unfold atV; rw [if_pos (by omega), Int.toNat_natCast], by unfold atE; rw [if_pos (by omega)]⟩
      have HH : Hid ((min L.length S : Nat) = heldN S L) := rfl
      have hDl : D ≤ L.length := by have : heldN S L ≤ L.length := by unfold heldN; omega
                                    omega
      have hD1 : 1 ≤ D := by omega
      rw [HH.out] at CH
      have HR : Hid (RgR w b B S v L) := h
      generalize heldN S L = hN at *
      go_enter Try.func27, Try.ntmps27
      go_wp2_with fail
      refine CH.mono ?_
      rintro e w1 ⟨rfl, B1⟩
      obtain ⟨a, cap, rfl, hA⟩ := (show RgR w b B S v L from HR.out).old B1
      have c1 : w1.cell? ⟨b, 1, none⟩ = some (.slice a L.length cap) := two_cell1 hA.hp
      obtain ⟨_, a', cap', hv, sg, _, hcp, _⟩ := own_seg hA.own (M := 255) (by decide) hA.bd
      cases hv
      obtain ⟨g, off, rfl, cc⟩ := sg.at_ (L.length - D) (by omega)
      obtain ⟨j, hj⟩ : ∃ j, j = L.length - D := ⟨_, rfl⟩
      rw [← hj] at cc HV
      obtain ⟨n, hn⟩ : ∃ n, n = L.length := ⟨_, rfl⟩
      rw [← hn] at c1 hl hj hDl
      have hjI : (n : Int) - (D : Int) = (j : Int) := by omega
      have hjn : (j : Int) < (n : Int) := by omega
      generalize L.getD j 0 = z at *
      clear CH hA sg hj hn HH
      go_wp2_with fail
      go_quiet (fail)
      go_wp2
      go_ret2
      exact ⟨by rw [HV.out.1, HV.out.2]; rfl, ⟨B1.os, B1.tape, B1.output, B1.size, B1.block⟩⟩
end Go.Proofs.Ythebboppbebffaa
