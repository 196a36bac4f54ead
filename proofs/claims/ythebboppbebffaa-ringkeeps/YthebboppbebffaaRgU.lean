
import Derived.Test.YthebboppbebffaaRgDo
namespace Go.Proofs.Ythebboppbebffaa
open Go.RowKit
set_option linter.unusedVariables false

/-! Last and Copy with and without an error, in one word each. -/
def lastX (S : Nat) (L : List Int) (n : Int) : List Int := if 0 ≤ n ∧ n ≤ (heldN S L : Int) then L.drop (L.length - n.toNat) else []
def lastE (S : Nat) (L : List Int) (n : Int) : Int := if 0 ≤ n ∧ n ≤ (heldN S L : Int) then 0 else 1
def copX (S : Nat) (L : List Int) (d n : Int) : List Int := if 0 ≤ n ∧ n ≤ 258 ∧ 1 ≤ d ∧ d ≤ (heldN S L : Int) then cpyO L d.toNat n.toNat else []
def copL (S : Nat) (L : List Int) (d n : Int) : List Int := if 0 ≤ n ∧ n ≤ 258 ∧ 1 ≤ d ∧ d ≤ (heldN S L : Int) then cpyA L d.toNat n.toNat else L
def copE (S : Nat) (L : List Int) (d n : Int) : Int := if 0 ≤ n ∧ n ≤ 258 ∧ 1 ≤ d ∧ d ≤ (heldN S L : Int) then 0 else if n < 0 ∨ 258 < n then 1 else 61
theorem heldN_le (S : Nat) (L : List Int) : heldN S L ≤ L.length := by unfold heldN; omega
theorem lastX_bd {S : Nat} {L : List Int} {n : Int} (h : ∀ z ∈ L, 0 ≤ z ∧ z ≤ 255) : ∀ z ∈ lastX S L n, 0 ≤ z ∧ z ≤ 255 := by
  unfold lastX
  split
  · exact fun z hz => h z (List.mem_of_mem_drop hz)
  · intro z hz; cases hz
theorem lastX_le (S : Nat) (L : List Int) (n : Int) : (lastX S L n).length ≤ L.length := by
  unfold lastX
  split
  · rw [List.length_drop]; omega
  · simp
theorem copL_len (S : Nat) (L : List Int) (d n : Int) : (copL S L d n).length ≤ L.length + 258 := by
  unfold copL
  split
  · rename_i h; rw [cpyA_len]; omega
  · omega
theorem copX_len (S : Nat) (L : List Int) (d n : Int) : (copX S L d n).length ≤ 258 := by
  unfold copX
  split
  · rename_i h; rw [cpyO_len]; omega
  · simp
theorem copX_bd {S : Nat} {L : List Int} {d n : Int} (h : ∀ z ∈ copL S L d n, 0 ≤ z ∧ z ≤ 255) : ∀ z ∈ copX S L d n, 0 ≤ z ∧ z ≤ 255 := by
  unfold copX
  split
  · rename_i hc
    intro z hz
    refine h z ?_
    unfold copL
    rw [if_pos hc]
    exact List.mem_of_mem_drop hz
  · intro z hz; cases hz
def LastU (w : World) (X : List Int) (E : Int) (e : Ending) (w' : World) : Prop := ∃ oa oc, e = .returned (.tuple #[.slice oa X.length oc, .int .i64 E]) ∧ w'.ownsRow w.heap.size 5 1 (.slice oa X.length oc) X.length (X.map (Value.int .u8)) ∧ Below w.heap.size w w'
theorem plast_u {w : World} {b S : Nat} {F : Nat → Prop} {L : List Int} (n : Int) (h : RP w b F S L) (hl : L.length ≤ 70368744177664) :
    Calls Try.prog 19 #[.pointer (some ⟨b, 0, none⟩), .int .i64 n] w fun e w' => LastU w (lastX S L n) (lastE S L n) e w' := by
  by_cases hc : 0 ≤ n ∧ n ≤ (heldN S L : Int)
  · obtain ⟨N, rfl⟩ : ∃ N : Nat, n = N := ⟨n.toNat, by omega⟩
    have e1 : lastX S L N = L.drop (L.length - N) := by unfold lastX; rw [if_pos hc, Int.toNat_natCast]
    have e2 : lastE S L N = 0 := by unfold lastE; rw [if_pos hc]
    have e3 : (L.drop (L.length - N)).length = N := by rw [List.length_drop]; have := heldN_le S L; omega
    rw [e1, e2]
    refine (plast_ok N h (by omega) (by omega)).mono ?_
    rintro e w' ⟨oa, oc, rfl, h1, h2⟩
    exact ⟨oa, oc, by rw [e3], by rw [e3]; exact h1, h2⟩
  · have e1 : lastX S L n = [] := by unfold lastX; rw [if_neg hc]
    have e2 : lastE S L n = 1 := by unfold lastE; rw [if_neg hc]
    rw [e1, e2]
    refine (plast_no n h (by omega) (by omega)).mono ?_
    rintro e w' ⟨rfl, h2⟩
    exact ⟨none, 0, rfl, World.ownsRow_nil _ _ _ _, h2⟩
theorem wlast_u {w : World} {b S : Nat} {F : Nat → Prop} {L : List Int} (n : Int) (h : WR w b F S L) (hl : L.length ≤ 70368744177664) (hS : S ≤ 32768) :
    Calls Try.prog 30 #[.pointer (some ⟨b, 0, none⟩), .int .i64 n] w fun e w' => LastU w (lastX S L n) (lastE S L n) e w' := by
  by_cases hc : 0 ≤ n ∧ n ≤ (heldN S L : Int)
  · obtain ⟨N, rfl⟩ : ∃ N : Nat, n = N := ⟨n.toNat, by omega⟩
    have e1 : lastX S L N = L.drop (L.length - N) := by unfold lastX; rw [if_pos hc, Int.toNat_natCast]
    have e2 : lastE S L N = 0 := by unfold lastE; rw [if_pos hc]
    have e3 : (L.drop (L.length - N)).length = N := by rw [List.length_drop]; have := heldN_le S L; omega
    rw [e1, e2]
    refine (wlast_ok N h hl hS (by omega)).mono ?_
    rintro e w' ⟨oa, oc, rfl, h1, h2⟩
    exact ⟨oa, oc, by rw [e3], by rw [e3]; exact h1, h2⟩
  · have e1 : lastX S L n = [] := by unfold lastX; rw [if_neg hc]
    have e2 : lastE S L n = 1 := by unfold lastE; rw [if_neg hc]
    rw [e1, e2]
    refine (wlast_no n h (by omega) hS (by omega)).mono ?_
    rintro e w' ⟨rfl, h2⟩
    exact ⟨none, 0, rfl, World.ownsRow_nil _ _ _ _, h2⟩
def CopU (P : World → Nat → (Nat → Prop) → Nat → List Int → Prop) (w : World) (b S : Nat) (F : Nat → Prop) (X L' : List Int) (E : Int) (e : Ending) (w' : World) : Prop := ∃ oa oc F', e = .returned (.tuple #[.slice oa X.length oc, .int .i64 E]) ∧ w'.ownsRow w.heap.size 5 1 (.slice oa X.length oc) X.length (X.map (Value.int .u8)) ∧ P w' b F' S L' ∧ Kp F w w' ∧ FrP w F F' ∧ Dj (OB (.slice oa X.length oc)) F'
theorem pcopy_u {w : World} {b S : Nat} {F : Nat → Prop} {L : List Int} (d n : Int) (h : RP w b F S L) (hl : L.length ≤ 70368744177664) :
    Calls Try.prog 18 #[.pointer (some ⟨b, 0, none⟩), .int .i64 d, .int .i64 n] w fun e w' => CopU RP w b S F (copX S L d n) (copL S L d n) (copE S L d n) e w' := by
  by_cases hc : 0 ≤ n ∧ n ≤ 258 ∧ 1 ≤ d ∧ d ≤ (heldN S L : Int)
  · obtain ⟨N, rfl⟩ : ∃ N : Nat, n = N := ⟨n.toNat, by omega⟩
    obtain ⟨D, rfl⟩ : ∃ D : Nat, d = D := ⟨d.toNat, by omega⟩
    have e1 : copX S L D N = cpyO L D N := by unfold copX; rw [if_pos hc, Int.toNat_natCast, Int.toNat_natCast]
    have e2 : copL S L D N = cpyA L D N := by unfold copL; rw [if_pos hc, Int.toNat_natCast, Int.toNat_natCast]
    have e3 : copE S L D N = 0 := by unfold copE; rw [if_pos hc]
    have e4 := cpyO_len L D N
    rw [e1, e2, e3]
    refine (pcopy_ok D N h (by omega) hc).mono ?_
    rintro e w' ⟨oa, oc, F', rfl, h1, h2, h3, h4, h5⟩
    exact ⟨oa, oc, F', by rw [e4], by rw [e4]; exact h1, h2, h3, h4, by rw [e4]; exact h5⟩
  · have e1 : copX S L d n = [] := by unfold copX; rw [if_neg hc]
    have e2 : copL S L d n = L := by unfold copL; rw [if_neg hc]
    have e3 : copE S L d n = if n < 0 ∨ 258 < n then 1 else 61 := by unfold copE; rw [if_neg hc]
    rw [e1, e2, e3]
    refine (pcopy_no d n h (by omega) hc).mono ?_
    rintro e w' ⟨rfl, h2⟩
    exact ⟨none, 0, F, rfl, World.ownsRow_nil _ _ _ _, h.old h2, Kp.of_below h2, fun k e => .inl e, fun k e => by cases e⟩
theorem wcopy_u {w : World} {b S : Nat} {F : Nat → Prop} {L : List Int} (d n : Int) (h : WR w b F S L) (hl : L.length ≤ 70368744177664) (hS : S ≤ 32768) :
    Calls Try.prog 28 #[.pointer (some ⟨b, 0, none⟩), .int .i64 d, .int .i64 n] w fun e w' => CopU WR w b S F (copX S L d n) (copL S L d n) (copE S L d n) e w' := by
  by_cases hc : 0 ≤ n ∧ n ≤ 258 ∧ 1 ≤ d ∧ d ≤ (heldN S L : Int)
  · obtain ⟨N, rfl⟩ : ∃ N : Nat, n = N := ⟨n.toNat, by omega⟩
    obtain ⟨D, rfl⟩ : ∃ D : Nat, d = D := ⟨d.toNat, by omega⟩
    have e1 : copX S L D N = cpyO L D N := by unfold copX; rw [if_pos hc, Int.toNat_natCast, Int.toNat_natCast]
    have e2 : copL S L D N = cpyA L D N := by unfold copL; rw [if_pos hc, Int.toNat_natCast, Int.toNat_natCast]
    have e3 : copE S L D N = 0 := by unfold copE; rw [if_pos hc]
    have e4 := cpyO_len L D N
    rw [e1, e2, e3]
    refine (wcopy_ok D N h hl hS hc).mono ?_
    rintro e w' ⟨oa, oc, F', rfl, h1, h2, h3, h4, h5⟩
    exact ⟨oa, oc, F', by rw [e4], by rw [e4]; exact h1, h2, h3, h4, by rw [e4]; exact h5⟩
  · have e1 : copX S L d n = [] := by unfold copX; rw [if_neg hc]
    have e2 : copL S L d n = L := by unfold copL; rw [if_neg hc]
    have e3 : copE S L d n = if n < 0 ∨ 258 < n then 1 else 61 := by unfold copE; rw [if_neg hc]
    rw [e1, e2, e3]
    refine (wcopy_no d n h (by omega) hS hc).mono ?_
    rintro e w' ⟨rfl, h2⟩
    exact ⟨none, 0, F, rfl, World.ownsRow_nil _ _ _ _, h.old h2, Kp.of_below h2, fun k e => .inl e, fun k e => by cases e⟩
end Go.Proofs.Ythebboppbebffaa
