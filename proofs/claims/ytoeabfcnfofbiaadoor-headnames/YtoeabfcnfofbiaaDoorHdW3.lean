
import Derived.Test.YtoeabfcnfofbiaaDoorHdW1
import Derived.Test.YtoeabfcnfofbiaaDoorHdW2
import Derived.Test.YtoeabfcnfofbiaaDoorHdZ
import Derived.Test.YtoeabfcnfofbiaaDoorLnLen3
import Derived.Test.YtoeabfcnfofbiaaDoorCdA
namespace Go.Proofs.YtoeabfcnfofbiaaDoor
open Go.RowKit
set_option linter.unusedVariables false

/-! What is laid down of a head, as mathematics; the landed head: planned. -/
def rw8 (lit dist : List Int) : List Int := sht8 lit 257 ++ sht8 dist 1
def rs8 (lit dist : List Int) : List Rn8 := runs8 (rw8 lit dist)
def fr8 (lit dist : List Int) : List Int := tly8 (rs8 lit dist)
def sz8 (lit dist : List Int) : List Int := lensL 7 (fr8 lit dist)
theorem sht8_mem {zs : List Int} {k : Nat} (h : ∀ z ∈ zs, 0 ≤ z ∧ z ≤ 15) : ∀ z ∈ sht8 zs k, 0 ≤ z ∧ z ≤ 15 := by
  intro z hz
  unfold sht8 at hz
  rcases List.mem_append.1 hz with hz | hz
  · exact h z (List.mem_of_mem_take hz)
  · rw [List.eq_of_mem_replicate hz]; omega
theorem sht8_len {zs : List Int} {k m : Nat} (h : zs.length ≤ m) (hk : k ≤ m) : k ≤ (sht8 zs k).length ∧ (sht8 zs k).length ≤ m := by
  unfold sht8
  have := cut8_le zs zs.length
  rw [List.length_append, List.length_take, List.length_replicate]
  omega
theorem tld8_ok {lit dist : List Int} (h : tld8 errC lit dist) : LOk lit ∧ LOk dist ∧ may8 (rw8 lit dist) ∧ (257 ≤ (sht8 lit 257).length ∧ (sht8 lit 257).length ≤ 286) ∧ (1 ≤ (sht8 dist 1).length ∧ (sht8 dist 1).length ≤ 30) := by
  obtain ⟨h1, h2, h3, h4, h5, h6⟩ := h
  have a := (errS_zero (errC_zero h4).1).2
  have b := (errS_zero (errC_zero h5).1).2
  have la := sht8_len (zs := lit) (k := 257) (m := 286) h2 (by omega)
  have lb := sht8_len (zs := dist) (k := 1) (m := 30) h3 (by omega)
  refine ⟨a, b, ⟨?_, ?_⟩, la, lb⟩
  · unfold rw8
    rw [List.length_append]
    omega
  · intro z hz
    unfold rw8 at hz
    rcases List.mem_append.1 hz with hz | hz
    · exact sht8_mem a z hz
    · exact sht8_mem b z hz
theorem fr8_err (lit dist : List Int) (h : tld8 errC lit dist) : errOf (fr8 lit dist) = 0 ∧ nUse (fr8 lit dist) ≤ 2 ^ 7 ∧ errL 7 (fr8 lit dist) = 0 ∧ lensR 7 (fr8 lit dist) = sz8 lit dist := by
  have hm := (tld8_ok h).2.2.1
  have hrl := (runs8_ok hm).2
  have hl : (fr8 lit dist).length = 19 := tly8_len _
  have he : errOf (fr8 lit dist) = 0 := by
    unfold errOf
    rw [if_neg (by omega), if_pos]
    rw [List.all_eq_true]
    intro z hz
    have := tly8_bd _ z hz
    have h320 := hm.1
    have hr2 : (rs8 lit dist).length ≤ 320 := by unfold rs8; omega
    unfold okF
    simp only [decide_eq_true_eq]
    omega
  have hn : nUse (fr8 lit dist) ≤ 19 := by
    rw [nUse_us]
    unfold usI
    have := List.length_filter_le (fun i => decide ((fr8 lit dist).getD i 0 ≠ 0)) (List.range (fr8 lit dist).length)
    rw [List.length_range, hl] at this
    rw [hl]
    exact this
  have hL : errL 7 (fr8 lit dist) = 0 := by
    unfold errL
    rw [if_neg (by omega), if_pos he, if_neg]
    have : (2 : Nat) ^ (7 : Int).toNat = 128 := rfl
    omega
  refine ⟨he, by have : (2 : Nat) ^ 7 = 128 := rfl; omega, hL, ?_⟩
  unfold lensR
  rw [if_pos hL]
  rfl
theorem sz8_ok {lit dist : List Int} (h : tld8 errC lit dist) : errC (sz8 lit dist) = 0 ∧ (sz8 lit dist).length = 19 ∧ (∀ i, i < 19 → 0 ≤ (sz8 lit dist).getD i 0 ∧ (sz8 lit dist).getD i 0 ≤ 7) ∧ ∀ r ∈ rs8 lit dist, (sz8 lit dist).getD r.sy.toNat 0 ≠ 0 := by
  obtain ⟨he, hn, _, _⟩ := fr8_err lit dist h
  have hl : (fr8 lit dist).length = 19 := tly8_len _
  obtain ⟨c1, c2, c3⟩ := lens_code he (lim := 7) (by omega) (by omega) hn
  have hok := (errS_zero (errC_zero c1).1).2
  refine ⟨c1, by unfold sz8; rw [lens_len, hl], fun i hi => ⟨(hok.get i).1, c2 i (by omega)⟩, fun r hr => ?_⟩
  have hrok := (runs8_ok (tld8_ok h).2.2.1).1 r hr
  have hs : r.sy.toNat < 19 := by unfold ok8 at hrok; omega
  refine c3 r.sy.toNat (by omega) ?_
  unfold fr8
  rw [tly8_get _ hs]
  have : r ∈ (rs8 lit dist).filter fun q => q.sy == ((r.sy.toNat : Nat) : Int) := by
    refine List.mem_filter.2 ⟨hr, ?_⟩
    unfold ok8 at hrok
    rw [beq_iff_eq]
    omega
  have hp := List.length_pos_of_mem this
  omega
end Go.Proofs.YtoeabfcnfofbiaaDoor
