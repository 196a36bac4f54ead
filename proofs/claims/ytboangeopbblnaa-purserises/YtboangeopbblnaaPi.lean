import Derived.Test.YtboangeopbblnaaPh
import Derived.WalkKit
import Derived.Test.YtboangeopbblnaaProg
import Derived.Test.YtboangeopbblnaaPe
import Derived.WalkSpells
import Derived.BigQuiet
import Derived.Deep.QuietTactic
import Derived.Deep.WholeRow
import Derived.Laws.ResultCell
import Derived.Deep.MidRow
import Derived.Deep.RegionHeld3
namespace Go.Proofs.Ytboangeopbblnaa
open Go.RowKit Go.Maps Go.WideMaps Go.MuLone
set_option linter.unusedVariables false
set_option linter.unusedSimpArgs false
set_option maxRecDepth 100000
def na23 : ByteArray := ⟨#[97]⟩
def nb23 : ByteArray := ⟨#[98]⟩
def s1_23 : Pu23 := ⟨[⟨na23, 10, 0⟩], 0⟩
def s2_23 : Pu23 := ⟨[⟨na23, 10, 0⟩, ⟨nb23, 5, 0⟩], 0⟩
def s3_23 : Pu23 := ⟨[⟨na23, 10, 7⟩, ⟨nb23, 5, 0⟩], 7⟩
def s4_23 : Pu23 := ⟨[⟨na23, 10, 7⟩, ⟨nb23, 5, 5⟩], 12⟩
def s5_23 : Pu23 := ⟨[⟨na23, 10, 2⟩, ⟨nb23, 5, 5⟩], 12⟩
theorem e1_23 : oE23 ⟨[], 0⟩ na23 10 = 0 ∧ oS23 ⟨[], 0⟩ na23 10 = s1_23 := ⟨by decide, by rfl⟩
theorem e2_23 : oE23 s1_23 nb23 5 = 0 ∧ oS23 s1_23 nb23 5 = s2_23 := ⟨by decide, by rfl⟩
theorem e3_23 : hE23 s2_23 na23 7 = 0 ∧ hS23 s2_23 na23 7 = s3_23 := ⟨by decide, by rfl⟩
theorem e4_23 : hE23 s3_23 nb23 5 = 0 ∧ hS23 s3_23 nb23 5 = s4_23 := ⟨by decide, by rfl⟩
theorem e5_23 : hE23 s4_23 na23 2 = 0 ∧ hS23 s4_23 na23 2 = s5_23 := ⟨by decide, by rfl⟩
theorem e6_23 : hs23 s5_23.L = 7 ∧ s5_23.pk = 12 ∧ ms23 s5_23.L = 15 := ⟨by decide, by rfl, by decide⟩
theorem kpb23 {w w' w'' : World} {l m : Nat} (h : Below w.heap.size w w') (hl : w.heap.size ≤ l) (hm : w.heap.size ≤ m) (k : Kp (fun k => k = l ∨ k = m) w' w'') : Below w.heap.size w w'' :=
  h.trans (k.below (B := w.heap.size) (fun i hi => by omega) h.size)
set_option maxRecDepth 100000 in
set_option maxHeartbeats 4000000 in
theorem pliv23 (w : World) : Calls Try.prog 9 #[] w fun e w' => e = .returned (.bool true) ∧ Below w.heap.size w w' := by
  obtain ⟨B, hB⟩ : ∃ B, B = w.heap.size := ⟨_, rfl⟩
  have HNw : Hid (Calls Try.prog 10 #[] w fun e w' => e = .returned (.pointer (some ⟨B + 2, 0, none⟩)) ∧ Pm23 w' (B + 2) (B + 1) B ⟨[], 0⟩ ∧ Below w.heap.size w w') := by rw [hB]; exact pnew23 w
  have HBz : Hid (B = w.heap.size) := hB
  obtain ⟨p, hp⟩ : ∃ p, p = B + 2 := ⟨_, rfl⟩
  obtain ⟨l, hl⟩ : ∃ l, l = B + 1 := ⟨_, rfl⟩
  rw [← hp, ← hl] at HNw
  have HL : Hid (w.heap.size ≤ l ∧ w.heap.size ≤ B) := ⟨by omega, by omega⟩
  clear hB hp hl
  have nq : ∀ (W : World) (a : Addr), (binOp .eql 24 (.pointer (some a)) (.pointer none)).run Try.prog W = .ok (.bool false) W := fun W a => by kernel_rfl
  go_enter Try.func9, Try.ntmps9
  go_wp2_with (go_at_call 10; refine HNw.out.mono ?_; rintro e w1 ⟨rfl, h1, b1⟩; have H1 : Hid (Pm23 w1 p l B ⟨[], 0⟩) := h1; have B1 : Hid (Below w.heap.size w w1) := b1; clear h1 b1)
  refine (pOpn23 (s := na23) H1.out (by decide) 10).mono ?_
  rintro e w2 ⟨rfl, h2, b2⟩
  rw [e1_23.2] at h2
  rw [e1_23.1]
  have H2 : Hid (Pm23 w2 p l B s1_23) := h2
  have B2 : Hid (Below w.heap.size w w2) := kpb23 B1.out HL.out.1 HL.out.2 b2
  clear h2 b2 H1 B1
  go_wp2_with fail
  refine (pOpn23 (s := nb23) H2.out (by decide) 5).mono ?_
  rintro e w3 ⟨rfl, h3, b3⟩
  rw [e2_23.2] at h3
  rw [e2_23.1]
  have H3 : Hid (Pm23 w3 p l B s2_23) := h3
  have B3 : Hid (Below w.heap.size w w3) := kpb23 B2.out HL.out.1 HL.out.2 b3
  clear h3 b3 H2 B2
  go_wp2_with fail
  refine (pHld23 (s := na23) H3.out (by decide) 7).mono ?_
  rintro e w4 ⟨rfl, h4, b4⟩
  rw [e3_23.2] at h4
  rw [e3_23.1]
  have H4 : Hid (Pm23 w4 p l B s3_23) := h4
  have B4 : Hid (Below w.heap.size w w4) := kpb23 B3.out HL.out.1 HL.out.2 b4
  clear h4 b4 H3 B3
  go_wp2_with fail
  refine (pHld23 (s := nb23) H4.out (by decide) 5).mono ?_
  rintro e w5 ⟨rfl, h5, b5⟩
  rw [e4_23.2] at h5
  rw [e4_23.1]
  have H5 : Hid (Pm23 w5 p l B s4_23) := h5
  have B5 : Hid (Below w.heap.size w w5) := kpb23 B4.out HL.out.1 HL.out.2 b5
  clear h5 b5 H4 B4
  go_wp2_with fail
  refine (pHld23 (s := na23) H5.out (by decide) 2).mono ?_
  rintro e w6 ⟨rfl, h6, b6⟩
  rw [e5_23.2] at h6
  rw [e5_23.1]
  have H6 : Hid (Pm23 w6 p l B s5_23) := h6
  have B6 : Hid (Below w.heap.size w w6) := kpb23 B5.out HL.out.1 HL.out.2 b6
  clear h6 b6 H5 B5
  go_wp2_with fail
  refine (pHed23 H6.out).mono ?_
  rintro e w7 ⟨rfl, h7, b7⟩
  rw [e6_23.1]
  have H7 : Hid (Pm23 w7 p l B s5_23) := h7
  have B7 : Hid (Below w.heap.size w w7) := kpb23 B6.out HL.out.1 HL.out.2 b7
  clear h7 b7 H6 B6
  go_wp2_with fail
  refine (pPek23 H7.out).mono ?_
  rintro e w8 ⟨rfl, h8, b8⟩
  rw [e6_23.2.1]
  have H8 : Hid (Pm23 w8 p l B s5_23) := h8
  have B8 : Hid (Below w.heap.size w w8) := kpb23 B7.out HL.out.1 HL.out.2 b8
  clear h8 b8 H7 B7
  go_wp2_with fail
  refine (pMst23 H8.out).mono ?_
  rintro e w9 ⟨rfl, h9, b9⟩
  rw [e6_23.2.2]
  have B9 : Hid (Below w.heap.size w w9) := kpb23 B8.out HL.out.1 HL.out.2 b9
  clear h9 b9 H8 B8
  go_wp2_with fail
  go_ret
  exact ⟨rfl, B9.out⟩
end Go.Proofs.Ytboangeopbblnaa

namespace Go.Proofs.Ytboangeopbblnaa
set_option linter.unusedVariables false
/-- The n low bits of v. -/
def bN (v : Nat) : Nat → List Bool
  | 0 => []
  | n + 1 => v.testBit 0 :: bN (v / 2) n
/-- The number of these bits. -/
def num : List Bool → Nat
  | [] => 0
  | b :: r => b.toNat + 2 * num r

theorem num_lt (L : List Bool) : num L < 2 ^ L.length := by
  induction L with
  | nil => simp [num]
  | cons b r ih =>
    have hb : b.toNat < 2 := Bool.toNat_lt b
    simp only [num, List.length_cons, Nat.pow_succ]
    omega
/-- The bits of bytes. -/
def bB : List Int → List Bool
  | [] => []
  | z :: r => bN z.toNat 8 ++ bB r
end Go.Proofs.Ytboangeopbblnaa

namespace Go.Proofs.Ytboangeopbblnaa
open Go.RowKit
set_option linter.unusedVariables false
def cC (zs : List Int) (l : Nat) : Nat := if l = 0 then 0 else zs.count (l : Int)
def cF (zs : List Int) : Nat → Nat
  | 0 => 0
  | l + 1 => 2 * (cF zs l + cC zs l)
def cS (zs : List Int) : Nat → Nat
  | 0 => 0
  | l + 1 => cS zs l + cC zs l
def cP (zs : List Int) : Nat → Nat
  | 0 => 0
  | l + 1 => cP zs l + cC zs l * 2 ^ (15 - l)
def rk (zs : List Int) (s : Nat) : Nat := (zs.take s).count (zs.getD s 0)
def ln (zs : List Int) (s : Nat) : Nat := (zs.getD s 0).toNat
def cd (zs : List Int) (s : Nat) : Nat := if zs.getD s 0 = 0 then 0 else cF zs (ln zs s) + rk zs s
/-- Lengths that may stand in a list. -/
def LOk (zs : List Int) : Prop := ∀ z ∈ zs, 0 ≤ z ∧ z ≤ 15
theorem LOk.get {zs : List Int} (h : LOk zs) (s : Nat) : 0 ≤ zs.getD s 0 ∧ zs.getD s 0 ≤ 15 := by
  by_cases c : s < zs.length
  · have := h (zs.getD s 0) (by simp [List.getD, c])
    exact this
  · simp [List.getD, c]
theorem LOk.ln {zs : List Int} (h : LOk zs) (s : Nat) : zs.getD s 0 = (ln zs s : Int) ∧ ln zs s ≤ 15 := by
  have := h.get s
  unfold Go.Proofs.Ytboangeopbblnaa.ln
  omega
theorem cC_pos (zs : List Int) {l : Nat} (h : 0 < l) : cC zs l = zs.count (l : Int) := by unfold cC; rw [if_neg (by omega)]
theorem cC_snoc (zs : List Int) (z : Int) (l : Nat) : cC (zs ++ [z]) l = cC zs l + (if l ≠ 0 ∧ z = (l : Int) then 1 else 0) := by
  unfold cC
  by_cases h : l = 0
  · simp [h]
  · rw [if_neg h, if_neg h, List.count_append]
    by_cases c : z = (l : Int)
    · subst c; simp [h]
    · rw [if_neg (fun h => c h.2)]
      simp [c]
theorem cF_succ (zs : List Int) (l : Nat) : cF zs (l + 1) = 2 * (cF zs l + cC zs l) := rfl
theorem cS_succ (zs : List Int) (l : Nat) : cS zs (l + 1) = cS zs l + cC zs l := rfl
theorem cS_mono (zs : List Int) {a : Nat} : ∀ {b : Nat}, a ≤ b → cS zs a ≤ cS zs b
  | 0, h => by have : a = 0 := by omega
               subst this; exact Nat.le_refl _
  | b + 1, h => by
    by_cases c : a = b + 1
    · subst c; exact Nat.le_refl _
    · have := cS_mono zs (a := a) (b := b) (by omega)
      rw [cS_succ]
      omega
/-- How much of the space they take; how many have a code. -/
def spc (zs : List Int) : Nat := cP zs 16
def tot (zs : List Int) : Nat := cS zs 16
/-- A symbol's rank is below its length's number. -/
theorem rk_lt {zs : List Int} {s : Nat} (hs : s < zs.length) : rk zs s < zs.count (zs.getD s 0) := by
  unfold rk
  have h1 : zs = zs.take s ++ zs.drop s := (List.take_append_drop s zs).symm
  have h2 : zs.drop s = zs.getD s 0 :: zs.drop (s + 1) := by
    rw [List.drop_eq_getElem_cons hs]
    simp [List.getD, hs]
  have h3 : zs.count (zs.getD s 0) = (zs.take s).count (zs.getD s 0) + (zs.drop s).count (zs.getD s 0) := by
    conv => lhs; rw [h1]
    rw [List.count_append]
    simp
  rw [h3, h2, List.count_cons]
  simp
theorem rk_lt_c {zs : List Int} (h : LOk zs) {s : Nat} (hs : s < zs.length) (h0 : zs.getD s 0 ≠ 0) : rk zs s < cC zs (ln zs s) := by
  have := h.ln s
  rw [cC_pos zs (by omega), ← this.1]
  exact rk_lt hs
/-- Two symbols of one length have two ranks. -/
theorem rk_inj {zs : List Int} {s t : Nat} (hs : s < zs.length) (ht : t < zs.length) (he : zs.getD s 0 = zs.getD t 0) (hr : rk zs s = rk zs t) : s = t := by
  have key : ∀ a b, a < b → b < zs.length → zs.getD a 0 = zs.getD b 0 → rk zs a < rk zs b := by
    intro a b hab hb e
    unfold rk
    have h1 : (zs.take b).take a = zs.take a := by rw [List.take_take, Nat.min_eq_left (by omega)]
    have h2 := rk_lt (zs := zs.take b) (s := a) (by simp; omega)
    unfold rk at h2
    have h3 : (zs.take b).getD a 0 = zs.getD a 0 := by simp [List.getD, hab]
    rw [h1, h3, e] at h2
    rw [e]
    exact h2
  rcases Nat.lt_trichotomy s t with h | h | h
  · have := key s t h ht he; omega
  · exact h
  · have := key t s h hs he.symm; omega
end Go.Proofs.Ytboangeopbblnaa

namespace Go.Proofs.Ytboangeopbblnaa
open Go.RowKit
set_option linter.unusedVariables false
/-- An array of numbers. -/
def arr (A : List Int) : Array Value := (A.map (Value.int .i64)).toArray
theorem arr_cell {w : World} {b : Nat} {A : List Int} {t : TypeId} (h : w.heap[b]? = some (.cells (arr A) t (0, 0))) {i : Nat} (hi : i < A.length) : w.cell? ⟨b, i, none⟩ = some (.int .i64 (A.getD i 0)) := by
  rw [cell_of_row w b i (arr A) t (0, 0) h]
  simp [arr, List.getD, hi]
/-- How many codes of each length there are, as the program has it. -/
def cnts (zs : List Int) : List Int := (List.range 16).map fun l => (cC zs l : Int)
theorem cnts_len (zs : List Int) : (cnts zs).length = 16 := by simp [cnts]
end Go.Proofs.Ytboangeopbblnaa

namespace Go.Proofs.Ytboangeopbblnaa
open Go.RowKit
set_option linter.unusedVariables false
/-- A length that may not be, or too many. -/
def okL (zs : List Int) : Bool := zs.all fun z => decide (0 ≤ z ∧ z ≤ 15)
def errS (zs : List Int) : Int := if 288 < zs.length then 50 else if okL zs then 0 else 50
end Go.Proofs.Ytboangeopbblnaa
