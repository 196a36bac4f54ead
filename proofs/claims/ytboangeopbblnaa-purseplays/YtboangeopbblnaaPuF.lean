
import Derived.Test.YtboangeopbblnaaPuE
namespace Go.Proofs.Ytboangeopbblnaa
open Go.RowKit Go.Maps Go.WideMaps Go.MuLone
set_option linter.unusedVariables false
set_option linter.unusedSimpArgs false
set_option maxRecDepth 100000

/-! The law's lives; PurseNames. -/
def na23 : ByteArray := ⟨#[97]⟩
def nb23 : ByteArray := ⟨#[98]⟩
def s1_23 : Pu23 := ⟨[⟨na23, 10, 0⟩], 0⟩
def s2_23 : Pu23 := ⟨[⟨na23, 10, 0⟩, ⟨nb23, 5, 0⟩], 0⟩
def s3_23 : Pu23 := ⟨[⟨na23, 10, 7⟩, ⟨nb23, 5, 0⟩], 7⟩
def s4_23 : Pu23 := ⟨[⟨na23, 10, 7⟩, ⟨nb23, 5, 5⟩], 12⟩
def s5_23 : Pu23 := ⟨[⟨na23, 10, 2⟩, ⟨nb23, 5, 5⟩], 12⟩
theorem e1_23 : oE23 ⟨[], 0⟩ na23 10 = 0 ∧ oS23 ⟨[], 0⟩ na23 10 = s1_23 := ⟨by decide, by rfl⟩
theorem e2_23 : oE23 s1_23 nb23 5 = 0 ∧ oS23 s1_23 nb23 5 = s2_23 := ⟨by decide, by rfl⟩
theorem e3_23 : hE23 s2_23 na23 7 = 0 ∧ hS23 s2_23 na23 7 = s3_23 := ⟨by decide, by rfl⟩
theorem e4_23 : hE23 s3_23 nb23 5 = 0 ∧ hS23 s3_23 nb23 5 = s4_23 := ⟨by decide, by rfl⟩
theorem e5_23 : hE23 s4_23 na23 2 = 0 ∧ hS23 s4_23 na23 2 = s5_23 := ⟨by decide, by rfl⟩
theorem e6_23 : hs23 s5_23.L = 7 ∧ s5_23.pk = 12 ∧ ms23 s5_23.L = 15 := ⟨by decide, by rfl, by decide⟩
theorem kpb23 {w w' w'' : World} {l m : Nat} (h : Below w.heap.size w w') (hl : w.heap.size ≤ l) (hm : w.heap.size ≤ m) (k : Kp (fun k => k = l ∨ k = m) w' w'') : Below w.heap.size w w'' :=
  h.trans (k.below (B := w.heap.size) (fun i hi => by omega) h.size)
set_option maxRecDepth 100000 in
set_option maxHeartbeats 4000000 in
theorem pliv23 (w : World) : Calls Try.prog 9 #[] w fun e w' => e = .returned (.bool true) ∧ Below w.heap.size w w' := by
  obtain ⟨B, hB⟩ : ∃ B, B = w.heap.size := ⟨_, rfl⟩
  have HNw : Hid (Calls Try.prog 10 #[] w fun e w' => e = .returned (.pointer (some ⟨B + 2, 0, none⟩)) ∧ Pm23 w' (B + 2) (B + 1) B ⟨[], 0⟩ ∧ Below w.heap.size w w') := by rw [hB]; exact pnew23 w
  have HBz : Hid (B = w.heap.size) := hB
  obtain ⟨p, hp⟩ : ∃ p, p = B + 2 := ⟨_, rfl⟩
  obtain ⟨l, hl⟩ : ∃ l, l = B + 1 := ⟨_, rfl⟩
  rw [← hp, ← hl] at HNw
  have HL : Hid (w.heap.size ≤ l ∧ w.heap.size ≤ B) := ⟨by omega, by omega⟩
  clear hB hp hl
  have nq : ∀ (W : World) (a : Addr), (binOp .eql 24 (.pointer (some a)) (.pointer none)).run Try.prog W = .ok (.bool false) W := fun W a => by kernel_rfl
  go_enter Try.func9, Try.ntmps9
  go_wp2_with (go_at_call 10; refine HNw.out.mono ?_; rintro e w1 ⟨rfl, h1, b1⟩; have H1 : Hid (Pm23 w1 p l B ⟨[], 0⟩) := h1; have B1 : Hid (Below w.heap.size w w1) := b1; clear h1 b1)
  refine (pOpn23 (s := na23) H1.out (by decide) 10).mono ?_
  rintro e w2 ⟨rfl, h2, b2⟩
  rw [e1_23.2] at h2
  rw [e1_23.1]
  have H2 : Hid (Pm23 w2 p l B s1_23) := h2
  have B2 : Hid (Below w.heap.size w w2) := kpb23 B1.out HL.out.1 HL.out.2 b2
  clear h2 b2 H1 B1
  go_wp2_with fail
  refine (pOpn23 (s := nb23) H2.out (by decide) 5).mono ?_
  rintro e w3 ⟨rfl, h3, b3⟩
  rw [e2_23.2] at h3
  rw [e2_23.1]
  have H3 : Hid (Pm23 w3 p l B s2_23) := h3
  have B3 : Hid (Below w.heap.size w w3) := kpb23 B2.out HL.out.1 HL.out.2 b3
  clear h3 b3 H2 B2
  go_wp2_with fail
  refine (pHld23 (s := na23) H3.out (by decide) 7).mono ?_
  rintro e w4 ⟨rfl, h4, b4⟩
  rw [e3_23.2] at h4
  rw [e3_23.1]
  have H4 : Hid (Pm23 w4 p l B s3_23) := h4
  have B4 : Hid (Below w.heap.size w w4) := kpb23 B3.out HL.out.1 HL.out.2 b4
  clear h4 b4 H3 B3
  go_wp2_with fail
  refine (pHld23 (s := nb23) H4.out (by decide) 5).mono ?_
  rintro e w5 ⟨rfl, h5, b5⟩
  rw [e4_23.2] at h5
  rw [e4_23.1]
  have H5 : Hid (Pm23 w5 p l B s4_23) := h5
  have B5 : Hid (Below w.heap.size w w5) := kpb23 B4.out HL.out.1 HL.out.2 b5
  clear h5 b5 H4 B4
  go_wp2_with fail
  refine (pHld23 (s := na23) H5.out (by decide) 2).mono ?_
  rintro e w6 ⟨rfl, h6, b6⟩
  rw [e5_23.2] at h6
  rw [e5_23.1]
  have H6 : Hid (Pm23 w6 p l B s5_23) := h6
  have B6 : Hid (Below w.heap.size w w6) := kpb23 B5.out HL.out.1 HL.out.2 b6
  clear h6 b6 H5 B5
  go_wp2_with fail
  refine (pHed23 H6.out).mono ?_
  rintro e w7 ⟨rfl, h7, b7⟩
  rw [e6_23.1]
  have H7 : Hid (Pm23 w7 p l B s5_23) := h7
  have B7 : Hid (Below w.heap.size w w7) := kpb23 B6.out HL.out.1 HL.out.2 b7
  clear h7 b7 H6 B6
  go_wp2_with fail
  refine (pPek23 H7.out).mono ?_
  rintro e w8 ⟨rfl, h8, b8⟩
  rw [e6_23.2.1]
  have H8 : Hid (Pm23 w8 p l B s5_23) := h8
  have B8 : Hid (Below w.heap.size w w8) := kpb23 B7.out HL.out.1 HL.out.2 b8
  clear h8 b8 H7 B7
  go_wp2_with fail
  refine (pMst23 H8.out).mono ?_
  rintro e w9 ⟨rfl, h9, b9⟩
  rw [e6_23.2.2]
  have B9 : Hid (Below w.heap.size w w9) := kpb23 B8.out HL.out.1 HL.out.2 b9
  clear h9 b9 H8 B8
  go_wp2_with fail
  go_ret
  exact ⟨rfl, B9.out⟩
set_option maxRecDepth 100000 in
set_option maxHeartbeats 1000000 in
theorem purseNames_walk (w : World) : Calls Try.prog 3 #[] w fun e w' => e = .returned (.bool true) ∧ Below w.heap.size w w' := by
  go_enter Try.func3, Try.ntmps3
  go_wp2_with fail
  refine (pliv23 _).mono ?_
  rintro e w' ⟨rfl, h⟩
  go_wp2_with fail
  go_ret
  exact ⟨rfl, h⟩
end Go.Proofs.Ytboangeopbblnaa
