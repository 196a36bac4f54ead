
import Derived.Test.YtaipfcfmhdigfaaLzT4
namespace Go.Proofs.Ytaipfcfmhdigfaa
open Go.RowKit
set_option linter.unusedVariables false

set_option maxRecDepth 100000 in
set_option maxHeartbeats 4000000 in
theorem pplant7 (B fb m g : Nat) (D : List Int) (a : Option Addr) (n cap W s : Nat) (A : Nat → Int) (hn : Hid (D.length = n)) (w : World) (h : Fst w B fb m g D a n cap W s A) (hs : s + 2 < n) (hl : n ≤ 1048576) :
    Calls Try.prog 54 #[.pointer (some ⟨fb, 0, none⟩), .int .i64 (s : Int)] w fun e w' => e = .returned (.int .i64 (lst7 D s (D.getD s 0) (D.getD (s + 1) 0) (D.getD (s + 2) 0))) ∧ Fst w' B fb m g D a n cap W (s + 1) A ∧ Kp (fun k => k = m) w w' := by
  have CK := pkey7 D a n cap s hn w h.seg hs (by omega)
  have bx := h.seg.bd s
  have byy := h.seg.bd (s + 1)
  have bz := h.seg.bd (s + 2)
  obtain ⟨c0, c1, c2, c3⟩ := h.cells
  have HST : Hid (lst7 D (s + 1) = fun x' y' z' => if x' = D.getD s 0 ∧ y' = D.getD (s + 1) 0 ∧ z' = D.getD (s + 2) 0 then (s : Int) else lst7 D s x' y' z') := rfl
  generalize D.getD s 0 = x at *
  generalize D.getD (s + 1) 0 = y at *
  generalize D.getD (s + 2) 0 = z at *
  have HC : Hid (Fst w B fb m g D a n cap W s A) := h
  have hbw := h.lt
  obtain ⟨pv, hpv⟩ : ∃ pv, pv = lst7 D s x y z := ⟨_, rfl⟩
  rw [← hpv]
  have HPV : Hid (pv = lst7 D s x y z) := hpv
  clear h hpv
  go_enter Try.func54, Try.ntmps54
  go_wp2_with fail
  refine CK.mono ?_
  rintro e w1 ⟨rfl, b1⟩
  have bA : Below w1.heap.size w1 (w1.alloc (.cells #[.int .u8 x, .int .u8 y, .int .u8 z] 97)) := below_box _ _
  have hCX := ((show Fst w B fb m g D a n cap W s A from HC.out).kp b1).kp bA
  have BX : Below w.heap.size w (w1.alloc (.cells #[.int .u8 x, .int .u8 y, .int .u8 z] 97)) := b1.trans (bA.mono b1.size)
  have hKX := heap_alloc_new w1 (.cells #[.int .u8 x, .int .u8 y, .int .u8 z] 97)
  obtain ⟨wX, hwX⟩ : ∃ wX, wX = w1.alloc (.cells #[.int .u8 x, .int .u8 y, .int .u8 z] 97) := ⟨_, rfl⟩
  obtain ⟨ob, hob⟩ : ∃ ob, ob = w1.heap.size := ⟨_, rfl⟩
  have HWX : Hid (wX = w1.alloc (.cells #[.int .u8 x, .int .u8 y, .int .u8 z] 97)) := hwX
  have HOB : Hid (ob = w1.heap.size) := hob
  rw [← hwX] at hCX hKX BX
  rw [← hob] at hKX
  have k0 : wX.cell? ⟨ob, 0, none⟩ = some (.int .u8 x) := three_cell0 hKX
  have k1 : wX.cell? ⟨ob, 1, none⟩ = some (.int .u8 y) := three_cell1 hKX
  have k2 : wX.cell? ⟨ob, 2, none⟩ = some (.int .u8 z) := three_cell2 hKX
  obtain ⟨d0, d1, d2, d3⟩ := hCX.cells
  obtain ⟨v, ok, hr, hcs⟩ := (hCX.mp.block (w' := wX.drew) rfl).look bx byy bz
  obtain ⟨w6, hr6, m6, g6⟩ := (hCX.mp.block (w' := wX.drew.drew) rfl).store (by unfold maxLen; omega) bx byy bz s (by omega)
  have HN6 : Hid (Fst w6 B fb m g D a n cap W (s + 1) A) := by
    have hb6 : ∀ k, k < wX.heap.size → k ≠ m → w6.heap[k]? = wX.heap[k]? := fun k h1 h2 => g6.block k h1 (fun e => h2 (by cases e; rfl))
    exact ⟨(hb6 fb hCX.lt hCX.fm).trans hCX.hp, hCX.row.of_block (hb6 g hCX.gl (Ne.symm hCX.mg)), by rw [HST.out]; exact m6, hCX.seg.drew.drew.grown g6 (fun x off e h0 e2 => by cases e2; have := hCX.old _ off e h0; have := hCX.bm; omega), hCX.fg, hCX.mg, Nat.lt_of_lt_of_le hCX.gl g6.size, hCX.bf, hCX.bm, hCX.bg, hCX.old⟩
  have B6 : Kp (fun k => k = m) w w6 := by
    have h1 : Kp (fun k => k = m) w wX := Kp.of_below BX
    have h2 : Kp (fun k => k = m) wX.drew.drew w6 := Kp.grown (S := fun k => k = m) g6 (fun k e => by cases e; rfl)
    have h3 : Kp (fun k => k = m) wX w6 := ⟨h2.os, h2.tape, h2.output, h2.size, h2.block⟩
    exact h1.trans h3 (fun _ _ e => e)
  clear hwX hob hCX hKX CK HC c0 c1 c2 c3 d0 d1 d3 bA m6 g6
  rw [← HPV.out] at hcs
  rcases hcs with ⟨rfl, rfl, hv⟩ | ⟨rfl, hf⟩
  · go_wp2_with fail
    rw [← HWX.out, ← HOB.out]
    go_region
    all_goals go_wp2
    all_goals go_region
    all_goals go_wp2
    all_goals go_ret
    all_goals exact ⟨rfl, HN6.out, B6⟩
  · clear HPV
    subst hf
    go_wp2_with fail
    rw [← HWX.out, ← HOB.out]
    go_region
    all_goals go_wp2
    all_goals go_region
    all_goals go_wp2
    all_goals go_ret
    all_goals exact ⟨rfl, HN6.out, B6⟩
end Go.Proofs.Ytaipfcfmhdigfaa
