
import Derived.Test.YtjoghmdjnkdokaaDoorFlK
namespace Go.Proofs.YtjoghmdjnkdokaaDoor
open Go.RowKit Go.Shelf
set_option linter.unusedVariables false
set_option linter.unusedSimpArgs false

/-! The landed flash: Program. -/
def pgE21 (S : Fs21) (x y : Int) (n : Nat) : Int := if rf21 S.on S.ps x y ≠ 0 then rf21 S.on S.ps x y else if S.pg < n then 1 else if (sh21 S x y).er = false then 212 else rc21 S
def pgS21 (S : Fs21) (x y : Int) (L : List Int) : Fs21 := if rf21 S.on S.ps x y ≠ 0 then S else if S.pg < L.length then S else if (sh21 S x y).er = false then S else rn21 S 2 x y ⟨L, false, (sh21 S x y).wr⟩
theorem fldb21 (a : Option Addr) (n c : Nat) (er : Bool) (wr : Int) (W : World) : (Instr.field 67 (.agg #[.slice a n c, .bool er, .int .i64 wr]) 1).run Tryd.prog W = .ok (.bool er) W := by kernel_rfl
set_option maxRecDepth 100000 in
set_option maxHeartbeats 8000000 in
theorem pprog21 {w : World} {b : Nat} {F : Nat → Prop} {S : Fs21} (hF : Fl21 w b F S) (hO : Ok21 S) (x y : Int) (hx : In21 x) (hy : In21 y) (hlg : S.lg.length ≤ 4398046511000) (a : Option Addr) (L : List Int) (n cap : Nat) (hs : Seg w a L) (hn : Hid (L.length = n)) (hnil : a = none → cap = 0) :
    Calls Tryd.prog 26 #[.pointer (some ⟨b, 0, none⟩), .int .i64 x, .int .i64 y, .slice a n cap] w fun e w' => e = .returned (.int .i64 (pgE21 S x y n)) ∧ Fn21 w w' b F (pgS21 S x y L) := by
  have HFl : Hid (Fl21 w b F S) := hF
  obtain ⟨m, c, f, ta, tc, la, lc, V, hI, hFb, hFm, hFl, hFV, hFs⟩ := hF
  have hlt := hI.bl
  obtain ⟨w1, hw1⟩ : ∃ w1, w1 = w.alloc (.cells #[.int .i64 x, .int .i64 y] 69) := ⟨_, rfl⟩
  have HW : Hid (w.alloc (.cells #[.int .i64 x, .int .i64 y] 69) = w1) := hw1.symm
  have b1 : Below w.heap.size w w1 := by rw [hw1]; exact (Below.refl _ _).alloc (Nat.le_refl _) _
  have q1 : w1.heap[w.heap.size]? = some (.cells #[.int .i64 x, .int .i64 y] 69 (0, 0)) := by rw [hw1]; exact heap_alloc_new _ _
  have HB1 : Hid (Below w.heap.size w w1) := b1
  have HR : Hid (∀ W : World, Below w.heap.size w W → Calls Tryd.prog 55 #[.pointer (some ⟨b, 0, none⟩), .agg #[.int .i64 x, .int .i64 y]] W fun e w' => e = .returned (.int .i64 (rf21 S.on S.ps x y)) ∧ Below W.heap.size W w') := fun W hW => pref21 b S.pg S.ps S.on x y W ((hI.old hW).cel (i := 0) rfl) hO.pg.1 ((hI.old hW).cel (i := 1) rfl) ((hI.old hW).cel (i := 3) rfl)
  have HS : Hid (∀ W : World, Below w.heap.size w W → Calls Tryd.prog 54 #[.pointer (some ⟨b, 0, none⟩), .agg #[.int .i64 x, .int .i64 y]] W fun e w' => e = .returned (shv21 (f x y) x) ∧ Below W.heap.size W w') := fun W hW => psht21 b m c f x y hx hy W ((hI.old hW).cel (i := 5) rfl) (hI.old hW).hm (hI.sv x y)
  obtain ⟨wa, wcap, hsv, hsl⟩ := hI.shv x y
  rw [hsv] at HS
  have HRUN : Hid (L.length ≤ S.pg → ∀ W : World, Below w.heap.size w W → Calls Tryd.prog 56 #[.pointer (some ⟨b, 0, none⟩), .iface 110 (.agg #[.int .i64 x, .int .i64 y, .slice a n cap])] W fun e w' => e = .returned (.int .i64 (rc21 S)) ∧ Fn21 W w' b F (rn21 S 2 x y ⟨L, false, (sh21 S x y).wr⟩)) := fun hle W hW => prun21 (hI.old hW) hO x y hx hy _ _ 2 ⟨L, false, (sh21 S x y).wr⟩ hlg (mtp21 x y a n cap) (fun Y a' n' k er hY => (pafp21 er (sh21 S x y).wr a' a n' k n cap x y L Y ((hs.old hW).old hY) hn hnil (by have := hO.pg.2; have := hn.out; omega)).mono (by
    rintro e w' ⟨⟨ra, rc, rfl, hc⟩, hb⟩
    exact ⟨⟨ra, rc, by rw [hn.out], hc⟩, hb⟩)) F hFb hFm hFl hFV (fun k e => Nat.lt_of_lt_of_le (hFs k e) hW.size)
  have c0 : ∀ W : World, Below w.heap.size w W → W.cell? ⟨b, 0, none⟩ = some (.int .i64 (S.pg : Int)) := fun W hW => (hI.old hW).cel (i := 0) rfl
  have HC0 : Hid (∀ W : World, Below w.heap.size w W → W.cell? ⟨b, 0, none⟩ = some (.int .i64 (S.pg : Int))) := c0
  have HE : Hid (pgE21 S x y n = if rf21 S.on S.ps x y ≠ 0 then rf21 S.on S.ps x y else if S.pg < n then 1 else if (sh21 S x y).er = false then 212 else rc21 S) := rfl
  have HS' : Hid (pgS21 S x y L = if rf21 S.on S.ps x y ≠ 0 then S else if S.pg < n then S else if (sh21 S x y).er = false then S else rn21 S 2 x y ⟨L, false, (sh21 S x y).wr⟩) := by show pgS21 S x y L = _; rw [← hn.out]; rfl
  rw [HE.out, HS'.out]
  generalize rf21 S.on S.ps x y = rf at *
  by_cases hrf : rf = 0
  · subst hrf
    rw [if_neg (show ¬ ((0 : Int) ≠ 0) by simp), if_neg (show ¬ ((0 : Int) ≠ 0) by simp)]
    by_cases h1 : S.pg < n
    · rw [if_pos h1, if_pos h1]
      have h1' : (S.pg : Int) < (n : Int) := by omega
      clear HRUN
      clear c0 hI hsv hsl HE HS' hw1 b1
      go_enter Tryd.func26, Tryd.ntmps26
      go_wp2_with fail
      rw [HW.out]
      refine (HR.out _ HB1.out).mono ?_
      rintro e w2 ⟨rfl, b2⟩
      have b2' : Below w.heap.size w w2 := HB1.out.trans (b2.mono HB1.out.size)
      have q2 := (b2.block _ (Array.getElem?_eq_some_iff.1 q1).1).trans q1
      have q20 := two_cell0 q2
      have q21 := two_cell1 q2
      have d0 := HC0.out w2 b2'
      go_wp2_with fail
      go_ret
      exact ⟨rfl, HFl.out.stay b2'⟩
    · rw [if_neg h1, if_neg h1]
      have h1' : ¬ (S.pg : Int) < (n : Int) := by omega
      have HRUN' := HRUN.out (by have := hn.out; omega)
      have HRU : Hid (∀ W : World, Below w.heap.size w W → Calls Tryd.prog 56 #[.pointer (some ⟨b, 0, none⟩), .iface 110 (.agg #[.int .i64 x, .int .i64 y, .slice a n cap])] W fun e w' => e = .returned (.int .i64 (rc21 S)) ∧ Fn21 W w' b F (rn21 S 2 x y ⟨L, false, (sh21 S x y).wr⟩)) := HRUN'
      clear HRUN HRUN'
      generalize rn21 S 2 x y ⟨L, false, (sh21 S x y).wr⟩ = S' at *
      generalize rc21 S = E' at *
      obtain ⟨WR, hWR⟩ : ∃ WR, WR = (sh21 S x y).wr := ⟨_, rfl⟩
      obtain ⟨WL, hWL⟩ : ∃ WL, WL = (sh21 S x y).b.length := ⟨_, rfl⟩
      rw [← hWR, ← hWL] at HS
      cases hWE : (sh21 S x y).er
      · rw [if_pos rfl, if_pos rfl]
        rw [hWE] at HS
        have hfd := fldb21 wa WL wcap false WR
        clear hWR hWL hWE
        clear c0 hI hsv hsl HE HS' hw1 b1
        go_enter Tryd.func26, Tryd.ntmps26
        go_wp2_with fail
        rw [HW.out]
        refine (HR.out _ HB1.out).mono ?_
        rintro e w2 ⟨rfl, b2⟩
        have b2' : Below w.heap.size w w2 := HB1.out.trans (b2.mono HB1.out.size)
        have q2 := (b2.block _ (Array.getElem?_eq_some_iff.1 q1).1).trans q1
        have q20 := two_cell0 q2
        have q21 := two_cell1 q2
        have d0 := HC0.out w2 b2'
        go_wp2_with fail
        refine (HS.out _ b2').mono ?_
        rintro e w3 ⟨rfl, b3⟩
        have b3' : Below w.heap.size w w3 := b2'.trans (b3.mono b2'.size)
        have q3 := (b3.block _ (Array.getElem?_eq_some_iff.1 q2).1).trans q2
        have q30 := two_cell0 q3
        have q31 := two_cell1 q3
        go_wp2_with fail
        go_ret
        exact ⟨rfl, HFl.out.stay b3'⟩
      · rw [if_neg (by simp), if_neg (by simp)]
        rw [hWE] at HS
        have hfd := fldb21 wa WL wcap true WR
        clear hWR hWL hWE
        clear c0 hI hsv hsl HE HS' hw1 b1
        go_enter Tryd.func26, Tryd.ntmps26
        go_wp2_with fail
        rw [HW.out]
        refine (HR.out _ HB1.out).mono ?_
        rintro e w2 ⟨rfl, b2⟩
        have b2' : Below w.heap.size w w2 := HB1.out.trans (b2.mono HB1.out.size)
        have q2 := (b2.block _ (Array.getElem?_eq_some_iff.1 q1).1).trans q1
        have q20 := two_cell0 q2
        have q21 := two_cell1 q2
        have d0 := HC0.out w2 b2'
        go_wp2_with fail
        refine (HS.out _ b2').mono ?_
        rintro e w3 ⟨rfl, b3⟩
        have b3' : Below w.heap.size w w3 := b2'.trans (b3.mono b2'.size)
        have q3 := (b3.block _ (Array.getElem?_eq_some_iff.1 q2).1).trans q2
        have q30 := two_cell0 q3
        have q31 := two_cell1 q3
        go_wp2_with fail
        refine (HRU.out _ b3').mono ?_
        rintro e w4 ⟨rfl, hn4⟩
        go_wp2_with fail
        go_ret
        exact ⟨rfl, hn4.from b3'⟩
  · rw [if_pos (show rf ≠ 0 from hrf), if_pos (show rf ≠ 0 from hrf)]
    have hrf' : (rf == 0) = false := by simp [hrf]
    clear HRUN
    clear c0 hI hsv hsl HE HS' hw1 b1
    go_enter Tryd.func26, Tryd.ntmps26
    go_wp2_with fail
    rw [HW.out]
    refine (HR.out _ HB1.out).mono ?_
    rintro e w2 ⟨rfl, b2⟩
    have b2' : Below w.heap.size w w2 := HB1.out.trans (b2.mono HB1.out.size)
    have q2 := (b2.block _ (Array.getElem?_eq_some_iff.1 q1).1).trans q1
    have q20 := two_cell0 q2
    have q21 := two_cell1 q2
    have d0 := HC0.out w2 b2'
    go_wp2_with fail
    go_ret
    exact ⟨rfl, HFl.out.stay b2'⟩
end Go.Proofs.YtjoghmdjnkdokaaDoor
