import Derived.Test.YtjoghmdjnkdokaaDoorPe
namespace Go.Proofs.YtjoghmdjnkdokaaDoor
open Go.RowKit Go.Shelf
set_option linter.unusedVariables false
set_option linter.unusedSimpArgs false

/-! The landed flash: Erase. -/
theorem Fl21.old {w w' : World} {b : Nat} {F : Nat → Prop} {S : Fs21} (h : Fl21 w b F S) (hb : Below w.heap.size w w') : Fl21 w' b F S := by
  obtain ⟨m, c, f, ta, tc, la, lc, V, h1, h2, h3, h4, h5, h6⟩ := h
  exact ⟨m, c, f, ta, tc, la, lc, V, h1.old hb, h2, h3, h4, h5, fun k e => Nat.lt_of_lt_of_le (h6 k e) hb.size⟩
theorem Fl21.stay {w w' : World} {b : Nat} {F : Nat → Prop} {S : Fs21} (h : Fl21 w b F S) (hb : Below w.heap.size w w') : Fn21 w w' b F S := ⟨F, h.old hb, fun _ e => .inl e, Kp.of_below hb⟩
theorem Fn21.from {w w1 w' : World} {b : Nat} {F : Nat → Prop} {S : Fs21} (h : Fn21 w1 w' b F S) (hb : Below w.heap.size w w1) : Fn21 w w' b F S := by
  obtain ⟨F', h1, h2, h3⟩ := h
  exact ⟨F', h1, fun k e => by rcases h2 k e with h | h; (exact .inl h); (exact .inr (Nat.le_trans hb.size h)), (Kp.of_below hb).trans h3 (fun _ _ e => e)⟩
theorem Fl21.lt {w : World} {b : Nat} {F : Nat → Prop} {S : Fs21} (h : Fl21 w b F S) : b < w.heap.size := by
  obtain ⟨m, c, f, ta, tc, la, lc, V, h1, _⟩ := h
  exact h1.bl
theorem Fl21.kp {w w' : World} {b : Nat} {F : Nat → Prop} {S : Fs21} (h : Fl21 w b F S) (hk : ∀ k, F k → w'.heap[k]? = w.heap[k]?) (hs : w.heap.size ≤ w'.heap.size) : Fl21 w' b F S := by
  obtain ⟨m, c, f, ta, tc, la, lc, V, h1, h2, h3, h4, h5, h6⟩ := h
  exact ⟨m, c, f, ta, tc, la, lc, V, h1.kp (hk b h2) (hk m h3) (fun k e => hk k (h4 k e)) (fun k e => hk k (h5 k e)) hs, h2, h3, h4, h5, fun k e => Nat.lt_of_lt_of_le (h6 k e) hs⟩
def wo21 (S : Fs21) (x y : Int) : Bool := decide (1099511627776 ≤ (sh21 S x y).wr) || (decide (0 < S.lm) && decide (S.lm ≤ (sh21 S x y).wr))
def erE21 (S : Fs21) (x y : Int) : Int := if rf21 S.on S.ps x y ≠ 0 then rf21 S.on S.ps x y else if wo21 S x y then 214 else rc21 S
def erS21 (S : Fs21) (x y : Int) : Fs21 := if rf21 S.on S.ps x y ≠ 0 then S else if wo21 S x y then S else rn21 S 1 x y ⟨[], true, (sh21 S x y).wr + 1⟩
theorem fld21 (a : Option Addr) (n c : Nat) (er : Bool) (wr : Int) (W : World) : (Instr.field 67 (.agg #[.slice a n c, .bool er, .int .i64 wr]) 2).run Tryd.prog W = .ok (.int .i64 wr) W := by kernel_rfl
set_option maxRecDepth 100000 in
set_option maxHeartbeats 8000000 in
theorem perase21 {w : World} {b : Nat} {F : Nat → Prop} {S : Fs21} (hF : Fl21 w b F S) (hO : Ok21 S) (x y : Int) (hx : In21 x) (hy : In21 y) (hlg : S.lg.length ≤ 4398046511000) :
    Calls Tryd.prog 27 #[.pointer (some ⟨b, 0, none⟩), .int .i64 x, .int .i64 y] w fun e w' => e = .returned (.int .i64 (erE21 S x y)) ∧ Fn21 w w' b F (erS21 S x y) := by
  have HFl : Hid (Fl21 w b F S) := hF
  obtain ⟨m, c, f, ta, tc, la, lc, V, hI, hFb, hFm, hFl, hFV, hFs⟩ := hF
  have hlt := hI.bl
  obtain ⟨w1, hw1⟩ : ∃ w1, w1 = w.alloc (.cells #[.int .i64 x, .int .i64 y] 69) := ⟨_, rfl⟩
  have HW : Hid (w.alloc (.cells #[.int .i64 x, .int .i64 y] 69) = w1) := hw1.symm
  have b1 : Below w.heap.size w w1 := by rw [hw1]; exact (Below.refl _ _).alloc (Nat.le_refl _) _
  have q1 : w1.heap[w.heap.size]? = some (.cells #[.int .i64 x, .int .i64 y] 69 (0, 0)) := by rw [hw1]; exact heap_alloc_new _ _
  have HB1 : Hid (Below w.heap.size w w1) := b1
  have HR : Hid (∀ W : World, Below w.heap.size w W → Calls Tryd.prog 55 #[.pointer (some ⟨b, 0, none⟩), .agg #[.int .i64 x, .int .i64 y]] W fun e w' => e = .returned (.int .i64 (rf21 S.on S.ps x y)) ∧ Below W.heap.size W w') := fun W hW => pref21 b S.pg S.ps S.on x y W ((hI.old hW).cel (i := 0) rfl) hO.pg.1 ((hI.old hW).cel (i := 1) rfl) ((hI.old hW).cel (i := 3) rfl)
  have HS : Hid (∀ W : World, Below w.heap.size w W → Calls Tryd.prog 54 #[.pointer (some ⟨b, 0, none⟩), .agg #[.int .i64 x, .int .i64 y]] W fun e w' => e = .returned (shv21 (f x y) x) ∧ Below W.heap.size W w') := fun W hW => psht21 b m c f x y hx hy W ((hI.old hW).cel (i := 5) rfl) (hI.old hW).hm (hI.sv x y)
  obtain ⟨wa, wcap, hsv, hsl⟩ := hI.shv x y
  rw [hsv] at HS
  have HOS := sh21_ok hO x y
  have HRUN : Hid (∀ W : World, Below w.heap.size w W → Calls Tryd.prog 56 #[.pointer (some ⟨b, 0, none⟩), .iface 112 (.agg #[.int .i64 x, .int .i64 y])] W fun e w' => e = .returned (.int .i64 (rc21 S)) ∧ Fn21 W w' b F (rn21 S 1 x y ⟨[], true, (sh21 S x y).wr + 1⟩)) := fun W hW => prun21 (hI.old hW) hO x y hx hy _ _ 1 ⟨[], true, (sh21 S x y).wr + 1⟩ hlg (mte21 x y) (fun Y a n k er hY => (pafe21 er (sh21 S x y).wr a n k x y ⟨HOS.2.1, HOS.2.2⟩ Y).mono (by
    rintro e w' ⟨rfl, hb⟩
    exact ⟨⟨none, 0, rfl, SegK.nil (by decide) _ _, .inl rfl, fun _ => rfl, by simp⟩, hb⟩)) F hFb hFm hFl hFV (fun k e => Nat.lt_of_lt_of_le (hFs k e) hW.size)
  have c4 : ∀ W : World, Below w.heap.size w W → W.cell? ⟨b, 4, none⟩ = some (.int .i64 S.lm) := fun W hW => (hI.old hW).cel (i := 4) rfl
  have HC4 : Hid (∀ W : World, Below w.heap.size w W → W.cell? ⟨b, 4, none⟩ = some (.int .i64 S.lm)) := c4
  have HE : Hid (erE21 S x y = if rf21 S.on S.ps x y ≠ 0 then rf21 S.on S.ps x y else if wo21 S x y then 214 else rc21 S) := rfl
  have HS' : Hid (erS21 S x y = if rf21 S.on S.ps x y ≠ 0 then S else if wo21 S x y then S else rn21 S 1 x y ⟨[], true, (sh21 S x y).wr + 1⟩) := rfl
  rw [HE.out, HS'.out]
  have HWO : Hid (wo21 S x y = (decide (1099511627776 ≤ (sh21 S x y).wr) || (decide (0 < S.lm) && decide (S.lm ≤ (sh21 S x y).wr)))) := rfl
  generalize rf21 S.on S.ps x y = rf at *
  by_cases hrf : rf = 0
  · subst hrf
    rw [if_neg (show ¬ ((0 : Int) ≠ 0) by simp), if_neg (show ¬ ((0 : Int) ≠ 0) by simp)]
    obtain ⟨WR, hWR⟩ : ∃ WR, WR = (sh21 S x y).wr := ⟨_, rfl⟩
    obtain ⟨WL, hWL⟩ : ∃ WL, WL = (sh21 S x y).b.length := ⟨_, rfl⟩
    obtain ⟨WE, hWE⟩ : ∃ WE, WE = (sh21 S x y).er := ⟨_, rfl⟩
    have hfd := fld21 wa WL wcap WE WR
    rw [← hWR] at HWO
    rw [← hWR, ← hWL, ← hWE] at HS
    by_cases h1 : 1099511627776 ≤ WR
    · have e1 : wo21 S x y = true := by rw [HWO.out]; simp [h1]
      rw [if_pos e1, if_pos e1]
      clear HRUN HWO e1
      clear c4 hI hsv hsl hWR hWL hWE HOS HE HS' hw1 b1
      go_enter Tryd.func27, Tryd.ntmps27
      go_wp2_with fail
      rw [HW.out]
      refine (HR.out _ HB1.out).mono ?_
      rintro e w2 ⟨rfl, b2⟩
      have b2' : Below w.heap.size w w2 := HB1.out.trans (b2.mono HB1.out.size)
      have q2 := (b2.block _ (Array.getElem?_eq_some_iff.1 q1).1).trans q1
      have q20 := two_cell0 q2
      have q21 := two_cell1 q2
      go_wp2_with fail
      refine (HS.out _ b2').mono ?_
      rintro e w3 ⟨rfl, b3⟩
      have b3' : Below w.heap.size w w3 := b2'.trans (b3.mono b2'.size)
      have q3 := (b3.block _ (Array.getElem?_eq_some_iff.1 q2).1).trans q2
      have q30 := two_cell0 q3
      have q31 := two_cell1 q3
      have d4 := HC4.out w3 b3'
      go_wp2_with fail
      go_ret
      exact ⟨rfl, HFl.out.stay b3'⟩
    · by_cases h2 : 0 < S.lm
      · by_cases h3 : S.lm ≤ WR
        · have e1 : wo21 S x y = true := by rw [HWO.out]; simp [h2, h3]
          rw [if_pos e1, if_pos e1]
          clear HRUN HWO e1
          clear c4 hI hsv hsl hWR hWL hWE HOS HE HS' hw1 b1
          go_enter Tryd.func27, Tryd.ntmps27
          go_wp2_with fail
          rw [HW.out]
          refine (HR.out _ HB1.out).mono ?_
          rintro e w2 ⟨rfl, b2⟩
          have b2' : Below w.heap.size w w2 := HB1.out.trans (b2.mono HB1.out.size)
          have q2 := (b2.block _ (Array.getElem?_eq_some_iff.1 q1).1).trans q1
          have q20 := two_cell0 q2
          have q21 := two_cell1 q2
          go_wp2_with fail
          refine (HS.out _ b2').mono ?_
          rintro e w3 ⟨rfl, b3⟩
          have b3' : Below w.heap.size w w3 := b2'.trans (b3.mono b2'.size)
          have q3 := (b3.block _ (Array.getElem?_eq_some_iff.1 q2).1).trans q2
          have q30 := two_cell0 q3
          have q31 := two_cell1 q3
          have d4 := HC4.out w3 b3'
          go_wp2_with fail
          go_ret
          exact ⟨rfl, HFl.out.stay b3'⟩
        · have e1 : ¬ wo21 S x y = true := by rw [HWO.out]; simp [h1, h3]
          rw [if_neg e1, if_neg e1]
          rw [← hWR] at HRUN
          rw [← hWR]
          clear HWO e1
          clear c4 hI hsv hsl hWR hWL hWE HOS HE HS' hw1 b1
          generalize rn21 S 1 x y ⟨[], true, WR + 1⟩ = S' at *
          generalize rc21 S = E' at *
          go_enter Tryd.func27, Tryd.ntmps27
          go_wp2_with fail
          rw [HW.out]
          refine (HR.out _ HB1.out).mono ?_
          rintro e w2 ⟨rfl, b2⟩
          have b2' : Below w.heap.size w w2 := HB1.out.trans (b2.mono HB1.out.size)
          have q2 := (b2.block _ (Array.getElem?_eq_some_iff.1 q1).1).trans q1
          have q20 := two_cell0 q2
          have q21 := two_cell1 q2
          go_wp2_with fail
          refine (HS.out _ b2').mono ?_
          rintro e w3 ⟨rfl, b3⟩
          have b3' : Below w.heap.size w w3 := b2'.trans (b3.mono b2'.size)
          have q3 := (b3.block _ (Array.getElem?_eq_some_iff.1 q2).1).trans q2
          have q30 := two_cell0 q3
          have q31 := two_cell1 q3
          have d4 := HC4.out w3 b3'
          go_wp2_with fail
          refine (HRUN.out _ b3').mono ?_
          rintro e w4 ⟨rfl, hn⟩
          go_wp2_with fail
          go_ret
          exact ⟨rfl, hn.from b3'⟩
      · have e1 : ¬ wo21 S x y = true := by rw [HWO.out]; simp [h1, h2]
        rw [if_neg e1, if_neg e1]
        rw [← hWR] at HRUN
        rw [← hWR]
        clear HWO e1
        clear c4 hI hsv hsl hWR hWL hWE HOS HE HS' hw1 b1
        generalize rn21 S 1 x y ⟨[], true, WR + 1⟩ = S' at *
        generalize rc21 S = E' at *
        go_enter Tryd.func27, Tryd.ntmps27
        go_wp2_with fail
        rw [HW.out]
        refine (HR.out _ HB1.out).mono ?_
        rintro e w2 ⟨rfl, b2⟩
        have b2' : Below w.heap.size w w2 := HB1.out.trans (b2.mono HB1.out.size)
        have q2 := (b2.block _ (Array.getElem?_eq_some_iff.1 q1).1).trans q1
        have q20 := two_cell0 q2
        have q21 := two_cell1 q2
        go_wp2_with fail
        refine (HS.out _ b2').mono ?_
        rintro e w3 ⟨rfl, b3⟩
        have b3' : Below w.heap.size w w3 := b2'.trans (b3.mono b2'.size)
        have q3 := (b3.block _ (Array.getElem?_eq_some_iff.1 q2).1).trans q2
        have q30 := two_cell0 q3
        have q31 := two_cell1 q3
        have d4 := HC4.out w3 b3'
        go_wp2_with fail
        refine (HRUN.out _ b3').mono ?_
        rintro e w4 ⟨rfl, hn⟩
        go_wp2_with fail
        go_ret
        exact ⟨rfl, hn.from b3'⟩
  · rw [if_pos (show rf ≠ 0 from hrf), if_pos (show rf ≠ 0 from hrf)]
    have hrf' : (rf == 0) = false := by simp [hrf]
    clear HRUN HWO c4 hI hsv hsl HOS HE HS' hw1 b1
    go_enter Tryd.func27, Tryd.ntmps27
    go_wp2_with fail
    rw [HW.out]
    refine (HR.out _ HB1.out).mono ?_
    rintro e w2 ⟨rfl, b2⟩
    have b2' : Below w.heap.size w w2 := HB1.out.trans (b2.mono HB1.out.size)
    have q2 := (b2.block _ (Array.getElem?_eq_some_iff.1 q1).1).trans q1
    have q20 := two_cell0 q2
    have q21 := two_cell1 q2
    go_wp2_with fail
    go_ret
    exact ⟨rfl, HFl.out.stay b2'⟩
end Go.Proofs.YtjoghmdjnkdokaaDoor

namespace Go.Proofs.YtjoghmdjnkdokaaDoor
open Go.RowKit Go.Shelf
set_option linter.unusedVariables false
set_option linter.unusedSimpArgs false

/-! The landed flash: Power, On, Ops, Turn, Limit, Wear. -/
/-- Some cells of a device are set anew. -/
theorem Fl21.re {w w' : World} {b : Nat} {F : Nat → Prop} {S S' : Fs21} (h : Fl21 w b F S) (hk : Kp (fun k => k = b) w w') (e1 : S'.pa = S.pa) (e2 : S'.lg = S.lg) (e3 : S'.tn = S.tn)
    (hp : ∀ m ta tc la lc, w.heap[b]? = some (.cells #[.int .i64 (S.pg : Int), .int .i64 (S.ps : Int), .int .i64 S.ac, .bool S.on, .int .i64 S.lm, .map (some m), .int .i64 S.lf, .slice ta S.tn.length tc, .slice la S.lg.length lc] 65 (0, 0)) → w'.heap[b]? = some (.cells #[.int .i64 (S'.pg : Int), .int .i64 (S'.ps : Int), .int .i64 S'.ac, .bool S'.on, .int .i64 S'.lm, .map (some m), .int .i64 S'.lf, .slice ta S.tn.length tc, .slice la S.lg.length lc] 65 (0, 0))) : Fn21 w w' b F S' := by
  obtain ⟨m, c, f, ta, tc, la, lc, V, h1, h2, h3, h4, h5, h6⟩ := h
  refine ⟨F, ⟨m, c, f, ta, tc, la, lc, V, h1.re hk e1 e2 (by rw [e3]; exact h1.ht) (by rw [e3, e2]; exact hp _ _ _ _ _ h1.hp), h2, h3, by rw [e2]; exact h4, h5, fun k e => Nat.lt_of_lt_of_le (h6 k e) hk.size⟩, fun _ e => .inl e, hk.mono (fun i _ e => e ▸ h2)⟩
theorem Fl21.cells {w : World} {b : Nat} {F : Nat → Prop} {S : Fs21} (h : Fl21 w b F S) : w.cell? ⟨b, 0, none⟩ = some (.int .i64 (S.pg : Int)) ∧ w.cell? ⟨b, 1, none⟩ = some (.int .i64 (S.ps : Int)) ∧ w.cell? ⟨b, 2, none⟩ = some (.int .i64 S.ac) ∧ w.cell? ⟨b, 3, none⟩ = some (.bool S.on) ∧ w.cell? ⟨b, 4, none⟩ = some (.int .i64 S.lm) ∧ ∀ i, w.frozen? ⟨b, i, none⟩ = false := by
  obtain ⟨m, c, f, ta, tc, la, lc, V, h1, _⟩ := h
  exact ⟨h1.cel (i := 0) rfl, h1.cel (i := 1) rfl, h1.cel (i := 2) rfl, h1.cel (i := 3) rfl, h1.cel (i := 4) rfl, h1.fr⟩
section
variable {w : World} {b : Nat} {F : Nat → Prop} {S : Fs21}
set_option maxRecDepth 100000 in
set_option maxHeartbeats 1000000 in
theorem ppow21 (hF : Fl21 w b F S) (hO : Ok21 S) : Calls Tryd.prog 12 #[.pointer (some ⟨b, 0, none⟩)] w fun e w' => e = .returned (.tuple #[]) ∧ Fn21 w w' b F { S with on := true } := by
  obtain ⟨c0, c1, c2, c3, c4, cf⟩ := hF.cells
  have HM := pmade21 b S.pg w c0 hO.pg.1
  have HF : Hid (Fl21 w b F S) := hF
  have f3 := cf 3
  clear hF cf c0 c1 c2 c4
  go_enter Tryd.func12, Tryd.ntmps12
  go_wp2_with fail
  refine HM.mono ?_
  rintro e w1 ⟨rfl, hw⟩
  subst w1
  go_wp2_with fail
  go_end0
  exact ⟨rfl, HF.out.re (Kp.set (S := fun k => k = b) rfl _) rfl rfl rfl (fun m ta tc la lc h => by simp [World.setCell, Array.getElem?_modify, h])⟩
set_option maxRecDepth 100000 in
set_option maxHeartbeats 1000000 in
theorem pon21 (hF : Fl21 w b F S) (hO : Ok21 S) : Calls Tryd.prog 19 #[.pointer (some ⟨b, 0, none⟩)] w fun e w' => e = .returned (.bool S.on) ∧ w' = w := by
  obtain ⟨c0, c1, c2, c3, c4, cf⟩ := hF.cells
  have HM := pstop21 b S.pg S.on w c0 hO.pg.1 c3
  clear hF cf c0 c1 c2 c4 c3
  cases hon : S.on
  all_goals
    rw [hon] at HM
    go_enter Tryd.func19, Tryd.ntmps19
    go_wp2_with fail
    refine HM.mono ?_
    rintro e w1 ⟨rfl, hw⟩
    subst w1
    go_wp2_with fail
    go_ret
    exact ⟨rfl, rfl⟩
set_option maxRecDepth 100000 in
set_option maxHeartbeats 1000000 in
theorem pops21 (hF : Fl21 w b F S) (hO : Ok21 S) : Calls Tryd.prog 18 #[.pointer (some ⟨b, 0, none⟩)] w fun e w' => e = .returned (.int .i64 (S.lg.length : Int)) ∧ w' = w := by
  obtain ⟨c0, c1, c2, c3, c4, cf⟩ := hF.cells
  have HM := pmade21 b S.pg w c0 hO.pg.1
  obtain ⟨m, c, f, ta, tc, la, lc, V, h1, _⟩ := hF
  have c8 := h1.cel (i := 8) rfl
  clear h1 cf c0 c1 c2 c4 c3
  go_enter Tryd.func18, Tryd.ntmps18
  go_wp2_with fail
  refine HM.mono ?_
  rintro e w1 ⟨rfl, hw⟩
  subst w1
  go_wp2_with fail
  go_ret
  exact ⟨rfl, rfl⟩
def tuS21 (S : Fs21) : Fs21 := if S.on then { S with ac := 1 - S.ac } else S
set_option maxRecDepth 100000 in
set_option maxHeartbeats 1000000 in
theorem ptrn21 (hF : Fl21 w b F S) (hO : Ok21 S) : Calls Tryd.prog 36 #[.pointer (some ⟨b, 0, none⟩)] w fun e w' => e = .returned (.int .i64 (st21 S.on)) ∧ Fn21 w w' b F (tuS21 S) := by
  obtain ⟨c0, c1, c2, c3, c4, cf⟩ := hF.cells
  have HM := pstop21 b S.pg S.on w c0 hO.pg.1 c3
  have HF : Hid (Fl21 w b F S) := hF
  have f2 := cf 2
  have hac : IntKind.i64.wrap (1 - S.ac) = 1 - S.ac := IntWalk.i64_in _ (by have := hO.ac; omega)
  have HT : Hid (tuS21 S = if S.on then { S with ac := 1 - S.ac } else S) := rfl
  rw [HT.out]
  clear hF cf c0 c1 c4 c3
  cases hon : S.on
  · rw [hon] at HM
    rw [if_neg (by simp)]
    go_enter Tryd.func36, Tryd.ntmps36
    go_wp2_with fail
    refine HM.mono ?_
    rintro e w1 ⟨rfl, hw⟩
    subst w1
    go_wp2_with fail
    go_ret
    exact ⟨rfl, HF.out.stay (Below.refl _ _)⟩
  · rw [hon] at HM
    rw [if_pos rfl]
    go_enter Tryd.func36, Tryd.ntmps36
    go_wp2_with fail
    refine HM.mono ?_
    rintro e w1 ⟨rfl, hw⟩
    subst w1
    go_wp2_with fail
    go_ret
    exact ⟨rfl, HF.out.re (Kp.set (S := fun k => k = b) rfl _) rfl rfl rfl (fun m ta tc la lc h => by simp [World.setCell, Array.getElem?_modify, h, hon])⟩
def liE21 (n : Int) : Int := if n < 0 ∨ 1099511627776 < n then 1 else 0
def liS21 (S : Fs21) (n : Int) : Fs21 := if n < 0 ∨ 1099511627776 < n then S else { S with lm := n }
set_option maxRecDepth 100000 in
set_option maxHeartbeats 1000000 in
theorem plim21 (hF : Fl21 w b F S) (hO : Ok21 S) (n : Int) : Calls Tryd.prog 38 #[.pointer (some ⟨b, 0, none⟩), .int .i64 n] w fun e w' => e = .returned (.int .i64 (liE21 n)) ∧ Fn21 w w' b F (liS21 S n) := by
  obtain ⟨c0, c1, c2, c3, c4, cf⟩ := hF.cells
  have HM := pmade21 b S.pg w c0 hO.pg.1
  have HF : Hid (Fl21 w b F S) := hF
  have f4 := cf 4
  have HT : Hid (liE21 n = (if n < 0 ∨ 1099511627776 < n then 1 else 0) ∧ liS21 S n = if n < 0 ∨ 1099511627776 < n then S else { S with lm := n }) := ⟨rfl, rfl⟩
  rw [HT.out.1, HT.out.2]
  clear hF cf c0 c1 c2 c3
  by_cases h1 : n < 0
  · rw [if_pos (.inl h1), if_pos (.inl h1)]
    go_enter Tryd.func38, Tryd.ntmps38
    go_wp2_with fail
    refine HM.mono ?_
    rintro e w1 ⟨rfl, hw⟩
    subst w1
    go_wp2_with fail
    go_ret
    exact ⟨rfl, HF.out.stay (Below.refl _ _)⟩
  · by_cases h2 : 1099511627776 < n
    · rw [if_pos (.inr h2), if_pos (.inr h2)]
      go_enter Tryd.func38, Tryd.ntmps38
      go_wp2_with fail
      refine HM.mono ?_
      rintro e w1 ⟨rfl, hw⟩
      subst w1
      go_wp2_with fail
      go_ret
      exact ⟨rfl, HF.out.stay (Below.refl _ _)⟩
    · rw [if_neg (by omega), if_neg (by omega)]
      go_enter Tryd.func38, Tryd.ntmps38
      go_wp2_with fail
      refine HM.mono ?_
      rintro e w1 ⟨rfl, hw⟩
      subst w1
      go_wp2_with fail
      go_ret
      exact ⟨rfl, HF.out.re (Kp.set (S := fun k => k = b) rfl _) rfl rfl rfl (fun m ta tc la lc h => by simp [World.setCell, Array.getElem?_modify, h])⟩
def weV21 (S : Fs21) (x y : Int) : Int := if ms21 S.ps x y ≠ 0 then 0 else (sh21 S x y).wr
set_option maxRecDepth 100000 in
set_option maxHeartbeats 2000000 in
theorem pwear21 (hF : Fl21 w b F S) (hO : Ok21 S) (x y : Int) (hx : In21 x) (hy : In21 y) : Calls Tryd.prog 40 #[.pointer (some ⟨b, 0, none⟩), .int .i64 x, .int .i64 y] w fun e w' => e = .returned (.tuple #[.int .i64 (weV21 S x y), .int .i64 (ms21 S.ps x y)]) ∧ Below w.heap.size w w' := by
  obtain ⟨c0, c1, c2, c3, c4, cf⟩ := hF.cells
  have HM := pmade21 b S.pg w c0 hO.pg.1
  obtain ⟨m, c, f, ta, tc, la, lc, V, hI, hFb, hFm, hFl, hFV, hFs⟩ := hF
  obtain ⟨w1, hw1⟩ : ∃ w1, w1 = w.alloc (.cells #[.int .i64 x, .int .i64 y] 69) := ⟨_, rfl⟩
  have HW : Hid (w.alloc (.cells #[.int .i64 x, .int .i64 y] 69) = w1) := hw1.symm
  have b1 : Below w.heap.size w w1 := by rw [hw1]; exact (Below.refl _ _).alloc (Nat.le_refl _) _
  have q1 : w1.heap[w.heap.size]? = some (.cells #[.int .i64 x, .int .i64 y] 69 (0, 0)) := by rw [hw1]; exact heap_alloc_new _ _
  have HB1 : Hid (Below w.heap.size w w1) := b1
  have HR : Hid (∀ W : World, Below w.heap.size w W → Calls Tryd.prog 60 #[.pointer (some ⟨b, 0, none⟩), .agg #[.int .i64 x, .int .i64 y]] W fun e w' => e = .returned (.int .i64 (ms21 S.ps x y)) ∧ Below W.heap.size W w') := fun W hW => pmiss21 b S.ps x y W ((hI.old hW).cel (i := 1) rfl)
  have HS : Hid (∀ W : World, Below w.heap.size w W → Calls Tryd.prog 54 #[.pointer (some ⟨b, 0, none⟩), .agg #[.int .i64 x, .int .i64 y]] W fun e w' => e = .returned (shv21 (f x y) x) ∧ Below W.heap.size W w') := fun W hW => psht21 b m c f x y hx hy W ((hI.old hW).cel (i := 5) rfl) (hI.old hW).hm (hI.sv x y)
  obtain ⟨wa, wcap, hsv, hsl⟩ := hI.shv x y
  rw [hsv] at HS
  have HE : Hid (weV21 S x y = if ms21 S.ps x y ≠ 0 then 0 else (sh21 S x y).wr) := rfl
  rw [HE.out]
  generalize ms21 S.ps x y = rf at *
  obtain ⟨WR, hWR⟩ : ∃ WR, WR = (sh21 S x y).wr := ⟨_, rfl⟩
  obtain ⟨WL, hWL⟩ : ∃ WL, WL = (sh21 S x y).b.length := ⟨_, rfl⟩
  obtain ⟨WE, hWE⟩ : ∃ WE, WE = (sh21 S x y).er := ⟨_, rfl⟩
  have hfd := fld21 wa WL wcap WE WR
  rw [← hWR, ← hWL, ← hWE] at HS
  rw [← hWR]
  clear hWR hWL hWE hsv hsl hI hFb hFm hFl hFV hFs cf c0 c1 c2 c3 c4 hw1 b1 HE
  by_cases hrf : rf = 0
  · subst hrf
    rw [if_neg (show ¬ ((0 : Int) ≠ 0) by simp)]
    go_enter Tryd.func40, Tryd.ntmps40
    go_wp2_with fail
    refine HM.mono ?_
    rintro e w1 ⟨rfl, hw⟩
    subst w1
    go_wp2_with fail
    rw [HW.out]
    refine (HR.out _ HB1.out).mono ?_
    rintro e w2 ⟨rfl, b2⟩
    have b2' : Below w.heap.size w w2 := HB1.out.trans (b2.mono HB1.out.size)
    have q2 := (b2.block _ (Array.getElem?_eq_some_iff.1 q1).1).trans q1
    have q20 := two_cell0 q2
    have q21 := two_cell1 q2
    go_wp2_with fail
    refine (HS.out _ b2').mono ?_
    rintro e w3 ⟨rfl, b3⟩
    go_wp2_with fail
    go_ret2
    exact ⟨rfl, b2'.trans (b3.mono b2'.size)⟩
  · rw [if_pos (show rf ≠ 0 from hrf)]
    have hrf' : (rf == 0) = false := by simp [hrf]
    go_enter Tryd.func40, Tryd.ntmps40
    go_wp2_with fail
    refine HM.mono ?_
    rintro e w1 ⟨rfl, hw⟩
    subst w1
    go_wp2_with fail
    rw [HW.out]
    refine (HR.out _ HB1.out).mono ?_
    rintro e w2 ⟨rfl, b2⟩
    go_wp2_with fail
    go_ret2
    exact ⟨rfl, HB1.out.trans (b2.mono HB1.out.size)⟩
end
end Go.Proofs.YtjoghmdjnkdokaaDoor
