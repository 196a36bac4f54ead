import Derived.Test.YtmjlpfmacblcpaaDoorPk
namespace Go.Proofs.YtmjlpfmacblcpaaDoor
open Go.RowKit Go.Shelf
set_option linter.unusedVariables false
set_option linter.unusedSimpArgs false
theorem Fl21.old {w w' : World} {b : Nat} {F : Nat → Prop} {S : Fs21} (h : Fl21 w b F S) (hb : Below w.heap.size w w') : Fl21 w' b F S := by
  obtain ⟨m, c, f, ta, tc, la, lc, V, h1, h2, h3, h4, h5, h6⟩ := h
  exact ⟨m, c, f, ta, tc, la, lc, V, h1.old hb, h2, h3, h4, h5, fun k e => Nat.lt_of_lt_of_le (h6 k e) hb.size⟩
theorem Fl21.stay {w w' : World} {b : Nat} {F : Nat → Prop} {S : Fs21} (h : Fl21 w b F S) (hb : Below w.heap.size w w') : Fn21 w w' b F S := ⟨F, h.old hb, fun _ e => .inl e, Kp.of_below hb⟩
theorem Fn21.from {w w1 w' : World} {b : Nat} {F : Nat → Prop} {S : Fs21} (h : Fn21 w1 w' b F S) (hb : Below w.heap.size w w1) : Fn21 w w' b F S := by
  obtain ⟨F', h1, h2, h3⟩ := h
  exact ⟨F', h1, fun k e => by rcases h2 k e with h | h; (exact .inl h); (exact .inr (Nat.le_trans hb.size h)), (Kp.of_below hb).trans h3 (fun _ _ e => e)⟩
theorem Fl21.lt {w : World} {b : Nat} {F : Nat → Prop} {S : Fs21} (h : Fl21 w b F S) : b < w.heap.size := by
  obtain ⟨m, c, f, ta, tc, la, lc, V, h1, _⟩ := h
  exact h1.bl
theorem Fl21.kp {w w' : World} {b : Nat} {F : Nat → Prop} {S : Fs21} (h : Fl21 w b F S) (hk : ∀ k, F k → w'.heap[k]? = w.heap[k]?) (hs : w.heap.size ≤ w'.heap.size) : Fl21 w' b F S := by
  obtain ⟨m, c, f, ta, tc, la, lc, V, h1, h2, h3, h4, h5, h6⟩ := h
  exact ⟨m, c, f, ta, tc, la, lc, V, h1.kp (hk b h2) (hk m h3) (fun k e => hk k (h4 k e)) (fun k e => hk k (h5 k e)) hs, h2, h3, h4, h5, fun k e => Nat.lt_of_lt_of_le (h6 k e) hs⟩
def wo21 (S : Fs21) (x y : Int) : Bool := decide (1099511627776 ≤ (sh21 S x y).wr) || (decide (0 < S.lm) && decide (S.lm ≤ (sh21 S x y).wr))
def erE21 (S : Fs21) (x y : Int) : Int := if rf21 S.on S.ps x y ≠ 0 then rf21 S.on S.ps x y else if wo21 S x y then 214 else rc21 S
def erS21 (S : Fs21) (x y : Int) : Fs21 := if rf21 S.on S.ps x y ≠ 0 then S else if wo21 S x y then S else rn21 S 1 x y ⟨[], true, (sh21 S x y).wr + 1⟩
theorem fld21 (a : Option Addr) (n c : Nat) (er : Bool) (wr : Int) (W : World) : (Instr.field 89 (.agg #[.slice a n c, .bool er, .int .i64 wr]) 2).run Tryd.prog W = .ok (.int .i64 wr) W := by kernel_rfl
set_option maxRecDepth 100000 in
set_option maxHeartbeats 8000000 in
theorem perase21 {w : World} {b : Nat} {F : Nat → Prop} {S : Fs21} (hF : Fl21 w b F S) (hO : Ok21 S) (x y : Int) (hx : In21 x) (hy : In21 y) (hlg : S.lg.length ≤ 5500000001000) :
    Calls Tryd.prog 46 #[.pointer (some ⟨b, 0, none⟩), .int .i64 x, .int .i64 y] w fun e w' => e = .returned (.int .i64 (erE21 S x y)) ∧ Fn21 w w' b F (erS21 S x y) := by
  have HFl : Hid (Fl21 w b F S) := hF
  obtain ⟨m, c, f, ta, tc, la, lc, V, hI, hFb, hFm, hFl, hFV, hFs⟩ := hF
  have hlt := hI.bl
  obtain ⟨w1, hw1⟩ : ∃ w1, w1 = w.alloc (.cells #[.int .i64 x, .int .i64 y] 98) := ⟨_, rfl⟩
  have HW : Hid (w.alloc (.cells #[.int .i64 x, .int .i64 y] 98) = w1) := hw1.symm
  have b1 : Below w.heap.size w w1 := by rw [hw1]; exact (Below.refl _ _).alloc (Nat.le_refl _) _
  have q1 : w1.heap[w.heap.size]? = some (.cells #[.int .i64 x, .int .i64 y] 98 (0, 0)) := by rw [hw1]; exact heap_alloc_new _ _
  have HB1 : Hid (Below w.heap.size w w1) := b1
  have HR : Hid (∀ W : World, Below w.heap.size w W → Calls Tryd.prog 92 #[.pointer (some ⟨b, 0, none⟩), .agg #[.int .i64 x, .int .i64 y]] W fun e w' => e = .returned (.int .i64 (rf21 S.on S.ps x y)) ∧ Below W.heap.size W w') := fun W hW => pref21 b S.pg S.ps S.on x y W ((hI.old hW).cel (i := 0) rfl) hO.pg.1 ((hI.old hW).cel (i := 1) rfl) ((hI.old hW).cel (i := 3) rfl)
  have HS : Hid (∀ W : World, Below w.heap.size w W → Calls Tryd.prog 50 #[.pointer (some ⟨b, 0, none⟩), .agg #[.int .i64 x, .int .i64 y]] W fun e w' => e = .returned (shv21 (f x y) x) ∧ Below W.heap.size W w') := fun W hW => psht21 b m c f x y hx hy W ((hI.old hW).cel (i := 5) rfl) (hI.old hW).hm (hI.sv x y)
  obtain ⟨wa, wcap, hsv, hsl⟩ := hI.shv x y
  rw [hsv] at HS
  have HOS := sh21_ok hO x y
  have HRUN : Hid (∀ W : World, Below w.heap.size w W → Calls Tryd.prog 93 #[.pointer (some ⟨b, 0, none⟩), .iface 168 (.agg #[.int .i64 x, .int .i64 y])] W fun e w' => e = .returned (.int .i64 (rc21 S)) ∧ Fn21 W w' b F (rn21 S 1 x y ⟨[], true, (sh21 S x y).wr + 1⟩)) := fun W hW => prun21 (hI.old hW) hO x y hx hy _ _ 1 ⟨[], true, (sh21 S x y).wr + 1⟩ hlg (mte21 x y) (fun Y a n k er hY => (pafe21 er (sh21 S x y).wr a n k x y ⟨HOS.2.1, HOS.2.2⟩ Y).mono (by
    rintro e w' ⟨rfl, hb⟩
    exact ⟨⟨none, 0, rfl, SegK.nil (by decide) _ _, .inl rfl, fun _ => rfl, by simp⟩, hb⟩)) F hFb hFm hFl hFV (fun k e => Nat.lt_of_lt_of_le (hFs k e) hW.size)
  have c4 : ∀ W : World, Below w.heap.size w W → W.cell? ⟨b, 4, none⟩ = some (.int .i64 S.lm) := fun W hW => (hI.old hW).cel (i := 4) rfl
  have HC4 : Hid (∀ W : World, Below w.heap.size w W → W.cell? ⟨b, 4, none⟩ = some (.int .i64 S.lm)) := c4
  have HE : Hid (erE21 S x y = if rf21 S.on S.ps x y ≠ 0 then rf21 S.on S.ps x y else if wo21 S x y then 214 else rc21 S) := rfl
  have HS' : Hid (erS21 S x y = if rf21 S.on S.ps x y ≠ 0 then S else if wo21 S x y then S else rn21 S 1 x y ⟨[], true, (sh21 S x y).wr + 1⟩) := rfl
  rw [HE.out, HS'.out]
  have HWO : Hid (wo21 S x y = (decide (1099511627776 ≤ (sh21 S x y).wr) || (decide (0 < S.lm) && decide (S.lm ≤ (sh21 S x y).wr)))) := rfl
  generalize rf21 S.on S.ps x y = rf at *
  by_cases hrf : rf = 0
  · subst hrf
    rw [if_neg (show ¬ ((0 : Int) ≠ 0) by simp), if_neg (show ¬ ((0 : Int) ≠ 0) by simp)]
    obtain ⟨WR, hWR⟩ : ∃ WR, WR = (sh21 S x y).wr := ⟨_, rfl⟩
    obtain ⟨WL, hWL⟩ : ∃ WL, WL = (sh21 S x y).b.length := ⟨_, rfl⟩
    obtain ⟨WE, hWE⟩ : ∃ WE, WE = (sh21 S x y).er := ⟨_, rfl⟩
    have hfd := fld21 wa WL wcap WE WR
    rw [← hWR] at HWO
    rw [← hWR, ← hWL, ← hWE] at HS
    by_cases h1 : 1099511627776 ≤ WR
    · have e1 : wo21 S x y = true := by rw [HWO.out]; simp [h1]
      rw [if_pos e1, if_pos e1]
      clear HRUN HWO e1
      clear c4 hI hsv hsl hWR hWL hWE HOS HE HS' hw1 b1
      go_enter Tryd.func46, Tryd.ntmps46
      go_wp2_with fail
      rw [HW.out]
      refine (HR.out _ HB1.out).mono ?_
      rintro e w2 ⟨rfl, b2⟩
      have b2' : Below w.heap.size w w2 := HB1.out.trans (b2.mono HB1.out.size)
      have q2 := (b2.block _ (Array.getElem?_eq_some_iff.1 q1).1).trans q1
      have q20 := two_cell0 q2
      have q21 := two_cell1 q2
      go_wp2_with fail
      refine (HS.out _ b2').mono ?_
      rintro e w3 ⟨rfl, b3⟩
      have b3' : Below w.heap.size w w3 := b2'.trans (b3.mono b2'.size)
      have q3 := (b3.block _ (Array.getElem?_eq_some_iff.1 q2).1).trans q2
      have q30 := two_cell0 q3
      have q31 := two_cell1 q3
      have d4 := HC4.out w3 b3'
      go_wp2_with fail
      go_ret
      exact ⟨rfl, HFl.out.stay b3'⟩
    · by_cases h2 : 0 < S.lm
      · by_cases h3 : S.lm ≤ WR
        · have e1 : wo21 S x y = true := by rw [HWO.out]; simp [h2, h3]
          rw [if_pos e1, if_pos e1]
          clear HRUN HWO e1
          clear c4 hI hsv hsl hWR hWL hWE HOS HE HS' hw1 b1
          go_enter Tryd.func46, Tryd.ntmps46
          go_wp2_with fail
          rw [HW.out]
          refine (HR.out _ HB1.out).mono ?_
          rintro e w2 ⟨rfl, b2⟩
          have b2' : Below w.heap.size w w2 := HB1.out.trans (b2.mono HB1.out.size)
          have q2 := (b2.block _ (Array.getElem?_eq_some_iff.1 q1).1).trans q1
          have q20 := two_cell0 q2
          have q21 := two_cell1 q2
          go_wp2_with fail
          refine (HS.out _ b2').mono ?_
          rintro e w3 ⟨rfl, b3⟩
          have b3' : Below w.heap.size w w3 := b2'.trans (b3.mono b2'.size)
          have q3 := (b3.block _ (Array.getElem?_eq_some_iff.1 q2).1).trans q2
          have q30 := two_cell0 q3
          have q31 := two_cell1 q3
          have d4 := HC4.out w3 b3'
          go_wp2_with fail
          go_ret
          exact ⟨rfl, HFl.out.stay b3'⟩
        · have e1 : ¬ wo21 S x y = true := by rw [HWO.out]; simp [h1, h3]
          rw [if_neg e1, if_neg e1]
          rw [← hWR] at HRUN
          rw [← hWR]
          clear HWO e1
          clear c4 hI hsv hsl hWR hWL hWE HOS HE HS' hw1 b1
          generalize rn21 S 1 x y ⟨[], true, WR + 1⟩ = S' at *
          generalize rc21 S = E' at *
          go_enter Tryd.func46, Tryd.ntmps46
          go_wp2_with fail
          rw [HW.out]
          refine (HR.out _ HB1.out).mono ?_
          rintro e w2 ⟨rfl, b2⟩
          have b2' : Below w.heap.size w w2 := HB1.out.trans (b2.mono HB1.out.size)
          have q2 := (b2.block _ (Array.getElem?_eq_some_iff.1 q1).1).trans q1
          have q20 := two_cell0 q2
          have q21 := two_cell1 q2
          go_wp2_with fail
          refine (HS.out _ b2').mono ?_
          rintro e w3 ⟨rfl, b3⟩
          have b3' : Below w.heap.size w w3 := b2'.trans (b3.mono b2'.size)
          have q3 := (b3.block _ (Array.getElem?_eq_some_iff.1 q2).1).trans q2
          have q30 := two_cell0 q3
          have q31 := two_cell1 q3
          have d4 := HC4.out w3 b3'
          go_wp2_with fail
          refine (HRUN.out _ b3').mono ?_
          rintro e w4 ⟨rfl, hn⟩
          go_wp2_with fail
          go_ret
          exact ⟨rfl, hn.from b3'⟩
      · have e1 : ¬ wo21 S x y = true := by rw [HWO.out]; simp [h1, h2]
        rw [if_neg e1, if_neg e1]
        rw [← hWR] at HRUN
        rw [← hWR]
        clear HWO e1
        clear c4 hI hsv hsl hWR hWL hWE HOS HE HS' hw1 b1
        generalize rn21 S 1 x y ⟨[], true, WR + 1⟩ = S' at *
        generalize rc21 S = E' at *
        go_enter Tryd.func46, Tryd.ntmps46
        go_wp2_with fail
        rw [HW.out]
        refine (HR.out _ HB1.out).mono ?_
        rintro e w2 ⟨rfl, b2⟩
        have b2' : Below w.heap.size w w2 := HB1.out.trans (b2.mono HB1.out.size)
        have q2 := (b2.block _ (Array.getElem?_eq_some_iff.1 q1).1).trans q1
        have q20 := two_cell0 q2
        have q21 := two_cell1 q2
        go_wp2_with fail
        refine (HS.out _ b2').mono ?_
        rintro e w3 ⟨rfl, b3⟩
        have b3' : Below w.heap.size w w3 := b2'.trans (b3.mono b2'.size)
        have q3 := (b3.block _ (Array.getElem?_eq_some_iff.1 q2).1).trans q2
        have q30 := two_cell0 q3
        have q31 := two_cell1 q3
        have d4 := HC4.out w3 b3'
        go_wp2_with fail
        refine (HRUN.out _ b3').mono ?_
        rintro e w4 ⟨rfl, hn⟩
        go_wp2_with fail
        go_ret
        exact ⟨rfl, hn.from b3'⟩
  · rw [if_pos (show rf ≠ 0 from hrf), if_pos (show rf ≠ 0 from hrf)]
    have hrf' : (rf == 0) = false := by simp [hrf]
    clear HRUN HWO c4 hI hsv hsl HOS HE HS' hw1 b1
    go_enter Tryd.func46, Tryd.ntmps46
    go_wp2_with fail
    rw [HW.out]
    refine (HR.out _ HB1.out).mono ?_
    rintro e w2 ⟨rfl, b2⟩
    have b2' : Below w.heap.size w w2 := HB1.out.trans (b2.mono HB1.out.size)
    have q2 := (b2.block _ (Array.getElem?_eq_some_iff.1 q1).1).trans q1
    have q20 := two_cell0 q2
    have q21 := two_cell1 q2
    go_wp2_with fail
    go_ret
    exact ⟨rfl, HFl.out.stay b2'⟩
end Go.Proofs.YtmjlpfmacblcpaaDoor

namespace Go.Proofs.YtmjlpfmacblcpaaDoor
open Go.RowKit Go.Shelf
set_option linter.unusedVariables false
set_option linter.unusedSimpArgs false
/-- Some cells of a device are set anew. -/
theorem Fl21.re {w w' : World} {b : Nat} {F : Nat → Prop} {S S' : Fs21} (h : Fl21 w b F S) (hk : Kp (fun k => k = b) w w') (e1 : S'.pa = S.pa) (e2 : S'.lg = S.lg) (e3 : S'.tn = S.tn)
    (hp : ∀ m ta tc la lc, w.heap[b]? = some (.cells #[.int .i64 (S.pg : Int), .int .i64 (S.ps : Int), .int .i64 S.ac, .bool S.on, .int .i64 S.lm, .map (some m), .int .i64 S.lf, .slice ta S.tn.length tc, .slice la S.lg.length lc] 96 (0, 0)) → w'.heap[b]? = some (.cells #[.int .i64 (S'.pg : Int), .int .i64 (S'.ps : Int), .int .i64 S'.ac, .bool S'.on, .int .i64 S'.lm, .map (some m), .int .i64 S'.lf, .slice ta S.tn.length tc, .slice la S.lg.length lc] 96 (0, 0))) : Fn21 w w' b F S' := by
  obtain ⟨m, c, f, ta, tc, la, lc, V, h1, h2, h3, h4, h5, h6⟩ := h
  refine ⟨F, ⟨m, c, f, ta, tc, la, lc, V, h1.re hk e1 e2 (by rw [e3]; exact h1.ht) (by rw [e3, e2]; exact hp _ _ _ _ _ h1.hp), h2, h3, by rw [e2]; exact h4, h5, fun k e => Nat.lt_of_lt_of_le (h6 k e) hk.size⟩, fun _ e => .inl e, hk.mono (fun i _ e => e ▸ h2)⟩
theorem Fl21.cells {w : World} {b : Nat} {F : Nat → Prop} {S : Fs21} (h : Fl21 w b F S) : w.cell? ⟨b, 0, none⟩ = some (.int .i64 (S.pg : Int)) ∧ w.cell? ⟨b, 1, none⟩ = some (.int .i64 (S.ps : Int)) ∧ w.cell? ⟨b, 2, none⟩ = some (.int .i64 S.ac) ∧ w.cell? ⟨b, 3, none⟩ = some (.bool S.on) ∧ w.cell? ⟨b, 4, none⟩ = some (.int .i64 S.lm) ∧ ∀ i, w.frozen? ⟨b, i, none⟩ = false := by
  obtain ⟨m, c, f, ta, tc, la, lc, V, h1, _⟩ := h
  exact ⟨h1.cel (i := 0) rfl, h1.cel (i := 1) rfl, h1.cel (i := 2) rfl, h1.cel (i := 3) rfl, h1.cel (i := 4) rfl, h1.fr⟩
section
variable {w : World} {b : Nat} {F : Nat → Prop} {S : Fs21}
set_option maxRecDepth 100000 in
set_option maxHeartbeats 1000000 in
theorem ppow21 (hF : Fl21 w b F S) (hO : Ok21 S) : Calls Tryd.prog 29 #[.pointer (some ⟨b, 0, none⟩)] w fun e w' => e = .returned (.tuple #[]) ∧ Fn21 w w' b F { S with on := true } := by
  obtain ⟨c0, c1, c2, c3, c4, cf⟩ := hF.cells
  have HM := pmade21 b S.pg w c0 hO.pg.1
  have HF : Hid (Fl21 w b F S) := hF
  have f3 := cf 3
  clear hF cf c0 c1 c2 c4
  go_enter Tryd.func29, Tryd.ntmps29
  go_wp2_with fail
  refine HM.mono ?_
  rintro e w1 ⟨rfl, hw⟩
  subst w1
  go_wp2_with fail
  go_end0
  exact ⟨rfl, HF.out.re (Kp.set (S := fun k => k = b) rfl _) rfl rfl rfl (fun m ta tc la lc h => by simp [World.setCell, Array.getElem?_modify, h])⟩
set_option maxRecDepth 100000 in
set_option maxHeartbeats 1000000 in
theorem pon21 (hF : Fl21 w b F S) (hO : Ok21 S) : Calls Tryd.prog 15 #[.pointer (some ⟨b, 0, none⟩)] w fun e w' => e = .returned (.bool S.on) ∧ w' = w := by
  obtain ⟨c0, c1, c2, c3, c4, cf⟩ := hF.cells
  have HM := pstop21 b S.pg S.on w c0 hO.pg.1 c3
  clear hF cf c0 c1 c2 c4 c3
  cases hon : S.on
  all_goals
    rw [hon] at HM
    go_enter Tryd.func15, Tryd.ntmps15
    go_wp2_with fail
    refine HM.mono ?_
    rintro e w1 ⟨rfl, hw⟩
    subst w1
    go_wp2_with fail
    go_ret
    exact ⟨rfl, rfl⟩
end
end Go.Proofs.YtmjlpfmacblcpaaDoor

namespace Go.Proofs.YtmjlpfmacblcpaaDoor
open Go.RowKit Go.Shelf
set_option linter.unusedVariables false
set_option linter.unusedSimpArgs false
section
variable {w w' : World} {b m c tc lc : Nat} {f : Int → Int → Option Value} {ta la : Option Addr} {V V' : Nat → Prop} {S S' : Fs21} {F : Nat → Prop}
theorem Fi21.wid (h : Fi21 w b m c f ta tc la lc V S) (hV : ∀ k, V k → V' k) (vb : ¬ V' b) (vm : ¬ V' m) (vl : ∀ k, (Value.slice la S.lg.length lc).ownBlock = some k → ¬ V' k) (vs : ∀ k, V' k → k < w.heap.size) : Fi21 w b m c f ta tc la lc V' S := by
  refine ⟨h.hp, h.hm, fun x y => ?_, h.ht.kp (fun _ _ => rfl) hV, h.hl, h.hc, vb, vm, vl, vs⟩
  rcases h.hf x y with q | ⟨s, v, q1, q2, q3⟩
  · exact .inl q
  · exact .inr ⟨s, v, q1, q2, q3.kp (fun _ _ => rfl) hV⟩
def cuE21 (S : Fs21) (n : Int) (l : Nat) : Int := if S.on = false then 213 else if n < 0 ∨ S.pg < l then 1 else 0
def cuS21 (S : Fs21) (n : Int) (L : List Int) : Fs21 := if S.on = false then S else if n < 0 ∨ S.pg < L.length then S else { S with lf := n, tn := if 0 < n then L else [] }
set_option maxRecDepth 100000 in
set_option maxHeartbeats 4000000 in
theorem pcut21 (hF : Fl21 w b F S) (hO : Ok21 S) (n : Int) (a : Option Addr) (L : List Int) (l cap : Nat) (hs : Seg w a L) (hl : Hid (L.length = l)) (hnil : a = none → cap = 0) :
    Calls Tryd.prog 27 #[.pointer (some ⟨b, 0, none⟩), .int .i64 n, .slice a l cap] w fun e w' => e = .returned (.int .i64 (cuE21 S n l)) ∧ Fn21 w w' b F (cuS21 S n L) := by
  obtain ⟨c0, c1, c2, c3, c4, cf⟩ := hF.cells
  have HST := pstop21 b S.pg S.on w c0 hO.pg.1 c3
  have HFl : Hid (Fl21 w b F S) := hF
  have HE : Hid (cuE21 S n l = if S.on = false then 213 else if n < 0 ∨ S.pg < l then 1 else 0) := rfl
  have HS : Hid (cuS21 S n L = if S.on = false then S else if n < 0 ∨ S.pg < l then S else { S with lf := n, tn := if 0 < n then L else [] }) := by show cuS21 S n L = _; rw [← hl.out]; rfl
  rw [HE.out, HS.out]
  have f6 := cf 6
  have f7 := cf 7
  by_cases hon : S.on = false
  · rw [hon] at HST
    rw [if_pos hon, if_pos hon]
    clear hF cf c1 c2 c3 c4
    go_enter Tryd.func27, Tryd.ntmps27
    go_wp2_with fail
    refine HST.mono ?_
    rintro e w1 ⟨rfl, hw⟩
    subst w1
    go_wp2_with fail
    go_ret
    exact ⟨rfl, HFl.out.stay (Below.refl _ _)⟩
  · have hon' : S.on = true := by simpa using hon
    rw [hon'] at HST
    rw [if_neg hon, if_neg hon]
    by_cases h1 : n < 0
    · rw [if_pos (show n < 0 ∨ S.pg < l from .inl h1), if_pos (show n < 0 ∨ S.pg < l from .inl h1)]
      clear hF cf c1 c2 c3 c4
      go_enter Tryd.func27, Tryd.ntmps27
      go_wp2_with fail
      refine HST.mono ?_
      rintro e w1 ⟨rfl, hw⟩
      subst w1
      go_wp2_with fail
      go_ret
      exact ⟨rfl, HFl.out.stay (Below.refl _ _)⟩
    · by_cases h2 : S.pg < l
      · rw [if_pos (show n < 0 ∨ S.pg < l from .inr h2), if_pos (show n < 0 ∨ S.pg < l from .inr h2)]
        have h2' : (S.pg : Int) < (l : Int) := by omega
        clear hF cf c1 c2 c3 c4
        go_enter Tryd.func27, Tryd.ntmps27
        go_wp2_with fail
        refine HST.mono ?_
        rintro e w1 ⟨rfl, hw⟩
        subst w1
        go_wp2_with fail
        go_ret
        exact ⟨rfl, HFl.out.stay (Below.refl _ _)⟩
      · rw [if_neg (show ¬ (n < 0 ∨ S.pg < l) by omega), if_neg (show ¬ (n < 0 ∨ S.pg < l) by omega)]
        have h2' : ¬ (S.pg : Int) < (l : Int) := by omega
        obtain ⟨m, c, f, ta, tc, la, lc, V, hI, hFb, hFm, hFl, hFV, hFs⟩ := hF
        have c6 := hI.cel (i := 6) rfl
        have c7 := hI.cel (i := 7) rfl
        obtain ⟨w1, hw1⟩ : ∃ w1, w1 = (w.setCell ⟨b, 6, none⟩ (.int .i64 0)).setCell ⟨b, 7, none⟩ (.slice none 0 0) := ⟨_, rfl⟩
        have HW1 : Hid ((w.setCell ⟨b, 6, none⟩ (.int .i64 0)).setCell ⟨b, 7, none⟩ (.slice none 0 0) = w1) := hw1.symm
        have k1 : Kp (fun k => k = b) w w1 := by rw [hw1]; exact (Kp.set (S := fun k => k = b) rfl _).trans (Kp.set (S := fun k => k = b) rfl _) (fun _ _ e => e)
        have hI1 : Fi21 w1 b m c f none 0 la lc V { S with lf := 0, tn := [] } := hI.re (S' := { S with lf := 0, tn := [] }) k1 rfl rfl ⟨SegK.nil (by decide) _ _, .inl rfl, fun _ => rfl, by simp⟩ (by rw [hw1]; simp [World.setCell, Array.getElem?_modify, hI.hp])
        have hsz : w1.heap.size = w.heap.size := by rw [hw1]; simp
        by_cases h3 : 0 < n
        · rw [if_pos h3]
          have hsb : ∀ k off, a = some ⟨k, off, none⟩ → 0 < L.length → k ≠ b := fun k off e hp e' => by
            obtain ⟨g', off', hx, hc⟩ := hs.at_ 0 hp
            rw [e] at hx
            cases hx
            subst e'
            rw [Nat.add_zero] at hc
            simp only [World.cell?, hI.hp] at hc
            rcases off with _ | _ | _ | _ | _ | _ | _ | _ | _ | off <;> simp at hc
          have hs1 : Seg w1 a L := hs.kp k1 (fun k off e hp => hsb k off e hp)
          have HC := pcl21 a L l cap w1 hs1 hl hnil (by have := hO.pg.2; omega)
          have d0 : w1.cell? ⟨b, 0, none⟩ = some (.int .i64 (S.pg : Int)) := hI1.cel (i := 0) rfl
          have HI1 : Hid (Fi21 w1 b m c f none 0 la lc V { S with lf := 0, tn := [] }) := hI1
          have HKS : Hid (Kp (fun k => k = b) w w1 ∧ w1.heap.size = w.heap.size) := ⟨k1, hsz⟩
          clear hs1 hs hI1 k1 hw1 hI cf c1 c2 c3 c4 hsz hsb
          go_enter Tryd.func27, Tryd.ntmps27
          go_wp2_with fail
          refine HST.mono ?_
          rintro e w1' ⟨rfl, hw⟩
          subst w1'
          go_wp2_with fail
          rw [HW1.out]
          refine HC.mono ?_
          rintro e w2 ⟨⟨ra, rc, rfl, hcl⟩, b2⟩
          have hI2 := HI1.out.old b2
          have e6 := hI2.cel (i := 6) rfl
          have e7 := hI2.cel (i := 7) rfl
          have g6 := hI2.fr 6
          have g7 := hI2.fr 7
          have HI2 : Hid (Fi21 w2 b m c f none 0 la lc V { S with lf := 0, tn := [] }) := hI2
          have HCL : Hid (Cl21 w2 ra L rc w1.heap.size) := hcl
          clear hI2 hcl
          go_wp2_with fail
          go_ret
          obtain ⟨q1, q2, q3, q4⟩ := HCL.out
          have hz := HKS.out.2
          have hVk : ∀ k, (V k ∨ ra = some ⟨k, 0, none⟩) → F k ∨ w.heap.size ≤ k := fun k e => by
            rcases e with e | e
            · exact .inl (hFV k e)
            · rcases q2 with q2 | ⟨k', q2, q5, q6⟩
              · rw [q2] at e; cases e
              · rw [q2] at e; cases e; exact .inr (by omega)
          have hra : ∀ k, ra = some ⟨k, 0, none⟩ → w.heap.size ≤ k ∧ k < w2.heap.size := fun k e => by
            rcases q2 with q2 | ⟨k', q2, q5, q6⟩
            · rw [q2] at e; cases e
            · rw [q2] at e; cases e; exact ⟨by omega, q6⟩
          have hbw := hFs b hFb
          have hmw := hFs m hFm
          have hI3 := HI2.out.wid (V' := fun k => V k ∨ ra = some ⟨k, 0, none⟩) (fun k e => .inl e) (by rintro (e | e); (exact HI2.out.vb e); (have := hra _ e; omega)) (by rintro (e | e); (exact HI2.out.vm e); (have := hra _ e; omega)) (by
            intro k e h
            rcases h with h | h
            · exact HI2.out.vl k e h
            · have := hFs k (hFl k e); have := hra _ h; omega) (by
            rintro k (e | e)
            · exact HI2.out.vs k e
            · exact (hra k e).2)
          have hp2 := hI3.hp
          refine ⟨rfl, fun k => F k ∨ ra = some ⟨k, 0, none⟩, ⟨m, c, f, ra, rc, la, lc, fun k => V k ∨ ra = some ⟨k, 0, none⟩, hI3.re (S' := { S with lf := n, tn := L }) ?_ rfl rfl ⟨q1, ?_, q3, q4⟩ ?_, .inl hFb, .inl hFm, fun k e => .inl (hFl k e), ?_, ?_⟩, ?_, ?_⟩
          · exact (Kp.set (S := fun k => k = b) rfl _).trans (Kp.set (S := fun k => k = b) rfl _) (fun _ _ e => e)
          · rcases q2 with q2 | ⟨k', q2, q5, q6⟩
            · exact .inl q2
            · exact .inr ⟨k', q2, .inr q2⟩
          · have := hl.out
            simp [World.setCell, Array.getElem?_modify, hp2, this]
          · rintro k (e | e)
            · exact .inl (hFV k e)
            · exact .inr e
          · have := b2.size
            rintro k (e | e)
            · have := hFs k e; simp; omega
            · have := hra k e; simp; omega
          · rintro k (e | e)
            · exact .inl e
            · exact .inr (hra k e).1
          · exact (((HKS.out.1.mono (S' := F) (fun i _ e => e ▸ hFb)).trans (Kp.of_below (S := F) b2) (fun _ _ e => e)).trans (Kp.set (S := F) hFb _) (fun _ _ e => e)).trans (Kp.set (S := F) hFb _) (fun _ _ e => e)
        · rw [if_neg h3]
          obtain rfl : n = 0 := by omega
          have hFN : Fn21 w w1 b F { S with lf := 0, tn := [] } := ⟨F, ⟨m, c, f, none, 0, la, lc, V, hI1, hFb, hFm, hFl, hFV, fun k e => by rw [hsz]; exact hFs k e⟩, fun _ e => .inl e, k1.mono (fun i _ e => e ▸ hFb)⟩
          have HFN : Hid (Fn21 w w1 b F { S with lf := 0, tn := [] }) := hFN
          clear hs hI1 k1 hw1 hI cf c1 c2 c3 c4 hsz hFN h3
          go_enter Tryd.func27, Tryd.ntmps27
          go_wp2_with fail
          refine HST.mono ?_
          rintro e w1' ⟨rfl, hw⟩
          subst w1'
          go_wp2_with fail
          go_ret
          rw [HW1.out]
          exact ⟨rfl, HFN.out⟩
end
end Go.Proofs.YtmjlpfmacblcpaaDoor

namespace Go.Proofs.YtmjlpfmacblcpaaDoor
open Go.RowKit Go.Shelf
set_option linter.unusedVariables false
set_option linter.unusedSimpArgs false
def pgE21 (S : Fs21) (x y : Int) (n : Nat) : Int := if rf21 S.on S.ps x y ≠ 0 then rf21 S.on S.ps x y else if S.pg < n then 1 else if (sh21 S x y).er = false then 212 else rc21 S
def pgS21 (S : Fs21) (x y : Int) (L : List Int) : Fs21 := if rf21 S.on S.ps x y ≠ 0 then S else if S.pg < L.length then S else if (sh21 S x y).er = false then S else rn21 S 2 x y ⟨L, false, (sh21 S x y).wr⟩
theorem fldb21 (a : Option Addr) (n c : Nat) (er : Bool) (wr : Int) (W : World) : (Instr.field 89 (.agg #[.slice a n c, .bool er, .int .i64 wr]) 1).run Tryd.prog W = .ok (.bool er) W := by kernel_rfl
set_option maxRecDepth 100000 in
set_option maxHeartbeats 8000000 in
theorem pprog21 {w : World} {b : Nat} {F : Nat → Prop} {S : Fs21} (hF : Fl21 w b F S) (hO : Ok21 S) (x y : Int) (hx : In21 x) (hy : In21 y) (hlg : S.lg.length ≤ 5500000001000) (a : Option Addr) (L : List Int) (n cap : Nat) (hs : Seg w a L) (hn : Hid (L.length = n)) (hnil : a = none → cap = 0) :
    Calls Tryd.prog 45 #[.pointer (some ⟨b, 0, none⟩), .int .i64 x, .int .i64 y, .slice a n cap] w fun e w' => e = .returned (.int .i64 (pgE21 S x y n)) ∧ Fn21 w w' b F (pgS21 S x y L) := by
  have HFl : Hid (Fl21 w b F S) := hF
  obtain ⟨m, c, f, ta, tc, la, lc, V, hI, hFb, hFm, hFl, hFV, hFs⟩ := hF
  have hlt := hI.bl
  obtain ⟨w1, hw1⟩ : ∃ w1, w1 = w.alloc (.cells #[.int .i64 x, .int .i64 y] 98) := ⟨_, rfl⟩
  have HW : Hid (w.alloc (.cells #[.int .i64 x, .int .i64 y] 98) = w1) := hw1.symm
  have b1 : Below w.heap.size w w1 := by rw [hw1]; exact (Below.refl _ _).alloc (Nat.le_refl _) _
  have q1 : w1.heap[w.heap.size]? = some (.cells #[.int .i64 x, .int .i64 y] 98 (0, 0)) := by rw [hw1]; exact heap_alloc_new _ _
  have HB1 : Hid (Below w.heap.size w w1) := b1
  have HR : Hid (∀ W : World, Below w.heap.size w W → Calls Tryd.prog 92 #[.pointer (some ⟨b, 0, none⟩), .agg #[.int .i64 x, .int .i64 y]] W fun e w' => e = .returned (.int .i64 (rf21 S.on S.ps x y)) ∧ Below W.heap.size W w') := fun W hW => pref21 b S.pg S.ps S.on x y W ((hI.old hW).cel (i := 0) rfl) hO.pg.1 ((hI.old hW).cel (i := 1) rfl) ((hI.old hW).cel (i := 3) rfl)
  have HS : Hid (∀ W : World, Below w.heap.size w W → Calls Tryd.prog 50 #[.pointer (some ⟨b, 0, none⟩), .agg #[.int .i64 x, .int .i64 y]] W fun e w' => e = .returned (shv21 (f x y) x) ∧ Below W.heap.size W w') := fun W hW => psht21 b m c f x y hx hy W ((hI.old hW).cel (i := 5) rfl) (hI.old hW).hm (hI.sv x y)
  obtain ⟨wa, wcap, hsv, hsl⟩ := hI.shv x y
  rw [hsv] at HS
  have HRUN : Hid (L.length ≤ S.pg → ∀ W : World, Below w.heap.size w W → Calls Tryd.prog 93 #[.pointer (some ⟨b, 0, none⟩), .iface 166 (.agg #[.int .i64 x, .int .i64 y, .slice a n cap])] W fun e w' => e = .returned (.int .i64 (rc21 S)) ∧ Fn21 W w' b F (rn21 S 2 x y ⟨L, false, (sh21 S x y).wr⟩)) := fun hle W hW => prun21 (hI.old hW) hO x y hx hy _ _ 2 ⟨L, false, (sh21 S x y).wr⟩ hlg (mtp21 x y a n cap) (fun Y a' n' k er hY => (pafp21 er (sh21 S x y).wr a' a n' k n cap x y L Y ((hs.old hW).old hY) hn hnil (by have := hO.pg.2; have := hn.out; omega)).mono (by
    rintro e w' ⟨⟨ra, rc, rfl, hc⟩, hb⟩
    exact ⟨⟨ra, rc, by rw [hn.out], hc⟩, hb⟩)) F hFb hFm hFl hFV (fun k e => Nat.lt_of_lt_of_le (hFs k e) hW.size)
  have c0 : ∀ W : World, Below w.heap.size w W → W.cell? ⟨b, 0, none⟩ = some (.int .i64 (S.pg : Int)) := fun W hW => (hI.old hW).cel (i := 0) rfl
  have HC0 : Hid (∀ W : World, Below w.heap.size w W → W.cell? ⟨b, 0, none⟩ = some (.int .i64 (S.pg : Int))) := c0
  have HE : Hid (pgE21 S x y n = if rf21 S.on S.ps x y ≠ 0 then rf21 S.on S.ps x y else if S.pg < n then 1 else if (sh21 S x y).er = false then 212 else rc21 S) := rfl
  have HS' : Hid (pgS21 S x y L = if rf21 S.on S.ps x y ≠ 0 then S else if S.pg < n then S else if (sh21 S x y).er = false then S else rn21 S 2 x y ⟨L, false, (sh21 S x y).wr⟩) := by show pgS21 S x y L = _; rw [← hn.out]; rfl
  rw [HE.out, HS'.out]
  generalize rf21 S.on S.ps x y = rf at *
  by_cases hrf : rf = 0
  · subst hrf
    rw [if_neg (show ¬ ((0 : Int) ≠ 0) by simp), if_neg (show ¬ ((0 : Int) ≠ 0) by simp)]
    by_cases h1 : S.pg < n
    · rw [if_pos h1, if_pos h1]
      have h1' : (S.pg : Int) < (n : Int) := by omega
      clear HRUN
      clear c0 hI hsv hsl HE HS' hw1 b1
      go_enter Tryd.func45, Tryd.ntmps45
      go_wp2_with fail
      rw [HW.out]
      refine (HR.out _ HB1.out).mono ?_
      rintro e w2 ⟨rfl, b2⟩
      have b2' : Below w.heap.size w w2 := HB1.out.trans (b2.mono HB1.out.size)
      have q2 := (b2.block _ (Array.getElem?_eq_some_iff.1 q1).1).trans q1
      have q20 := two_cell0 q2
      have q21 := two_cell1 q2
      have d0 := HC0.out w2 b2'
      go_wp2_with fail
      go_ret
      exact ⟨rfl, HFl.out.stay b2'⟩
    · rw [if_neg h1, if_neg h1]
      have h1' : ¬ (S.pg : Int) < (n : Int) := by omega
      have HRUN' := HRUN.out (by have := hn.out; omega)
      have HRU : Hid (∀ W : World, Below w.heap.size w W → Calls Tryd.prog 93 #[.pointer (some ⟨b, 0, none⟩), .iface 166 (.agg #[.int .i64 x, .int .i64 y, .slice a n cap])] W fun e w' => e = .returned (.int .i64 (rc21 S)) ∧ Fn21 W w' b F (rn21 S 2 x y ⟨L, false, (sh21 S x y).wr⟩)) := HRUN'
      clear HRUN HRUN'
      generalize rn21 S 2 x y ⟨L, false, (sh21 S x y).wr⟩ = S' at *
      generalize rc21 S = E' at *
      obtain ⟨WR, hWR⟩ : ∃ WR, WR = (sh21 S x y).wr := ⟨_, rfl⟩
      obtain ⟨WL, hWL⟩ : ∃ WL, WL = (sh21 S x y).b.length := ⟨_, rfl⟩
      rw [← hWR, ← hWL] at HS
      cases hWE : (sh21 S x y).er
      · rw [if_pos rfl, if_pos rfl]
        rw [hWE] at HS
        have hfd := fldb21 wa WL wcap false WR
        clear hWR hWL hWE
        clear c0 hI hsv hsl HE HS' hw1 b1
        go_enter Tryd.func45, Tryd.ntmps45
        go_wp2_with fail
        rw [HW.out]
        refine (HR.out _ HB1.out).mono ?_
        rintro e w2 ⟨rfl, b2⟩
        have b2' : Below w.heap.size w w2 := HB1.out.trans (b2.mono HB1.out.size)
        have q2 := (b2.block _ (Array.getElem?_eq_some_iff.1 q1).1).trans q1
        have q20 := two_cell0 q2
        have q21 := two_cell1 q2
        have d0 := HC0.out w2 b2'
        go_wp2_with fail
        refine (HS.out _ b2').mono ?_
        rintro e w3 ⟨rfl, b3⟩
        have b3' : Below w.heap.size w w3 := b2'.trans (b3.mono b2'.size)
        have q3 := (b3.block _ (Array.getElem?_eq_some_iff.1 q2).1).trans q2
        have q30 := two_cell0 q3
        have q31 := two_cell1 q3
        go_wp2_with fail
        go_ret
        exact ⟨rfl, HFl.out.stay b3'⟩
      · rw [if_neg (by simp), if_neg (by simp)]
        rw [hWE] at HS
        have hfd := fldb21 wa WL wcap true WR
        clear hWR hWL hWE
        clear c0 hI hsv hsl HE HS' hw1 b1
        go_enter Tryd.func45, Tryd.ntmps45
        go_wp2_with fail
        rw [HW.out]
        refine (HR.out _ HB1.out).mono ?_
        rintro e w2 ⟨rfl, b2⟩
        have b2' : Below w.heap.size w w2 := HB1.out.trans (b2.mono HB1.out.size)
        have q2 := (b2.block _ (Array.getElem?_eq_some_iff.1 q1).1).trans q1
        have q20 := two_cell0 q2
        have q21 := two_cell1 q2
        have d0 := HC0.out w2 b2'
        go_wp2_with fail
        refine (HS.out _ b2').mono ?_
        rintro e w3 ⟨rfl, b3⟩
        have b3' : Below w.heap.size w w3 := b2'.trans (b3.mono b2'.size)
        have q3 := (b3.block _ (Array.getElem?_eq_some_iff.1 q2).1).trans q2
        have q30 := two_cell0 q3
        have q31 := two_cell1 q3
        go_wp2_with fail
        refine (HRU.out _ b3').mono ?_
        rintro e w4 ⟨rfl, hn4⟩
        go_wp2_with fail
        go_ret
        exact ⟨rfl, hn4.from b3'⟩
  · rw [if_pos (show rf ≠ 0 from hrf), if_pos (show rf ≠ 0 from hrf)]
    have hrf' : (rf == 0) = false := by simp [hrf]
    clear HRUN
    clear c0 hI hsv hsl HE HS' hw1 b1
    go_enter Tryd.func45, Tryd.ntmps45
    go_wp2_with fail
    rw [HW.out]
    refine (HR.out _ HB1.out).mono ?_
    rintro e w2 ⟨rfl, b2⟩
    have b2' : Below w.heap.size w w2 := HB1.out.trans (b2.mono HB1.out.size)
    have q2 := (b2.block _ (Array.getElem?_eq_some_iff.1 q1).1).trans q1
    have q20 := two_cell0 q2
    have q21 := two_cell1 q2
    have d0 := HC0.out w2 b2'
    go_wp2_with fail
    go_ret
    exact ⟨rfl, HFl.out.stay b2'⟩
end Go.Proofs.YtmjlpfmacblcpaaDoor
