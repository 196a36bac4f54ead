
import Derived.Test.YtjoghmdjnkdokaaDoorRfB
import Derived.Test.YtjoghmdjnkdokaaDoorFlR
namespace Go.Proofs.YtjoghmdjnkdokaaDoor
open Go.RowKit Go.Shelf
set_option linter.unusedVariables false
set_option linter.unusedSimpArgs false

/-! Erased, of both; the document's Wear, Limit, what its New refuses; power that comes back. -/
def erV21 (S : Fs21) (x y : Int) : Bool := if rf21 S.on S.ps x y ≠ 0 then false else (sh21 S x y).er
set_option maxRecDepth 100000 in
set_option maxHeartbeats 2000000 in
theorem perd21 {w : World} {b : Nat} {F : Nat → Prop} {S : Fs21} (hF : Fl21 w b F S) (hO : Ok21 S) (x y : Int) (hx : In21 x) (hy : In21 y) : Calls Tryd.prog 33 #[.pointer (some ⟨b, 0, none⟩), .int .i64 x, .int .i64 y] w fun e w' => e = .returned (.tuple #[.bool (erV21 S x y), .int .i64 (rf21 S.on S.ps x y)]) ∧ Below w.heap.size w w' := by
  obtain ⟨m, c, f, ta, tc, la, lc, V, hI, hFb, hFm, hFl, hFV, hFs⟩ := hF
  obtain ⟨w1, hw1⟩ : ∃ w1, w1 = w.alloc (.cells #[.int .i64 x, .int .i64 y] 69) := ⟨_, rfl⟩
  have HW : Hid (w.alloc (.cells #[.int .i64 x, .int .i64 y] 69) = w1) := hw1.symm
  have b1 : Below w.heap.size w w1 := by rw [hw1]; exact (Below.refl _ _).alloc (Nat.le_refl _) _
  have q1 : w1.heap[w.heap.size]? = some (.cells #[.int .i64 x, .int .i64 y] 69 (0, 0)) := by rw [hw1]; exact heap_alloc_new _ _
  have HB1 : Hid (Below w.heap.size w w1) := b1
  have HR : Hid (∀ W : World, Below w.heap.size w W → Calls Tryd.prog 55 #[.pointer (some ⟨b, 0, none⟩), .agg #[.int .i64 x, .int .i64 y]] W fun e w' => e = .returned (.int .i64 (rf21 S.on S.ps x y)) ∧ Below W.heap.size W w') := fun W hW => pref21 b S.pg S.ps S.on x y W ((hI.old hW).cel (i := 0) rfl) hO.pg.1 ((hI.old hW).cel (i := 1) rfl) ((hI.old hW).cel (i := 3) rfl)
  have HS : Hid (∀ W : World, Below w.heap.size w W → Calls Tryd.prog 54 #[.pointer (some ⟨b, 0, none⟩), .agg #[.int .i64 x, .int .i64 y]] W fun e w' => e = .returned (shv21 (f x y) x) ∧ Below W.heap.size W w') := fun W hW => psht21 b m c f x y hx hy W ((hI.old hW).cel (i := 5) rfl) (hI.old hW).hm (hI.sv x y)
  obtain ⟨wa, wcap, hsv, hsl⟩ := hI.shv x y
  rw [hsv] at HS
  have HE : Hid (erV21 S x y = if rf21 S.on S.ps x y ≠ 0 then false else (sh21 S x y).er) := rfl
  rw [HE.out]
  generalize rf21 S.on S.ps x y = rf at *
  obtain ⟨WR, hWR⟩ : ∃ WR, WR = (sh21 S x y).wr := ⟨_, rfl⟩
  obtain ⟨WL, hWL⟩ : ∃ WL, WL = (sh21 S x y).b.length := ⟨_, rfl⟩
  obtain ⟨WE, hWE⟩ : ∃ WE, WE = (sh21 S x y).er := ⟨_, rfl⟩
  have hfd : ∀ W : World, (Instr.field 67 (.agg #[.slice wa WL wcap, .bool WE, .int .i64 WR]) 1).run Tryd.prog W = .ok (.bool WE) W := fun W => by kernel_rfl
  rw [← hWR, ← hWL, ← hWE] at HS
  rw [← hWE]
  clear hWR hWL hWE hsv hsl hI hFb hFm hFl hFV hFs hw1 b1 HE
  by_cases hrf : rf = 0
  · subst hrf
    rw [if_neg (show ¬ ((0 : Int) ≠ 0) by simp)]
    go_enter Tryd.func33, Tryd.ntmps33
    go_wp2_with fail
    rw [HW.out]
    refine (HR.out _ HB1.out).mono ?_
    rintro e w2 ⟨rfl, b2⟩
    have b2' : Below w.heap.size w w2 := HB1.out.trans (b2.mono HB1.out.size)
    have q2 := (b2.block _ (Array.getElem?_eq_some_iff.1 q1).1).trans q1
    have q20 := two_cell0 q2
    have q21 := two_cell1 q2
    go_wp2_with fail
    refine (HS.out _ b2').mono ?_
    rintro e w3 ⟨rfl, b3⟩
    go_wp2_with fail
    go_ret2
    exact ⟨rfl, b2'.trans (b3.mono b2'.size)⟩
  · rw [if_pos (show rf ≠ 0 from hrf)]
    have hrf' : (rf == 0) = false := by simp [hrf]
    go_enter Tryd.func33, Tryd.ntmps33
    go_wp2_with fail
    rw [HW.out]
    refine (HR.out _ HB1.out).mono ?_
    rintro e w2 ⟨rfl, b2⟩
    go_wp2_with fail
    go_ret2
    exact ⟨rfl, HB1.out.trans (b2.mono HB1.out.size)⟩
section
variable {w : World} {b : Nat} {G : Nat → Prop} {S : Fs21}
theorem Rl21d.pgl (h : Rl21d w b G S) (hO : Ok21 S) {x y : Int} (hm : ms21 S.ps x y = 0) : ∃ (X Y gx n cx : Nat) (k off c : Nat), x = (X : Int) ∧ y = (Y : Int) ∧ X < 3 ∧ Y < n ∧ n ≤ 4096 + S.ps ∧ w.cell? ⟨b, 3 + X, none⟩ = some (.slice (some ⟨gx, 0, none⟩) n cx) ∧
    w.cell? ⟨gx, Y * 3, none⟩ = some (.slice (some ⟨k, off, none⟩) S.pg c) ∧ w.cell? ⟨gx, Y * 3 + 1, none⟩ = some (.bool (sh21 S x y).er) ∧ w.cell? ⟨gx, Y * 3 + 2, none⟩ = some (.int .i64 (sh21 S x y).wr) := by
  obtain ⟨g, c, A, tn, ta, tc, la, lc, V, h1, -⟩ := h
  obtain ⟨X, Y, d, rfl, rfl, hX, hY, hd⟩ := h1.at hm
  obtain ⟨p0, p1, p2⟩ := h1.pgc hX hd
  obtain ⟨-, -, q3, q4, q5, -⟩ := h1.hd X Y d hX hd
  have hn := (h1.hn X hX).1
  have hb := pn21_bd S.ps (X : Int) hO.ps.2
  have hl := fb21_len hO (X : Int) (Y : Int)
  rw [← q3] at hl
  rw [hl] at p0
  rw [q4] at p1
  rw [q5] at p2
  exact ⟨X, Y, g X, (A X).length, c X, d.k, d.off, d.c, rfl, rfl, hX, hY, by omega, h1.car hX, p0, p1, p2⟩
set_option maxRecDepth 100000 in
set_option maxHeartbeats 2000000 in
theorem rerd21 (h : Rl21d w b G S) (hO : Ok21 S) (x y : Int) (hx : In21 x) (hy : In21 y) : Calls Tryd.prog 34 #[.pointer (some ⟨b, 0, none⟩), .int .i64 x, .int .i64 y] w fun e w' => e = .returned (.tuple #[.bool (erV21 S x y), .int .i64 (rf21 S.on S.ps x y)]) ∧ w' = w := by
  have c7 : w.cell? ⟨b, 7, none⟩ = some (.bool (!S.on)) := by
    obtain ⟨g, c, A, tn, ta, tc, la, lc, V, h1, -⟩ := h
    exact h1.cel (i := 7) rfl
  have HI := ris21 h x y hx hy
  have HP : ms21 S.ps x y = 0 → _ := fun e => h.pgl hO e
  unfold erV21 rf21
  clear h
  cases hon : S.on
  · rw [hon] at c7
    simp only [Bool.false_eq_true, if_false]
    rw [if_pos (show (213 : Int) ≠ 0 by decide)]
    go_enter Tryd.func34, Tryd.ntmps34
    go_wp2_with fail
    go_ret2
    exact ⟨rfl, rfl⟩
  · rw [hon] at c7
    simp only [if_true]
    by_cases hm : ms21 S.ps x y = 0
    · obtain ⟨X, Y, gx, n, cx, k, off, c, rfl, rfl, hX, hY, hn, a0, a1, a2, a3⟩ := HP hm
      rw [hm] at HI ⊢
      rw [if_neg (show ¬ ((0 : Int) ≠ 0) by decide)]
      have i1 : (Y : Int) < (n : Int) := by omega
      have i2 : (X : Int) < 3 := by omega
      generalize (sh21 S (X : Int) (Y : Int)).er = er at *
      generalize (sh21 S (X : Int) (Y : Int)).wr = wr at *
      clear HP hm hx hy
      go_enter Tryd.func34, Tryd.ntmps34
      go_wp2_with fail
      refine HI.mono ?_
      rintro e w1 ⟨rfl, hw⟩
      subst w1
      go_wp2_with fail
      go_ret2
      exact ⟨rfl, rfl⟩
    · have h211 : ms21 S.ps x y = 211 := by unfold ms21 at hm ⊢; split <;> simp_all
      rw [if_pos hm, h211]
      rw [decide_eq_false hm] at HI
      clear HP hm h211
      go_enter Tryd.func34, Tryd.ntmps34
      go_wp2_with fail
      refine HI.mono ?_
      rintro e w1 ⟨rfl, hw⟩
      subst w1
      go_wp2_with fail
      go_ret2
      exact ⟨rfl, rfl⟩
set_option maxRecDepth 100000 in
set_option maxHeartbeats 2000000 in
theorem rwea21 (h : Rl21d w b G S) (hO : Ok21 S) (x y : Int) (hx : In21 x) (hy : In21 y) : Calls Tryd.prog 41 #[.pointer (some ⟨b, 0, none⟩), .int .i64 x, .int .i64 y] w fun e w' => e = .returned (.tuple #[.int .i64 (weV21 S x y), .int .i64 (ms21 S.ps x y)]) ∧ w' = w := by
  have HI := ris21 h x y hx hy
  have HP : ms21 S.ps x y = 0 → _ := fun e => h.pgl hO e
  unfold weV21
  clear h
  by_cases hm : ms21 S.ps x y = 0
  · obtain ⟨X, Y, gx, n, cx, k, off, c, rfl, rfl, hX, hY, hn, a0, a1, a2, a3⟩ := HP hm
    rw [hm] at HI ⊢
    rw [if_neg (show ¬ ((0 : Int) ≠ 0) by decide)]
    have i1 : (Y : Int) < (n : Int) := by omega
    have i2 : (X : Int) < 3 := by omega
    generalize (sh21 S (X : Int) (Y : Int)).er = er at *
    generalize (sh21 S (X : Int) (Y : Int)).wr = wr at *
    clear HP hm hx hy
    go_enter Tryd.func41, Tryd.ntmps41
    go_wp2_with fail
    refine HI.mono ?_
    rintro e w1 ⟨rfl, hw⟩
    subst w1
    go_wp2_with fail
    go_ret2
    exact ⟨rfl, rfl⟩
  · have h211 : ms21 S.ps x y = 211 := by unfold ms21 at hm ⊢; split <;> simp_all
    rw [if_pos hm, h211]
    rw [decide_eq_false hm] at HI
    clear HP hm h211
    go_enter Tryd.func41, Tryd.ntmps41
    go_wp2_with fail
    refine HI.mono ?_
    rintro e w1 ⟨rfl, hw⟩
    subst w1
    go_wp2_with fail
    go_ret2
    exact ⟨rfl, rfl⟩
set_option maxRecDepth 100000 in
/-- One cell of the document's device is set anew: 7 (Off) or 8 (Most). -/
theorem rlim21 (h : Rl21d w b G S) (n : Int) : Calls Tryd.prog 39 #[.pointer (some ⟨b, 0, none⟩), .int .i64 n] w fun e w' => e = .returned (.int .i64 (liE21 n)) ∧ Rn21 w w' b G (liS21 S n) := by
  have HL : Hid (Rl21d w b G S) := h
  obtain ⟨g, c, A, tn, ta, tc, la, lc, V, h1, h2, h3, h4, h5, h6⟩ := h
  have y2 := h1.fr 10
  have HR : Hid (Rf21 w b g c A tn ta tc la lc V S ∧ G b ∧ (∀ x, x < 3 → G (g x)) ∧ (∀ k, (Value.slice la S.lg.length lc).ownBlock = some k → G k) ∧ (∀ k, V k → G k) ∧ (∀ k, G k → k < w.heap.size)) := ⟨h1, h2, h3, h4, h5, h6⟩
  have c10 := h1.cel (i := 10) rfl
  clear h1 h2 h3 h4 h5 h6
  unfold liE21 liS21
  by_cases h1 : n < 0
  · rw [if_pos (.inl h1), if_pos (.inl h1)]
    go_enter Tryd.func39, Tryd.ntmps39
    go_wp2_with fail
    go_ret
    exact ⟨rfl, HL.out.stay (Below.refl _ _)⟩
  · by_cases h2 : 1099511627776 < n
    · rw [if_pos (.inr h2), if_pos (.inr h2)]
      go_enter Tryd.func39, Tryd.ntmps39
      go_wp2_with fail
      go_ret
      exact ⟨rfl, HL.out.stay (Below.refl _ _)⟩
    · rw [if_neg (by omega), if_neg (by omega)]
      go_enter Tryd.func39, Tryd.ntmps39
      go_wp2_with fail
      go_ret
      obtain ⟨h1, h2, h3, h4, h5, h6⟩ := HR.out
      have hk : Kp (fun k => k = b) w (w.setCell ⟨b, 10, none⟩ (.int .i64 n)) := Kp.set (S := fun k => k = b) rfl _
      exact ⟨rfl, G, ⟨g, c, A, tn, ta, tc, la, lc, V, h1.re (S' := { S with lm := n }) hk rfl rfl rfl rfl ⟨h1.ht.1, h1.ht.2⟩ (by simp [World.setCell, Array.getElem?_modify, h1.hp]), h2, h3, h4, h5, fun k e => Nat.lt_of_lt_of_le (h6 k e) hk.size⟩, fun _ e => .inl e, hk.mono (fun i _ e => e ▸ h2)⟩
/-- The power comes back. -/
theorem Rl21d.power (h : Rl21d w b G S) : Rn21 w (w.setCell ⟨b, 7, none⟩ (.bool false)) b G { S with on := true } := by
  obtain ⟨g, c, A, tn, ta, tc, la, lc, V, h1, h2, h3, h4, h5, h6⟩ := h
  have hk : Kp (fun k => k = b) w (w.setCell ⟨b, 7, none⟩ (.bool false)) := Kp.set (S := fun k => k = b) rfl _
  exact ⟨G, ⟨g, c, A, tn, ta, tc, la, lc, V, h1.re (S' := { S with on := true }) hk rfl rfl rfl rfl ⟨h1.ht.1, h1.ht.2⟩ (by simp [World.setCell, Array.getElem?_modify, h1.hp]), h2, h3, h4, h5, fun k e => Nat.lt_of_lt_of_le (h6 k e) hk.size⟩, fun _ e => .inl e, hk.mono (fun i _ e => e ▸ h2)⟩
end
end Go.Proofs.YtjoghmdjnkdokaaDoor
