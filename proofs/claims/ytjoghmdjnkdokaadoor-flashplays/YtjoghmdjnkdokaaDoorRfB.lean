
import Derived.Test.YtjoghmdjnkdokaaDoorRfA
import Derived.Test.YtjoghmdjnkdokaaDoorFlQ
namespace Go.Proofs.YtjoghmdjnkdokaaDoor
open Go.RowKit Go.Shelf
set_option linter.unusedVariables false
set_option linter.unusedSimpArgs false

/-! The document's flash: what a change leaves; is, Turn, Plan. -/
section
variable {w w' : World} {b : Nat} {g c : Nat → Nat} {A : Nat → List Pd21} {tn : List Int} {ta : Option Addr} {tc : Nat} {la : Option Addr} {lc : Nat} {V V' : Nat → Prop} {S S' : Fs21}
theorem sh21_pa (h : S'.pa = S.pa) (x y : Int) : sh21 S' x y = sh21 S x y := by unfold sh21; rw [h]
theorem fb21_pa (h : S'.pa = S.pa) (h' : S'.pg = S.pg) (x y : Int) : fb21 S' x y = fb21 S x y := by unfold fb21; rw [sh21_pa h, h']
theorem Rf21.re (h : Rf21 w b g c A tn ta tc la lc V S) (hk : Kp (fun k => k = b) w w') (e1 : S'.pa = S.pa) (e2 : S'.lg = S.lg) (e3 : S'.pg = S.pg) (e4 : S'.ps = S.ps) {tn' : List Int} {ta' : Option Addr} {tc' : Nat} (ht' : (S'.lf ≠ 0 → tn' = S'.tn) ∧ Sl21 w V ta' tn' tc')
    (hp : w'.heap[b]? = some (.cells #[.int .i64 (S'.pg : Int), .int .i64 (S'.ps : Int), .int .i64 S'.ac, .slice (some ⟨g 0, 0, none⟩) (A 0).length (c 0), .slice (some ⟨g 1, 0, none⟩) (A 1).length (c 1), .slice (some ⟨g 2, 0, none⟩) (A 2).length (c 2), .slice la S'.lg.length lc, .bool (!S'.on), .int .i64 S'.lf, .slice ta' tn'.length tc', .int .i64 S'.lm] 46 (0, 0))) :
    Rf21 w' b g c A tn' ta' tc' la lc V S' := by
  have hV : ∀ k, V k → w'.heap[k]? = w.heap[k]? := fun k e => hk.block k (h.vs k e) (fun q => h.vb (q ▸ e))
  have hl := h.hl
  have hvl := h.vl
  refine ⟨hp, fun x hx => ?_, by rw [e4]; exact h.hn, fun x y d hx hy => ?_, ⟨ht'.1, ht'.2.kp hV (fun _ e => e)⟩, ?_, h.gi, h.vb, h.vg, by rw [e2]; exact h.vl, fun k e => Nat.lt_of_lt_of_le (h.vs k e) hk.size⟩
  · obtain ⟨X, hX⟩ := h.ha x hx
    exact ⟨X, (hk.block _ (h.gl hx) (fun e => h.bg hx e.symm)).trans hX⟩
  · obtain ⟨q1, q2, q3⟩ := h.hd x y d hx hy
    rw [fb21_pa e1 e3, sh21_pa e1]
    refine ⟨q1.of_cells fun b' off' i v hi ha hc => ?_, q2, q3⟩
    cases ha
    rw [World.cell?_of_block (a := ⟨d.k, d.off + i, none⟩) (hV d.k q2)]
    exact hc
  · rw [e2]
    refine ⟨hl.1, ?_⟩
    rcases hl.2 with q | ⟨q, cap, cur, q1, q2, q3, q4⟩
    · exact .inl q
    · have hq := h.lo (k := q) (by rw [q1]; rfl)
      exact .inr ⟨q, cap, cur, q1, q2, (hk.block q hq.1 hq.2.1).trans q3, q4⟩
/-- More bytes may be spoken of. -/
theorem Rf21.wid (h : Rf21 w b g c A tn ta tc la lc V S) (hV : ∀ k, V k → V' k) (vb : ¬ V' b) (vg : ∀ x, x < 3 → ¬ V' (g x)) (vl : ∀ k, (Value.slice la S.lg.length lc).ownBlock = some k → ¬ V' k) (vs : ∀ k, V' k → k < w.heap.size) : Rf21 w b g c A tn ta tc la lc V' S :=
  ⟨h.hp, h.ha, h.hn, fun x y d hx hy => by obtain ⟨q1, q2, q3⟩ := h.hd x y d hx hy; exact ⟨q1, hV _ q2, q3⟩, ⟨h.ht.1, h.ht.2.kp (fun _ _ => rfl) hV⟩, h.hl, h.gi, vb, vg, vl, vs⟩
def ad21 (A : Nat → List Pd21) (x y : Nat) (d : Pd21) : Nat → List Pd21 := fun z => if z = x then (A x).set y d else A z
theorem ad21_len (A : Nat → List Pd21) (x y : Nat) (d : Pd21) (z : Nat) : (ad21 A x y d z).length = (A z).length := by
  unfold ad21; split
  · rename_i h; subst h; simp
  · rfl
theorem sh21_up (S : Fs21) (x y : Int) (s : Sh21) (x' y' : Int) : sh21 { S with pa := up21 S.pa x y s } x' y' = if x' = x ∧ y' = y then s else sh21 S x' y' := by
  unfold sh21 up21
  by_cases h : x' = x ∧ y' = y
  · simp [h]
  · simp [h]
/-- A page anew. -/
theorem Rf21.page (h : Rf21 w b g c A tn ta tc la lc V S) {x y : Nat} (hx : x < 3) (hy : y < (A x).length) (d : Pd21) (s : Sh21) (hk : Kp (fun k => k = g x) w w') (hg : ∃ X : List Value, w'.heap[g x]? = some (.cells (pdl21 ((A x).set y d) ++ X).toArray 72 (0, 0)))
    (h1 : Seg w' (some ⟨d.k, d.off, none⟩) d.b) (h2 : V d.k) (h3 : d.b = s.b ++ List.replicate (S.pg - s.b.length) 255) (h4 : d.er = s.er) (h5 : d.wr = s.wr) (h6 : d.b.length ≤ d.c) :
    Rf21 w' b g c (ad21 A x y d) tn ta tc la lc V { S with pa := up21 S.pa (x : Int) (y : Int) s } := by
  have hV : ∀ k, V k → w'.heap[k]? = w.heap[k]? := fun k e => hk.block k (h.vs k e) (fun q => h.vg x hx (q ▸ e))
  have hgne : ∀ z, z < 3 → z ≠ x → g z ≠ g x := fun z hz hne => by
    have := h.gi
    rcases (show x = 0 ∨ x = 1 ∨ x = 2 by omega) with rfl | rfl | rfl <;> rcases (show z = 0 ∨ z = 1 ∨ z = 2 by omega) with rfl | rfl | rfl <;> first | exact absurd rfl hne | exact this.1 | exact this.2.1 | exact this.2.2 | exact this.1.symm | exact this.2.1.symm | exact this.2.2.symm
  refine ⟨?_, fun z hz => ?_, fun z hz => ?_, fun z y' d' hz hy' => ?_, ⟨h.ht.1, h.ht.2.kp hV (fun _ e => e)⟩, ?_, h.gi, h.vb, h.vg, h.vl, fun k e => Nat.lt_of_lt_of_le (h.vs k e) hk.size⟩
  · rw [ad21_len, ad21_len, ad21_len]
    exact (hk.block b h.bl (h.bg hx)).trans h.hp
  · by_cases e : z = x
    · subst e
      obtain ⟨X, hX⟩ := hg
      exact ⟨X, by simpa [ad21] using hX⟩
    · obtain ⟨X, hX⟩ := h.ha z hz
      exact ⟨X, by simpa [ad21, e] using (hk.block _ (h.gl hz) (hgne z hz e)).trans hX⟩
  · rw [ad21_len]; exact h.hn z hz
  · have hfb : ∀ a b, fb21 { S with pa := up21 S.pa (x : Int) (y : Int) s } a b = (if a = (x : Int) ∧ b = (y : Int) then s.b ++ List.replicate (S.pg - s.b.length) 255 else fb21 S a b) := fun a b => by
      unfold fb21
      rw [sh21_up]
      split <;> rfl
    rw [hfb, sh21_up]
    by_cases e : z = x
    · subst e
      by_cases e2 : y' = y
      · subst e2
        have : d' = d := by simpa [ad21, hy] using hy'.symm
        subst this
        simp only [and_self, if_true]
        exact ⟨h1, h2, h3, h4, h5, h6⟩
      · have e2' : ¬ (y' : Int) = (y : Int) := by omega
        have hne : ¬ y = y' := fun q => e2 q.symm
        have : (A z)[y']? = some d' := by simpa [ad21, List.getElem?_set, hne] using hy'
        simp only [e2', and_false, if_false]
        obtain ⟨q1, q2, q3⟩ := h.hd z y' d' hz this
        refine ⟨q1.of_cells fun b' off' i v hi ha hc => ?_, q2, q3⟩
        cases ha
        rw [World.cell?_of_block (a := ⟨d'.k, d'.off + i, none⟩) (hV d'.k q2)]
        exact hc
    · have e' : ¬ (z : Int) = (x : Int) := by omega
      have : (A z)[y']? = some d' := by simpa [ad21, e] using hy'
      simp only [e', false_and, if_false]
      obtain ⟨q1, q2, q3⟩ := h.hd z y' d' hz this
      refine ⟨q1.of_cells fun b' off' i v hi ha hc => ?_, q2, q3⟩
      cases ha
      rw [World.cell?_of_block (a := ⟨d'.k, d'.off + i, none⟩) (hV d'.k q2)]
      exact hc
  · refine ⟨h.hl.1, ?_⟩
    rcases h.hl.2 with q | ⟨q, cap, cur, q1, q2, q3, q4⟩
    · exact .inl q
    · have hq := h.lo (k := q) (by rw [q1]; rfl)
      exact .inr ⟨q, cap, cur, q1, q2, (hk.block q hq.1 (hq.2.2 x hx)).trans q3, q4⟩
theorem Rf21.at (h : Rf21 w b g c A tn ta tc la lc V S) {x : Int} {y : Int} (hm : ms21 S.ps x y = 0) : ∃ (X Y : Nat) (d : Pd21), x = (X : Int) ∧ y = (Y : Int) ∧ X < 3 ∧ Y < (A X).length ∧ (A X)[Y]? = some d := by
  unfold ms21 pn21 at hm
  have hx : 0 ≤ x ∧ x ≤ 2 ∧ 0 ≤ y := by
    by_cases h1 : x < 0 ∨ 2 < x
    · simp [h1] at hm; omega
    · by_cases h2 : y < 0
      · simp [h2] at hm
      · omega
  obtain ⟨X, rfl⟩ : ∃ X : Nat, x = (X : Int) := ⟨x.toNat, by omega⟩
  obtain ⟨Y, rfl⟩ : ∃ Y : Nat, y = (Y : Int) := ⟨y.toNat, by omega⟩
  have h3 : X < 3 := by omega
  have hn := (h.hn X h3).1
  have hlt : Y < (A X).length := by
    have : ¬ ((Y : Int) < 0 ∨ pn21 S.ps (X : Int) ≤ (Y : Int)) := fun q => by
      unfold pn21 at q
      rw [if_pos q] at hm
      cases hm
    omega
  exact ⟨X, Y, _, rfl, rfl, h3, hlt, List.getElem?_eq_getElem hlt⟩
end
/-! is. -/
set_option maxRecDepth 100000 in
set_option maxHeartbeats 2000000 in
theorem ris21 {w : World} {b : Nat} {G : Nat → Prop} {S : Fs21} (h : Rl21d w b G S) (x y : Int) (hx : In21 x) (hy : In21 y) :
    Calls Tryd.prog 58 #[.pointer (some ⟨b, 0, none⟩), .int .i64 x, .int .i64 y] w fun e w' => e = .returned (.bool (decide (ms21 S.ps x y = 0))) ∧ w' = w := by
  obtain ⟨g, c, A, tn, ta, tc, la, lc, V, h1, -⟩ := h
  by_cases c1 : x < 0
  · have e : decide (ms21 S.ps x y = 0) = false := by simp [ms21, pn21, c1] <;> omega
    rw [e]
    have c1' : ¬ 0 ≤ x := by omega
    clear e h1
    go_enter Tryd.func58, Tryd.ntmps58
    go_wp2_with fail
    go_ret
    exact ⟨rfl, rfl⟩
  · have c1' : 0 ≤ x := by omega
    by_cases c2 : 2 < x
    · have e : decide (ms21 S.ps x y = 0) = false := by simp [ms21, pn21, c2] <;> omega
      rw [e]
      have c2' : ¬ x ≤ 2 := by omega
      clear e h1
      go_enter Tryd.func58, Tryd.ntmps58
      go_wp2_with fail
      go_ret
      exact ⟨rfl, rfl⟩
    · have c2' : x ≤ 2 := by omega
      by_cases c3 : y < 0
      · have e : decide (ms21 S.ps x y = 0) = false := by simp [ms21, c3]
        rw [e]
        have c3' : ¬ 0 ≤ y := by omega
        clear e h1
        go_enter Tryd.func58, Tryd.ntmps58
        go_wp2_with fail
        go_ret
        exact ⟨rfl, rfl⟩
      · have c3' : 0 ≤ y := by omega
        obtain ⟨X, rfl⟩ : ∃ X : Nat, x = (X : Int) := ⟨x.toNat, by omega⟩
        have h3 : X < 3 := by omega
        have hn := (h1.hn X h3).1
        have ca := h1.car h3
        obtain ⟨N, hN⟩ : ∃ N, N = (A X).length := ⟨_, rfl⟩
        rw [← hN] at ca hn
        have e : decide (ms21 S.ps (X : Int) y = 0) = decide (y < (N : Int)) := by
          unfold ms21
          rw [← hn]
          by_cases q : y < (N : Int)
          · simp [q]; omega
          · have q' : (N : Int) ≤ y := by omega
            simp [q, q']
        rw [e]
        have hX3 : (X : Int) < 3 := by omega
        clear e h1 hn hN c1 c2 c3
        go_enter Tryd.func58, Tryd.ntmps58
        go_wp2_with fail
        go_ret
        exact ⟨rfl, rfl⟩
set_option maxRecDepth 100000 in
set_option maxHeartbeats 2000000 in
theorem rtrn21 {w : World} {b : Nat} {G : Nat → Prop} {S : Fs21} (h : Rl21d w b G S) (hO : Ok21 S) :
    Calls Tryd.prog 37 #[.pointer (some ⟨b, 0, none⟩)] w fun e w' => e = .returned (.int .i64 (st21 S.on)) ∧ Rn21 w w' b G (tuS21 S) := by
  have HL : Hid (Rl21d w b G S) := h
  obtain ⟨g, c, A, tn, ta, tc, la, lc, V, h1, h2, h3, h4, h5, h6⟩ := h
  have c7 := h1.cel (i := 7) rfl
  have c2 := h1.cel (i := 2) rfl
  have y2 := h1.fr 2
  have HR : Hid (Rf21 w b g c A tn ta tc la lc V S ∧ G b ∧ (∀ x, x < 3 → G (g x)) ∧ (∀ k, (Value.slice la S.lg.length lc).ownBlock = some k → G k) ∧ (∀ k, V k → G k) ∧ (∀ k, G k → k < w.heap.size)) := ⟨h1, h2, h3, h4, h5, h6⟩
  clear h1 h2 h3 h4 h5 h6
  have hS : Hid (tuS21 S = if S.on then { S with ac := 1 - S.ac } else S) := rfl
  have hE : Hid (st21 S.on = if S.on then 0 else 213) := rfl
  rw [hS.out, hE.out]
  by_cases hon : S.on = true
  · rw [if_pos hon, if_pos hon]
    rw [hon] at c7
    have hac : IntKind.i64.wrap (1 - S.ac) = 1 - S.ac := by rw [IntWalk.i64_in _ (by have := hO.ac; omega)]
    clear hS hE
    go_enter Tryd.func37, Tryd.ntmps37
    go_wp2_with fail
    go_ret
    obtain ⟨h1, h2, h3, h4, h5, h6⟩ := HR.out
    have hk : Kp (fun k => k = b) w (w.setCell ⟨b, 2, none⟩ (.int .i64 (1 - S.ac))) := Kp.set (S := fun k => k = b) rfl _
    refine ⟨rfl, G, ⟨g, c, A, tn, ta, tc, la, lc, V, h1.re (S' := { S with ac := 1 - S.ac }) hk rfl rfl rfl rfl ⟨h1.ht.1, h1.ht.2⟩ (by simp [World.setCell, Array.getElem?_modify, h1.hp]), h2, h3, h4, h5, fun k e => Nat.lt_of_lt_of_le (h6 k e) hk.size⟩, fun _ e => .inl e, hk.mono (fun i _ e => by subst e; exact h2)⟩
  · rw [if_neg hon, if_neg hon]
    have hon' : S.on = false := by simpa using hon
    rw [hon'] at c7
    clear hS hE
    go_enter Tryd.func37, Tryd.ntmps37
    go_wp2_with fail
    go_ret
    exact ⟨rfl, HL.out.stay (Below.refl _ _)⟩
end Go.Proofs.YtjoghmdjnkdokaaDoor
