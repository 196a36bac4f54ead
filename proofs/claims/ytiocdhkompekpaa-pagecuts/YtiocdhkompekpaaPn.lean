import Derived.Test.YtiocdhkompekpaaPm
namespace Go.Proofs.Ytiocdhkompekpaa
open Go.RowKit Go.Shelf
set_option linter.unusedVariables false
set_option linter.unusedSimpArgs false

/-! The document's flash: what a change leaves; is, Turn, Plan. -/
section
variable {w w' : World} {b : Nat} {g c : Nat → Nat} {A : Nat → List Pd21} {tn : List Int} {ta : Option Addr} {tc : Nat} {la : Option Addr} {lc : Nat} {V V' : Nat → Prop} {S S' : Fs21}
theorem sh21_pa (h : S'.pa = S.pa) (x y : Int) : sh21 S' x y = sh21 S x y := by unfold sh21; rw [h]
theorem fb21_pa (h : S'.pa = S.pa) (h' : S'.pg = S.pg) (x y : Int) : fb21 S' x y = fb21 S x y := by unfold fb21; rw [sh21_pa h, h']
theorem Rf21.re (h : Rf21 w b g c A tn ta tc la lc V S) (hk : Kp (fun k => k = b) w w') (e1 : S'.pa = S.pa) (e2 : S'.lg = S.lg) (e3 : S'.pg = S.pg) (e4 : S'.ps = S.ps) {tn' : List Int} {ta' : Option Addr} {tc' : Nat} (ht' : (S'.lf ≠ 0 → tn' = S'.tn) ∧ Sl21 w V ta' tn' tc')
    (hp : w'.heap[b]? = some (.cells #[.int .i64 (S'.pg : Int), .int .i64 (S'.ps : Int), .int .i64 S'.ac, .slice (some ⟨g 0, 0, none⟩) (A 0).length (c 0), .slice (some ⟨g 1, 0, none⟩) (A 1).length (c 1), .slice (some ⟨g 2, 0, none⟩) (A 2).length (c 2), .slice la S'.lg.length lc, .bool (!S'.on), .int .i64 S'.lf, .slice ta' tn'.length tc', .int .i64 S'.lm] 43 (0, 0))) :
    Rf21 w' b g c A tn' ta' tc' la lc V S' := by
  have hV : ∀ k, V k → w'.heap[k]? = w.heap[k]? := fun k e => hk.block k (h.vs k e) (fun q => h.vb (q ▸ e))
  have hl := h.hl
  have hvl := h.vl
  refine ⟨hp, fun x hx => ?_, by rw [e4]; exact h.hn, fun x y d hx hy => ?_, ⟨ht'.1, ht'.2.kp hV (fun _ e => e)⟩, ?_, h.gi, h.vb, h.vg, by rw [e2]; exact h.vl, fun k e => Nat.lt_of_lt_of_le (h.vs k e) hk.size⟩
  · obtain ⟨X, hX⟩ := h.ha x hx
    exact ⟨X, (hk.block _ (h.gl hx) (fun e => h.bg hx e.symm)).trans hX⟩
  · obtain ⟨q1, q2, q3⟩ := h.hd x y d hx hy
    rw [fb21_pa e1 e3, sh21_pa e1]
    refine ⟨q1.of_cells fun b' off' i v hi ha hc => ?_, q2, q3⟩
    cases ha
    rw [World.cell?_of_block (a := ⟨d.k, d.off + i, none⟩) (hV d.k q2)]
    exact hc
  · rw [e2]
    refine ⟨hl.1, ?_⟩
    rcases hl.2 with q | ⟨q, cap, cur, q1, q2, q3, q4⟩
    · exact .inl q
    · have hq := h.lo (k := q) (by rw [q1]; rfl)
      exact .inr ⟨q, cap, cur, q1, q2, (hk.block q hq.1 hq.2.1).trans q3, q4⟩
/-- More bytes may be spoken of. -/
theorem Rf21.wid (h : Rf21 w b g c A tn ta tc la lc V S) (hV : ∀ k, V k → V' k) (vb : ¬ V' b) (vg : ∀ x, x < 3 → ¬ V' (g x)) (vl : ∀ k, (Value.slice la S.lg.length lc).ownBlock = some k → ¬ V' k) (vs : ∀ k, V' k → k < w.heap.size) : Rf21 w b g c A tn ta tc la lc V' S :=
  ⟨h.hp, h.ha, h.hn, fun x y d hx hy => by obtain ⟨q1, q2, q3⟩ := h.hd x y d hx hy; exact ⟨q1, hV _ q2, q3⟩, ⟨h.ht.1, h.ht.2.kp (fun _ _ => rfl) hV⟩, h.hl, h.gi, vb, vg, vl, vs⟩
def ad21 (A : Nat → List Pd21) (x y : Nat) (d : Pd21) : Nat → List Pd21 := fun z => if z = x then (A x).set y d else A z
theorem ad21_len (A : Nat → List Pd21) (x y : Nat) (d : Pd21) (z : Nat) : (ad21 A x y d z).length = (A z).length := by
  unfold ad21; split
  · rename_i h; subst h; simp
  · rfl
theorem sh21_up (S : Fs21) (x y : Int) (s : Sh21) (x' y' : Int) : sh21 { S with pa := up21 S.pa x y s } x' y' = if x' = x ∧ y' = y then s else sh21 S x' y' := by
  unfold sh21 up21
  by_cases h : x' = x ∧ y' = y
  · simp [h]
  · simp [h]
/-- A page anew. -/
theorem Rf21.page (h : Rf21 w b g c A tn ta tc la lc V S) {x y : Nat} (hx : x < 3) (hy : y < (A x).length) (d : Pd21) (s : Sh21) (hk : Kp (fun k => k = g x) w w') (hg : ∃ X : List Value, w'.heap[g x]? = some (.cells (pdl21 ((A x).set y d) ++ X).toArray 106 (0, 0)))
    (h1 : Seg w' (some ⟨d.k, d.off, none⟩) d.b) (h2 : V d.k) (h3 : d.b = s.b ++ List.replicate (S.pg - s.b.length) 255) (h4 : d.er = s.er) (h5 : d.wr = s.wr) (h6 : d.b.length ≤ d.c) :
    Rf21 w' b g c (ad21 A x y d) tn ta tc la lc V { S with pa := up21 S.pa (x : Int) (y : Int) s } := by
  have hV : ∀ k, V k → w'.heap[k]? = w.heap[k]? := fun k e => hk.block k (h.vs k e) (fun q => h.vg x hx (q ▸ e))
  have hgne : ∀ z, z < 3 → z ≠ x → g z ≠ g x := fun z hz hne => by
    have := h.gi
    rcases (show x = 0 ∨ x = 1 ∨ x = 2 by omega) with rfl | rfl | rfl <;> rcases (show z = 0 ∨ z = 1 ∨ z = 2 by omega) with rfl | rfl | rfl <;> first | exact absurd rfl hne | exact this.1 | exact this.2.1 | exact this.2.2 | exact this.1.symm | exact this.2.1.symm | exact this.2.2.symm
  refine ⟨?_, fun z hz => ?_, fun z hz => ?_, fun z y' d' hz hy' => ?_, ⟨h.ht.1, h.ht.2.kp hV (fun _ e => e)⟩, ?_, h.gi, h.vb, h.vg, h.vl, fun k e => Nat.lt_of_lt_of_le (h.vs k e) hk.size⟩
  · rw [ad21_len, ad21_len, ad21_len]
    exact (hk.block b h.bl (h.bg hx)).trans h.hp
  · by_cases e : z = x
    · subst e
      obtain ⟨X, hX⟩ := hg
      exact ⟨X, by simpa [ad21] using hX⟩
    · obtain ⟨X, hX⟩ := h.ha z hz
      exact ⟨X, by simpa [ad21, e] using (hk.block _ (h.gl hz) (hgne z hz e)).trans hX⟩
  · rw [ad21_len]; exact h.hn z hz
  · have hfb : ∀ a b, fb21 { S with pa := up21 S.pa (x : Int) (y : Int) s } a b = (if a = (x : Int) ∧ b = (y : Int) then s.b ++ List.replicate (S.pg - s.b.length) 255 else fb21 S a b) := fun a b => by
      unfold fb21
      rw [sh21_up]
      split <;> rfl
    rw [hfb, sh21_up]
    by_cases e : z = x
    · subst e
      by_cases e2 : y' = y
      · subst e2
        have : d' = d := by simpa [ad21, hy] using hy'.symm
        subst this
        simp only [and_self, if_true]
        exact ⟨h1, h2, h3, h4, h5, h6⟩
      · have e2' : ¬ (y' : Int) = (y : Int) := by omega
        have hne : ¬ y = y' := fun q => e2 q.symm
        have : (A z)[y']? = some d' := by simpa [ad21, List.getElem?_set, hne] using hy'
        simp only [e2', and_false, if_false]
        obtain ⟨q1, q2, q3⟩ := h.hd z y' d' hz this
        refine ⟨q1.of_cells fun b' off' i v hi ha hc => ?_, q2, q3⟩
        cases ha
        rw [World.cell?_of_block (a := ⟨d'.k, d'.off + i, none⟩) (hV d'.k q2)]
        exact hc
    · have e' : ¬ (z : Int) = (x : Int) := by omega
      have : (A z)[y']? = some d' := by simpa [ad21, e] using hy'
      simp only [e', false_and, if_false]
      obtain ⟨q1, q2, q3⟩ := h.hd z y' d' hz this
      refine ⟨q1.of_cells fun b' off' i v hi ha hc => ?_, q2, q3⟩
      cases ha
      rw [World.cell?_of_block (a := ⟨d'.k, d'.off + i, none⟩) (hV d'.k q2)]
      exact hc
  · refine ⟨h.hl.1, ?_⟩
    rcases h.hl.2 with q | ⟨q, cap, cur, q1, q2, q3, q4⟩
    · exact .inl q
    · have hq := h.lo (k := q) (by rw [q1]; rfl)
      exact .inr ⟨q, cap, cur, q1, q2, (hk.block q hq.1 (hq.2.2 x hx)).trans q3, q4⟩
theorem Rf21.at (h : Rf21 w b g c A tn ta tc la lc V S) {x : Int} {y : Int} (hm : ms21 S.ps x y = 0) : ∃ (X Y : Nat) (d : Pd21), x = (X : Int) ∧ y = (Y : Int) ∧ X < 3 ∧ Y < (A X).length ∧ (A X)[Y]? = some d := by
  unfold ms21 pn21 at hm
  have hx : 0 ≤ x ∧ x ≤ 2 ∧ 0 ≤ y := by
    by_cases h1 : x < 0 ∨ 2 < x
    · simp [h1] at hm; omega
    · by_cases h2 : y < 0
      · simp [h2] at hm
      · omega
  obtain ⟨X, rfl⟩ : ∃ X : Nat, x = (X : Int) := ⟨x.toNat, by omega⟩
  obtain ⟨Y, rfl⟩ : ∃ Y : Nat, y = (Y : Int) := ⟨y.toNat, by omega⟩
  have h3 : X < 3 := by omega
  have hn := (h.hn X h3).1
  have hlt : Y < (A X).length := by
    have : ¬ ((Y : Int) < 0 ∨ pn21 S.ps (X : Int) ≤ (Y : Int)) := fun q => by
      unfold pn21 at q
      rw [if_pos q] at hm
      cases hm
    omega
  exact ⟨X, Y, _, rfl, rfl, h3, hlt, List.getElem?_eq_getElem hlt⟩
end
/-! is. -/
set_option maxRecDepth 100000 in
set_option maxHeartbeats 2000000 in
theorem ris21 {w : World} {b : Nat} {G : Nat → Prop} {S : Fs21} (h : Rl21d w b G S) (x y : Int) (hx : In21 x) (hy : In21 y) :
    Calls Try.prog 62 #[.pointer (some ⟨b, 0, none⟩), .int .i64 x, .int .i64 y] w fun e w' => e = .returned (.bool (decide (ms21 S.ps x y = 0))) ∧ w' = w := by
  obtain ⟨g, c, A, tn, ta, tc, la, lc, V, h1, -⟩ := h
  by_cases c1 : x < 0
  · have e : decide (ms21 S.ps x y = 0) = false := by simp [ms21, pn21, c1] <;> omega
    rw [e]
    have c1' : ¬ 0 ≤ x := by omega
    clear e h1
    go_enter Try.func62, Try.ntmps62
    go_wp2_with fail
    go_ret
    exact ⟨rfl, rfl⟩
  · have c1' : 0 ≤ x := by omega
    by_cases c2 : 2 < x
    · have e : decide (ms21 S.ps x y = 0) = false := by simp [ms21, pn21, c2] <;> omega
      rw [e]
      have c2' : ¬ x ≤ 2 := by omega
      clear e h1
      go_enter Try.func62, Try.ntmps62
      go_wp2_with fail
      go_ret
      exact ⟨rfl, rfl⟩
    · have c2' : x ≤ 2 := by omega
      by_cases c3 : y < 0
      · have e : decide (ms21 S.ps x y = 0) = false := by simp [ms21, c3]
        rw [e]
        have c3' : ¬ 0 ≤ y := by omega
        clear e h1
        go_enter Try.func62, Try.ntmps62
        go_wp2_with fail
        go_ret
        exact ⟨rfl, rfl⟩
      · have c3' : 0 ≤ y := by omega
        obtain ⟨X, rfl⟩ : ∃ X : Nat, x = (X : Int) := ⟨x.toNat, by omega⟩
        have h3 : X < 3 := by omega
        have hn := (h1.hn X h3).1
        have ca := h1.car h3
        obtain ⟨N, hN⟩ : ∃ N, N = (A X).length := ⟨_, rfl⟩
        rw [← hN] at ca hn
        have e : decide (ms21 S.ps (X : Int) y = 0) = decide (y < (N : Int)) := by
          unfold ms21
          rw [← hn]
          by_cases q : y < (N : Int)
          · simp [q]; omega
          · have q' : (N : Int) ≤ y := by omega
            simp [q, q']
        rw [e]
        have hX3 : (X : Int) < 3 := by omega
        clear e h1 hn hN c1 c2 c3
        go_enter Try.func62, Try.ntmps62
        go_wp2_with fail
        go_ret
        exact ⟨rfl, rfl⟩
set_option maxRecDepth 100000 in
set_option maxHeartbeats 2000000 in
theorem rtrn21 {w : World} {b : Nat} {G : Nat → Prop} {S : Fs21} (h : Rl21d w b G S) (hO : Ok21 S) :
    Calls Try.prog 22 #[.pointer (some ⟨b, 0, none⟩)] w fun e w' => e = .returned (.int .i64 (st21 S.on)) ∧ Rn21 w w' b G (tuS21 S) := by
  have HL : Hid (Rl21d w b G S) := h
  obtain ⟨g, c, A, tn, ta, tc, la, lc, V, h1, h2, h3, h4, h5, h6⟩ := h
  have c7 := h1.cel (i := 7) rfl
  have c2 := h1.cel (i := 2) rfl
  have y2 := h1.fr 2
  have HR : Hid (Rf21 w b g c A tn ta tc la lc V S ∧ G b ∧ (∀ x, x < 3 → G (g x)) ∧ (∀ k, (Value.slice la S.lg.length lc).ownBlock = some k → G k) ∧ (∀ k, V k → G k) ∧ (∀ k, G k → k < w.heap.size)) := ⟨h1, h2, h3, h4, h5, h6⟩
  clear h1 h2 h3 h4 h5 h6
  have hS : Hid (tuS21 S = if S.on then { S with ac := 1 - S.ac } else S) := rfl
  have hE : Hid (st21 S.on = if S.on then 0 else 213) := rfl
  rw [hS.out, hE.out]
  by_cases hon : S.on = true
  · rw [if_pos hon, if_pos hon]
    rw [hon] at c7
    have hac : IntKind.i64.wrap (1 - S.ac) = 1 - S.ac := by rw [IntWalk.i64_in _ (by have := hO.ac; omega)]
    clear hS hE
    go_enter Try.func22, Try.ntmps22
    go_wp2_with fail
    go_ret
    obtain ⟨h1, h2, h3, h4, h5, h6⟩ := HR.out
    have hk : Kp (fun k => k = b) w (w.setCell ⟨b, 2, none⟩ (.int .i64 (1 - S.ac))) := Kp.set (S := fun k => k = b) rfl _
    refine ⟨rfl, G, ⟨g, c, A, tn, ta, tc, la, lc, V, h1.re (S' := { S with ac := 1 - S.ac }) hk rfl rfl rfl rfl ⟨h1.ht.1, h1.ht.2⟩ (by simp [World.setCell, Array.getElem?_modify, h1.hp]), h2, h3, h4, h5, fun k e => Nat.lt_of_lt_of_le (h6 k e) hk.size⟩, fun _ e => .inl e, hk.mono (fun i _ e => by subst e; exact h2)⟩
  · rw [if_neg hon, if_neg hon]
    have hon' : S.on = false := by simpa using hon
    rw [hon'] at c7
    clear hS hE
    go_enter Try.func22, Try.ntmps22
    go_wp2_with fail
    go_ret
    exact ⟨rfl, HL.out.stay (Below.refl _ _)⟩
end Go.Proofs.Ytiocdhkompekpaa

namespace Go.Proofs.Ytiocdhkompekpaa
open Go.RowKit Go.Shelf
set_option linter.unusedVariables false
set_option linter.unusedSimpArgs false

/-! The document's flash: Plan, done. -/
theorem cl21_own {w : World} {N : Nat} {a : Option Addr} {c n : Nat} {zs : List Int} (h : w.ownsRow N 5 1 (.slice a n c) n (zs.map (Value.int .u8))) (hz : ∀ z ∈ zs, 0 ≤ z ∧ z ≤ 255) : Cl21 w a zs c N := by
  obtain ⟨-, a', cap', hv, hsg, hx, hcp, -⟩ := own_seg (M := 255) h (by decide) hz
  simp only [Value.slice.injEq] at hv
  obtain ⟨rfl, -, rfl⟩ := hv
  refine ⟨hsg, ?_, ?_, by have := h.1; simp at this; omega⟩
  · cases a with
    | none => exact .inl rfl
    | some x =>
      obtain ⟨h1, h2, h3, h4⟩ := hx x rfl
      refine .inr ⟨x.block, ?_, h3, h4⟩
      cases x; simp at h1 h2; simp [h1, h2]
  · intro h0
    subst h0
    rcases h.2 with ⟨h1, h2⟩ | ⟨g, cp, cur, hv, _⟩
    · simp at h1; exact h1.2
    · simp at hv
section
variable {w w' : World} {b : Nat} {g c : Nat → Nat} {A : Nat → List Pd21} {tn : List Int} {ta : Option Addr} {tc : Nat} {la : Option Addr} {lc : Nat} {V V' : Nat → Prop} {S S' : Fs21}
/-- Bytes of the call's own may be spoken of. -/
theorem Rf21.new (h : Rf21 w b g c A tn ta tc la lc V S) (hb : Below w.heap.size w w') (Q : Nat → Prop) (hQ : ∀ k, Q k → w.heap.size ≤ k ∧ k < w'.heap.size) : Rf21 w' b g c A tn ta tc la lc (fun k => V k ∨ Q k) S := by
  have h1 := h.bl
  refine (h.old hb).wid (fun _ e => .inl e) ?_ ?_ ?_ ?_
  · rintro (e | e)
    · exact h.vb e
    · have := hQ _ e; omega
  · rintro x hx (e | e)
    · exact h.vg x hx e
    · have := hQ _ e; have := h.gl hx; omega
  · rintro k hk (e | e)
    · exact h.vl k hk e
    · have := hQ _ e; have := (h.lo hk).1; omega
  · rintro k (e | e)
    · exact Nat.lt_of_lt_of_le (h.vs k e) hb.size
    · exact (hQ k e).2
end
set_option maxRecDepth 100000 in
set_option maxHeartbeats 4000000 in
theorem rpln21 {w : World} {b : Nat} {G : Nat → Prop} {S : Fs21} (h : Rl21d w b G S) (hO : Ok21 S) (n : Int) (a : Option Addr) (L : List Int) (l cap : Nat) (hs : Seg w a L) (hl : Hid (L.length = l)) (hnil : a = none → cap = 0) (hb48 : l ≤ 140737488351232) :
    Calls Try.prog 19 #[.pointer (some ⟨b, 0, none⟩), .int .i64 n, .slice a l cap] w fun e w' => e = .returned (.int .i64 (cuE21 S n l)) ∧ Rn21 w w' b G (cuS21 S n L) := by
  have HL : Hid (Rl21d w b G S) := h
  obtain ⟨g, c, A, tn, ta, tc, la, lc, V, h1, h2, h3, h4, h5, h6⟩ := h
  have c7 := h1.cel (i := 7) rfl
  have c0 := h1.cel (i := 0) rfl
  have HR : Hid (Rf21 w b g c A tn ta tc la lc V S ∧ G b ∧ (∀ x, x < 3 → G (g x)) ∧ (∀ k, (Value.slice la S.lg.length lc).ownBlock = some k → G k) ∧ (∀ k, V k → G k) ∧ (∀ k, G k → k < w.heap.size)) := ⟨h1, h2, h3, h4, h5, h6⟩
  clear h1 h2 h3 h4 h5 h6
  have hS : Hid (cuS21 S n L = if S.on = false then S else if n < 0 ∨ S.pg < l then S else { S with lf := n, tn := if 0 < n then L else [] }) := by show _ = _; unfold cuS21; rw [hl.out]
  have hE : Hid (cuE21 S n l = if S.on = false then 213 else if n < 0 ∨ S.pg < l then 1 else 0) := rfl
  rw [hS.out, hE.out]
  clear hS hE
  by_cases hon : S.on = false
  · rw [if_pos hon, if_pos hon]
    rw [hon] at c7
    go_enter Try.func19, Try.ntmps19
    go_wp2_with fail
    go_ret
    exact ⟨rfl, HL.out.stay (Below.refl _ _)⟩
  · rw [if_neg hon, if_neg hon]
    have hon' : S.on = true := by simpa using hon
    rw [hon'] at c7
    by_cases hn : n < 0
    · rw [if_pos (.inl hn), if_pos (.inl hn)]
      go_enter Try.func19, Try.ntmps19
      go_wp2_with fail
      go_ret
      exact ⟨rfl, HL.out.stay (Below.refl _ _)⟩
    · by_cases hp : S.pg < l
      · rw [if_pos (.inr hp), if_pos (.inr hp)]
        have hpi : (S.pg : Int) < (l : Int) := by omega
        go_enter Try.func19, Try.ntmps19
        go_wp2_with fail
        go_ret
        exact ⟨rfl, HL.out.stay (Below.refl _ _)⟩
      · rw [if_neg (by omega), if_neg (by omega)]
        have hpi : ¬ (S.pg : Int) < (l : Int) := by omega
        obtain ⟨i0, hi, hz0, hz1, hz2⟩ := info_parts info_y21
        have hm0 : (w.alloc (.cells #[] 5)).ownsRow w.heap.size 5 1 (.slice (some ⟨w.heap.size, 0, none⟩) 0 0) 0 [] := World.ownsRow_made w #[] 0 (Nat.le_refl _) (by decide) rfl
        have hb0 : Below w.heap.size w (w.alloc (.cells #[] 5)) := (Below.refl _ _).alloc (Nat.le_refl _) _
        have hs1 := hs.alloc (.cells #[] 5)
        have hmem := hs.mem
        have HLN := hl.out
        subst HLN
        have HRE : Hid (∀ (w1 : World) (a1 : Option Addr) (c1 : Nat), Below w.heap.size w w1 → Cl21 w1 a1 L c1 w.heap.size → w1.cell? ⟨b, 8, none⟩ = some (.int .i64 S.lf) ∧ w1.cell? ⟨b, 9, none⟩ = some (.slice ta tn.length tc) ∧ (∀ i, w1.frozen? ⟨b, i, none⟩ = false) ∧ Rn21 w ((w1.setCell ⟨b, 8, none⟩ (.int .i64 n)).setCell ⟨b, 9, none⟩ (.slice a1 L.length c1)) b G { S with lf := n, tn := if 0 < n then L else [] }) := fun w1 a1 c1 hb hc => by
          obtain ⟨h1, h2, h3, h4, h5, h6⟩ := HR.out
          have q := h1.old hb
          have hnew := h1.new hb (fun k => a1 = some ⟨k, 0, none⟩) (fun k e => by
            rcases hc.2.1 with e2 | ⟨k', e2, e3, e4⟩
            · rw [e2] at e; cases e
            · rw [e2] at e; cases e; exact ⟨e3, e4⟩)
          refine ⟨q.cel (i := 8) rfl, q.cel (i := 9) rfl, q.fr, ?_⟩
          have hk : Kp (fun k => k = b) w1 ((w1.setCell ⟨b, 8, none⟩ (.int .i64 n)).setCell ⟨b, 9, none⟩ (.slice a1 L.length c1)) := (Kp.set (S := fun k => k = b) rfl _).trans (Kp.set (S := fun k => k = b) rfl _) (fun _ _ e => e)
          have hre := hnew.re (S' := { S with lf := n, tn := if 0 < n then L else [] }) hk rfl rfl rfl rfl (tn' := L) (ta' := a1) (tc' := c1) ⟨fun e => by show L = if 0 < n then L else []; rw [if_pos]; have : n ≠ 0 := e; omega, hc.1, by rcases hc.2.1 with e2 | ⟨k', e2, e3, e4⟩; (exact .inl e2); (exact .inr ⟨k', e2, .inr e2⟩), hc.2.2.1, hc.2.2.2⟩ (by simp [World.setCell, Array.getElem?_modify, hnew.hp])
          refine ⟨fun k => G k ∨ a1 = some ⟨k, 0, none⟩, ⟨g, c, A, L, a1, c1, la, lc, _, hre, .inl h2, fun x hx => .inl (h3 x hx), fun k e => .inl (h4 k e), fun k e => by rcases e with e | e; (exact .inl (h5 k e)); (exact .inr e), fun k e => ?_⟩, fun k e => ?_, ?_⟩
          · rcases e with e | e
            · exact Nat.lt_of_lt_of_le (h6 k e) (Nat.le_trans hb.size hk.size)
            · rcases hc.2.1 with e2 | ⟨k', e2, e3, e4⟩
              · rw [e2] at e; cases e
              · rw [e2] at e; cases e; exact Nat.lt_of_lt_of_le e4 hk.size
          · rcases e with e | e
            · exact .inl e
            · rcases hc.2.1 with e2 | ⟨k', e2, e3, e4⟩
              · rw [e2] at e; cases e
              · rw [e2] at e; cases e; exact .inr e3
          · exact (Kp.of_below hb).trans (hk.mono (S' := G) (fun i _ e => by subst e; exact h2)) (fun _ _ e => e)
        clear hs hl HL
        generalize ({ S with lf := n, tn := if 0 < n then L else [] } : Fs21) = S1 at HRE ⊢
        go_enter Try.func19, Try.ntmps19
        go_wp2_with (first
          | (at_builtin; refine wpList_appS rfl (.tmp 25) (.tmp 26) 26 rfl w.heap.size 5 i0 (.int .u8 0) 1 Try.underlying26 hi hz0 hz1 hz2 rfl hm0 hs1 hnil rfl rfl (by omega) (by omega) (by have := hb0.size; omega) ?_; intro a1 c1 w1 hown1 hg1 hf1 hn1; have hb1 := hb0.trans (below_own hm0 hg1 (by have := hb0.size; omega)); rw [Nat.zero_add, List.nil_append] at hown1; obtain ⟨e8, e9, ef, HRN⟩ := HRE.out w1 a1 c1 hb1 (cl21_own hown1 hmem); have HRN' : Hid (Rn21 w ((w1.setCell ⟨b, 8, none⟩ (.int .i64 n)).setCell ⟨b, 9, none⟩ (.slice a1 L.length c1)) b G S1) := HRN; have f8 := ef 8; have f9 := ef 9; clear hf1 hg1 hn1 hown1 HRN ef hb1 hm0 hs1 hb0))
        go_ret
        exact ⟨rfl, HRN'.out⟩
end Go.Proofs.Ytiocdhkompekpaa
