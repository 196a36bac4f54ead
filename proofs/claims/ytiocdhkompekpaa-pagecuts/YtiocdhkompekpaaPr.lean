import Derived.Test.YtiocdhkompekpaaPq
namespace Go.Proofs.Ytiocdhkompekpaa
open Go.RowKit Go.Shelf
set_option linter.unusedVariables false
set_option linter.unusedSimpArgs false

/-! The landed page: lay. -/
def lyE22 (S : Fs21) (P : Pw22) : Int := if erE21 S P.ar (P.pn : Int) ≠ 0 then erE21 S P.ar (P.pn : Int) else pgE21 (erS21 S P.ar (P.pn : Int)) P.ar (P.pn : Int) P.bf.length
def lyS22 (S : Fs21) (P : Pw22) : Fs21 := if erE21 S P.ar (P.pn : Int) ≠ 0 then erS21 S P.ar (P.pn : Int) else pgS21 (erS21 S P.ar (P.pn : Int)) P.ar (P.pn : Int) P.bf
def lyP22 (S : Fs21) (P : Pw22) : Pw22 := if lyE22 S P ≠ 0 then { P with cl := lyE22 S P } else { P with pn := P.pn + 1, bf := [] }
theorem rn21_pg (S : Fs21) (kd x y : Int) (nn : Sh21) : (rn21 S kd x y nn).pg = S.pg ∧ (rn21 S kd x y nn).ps = S.ps ∧ (rn21 S kd x y nn).ac = S.ac ∧ (rn21 S kd x y nn).lm = S.lm ∧ (rn21 S kd x y nn).lg.length = S.lg.length + 1 := by
  unfold rn21; split <;> simp [cu21, go21]
theorem erS21_pg (S : Fs21) (x y : Int) : (erS21 S x y).pg = S.pg ∧ (erS21 S x y).ps = S.ps ∧ (erS21 S x y).ac = S.ac ∧ (erS21 S x y).lm = S.lm ∧ (erS21 S x y).lg.length ≤ S.lg.length + 1 := by
  unfold erS21
  split
  · exact ⟨rfl, rfl, rfl, rfl, by omega⟩
  · split
    · exact ⟨rfl, rfl, rfl, rfl, by omega⟩
    · have := rn21_pg S 1 x y ⟨[], true, (sh21 S x y).wr + 1⟩
      exact ⟨this.1, this.2.1, this.2.2.1, this.2.2.2.1, by omega⟩
theorem pgS21_pg (S : Fs21) (x y : Int) (L : List Int) : (pgS21 S x y L).pg = S.pg ∧ (pgS21 S x y L).ps = S.ps ∧ (pgS21 S x y L).ac = S.ac ∧ (pgS21 S x y L).lm = S.lm ∧ (pgS21 S x y L).lg.length ≤ S.lg.length + 1 := by
  unfold pgS21
  split
  · exact ⟨rfl, rfl, rfl, rfl, by omega⟩
  · split
    · exact ⟨rfl, rfl, rfl, rfl, by omega⟩
    · split
      · exact ⟨rfl, rfl, rfl, rfl, by omega⟩
      · have := rn21_pg S 2 x y ⟨L, false, (sh21 S x y).wr⟩
        exact ⟨this.1, this.2.1, this.2.2.1, this.2.2.2.1, by omega⟩
theorem lyS22_pg (S : Fs21) (P : Pw22) : (lyS22 S P).pg = S.pg ∧ (lyS22 S P).ps = S.ps ∧ (lyS22 S P).ac = S.ac ∧ (lyS22 S P).lm = S.lm ∧ (lyS22 S P).lg.length ≤ S.lg.length + 2 := by
  have h1 := erS21_pg S P.ar P.pn
  have h2 := pgS21_pg (erS21 S P.ar P.pn) P.ar P.pn P.bf
  unfold lyS22
  split
  · exact ⟨h1.1, h1.2.1, h1.2.2.1, h1.2.2.2.1, by omega⟩
  · exact ⟨h2.1.trans h1.1, h2.2.1.trans h1.2.1, h2.2.2.1.trans h1.2.2.1, h2.2.2.2.1.trans h1.2.2.2.1, by omega⟩
theorem ok22_ly {S : Fs21} (h : Ok21 S) (P : Pw22) : Ok21 (lyS22 S P) := by
  unfold lyS22
  split
  · exact ok21_er h _ _
  · exact ok21_pg (ok21_er h _ _) _ _ _
section
variable {w w' : World} {v s g b pg : Nat} {F : Nat → Prop} {S : Fs21} {P P' : Pw22}
theorem seg_bf22 (h : Wr22 w v s g b pg P) : Seg w (some ⟨g, 0, none⟩) P.bf := by
  obtain ⟨Y, h1, h2, h3⟩ := h.hg
  have := (seg_row21 h1 h3).take P.bf.length
  simpa using this
set_option maxRecDepth 100000 in
set_option maxHeartbeats 8000000 in
theorem play22 (h : Pe22 w v s g b F S P) (hO : Ok21 S) (ha : In21 P.ar) (hp : P.pn ≤ 1099511627776) (hlg : S.lg.length ≤ 4398046510000) :
    Calls Try.prog 54 #[.pointer (some ⟨s, 0, none⟩)] w fun e w' => e = .returned (.int .i64 (lyE22 S P)) ∧ Pn22 w w' v s g b F (lyS22 S P) (lyP22 S P) := by
  have HP : Hid (Pe22 w v s g b F S P) := h
  have hpn : In21 (P.pn : Int) := ⟨by omega, by omega⟩
  have hO1 := ok21_er hO P.ar (P.pn : Int)
  have hp1 := erS21_pg S P.ar (P.pn : Int)
  have hbl : P.bf.length ≤ S.pg := by obtain ⟨Y, _, h2, _⟩ := h.wr.hg; omega
  have hpgl := hO.pg
  have hslt := h.wr.lt
  have HER : Hid (∀ W : World, Below w.heap.size w W → Calls Try.prog 60 #[.pointer (some ⟨b, 0, none⟩), .int .i64 P.ar, .int .i64 (P.pn : Int)] W fun e w' => e = .returned (.int .i64 (erE21 S P.ar (P.pn : Int))) ∧ Pn22 w w' v s g b F (erS21 S P.ar (P.pn : Int)) P) := fun W hW => (perase21 (h.fl.old hW) hO P.ar (P.pn : Int) ha hpn (by omega)).mono (by
    rintro e w' ⟨rfl, hn⟩
    exact ⟨rfl, ((h.old hW).flash hn hp1.1).from hW⟩)
  have HC : Hid (∀ (W : World) (F' : Nat → Prop) (S' : Fs21), Pe22 W v s g b F' S' P → S'.pg = S.pg → W.cell? ⟨s, 0, none⟩ = some (.pointer (some ⟨b, 0, none⟩)) ∧ W.cell? ⟨s, 1, none⟩ = some (.int .i64 P.ar) ∧ W.cell? ⟨s, 2, none⟩ = some (.slice (some ⟨g, 0, none⟩) S.pg S.pg) ∧ W.cell? ⟨s, 3, none⟩ = some (.int .i64 (P.bf.length : Int)) ∧ W.cell? ⟨s, 4, none⟩ = some (.int .i64 (P.pn : Int))) := fun W F' S' q e => ⟨q.wr.c0, q.wr.c1, by rw [← e]; exact q.wr.c2, q.wr.c3, q.wr.c4⟩
  have hE1 : Hid (lyE22 S P = if erE21 S P.ar (P.pn : Int) ≠ 0 then erE21 S P.ar (P.pn : Int) else pgE21 (erS21 S P.ar (P.pn : Int)) P.ar (P.pn : Int) P.bf.length) := rfl
  have hS1 : Hid (lyS22 S P = if erE21 S P.ar (P.pn : Int) ≠ 0 then erS21 S P.ar (P.pn : Int) else pgS21 (erS21 S P.ar (P.pn : Int)) P.ar (P.pn : Int) P.bf) := rfl
  have hP1 : Hid (lyP22 S P = if lyE22 S P ≠ 0 then { P with cl := lyE22 S P } else { P with pn := P.pn + 1, bf := [] }) := rfl
  have HPR : Hid (∀ (W : World) (F' : Nat → Prop), Pe22 W v s g b F' (erS21 S P.ar (P.pn : Int)) P → Calls Try.prog 61 #[.pointer (some ⟨b, 0, none⟩), .int .i64 P.ar, .int .i64 (P.pn : Int), .slice (some ⟨g, 0, none⟩) P.bf.length S.pg] W fun e w' => e = .returned (.int .i64 (pgE21 (erS21 S P.ar (P.pn : Int)) P.ar (P.pn : Int) P.bf.length)) ∧ Pn22 W w' v s g b F' (pgS21 (erS21 S P.ar (P.pn : Int)) P.ar (P.pn : Int) P.bf) P) := fun W F' q => (pprog21 q.fl hO1 P.ar (P.pn : Int) ha hpn (by omega) (some ⟨g, 0, none⟩) P.bf P.bf.length S.pg (seg_bf22 q.wr) rfl (by intro h; cases h)).mono (by
    rintro e w' ⟨rfl, hn⟩
    exact ⟨rfl, q.flash hn (pgS21_pg _ _ _ _).1⟩)
  have c0 : w.drew.cell? ⟨s, 0, none⟩ = some (.pointer (some ⟨b, 0, none⟩)) := h.wr.c0
  have c1 : w.drew.cell? ⟨s, 1, none⟩ = some (.int .i64 P.ar) := h.wr.c1
  have c4 : w.drew.cell? ⟨s, 4, none⟩ = some (.int .i64 (P.pn : Int)) := h.wr.c4
  have HB : Hid (Below w.heap.size w w.drew) := (Below.refl _ _).drew
  have HP1 : Hid (((erS21 S P.ar (P.pn : Int)).pg = S.pg)) := hp1.1
  have HP2 : Hid ((pgS21 (erS21 S P.ar (P.pn : Int)) P.ar (P.pn : Int) P.bf).pg = (erS21 S P.ar (P.pn : Int)).pg) := (pgS21_pg _ _ _ _).1
  rw [hP1.out, hS1.out, hE1.out]
  clear h hO1 hp1 hE1 hS1 hP1
  generalize erE21 S P.ar (P.pn : Int) = E1 at *
  generalize hgp : pgE21 (erS21 S P.ar (P.pn : Int)) P.ar (P.pn : Int) P.bf.length = E2 at *
  generalize hgs : pgS21 (erS21 S P.ar (P.pn : Int)) P.ar (P.pn : Int) P.bf = S2 at *
  clear hgp hgs
  generalize erS21 S P.ar (P.pn : Int) = S1 at *
  obtain ⟨BL, hBL⟩ : ∃ BL, BL = P.bf.length := ⟨_, rfl⟩
  rw [← hBL] at HC HPR hbl
  have hblI : (BL : Int) ≤ (S.pg : Int) := by omega
  have hwp : IntKind.i64.wrap ((P.pn : Int) + 1) = ((P.pn + 1 : Nat) : Int) := by rw [IntWalk.i64_in _ (by omega)]; omega
  clear hBL
  by_cases hE : E1 = 0
  · subst hE
    rw [if_neg (show ¬ ((0 : Int) ≠ 0) by simp), if_neg (show ¬ ((0 : Int) ≠ 0) by simp)]
    by_cases hE2 : E2 = 0
    · subst hE2
      rw [if_neg (show ¬ ((0 : Int) ≠ 0) by simp)]
      go_enter Try.func54, Try.ntmps54
      go_wp2_with fail
      go_region_held3 (fun V => V.cell? ⟨s, 0, none⟩ = some (.pointer (some ⟨b, 0, none⟩)) ∧ V.cell? ⟨s, 1, none⟩ = some (.int .i64 P.ar) ∧ V.cell? ⟨s, 4, none⟩ = some (.int .i64 (P.pn : Int))) (first | exact ⟨c0, c1, c4⟩ | exact k1 | go_keep)
        (first | (go_at_call 60; refine (HER.out _ HB.out).mono ?_; rintro e1 w1 ⟨rfl, hn1⟩; have k1 : w1.cell? ⟨s, 0, none⟩ = some (.pointer (some ⟨b, 0, none⟩)) ∧ w1.cell? ⟨s, 1, none⟩ = some (.int .i64 P.ar) ∧ w1.cell? ⟨s, 4, none⟩ = some (.int .i64 (P.pn : Int)) := by obtain ⟨F', q, _⟩ := hn1; have := HC.out w1 F' S1 q HP1.out; exact ⟨this.1, this.2.1, this.2.2.2.2⟩))
      obtain ⟨F1, q1, f1, kk1⟩ := hn1
      have HN1 : Hid (Pn22 w w1 v s g b F S1 P) := ⟨F1, q1, f1, kk1⟩
      have HQ1 : Hid (Pe22 w1 v s g b F1 S1 P) := q1
      have HF1 : Hid ((∀ k, F1 k → F k ∨ w.heap.size ≤ k) ∧ Kp (fun k => F k ∨ k = s ∨ k = g) w w1) := ⟨f1, kk1⟩
      clear k1 c0 c1 c4 f1 kk1
      have HC1 := HC.out w1.drew F1 S1 (q1.old (Below.refl _ _).drew) HP1.out
      obtain ⟨d0, d1, d2, d3, d4⟩ := HC1
      have HB1 : Hid (Pe22 w1.drew v s g b F1 S1 P) := q1.old (Below.refl _ _).drew
      clear q1
      go_wp2_with fail
      go_region_held3 (fun V => V.cell? ⟨s, 0, none⟩ = some (.pointer (some ⟨b, 0, none⟩)) ∧ V.cell? ⟨s, 1, none⟩ = some (.int .i64 P.ar) ∧ V.cell? ⟨s, 2, none⟩ = some (.slice (some ⟨g, 0, none⟩) S.pg S.pg) ∧ V.cell? ⟨s, 3, none⟩ = some (.int .i64 (BL : Int)) ∧ V.cell? ⟨s, 4, none⟩ = some (.int .i64 (P.pn : Int))) (first | exact ⟨d0, d1, d2, d3, d4⟩ | exact k2 | go_keep)
        (first | (go_at_call 61; refine (HPR.out _ F1 HB1.out).mono ?_; rintro e2 w2 ⟨rfl, hn2⟩; have k2 : w2.cell? ⟨s, 0, none⟩ = some (.pointer (some ⟨b, 0, none⟩)) ∧ w2.cell? ⟨s, 1, none⟩ = some (.int .i64 P.ar) ∧ w2.cell? ⟨s, 2, none⟩ = some (.slice (some ⟨g, 0, none⟩) S.pg S.pg) ∧ w2.cell? ⟨s, 3, none⟩ = some (.int .i64 (BL : Int)) ∧ w2.cell? ⟨s, 4, none⟩ = some (.int .i64 (P.pn : Int)) := (by obtain ⟨F', q, _⟩ := hn2; exact HC.out w2 F' S2 q (HP2.out.trans HP1.out))))
      have HN2 : Hid (Pn22 w1 w2 v s g b F1 S2 P) := hn2.from (Below.refl _ _).drew
      obtain ⟨F2, q2, f2, kk2⟩ := HN2.out
      have HQ2 : Hid (Pe22 w2 v s g b F2 S2 P) := q2
      obtain ⟨x0, x1, x2, x3, x4⟩ := k2
      have y3 := q2.wr.fr 3
      have y4 := q2.wr.fr 4
      have y6 := q2.wr.fr 6
      have x6 := q2.wr.c6
      have HF2 : Hid ((∀ k, F2 k → F1 k ∨ w1.heap.size ≤ k) ∧ Kp (fun k => F1 k ∨ k = s ∨ k = g) w1 w2) := ⟨f2, kk2⟩
      have hk2 : Hid (s < w.heap.size ∧ g < w.heap.size ∧ s < w1.heap.size ∧ g < w1.heap.size) := ⟨hslt.2.1, hslt.2.2, HQ1.out.wr.lt.2.1, HQ1.out.wr.lt.2.2⟩
      clear q2 f2 kk2 d0 d1 d2 d3 d4
      go_wp2_with fail
      go_ret
      refine ⟨rfl, ?_⟩
      exact Pn22.cons HF1.out.1 HF1.out.2 (Pn22.cons HF2.out.1 HF2.out.2 (HQ2.out.put ((Kp.set (.inl rfl) _).trans (Kp.set (.inl rfl) _) (fun _ _ e => e)) (HQ2.out.wr.setP (P.pn + 1)).setH))
    · have hE2' : (E2 == 0) = false := by simp [hE2]
      rw [if_pos hE2]
      go_enter Try.func54, Try.ntmps54
      go_wp2_with fail
      go_region_held3 (fun V => V.cell? ⟨s, 0, none⟩ = some (.pointer (some ⟨b, 0, none⟩)) ∧ V.cell? ⟨s, 1, none⟩ = some (.int .i64 P.ar) ∧ V.cell? ⟨s, 4, none⟩ = some (.int .i64 (P.pn : Int))) (first | exact ⟨c0, c1, c4⟩ | exact k1 | go_keep)
        (first | (go_at_call 60; refine (HER.out _ HB.out).mono ?_; rintro e1 w1 ⟨rfl, hn1⟩; have k1 : w1.cell? ⟨s, 0, none⟩ = some (.pointer (some ⟨b, 0, none⟩)) ∧ w1.cell? ⟨s, 1, none⟩ = some (.int .i64 P.ar) ∧ w1.cell? ⟨s, 4, none⟩ = some (.int .i64 (P.pn : Int)) := by obtain ⟨F', q, _⟩ := hn1; have := HC.out w1 F' S1 q HP1.out; exact ⟨this.1, this.2.1, this.2.2.2.2⟩))
      obtain ⟨F1, q1, f1, kk1⟩ := hn1
      have HN1 : Hid (Pn22 w w1 v s g b F S1 P) := ⟨F1, q1, f1, kk1⟩
      have HQ1 : Hid (Pe22 w1 v s g b F1 S1 P) := q1
      have HF1 : Hid ((∀ k, F1 k → F k ∨ w.heap.size ≤ k) ∧ Kp (fun k => F k ∨ k = s ∨ k = g) w w1) := ⟨f1, kk1⟩
      clear k1 c0 c1 c4 f1 kk1
      have HC1 := HC.out w1.drew F1 S1 (q1.old (Below.refl _ _).drew) HP1.out
      obtain ⟨d0, d1, d2, d3, d4⟩ := HC1
      have HB1 : Hid (Pe22 w1.drew v s g b F1 S1 P) := q1.old (Below.refl _ _).drew
      clear q1
      go_wp2_with fail
      go_region_held3 (fun V => V.cell? ⟨s, 0, none⟩ = some (.pointer (some ⟨b, 0, none⟩)) ∧ V.cell? ⟨s, 1, none⟩ = some (.int .i64 P.ar) ∧ V.cell? ⟨s, 2, none⟩ = some (.slice (some ⟨g, 0, none⟩) S.pg S.pg) ∧ V.cell? ⟨s, 3, none⟩ = some (.int .i64 (BL : Int)) ∧ V.cell? ⟨s, 4, none⟩ = some (.int .i64 (P.pn : Int))) (first | exact ⟨d0, d1, d2, d3, d4⟩ | exact k2 | go_keep)
        (first | (go_at_call 61; refine (HPR.out _ F1 HB1.out).mono ?_; rintro e2 w2 ⟨rfl, hn2⟩; have k2 : w2.cell? ⟨s, 0, none⟩ = some (.pointer (some ⟨b, 0, none⟩)) ∧ w2.cell? ⟨s, 1, none⟩ = some (.int .i64 P.ar) ∧ w2.cell? ⟨s, 2, none⟩ = some (.slice (some ⟨g, 0, none⟩) S.pg S.pg) ∧ w2.cell? ⟨s, 3, none⟩ = some (.int .i64 (BL : Int)) ∧ w2.cell? ⟨s, 4, none⟩ = some (.int .i64 (P.pn : Int)) := (by obtain ⟨F', q, _⟩ := hn2; exact HC.out w2 F' S2 q (HP2.out.trans HP1.out))))
      have HN2 : Hid (Pn22 w1 w2 v s g b F1 S2 P) := hn2.from (Below.refl _ _).drew
      obtain ⟨F2, q2, f2, kk2⟩ := HN2.out
      have HQ2 : Hid (Pe22 w2 v s g b F2 S2 P) := q2
      obtain ⟨x0, x1, x2, x3, x4⟩ := k2
      have y3 := q2.wr.fr 3
      have y4 := q2.wr.fr 4
      have y6 := q2.wr.fr 6
      have x6 := q2.wr.c6
      have HF2 : Hid ((∀ k, F2 k → F1 k ∨ w1.heap.size ≤ k) ∧ Kp (fun k => F1 k ∨ k = s ∨ k = g) w1 w2) := ⟨f2, kk2⟩
      have hk2 : Hid (s < w.heap.size ∧ g < w.heap.size ∧ s < w1.heap.size ∧ g < w1.heap.size) := ⟨hslt.2.1, hslt.2.2, HQ1.out.wr.lt.2.1, HQ1.out.wr.lt.2.2⟩
      clear q2 f2 kk2 d0 d1 d2 d3 d4
      go_wp2_with fail
      go_ret
      exact ⟨rfl, Pn22.cons HF1.out.1 HF1.out.2 (Pn22.cons HF2.out.1 HF2.out.2 (HQ2.out.put (Kp.set (.inl rfl) _) (HQ2.out.wr.setC E2)))⟩
  · have hE' : (E1 == 0) = false := by simp [hE]
    rw [if_pos (show E1 ≠ 0 from hE), if_pos (show E1 ≠ 0 from hE), if_pos (show E1 ≠ 0 from hE)]
    go_enter Try.func54, Try.ntmps54
    go_wp2_with fail
    go_region_held3 (fun V => V.cell? ⟨s, 0, none⟩ = some (.pointer (some ⟨b, 0, none⟩)) ∧ V.cell? ⟨s, 1, none⟩ = some (.int .i64 P.ar) ∧ V.cell? ⟨s, 4, none⟩ = some (.int .i64 (P.pn : Int))) (first | exact ⟨c0, c1, c4⟩ | exact k1 | go_keep)
      (first | (go_at_call 60; refine (HER.out _ HB.out).mono ?_; rintro e1 w1 ⟨rfl, hn1⟩; have k1 : w1.cell? ⟨s, 0, none⟩ = some (.pointer (some ⟨b, 0, none⟩)) ∧ w1.cell? ⟨s, 1, none⟩ = some (.int .i64 P.ar) ∧ w1.cell? ⟨s, 4, none⟩ = some (.int .i64 (P.pn : Int)) := by obtain ⟨F', q, _⟩ := hn1; have := HC.out w1 F' S1 q HP1.out; exact ⟨this.1, this.2.1, this.2.2.2.2⟩))
    obtain ⟨F1, q1, f1, kk1⟩ := hn1
    have HN1 : Hid (Pn22 w w1 v s g b F S1 P) := ⟨F1, q1, f1, kk1⟩
    have HQ1 : Hid (Pe22 w1 v s g b F1 S1 P) := q1
    have HF1 : Hid ((∀ k, F1 k → F k ∨ w.heap.size ≤ k) ∧ Kp (fun k => F k ∨ k = s ∨ k = g) w w1) := ⟨f1, kk1⟩
    clear k1 c0 c1 c4 f1 kk1
    have y6 := q1.wr.fr 6
    have x6 := q1.wr.c6
    clear q1
    go_wp2_with fail
    go_ret
    exact ⟨rfl, Pn22.cons HF1.out.1 HF1.out.2 (HQ1.out.put (Kp.set (.inl rfl) _) (HQ1.out.wr.setC E1))⟩
end
end Go.Proofs.Ytiocdhkompekpaa

namespace Go.Proofs.Ytiocdhkompekpaa
open Go.RowKit Go.Shelf
set_option linter.unusedVariables false
set_option linter.unusedSimpArgs false

/-! The landed page: take. -/
/-- Bytes one by one. -/
def tk22 : Fs21 → Pw22 → List Int → Fs21 × Pw22 × Int
  | S, P, [] => (S, P, 0)
  | S, P, c :: L =>
    if (P.bf ++ [c]).length = S.pg then
      if lyE22 S { P with bf := P.bf ++ [c] } ≠ 0 then (lyS22 S { P with bf := P.bf ++ [c] }, lyP22 S { P with bf := P.bf ++ [c] }, lyE22 S { P with bf := P.bf ++ [c] })
      else tk22 (lyS22 S { P with bf := P.bf ++ [c] }) (lyP22 S { P with bf := P.bf ++ [c] }) L
    else tk22 S { P with bf := P.bf ++ [c] } L
theorem tk22_some (S : Fs21) : ∀ (cs : List Int) (P : Pw22) (L : List Int), P.bf.length + cs.length < S.pg → tk22 S P (cs ++ L) = tk22 S { P with bf := P.bf ++ cs } L
  | [], P, L, _ => by simp
  | c :: cs, P, L, h => by
    have h1 : ¬ (P.bf ++ [c]).length = S.pg := by simp at h ⊢; omega
    rw [List.cons_append, tk22, if_neg h1, tk22_some S cs { P with bf := P.bf ++ [c] } L (by simp at h ⊢; omega)]
    simp
theorem tk22_full (S : Fs21) : ∀ (cs : List Int) (P : Pw22) (L : List Int), P.bf.length + cs.length = S.pg → 0 < cs.length →
    tk22 S P (cs ++ L) = if lyE22 S { P with bf := P.bf ++ cs } ≠ 0 then (lyS22 S { P with bf := P.bf ++ cs }, lyP22 S { P with bf := P.bf ++ cs }, lyE22 S { P with bf := P.bf ++ cs }) else tk22 (lyS22 S { P with bf := P.bf ++ cs }) (lyP22 S { P with bf := P.bf ++ cs }) L
  | [], P, L, _, h => by simp at h
  | [c], P, L, h, _ => by
    have h1 : (P.bf ++ [c]).length = S.pg := by simp at h ⊢; omega
    rw [List.cons_append, tk22, if_pos h1]
    rfl
  | c :: d :: cs, P, L, h, _ => by
    have h1 : ¬ (P.bf ++ [c]).length = S.pg := by simp at h ⊢; omega
    rw [List.cons_append, tk22, if_neg h1, tk22_full S (d :: cs) { P with bf := P.bf ++ [c] } L (by simp at h ⊢; omega) (by simp)]
    simp
def tkE22 (S : Fs21) (P : Pw22) (L : List Int) : Int := (tk22 S P L).2.2
def tkS22 (S : Fs21) (P : Pw22) (L : List Int) : Fs21 := (tk22 S P L).1
def tkP22 (S : Fs21) (P : Pw22) (L : List Int) : Pw22 := if (tk22 S P L).2.2 = 0 then { (tk22 S P L).2.1 with wn := (tk22 S P L).2.1.wn + L.length } else (tk22 S P L).2.1
section
variable {w w' : World} {v s g b pg : Nat} {F : Nat → Prop} {S : Fs21} {P P' : Pw22}
theorem Wr22.copy (h : Wr22 w v s g b pg P) {Y cs : List Int} (hY : w.heap[g]? = some (.cells ((P.bf ++ Y).map (Value.int .u8)).toArray 5 (0, 0))) (hl : P.bf.length + Y.length = pg) (hb : ∀ y ∈ P.bf ++ Y, 0 ≤ y ∧ y ≤ 255) (hc : ∀ y ∈ cs, 0 ≤ y ∧ y ≤ 255) (hn : P.bf.length + cs.length ≤ pg)
    (k5 : Kp (fun k => k = g) w w') (h5 : w'.heap[g]? = some (.cells ((sp21 (P.bf ++ Y) P.bf.length cs).map (Value.int .u8)).toArray 5 (0, 0))) (m : Nat) (hm : P.bf.length + cs.length = m) :
    Wr22 (w'.setCell ⟨s, 3, none⟩ (.int .i64 (m : Int))) v s g b pg { P with bf := P.bf ++ cs } := by
  have h1 := h.lt
  have e1 : w'.heap[v]? = w.heap[v]? := k5.block v h1.1 h.ne_vg
  have e2 : w'.heap[s]? = w.heap[s]? := k5.block s h1.2.1 h.ne_sg
  refine ⟨(set_other22 w' _ h.ne_vs).trans (e1.trans h.hv), ?_, Y.drop cs.length, ?_, ?_, ?_⟩
  · have := (seven_set22 (e2.trans h.hs) (.int .i64 (m : Int))).1
    rw [this]
    simp [← hm]
  · rw [set_other22 w' _ h.ne_sg.symm, h5, sp21_at P.bf Y cs _ rfl]
  · simp; omega
  · intro y hy
    simp at hy
    rcases hy with hy | hy | hy
    · exact hb y (by simp [hy])
    · exact hc y hy
    · exact hb y (List.mem_append_right _ (List.mem_of_mem_drop hy))
end
/-- What holds of take's loop behind k bytes. -/
structure Ti22 (w wr : World) (v s g b : Nat) (F : Nat → Prop) (S : Fs21) (P : Pw22) (L : List Int) (k : Nat) (F' : Nat → Prop) (S' : Fs21) (P' : Pw22) : Prop where
  pe : Pe22 wr v s g b F' S' P'
  fr : ∀ x, F' x → F x ∨ w.heap.size ≤ x
  kp : Kp (fun x => F x ∨ x = s ∨ x = g) w wr
  ok : Ok21 S'
  pg : S'.pg = S.pg
  tk : tk22 S P L = tk22 S' P' (L.drop k)
  lt : P'.bf.length < S'.pg
  ar : P'.ar = P.ar
  wn : P'.wn = P.wn
  pn : P'.pn ≤ P.pn + k
  lg : S'.lg.length ≤ S.lg.length + 2 * k
section
variable {w wr w2 : World} {v s g b : Nat} {F F' F2 : Nat → Prop} {S S' : Fs21} {P P' : Pw22} {L : List Int} {k : Nat}
theorem Ti22.some (h : Ti22 w wr v s g b F S P L k F' S' P') {nn : Nat} (hk : k + nn = L.length) (hn : P'.bf.length + nn < S'.pg) (hp : Pn22 wr w2 v s g b F' S' { P' with bf := P'.bf ++ (L.drop k).take nn }) :
    ∃ F2, Ti22 w w2 v s g b F S P L (k + nn) F2 S' { P' with bf := P'.bf ++ (L.drop k).take nn } := by
  obtain ⟨F2, h1, h2, h3⟩ := Pn22.cons h.fr h.kp hp
  have hl : ((L.drop k).take nn).length = nn := by simp; omega
  refine ⟨F2, h1, h2, h3, h.ok, h.pg, ?_, ?_, h.ar, h.wn, Nat.le_trans h.pn (by omega), Nat.le_trans h.lg (by omega)⟩
  · rw [h.tk, ← List.drop_drop]
    have := tk22_some S' ((L.drop k).take nn) P' ((L.drop k).drop nn) (by omega)
    rw [List.take_append_drop] at this
    exact this
  · simp only [List.length_append]; omega
theorem Ti22.full (h : Ti22 w wr v s g b F S P L k F' S' P') {nn : Nat} (hk : k + nn ≤ L.length) (h0 : 0 < nn) (hn : P'.bf.length + nn = S'.pg) (hE : lyE22 S' { P' with bf := P'.bf ++ (L.drop k).take nn } = 0)
    (hp : Pn22 wr w2 v s g b F' (lyS22 S' { P' with bf := P'.bf ++ (L.drop k).take nn }) (lyP22 S' { P' with bf := P'.bf ++ (L.drop k).take nn })) :
    ∃ F2, Ti22 w w2 v s g b F S P L (k + nn) F2 (lyS22 S' { P' with bf := P'.bf ++ (L.drop k).take nn }) (lyP22 S' { P' with bf := P'.bf ++ (L.drop k).take nn }) := by
  obtain ⟨F2, h1, h2, h3⟩ := Pn22.cons h.fr h.kp hp
  have hl : ((L.drop k).take nn).length = nn := by simp; omega
  have hy := lyS22_pg S' { P' with bf := P'.bf ++ (L.drop k).take nn }
  have hpg := h.ok.pg
  have hP : lyP22 S' { P' with bf := P'.bf ++ (L.drop k).take nn } = { P' with pn := P'.pn + 1, bf := [] } := by
    unfold lyP22; rw [if_neg (by rw [hE]; simp)]
  refine ⟨F2, h1, h2, h3, ok22_ly h.ok _, hy.1.trans h.pg, ?_, ?_, ?_, ?_, ?_, ?_⟩
  · rw [h.tk, ← List.drop_drop]
    have := tk22_full S' ((L.drop k).take nn) P' ((L.drop k).drop nn) (by omega) (by omega)
    rw [List.take_append_drop, if_neg (by rw [hE]; simp)] at this
    exact this
  · rw [hP, hy.1]; simp; omega
  · rw [hP]; exact h.ar
  · rw [hP]; exact h.wn
  · rw [hP]; have := h.pn; show P'.pn + 1 ≤ _; omega
  · have := h.lg; omega
theorem Ti22.no (h : Ti22 w wr v s g b F S P L k F' S' P') {nn : Nat} (hk : k + nn ≤ L.length) (h0 : 0 < nn) (hn : P'.bf.length + nn = S'.pg) (hE : lyE22 S' { P' with bf := P'.bf ++ (L.drop k).take nn } ≠ 0)
    (hp : Pn22 wr w2 v s g b F' (lyS22 S' { P' with bf := P'.bf ++ (L.drop k).take nn }) (lyP22 S' { P' with bf := P'.bf ++ (L.drop k).take nn })) :
    tkE22 S P L = lyE22 S' { P' with bf := P'.bf ++ (L.drop k).take nn } ∧ Pn22 w w2 v s g b F (tkS22 S P L) (tkP22 S P L) := by
  have hl : ((L.drop k).take nn).length = nn := by simp; omega
  have := tk22_full S' ((L.drop k).take nn) P' ((L.drop k).drop nn) (by omega) (by omega)
  rw [List.take_append_drop, if_pos hE, ← h.tk] at this
  unfold tkE22 tkS22 tkP22
  rw [this]
  refine ⟨rfl, ?_⟩
  rw [if_neg hE]
  exact Pn22.cons h.fr h.kp hp
theorem Ti22.fin (h : Ti22 w wr v s g b F S P L L.length F' S' P') (hp : Pn22 wr w2 v s g b F' S' { P' with wn := P.wn + L.length }) :
    tkE22 S P L = 0 ∧ Pn22 w w2 v s g b F (tkS22 S P L) (tkP22 S P L) := by
  have := h.tk
  rw [List.drop_eq_nil_of_le (Nat.le_refl _)] at this
  unfold tkE22 tkS22 tkP22
  rw [this, tk22]
  refine ⟨rfl, ?_⟩
  rw [if_pos rfl]
  have e := Pn22.cons h.fr h.kp hp
  rw [← h.wn] at e
  exact e
end
end Go.Proofs.Ytiocdhkompekpaa
