
import Derived.Test.YtiocdhkompekpaaPgE
namespace Go.Proofs.Ytiocdhkompekpaa
open Go.RowKit Go.Shelf
set_option linter.unusedVariables false
set_option linter.unusedSimpArgs false

/-! The landed page: Write, End. -/
def enE22 (S : Fs21) (P : Pw22) : Int := if 0 < P.bf.length then lyE22 S P else 0
def enS22 (S : Fs21) (P : Pw22) : Fs21 := if 0 < P.bf.length then lyS22 S P else S
def enP22 (S : Fs21) (P : Pw22) : Pw22 := if 0 < P.bf.length then (if lyE22 S P ≠ 0 then lyP22 S P else { lyP22 S P with cl := 221 }) else { P with cl := 221 }
def edE22 (S : Fs21) (P : Pw22) : Int := if P.cl ≠ 0 then P.cl else enE22 S P
def edS22 (S : Fs21) (P : Pw22) : Fs21 := if P.cl ≠ 0 then S else enS22 S P
def edP22 (S : Fs21) (P : Pw22) : Pw22 := if P.cl ≠ 0 then P else enP22 S P
def fu22 (S : Fs21) (P : Pw22) (n : Nat) : Prop := (mx22 S : Int) - (P.wn : Int) < (n : Int)
instance (S : Fs21) (P : Pw22) (n : Nat) : Decidable (fu22 S P n) := inferInstanceAs (Decidable ((mx22 S : Int) - (P.wn : Int) < (n : Int)))
def wrE22 (S : Fs21) (P : Pw22) (L : List Int) : Int := if P.cl ≠ 0 then P.cl else if fu22 S P L.length then 220 else tkE22 S P L
def wrS22 (S : Fs21) (P : Pw22) (L : List Int) : Fs21 := if P.cl ≠ 0 then S else if fu22 S P L.length then S else tkS22 S P L
def wrP22 (S : Fs21) (P : Pw22) (L : List Int) : Pw22 := if P.cl ≠ 0 then P else if fu22 S P L.length then P else tkP22 S P L
section
variable {w w' : World} {v s g b : Nat} {F : Nat → Prop} {S : Fs21} {P : Pw22}
set_option maxRecDepth 100000 in
set_option maxHeartbeats 4000000 in
theorem pen22 (h : Pe22 w v s g b F S P) (hO : Ok21 S) (ha : In21 P.ar) (hp : P.pn ≤ 549755813888) (hlg : S.lg.length ≤ 2199023255552) :
    Calls Try.prog 43 #[.pointer (some ⟨s, 0, none⟩)] w fun e w' => e = .returned (.int .i64 (enE22 S P)) ∧ Pn22 w w' v s g b F (enS22 S P) (enP22 S P) := by
  have HP : Hid (Pe22 w v s g b F S P) := h
  have HL := play22 h hO ha (by omega) (by omega)
  have c3 := h.wr.c3
  have c6 := h.wr.c6
  have y6 := h.wr.fr 6
  have hE : Hid (enE22 S P = if 0 < P.bf.length then lyE22 S P else 0) := rfl
  have hS : Hid (enS22 S P = if 0 < P.bf.length then lyS22 S P else S) := rfl
  have hP : Hid (enP22 S P = if 0 < P.bf.length then (if lyE22 S P ≠ 0 then lyP22 S P else { lyP22 S P with cl := 221 }) else { P with cl := 221 }) := rfl
  rw [hE.out, hS.out, hP.out]
  clear h hE hS hP
  obtain ⟨BL, hBL⟩ : ∃ BL, BL = P.bf.length := ⟨_, rfl⟩
  rw [← hBL] at c3
  rw [← hBL]
  clear hBL
  by_cases h0 : 0 < BL
  · have h0i : (0 : Int) < (BL : Int) := by omega
    rw [if_pos h0, if_pos h0, if_pos h0]
    generalize lyE22 S P = E at *
    generalize lyS22 S P = S1 at *
    generalize lyP22 S P = P1 at *
    by_cases hE : E = 0
    · subst hE
      rw [if_neg (by simp)]
      clear c6 y6
      go_enter Try.func43, Try.ntmps43
      go_wp2_with fail
      refine HL.mono ?_
      rintro e w1 ⟨rfl, hn1⟩
      obtain ⟨F1, q1, f1, k1⟩ := hn1
      have HF1 : Hid ((∀ k, F1 k → F k ∨ w.heap.size ≤ k) ∧ Kp (fun k => F k ∨ k = s ∨ k = g) w w1) := ⟨f1, k1⟩
      have HQ1 : Hid (Pe22 w1 v s g b F1 S1 P1) := q1
      have c6 := q1.wr.c6
      have y6 := q1.wr.fr 6
      clear q1 f1 k1
      go_wp2_with fail
      go_ret
      exact ⟨rfl, Pn22.cons HF1.out.1 HF1.out.2 (HQ1.out.put (Kp.set (.inl rfl) _) (HQ1.out.wr.setC 221))⟩
    · have hE' : (E == 0) = false := by simp [hE]
      rw [if_pos hE]
      go_enter Try.func43, Try.ntmps43
      go_wp2_with fail
      refine HL.mono ?_
      rintro e w1 ⟨rfl, hn1⟩
      have HN1 : Hid (Pn22 w w1 v s g b F S1 P1) := hn1
      clear hn1
      go_wp2_with fail
      go_ret
      exact ⟨rfl, HN1.out⟩
  · have h0i : ¬ (0 : Int) < (BL : Int) := by omega
    rw [if_neg h0, if_neg h0, if_neg h0]
    clear HL
    go_enter Try.func43, Try.ntmps43
    go_wp2_with fail
    go_ret
    exact ⟨rfl, HP.out.put (Kp.set (.inl rfl) _) (HP.out.wr.setC 221)⟩
set_option maxRecDepth 100000 in
set_option maxHeartbeats 4000000 in
theorem ped22 (h : Pe22 w v s g b F S P) (hO : Ok21 S) (ha : In21 P.ar) (hp : P.pn ≤ 549755813888) (hlg : S.lg.length ≤ 2199023255552) :
    Calls Try.prog 16 #[.pointer (some ⟨v, 0, none⟩)] w fun e w' => e = .returned (.int .i64 (edE22 S P)) ∧ Pn22 w w' v s g b F (edS22 S P) (edP22 S P) := by
  have HP : Hid (Pe22 w v s g b F S P) := h
  have HL := pen22 h hO ha hp hlg
  have HS := pst22 h.wr
  have cv := h.wr.cv
  have hE : Hid (edE22 S P = if P.cl ≠ 0 then P.cl else enE22 S P) := rfl
  have hS : Hid (edS22 S P = if P.cl ≠ 0 then S else enS22 S P) := rfl
  have hP : Hid (edP22 S P = if P.cl ≠ 0 then P else enP22 S P) := rfl
  rw [hE.out, hS.out, hP.out]
  clear h hE hS hP
  generalize enE22 S P = E at *
  generalize enS22 S P = S1 at *
  generalize enP22 S P = P1 at *
  obtain ⟨C, hC⟩ : ∃ C, C = P.cl := ⟨_, rfl⟩
  rw [← hC] at HS
  rw [← hC]
  clear hC
  by_cases h0 : C = 0
  · subst h0
    rw [if_neg (show ¬ ((0 : Int) ≠ 0) by simp), if_neg (show ¬ ((0 : Int) ≠ 0) by simp), if_neg (show ¬ ((0 : Int) ≠ 0) by simp)]
    go_enter Try.func16, Try.ntmps16
    go_wp2_with fail
    refine HS.mono ?_
    rintro e w1 ⟨rfl, hw⟩
    subst w1
    go_wp2_with fail
    refine HL.mono ?_
    rintro e w1 ⟨rfl, hn1⟩
    have HN1 : Hid (Pn22 w w1 v s g b F S1 P1) := hn1
    clear hn1
    go_wp2_with fail
    go_ret
    exact ⟨rfl, HN1.out⟩
  · have h0' : (C == 0) = false := by simp [h0]
    rw [if_pos h0, if_pos h0, if_pos h0]
    go_enter Try.func16, Try.ntmps16
    go_wp2_with fail
    refine HS.mono ?_
    rintro e w1 ⟨rfl, hw⟩
    subst w1
    go_wp2_with fail
    go_ret
    exact ⟨rfl, HP.out.stay (Below.refl _ _)⟩
set_option maxRecDepth 100000 in
set_option maxHeartbeats 4000000 in
theorem pwr22 (h : Pe22 w v s g b F S P) (hO : Ok21 S) (ha : In21 P.ar) (hp : P.pn ≤ 549755813888) (hw : P.wn ≤ 16777216) (hlg : S.lg.length ≤ 2199023255552) (hbf : P.cl = 0 → P.bf.length < S.pg)
    (a : Option Addr) (L : List Int) (n cap : Nat) (hs : Seg w a L) (hn : Hid (L.length = n)) (hcap : n ≤ cap) (hl : n ≤ 281474976710656) (hap : ∀ x off, a = some ⟨x, off, none⟩ → 0 < n → ¬ F x ∧ x ≠ s ∧ x ≠ g) :
    Calls Try.prog 14 #[.pointer (some ⟨v, 0, none⟩), .slice a n cap] w fun e w' => e = .returned (.int .i64 (wrE22 S P L)) ∧ Pn22 w w' v s g b F (wrS22 S P L) (wrP22 S P L) := by
  have HP : Hid (Pe22 w v s g b F S P) := h
  have HS := pst22 h.wr
  have HLF := plf22 h hO hw
  have cv := h.wr.cv
  have hmx := mx22_bd hO
  have HFU : Hid (fu22 S P n ↔ (mx22 S : Int) - (P.wn : Int) < (n : Int)) := Iff.rfl
  have HTK : Hid (P.cl = 0 → ¬ fu22 S P n → ∀ W : World, Below w.heap.size w W → Calls Try.prog 40 #[.pointer (some ⟨s, 0, none⟩), .slice a n cap] W fun e w' => e = .returned (.int .i64 (tkE22 S P L)) ∧ Pn22 W w' v s g b F (tkS22 S P L) (tkP22 S P L)) := fun h0 h1 W hW =>
    ptk22 (h.old hW) hO ha hp hw hlg (hbf h0) a L n cap (hs.old hW) hn hcap (by unfold fu22 at h1; omega) hap
  have hE : Hid (wrE22 S P L = if P.cl ≠ 0 then P.cl else if fu22 S P n then 220 else tkE22 S P L) := by show _ = _; unfold wrE22; rw [hn.out]
  have hS : Hid (wrS22 S P L = if P.cl ≠ 0 then S else if fu22 S P n then S else tkS22 S P L) := by show _ = _; unfold wrS22; rw [hn.out]
  have hP : Hid (wrP22 S P L = if P.cl ≠ 0 then P else if fu22 S P n then P else tkP22 S P L) := by show _ = _; unfold wrP22; rw [hn.out]
  rw [hE.out, hS.out, hP.out]
  have hlt := h.wr.lt
  clear h hE hS hP hs hap hbf hO
  generalize tkE22 S P L = E at *
  generalize tkS22 S P L = S1 at *
  generalize tkP22 S P L = P1 at *
  obtain ⟨C, hC⟩ : ∃ C, C = P.cl := ⟨_, rfl⟩
  rw [← hC] at HS HTK
  rw [← hC]
  clear hC
  by_cases h0 : C = 0
  · subst h0
    rw [if_neg (show ¬ ((0 : Int) ≠ 0) by simp), if_neg (show ¬ ((0 : Int) ≠ 0) by simp), if_neg (show ¬ ((0 : Int) ≠ 0) by simp)]
    by_cases h1 : fu22 S P n
    · rw [if_pos h1, if_pos h1, if_pos h1]
      have h1i := HFU.out.1 h1
      obtain ⟨LF, hLF⟩ : ∃ LF, LF = (mx22 S : Int) - (P.wn : Int) := ⟨_, rfl⟩
      rw [← hLF] at HLF h1i
      clear hLF HTK h1 HFU hmx
      go_enter Try.func14, Try.ntmps14
      go_wp2_with fail
      refine HS.mono ?_
      rintro e w1 ⟨rfl, hw1⟩
      subst w1
      go_wp2_with fail
      refine HLF.mono ?_
      rintro e w1 ⟨rfl, b1⟩
      go_wp2_with fail
      go_ret
      exact ⟨rfl, HP.out.stay b1⟩
    · rw [if_neg h1, if_neg h1, if_neg h1]
      have h1i : ¬ (mx22 S : Int) - (P.wn : Int) < (n : Int) := fun e => h1 (HFU.out.2 e)
      have HT : Hid (∀ W : World, Below w.heap.size w W → Calls Try.prog 40 #[.pointer (some ⟨s, 0, none⟩), .slice a n cap] W fun e w' => e = .returned (.int .i64 E) ∧ Pn22 W w' v s g b F S1 P1) := HTK.out rfl h1
      obtain ⟨LF, hLF⟩ : ∃ LF, LF = (mx22 S : Int) - (P.wn : Int) := ⟨_, rfl⟩
      rw [← hLF] at HLF h1i
      clear hLF HTK h1 HFU hmx
      go_enter Try.func14, Try.ntmps14
      go_wp2_with fail
      refine HS.mono ?_
      rintro e w1 ⟨rfl, hw1⟩
      subst w1
      go_wp2_with fail
      refine HLF.mono ?_
      rintro e w1 ⟨rfl, b1⟩
      have cv1 := (HP.out.old b1).wr.cv
      go_wp2_with fail
      refine (HT.out _ b1).mono ?_
      rintro e w2 ⟨rfl, hn2⟩
      have HN2 : Hid (Pn22 w w2 v s g b F S1 P1) := hn2.from b1
      clear hn2
      go_wp2_with fail
      go_ret
      exact ⟨rfl, HN2.out⟩
  · have h0' : (C == 0) = false := by simp [h0]
    rw [if_pos h0, if_pos h0, if_pos h0]
    clear HTK HLF
    go_enter Try.func14, Try.ntmps14
    go_wp2_with fail
    refine HS.mono ?_
    rintro e w1 ⟨rfl, hw⟩
    subst w1
    go_wp2_with fail
    go_ret
    exact ⟨rfl, HP.out.stay (Below.refl _ _)⟩
end
end Go.Proofs.Ytiocdhkompekpaa
