
import Derived.Test.YtboangeopbblnaaPuRf
namespace Go.Proofs.Ytboangeopbblnaa
open Go.RowKit Go.Maps Go.WideMaps Go.MuLone Go.Shelf
set_option linter.unusedVariables false
set_option linter.unusedSimpArgs false
set_option maxRecDepth 100000

/-! PursePlays. -/
/-- Two purses, the document's beside each. -/
structure Pp23 (w0 w : World) (p l m x gx q r n y gy : Nat) (S T : Pu23) : Prop where
  a : Pm23 w p l m S
  b : Rr23 w x gx S
  c : Pm23 w q r n T
  d : Rr23 w y gy T
  d1 : x ≠ l ∧ x ≠ m ∧ x ≠ p ∧ gx ≠ l ∧ gx ≠ m ∧ gx ≠ p
  d2 : y ≠ r ∧ y ≠ n ∧ y ≠ q ∧ gy ≠ r ∧ gy ≠ n ∧ gy ≠ q
  e1 : p ≠ r ∧ p ≠ n ∧ p ≠ y ∧ p ≠ gy
  e2 : l ≠ q ∧ l ≠ r ∧ l ≠ n ∧ l ≠ y ∧ l ≠ gy
  e3 : m ≠ q ∧ m ≠ r ∧ m ≠ n ∧ m ≠ y ∧ m ≠ gy
  e4 : x ≠ q ∧ x ≠ r ∧ x ≠ n ∧ x ≠ y ∧ x ≠ gy
  e5 : gx ≠ q ∧ gx ≠ r ∧ gx ≠ n ∧ gx ≠ y ∧ gx ≠ gy
  ge : w0.heap.size ≤ l ∧ w0.heap.size ≤ m ∧ w0.heap.size ≤ x ∧ w0.heap.size ≤ gx ∧ w0.heap.size ≤ r ∧ w0.heap.size ≤ n ∧ w0.heap.size ≤ y ∧ w0.heap.size ≤ gy
  k : Below w0.heap.size w0 w
section
variable {w0 w w' : World} {p l m x gx q r n y gy : Nat} {S T S' T' : Pu23}
theorem Pp23.below (h : Pp23 w0 w p l m x gx q r n y gy S T) (hb : Below w.heap.size w w') : Pp23 w0 w' p l m x gx q r n y gy S T :=
  ⟨h.a.below hb, h.b.below hb, h.c.below hb, h.d.below hb, h.d1, h.d2, h.e1, h.e2, h.e3, h.e4, h.e5, h.ge, h.k.trans (hb.mono h.k.size)⟩
theorem not4_23 {a b c d k : Nat} (h1 : a ≠ k) (h2 : b ≠ k) (h3 : c ≠ k) (h4 : d ≠ k) : ¬ (k = a ∨ k = b ∨ k = c ∨ k = d) := by
  rintro (e | e | e | e)
  · exact h1 e.symm
  · exact h2 e.symm
  · exact h3 e.symm
  · exact h4 e.symm
theorem ge4_23 {a b c d B : Nat} (h1 : B ≤ a) (h2 : B ≤ b) (h3 : B ≤ c) (h4 : B ≤ d) (i : Nat) (h : i = a ∨ i = b ∨ i = c ∨ i = d) : B ≤ i := by
  rcases h with e | e | e | e <;> omega
theorem Pp23.one {g' : Nat} (h : Pp23 w0 w p l m x gx q r n y gy S T) (hd : Dk23 w w' p l m x gx g' S' S') : Pp23 w0 w' p l m x g' q r n y gy S' T := by
  obtain ⟨ge1, ge2, ge3, ge4, ge5, ge6, ge7, ge8⟩ := h.ge
  have hc := h.c.kp hd.k (not4_23 h.e2.1 h.e3.1 h.e4.1 h.e5.1) (not4_23 h.e2.2.1 h.e3.2.1 h.e4.2.1 h.e5.2.1) (not4_23 h.e2.2.2.1 h.e3.2.2.1 h.e4.2.2.1 h.e5.2.2.1)
  have hdd := h.d.kp hd.k (not4_23 h.e2.2.2.2.1 h.e3.2.2.2.1 h.e4.2.2.2.1 h.e5.2.2.2.1) (not4_23 h.e2.2.2.2.2 h.e3.2.2.2.2 h.e4.2.2.2.2 h.e5.2.2.2.2)
  have hk := h.k.trans (hd.k.below (B := w0.heap.size) (ge4_23 ge1 ge2 ge3 ge4) h.k.size)
  have hg : w0.heap.size ≤ g' ∧ (g' ≠ q ∧ g' ≠ r ∧ g' ≠ n ∧ g' ≠ y ∧ g' ≠ gy) := by
    rcases hd.h with e | e
    · rw [e]; exact ⟨ge4, h.e5⟩
    · have h1 := h.c.lt3
      have h2 := h.d.lt
      have h3 := h.k.size
      exact ⟨by omega, by omega, by omega, by omega, by omega, by omega⟩
  exact ⟨hd.a, hd.b, hc, hdd, hd.d, h.d2, h.e1, h.e2, h.e3, h.e4, hg.2, ⟨ge1, ge2, ge3, hg.1, ge5, ge6, ge7, ge8⟩, hk⟩
theorem Pp23.two {g' : Nat} (h : Pp23 w0 w p l m x gx q r n y gy S T) (hd : Dk23 w w' q r n y gy g' T' T') : Pp23 w0 w' p l m x gx q r n y g' S T' := by
  obtain ⟨ge1, ge2, ge3, ge4, ge5, ge6, ge7, ge8⟩ := h.ge
  have ha := h.a.kp hd.k (not4_23 h.e1.1.symm h.e1.2.1.symm h.e1.2.2.1.symm h.e1.2.2.2.symm) (not4_23 h.e2.2.1.symm h.e2.2.2.1.symm h.e2.2.2.2.1.symm h.e2.2.2.2.2.symm) (not4_23 h.e3.2.1.symm h.e3.2.2.1.symm h.e3.2.2.2.1.symm h.e3.2.2.2.2.symm)
  have hb := h.b.kp hd.k (not4_23 h.e4.2.1.symm h.e4.2.2.1.symm h.e4.2.2.2.1.symm h.e4.2.2.2.2.symm) (not4_23 h.e5.2.1.symm h.e5.2.2.1.symm h.e5.2.2.2.1.symm h.e5.2.2.2.2.symm)
  have hk := h.k.trans (hd.k.below (B := w0.heap.size) (ge4_23 ge5 ge6 ge7 ge8) h.k.size)
  have hg : w0.heap.size ≤ g' ∧ p ≠ g' ∧ l ≠ g' ∧ m ≠ g' ∧ x ≠ g' ∧ gx ≠ g' := by
    rcases hd.h with e | e
    · rw [e]; exact ⟨ge8, h.e1.2.2.2, h.e2.2.2.2.2, h.e3.2.2.2.2, h.e4.2.2.2.2, h.e5.2.2.2.2⟩
    · have h1 := h.a.lt3
      have h2 := h.b.lt
      have h3 := h.k.size
      exact ⟨by omega, by omega, by omega, by omega, by omega, by omega⟩
  obtain ⟨hg0, hg1, hg2, hg3, hg4, hg5⟩ := hg
  exact ⟨ha, hb, hd.a, hd.b, h.d1, hd.d, ⟨h.e1.1, h.e1.2.1, h.e1.2.2.1, hg1⟩, ⟨h.e2.1, h.e2.2.1, h.e2.2.2.1, h.e2.2.2.2.1, hg2⟩, ⟨h.e3.1, h.e3.2.1, h.e3.2.2.1, h.e3.2.2.2.1, hg3⟩, ⟨h.e4.1, h.e4.2.1, h.e4.2.2.1, h.e4.2.2.2.1, hg4⟩, ⟨h.e5.1, h.e5.2.1, h.e5.2.2.1, h.e5.2.2.2.1, hg5⟩, ⟨ge1, ge2, ge3, ge4, ge5, ge6, ge7, hg0⟩, hk⟩
theorem Pp23.do1 (h : Pp23 w0 w p l m x gx q r n y gy S T) (o : Oq23) (of : Of23 o) :
    Calls Try.prog 11 #[.pointer (some ⟨p, 0, none⟩), .pointer (some ⟨x, 0, none⟩), .agg #[.bool o.h, .string o.s, .int .i64 o.n]] w fun e w' => e = .returned (.bool true) ∧ ∃ g' S', Pp23 w0 w' p l m x g' q r n y gy S' T ∧ Kp (fun k => k = l ∨ k = m ∨ k = x ∨ k = gx) w w' :=
  (pdoes23 h.a h.b h.d1 o of).mono fun e w' ⟨he, g', hd⟩ => ⟨he, g', _, h.one hd, hd.k⟩
theorem Pp23.do2 (h : Pp23 w0 w p l m x gx q r n y gy S T) (o : Oq23) (of : Of23 o) :
    Calls Try.prog 11 #[.pointer (some ⟨q, 0, none⟩), .pointer (some ⟨y, 0, none⟩), .agg #[.bool o.h, .string o.s, .int .i64 o.n]] w fun e w' => e = .returned (.bool true) ∧ ∃ g' T', Pp23 w0 w' p l m x gx q r n y g' S T' :=
  (pdoes23 h.c h.d h.d2 o of).mono fun e w' ⟨he, g', hd⟩ => ⟨he, g', _, h.two hd⟩
end
set_option maxRecDepth 100000 in
set_option maxHeartbeats 32000000 in
theorem pursePlays_walk (w : World) (sa : Option Addr) (len cap : Nat) (O : Nat → Oq23) (so : Ss23 w sa len O) (hlen : len * 32 ≤ 140737488351232) :
    Calls Try.prog 4 #[.slice sa len cap] w fun e w' => e = .returned (.bool true) ∧ Below w.heap.size w w' := by
  have HSO : Hid (Ss23 w sa len O) := so
  clear so
  have HNW : Hid (∀ W : World, Calls Try.prog 10 #[] W fun e w' => e = .returned (.pointer (some ⟨W.heap.size + 2, 0, none⟩)) ∧ Pm23 w' (W.heap.size + 2) (W.heap.size + 1) W.heap.size ⟨[], 0⟩ ∧ Below W.heap.size W w') := pnew23
  have nq : ∀ (W : World) (a : Addr), (binOp .eql 24 (.pointer (some a)) (.pointer none)).run Try.prog W = .ok (.bool false) W := fun W a => by kernel_rfl
  go_enter Try.func4, Try.ntmps4
  go_wp2_with fail
  refine (HNW.out _).mono ?_
  rintro e w1 ⟨rfl, h1, b1⟩
  obtain ⟨p, hp⟩ : ∃ p, p = w.heap.size + 2 := ⟨_, rfl⟩
  obtain ⟨l, hl⟩ : ∃ l, l = w.heap.size + 1 := ⟨_, rfl⟩
  obtain ⟨m, hm⟩ : ∃ m, m = w.heap.size := ⟨_, rfl⟩
  rw [← hp, ← hl, ← hm] at h1
  rw [← hp]
  have H1 : Hid (Pm23 w1 p l m ⟨[], 0⟩ ∧ Below w.heap.size w w1 ∧ (w.heap.size ≤ p ∧ w.heap.size ≤ l ∧ w.heap.size ≤ m)) := ⟨h1, b1, by omega, by omega, by omega⟩
  clear hp hl hm h1 b1
  go_wp2_with fail
  refine (HNW.out _).mono ?_
  rintro e w2 ⟨rfl, h2, b2⟩
  obtain ⟨q, hq⟩ : ∃ q, q = w1.heap.size + 2 := ⟨_, rfl⟩
  obtain ⟨r, hr⟩ : ∃ r, r = w1.heap.size + 1 := ⟨_, rfl⟩
  obtain ⟨n, hn⟩ : ∃ n, n = w1.heap.size := ⟨_, rfl⟩
  rw [← hq, ← hr, ← hn] at h2
  rw [← hq]
  obtain ⟨x, hx⟩ : ∃ x, x = w2.heap.size := ⟨_, rfl⟩
  obtain ⟨y, hy⟩ : ∃ y, y = x + 1 := ⟨_, rfl⟩
  obtain ⟨w3, hw3⟩ : ∃ w3, w3 = w2.alloc (.cells #[.slice none 0 0, .int .i64 0] 28) := ⟨_, rfl⟩
  obtain ⟨w4, hw4⟩ : ∃ w4, w4 = w3.alloc (.cells #[.slice none 0 0, .int .i64 0] 28) := ⟨_, rfl⟩
  have z3 : w3.heap.size = y := by rw [hw3, hy, hx]; simp
  have r3 : Rr23 w3 x x ⟨[], 0⟩ := by rw [hw3, hx]; exact Rr23.made w2
  have b3 : Below w2.heap.size w2 w3 := by rw [hw3]; exact (Below.refl _ _).alloc (Nat.le_refl _) _
  have b4 : Below w3.heap.size w3 w4 := by rw [hw4]; exact (Below.refl _ _).alloc (Nat.le_refl _) _
  have r4 : Rr23 w4 y y ⟨[], 0⟩ := by rw [hw4, ← z3]; exact Rr23.made w3
  have HP : Hid (Pp23 w w4 p l m x x q r n y y ⟨[], 0⟩ ⟨[], 0⟩) := by
    have l1 := H1.out.1.lt3
    have l2 := h2.lt3
    have l3 := b2.size
    have l4 := H1.out.2.2
    have l5 := b3.size
    have b24 : Below w2.heap.size w2 w4 := b3.trans (b4.mono b3.size)
    have b02 : Below w.heap.size w w2 := H1.out.2.1.trans (b2.mono H1.out.2.1.size)
    have l6 := H1.out.2.1.size
    have l7 := b02.size
    exact ⟨(H1.out.1.below b2).below b24, r3.below b4, h2.below b24, r4, by omega, by omega, by omega, by omega, by omega, by omega, by omega, by omega, b02.trans (b24.mono b02.size)⟩
  have HW : Hid ((w2.alloc (.cells #[.slice none 0 0, .int .i64 0] 28)).alloc (.cells #[.slice none 0 0, .int .i64 0] 28) = w4 ∧ w2.heap.size = x ∧ x + 1 = y) := ⟨by rw [hw4, hw3], hx.symm, hy.symm⟩
  clear hq hr hn h2 b2 H1 HNW hx hy hw3 hw4 z3 r3 b3 b4 r4
  go_upto_region 5 with fail
  rw [HW.out.1, HW.out.2.1, HW.out.2.2]
  go_wp2_with fail
  go_loopw [19] (fun ti wr => ∃ (i : Nat) (gx gy : Nat) (S T : Pu23), i ≤ len ∧ ti = .int .i64 (i : Int) ∧ Pp23 w wr p l m x gx q r n y gy S T) (fun ti _ => len - (intOf ti).toNat)
  case atStart => exact ⟨0, x, y, ⟨[], 0⟩, ⟨[], 0⟩, by omega, rfl, HP.out⟩
  case round =>
    obtain ⟨i, gx, gy, S, T, hin, rfl, hP⟩ := hrel
    by_cases hi : i < len
    · have hii : (i : Int) < (len : Int) := by omega
      have hiw : IntKind.i64.wrap ((i : Int) + 1) = ((i + 1 : Nat) : Int) := by rw [IntWalk.i64_in _ (by omega)]; omega
      obtain ⟨g, off, hsa, e0, e1, e2⟩ := HSO.out.at_ i hi
      have hof := HSO.out.of i hi
      subst hsa
      have hgl := World.block_lt_of_cell? w _ e0
      replace e0 := (hP.k.cell (p := ⟨g, off + i * 3, none⟩) hgl).trans e0
      replace e1 := (hP.k.cell (p := ⟨g, off + i * 3 + 1, none⟩) hgl).trans e1
      replace e2 := (hP.k.cell (p := ⟨g, off + i * 3 + 2, none⟩) hgl).trans e2
      obtain ⟨u, hu⟩ : ∃ u, u = wr.alloc (.cells #[.bool (O i).h, .string (O i).s, .int .i64 (O i).n] 30) := ⟨_, rfl⟩
      have qu : u.heap[wr.heap.size]? = some (.cells #[.bool (O i).h, .string (O i).s, .int .i64 (O i).n] 30 (0, 0)) := by rw [hu]; exact new_blk23 _ _
      have bu : Below wr.heap.size wr u := by rw [hu]; exact (Below.refl _ _).alloc (Nat.le_refl _) _
      obtain ⟨gu, hgu⟩ : ∃ gu, gu = wr.heap.size := ⟨_, rfl⟩
      have HU : Hid (wr.alloc (.cells #[.bool (O i).h, .string (O i).s, .int .i64 (O i).n] 30) = u ∧ wr.heap.size = gu) := ⟨hu.symm, hgu.symm⟩
      rw [← hgu] at qu
      have HPU : Hid (Pp23 w u p l m x gx q r n y gy S T) := hP.below bu
      have HQU : Hid (∀ V, Kp (fun k => k = l ∨ k = m ∨ k = x ∨ k = gx) u V → V.cell? ⟨gu, 0, none⟩ = some (.bool (O i).h) ∧ V.cell? ⟨gu, 1, none⟩ = some (.string (O i).s) ∧ V.cell? ⟨gu, 2, none⟩ = some (.int .i64 (O i).n)) := fun V hV => by
        have l1 := hP.a.lt3
        have l2 := hP.b.lt
        have hk := hV.heap qu (by omega)
        exact ⟨three_cell0 hk, three_cell1 hk, three_cell2 hk⟩
      have HOF : Hid (Of23 (O i)) := hof
      obtain ⟨c0, c1, c2⟩ := HQU.out u (Kp.refl _ _)
      clear hu qu bu hgu hP hof hgl
      go_upto_region 8 with fail
      rw [HU.out.1, HU.out.2]
      go_wp2_with fail
      refine (HPU.out.do1 (O i) HOF.out).mono ?_
      rintro e v1 ⟨rfl, g1, S1, hP1, hK1⟩
      have H1 : Hid (Pp23 w v1 p l m x g1 q r n y gy S1 T) := hP1
      obtain ⟨d0, d1, d2⟩ := HQU.out v1 hK1
      clear hP1 hK1 c0 c1 c2
      go_wp2_with fail
      · refine (H1.out.do2 (O i) HOF.out).mono ?_
        rintro e v2 ⟨rfl, g2, T1, hP2⟩
        have H2 : Hid (Pp23 w v2 p l m x g1 q r n y g2 S1 T1) := hP2
        clear hP2
        go_wp2_with fail
        go_roundw
        case rel => exact ⟨i + 1, g1, g2, S1, T1, by omega, rfl, H2.out⟩
        case measure => simp [intOf]; omega
      · go_roundw
        case rel => exact ⟨i + 1, g1, gy, S1, T, by omega, rfl, H1.out⟩
        case measure => simp [intOf]; omega
    · have hii : ¬ (i : Int) < (len : Int) := by omega
      obtain ⟨w5, hw5⟩ : ∃ w5, w5 = wr := ⟨_, rfl⟩
      have HW5 : Hid (wr = w5) := hw5.symm
      rw [← hw5] at hP
      have HPU : Hid (Pp23 w w5 p l m x gx q r n y gy S T) := hP
      clear hP hw5
      go_wp2_with fail
      rw [HW5.out]
      refine (pHed23 HPU.out.c).mono ?_
      rintro e w6 ⟨rfl, h6, k6⟩
      have HD6 : Hid (Rr23 w6 y gy T ∧ Below w.heap.size w w6) := ⟨HPU.out.d.kp k6 (by have := HPU.out.d2; omega) (by have := HPU.out.d2; omega), HPU.out.k.trans (k6.below (B := w.heap.size) (fun i hi => by have := HPU.out.ge; omega) HPU.out.k.size)⟩
      clear h6 k6
      go_wp2_with fail
      refine (rhed23 HD6.out.1).mono ?_
      rintro e w7 ⟨rfl, h7⟩
      have H7 : Hid (Below w.heap.size w w7) := HD6.out.2.trans (h7.mono HD6.out.2.size)
      clear h7
      go_wp2_with fail
      refine (pliv23 _).mono ?_
      rintro e w8 ⟨rfl, h8⟩
      have H8 : Hid (Below w.heap.size w w8) := H7.out.trans (h8.mono H7.out.size)
      clear h8
      go_wp2_with fail
      go_ret
      exact ⟨rfl, H8.out⟩
end Go.Proofs.Ytboangeopbblnaa
