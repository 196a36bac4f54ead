import Derived.Test.YtmojfdccobebfaaGreatDoorPp
namespace Go.Proofs.YtmojfdccobebfaaGreatDoor
open Go.RowKit Go.Shelf
set_option linter.unusedVariables false

/-! Fits, Sizes. -/
structure Bw18 (w : World) (h : Hd18) (s : Sz18) (wB : World) (b4 b5 : Nat) : Prop where
  wa : (w.alloc (.cells #[.int .i64 h.o, .int .i64 h.n, .int .u32 h.so, .int .u32 h.sn, .int .i64 h.wi, .int .i64 h.lo] 24)).alloc (.cells #[.int .i64 s.p, .int .i64 s.r0, .int .i64 s.r1, .int .i64 s.r2, .int .i64 s.k0, .int .i64 s.k1, .int .i64 s.k2] 46) = wB
  e4 : w.heap.size = b4
  e5 : b4 + 1 = b5
  q4 : wB.heap[b4]? = some (.cells h.cs 24 (0, 0))
  q5 : Sq18 wB b5 s
  bl : Below w.heap.size w wB
theorem bw18 (w : World) (h : Hd18) (s : Sz18) : ∃ wB b4 b5, Bw18 w h s wB b4 b5 := by
  have a := cb16 w h.cs 24
  have c := cb16 (w.alloc (.cells h.cs 24)) s.cs 46
  refine ⟨_, _, _, rfl, rfl, rfl, (c.bl.block _ (by rw [a.sz]; omega)).trans a.cl, ?_, a.bl.trans (c.bl.mono a.bl.size)⟩
  have := c.cl
  rw [a.sz] at this
  exact this
structure Cz18 (V : World) (b : Nat) (s : Sz18) : Prop where
  c0 : V.cell? ⟨b, 0, none⟩ = some (.int .i64 s.p)
  c1 : V.cell? ⟨b, 1, none⟩ = some (.int .i64 s.r0)
  c2 : V.cell? ⟨b, 2, none⟩ = some (.int .i64 s.r1)
  c3 : V.cell? ⟨b, 3, none⟩ = some (.int .i64 s.r2)
  c4 : V.cell? ⟨b, 4, none⟩ = some (.int .i64 s.k0)
  c5 : V.cell? ⟨b, 5, none⟩ = some (.int .i64 s.k1)
  c6 : V.cell? ⟨b, 6, none⟩ = some (.int .i64 s.k2)
theorem cz18 {V : World} {b : Nat} {s : Sz18} (q : Sq18 V b s) : Cz18 V b s := ⟨cell18 q rfl, cell18 q rfl, cell18 q rfl, cell18 q rfl, cell18 q rfl, cell18 q rfl, cell18 q rfl⟩
theorem Bw18.cl {w wB : World} {h : Hd18} {s : Sz18} {b4 b5 : Nat} (x : Bw18 w h s wB b4 b5) {V : World} (hV : Below wB.heap.size wB V) : Cl18 V b4 h := cl18 ((hV.block _ (Array.getElem?_eq_some_iff.1 x.q4).1).trans x.q4)
theorem Bw18.sq {w wB : World} {h : Hd18} {s : Sz18} {b4 b5 : Nat} (x : Bw18 w h s wB b4 b5) {V : World} (hV : Below wB.heap.size wB V) : Sq18 V b5 s := x.q5.old hV
theorem Bw18.cz {w wB : World} {h : Hd18} {s : Sz18} {b4 b5 : Nat} (x : Bw18 w h s wB b4 b5) {V : World} (hV : Below wB.heap.size wB V) : Cz18 V b5 s := cz18 (x.sq hV)
open Classical in
noncomputable def ft18 (h : Hd18) (i : Int) (s : Sz18) : Int := if h.Ok then (if i < 0 ∨ win18 h ≤ i then 1 else if Fs18 h (siz18 h i) s then 0 else 181) else 180
theorem siz18_bd {h : Hd18} {i : Int} (hk : h.Ok) (h0 : ¬ (i < 0 ∨ win18 h ≤ i)) : 0 ≤ siz18 h i ∧ siz18 h i ≤ 65536 ∧ 64 ≤ h.wi ∧ h.wi ≤ 65536 := by
  obtain ⟨p0, p1, _⟩ := (win18_bd h).2.2 i (by omega) (by omega)
  obtain ⟨x0, x1, x2, x3⟩ := hk
  unfold siz18
  rw [if_neg h0]
  omega
set_option maxRecDepth 100000 in
set_option maxHeartbeats 4000000 in
theorem pfts18 (h : Hd18) (i : Int) (s : Sz18) (w : World) : Calls Tryz.prog 24 #[.agg #[.int .i64 h.o, .int .i64 h.n, .int .u32 h.so, .int .u32 h.sn, .int .i64 h.wi, .int .i64 h.lo], .int .i64 i, .agg #[.int .i64 s.p, .int .i64 s.r0, .int .i64 s.r1, .int .i64 s.r2, .int .i64 s.k0, .int .i64 s.k1, .int .i64 s.k2]] w fun e w' => e = .returned (.int .i64 (ft18 h i s)) ∧ Below w.heap.size w w' := by
  obtain ⟨wB, b4, b5, X⟩ := bw18 w h s
  have HX : Hid (Bw18 w h s wB b4 b5) := X
  obtain ⟨l0, l1, l2, l3, l4, l5⟩ := X.cl (Below.refl _ _)
  obtain ⟨m0, m1, m2, m3, m4, m5, m6⟩ := X.cz (Below.refl _ _)
  rw [← X.wa] at l0 l1 l2 l3 l4 l5 m0 m1 m2 m3 m4 m5 m6
  rw [← X.e5] at m0 m1 m2 m3 m4 m5 m6
  rw [← X.e4] at l0 l1 l2 l3 l4 l5 m0 m1 m2 m3 m4 m5 m6
  have CK := pchk18 h wB
  clear X
  unfold ft18
  by_cases hk : h.Ok
  · rw [if_pos hk]
    rw [if_pos hk] at CK
    have HK : Hid h.Ok := hk
    by_cases h0 : i < 0
    · rw [if_pos (.inl h0)]
      clear hk
      go_enter Tryz.func24, Tryz.ntmps24
      go_wp2_with fail
      rw [HX.out.wa, HX.out.e4, HX.out.e5]
      clear l0 l1 l2 l3 l4 l5 m0 m1 m2 m3 m4 m5 m6
      refine CK.mono ?_
      rintro e1 w1 ⟨rfl, b1⟩
      have HB1 : Hid (Below wB.heap.size wB w1) := b1
      clear b1 CK
      obtain ⟨l0, l1, l2, l3, l4, l5⟩ := HX.out.cl HB1.out
      go_wp2_with fail
      go_ret
      exact ⟨rfl, HX.out.bl.trans (HB1.out.mono HX.out.bl.size)⟩
    · have HPW := fun V => pwin18 h V
      by_cases h1 : win18 h ≤ i
      · rw [if_pos (.inr h1)]
        generalize win18 h = W at *
        clear hk
        go_enter Tryz.func24, Tryz.ntmps24
        go_wp2_with fail
        rw [HX.out.wa, HX.out.e4, HX.out.e5]
        clear l0 l1 l2 l3 l4 l5 m0 m1 m2 m3 m4 m5 m6
        refine CK.mono ?_
        rintro e1 w1 ⟨rfl, b1⟩
        have HB1 : Hid (Below wB.heap.size wB w1) := b1
        clear b1 CK
        obtain ⟨l0, l1, l2, l3, l4, l5⟩ := HX.out.cl HB1.out
        go_wp2_with fail
        refine (HPW w1).mono ?_
        rintro e2 w2 ⟨rfl, b2⟩
        have HB2 : Hid (Below wB.heap.size wB w2) := HB1.out.trans (b2.mono HB1.out.size)
        clear b2
        go_wp2_with fail
        go_ret
        exact ⟨rfl, HX.out.bl.trans (HB2.out.mono HX.out.bl.size)⟩
      · have hnv : ¬ (i < 0 ∨ win18 h ≤ i) := by omega
        rw [if_neg hnv]
        have hZ := siz18_bd hk hnv
        have PS := fun V => psfs18 h i V hk
        have HZ : Hid (0 ≤ siz18 h i ∧ siz18 h i ≤ 65536 ∧ 64 ≤ h.wi ∧ h.wi ≤ 65536) := hZ
        generalize siz18 h i = Z at *
        generalize win18 h = W at *
        have HPS : Hid (∀ V, Calls Tryz.prog 42 #[.agg #[.int .i64 h.o, .int .i64 h.n, .int .u32 h.so, .int .u32 h.sn, .int .i64 h.wi, .int .i64 h.lo], .int .i64 i] V (SfQ18 V h Z)) := PS
        clear hk hnv hZ PS
        by_cases hf : Fs18 h Z s
        · rw [if_pos hf]
          have HDE : Hid (decide (Fs18 h Z s) = true) := decide_eq_true hf
          clear hf
          go_enter Tryz.func24, Tryz.ntmps24
          go_wp2_with fail
          rw [HX.out.wa, HX.out.e4, HX.out.e5]
          clear l0 l1 l2 l3 l4 l5 m0 m1 m2 m3 m4 m5 m6
          refine CK.mono ?_
          rintro e1 w1 ⟨rfl, b1⟩
          have HB1 : Hid (Below wB.heap.size wB w1) := b1
          clear b1 CK
          obtain ⟨l0, l1, l2, l3, l4, l5⟩ := HX.out.cl HB1.out
          go_wp2_with fail
          refine (HPW w1).mono ?_
          rintro e2 w2 ⟨rfl, b2⟩
          have HB2 : Hid (Below wB.heap.size wB w2) := HB1.out.trans (b2.mono HB1.out.size)
          clear b2 l0 l1 l2 l3 l4 l5
          obtain ⟨l0, l1, l2, l3, l4, l5⟩ := HX.out.cl HB2.out
          go_wp2_with fail
          refine (HPS.out w2).mono ?_
          rintro e3 w3 ⟨g, q1, q2, q3, q5, k0, k1, k2, rfl, sf, b3⟩
          have HB3 : Hid (Below wB.heap.size wB w3) := HB2.out.trans (b3.mono HB2.out.size)
          have PF := pfiz18 g q1 q2 q3 q5 k0 k1 k2 b5 h Z s w3 sf (HX.out.sq HB3.out) HZ.out
          rw [HDE.out] at PF
          clear b3 sf l0 l1 l2 l3 l4 l5
          go_wp2_with fail
          refine PF.mono ?_
          rintro e4 w4 ⟨rfl, b4'⟩
          have HB4 : Hid (Below wB.heap.size wB w4) := HB3.out.trans (b4'.mono HB3.out.size)
          clear b4' PF
          go_wp2_with fail
          go_ret
          exact ⟨rfl, HX.out.bl.trans (HB4.out.mono HX.out.bl.size)⟩
        · rw [if_neg hf]
          have HDE : Hid (decide (Fs18 h Z s) = false) := decide_eq_false hf
          clear hf
          go_enter Tryz.func24, Tryz.ntmps24
          go_wp2_with fail
          rw [HX.out.wa, HX.out.e4, HX.out.e5]
          clear l0 l1 l2 l3 l4 l5 m0 m1 m2 m3 m4 m5 m6
          refine CK.mono ?_
          rintro e1 w1 ⟨rfl, b1⟩
          have HB1 : Hid (Below wB.heap.size wB w1) := b1
          clear b1 CK
          obtain ⟨l0, l1, l2, l3, l4, l5⟩ := HX.out.cl HB1.out
          go_wp2_with fail
          refine (HPW w1).mono ?_
          rintro e2 w2 ⟨rfl, b2⟩
          have HB2 : Hid (Below wB.heap.size wB w2) := HB1.out.trans (b2.mono HB1.out.size)
          clear b2 l0 l1 l2 l3 l4 l5
          obtain ⟨l0, l1, l2, l3, l4, l5⟩ := HX.out.cl HB2.out
          go_wp2_with fail
          refine (HPS.out w2).mono ?_
          rintro e3 w3 ⟨g, q1, q2, q3, q5, k0, k1, k2, rfl, sf, b3⟩
          have HB3 : Hid (Below wB.heap.size wB w3) := HB2.out.trans (b3.mono HB2.out.size)
          have PF := pfiz18 g q1 q2 q3 q5 k0 k1 k2 b5 h Z s w3 sf (HX.out.sq HB3.out) HZ.out
          rw [HDE.out] at PF
          clear b3 sf l0 l1 l2 l3 l4 l5
          go_wp2_with fail
          refine PF.mono ?_
          rintro e4 w4 ⟨rfl, b4'⟩
          have HB4 : Hid (Below wB.heap.size wB w4) := HB3.out.trans (b4'.mono HB3.out.size)
          clear b4' PF
          go_wp2_with fail
          go_ret
          exact ⟨rfl, HX.out.bl.trans (HB4.out.mono HX.out.bl.size)⟩
  · rw [if_neg hk]
    rw [if_neg hk] at CK
    clear hk
    go_enter Tryz.func24, Tryz.ntmps24
    go_wp2_with fail
    rw [HX.out.wa, HX.out.e4, HX.out.e5]
    clear l0 l1 l2 l3 l4 l5 m0 m1 m2 m3 m4 m5 m6
    refine CK.mono ?_
    rintro e1 w1 ⟨rfl, b1⟩
    have HB1 : Hid (Below wB.heap.size wB w1) := b1
    clear b1 CK
    obtain ⟨l0, l1, l2, l3, l4, l5⟩ := HX.out.cl HB1.out
    go_wp2_with fail
    go_ret
    exact ⟨rfl, HX.out.bl.trans (HB1.out.mono HX.out.bl.size)⟩
def SbQ18 (w : World) (L : List Int) (er : Int) (e : Ending) (w' : World) : Prop := HdQ18 w L er e w'
open Classical in
noncomputable def sb18 (h : Hd18) (i : Int) (s : Sz18) : List Int := if ft18 h i s = 0 then encA (sv18 s) else []
theorem ft18_ok {h : Hd18} {i : Int} {s : Sz18} (x : ft18 h i s = 0) : h.Ok ∧ ¬ (i < 0 ∨ win18 h ≤ i) ∧ Fs18 h (siz18 h i) s := by
  unfold ft18 at x
  split at x
  · rename_i hk
    split at x
    · omega
    · rename_i hn
      split at x
      · rename_i hf; exact ⟨hk, hn, hf⟩
      · omega
  · omega
set_option maxRecDepth 100000 in
set_option maxHeartbeats 4000000 in
theorem psz18 (h : Hd18) (i : Int) (s : Sz18) (w : World) : Calls Tryz.prog 23 #[.agg #[.int .i64 h.o, .int .i64 h.n, .int .u32 h.so, .int .u32 h.sn, .int .i64 h.wi, .int .i64 h.lo], .int .i64 i, .agg #[.int .i64 s.p, .int .i64 s.r0, .int .i64 s.r1, .int .i64 s.r2, .int .i64 s.k0, .int .i64 s.k1, .int .i64 s.k2]] w (HdQ18 w (sb18 h i s) (ft18 h i s)) := by
  obtain ⟨wB, b4, b5, X⟩ := bw18 w h s
  have HX : Hid (Bw18 w h s wB b4 b5) := X
  obtain ⟨l0, l1, l2, l3, l4, l5⟩ := X.cl (Below.refl _ _)
  obtain ⟨m0, m1, m2, m3, m4, m5, m6⟩ := X.cz (Below.refl _ _)
  rw [← X.wa] at l0 l1 l2 l3 l4 l5 m0 m1 m2 m3 m4 m5 m6
  rw [← X.e5] at m0 m1 m2 m3 m4 m5 m6
  rw [← X.e4] at l0 l1 l2 l3 l4 l5 m0 m1 m2 m3 m4 m5 m6
  have CK := pfts18 h i s wB
  clear X
  unfold sb18
  by_cases hf : ft18 h i s = 0
  · rw [if_pos hf, hf]
    rw [hf] at CK
    obtain ⟨hk, hn, hs⟩ := ft18_ok hf
    have hZ := siz18_bd hk hn
    have HBD : Hid ((0 ≤ s.p ∧ s.p ≤ 16777216) ∧ (0 ≤ s.r0 ∧ s.r0 ≤ 16777216) ∧ (0 ≤ s.r1 ∧ s.r1 ≤ 16777216) ∧ (0 ≤ s.r2 ∧ s.r2 ≤ 16777216) ∧ (0 ≤ s.k0 ∧ s.k0 ≤ 16777216) ∧ (0 ≤ s.k1 ∧ s.k1 ≤ 16777216) ∧ (0 ≤ s.k2 ∧ s.k2 ≤ 16777216)) := fs18_bd hs hZ hk.1.2
    have HPS : Hid (∀ V, Calls Tryz.prog 42 #[.agg #[.int .i64 h.o, .int .i64 h.n, .int .u32 h.so, .int .u32 h.sn, .int .i64 h.wi, .int .i64 h.lo], .int .i64 i] V (SfQ18 V h (siz18 h i))) := fun V => psfs18 h i V hk
    generalize siz18 h i = Z at *
    clear hf hk hn hs hZ
    go_enter Tryz.func23, Tryz.ntmps23
    go_wp2_with fail
    rw [HX.out.wa, HX.out.e4, HX.out.e5]
    clear l0 l1 l2 l3 l4 l5 m0 m1 m2 m3 m4 m5 m6
    refine CK.mono ?_
    rintro e1 w1 ⟨rfl, b1⟩
    have HB1 : Hid (Below wB.heap.size wB w1) := b1
    clear b1 CK
    obtain ⟨l0, l1, l2, l3, l4, l5⟩ := HX.out.cl HB1.out
    go_wp2_with fail
    refine (HPS.out w1).mono ?_
    rintro e3 w3 ⟨g, q1, q2, q3, q5, k0, k1, k2, rfl, sf, b3⟩
    have HB3 : Hid (Below wB.heap.size wB w3) := HB1.out.trans (b3.mono HB1.out.size)
    have PW := pwrz18 g q1 q2 q3 q5 k0 k1 k2 b5 h Z s w3 sf (HX.out.sq HB3.out) HBD.out
    clear b3 sf l0 l1 l2 l3 l4 l5
    go_wp2_with fail
    refine PW.mono ?_
    rintro e4 w4 ⟨p4, c4, rfl, o4, b4'⟩
    have HB4 : Hid (Below wB.heap.size wB w4) := HB3.out.trans (b4'.mono HB3.out.size)
    have HQQ : Hid (HdQ18 w (encA (sv18 s)) 0 (.returned (.tuple #[.slice p4 (encA (sv18 s)).length c4, .int .i64 0])) w4) := ⟨p4, c4, rfl, own_base o4 (Nat.le_trans HX.out.bl.size HB3.out.size), HX.out.bl.trans (HB4.out.mono HX.out.bl.size)⟩
    clear b4' PW o4
    go_wp2_with fail
    go_ret2
    exact HQQ.out
  · rw [if_neg hf]
    have hne : (ft18 h i s != 0) = true := by simp [hf]
    generalize ft18 h i s = er at *
    clear hf
    go_enter Tryz.func23, Tryz.ntmps23
    go_wp2_with fail
    rw [HX.out.wa, HX.out.e4, HX.out.e5]
    clear l0 l1 l2 l3 l4 l5 m0 m1 m2 m3 m4 m5 m6
    refine CK.mono ?_
    rintro e1 w1 ⟨rfl, b1⟩
    have HQQ : Hid (HdQ18 w [] er (.returned (.tuple #[.slice none 0 0, .int .i64 er])) w1) := ⟨none, 0, rfl, ⟨rfl, .inl ⟨rfl, rfl⟩⟩, HX.out.bl.trans (b1.mono HX.out.bl.size)⟩
    clear b1 CK
    go_wp2_with fail
    go_ret2
    exact HQQ.out
end Go.Proofs.YtmojfdccobebfaaGreatDoor
