import Derived.Test.YtpodakndckflgaaGreatDoorPp
import Derived.Test.YtpodakndckflgaaGreatDoorPj
import Derived.Test.YtpodakndckflgaaGreatDoorPm
namespace Go.Proofs.YtpodakndckflgaaGreatDoor
open Go.RowKit Go.Shelf
set_option linter.unusedVariables false
structure Bw18 (w : World) (h : Hd18) (s : Sz18) (wB : World) (b4 b5 : Nat) : Prop where
  wa : (w.alloc (.cells #[.int .i64 h.o, .int .i64 h.n, .int .u32 h.so, .int .u32 h.sn, .int .i64 h.wi, .int .i64 h.lo] 34)).alloc (.cells #[.int .i64 s.p, .int .i64 s.r0, .int .i64 s.r1, .int .i64 s.r2, .int .i64 s.k0, .int .i64 s.k1, .int .i64 s.k2] 37) = wB
  e4 : w.heap.size = b4
  e5 : b4 + 1 = b5
  q4 : wB.heap[b4]? = some (.cells h.cs 34 (0, 0))
  q5 : Sq18 wB b5 s
  bl : Below w.heap.size w wB
theorem bw18 (w : World) (h : Hd18) (s : Sz18) : ∃ wB b4 b5, Bw18 w h s wB b4 b5 := by
  have a := cb16 w h.cs 34
  have c := cb16 (w.alloc (.cells h.cs 34)) s.cs 37
  refine ⟨_, _, _, rfl, rfl, rfl, (c.bl.block _ (by rw [a.sz]; omega)).trans a.cl, ?_, a.bl.trans (c.bl.mono a.bl.size)⟩
  have := c.cl
  rw [a.sz] at this
  exact this
structure Cz18 (V : World) (b : Nat) (s : Sz18) : Prop where
  c0 : V.cell? ⟨b, 0, none⟩ = some (.int .i64 s.p)
  c1 : V.cell? ⟨b, 1, none⟩ = some (.int .i64 s.r0)
  c2 : V.cell? ⟨b, 2, none⟩ = some (.int .i64 s.r1)
  c3 : V.cell? ⟨b, 3, none⟩ = some (.int .i64 s.r2)
  c4 : V.cell? ⟨b, 4, none⟩ = some (.int .i64 s.k0)
  c5 : V.cell? ⟨b, 5, none⟩ = some (.int .i64 s.k1)
  c6 : V.cell? ⟨b, 6, none⟩ = some (.int .i64 s.k2)
theorem cz18 {V : World} {b : Nat} {s : Sz18} (q : Sq18 V b s) : Cz18 V b s := ⟨cell18 q rfl, cell18 q rfl, cell18 q rfl, cell18 q rfl, cell18 q rfl, cell18 q rfl, cell18 q rfl⟩
theorem Bw18.cl {w wB : World} {h : Hd18} {s : Sz18} {b4 b5 : Nat} (x : Bw18 w h s wB b4 b5) {V : World} (hV : Below wB.heap.size wB V) : Cl18 V b4 h := cl18 ((hV.block _ (Array.getElem?_eq_some_iff.1 x.q4).1).trans x.q4)
theorem Bw18.sq {w wB : World} {h : Hd18} {s : Sz18} {b4 b5 : Nat} (x : Bw18 w h s wB b4 b5) {V : World} (hV : Below wB.heap.size wB V) : Sq18 V b5 s := x.q5.old hV
theorem Bw18.cz {w wB : World} {h : Hd18} {s : Sz18} {b4 b5 : Nat} (x : Bw18 w h s wB b4 b5) {V : World} (hV : Below wB.heap.size wB V) : Cz18 V b5 s := cz18 (x.sq hV)
open Classical in
noncomputable def ft18 (h : Hd18) (i : Int) (s : Sz18) : Int := if h.Ok then (if i < 0 ∨ win18 h ≤ i then 1 else if Fs18 h (siz18 h i) s then 0 else 181) else 180
theorem siz18_bd {h : Hd18} {i : Int} (hk : h.Ok) (h0 : ¬ (i < 0 ∨ win18 h ≤ i)) : 0 ≤ siz18 h i ∧ siz18 h i ≤ 65536 ∧ 64 ≤ h.wi ∧ h.wi ≤ 65536 := by
  obtain ⟨p0, p1, _⟩ := (win18_bd h).2.2 i (by omega) (by omega)
  obtain ⟨x0, x1, x2, x3⟩ := hk
  unfold siz18
  rw [if_neg h0]
  omega
set_option maxRecDepth 100000 in
set_option maxHeartbeats 4000000 in
theorem pfts18 (h : Hd18) (i : Int) (s : Sz18) (w : World) : Calls Tryz.prog 38 #[.agg #[.int .i64 h.o, .int .i64 h.n, .int .u32 h.so, .int .u32 h.sn, .int .i64 h.wi, .int .i64 h.lo], .int .i64 i, .agg #[.int .i64 s.p, .int .i64 s.r0, .int .i64 s.r1, .int .i64 s.r2, .int .i64 s.k0, .int .i64 s.k1, .int .i64 s.k2]] w fun e w' => e = .returned (.int .i64 (ft18 h i s)) ∧ Below w.heap.size w w' := by
  obtain ⟨wB, b4, b5, X⟩ := bw18 w h s
  have HX : Hid (Bw18 w h s wB b4 b5) := X
  obtain ⟨l0, l1, l2, l3, l4, l5⟩ := X.cl (Below.refl _ _)
  obtain ⟨m0, m1, m2, m3, m4, m5, m6⟩ := X.cz (Below.refl _ _)
  rw [← X.wa] at l0 l1 l2 l3 l4 l5 m0 m1 m2 m3 m4 m5 m6
  rw [← X.e5] at m0 m1 m2 m3 m4 m5 m6
  rw [← X.e4] at l0 l1 l2 l3 l4 l5 m0 m1 m2 m3 m4 m5 m6
  have CK := pchk18 h wB
  clear X
  unfold ft18
  by_cases hk : h.Ok
  · rw [if_pos hk]
    rw [if_pos hk] at CK
    have HK : Hid h.Ok := hk
    by_cases h0 : i < 0
    · rw [if_pos (.inl h0)]
      clear hk
      go_enter Tryz.func38, Tryz.ntmps38
      go_wp2_with fail
      rw [HX.out.wa, HX.out.e4, HX.out.e5]
      clear l0 l1 l2 l3 l4 l5 m0 m1 m2 m3 m4 m5 m6
      refine CK.mono ?_
      rintro e1 w1 ⟨rfl, b1⟩
      have HB1 : Hid (Below wB.heap.size wB w1) := b1
      clear b1 CK
      obtain ⟨l0, l1, l2, l3, l4, l5⟩ := HX.out.cl HB1.out
      go_wp2_with fail
      go_ret
      exact ⟨rfl, HX.out.bl.trans (HB1.out.mono HX.out.bl.size)⟩
    · have HPW := fun V => pwin18 h V
      by_cases h1 : win18 h ≤ i
      · rw [if_pos (.inr h1)]
        generalize win18 h = W at *
        clear hk
        go_enter Tryz.func38, Tryz.ntmps38
        go_wp2_with fail
        rw [HX.out.wa, HX.out.e4, HX.out.e5]
        clear l0 l1 l2 l3 l4 l5 m0 m1 m2 m3 m4 m5 m6
        refine CK.mono ?_
        rintro e1 w1 ⟨rfl, b1⟩
        have HB1 : Hid (Below wB.heap.size wB w1) := b1
        clear b1 CK
        obtain ⟨l0, l1, l2, l3, l4, l5⟩ := HX.out.cl HB1.out
        go_wp2_with fail
        refine (HPW w1).mono ?_
        rintro e2 w2 ⟨rfl, b2⟩
        have HB2 : Hid (Below wB.heap.size wB w2) := HB1.out.trans (b2.mono HB1.out.size)
        clear b2
        go_wp2_with fail
        go_ret
        exact ⟨rfl, HX.out.bl.trans (HB2.out.mono HX.out.bl.size)⟩
      · have hnv : ¬ (i < 0 ∨ win18 h ≤ i) := by omega
        rw [if_neg hnv]
        have hZ := siz18_bd hk hnv
        have PS := fun V => psfs18 h i V hk
        have HZ : Hid (0 ≤ siz18 h i ∧ siz18 h i ≤ 65536 ∧ 64 ≤ h.wi ∧ h.wi ≤ 65536) := hZ
        generalize siz18 h i = Z at *
        generalize win18 h = W at *
        have HPS : Hid (∀ V, Calls Tryz.prog 51 #[.agg #[.int .i64 h.o, .int .i64 h.n, .int .u32 h.so, .int .u32 h.sn, .int .i64 h.wi, .int .i64 h.lo], .int .i64 i] V (SfQ18 V h Z)) := PS
        clear hk hnv hZ PS
        by_cases hf : Fs18 h Z s
        · rw [if_pos hf]
          have HDE : Hid (decide (Fs18 h Z s) = true) := decide_eq_true hf
          clear hf
          go_enter Tryz.func38, Tryz.ntmps38
          go_wp2_with fail
          rw [HX.out.wa, HX.out.e4, HX.out.e5]
          clear l0 l1 l2 l3 l4 l5 m0 m1 m2 m3 m4 m5 m6
          refine CK.mono ?_
          rintro e1 w1 ⟨rfl, b1⟩
          have HB1 : Hid (Below wB.heap.size wB w1) := b1
          clear b1 CK
          obtain ⟨l0, l1, l2, l3, l4, l5⟩ := HX.out.cl HB1.out
          go_wp2_with fail
          refine (HPW w1).mono ?_
          rintro e2 w2 ⟨rfl, b2⟩
          have HB2 : Hid (Below wB.heap.size wB w2) := HB1.out.trans (b2.mono HB1.out.size)
          clear b2 l0 l1 l2 l3 l4 l5
          obtain ⟨l0, l1, l2, l3, l4, l5⟩ := HX.out.cl HB2.out
          go_wp2_with fail
          refine (HPS.out w2).mono ?_
          rintro e3 w3 ⟨g, q1, q2, q3, q5, k0, k1, k2, rfl, sf, b3⟩
          have HB3 : Hid (Below wB.heap.size wB w3) := HB2.out.trans (b3.mono HB2.out.size)
          have PF := pfiz18 g q1 q2 q3 q5 k0 k1 k2 b5 h Z s w3 sf (HX.out.sq HB3.out) HZ.out
          rw [HDE.out] at PF
          clear b3 sf l0 l1 l2 l3 l4 l5
          go_wp2_with fail
          refine PF.mono ?_
          rintro e4 w4 ⟨rfl, b4'⟩
          have HB4 : Hid (Below wB.heap.size wB w4) := HB3.out.trans (b4'.mono HB3.out.size)
          clear b4' PF
          go_wp2_with fail
          go_ret
          exact ⟨rfl, HX.out.bl.trans (HB4.out.mono HX.out.bl.size)⟩
        · rw [if_neg hf]
          have HDE : Hid (decide (Fs18 h Z s) = false) := decide_eq_false hf
          clear hf
          go_enter Tryz.func38, Tryz.ntmps38
          go_wp2_with fail
          rw [HX.out.wa, HX.out.e4, HX.out.e5]
          clear l0 l1 l2 l3 l4 l5 m0 m1 m2 m3 m4 m5 m6
          refine CK.mono ?_
          rintro e1 w1 ⟨rfl, b1⟩
          have HB1 : Hid (Below wB.heap.size wB w1) := b1
          clear b1 CK
          obtain ⟨l0, l1, l2, l3, l4, l5⟩ := HX.out.cl HB1.out
          go_wp2_with fail
          refine (HPW w1).mono ?_
          rintro e2 w2 ⟨rfl, b2⟩
          have HB2 : Hid (Below wB.heap.size wB w2) := HB1.out.trans (b2.mono HB1.out.size)
          clear b2 l0 l1 l2 l3 l4 l5
          obtain ⟨l0, l1, l2, l3, l4, l5⟩ := HX.out.cl HB2.out
          go_wp2_with fail
          refine (HPS.out w2).mono ?_
          rintro e3 w3 ⟨g, q1, q2, q3, q5, k0, k1, k2, rfl, sf, b3⟩
          have HB3 : Hid (Below wB.heap.size wB w3) := HB2.out.trans (b3.mono HB2.out.size)
          have PF := pfiz18 g q1 q2 q3 q5 k0 k1 k2 b5 h Z s w3 sf (HX.out.sq HB3.out) HZ.out
          rw [HDE.out] at PF
          clear b3 sf l0 l1 l2 l3 l4 l5
          go_wp2_with fail
          refine PF.mono ?_
          rintro e4 w4 ⟨rfl, b4'⟩
          have HB4 : Hid (Below wB.heap.size wB w4) := HB3.out.trans (b4'.mono HB3.out.size)
          clear b4' PF
          go_wp2_with fail
          go_ret
          exact ⟨rfl, HX.out.bl.trans (HB4.out.mono HX.out.bl.size)⟩
  · rw [if_neg hk]
    rw [if_neg hk] at CK
    clear hk
    go_enter Tryz.func38, Tryz.ntmps38
    go_wp2_with fail
    rw [HX.out.wa, HX.out.e4, HX.out.e5]
    clear l0 l1 l2 l3 l4 l5 m0 m1 m2 m3 m4 m5 m6
    refine CK.mono ?_
    rintro e1 w1 ⟨rfl, b1⟩
    have HB1 : Hid (Below wB.heap.size wB w1) := b1
    clear b1 CK
    obtain ⟨l0, l1, l2, l3, l4, l5⟩ := HX.out.cl HB1.out
    go_wp2_with fail
    go_ret
    exact ⟨rfl, HX.out.bl.trans (HB1.out.mono HX.out.bl.size)⟩
end Go.Proofs.YtpodakndckflgaaGreatDoor

namespace Go.Proofs.YtpodakndckflgaaGreatDoor
open Go.RowKit Go.Shelf
set_option linter.unusedVariables false
set_option linter.unusedSimpArgs false
def zs19 (r : R19) : Sz18 := ⟨r.n0, r.n1, r.n2, r.n3, r.n4, r.n5, r.n6⟩
def ez19 (r : R19) : E19 := { e019 with kd := 2, ps := r.n0, r0 := r.n1, r1 := r.n2, r2 := r.n3, p0 := r.n4, p1 := r.n5, p2 := r.n6 }
open Classical in
/-- A byte of a frame's numbers. -/
noncomputable def sz19 (s : R19) (e : E19) (v : Int) : D19 :=
  if (nb19 s v 7).1 = true then (if ft18 (nb19 s v 7).2.2.hd (nb19 s v 7).2.2.wn (zs19 (nb19 s v 7).2.2) = 0 then (true, 0, { (nb19 s v 7).2.2 with wn := (nb19 s v 7).2.2.wn + 1, l0 := (nb19 s v 7).2.2.n4, l1 := (nb19 s v 7).2.2.n5, l2 := (nb19 s v 7).2.2.n6, nx := 6 }, ez19 (nb19 s v 7).2.2) else (false, 190, (nb19 s v 7).2.2, e)) else (false, (nb19 s v 7).2.1, (nb19 s v 7).2.2, e)
theorem put_wn (s : R19) (k : Nat) (y : Int) : (s.put k y).wn = s.wn := by unfold R19.put; split <;> rfl
theorem nb19_wn (s : R19) (v m : Int) : (nb19 s v m).2.2.wn = s.wn := by
  unfold nb19
  split
  · rfl
  · split
    · rfl
    · show (R19.put _ _ _).wn = _
      rw [put_wn]
set_option maxRecDepth 100000 in
set_option maxHeartbeats 8000000 in
theorem psiz19 (b bt base : Nat) (s : R19) (e : E19) (v : Int) (w : World) (h : St19 w b 58 s) (hE : Ev19 w bt base e) (hne : bt ≠ b) (hbb : b < base) (hT : Tk19 s) (hv : 0 ≤ v ∧ v ≤ 255) (hc : 0 ≤ s.cn ∧ s.cn < 7) (hwn : 0 ≤ s.wn ∧ s.wn ≤ 4611686018427387904) :
    Calls Tryz.prog 24 #[.pointer (some ⟨b, 0, none⟩), .int .u8 v, .pointer (some ⟨bt, 0, none⟩)] w fun en w' => en = .returned (.tuple #[.bool (sz19 s e v).1, .int .i64 (sz19 s e v).2.1]) ∧ St19 w' b 58 (sz19 s e v).2.2.1 ∧ Ev19 w' bt base (sz19 s e v).2.2.2 ∧ K2 b bt w w' := by
  have NB := pnum19 b 58 s v 7 w h hT hv (by omega) hc
  have HN : Hid (bt ≠ b ∧ b < base) := ⟨hne, hbb⟩
  have HE : Hid (Ev19 w bt base e) := hE
  have HER := fun x => nb19_ok (s := s) (v := v) (m := 7) x
  have hrw := nb19_wn s v 7
  by_cases hw : (nb19 s v 7).1 = true
  rotate_left
  · have HS : Hid (sz19 s e v = (false, (nb19 s v 7).2.1, (nb19 s v 7).2.2, e)) := by show _ = _; unfold sz19; rw [if_neg hw]
    have hwf : (nb19 s v 7).1 = false := by simpa using hw
    rw [hwf] at NB
    generalize (nb19 s v 7).2.2 = r at *
    generalize (nb19 s v 7).2.1 = er at *
    clear hw hwf HER hT hc h hv hE hne hbb hwn hrw
    go_enter Tryz.func24, Tryz.ntmps24
    go_wp2_with fail
    refine NB.mono ?_
    rintro e1 w1 ⟨rfl, q1, k1⟩
    have HQ : Hid (St19 w1 b 58 r ∧ Ev19 w1 bt base e ∧ K2 b bt w w1) := ⟨q1, HE.out.kp k1 HN.out.1 HN.out.2, K2.a k1⟩
    clear NB q1 k1
    go_wp2
    go_ret2
    rw [HS.out]
    exact ⟨rfl, HQ.out.1, HQ.out.2.1, HQ.out.2.2⟩
  have he := HER hw
  rw [hw, he] at NB
  have HSA : Hid (ft18 (nb19 s v 7).2.2.hd (nb19 s v 7).2.2.wn (zs19 (nb19 s v 7).2.2) = 0 → sz19 s e v = (true, 0, { (nb19 s v 7).2.2 with wn := (nb19 s v 7).2.2.wn + 1, l0 := (nb19 s v 7).2.2.n4, l1 := (nb19 s v 7).2.2.n5, l2 := (nb19 s v 7).2.2.n6, nx := 6 }, ez19 (nb19 s v 7).2.2)) := fun x => by unfold sz19; rw [if_pos hw, if_pos x]
  have HSB : Hid (¬ ft18 (nb19 s v 7).2.2.hd (nb19 s v 7).2.2.wn (zs19 (nb19 s v 7).2.2) = 0 → sz19 s e v = (false, 190, (nb19 s v 7).2.2, e)) := fun x => by unfold sz19; rw [if_pos hw, if_neg x]
  generalize (nb19 s v 7).2.2 = r at *
  have HWN : Hid (0 ≤ r.wn ∧ r.wn ≤ 4611686018427387904) := by rw [hrw]; exact hwn
  have HFT : Hid (∀ V, Calls Tryz.prog 38 #[.agg #[.int .i64 r.hd.o, .int .i64 r.hd.n, .int .u32 r.hd.so, .int .u32 r.hd.sn, .int .i64 r.hd.wi, .int .i64 r.hd.lo], .int .i64 r.wn, .agg #[.int .i64 r.n0, .int .i64 r.n1, .int .i64 r.n2, .int .i64 r.n3, .int .i64 r.n4, .int .i64 r.n5, .int .i64 r.n6]] V fun e w' => e = .returned (.int .i64 (ft18 r.hd r.wn (zs19 r))) ∧ Below V.heap.size V w') := fun V => pfts18 r.hd r.wn (zs19 r) V
  generalize hft : ft18 r.hd r.wn (zs19 r) = F at *
  clear hw he HER hT hc h hv hE hne hbb hwn hrw hft
  go_enter Tryz.func24, Tryz.ntmps24
  go_wp2_with fail
  refine NB.mono ?_
  rintro e1 w1 ⟨rfl, q1, k1⟩
  obtain ⟨w2, hw2⟩ : ∃ w2, w2 = w1.alloc (.cells #[.int .i64 r.n0, .int .i64 r.n1, .int .i64 r.n2, .int .i64 r.n3, .int .i64 r.n4, .int .i64 r.n5, .int .i64 r.n6] 56) := ⟨_, rfl⟩
  have c2 := cb16 w1 #[.int .i64 r.n0, .int .i64 r.n1, .int .i64 r.n2, .int .i64 r.n3, .int .i64 r.n4, .int .i64 r.n5, .int .i64 r.n6] 56
  rw [← hw2] at c2
  obtain ⟨w3, hw3⟩ : ∃ w3, w3 = w2.alloc (.cells #[.int .i64 r.n0, .int .i64 r.n1, .int .i64 r.n2, .int .i64 r.n3, .int .i64 r.n4, .int .i64 r.n5, .int .i64 r.n6] 37) := ⟨_, rfl⟩
  have c3 := cb16 w2 #[.int .i64 r.n0, .int .i64 r.n1, .int .i64 r.n2, .int .i64 r.n3, .int .i64 r.n4, .int .i64 r.n5, .int .i64 r.n6] 37
  rw [← hw3] at c3
  obtain ⟨b11, hb11⟩ : ∃ x, x = w2.heap.size := ⟨_, rfl⟩
  have s2 := c2.sz
  have s3 := c3.sz
  have hlt := q1.lt
  have B3 : Below w1.heap.size w1 w3 := c2.bl.trans (c3.bl.mono (by omega))
  have q113 : w3.heap[b11]? = some (.cells #[.int .i64 r.n0, .int .i64 r.n1, .int .i64 r.n2, .int .i64 r.n3, .int .i64 r.n4, .int .i64 r.n5, .int .i64 r.n6] 37 (0, 0)) := by rw [hb11]; exact c3.cl
  have HSC : Hid (∀ V, Below w3.heap.size w3 V → V.cell? ⟨b, 0, none⟩ = some (.int .u32 (wI r.sm)) ∧ V.cell? ⟨b, 12, none⟩ = some (.int .i64 r.hd.o) ∧ V.cell? ⟨b, 13, none⟩ = some (.int .i64 r.hd.n) ∧ V.cell? ⟨b, 14, none⟩ = some (.int .u32 r.hd.so) ∧ V.cell? ⟨b, 15, none⟩ = some (.int .u32 r.hd.sn) ∧ V.cell? ⟨b, 16, none⟩ = some (.int .i64 r.hd.wi) ∧ V.cell? ⟨b, 17, none⟩ = some (.int .i64 r.hd.lo) ∧ V.cell? ⟨b, 18, none⟩ = some (.int .i64 r.wn) ∧ V.cell? ⟨b11, 0, none⟩ = some (.int .i64 r.n0) ∧ V.cell? ⟨b11, 1, none⟩ = some (.int .i64 r.n1) ∧ V.cell? ⟨b11, 2, none⟩ = some (.int .i64 r.n2) ∧ V.cell? ⟨b11, 3, none⟩ = some (.int .i64 r.n3) ∧ V.cell? ⟨b11, 4, none⟩ = some (.int .i64 r.n4) ∧ V.cell? ⟨b11, 5, none⟩ = some (.int .i64 r.n5) ∧ V.cell? ⟨b11, 6, none⟩ = some (.int .i64 r.n6)) := fun V hV => by
    have q := (q1.old B3).old hV
    have p := (hV.block _ (Array.getElem?_eq_some_iff.1 q113).1).trans q113
    exact ⟨q.c0, q.c12, q.c13, q.c14, q.c15, q.c16, q.c17, q.c18, cell18 p rfl, cell18 p rfl, cell18 p rfl, cell18 p rfl, cell18 p rfl, cell18 p rfl, cell18 p rfl⟩
  have HQV : Hid (∀ V, Below w3.heap.size w3 V → St19 V b 58 r ∧ Ev19 V bt base e ∧ K2 b bt w V ∧ V.heap[b11]? = some (.cells #[.int .i64 r.n0, .int .i64 r.n1, .int .i64 r.n2, .int .i64 r.n3, .int .i64 r.n4, .int .i64 r.n5, .int .i64 r.n6] 37 (0, 0))) := fun V hV => ⟨(q1.old B3).old hV, (((HE.out.kp k1 HN.out.1 HN.out.2).old B3).old hV), (K2.a k1).tr ((K2.bl B3).tr (K2.bl hV)), (hV.block _ (Array.getElem?_eq_some_iff.1 q113).1).trans q113⟩
  have HNB : Hid (b ≠ b11 ∧ b11 < w3.heap.size) := ⟨by omega, by omega⟩
  have HBT : Hid (bt ≠ b11) := by
    obtain ⟨p, c, qe, _⟩ := HE.out.kp k1 HN.out.1 HN.out.2
    have := (Array.getElem?_eq_some_iff.1 qe).1
    show bt ≠ b11
    omega
  have HW3 : Hid ((w1.alloc (.cells #[.int .i64 r.n0, .int .i64 r.n1, .int .i64 r.n2, .int .i64 r.n3, .int .i64 r.n4, .int .i64 r.n5, .int .i64 r.n6] 56)).alloc (.cells #[.int .i64 r.n0, .int .i64 r.n1, .int .i64 r.n2, .int .i64 r.n3, .int .i64 r.n4, .int .i64 r.n5, .int .i64 r.n6] 37) = w3 ∧ w1.heap.size + 1 = b11) := ⟨by rw [hw3, hw2], by omega⟩
  have d0 := q1.c0
  have d5 := q1.c5
  have d6 := q1.c6
  have d7 := q1.c7
  have d8 := q1.c8
  have d9 := q1.c9
  have d10 := q1.c10
  have d11 := q1.c11
  clear NB hw2 hw3 hb11 c2 c3 s2 s3 hlt B3 q113 q1 k1 HE
  go_wp2_with fail
  rw [HW3.out.1, HW3.out.2]
  clear d0 d5 d6 d7 d8 d9 d10 d11
  refine plain_region16 (fun V => V.cell? ⟨b, 0, none⟩ = some (.int .u32 (wI r.sm)) ∧ V.cell? ⟨b, 12, none⟩ = some (.int .i64 r.hd.o) ∧ V.cell? ⟨b, 13, none⟩ = some (.int .i64 r.hd.n) ∧ V.cell? ⟨b, 14, none⟩ = some (.int .u32 r.hd.so) ∧ V.cell? ⟨b, 15, none⟩ = some (.int .u32 r.hd.sn) ∧ V.cell? ⟨b, 16, none⟩ = some (.int .i64 r.hd.wi) ∧ V.cell? ⟨b, 17, none⟩ = some (.int .i64 r.hd.lo) ∧ V.cell? ⟨b, 18, none⟩ = some (.int .i64 r.wn) ∧ V.cell? ⟨b11, 0, none⟩ = some (.int .i64 r.n0) ∧ V.cell? ⟨b11, 1, none⟩ = some (.int .i64 r.n1) ∧ V.cell? ⟨b11, 2, none⟩ = some (.int .i64 r.n2) ∧ V.cell? ⟨b11, 3, none⟩ = some (.int .i64 r.n3) ∧ V.cell? ⟨b11, 4, none⟩ = some (.int .i64 r.n4) ∧ V.cell? ⟨b11, 5, none⟩ = some (.int .i64 r.n5) ∧ V.cell? ⟨b11, 6, none⟩ = some (.int .i64 r.n6)) 11 (by kernel_rfl) (HSC.out w3.drew ((Below.refl _ _).drew)) (fun hHeld => ?_)
  have HD3 : Hid (Below w3.heap.size w3 w3.drew) := (Below.refl _ _).drew
  refine wpAnyK_take (i := 0) (v := .pointer (some ⟨b, 0, none⟩)) rfl (by kernel_rfl) (by kernel_rfl) (by kernel_rfl) (by kernel_rfl) (fun _ _ _ h => h) (Or.inl ⟨by rfl, fun w hSw => by go_simp⟩) hHeld ?_
  simp only [List.getElem_toArray, List.getElem_cons_zero, Act.put, List.setIfInBounds_toArray, List.set_cons_zero, List.set_cons_succ]
  refine wpAnyK_take (i := 1) (v := .pointer (some ⟨b, 0, none⟩)) rfl (by kernel_rfl) (by kernel_rfl) (by kernel_rfl) (by kernel_rfl) (fun _ _ _ h => h) (Or.inl ⟨by rfl, fun w hSw => by go_simp⟩) hHeld ?_
  simp only [List.getElem_toArray, List.getElem_cons_zero, List.getElem_cons_succ, Act.put, List.setIfInBounds_toArray, List.set_cons_zero, List.set_cons_succ]
  refine wpAnyK_take (i := 2) (v := .pointer (some ⟨b, 12, none⟩)) rfl (by kernel_rfl) (by kernel_rfl) (by kernel_rfl) (by kernel_rfl) (fun _ _ _ h => h) (Or.inl ⟨by rfl, fun w hSw => by go_simp⟩) hHeld ?_
  simp only [List.getElem_toArray, List.getElem_cons_zero, List.getElem_cons_succ, Act.put, List.setIfInBounds_toArray, List.set_cons_zero, List.set_cons_succ]
  refine wpAnyK_take (i := 3) (v := .agg #[.int .i64 r.hd.o, .int .i64 r.hd.n, .int .u32 r.hd.so, .int .u32 r.hd.sn, .int .i64 r.hd.wi, .int .i64 r.hd.lo]) rfl (by kernel_rfl) (by kernel_rfl) (by kernel_rfl) (by kernel_rfl) (fun _ _ _ h => h) (Or.inl ⟨by rfl, fun w hSw => by go_simp⟩) hHeld ?_
  simp only [List.getElem_toArray, List.getElem_cons_zero, List.getElem_cons_succ, Act.put, List.setIfInBounds_toArray, List.set_cons_zero, List.set_cons_succ]
  refine wpAnyK_take (i := 4) (v := .pointer (some ⟨b, 0, none⟩)) rfl (by kernel_rfl) (by kernel_rfl) (by kernel_rfl) (by kernel_rfl) (fun _ _ _ h => h) (Or.inl ⟨by rfl, fun w hSw => by go_simp⟩) hHeld ?_
  simp only [List.getElem_toArray, List.getElem_cons_zero, List.getElem_cons_succ, Act.put, List.setIfInBounds_toArray, List.set_cons_zero, List.set_cons_succ]
  refine wpAnyK_take (i := 5) (v := .pointer (some ⟨b, 0, none⟩)) rfl (by kernel_rfl) (by kernel_rfl) (by kernel_rfl) (by kernel_rfl) (fun _ _ _ h => h) (Or.inl ⟨by rfl, fun w hSw => by go_simp⟩) hHeld ?_
  simp only [List.getElem_toArray, List.getElem_cons_zero, List.getElem_cons_succ, Act.put, List.setIfInBounds_toArray, List.set_cons_zero, List.set_cons_succ]
  refine wpAnyK_take (i := 6) (v := .pointer (some ⟨b, 18, none⟩)) rfl (by kernel_rfl) (by kernel_rfl) (by kernel_rfl) (by kernel_rfl) (fun _ _ _ h => h) (Or.inl ⟨by rfl, fun w hSw => by go_simp⟩) hHeld ?_
  simp only [List.getElem_toArray, List.getElem_cons_zero, List.getElem_cons_succ, Act.put, List.setIfInBounds_toArray, List.set_cons_zero, List.set_cons_succ]
  refine wpAnyK_take (i := 7) (v := .int .i64 r.wn) rfl (by kernel_rfl) (by kernel_rfl) (by kernel_rfl) (by kernel_rfl) (fun _ _ _ h => h) (Or.inl ⟨by rfl, fun w hSw => by go_simp⟩) hHeld ?_
  simp only [List.getElem_toArray, List.getElem_cons_zero, List.getElem_cons_succ, Act.put, List.setIfInBounds_toArray, List.set_cons_zero, List.set_cons_succ]
  refine wpAnyK_take (i := 8) (v := .agg #[.int .i64 r.n0, .int .i64 r.n1, .int .i64 r.n2, .int .i64 r.n3, .int .i64 r.n4, .int .i64 r.n5, .int .i64 r.n6]) rfl (by kernel_rfl) (by kernel_rfl) (by kernel_rfl) (by kernel_rfl) (fun _ _ _ h => h) (Or.inl ⟨by rfl, fun w hSw => by go_simp⟩) hHeld ?_
  simp only [List.getElem_toArray, List.getElem_cons_zero, List.getElem_cons_succ, Act.put, List.setIfInBounds_toArray, List.set_cons_zero, List.set_cons_succ]
  refine wpAnyK_one (i := 9) (by kernel_rfl) rfl (fun K hK => ?_)
  (try simp only [List.getElem_toArray, List.getElem_cons_zero, List.getElem_cons_succ, Act.put, List.setIfInBounds_toArray, List.set_cons_zero, List.set_cons_succ])
  go_simp
  refine (HFT.out w3.drew).mono ?_
  rintro e4 w4 ⟨rfl, b4⟩
  have B4 : Below w3.heap.size w3 w4 := HD3.out.trans b4
  have HB4 : Hid (Below w3.heap.size w3 w4) := B4
  clear b4 B4
  refine hK.out _ _ (fun _ => HSC.out w4 HB4.out) (fun hHeld0 => ?_)
  have hHeld := hHeld0 (by decide)
  clear hHeld0 hK K
  (try simp only [List.getElem_toArray, List.getElem_cons_zero, List.getElem_cons_succ, Act.put, List.setIfInBounds_toArray, List.set_cons_zero, List.set_cons_succ])
  by_cases hf : F = 0
  rotate_left
  · have HS := HSB.out hf
    have HS : Hid (sz19 s e v = (false, 190, r, e)) := HS
    have hfb : (F != 0) = true := by simp [hf]
    have HQ := HQV.out w4 HB4.out
    have HQ : Hid (St19 w4 b 58 r ∧ Ev19 w4 bt base e ∧ K2 b bt w w4) := ⟨HQ.1, HQ.2.1, HQ.2.2.1⟩
    clear hf
    refine wpAnyK_take (i := 10) (v := .bool true) rfl (by kernel_rfl) (by kernel_rfl) (by kernel_rfl) (by kernel_rfl) (fun _ _ _ h => h) (Or.inl ⟨by rfl, fun w hSw => by go_simp⟩) hHeld ?_
    simp only [List.getElem_toArray, List.getElem_cons_zero, List.getElem_cons_succ, Act.put, List.setIfInBounds_toArray, List.set_cons_zero, List.set_cons_succ]
    refine wpAnyK_done (by kernel_rfl) ?_ _
    clear hHeld
    go_wp2
    go_ret2
    rw [HS.out]
    exact ⟨rfl, HQ.out.1, HQ.out.2.1, HQ.out.2.2⟩
  have HS : Hid (sz19 s e v = (true, 0, { r with wn := r.wn + 1, l0 := r.n4, l1 := r.n5, l2 := r.n6, nx := 6 }, ez19 r)) := HSA.out hf
  have hfb : (F != 0) = false := by simp [hf]
  clear hf
  refine wpAnyK_take (i := 10) (v := .bool false) rfl (by kernel_rfl) (by kernel_rfl) (by kernel_rfl) (by kernel_rfl) (fun _ _ _ h => h) (Or.inl ⟨by rfl, fun w hSw => by go_simp⟩) hHeld ?_
  simp only [List.getElem_toArray, List.getElem_cons_zero, List.getElem_cons_succ, Act.put, List.setIfInBounds_toArray, List.set_cons_zero, List.set_cons_succ]
  refine wpAnyK_done (by kernel_rfl) ?_ _
  clear hHeld
  obtain ⟨q4, ⟨p, c, qe, oe⟩, k4, p4⟩ := HQV.out w4 HB4.out
  obtain ⟨w5, hw5⟩ : ∃ w5, w5 = w4.setRow bt ((ez19 r).cs none 0) := ⟨_, rfl⟩
  have k5 : Kp (fun k => k = bt) w4 w5 := by rw [hw5]; exact grow19 _ _ _
  have e5 : Ev19 w5 bt base (ez19 r) := ⟨none, 0, by rw [hw5]; exact setRow_heap w4 bt _ _ _ _ qe, World.ownsRow_nil _ _ _ _⟩
  have hbt := HN.out.1
  have q5 : St19 w5 b 58 r := q4.kp k5 (fun x => hbt (by have x : b = bt := x; exact x.symm))
  have p5 : w5.heap[b11]? = some (.cells #[.int .i64 r.n0, .int .i64 r.n1, .int .i64 r.n2, .int .i64 r.n3, .int .i64 r.n4, .int .i64 r.n5, .int .i64 r.n6] 37 (0, 0)) := k5.heap p4 (fun x => HBT.out (by have x : b11 = bt := x; exact x.symm))
  have HW5 : Hid (w4.setRow bt ((ez19 r).cs none 0) = w5) := hw5.symm
  have HQE : Hid (w4.heap[bt]? = some (.cells (e.cs p c) 39 (0, 0))) := qe
  have HE5 : Hid (Ev19 w5 bt base (ez19 r) ∧ K2 b bt w w5) := ⟨e5, k4.tr (K2.b k5)⟩
  have l0 : w4.cell? ⟨b11, 0, none⟩ = some (.int .i64 r.n0) := cell18 p4 rfl
  have l1 : w4.cell? ⟨b11, 1, none⟩ = some (.int .i64 r.n1) := cell18 p4 rfl
  have l2 : w4.cell? ⟨b11, 2, none⟩ = some (.int .i64 r.n2) := cell18 p4 rfl
  have l3 : w4.cell? ⟨b11, 3, none⟩ = some (.int .i64 r.n3) := cell18 p4 rfl
  have l4 : w4.cell? ⟨b11, 4, none⟩ = some (.int .i64 r.n4) := cell18 p4 rfl
  have l5 : w4.cell? ⟨b11, 5, none⟩ = some (.int .i64 r.n5) := cell18 p4 rfl
  have l6 : w4.cell? ⟨b11, 6, none⟩ = some (.int .i64 r.n6) := cell18 p4 rfl
  have me : w4.cell? ⟨bt, 0, none⟩ = some (.int .i64 e.kd) := cell18 qe rfl
  have m4 : w5.cell? ⟨b11, 4, none⟩ = some (.int .i64 r.n4) := cell18 p5 rfl
  have m5 : w5.cell? ⟨b11, 5, none⟩ = some (.int .i64 r.n5) := cell18 p5 rfl
  have m6 : w5.cell? ⟨b11, 6, none⟩ = some (.int .i64 r.n6) := cell18 p5 rfl
  have g0 := q5.c0
  have g3 := q5.c3
  have g18 := q5.c18
  have g19 := q5.c19
  have g20 := q5.c20
  have g21 := q5.c21
  have f3 := q5.f 3
  have f18 := q5.f 18
  have f19 := q5.f 19
  have f20 := q5.f 20
  have f21 := q5.f 21
  have hwr : IntKind.i64.wrap (r.wn + 1) = r.wn + 1 := IntWalk.i64_in _ (by have := HWN.out; omega)
  have hnb : ¬ b11 = b := fun x => HNB.out.1 x.symm
  have hnb' : ¬ b = b11 := HNB.out.1
  have HQ6 : Hid (St19 (((((w5.setCell ⟨b, 18, none⟩ (.int .i64 (r.wn + 1))).setCell ⟨b, 19, none⟩ (.int .i64 r.n4)).setCell ⟨b, 20, none⟩ (.int .i64 r.n5)).setCell ⟨b, 21, none⟩ (.int .i64 r.n6)).setCell ⟨b, 3, none⟩ (.int .i64 6)) b 58 { r with wn := r.wn + 1, l0 := r.n4, l1 := r.n5, l2 := r.n6, nx := 6 } ∧ Kp (fun k => k = b) w5 (((((w5.setCell ⟨b, 18, none⟩ (.int .i64 (r.wn + 1))).setCell ⟨b, 19, none⟩ (.int .i64 r.n4)).setCell ⟨b, 20, none⟩ (.int .i64 r.n5)).setCell ⟨b, 21, none⟩ (.int .i64 r.n6)).setCell ⟨b, 3, none⟩ (.int .i64 6))) := ⟨((((q5.set (s' := { r with wn := r.wn + 1 }) rfl).set (s' := { r with wn := r.wn + 1, l0 := r.n4 }) rfl).set (s' := { r with wn := r.wn + 1, l0 := r.n4, l1 := r.n5 }) rfl).set (s' := { r with wn := r.wn + 1, l0 := r.n4, l1 := r.n5, l2 := r.n6 }) rfl).set (s' := { r with wn := r.wn + 1, l0 := r.n4, l1 := r.n5, l2 := r.n6, nx := 6 }) rfl, kpt_19 (kpt_19 (kpt_19 (kpt_19 (kp1_19 _) (kp1_19 _)) (kp1_19 _)) (kp1_19 _)) (kp1_19 _)⟩
  clear q4 qe oe k4 p4 hw5 k5 e5 hbt q5 p5
  go_wp2_with (refine wpList_store_row rfl 39 (.tmp 56) (.tmp 55) rfl bt ((ez19 r).cs none 0) rfl rfl _ _ HQE.out info_ev19 rfl (evc_all19 (ez19 r) none 0) ?_; rw [HW5.out])
  go_ret2
  rw [HS.out]
  exact ⟨rfl, HQ6.out.1, HE5.out.1.kp HQ6.out.2 HN.out.1 HN.out.2, HE5.out.2.tr (K2.a HQ6.out.2)⟩
end Go.Proofs.YtpodakndckflgaaGreatDoor

namespace Go.Proofs.YtpodakndckflgaaGreatDoor
open Go.RowKit Go.Shelf
set_option linter.unusedVariables false
set_option linter.unusedSimpArgs false
noncomputable def dg19 (s : R19) (e : E19) (v : Int) : D19 :=
  if s.nx = 1 then (false, (mg19 s v).1, (mg19 s v).2, e) else if s.nx = 2 then (false, (hn19 s v).1, (hn19 s v).2, e) else if s.nx = 3 then (false, 0, im19 s v, e) else if s.nx = 4 then hs19 s e else if s.nx = 5 then sz19 s e v else if s.nx = 6 then sm19 s e v else es19 s e
theorem dg19_1 {s : R19} (e : E19) (v : Int) (h : s.nx = 1) : dg19 s e v = (false, (mg19 s v).1, (mg19 s v).2, e) := by unfold dg19; rw [if_pos h]
theorem dg19_2 {s : R19} (e : E19) (v : Int) (h : s.nx = 2) : dg19 s e v = (false, (hn19 s v).1, (hn19 s v).2, e) := by unfold dg19; rw [if_neg (by omega), if_pos h]
theorem dg19_3 {s : R19} (e : E19) (v : Int) (h : s.nx = 3) : dg19 s e v = (false, 0, im19 s v, e) := by unfold dg19; rw [if_neg (by omega), if_neg (by omega), if_pos h]
theorem dg19_4 {s : R19} (e : E19) (v : Int) (h : s.nx = 4) : dg19 s e v = hs19 s e := by unfold dg19; rw [if_neg (by omega), if_neg (by omega), if_neg (by omega), if_pos h]
theorem dg19_5 {s : R19} (e : E19) (v : Int) (h : s.nx = 5) : dg19 s e v = sz19 s e v := by unfold dg19; rw [if_neg (by omega), if_neg (by omega), if_neg (by omega), if_neg (by omega), if_pos h]
theorem dg19_6 {s : R19} (e : E19) (v : Int) (h : s.nx = 6) : dg19 s e v = sm19 s e v := by unfold dg19; rw [if_neg (by omega), if_neg (by omega), if_neg (by omega), if_neg (by omega), if_neg (by omega), if_pos h]
theorem dg19_7 {s : R19} (e : E19) (v : Int) (h : s.nx = 7) : dg19 s e v = es19 s e := by unfold dg19; rw [if_neg (by omega), if_neg (by omega), if_neg (by omega), if_neg (by omega), if_neg (by omega), if_neg (by omega)]
/-- What is waited for, and how far it is there. -/
structure G19 (s : R19) : Prop where
  nx : 1 ≤ s.nx ∧ s.nx ≤ 8
  tk : Tk19 s
  t0 : s.nx ≠ 2 → s.nx ≠ 5 → s.tv = 0 ∧ s.tc = 0
  cn : 0 ≤ s.cn ∧ (s.nx = 1 → s.cn < 5) ∧ (s.nx = 2 → s.cn < 4) ∧ (s.nx = 3 → s.cn < 8) ∧ (s.nx = 4 → s.cn < 4) ∧ (s.nx = 5 → s.cn < 7) ∧ (s.nx = 6 → s.cn = 0) ∧ (s.nx = 7 → s.cn < 4) ∧ (s.nx = 8 → s.cn = 0)
  im : s.nx = 3 → (s.cn < 4 → 0 ≤ s.hd.so ∧ s.hd.so < 2 ^ (8 * s.cn.toNat)) ∧ (s.cn ≤ 4 → s.hd.sn = 0) ∧ (4 ≤ s.cn → 0 ≤ s.hd.sn ∧ s.hd.sn < 2 ^ (8 * (s.cn.toNat - 4)))
  ok : 5 ≤ s.nx → s.hd.Ok
  wn : 0 ≤ s.wn ∧ (s.nx ≤ 4 → s.wn = 0) ∧ (5 ≤ s.nx → s.wn ≤ win18 s.hd)
  st : s.nx = 6 → (op19 s.l0 s.l1 s.l2).2 = true
  lf : s.l0 ≤ 4611686018427387904 ∧ s.l1 ≤ 4611686018427387904 ∧ s.l2 ≤ 4611686018427387904
theorem tk00 {s : R19} (h : s.tv = 0 ∧ s.tc = 0) : Tk19 s := by
  unfold Tk19
  rw [h.1, h.2]
  decide
/-- Numbers: what is at hand behind a byte. -/
theorem nb19_tk {s : R19} {v m : Int} (hT : Tk19 s) (hv : 0 ≤ v ∧ v ≤ 255) : Tk19 (nb19 s v m).2.2 ∧ ((nb19 s v m).1 = true → (nb19 s v m).2.2.tv = 0 ∧ (nb19 s v m).2.2.tc = 0) := by
  have put0 : ∀ (r : R19) (k : Nat) (y : Int), (r.put k y).tv = r.tv ∧ (r.put k y).tc = r.tc := fun r k y => by unfold R19.put; split <;> exact ⟨rfl, rfl⟩
  unfold nb19
  split
  · exact ⟨tk00 ⟨rfl, rfl⟩, fun h => by cases h⟩
  · rename_i he
    have he : tkErr s.tc v = 0 := by simpa using he
    split
    · rename_i h7
      refine ⟨?_, fun h => by cases h⟩
      have b := tkVal_bd s.tv s.tc v hT.1 hT.2.1 hv.1
      exact ⟨b.1, b.2, by have := tk_more_le hT.2.2 he h7; show s.tc + 1 ≤ 9; omega⟩
    · have p := put0 ({ s with tv := 0, tc := 0 } : R19) s.cn.toNat (mx19 (tkVal s.tv s.tc v))
      exact ⟨tk00 ⟨p.1, p.2⟩, fun _ => ⟨p.1, p.2⟩⟩
/-- Numbers: all else stays. -/
theorem nb19_kp {s : R19} {v m : Int} (hm : 0 < m) (hc : 0 ≤ s.cn ∧ s.cn < m) : (nb19 s v m).2.2.nx = s.nx ∧ (nb19 s v m).2.2.hd = s.hd ∧ (nb19 s v m).2.2.wn = s.wn ∧ (nb19 s v m).2.2.l0 = s.l0 ∧ (nb19 s v m).2.2.l1 = s.l1 ∧ (nb19 s v m).2.2.l2 = s.l2 ∧ (nb19 s v m).2.2.tk = s.tk ∧ 0 ≤ (nb19 s v m).2.2.cn ∧ (nb19 s v m).2.2.cn < m ∧ ((nb19 s v m).1 = true → (nb19 s v m).2.2.cn = 0) := by
  have put0 : ∀ (r : R19) (k : Nat) (y : Int), (r.put k y).nx = r.nx ∧ (r.put k y).hd = r.hd ∧ (r.put k y).wn = r.wn ∧ (r.put k y).l0 = r.l0 ∧ (r.put k y).l1 = r.l1 ∧ (r.put k y).l2 = r.l2 ∧ (r.put k y).tk = r.tk := fun r k y => by unfold R19.put; split <;> exact ⟨rfl, rfl, rfl, rfl, rfl, rfl, rfl⟩
  unfold nb19
  split
  · exact ⟨rfl, rfl, rfl, rfl, rfl, rfl, rfl, hc.1, hc.2, fun h => by cases h⟩
  · split
    · exact ⟨rfl, rfl, rfl, rfl, rfl, rfl, rfl, hc.1, hc.2, fun h => by cases h⟩
    · have p := put0 ({ s with tv := 0, tc := 0 } : R19) s.cn.toNat (mx19 (tkVal s.tv s.tc v))
      exact ⟨p.1, p.2.1, p.2.2.1, p.2.2.2.1, p.2.2.2.2.1, p.2.2.2.2.2.1, p.2.2.2.2.2.2, Int.emod_nonneg _ (by omega), Int.emod_lt_of_pos _ hm, fun h => by simpa using h⟩
end Go.Proofs.YtpodakndckflgaaGreatDoor

namespace Go.Proofs.YtpodakndckflgaaGreatDoor
open Go.RowKit Go.Shelf
set_option linter.unusedVariables false
set_option linter.unusedSimpArgs false
theorem G19.am {s : R19} (h : G19 s) (v : Int) : G19 (am19 s v) := ⟨h.nx, h.tk, h.t0, h.cn, h.im, h.ok, h.wn, h.st, h.lf⟩
theorem g19_1 {s : R19} {v : Int} (h : G19 s) (hj : s.nx = 1) (he : (mg19 s v).1 = 0) : G19 (mg19 s v).2 ∧ (mg19 s v).2.tk = s.tk := by
  obtain ⟨h1, h2, h3, h4, h5, h6, h7, h8, h9⟩ := h
  have t := h3 (by omega) (by omega)
  have hc := h4.2.1 hj
  have hw := h7.2.1 (by omega)
  unfold mg19 at he ⊢
  split at he
  · rename_i hx
    rw [if_pos hx]
    by_cases hz : (s.cn + 1) % 5 = 0
    · simp only [hz, if_true]
      exact ⟨⟨⟨by (try dsimp only); omega, by (try dsimp only); omega⟩, tk00 t, fun _ _ => t, by refine ⟨?_, ?_, ?_, ?_, ?_, ?_, ?_, ?_, ?_⟩ <;> (try dsimp only) <;> omega, fun x => by (try dsimp only at x); omega, fun x => by (try dsimp only at x); omega, by refine ⟨?_, ?_, ?_⟩ <;> (try dsimp only) <;> omega, fun x => by (try dsimp only at x); omega, h9⟩, by first | rfl | trivial⟩
    · simp only [hz, if_false]
      exact ⟨⟨h1, tk00 t, fun _ _ => t, by refine ⟨?_, ?_, ?_, ?_, ?_, ?_, ?_, ?_, ?_⟩ <;> (try dsimp only) <;> omega, fun x => by (try dsimp only at x); omega, fun x => by (try dsimp only at x); omega, by refine ⟨?_, ?_, ?_⟩ <;> (try dsimp only) <;> omega, fun x => by (try dsimp only at x); omega, h9⟩, by first | rfl | trivial⟩
  · cases he
theorem g19_2 {s : R19} {v : Int} (h : G19 s) (hv : 0 ≤ v ∧ v ≤ 255) (hj : s.nx = 2) : G19 (hn19 s v).2 ∧ (hn19 s v).2.tk = s.tk := by
  obtain ⟨h1, h2, h3, h4, h5, h6, h7, h8, h9⟩ := h
  have hc := h4.2.2.1 hj
  have hw := h7.2.1 (by omega)
  have nt := nb19_tk (m := 4) h2 hv
  obtain ⟨k1, k2, k3, k4, k5, k6, k7, k8, k9, k10⟩ := nb19_kp (s := s) (v := v) (m := 4) (by decide) ⟨h4.1, hc⟩
  unfold hn19
  split
  · rename_i hx
    have t := nt.2 hx
    have c0 := k10 hx
    generalize (nb19 s v 4).2.2 = r at *
    exact ⟨⟨⟨by (try dsimp only); omega, by (try dsimp only); omega⟩, tk00 t, fun _ _ => t, by refine ⟨?_, ?_, ?_, ?_, ?_, ?_, ?_, ?_, ?_⟩ <;> (try dsimp only) <;> omega, fun _ => by
      dsimp only
      rw [c0]
      exact ⟨fun _ => by decide, fun _ => rfl, fun x => absurd x (by decide)⟩, fun x => by (try dsimp only at x); omega, by refine ⟨?_, ?_, ?_⟩ <;> (try dsimp only) <;> omega, fun x => by (try dsimp only at x); omega, by (try dsimp only); rw [k4, k5, k6]; exact h9⟩, k7⟩
  · generalize (nb19 s v 4).2.2 = r at *
    exact ⟨⟨by omega, nt.1, fun x => by omega, by refine ⟨?_, ?_, ?_, ?_, ?_, ?_, ?_, ?_, ?_⟩ <;> (try dsimp only) <;> omega, fun x => by (try dsimp only at x); omega, fun x => by (try dsimp only at x); omega, by refine ⟨?_, ?_, ?_⟩ <;> (try dsimp only) <;> omega, fun x => by (try dsimp only at x); omega, by (try dsimp only); rw [k4, k5, k6]; exact h9⟩, k7⟩
theorem g19_4 {s : R19} {e : E19} (h : G19 s) (hj : s.nx = 4) (he : (hs19 s e).2.1 = 0) : G19 (hs19 s e).2.2.1 ∧ (hs19 s e).2.2.1.tk = s.tk := by
  obtain ⟨h1, h2, h3, h4, h5, h6, h7, h8, h9⟩ := h
  have t := h3 (by omega) (by omega)
  have hc := h4.2.2.2.2.1 hj
  have hw := h7.2.1 (by omega)
  have hb := win18_bd s.hd
  have m0 : 0 ≤ (s.cn + 1) % 4 := Int.emod_nonneg _ (by decide)
  have m1 : (s.cn + 1) % 4 < 4 := Int.emod_lt_of_pos _ (by decide)
  unfold hs19 at he ⊢
  split
  · rename_i hx
    rw [if_pos hx] at he
    have c4 : (s.cn + 1) % 4 = 0 := by
      unfold wd19 at hx
      split at hx
      · assumption
      · cases hx
    split
    · rename_i hk
      have hg : go19 s = 7 ∨ go19 s = 5 := by unfold go19; split <;> simp
      rcases hg with hg | hg
      · rw [hg]
        exact ⟨⟨⟨by (try dsimp only); omega, by (try dsimp only); omega⟩, tk00 t, fun _ _ => t, by refine ⟨?_, ?_, ?_, ?_, ?_, ?_, ?_, ?_, ?_⟩ <;> (try dsimp only) <;> omega, fun x => by (try dsimp only at x); omega, fun _ => hk, by refine ⟨?_, ?_, ?_⟩ <;> (try dsimp only) <;> omega, fun x => by (try dsimp only at x); omega, h9⟩, by first | rfl | trivial⟩
      · rw [hg]
        exact ⟨⟨⟨by (try dsimp only); omega, by (try dsimp only); omega⟩, tk00 t, fun _ _ => t, by refine ⟨?_, ?_, ?_, ?_, ?_, ?_, ?_, ?_, ?_⟩ <;> (try dsimp only) <;> omega, fun x => by (try dsimp only at x); omega, fun _ => hk, by refine ⟨?_, ?_, ?_⟩ <;> (try dsimp only) <;> omega, fun x => by (try dsimp only at x); omega, h9⟩, by first | rfl | trivial⟩
    · rename_i hk
      rw [if_neg hk] at he
      cases he
  · exact ⟨⟨h1, tk00 t, fun _ _ => t, by refine ⟨?_, ?_, ?_, ?_, ?_, ?_, ?_, ?_, ?_⟩ <;> (try dsimp only) <;> omega, fun x => by (try dsimp only at x); omega, fun x => by (try dsimp only at x); omega, by refine ⟨?_, ?_, ?_⟩ <;> (try dsimp only) <;> omega, fun x => by (try dsimp only at x); omega, h9⟩, by first | rfl | trivial⟩
theorem g19_7 {s : R19} {e : E19} (h : G19 s) (hj : s.nx = 7) : G19 (es19 s e).2.2.1 ∧ (es19 s e).2.2.1.tk = s.tk := by
  obtain ⟨h1, h2, h3, h4, h5, h6, h7, h8, h9⟩ := h
  have t := h3 (by omega) (by omega)
  have hk := h6 (by omega)
  have hw := h7.2.2 (by omega)
  have m0 : 0 ≤ (s.cn + 1) % 4 := Int.emod_nonneg _ (by decide)
  have m1 : (s.cn + 1) % 4 < 4 := Int.emod_lt_of_pos _ (by decide)
  unfold es19
  split
  · rename_i hx
    have c4 : (s.cn + 1) % 4 = 0 := by
      unfold wd19 at hx
      split at hx
      · assumption
      · cases hx
    exact ⟨⟨⟨by (try dsimp only); omega, by (try dsimp only); omega⟩, tk00 t, fun _ _ => t, by refine ⟨?_, ?_, ?_, ?_, ?_, ?_, ?_, ?_, ?_⟩ <;> (try dsimp only) <;> omega, fun x => by (try dsimp only at x); omega, fun _ => hk, ⟨h7.1, fun x => by (try dsimp only at x); omega, fun _ => hw⟩, fun x => by (try dsimp only at x); omega, h9⟩, by first | rfl | trivial⟩
  · exact ⟨⟨h1, tk00 t, fun _ _ => t, by refine ⟨?_, ?_, ?_, ?_, ?_, ?_, ?_, ?_, ?_⟩ <;> (try dsimp only) <;> omega, fun x => by (try dsimp only at x); omega, fun _ => hk, ⟨h7.1, fun x => by (try dsimp only at x); omega, fun _ => hw⟩, fun x => by (try dsimp only at x); omega, h9⟩, by first | rfl | trivial⟩
end Go.Proofs.YtpodakndckflgaaGreatDoor
