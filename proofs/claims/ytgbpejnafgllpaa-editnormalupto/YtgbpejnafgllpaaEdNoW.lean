
import Derived.Test.YtgbpejnafgllpaaEd26
import Derived.Deep.RegionHeld3
namespace Go.Proofs.Ytgbpejnafgllpaa
open Go.RowKit Go.Shelf
set_option linter.unusedVariables false

/-! EditNormal. -/
theorem ap_same16 {z : List Int} {S : List St16} {D X : List Int} {s : Wt16} {m k : Nat} (hO : Or16 (og16 S D X S.length)) (hi : it16 S m k = 0) (hw : wr16 (og16 S D X S.length) = some s) : er16 z.length s.fin s.D.length s.X.length = er16 z.length S m k ∧ al16 z s.fin s.D s.X s.D.length s.X.length = al16 z S D X m k := by
  have h1 := er16_nm (z := z.length) hi hO.len hO.at_ hO.own rfl hw
  refine ⟨h1, ?_⟩
  unfold al16 ap16
  rw [h1, (wr16_fin hO.len hO.at_ hO.own hw).1]
set_option maxRecDepth 100000 in
set_option maxHeartbeats 8000000 in
theorem editNormal_walk (w : World) (za : Option Addr) (zl zc : Nat) (z : List Int) (hz : Seg w za z) (hzl : z.length = zl) (hzm : zl ≤ 1073741824) (sa : Option Addr) (n sc : Nat) (S : List St16) (da : Option Addr) (m dc : Nat) (D : List Int) (xa : Option Addr) (k xc : Nat) (X : List Int) (h : Ed16 w sa n S da m D xa k X) (hdc : m ≤ dc) (hxc : k ≤ xc) :
    Calls Try.prog 4 #[.slice za zl zc, ev16 sa n sc da m dc xa k xc] w fun e w' => e = .returned (.bool true) ∧ Below w.heap.size w w' := by
  obtain ⟨w1, hw1⟩ : ∃ w1, w1 = w.alloc (.cells #[.slice sa n sc, .slice da m dc, .slice xa k xc] 25) := ⟨_, rfl⟩
  have b1 : Below w.heap.size w w1 := by rw [hw1]; exact below_box16 _ _
  have q1 : w1.heap[w.heap.size]? = some (.cells #[.slice sa n sc, .slice da m dc, .slice xa k xc] 25 (0, 0)) := by rw [hw1]; exact heap_alloc_new w _
  obtain ⟨be, hbe⟩ : ∃ be, be = w.heap.size := ⟨_, rfl⟩
  rw [← hbe] at q1
  have CN := pnmE16 (sc := sc) (dc := dc) (xc := xc) (h.old b1) hdc hxc
  have HH : Hid (Ed16 w sa n S da m D xa k X) := h
  have HZ : Hid (Seg w za z) := hz
  have HBe : Hid (be = w.heap.size) := hbe
  have HW1 : Hid (w.alloc (.cells #[.slice sa n sc, .slice da m dc, .slice xa k xc] 25) = w1) := hw1.symm
  unfold ev16 at CN ⊢
  go_enter Try.func4, Try.ntmps4
  go_wp2_with fail
  rw [HW1.out, ← hbe]
  refine CN.mono ?_
  clear CN hw1 hbe
  rintro e2 w2 (⟨er, her, rfl, b2, _⟩ | ⟨s, pa, ca, pd, cd, px, cx, hi, hw, rfl, nf⟩)
  · have b02 : Below w.heap.size w w2 := b1.trans (b2.mono b1.size)
    obtain ⟨w3, hw3⟩ : ∃ w3, w3 = w2.alloc (.cells #[.slice none 0 0, .slice none 0 0, .slice none 0 0] 25) := ⟨_, rfl⟩
    have b3 : Below w2.heap.size w2 w3 := by rw [hw3]; exact below_box16 _ _
    have HW3 : Hid (w2.alloc (.cells #[.slice none 0 0, .slice none 0 0, .slice none 0 0] 25) = w3) := hw3.symm
    have b03 : Below w.heap.size w w3 := b02.trans (b3.mono b02.size)
    go_wp2_with fail
    rw [HW3.out]
    refine (pawk16 w3).mono ?_
    rintro e4 w4 ⟨rfl, b4⟩
    go_wp2_with fail
    go_ret
    exact ⟨by first | rfl | simp, b03.trans (b4.mono b03.size)⟩
  · have hO := or16 HH.out hi
    have HIT : Hid (it16 s.fin s.D.length s.X.length = 0) := wr16_it hO.len hO.at_ hO.own hw
    have HOG : Hid (og16 s.fin s.D s.X s.fin.length = og16 S D X S.length) := (wr16_fin hO.len hO.at_ hO.own hw).1
    have HSM : Hid (er16 z.length s.fin s.D.length s.X.length = er16 z.length S m k ∧ al16 z s.fin s.D s.X s.D.length s.X.length = al16 z S D X m k) := ap_same16 (z := z) hO hi hw
    have HFL : Hid (s.fin.length = (bn16 S S.length).n + (if (bn16 S S.length).an = true then 1 else 0) ∧ s.fin.length ≤ S.length) := fin_len16 hw
    have HOK : Hid (Ok16 S S.length) := (it16_zero hi).1
    have HWR : Hid (wr16 (og16 S D X S.length) = some s) := hw
    clear hw hi hO
    have b2 := nf.bl
    have b02 : Below w.heap.size w w2 := b1.trans (b2.mono b1.size)
    obtain ⟨w3, hw3⟩ : ∃ w3, w3 = w2.alloc (.cells #[.slice pa s.fin.length ca, .slice pd s.D.length cd, .slice px s.X.length cx] 25) := ⟨_, rfl⟩
    have cb3 := cb16 w2 #[.slice pa s.fin.length ca, .slice pd s.D.length cd, .slice px s.X.length cx] 25
    rw [← hw3] at cb3
    have HW3 : Hid (w2.alloc (.cells #[.slice pa s.fin.length ca, .slice pd s.D.length cd, .slice px s.X.length cx] 25) = w3) := hw3.symm
    have b03 : Below w.heap.size w w3 := b02.trans (cb3.bl.mono b02.size)
    have CN := pnmE16 (sc := ca) (dc := cd) (xc := cx) (nf.ed.old cb3.bl) nf.cd_ nf.cx_
    unfold ev16 at CN
    go_wp2_with fail
    rw [HW3.out]
    refine CN.mono ?_
    clear CN hw3
    rintro e4 w4 (⟨er, her, rfl, _, hbad⟩ | ⟨s', pa', ca', pd', cd', px', cx', hi', hw', rfl, nf'⟩)
    · exfalso
      rcases hbad with y | y
      · exact y HIT.out
      · rw [HOG.out, HWR.out] at y; cases y
    have es : s' = s := by rw [HOG.out, HWR.out] at hw'; exact (Option.some.inj hw').symm
    clear hi' hw'
    subst es
    have b4 := nf'.bl
    have b04 : Below w.heap.size w w4 := b03.trans (b4.mono b03.size)
    obtain ⟨w5, hw5⟩ : ∃ w5, w5 = w4.alloc (.cells #[.slice pa' s'.fin.length ca', .slice pd' s'.D.length cd', .slice px' s'.X.length cx'] 25) := ⟨_, rfl⟩
    have cb5 := cb16 w4 #[.slice pa' s'.fin.length ca', .slice pd' s'.D.length cd', .slice px' s'.X.length cx'] 25
    rw [← hw5] at cb5
    have HW5 : Hid (w4.alloc (.cells #[.slice pa' s'.fin.length ca', .slice pd' s'.D.length cd', .slice px' s'.X.length cx'] 25) = w5) := hw5.symm
    have b05 : Below w.heap.size w w5 := b04.trans (cb5.bl.mono b04.size)
    have b35 : Below w3.heap.size w3 w5 := b4.trans (cb5.bl.mono b4.size)
    have b15 : Below w1.heap.size w1 w5 := b2.trans ((cb3.bl.trans (b35.mono cb3.bl.size)).mono b2.size)
    have b14 : Below w1.heap.size w1 w4 := b2.trans ((cb3.bl.trans (b4.mono cb3.bl.size)).mono b2.size)
    have p1 := (b15.block be (Array.getElem?_eq_some_iff.1 q1).1).trans q1
    have p14 := (b14.block be (Array.getElem?_eq_some_iff.1 q1).1).trans q1
    have hbe4 : be < w4.heap.size := (Array.getElem?_eq_some_iff.1 p14).1
    have c0 := three_cell0 p14
    have c1 := three_cell1 p14
    have c2 := three_cell2 p14
    obtain ⟨b7, hb7⟩ : ∃ b7, b7 = w4.heap.size := ⟨_, rfl⟩
    obtain ⟨b5, hb5⟩ : ∃ b5, b5 = w2.heap.size := ⟨_, rfl⟩
    have HB7 : Hid (w4.heap.size = b7) := hb7.symm
    have HB5 : Hid (w2.heap.size = b5) := hb5.symm
    have p5 : w5.heap[b5]? = some (.cells #[.slice pa s'.fin.length ca, .slice pd s'.D.length cd, .slice px s'.X.length cx] 25 (0, 0)) := by rw [hb5]; exact (b35.block _ (by have := cb3.sz; omega)).trans cb3.cl
    have p7 : w5.heap[b7]? = some (.cells #[.slice pa' s'.fin.length ca', .slice pd' s'.D.length cd', .slice px' s'.X.length cx'] 25 (0, 0)) := by rw [hb7]; exact cb5.cl
    have CA := pappE16 (sc := sc) (dc := dc) (xc := xc) (zc := zc) (HH.out.old b05) (HZ.out.old b05) hzl hzm hdc hxc
    unfold ev16 at CA
    go_wp2_with fail
    rw [HW5.out, HB7.out, HB5.out]
    clear hw5 hb5 hb7 c0 c1 c2 hbe4 p14
    refine CA.mono ?_
    clear CA
    rintro e6 w6 ⟨ra, rc, rfl, sg6, b6⟩
    have p16 := (b6.block be (Array.getElem?_eq_some_iff.1 p1).1).trans p1
    have p56 := (b6.block b5 (Array.getElem?_eq_some_iff.1 p5).1).trans p5
    have p76 := (b6.block b7 (Array.getElem?_eq_some_iff.1 p7).1).trans p7
    have c0 := three_cell0 p56
    have c1 := three_cell1 p56
    have c2 := three_cell2 p56
    have b26 : Below w2.heap.size w2 w6 := cb3.bl.trans ((b35.trans (b6.mono b35.size)).mono cb3.bl.size)
    have b06 : Below w.heap.size w w6 := b05.trans (b6.mono b05.size)
    have e6 := nf.ed.old b26
    have CA := pappE16 (sc := ca) (dc := cd) (xc := cx) (zc := zc) e6 (HZ.out.old b06) hzl hzm nf.cd_ nf.cx_
    unfold ev16 at CA
    rw [← hzl, HSM.out.1, HSM.out.2, hzl] at CA
    go_wp2_with fail
    refine CA.mono ?_
    clear CA c0 c1 c2
    rintro e7 w7 ⟨ra', rc', rfl, sg7, b7'⟩
    go_wp2_with fail
    have b07 : Below w.heap.size w w7 := b06.trans (b7'.mono b06.size)
    have B0 : Below w7.heap.size w7 w7.drew := (Below.refl _ _).drew
    have p17 := (b7'.block be (Array.getElem?_eq_some_iff.1 p16).1).trans p16
    have p57 := (b7'.block b5 (Array.getElem?_eq_some_iff.1 p56).1).trans p56
    have p77 := (b7'.block b7 (Array.getElem?_eq_some_iff.1 p76).1).trans p76
    have HCL : Hid (∀ V, Below w7.heap.size w7 V → V.cell? ⟨be, 0, none⟩ = some (.slice sa n sc) ∧ V.cell? ⟨be, 1, none⟩ = some (.slice da m dc) ∧ V.cell? ⟨be, 2, none⟩ = some (.slice xa k xc) ∧ V.cell? ⟨b5, 0, none⟩ = some (.slice pa s'.fin.length ca) ∧ V.cell? ⟨b5, 1, none⟩ = some (.slice pd s'.D.length cd) ∧ V.cell? ⟨b5, 2, none⟩ = some (.slice px s'.X.length cx) ∧ V.cell? ⟨b7, 0, none⟩ = some (.slice pa' s'.fin.length ca') ∧ V.cell? ⟨b7, 1, none⟩ = some (.slice pd' s'.D.length cd') ∧ V.cell? ⟨b7, 2, none⟩ = some (.slice px' s'.X.length cx')) := fun V hV => by
      have r1 := (hV.block be (Array.getElem?_eq_some_iff.1 p17).1).trans p17
      have r5 := (hV.block b5 (Array.getElem?_eq_some_iff.1 p57).1).trans p57
      have r7 := (hV.block b7 (Array.getElem?_eq_some_iff.1 p77).1).trans p77
      exact ⟨three_cell0 r1, three_cell1 r1, three_cell2 r1, three_cell0 r5, three_cell1 r5, three_cell2 r5, three_cell0 r7, three_cell1 r7, three_cell2 r7⟩
    have b47 : Below w4.heap.size w4 w7 := cb5.bl.trans ((b6.trans (b7'.mono b6.size)).mono cb5.bl.size)
    have b27 : Below w2.heap.size w2 w7 := b26.trans (b7'.mono b26.size)
    have x7 := nf.ed.old b27
    have y7 := nf'.ed.old b47
    have g7 := sg6.old b7'
    have HAL : Hid (∀ V, Below w7.heap.size w7 V → Calls Try.prog 17 #[.agg #[.slice pa s'.fin.length ca, .slice pd s'.D.length cd, .slice px s'.X.length cx], .agg #[.slice pa' s'.fin.length ca', .slice pd' s'.D.length cd', .slice px' s'.X.length cx']] V fun e w' => e = .returned (.bool true) ∧ Below w7.heap.size w7 w') := fun V hV => (pali16 (x7.old hV) (y7.old hV)).mono (fun e w' q => ⟨q.1, hV.trans (q.2.mono hV.size)⟩)
    have HSA : Hid (∀ V, Below w7.heap.size w7 V → Calls Try.prog 18 #[.slice ra (al16 z S D X m k).length rc, .slice ra' (al16 z S D X m k).length rc'] V fun e w' => e = .returned (.bool true) ∧ Below w7.heap.size w7 w') := fun V hV => (psame16 ra ra' _ rc rc' _ V (g7.old hV) (sg7.old hV) rfl).mono (fun e w' q => ⟨q.1, by rw [q.2]; exact hV⟩)
    have hbv : bs16v S = (s'.fin.length : Int) := by
      unfold bs16v; rw [HFL.out.1]
      split <;> simp
    have HBN : Hid (∀ V, Below w7.heap.size w7 V → Calls Try.prog 19 #[.agg #[.slice sa n sc, .slice da m dc, .slice xa k xc]] V fun e w' => e = .returned (.int .i64 (s'.fin.length : Int)) ∧ Below w7.heap.size w7 w') := fun V hV => (pbnd16 (sc := sc) (dc := dc) (xc := xc) ((HH.out.old b07).old hV) HOK.out).mono (fun e w' q => ⟨by rw [q.1, hbv], hV.trans (q.2.mono hV.size)⟩)
    have HAW : Hid (∀ V, Below w7.heap.size w7 V → Calls Try.prog 15 #[] V fun e w' => e = .returned (.bool true) ∧ Below w7.heap.size w7 w') := fun V hV => (pawk16 V).mono (fun e w' q => ⟨q.1, hV.trans (q.2.mono hV.size)⟩)
    have hle : (s'.fin.length : Int) ≤ (n : Int) := by have := HFL.out.2; have := HH.out.hn; omega
    have hmx : max (n : Int) 0 = (n : Int) := by omega
    have HB07 : Hid (Below w.heap.size w w7) := b07
    generalize s'.fin.length = fl at *
    generalize s'.D.length = dl at *
    generalize s'.X.length = xl at *
    generalize (al16 z S D X m k).length = al at *
    generalize er16 zl S m k = er at *
    clear hbv x7 y7 g7 b47 b27 p17 p57 p77 p16 p56 p76 p1 p5 p7 q1 sg6 sg7 nf nf' e6 b26 b06 b05 b04 b03 b02 b14 b15 b35 cb3 cb5 b2 b4 b6 b7' b07 b1 HFL HOK HSM HOG HIT HWR HH HZ
    obtain ⟨k0, k1, k2, k3, k4, k5, k6, k7, k8⟩ := HCL.out w7 (Below.refl _ _)
    go_region_held3 (fun V => V.cell? ⟨be, 0, none⟩ = some (.slice sa n sc) ∧ V.cell? ⟨be, 1, none⟩ = some (.slice da m dc) ∧ V.cell? ⟨be, 2, none⟩ = some (.slice xa k xc) ∧ V.cell? ⟨b5, 0, none⟩ = some (.slice pa fl ca) ∧ V.cell? ⟨b5, 1, none⟩ = some (.slice pd dl cd) ∧ V.cell? ⟨b5, 2, none⟩ = some (.slice px xl cx) ∧ V.cell? ⟨b7, 0, none⟩ = some (.slice pa' fl ca') ∧ V.cell? ⟨b7, 1, none⟩ = some (.slice pd' dl cd') ∧ V.cell? ⟨b7, 2, none⟩ = some (.slice px' xl cx')) (first | exact HCL.out _ (by assumption) | go_keep)
      (first
        | (go_at_call 17; refine (HAL.out _ (by assumption)).mono ?_; rintro e9 w9 ⟨rfl, h9⟩)
        | (go_at_call 18; refine (HSA.out _ (by assumption)).mono ?_; rintro e9 w9 ⟨rfl, h9⟩)
        | (go_at_call 19; refine (HBN.out _ (by assumption)).mono ?_; rintro e9 w9 ⟨rfl, h9⟩)
        | (go_at_call 15; refine (HAW.out _ (by assumption)).mono ?_; rintro e9 w9 ⟨rfl, h9⟩))
    go_wp2_with fail
    go_ret
    have hfn : fl ≤ n := by omega
    exact ⟨by simp [hfn], HB07.out.trans (h9.mono HB07.out.size)⟩
end Go.Proofs.Ytgbpejnafgllpaa
