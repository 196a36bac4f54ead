import Derived.Test.YtmfpdchfofffeaaGreatDoorFq4
namespace Go.Proofs.YtmfpdchfofffeaaGreatDoor
open Go.RowKit Go.Shelf
set_option linter.unusedVariables false
/-- Where the i-th number stands; what it is. -/
def pl18 (z : List Int) (at_ : Nat) : Nat → Nat
  | 0 => at_
  | i + 1 => pl18 z at_ i + (decL 0 0 (z.drop (pl18 z at_ i))).2.1.toNat
def vl18 (z : List Int) (at_ : Nat) (i : Nat) : Int := (decL 0 0 (z.drop (pl18 z at_ i))).1
def lo18 : Nat → Int
  | 2 => 64
  | 3 => 1
  | _ => 0
def hi18 : Nat → Int
  | 2 => 65536
  | 3 => 32768
  | _ => 16777216
def Nj18 (z : List Int) (at_ : Nat) (i : Nat) : Prop := ∀ j, j < i → No18 z (pl18 z at_ j) (lo18 j) (hi18 j)
def hp18 (z : List Int) (at_ : Nat) (i : Nat) : Hd18 := ⟨if 0 < i then vl18 z at_ 0 else 0, if 1 < i then vl18 z at_ 1 else 0, 0, 0, if 2 < i then vl18 z at_ 2 else 0, if 3 < i then vl18 z at_ 3 else 0⟩
theorem decL_k18 {b : List Int} (hz : ∀ t ∈ b, 0 ≤ t ∧ t ≤ 255) (h : (decL 0 0 b).2.2 = 0) : (decL 0 0 b).2.1 = ((decL 0 0 b).2.1.toNat : Int) ∧ (decL 0 0 b).2.1.toNat ≤ b.length := by
  have key : ∀ (zs : List Int) (v : Int) (c : Nat), (decL v c zs).2.2 = 0 → ∃ k : Nat, (decL v c zs).2.1 = (c : Int) + k ∧ k ≤ zs.length := by
    intro zs
    induction zs with
    | nil => intro v c h; simp [decL] at h
    | cons x r ih =>
      intro v c h
      unfold decL at h ⊢
      by_cases h1 : tkErr c x ≠ 0
      · rw [if_pos h1] at h; exact absurd h h1
      · rw [if_neg h1] at h ⊢
        by_cases h2 : x < 128
        · rw [if_pos h2]; exact ⟨1, rfl, by simp⟩
        · rw [if_neg h2] at h ⊢
          obtain ⟨k, e1, e2⟩ := ih (tkVal v c x) (c + 1) h
          exact ⟨k + 1, by rw [e1]; omega, by simp; omega⟩
  obtain ⟨k, e1, e2⟩ := key b 0 0 h
  rw [e1]
  omega
theorem kp_drop18 {w w' : World} {br bo : Nat} (h : Kp (fun k => k = br ∨ k = bo) w w') (hb : w.heap.size ≤ bo) : Kp (fun k => k = br) w w' :=
  ⟨h.os, h.tape, h.output, h.size, fun k hk hn => h.block k hk (fun x => by rcases x with x | x; exact hn x; omega)⟩
def RdQ18 (w : World) (br : Nat) (za : Option Addr) (zc : Nat) (z : List Int) (at_ : Nat) (e : Ending) (w' : World) : Prop :=
  (Nj18 z at_ 4 ∧ e = .returned (.agg (hp18 z at_ 4).cs) ∧ Rq18 w' br za z.length zc (pl18 z at_ 4) ∧ pl18 z at_ 4 ≤ z.length ∧ Kp (fun k => k = br) w w') ∨ (¬ Nj18 z at_ 4 ∧ e = .panicked (pn18 182) ∧ Kp (fun k => k = br) w w')
/-- Between two numbers. -/
structure Rl18 (w : World) (br bo : Nat) (za : Option Addr) (zc : Nat) (z : List Int) (at_ i : Nat) (V : World) : Prop where
  nj : Nj18 z at_ i
  pl : pl18 z at_ i ≤ z.length
  ob : V.heap[bo]? = some (.cells (hp18 z at_ i).cs 51 (0, 0))
  rq : Rq18 V br za z.length zc (pl18 z at_ i)
  kp : Kp (fun k => k = br ∨ k = bo) w V
set_option maxRecDepth 100000 in
set_option maxHeartbeats 16000000 in
theorem prd18 (B br : Nat) (za : Option Addr) (zc : Nat) (z : List Int) (at_ : Nat) (w : World) (hF : Fl18 B w) (hFb : br < B) (h : Rq18 w br za z.length zc at_) (hz : Seg w za z) (hzb : ∀ x off, za = some ⟨x, off, none⟩ → 0 < z.length → x ≠ br) (hl : z.length ≤ 140737488355328) (hc : z.length ≤ zc) (hat : at_ ≤ z.length) :
    Calls Tryz.prog 103 #[.pointer (some ⟨br, 0, none⟩), .slice (some ⟨B + 8, 0, none⟩) 4 4] w (RdQ18 w br za zc z at_) := by
  have z0 : (hp18 z at_ 0).cs = #[.int .i64 0, .int .i64 0, .int .u32 0, .int .u32 0, .int .i64 0, .int .i64 0] := rfl
  obtain ⟨wA, b4, X⟩ := bx18 w ⟨0, 0, 0, 0, 0, 0⟩
  obtain ⟨wB, bo, Y⟩ := bx18 wA ⟨0, 0, 0, 0, 0, 0⟩
  have eA : w.alloc (.cells #[.int .i64 0, .int .i64 0, .int .u32 0, .int .u32 0, .int .i64 0, .int .i64 0] 51) = wA := X.wa
  have eB : wA.alloc (.cells #[.int .i64 0, .int .i64 0, .int .u32 0, .int .u32 0, .int .i64 0, .int .i64 0] 51) = wB := Y.wa
  have hb4 : w.heap.size = b4 := X.b
  have hbo : b4 + 1 = bo := by have := X.sz; have := Y.b; omega
  have hbl : Below w.heap.size w wB := X.bl.trans (Y.bl.mono X.bl.size)
  have HK0 : Hid (∀ V, Kp (fun k => k = br ∨ k = bo) wB V → Kp (fun k => k = br) w V) := fun V hV => kp_drop18 ((Kp.of_below hbl).trans hV (fun _ _ x => x)) (by omega)
  have hbrw : br < w.heap.size := (Array.getElem?_eq_some_iff.1 h).1
  have hFBw : B + 8 < w.heap.size := (Array.getElem?_eq_some_iff.1 hF.fl).1
  have HR0 : Hid (Rl18 wB br bo za zc z at_ 0 wB) := ⟨fun j hj => by omega, hat, Y.q, (hbl.block _ hbrw).trans h, ⟨rfl, rfl, rfl, Nat.le_refl _, fun _ _ _ => rfl⟩⟩
  have HFK : Hid (∀ V, Kp (fun k => k = br ∨ k = bo) wB V → Fl18 B V) := fun V hV => by
    have f := hF.old hbl
    exact ⟨hV.heap f.fl (fun x => by rcases x with x | x <;> omega), fun k hk => hV.heap (f.bx k hk) (fun x => by rcases x with x | x <;> omega)⟩
  have HSG : Hid (∀ V, Kp (fun k => k = br ∨ k = bo) wB V → Seg V za z) := fun V hV => (hz.old hbl).kp hV (fun x off e hp y => by
    rcases y with y | y
    · exact hzb x off e hp y
    · have := hz.lt x off e hp; omega)
  have hq4 : wB.heap[b4]? = some (.cells #[.int .i64 0, .int .i64 0, .int .u32 0, .int .u32 0, .int .i64 0, .int .i64 0] 51 (0, 0)) := (Y.bl.block _ (Array.getElem?_eq_some_iff.1 X.q).1).trans X.q
  have H4 : Hid (∀ V, Kp (fun k => k = br ∨ k = bo) wB V → V.heap[b4]? = some (.cells #[.int .i64 0, .int .i64 0, .int .u32 0, .int .u32 0, .int .i64 0, .int .i64 0] 51 (0, 0))) := fun V hV => hV.heap hq4 (fun x => by rcases x with x | x <;> omega)
  have HNB : Hid (br ≠ bo ∧ b4 ≠ bo ∧ b4 ≠ br) := ⟨by omega, by omega, by omega⟩
  have HL : Hid (z.length ≤ 140737488355328 ∧ z.length ≤ zc) := ⟨hl, hc⟩
  have HWA : Hid (w.alloc (.cells #[.int .i64 0, .int .i64 0, .int .u32 0, .int .u32 0, .int .i64 0, .int .i64 0] 51) = wA) := eA
  have HWB : Hid (wA.alloc (.cells #[.int .i64 0, .int .i64 0, .int .u32 0, .int .u32 0, .int .i64 0, .int .i64 0] 51) = wB) := eB
  have HB4 : Hid (w.heap.size = b4 ∧ b4 + 1 = bo) := ⟨hb4, hbo⟩
  clear X Y eA eB hb4 hbo hbl hbrw hFBw hF hFb h hz hzb hl hc hat hq4 z0
  go_enter Tryz.func103, Tryz.ntmps103
  go_wp2_with fail
  rw [HWA.out, HWB.out, HB4.out.1, HB4.out.2]
  go_loopw [12] (fun t12 V => ∃ i : Nat, i ≤ 4 ∧ t12 = .int .i64 (i : Int) ∧ Rl18 wB br bo za zc z at_ i V) (fun t12 _ => 4 - (intOf t12).toNat)
  case atStart => exact ⟨0, by omega, rfl, HR0.out⟩
  case round =>
    obtain ⟨i, hi4, rfl, hR⟩ := hrel
    have HR : Hid (Rl18 wB br bo za zc z at_ i wr) := hR
    have hFl := HFK.out wr hR.kp
    clear hR HR0
    rcases (by omega : i = 0 ∨ i = 1 ∨ i = 2 ∨ i = 3 ∨ i = 4) with rfl | rfl | rfl | rfl | rfl
    · have f0 : wr.cell? ⟨B + 8, 0, none⟩ = some (.func (.func 126) #[] #[]) := cell18 hFl.fl rfl
      have f1 : wr.cell? ⟨B + 8, 1, none⟩ = some (.func (.func 167) #[] #[.pointer (some ⟨B, 0, none⟩), .pointer (some ⟨B + 1, 0, none⟩)]) := cell18 hFl.fl rfl
      obtain ⟨wC, hwC⟩ : ∃ wC, wC = wr.alloc (.cells #[.func (.func 126) #[] #[], .func (.func 167) #[] #[.pointer (some ⟨B, 0, none⟩), .pointer (some ⟨B + 1, 0, none⟩)]] 202) := ⟨_, rfl⟩
      have cB := cb16 wr #[.func (.func 126) #[] #[], .func (.func 167) #[] #[.pointer (some ⟨B, 0, none⟩), .pointer (some ⟨B + 1, 0, none⟩)]] 202
      rw [← hwC] at cB
      obtain ⟨bs, hbs⟩ : ∃ bs, bs = wr.heap.size := ⟨_, rfl⟩
      have HKC : Hid (∀ V, Below wC.heap.size wC V → Kp (fun k => k = br ∨ k = bo) wB V) := fun V hV => (HR.out.kp.trans (Kp.of_below cB.bl) (fun _ _ x => x)).trans (Kp.of_below hV) (fun _ _ x => x)
      have HCB : Hid (∀ V, Below wC.heap.size wC V → V.cell? ⟨bs, 0, none⟩ = some (.func (.func 126) #[] #[]) ∧ V.cell? ⟨bs, 1, none⟩ = some (.func (.func 167) #[] #[.pointer (some ⟨B, 0, none⟩), .pointer (some ⟨B + 1, 0, none⟩)])) := fun V hV => by
        have q0 := cB.cl
        rw [← hbs] at q0
        have q := (hV.block bs (by have := cB.sz; omega)).trans q0
        exact ⟨cell18 q rfl, cell18 q rfl⟩
      have HOB : Hid (∀ V, Below wC.heap.size wC V → V.heap[bo]? = some (.cells (hp18 z at_ 0).cs 51 (0, 0)) ∧ Rq18 V br za z.length zc (pl18 z at_ 0)) := fun V hV => by
        have b2 := cB.bl.trans (hV.mono cB.bl.size)
        exact ⟨(b2.block _ (Array.getElem?_eq_some_iff.1 HR.out.ob).1).trans HR.out.ob, (b2.block _ (Array.getElem?_eq_some_iff.1 HR.out.rq).1).trans HR.out.rq⟩
      have hFB := HFK.out wC (HKC.out wC (Below.refl _ _))
      have CB := pbt18 (B) (B + 1) (.pointer (some ⟨bo, 0, none⟩)) 0 16777216 wC (hFB.bx 0 (by omega)) (hFB.bx 1 (by omega))
      have HWC : Hid (wr.alloc (.cells #[.func (.func 126) #[] #[], .func (.func 167) #[] #[.pointer (some ⟨B, 0, none⟩), .pointer (some ⟨B + 1, 0, none⟩)]] 202) = wC) := hwC.symm
      have HBS : Hid (wr.heap.size = bs) := hbs.symm
      clear hwC cB hbs hFl hFB
      go_wp2_with fail
      rw [HWC.out, HBS.out]
      refine CB.mono ?_
      rintro e1 w1 ⟨rfl, b1⟩
      have HB1 : Hid (Below wC.heap.size wC w1) := b1
      obtain ⟨g0, g1⟩ := HCB.out w1 b1
      obtain ⟨qo, qr⟩ := HOB.out w1 b1
      have CA := phf18_1 bo w1 ⟨_, cell18 (k := 0) qo rfl⟩
      have HQO : Hid (w1.heap[bo]? = some (.cells (hp18 z at_ 0).cs 51 (0, 0))) := qo
      by_cases hno : No18 z (pl18 z at_ 0) 0 16777216
      · have hk := decL_k18 (b := z.drop (pl18 z at_ 0)) (fun t ht => (HSG.out w1 (HKC.out w1 HB1.out)).mem t (List.mem_of_mem_drop ht)) hno.1
        have hkl : pl18 z at_ 1 ≤ z.length := by
          have h2 : (decL 0 0 (z.drop (pl18 z at_ 0))).2.1.toNat ≤ z.length - pl18 z at_ 0 := Nat.le_trans hk.2 (Nat.le_of_eq List.length_drop)
          have h4 : pl18 z at_ 1 = pl18 z at_ 0 + (decL 0 0 (z.drop (pl18 z at_ 0))).2.1.toNat := rfl
          have h5 := HR.out.pl
          rw [h4]
          generalize (decL 0 0 (z.drop (pl18 z at_ 0))).2.1.toNat = kk at *
          generalize pl18 z at_ 0 = pp at *
          omega
        have NB := pnb18 br za zc z (pl18 z at_ 0) 0 16777216 _ w1 qr (HSG.out w1 (HKC.out w1 HB1.out)) HL.out.1 HL.out.2 HR.out.pl (by omega) (by omega) hno hk.1 hkl
        have NB : Hid (Calls Tryz.prog 145 #[.pointer (some ⟨br, 0, none⟩), .int .i64 0, .int .i64 16777216] w1 fun e w' => e = .returned (.int .i64 (vl18 z at_ 0)) ∧ Rq18 w' br za z.length zc (pl18 z at_ 1) ∧ Kp (fun x => x = br) w1 w') := NB
        have HNJ : Hid (Nj18 z at_ 1) := fun j hj => by
          by_cases hji : j < 0
          · exact HR.out.nj j hji
          · have : j = 0 := by omega
            subst this
            exact hno
        have HPL : Hid (pl18 z at_ 1 ≤ z.length) := hkl
        clear b1 CB f0 f1 qo qr hno hk hkl
        go_wp2_with fail
        refine CA.mono ?_
        rintro e2 w2 ⟨rfl, hw2⟩
        subst w2
        go_wp2_with fail
        refine NB.out.mono ?_
        rintro e3 w3 ⟨rfl, q3, k3⟩
        have qo3 := k3.heap HQO.out (fun x => HNB.out.1 x.symm)
        have c3 : ∃ u, w3.cell? ⟨bo, 0, none⟩ = some u := ⟨_, cell18 qo3 rfl⟩
        obtain ⟨u3, c3⟩ := c3
        have f3 : w3.frozen? ⟨bo, 0, none⟩ = false := by simp [World.frozen?, qo3]
        have kS : Kp (fun k => k = bo) w3 (w3.setCell ⟨bo, 0, none⟩ (.int .i64 (vl18 z at_ 0))) := Kp.set (S := fun k => k = bo) rfl _
        have HN : Hid (Rl18 wB br bo za zc z at_ 1 (w3.setCell ⟨bo, 0, none⟩ (.int .i64 (vl18 z at_ 0)))) := by
          refine ⟨HNJ.out, HPL.out, ?_, kS.heap q3 (fun x => HNB.out.1 x), ((HKC.out w1 HB1.out).trans ⟨k3.os, k3.tape, k3.output, k3.size, fun k hk hn => k3.block k hk (fun x => hn (.inl x))⟩ (fun _ _ x => x)).trans ⟨kS.os, kS.tape, kS.output, kS.size, fun k hk hn => kS.block k hk (fun x => hn (.inr x))⟩ (fun _ _ x => x)⟩
          have hh : (w3.setCell ⟨bo, 0, none⟩ (.int .i64 (vl18 z at_ 0))).heap[bo]? = some (.cells ((hp18 z at_ 0).cs.setIfInBounds 0 (.int .i64 (vl18 z at_ 0))) 51 (0, 0)) := by
            simp [World.setCell, Array.getElem?_modify, qo3]
          exact hh
        clear q3 k3 qo3 kS NB CA
        generalize vl18 z at_ 0 = vv at *
        go_wp2_with fail
        go_roundw
        case rel => exact ⟨1, by omega, rfl, HN.out⟩
        case measure => simp [intOf]
      · have NB := pnb18_no br za zc z (pl18 z at_ 0) 0 16777216 w1 qr (HSG.out w1 (HKC.out w1 HB1.out)) HL.out.1 HL.out.2 HR.out.pl (by omega) (by omega) hno
        have HNO : Hid (¬ Nj18 z at_ 4) := fun x => hno (x 0 (by omega))
        clear b1 CB f0 f1 qo qr hno
        go_wp2_with fail
        refine CA.mono ?_
        rintro e2 w2 ⟨rfl, hw2⟩
        subst w2
        go_wp2_with fail
        refine NB.mono ?_
        rintro e3 w3 ⟨rfl, b3⟩
        exact ⟨rfl, .inr ⟨HNO.out, rfl, HK0.out w3 (HKC.out w3 (HB1.out.trans (b3.mono HB1.out.size)))⟩⟩
    · have f0 : wr.cell? ⟨B + 8, 2, none⟩ = some (.func (.func 128) #[] #[]) := cell18 hFl.fl rfl
      have f1 : wr.cell? ⟨B + 8, 3, none⟩ = some (.func (.func 167) #[] #[.pointer (some ⟨B + 2, 0, none⟩), .pointer (some ⟨B + 3, 0, none⟩)]) := cell18 hFl.fl rfl
      obtain ⟨wC, hwC⟩ : ∃ wC, wC = wr.alloc (.cells #[.func (.func 128) #[] #[], .func (.func 167) #[] #[.pointer (some ⟨B + 2, 0, none⟩), .pointer (some ⟨B + 3, 0, none⟩)]] 202) := ⟨_, rfl⟩
      have cB := cb16 wr #[.func (.func 128) #[] #[], .func (.func 167) #[] #[.pointer (some ⟨B + 2, 0, none⟩), .pointer (some ⟨B + 3, 0, none⟩)]] 202
      rw [← hwC] at cB
      obtain ⟨bs, hbs⟩ : ∃ bs, bs = wr.heap.size := ⟨_, rfl⟩
      have HKC : Hid (∀ V, Below wC.heap.size wC V → Kp (fun k => k = br ∨ k = bo) wB V) := fun V hV => (HR.out.kp.trans (Kp.of_below cB.bl) (fun _ _ x => x)).trans (Kp.of_below hV) (fun _ _ x => x)
      have HCB : Hid (∀ V, Below wC.heap.size wC V → V.cell? ⟨bs, 0, none⟩ = some (.func (.func 128) #[] #[]) ∧ V.cell? ⟨bs, 1, none⟩ = some (.func (.func 167) #[] #[.pointer (some ⟨B + 2, 0, none⟩), .pointer (some ⟨B + 3, 0, none⟩)])) := fun V hV => by
        have q0 := cB.cl
        rw [← hbs] at q0
        have q := (hV.block bs (by have := cB.sz; omega)).trans q0
        exact ⟨cell18 q rfl, cell18 q rfl⟩
      have HOB : Hid (∀ V, Below wC.heap.size wC V → V.heap[bo]? = some (.cells (hp18 z at_ 1).cs 51 (0, 0)) ∧ Rq18 V br za z.length zc (pl18 z at_ 1)) := fun V hV => by
        have b2 := cB.bl.trans (hV.mono cB.bl.size)
        exact ⟨(b2.block _ (Array.getElem?_eq_some_iff.1 HR.out.ob).1).trans HR.out.ob, (b2.block _ (Array.getElem?_eq_some_iff.1 HR.out.rq).1).trans HR.out.rq⟩
      have hFB := HFK.out wC (HKC.out wC (Below.refl _ _))
      have CB := pbt18 (B + 2) (B + 3) (.pointer (some ⟨bo, 0, none⟩)) 0 16777216 wC (hFB.bx 2 (by omega)) (hFB.bx 3 (by omega))
      have HWC : Hid (wr.alloc (.cells #[.func (.func 128) #[] #[], .func (.func 167) #[] #[.pointer (some ⟨B + 2, 0, none⟩), .pointer (some ⟨B + 3, 0, none⟩)]] 202) = wC) := hwC.symm
      have HBS : Hid (wr.heap.size = bs) := hbs.symm
      clear hwC cB hbs hFl hFB
      go_wp2_with fail
      rw [HWC.out, HBS.out]
      refine CB.mono ?_
      rintro e1 w1 ⟨rfl, b1⟩
      have HB1 : Hid (Below wC.heap.size wC w1) := b1
      obtain ⟨g0, g1⟩ := HCB.out w1 b1
      obtain ⟨qo, qr⟩ := HOB.out w1 b1
      have CA := phf18_2 bo w1 ⟨_, cell18 (k := 0) qo rfl⟩
      have HQO : Hid (w1.heap[bo]? = some (.cells (hp18 z at_ 1).cs 51 (0, 0))) := qo
      by_cases hno : No18 z (pl18 z at_ 1) 0 16777216
      · have hk := decL_k18 (b := z.drop (pl18 z at_ 1)) (fun t ht => (HSG.out w1 (HKC.out w1 HB1.out)).mem t (List.mem_of_mem_drop ht)) hno.1
        have hkl : pl18 z at_ 2 ≤ z.length := by
          have h2 : (decL 0 0 (z.drop (pl18 z at_ 1))).2.1.toNat ≤ z.length - pl18 z at_ 1 := Nat.le_trans hk.2 (Nat.le_of_eq List.length_drop)
          have h4 : pl18 z at_ 2 = pl18 z at_ 1 + (decL 0 0 (z.drop (pl18 z at_ 1))).2.1.toNat := rfl
          have h5 := HR.out.pl
          rw [h4]
          generalize (decL 0 0 (z.drop (pl18 z at_ 1))).2.1.toNat = kk at *
          generalize pl18 z at_ 1 = pp at *
          omega
        have NB := pnb18 br za zc z (pl18 z at_ 1) 0 16777216 _ w1 qr (HSG.out w1 (HKC.out w1 HB1.out)) HL.out.1 HL.out.2 HR.out.pl (by omega) (by omega) hno hk.1 hkl
        have NB : Hid (Calls Tryz.prog 145 #[.pointer (some ⟨br, 0, none⟩), .int .i64 0, .int .i64 16777216] w1 fun e w' => e = .returned (.int .i64 (vl18 z at_ 1)) ∧ Rq18 w' br za z.length zc (pl18 z at_ 2) ∧ Kp (fun x => x = br) w1 w') := NB
        have HNJ : Hid (Nj18 z at_ 2) := fun j hj => by
          by_cases hji : j < 1
          · exact HR.out.nj j hji
          · have : j = 1 := by omega
            subst this
            exact hno
        have HPL : Hid (pl18 z at_ 2 ≤ z.length) := hkl
        clear b1 CB f0 f1 qo qr hno hk hkl
        go_wp2_with fail
        refine CA.mono ?_
        rintro e2 w2 ⟨rfl, hw2⟩
        subst w2
        go_wp2_with fail
        refine NB.out.mono ?_
        rintro e3 w3 ⟨rfl, q3, k3⟩
        have qo3 := k3.heap HQO.out (fun x => HNB.out.1 x.symm)
        have c3 : ∃ u, w3.cell? ⟨bo, 1, none⟩ = some u := ⟨_, cell18 qo3 rfl⟩
        obtain ⟨u3, c3⟩ := c3
        have f3 : w3.frozen? ⟨bo, 1, none⟩ = false := by simp [World.frozen?, qo3]
        have kS : Kp (fun k => k = bo) w3 (w3.setCell ⟨bo, 1, none⟩ (.int .i64 (vl18 z at_ 1))) := Kp.set (S := fun k => k = bo) rfl _
        have HN : Hid (Rl18 wB br bo za zc z at_ 2 (w3.setCell ⟨bo, 1, none⟩ (.int .i64 (vl18 z at_ 1)))) := by
          refine ⟨HNJ.out, HPL.out, ?_, kS.heap q3 (fun x => HNB.out.1 x), ((HKC.out w1 HB1.out).trans ⟨k3.os, k3.tape, k3.output, k3.size, fun k hk hn => k3.block k hk (fun x => hn (.inl x))⟩ (fun _ _ x => x)).trans ⟨kS.os, kS.tape, kS.output, kS.size, fun k hk hn => kS.block k hk (fun x => hn (.inr x))⟩ (fun _ _ x => x)⟩
          have hh : (w3.setCell ⟨bo, 1, none⟩ (.int .i64 (vl18 z at_ 1))).heap[bo]? = some (.cells ((hp18 z at_ 1).cs.setIfInBounds 1 (.int .i64 (vl18 z at_ 1))) 51 (0, 0)) := by
            simp [World.setCell, Array.getElem?_modify, qo3]
          exact hh
        clear q3 k3 qo3 kS NB CA
        generalize vl18 z at_ 1 = vv at *
        go_wp2_with fail
        go_roundw
        case rel => exact ⟨2, by omega, rfl, HN.out⟩
        case measure => simp [intOf]
      · have NB := pnb18_no br za zc z (pl18 z at_ 1) 0 16777216 w1 qr (HSG.out w1 (HKC.out w1 HB1.out)) HL.out.1 HL.out.2 HR.out.pl (by omega) (by omega) hno
        have HNO : Hid (¬ Nj18 z at_ 4) := fun x => hno (x 1 (by omega))
        clear b1 CB f0 f1 qo qr hno
        go_wp2_with fail
        refine CA.mono ?_
        rintro e2 w2 ⟨rfl, hw2⟩
        subst w2
        go_wp2_with fail
        refine NB.mono ?_
        rintro e3 w3 ⟨rfl, b3⟩
        exact ⟨rfl, .inr ⟨HNO.out, rfl, HK0.out w3 (HKC.out w3 (HB1.out.trans (b3.mono HB1.out.size)))⟩⟩
    · have f0 : wr.cell? ⟨B + 8, 4, none⟩ = some (.func (.func 129) #[] #[]) := cell18 hFl.fl rfl
      have f1 : wr.cell? ⟨B + 8, 5, none⟩ = some (.func (.func 167) #[] #[.pointer (some ⟨B + 4, 0, none⟩), .pointer (some ⟨B + 5, 0, none⟩)]) := cell18 hFl.fl rfl
      obtain ⟨wC, hwC⟩ : ∃ wC, wC = wr.alloc (.cells #[.func (.func 129) #[] #[], .func (.func 167) #[] #[.pointer (some ⟨B + 4, 0, none⟩), .pointer (some ⟨B + 5, 0, none⟩)]] 202) := ⟨_, rfl⟩
      have cB := cb16 wr #[.func (.func 129) #[] #[], .func (.func 167) #[] #[.pointer (some ⟨B + 4, 0, none⟩), .pointer (some ⟨B + 5, 0, none⟩)]] 202
      rw [← hwC] at cB
      obtain ⟨bs, hbs⟩ : ∃ bs, bs = wr.heap.size := ⟨_, rfl⟩
      have HKC : Hid (∀ V, Below wC.heap.size wC V → Kp (fun k => k = br ∨ k = bo) wB V) := fun V hV => (HR.out.kp.trans (Kp.of_below cB.bl) (fun _ _ x => x)).trans (Kp.of_below hV) (fun _ _ x => x)
      have HCB : Hid (∀ V, Below wC.heap.size wC V → V.cell? ⟨bs, 0, none⟩ = some (.func (.func 129) #[] #[]) ∧ V.cell? ⟨bs, 1, none⟩ = some (.func (.func 167) #[] #[.pointer (some ⟨B + 4, 0, none⟩), .pointer (some ⟨B + 5, 0, none⟩)])) := fun V hV => by
        have q0 := cB.cl
        rw [← hbs] at q0
        have q := (hV.block bs (by have := cB.sz; omega)).trans q0
        exact ⟨cell18 q rfl, cell18 q rfl⟩
      have HOB : Hid (∀ V, Below wC.heap.size wC V → V.heap[bo]? = some (.cells (hp18 z at_ 2).cs 51 (0, 0)) ∧ Rq18 V br za z.length zc (pl18 z at_ 2)) := fun V hV => by
        have b2 := cB.bl.trans (hV.mono cB.bl.size)
        exact ⟨(b2.block _ (Array.getElem?_eq_some_iff.1 HR.out.ob).1).trans HR.out.ob, (b2.block _ (Array.getElem?_eq_some_iff.1 HR.out.rq).1).trans HR.out.rq⟩
      have hFB := HFK.out wC (HKC.out wC (Below.refl _ _))
      have CB := pbt18 (B + 4) (B + 5) (.pointer (some ⟨bo, 0, none⟩)) 64 65536 wC (hFB.bx 4 (by omega)) (hFB.bx 5 (by omega))
      have HWC : Hid (wr.alloc (.cells #[.func (.func 129) #[] #[], .func (.func 167) #[] #[.pointer (some ⟨B + 4, 0, none⟩), .pointer (some ⟨B + 5, 0, none⟩)]] 202) = wC) := hwC.symm
      have HBS : Hid (wr.heap.size = bs) := hbs.symm
      clear hwC cB hbs hFl hFB
      go_wp2_with fail
      rw [HWC.out, HBS.out]
      refine CB.mono ?_
      rintro e1 w1 ⟨rfl, b1⟩
      have HB1 : Hid (Below wC.heap.size wC w1) := b1
      obtain ⟨g0, g1⟩ := HCB.out w1 b1
      obtain ⟨qo, qr⟩ := HOB.out w1 b1
      have CA := phf18_3 bo w1 ⟨_, cell18 (k := 0) qo rfl⟩
      have HQO : Hid (w1.heap[bo]? = some (.cells (hp18 z at_ 2).cs 51 (0, 0))) := qo
      by_cases hno : No18 z (pl18 z at_ 2) 64 65536
      · have hk := decL_k18 (b := z.drop (pl18 z at_ 2)) (fun t ht => (HSG.out w1 (HKC.out w1 HB1.out)).mem t (List.mem_of_mem_drop ht)) hno.1
        have hkl : pl18 z at_ 3 ≤ z.length := by
          have h2 : (decL 0 0 (z.drop (pl18 z at_ 2))).2.1.toNat ≤ z.length - pl18 z at_ 2 := Nat.le_trans hk.2 (Nat.le_of_eq List.length_drop)
          have h4 : pl18 z at_ 3 = pl18 z at_ 2 + (decL 0 0 (z.drop (pl18 z at_ 2))).2.1.toNat := rfl
          have h5 := HR.out.pl
          rw [h4]
          generalize (decL 0 0 (z.drop (pl18 z at_ 2))).2.1.toNat = kk at *
          generalize pl18 z at_ 2 = pp at *
          omega
        have NB := pnb18 br za zc z (pl18 z at_ 2) 64 65536 _ w1 qr (HSG.out w1 (HKC.out w1 HB1.out)) HL.out.1 HL.out.2 HR.out.pl (by omega) (by omega) hno hk.1 hkl
        have NB : Hid (Calls Tryz.prog 145 #[.pointer (some ⟨br, 0, none⟩), .int .i64 64, .int .i64 65536] w1 fun e w' => e = .returned (.int .i64 (vl18 z at_ 2)) ∧ Rq18 w' br za z.length zc (pl18 z at_ 3) ∧ Kp (fun x => x = br) w1 w') := NB
        have HNJ : Hid (Nj18 z at_ 3) := fun j hj => by
          by_cases hji : j < 2
          · exact HR.out.nj j hji
          · have : j = 2 := by omega
            subst this
            exact hno
        have HPL : Hid (pl18 z at_ 3 ≤ z.length) := hkl
        clear b1 CB f0 f1 qo qr hno hk hkl
        go_wp2_with fail
        refine CA.mono ?_
        rintro e2 w2 ⟨rfl, hw2⟩
        subst w2
        go_wp2_with fail
        refine NB.out.mono ?_
        rintro e3 w3 ⟨rfl, q3, k3⟩
        have qo3 := k3.heap HQO.out (fun x => HNB.out.1 x.symm)
        have c3 : ∃ u, w3.cell? ⟨bo, 4, none⟩ = some u := ⟨_, cell18 qo3 rfl⟩
        obtain ⟨u3, c3⟩ := c3
        have f3 : w3.frozen? ⟨bo, 4, none⟩ = false := by simp [World.frozen?, qo3]
        have kS : Kp (fun k => k = bo) w3 (w3.setCell ⟨bo, 4, none⟩ (.int .i64 (vl18 z at_ 2))) := Kp.set (S := fun k => k = bo) rfl _
        have HN : Hid (Rl18 wB br bo za zc z at_ 3 (w3.setCell ⟨bo, 4, none⟩ (.int .i64 (vl18 z at_ 2)))) := by
          refine ⟨HNJ.out, HPL.out, ?_, kS.heap q3 (fun x => HNB.out.1 x), ((HKC.out w1 HB1.out).trans ⟨k3.os, k3.tape, k3.output, k3.size, fun k hk hn => k3.block k hk (fun x => hn (.inl x))⟩ (fun _ _ x => x)).trans ⟨kS.os, kS.tape, kS.output, kS.size, fun k hk hn => kS.block k hk (fun x => hn (.inr x))⟩ (fun _ _ x => x)⟩
          have hh : (w3.setCell ⟨bo, 4, none⟩ (.int .i64 (vl18 z at_ 2))).heap[bo]? = some (.cells ((hp18 z at_ 2).cs.setIfInBounds 4 (.int .i64 (vl18 z at_ 2))) 51 (0, 0)) := by
            simp [World.setCell, Array.getElem?_modify, qo3]
          exact hh
        clear q3 k3 qo3 kS NB CA
        generalize vl18 z at_ 2 = vv at *
        go_wp2_with fail
        go_roundw
        case rel => exact ⟨3, by omega, rfl, HN.out⟩
        case measure => simp [intOf]
      · have NB := pnb18_no br za zc z (pl18 z at_ 2) 64 65536 w1 qr (HSG.out w1 (HKC.out w1 HB1.out)) HL.out.1 HL.out.2 HR.out.pl (by omega) (by omega) hno
        have HNO : Hid (¬ Nj18 z at_ 4) := fun x => hno (x 2 (by omega))
        clear b1 CB f0 f1 qo qr hno
        go_wp2_with fail
        refine CA.mono ?_
        rintro e2 w2 ⟨rfl, hw2⟩
        subst w2
        go_wp2_with fail
        refine NB.mono ?_
        rintro e3 w3 ⟨rfl, b3⟩
        exact ⟨rfl, .inr ⟨HNO.out, rfl, HK0.out w3 (HKC.out w3 (HB1.out.trans (b3.mono HB1.out.size)))⟩⟩
    · have f0 : wr.cell? ⟨B + 8, 6, none⟩ = some (.func (.func 130) #[] #[]) := cell18 hFl.fl rfl
      have f1 : wr.cell? ⟨B + 8, 7, none⟩ = some (.func (.func 167) #[] #[.pointer (some ⟨B + 6, 0, none⟩), .pointer (some ⟨B + 7, 0, none⟩)]) := cell18 hFl.fl rfl
      obtain ⟨wC, hwC⟩ : ∃ wC, wC = wr.alloc (.cells #[.func (.func 130) #[] #[], .func (.func 167) #[] #[.pointer (some ⟨B + 6, 0, none⟩), .pointer (some ⟨B + 7, 0, none⟩)]] 202) := ⟨_, rfl⟩
      have cB := cb16 wr #[.func (.func 130) #[] #[], .func (.func 167) #[] #[.pointer (some ⟨B + 6, 0, none⟩), .pointer (some ⟨B + 7, 0, none⟩)]] 202
      rw [← hwC] at cB
      obtain ⟨bs, hbs⟩ : ∃ bs, bs = wr.heap.size := ⟨_, rfl⟩
      have HKC : Hid (∀ V, Below wC.heap.size wC V → Kp (fun k => k = br ∨ k = bo) wB V) := fun V hV => (HR.out.kp.trans (Kp.of_below cB.bl) (fun _ _ x => x)).trans (Kp.of_below hV) (fun _ _ x => x)
      have HCB : Hid (∀ V, Below wC.heap.size wC V → V.cell? ⟨bs, 0, none⟩ = some (.func (.func 130) #[] #[]) ∧ V.cell? ⟨bs, 1, none⟩ = some (.func (.func 167) #[] #[.pointer (some ⟨B + 6, 0, none⟩), .pointer (some ⟨B + 7, 0, none⟩)])) := fun V hV => by
        have q0 := cB.cl
        rw [← hbs] at q0
        have q := (hV.block bs (by have := cB.sz; omega)).trans q0
        exact ⟨cell18 q rfl, cell18 q rfl⟩
      have HOB : Hid (∀ V, Below wC.heap.size wC V → V.heap[bo]? = some (.cells (hp18 z at_ 3).cs 51 (0, 0)) ∧ Rq18 V br za z.length zc (pl18 z at_ 3)) := fun V hV => by
        have b2 := cB.bl.trans (hV.mono cB.bl.size)
        exact ⟨(b2.block _ (Array.getElem?_eq_some_iff.1 HR.out.ob).1).trans HR.out.ob, (b2.block _ (Array.getElem?_eq_some_iff.1 HR.out.rq).1).trans HR.out.rq⟩
      have hFB := HFK.out wC (HKC.out wC (Below.refl _ _))
      have CB := pbt18 (B + 6) (B + 7) (.pointer (some ⟨bo, 0, none⟩)) 1 32768 wC (hFB.bx 6 (by omega)) (hFB.bx 7 (by omega))
      have HWC : Hid (wr.alloc (.cells #[.func (.func 130) #[] #[], .func (.func 167) #[] #[.pointer (some ⟨B + 6, 0, none⟩), .pointer (some ⟨B + 7, 0, none⟩)]] 202) = wC) := hwC.symm
      have HBS : Hid (wr.heap.size = bs) := hbs.symm
      clear hwC cB hbs hFl hFB
      go_wp2_with fail
      rw [HWC.out, HBS.out]
      refine CB.mono ?_
      rintro e1 w1 ⟨rfl, b1⟩
      have HB1 : Hid (Below wC.heap.size wC w1) := b1
      obtain ⟨g0, g1⟩ := HCB.out w1 b1
      obtain ⟨qo, qr⟩ := HOB.out w1 b1
      have CA := phf18_4 bo w1 ⟨_, cell18 (k := 0) qo rfl⟩
      have HQO : Hid (w1.heap[bo]? = some (.cells (hp18 z at_ 3).cs 51 (0, 0))) := qo
      by_cases hno : No18 z (pl18 z at_ 3) 1 32768
      · have hk := decL_k18 (b := z.drop (pl18 z at_ 3)) (fun t ht => (HSG.out w1 (HKC.out w1 HB1.out)).mem t (List.mem_of_mem_drop ht)) hno.1
        have hkl : pl18 z at_ 4 ≤ z.length := by
          have h2 : (decL 0 0 (z.drop (pl18 z at_ 3))).2.1.toNat ≤ z.length - pl18 z at_ 3 := Nat.le_trans hk.2 (Nat.le_of_eq List.length_drop)
          have h4 : pl18 z at_ 4 = pl18 z at_ 3 + (decL 0 0 (z.drop (pl18 z at_ 3))).2.1.toNat := rfl
          have h5 := HR.out.pl
          rw [h4]
          generalize (decL 0 0 (z.drop (pl18 z at_ 3))).2.1.toNat = kk at *
          generalize pl18 z at_ 3 = pp at *
          omega
        have NB := pnb18 br za zc z (pl18 z at_ 3) 1 32768 _ w1 qr (HSG.out w1 (HKC.out w1 HB1.out)) HL.out.1 HL.out.2 HR.out.pl (by omega) (by omega) hno hk.1 hkl
        have NB : Hid (Calls Tryz.prog 145 #[.pointer (some ⟨br, 0, none⟩), .int .i64 1, .int .i64 32768] w1 fun e w' => e = .returned (.int .i64 (vl18 z at_ 3)) ∧ Rq18 w' br za z.length zc (pl18 z at_ 4) ∧ Kp (fun x => x = br) w1 w') := NB
        have HNJ : Hid (Nj18 z at_ 4) := fun j hj => by
          by_cases hji : j < 3
          · exact HR.out.nj j hji
          · have : j = 3 := by omega
            subst this
            exact hno
        have HPL : Hid (pl18 z at_ 4 ≤ z.length) := hkl
        clear b1 CB f0 f1 qo qr hno hk hkl
        go_wp2_with fail
        refine CA.mono ?_
        rintro e2 w2 ⟨rfl, hw2⟩
        subst w2
        go_wp2_with fail
        refine NB.out.mono ?_
        rintro e3 w3 ⟨rfl, q3, k3⟩
        have qo3 := k3.heap HQO.out (fun x => HNB.out.1 x.symm)
        have c3 : ∃ u, w3.cell? ⟨bo, 5, none⟩ = some u := ⟨_, cell18 qo3 rfl⟩
        obtain ⟨u3, c3⟩ := c3
        have f3 : w3.frozen? ⟨bo, 5, none⟩ = false := by simp [World.frozen?, qo3]
        have kS : Kp (fun k => k = bo) w3 (w3.setCell ⟨bo, 5, none⟩ (.int .i64 (vl18 z at_ 3))) := Kp.set (S := fun k => k = bo) rfl _
        have HN : Hid (Rl18 wB br bo za zc z at_ 4 (w3.setCell ⟨bo, 5, none⟩ (.int .i64 (vl18 z at_ 3)))) := by
          refine ⟨HNJ.out, HPL.out, ?_, kS.heap q3 (fun x => HNB.out.1 x), ((HKC.out w1 HB1.out).trans ⟨k3.os, k3.tape, k3.output, k3.size, fun k hk hn => k3.block k hk (fun x => hn (.inl x))⟩ (fun _ _ x => x)).trans ⟨kS.os, kS.tape, kS.output, kS.size, fun k hk hn => kS.block k hk (fun x => hn (.inr x))⟩ (fun _ _ x => x)⟩
          have hh : (w3.setCell ⟨bo, 5, none⟩ (.int .i64 (vl18 z at_ 3))).heap[bo]? = some (.cells ((hp18 z at_ 3).cs.setIfInBounds 5 (.int .i64 (vl18 z at_ 3))) 51 (0, 0)) := by
            simp [World.setCell, Array.getElem?_modify, qo3]
          exact hh
        clear q3 k3 qo3 kS NB CA
        generalize vl18 z at_ 3 = vv at *
        go_wp2_with fail
        go_roundw
        case rel => exact ⟨4, by omega, rfl, HN.out⟩
        case measure => simp [intOf]
      · have NB := pnb18_no br za zc z (pl18 z at_ 3) 1 32768 w1 qr (HSG.out w1 (HKC.out w1 HB1.out)) HL.out.1 HL.out.2 HR.out.pl (by omega) (by omega) hno
        have HNO : Hid (¬ Nj18 z at_ 4) := fun x => hno (x 3 (by omega))
        clear b1 CB f0 f1 qo qr hno
        go_wp2_with fail
        refine CA.mono ?_
        rintro e2 w2 ⟨rfl, hw2⟩
        subst w2
        go_wp2_with fail
        refine NB.mono ?_
        rintro e3 w3 ⟨rfl, b3⟩
        exact ⟨rfl, .inr ⟨HNO.out, rfl, HK0.out w3 (HKC.out w3 (HB1.out.trans (b3.mono HB1.out.size)))⟩⟩
    · obtain ⟨l0, l1, l2, l3, l4, l5⟩ := cl18 HR.out.ob
      have q4 := H4.out wr HR.out.kp
      have HQ : Hid (∀ V, Kp (fun k => k = b4) wr V → RdQ18 w br za zc z at_ (.returned (.agg (hp18 z at_ 4).cs)) V) := fun V hV => by
        have kw := HK0.out wr HR.out.kp
        refine .inl ⟨HR.out.nj, rfl, hV.heap HR.out.rq (fun x => HNB.out.2.2 x.symm), HR.out.pl, ⟨hV.os.trans kw.os, hV.tape.trans kw.tape, hV.output.trans kw.output, Nat.le_trans kw.size hV.size, fun k hk hn => ?_⟩⟩
        exact (hV.block k (Nat.lt_of_lt_of_le hk kw.size) (fun x => by have := HB4.out.1; omega)).trans (kw.block k hk hn)
      have f4 : ∀ j, wr.frozen? ⟨b4, j, none⟩ = false := fun j => by simp [World.frozen?, q4]
      have f40 := f4 0
      have f41 := f4 1
      have f42 := f4 2
      have f43 := f4 3
      have f44 := f4 4
      have f45 := f4 5
      have d0 : wr.cell? ⟨b4, 0, none⟩ = some (.int .i64 0) := cell18 q4 rfl
      have d1 : wr.cell? ⟨b4, 1, none⟩ = some (.int .i64 0) := cell18 q4 rfl
      have d2 : wr.cell? ⟨b4, 2, none⟩ = some (.int .u32 0) := cell18 q4 rfl
      have d3 : wr.cell? ⟨b4, 3, none⟩ = some (.int .u32 0) := cell18 q4 rfl
      have d4 : wr.cell? ⟨b4, 4, none⟩ = some (.int .i64 0) := cell18 q4 rfl
      have d5 : wr.cell? ⟨b4, 5, none⟩ = some (.int .i64 0) := cell18 q4 rfl
      have HQ4 : Hid (wr.heap[b4]? = some (.cells #[.int .i64 0, .int .i64 0, .int .u32 0, .int .u32 0, .int .i64 0, .int .i64 0] 51 (0, 0))) := q4
      clear q4 f4 hFl
      generalize hp18 z at_ 4 = H at *
      go_wp2_with fail
      obtain ⟨F, hF⟩ : ∃ F, F = (((((wr.setCell ⟨b4, 0, none⟩ (.int .i64 H.o)).setCell ⟨b4, 1, none⟩ (.int .i64 H.n)).setCell ⟨b4, 2, none⟩ (.int .u32 H.so)).setCell ⟨b4, 3, none⟩ (.int .u32 H.sn)).setCell ⟨b4, 4, none⟩ (.int .i64 H.wi)).setCell ⟨b4, 5, none⟩ (.int .i64 H.lo) := ⟨_, rfl⟩
      have kF : Kp (fun k => k = b4) wr F := by
        rw [hF]
        exact (((((Kp.set (S := fun j => j = b4) rfl _).trans (Kp.set (S := fun j => j = b4) rfl _) (fun _ _ x => x)).trans (Kp.set (S := fun j => j = b4) rfl _) (fun _ _ x => x)).trans (Kp.set (S := fun j => j = b4) rfl _) (fun _ _ x => x)).trans (Kp.set (S := fun j => j = b4) rfl _) (fun _ _ x => x)).trans (Kp.set (S := fun j => j = b4) rfl _) (fun _ _ x => x)
      have qF : F.heap[b4]? = some (.cells #[.int .i64 H.o, .int .i64 H.n, .int .u32 H.so, .int .u32 H.sn, .int .i64 H.wi, .int .i64 H.lo] 51 (0, 0)) := by
        rw [hF]
        simp [World.setCell, Array.getElem?_modify, HQ4.out]
      rw [← hF]
      refine bodyPost_ret (v := .agg #[.int .i64 H.o, .int .i64 H.n, .int .u32 H.so, .int .u32 H.sn, .int .i64 H.wi, .int .i64 H.lo]) (results_cell_row (fn := Tryz.f103) (p := 4) (ty := 51) rfl _ _ b4 _ _ _ _ rfl qF Tryz.underlying51 rfl (by kernel_rfl)) rfl ?_
      exact HQ.out F kF
end Go.Proofs.YtmfpdchfofffeaaGreatDoor
