
import Derived.Test.YtcgaembnibnglaaCu22
namespace Go.Proofs.Ytcgaembnibnglaa
open Go.RowKit Go.Shelf
set_option linter.unusedVariables false

/-! CutterApplies. -/
theorem u8_wrap17 (x : Int) : 0 ≤ IntKind.u8.wrap x ∧ IntKind.u8.wrap x ≤ 255 := by
  have h : IntKind.u8.wrap x = x % 256 := by simp [IntKind.wrap, IntKind.signed, IntKind.bits]
  rw [h]; omega
theorem al17_bd {z : List Int} {pos : Int} {S : List St16} {D X : List Int} {size : Int} (hd : ∀ i, 0 ≤ D.getD i 0 ∧ D.getD i 0 ≤ 255) (hx : ∀ i, 0 ≤ X.getD i 0 ∧ X.getD i 0 ≤ 255) : ∀ t ∈ al17 z pos S D X size, 0 ≤ t ∧ t ≤ 255 := by
  intro t ht
  unfold al17 at ht
  split at ht
  · unfold aw17 at ht
    rw [List.mem_map] at ht
    obtain ⟨o, ho, rfl⟩ := ht
    unfold fy17
    split
    · exact u8_wrap17 _
    · exact ws17_by hd hx o ho
  · simp at ht
theorem al17_len {z : List Int} {pos : Int} {S : List St16} {D X : List Int} {size : Int} : (al17 z pos S D X size).length ≤ 65536 := by
  unfold al17
  split
  · rename_i hW
    obtain ⟨_, hsa, hsc, hmk, _⟩ := w17_ok hW
    unfold aw17
    rw [List.length_map, ws17_len hsa hsc rfl rfl]
    exact hmk
  · simp
set_option maxRecDepth 100000 in
set_option maxHeartbeats 16000000 in
theorem cutterApplies_walk (pos size : Int) {za : Option Addr} {zc : Nat} {z : List Int} {sa : Option Addr} {sc : Nat} {da : Option Addr} {dc : Nat} {xa : Option Addr} {xc : Nat} {S : List St16} {D X : List Int} (w : World) (h : Ed17 w sa S.length S da D.length D xa X.length X) (hz : Seg w za z) (hzl : z.length ≤ 140737488351232) (zn : za = none → zc = 0) (hxc : X.length ≤ xc) (nm : da = none → dc = 0) (nk : xa = none → xc = 0) :
    Calls Try.prog 6 #[.slice za z.length zc, wn17 pos sa S.length sc da D.length dc xa X.length xc, .int .i64 size] w fun e w' => e = .returned (.bool true) ∧ Below w.heap.size w w' := by
  obtain ⟨wA, hwA⟩ : ∃ wA, wA = w.alloc (.cells #[.int .i64 pos, .slice sa S.length sc, .slice da D.length dc, .slice xa X.length xc] 45) := ⟨_, rfl⟩
  have cA : Cb16 w #[.int .i64 pos, .slice sa S.length sc, .slice da D.length dc, .slice xa X.length xc] 45 wA := by rw [hwA]; exact cb16 _ _ _
  obtain ⟨b4, hb4⟩ : ∃ b4, b4 = w.heap.size := ⟨_, rfl⟩
  have qE : wA.heap[b4]? = some (.cells #[.int .i64 pos, .slice sa S.length sc, .slice da D.length dc, .slice xa X.length xc] 45 (0, 0)) := by rw [hb4]; exact cA.cl
  have bl := cA.bl
  have HWA : Hid (w.alloc (.cells #[.int .i64 pos, .slice sa S.length sc, .slice da D.length dc, .slice xa X.length xc] 45) = wA) := hwA.symm
  have HB4 : Hid (w.heap.size = b4) := hb4.symm
  have HCE : Hid (∀ W, Below wA.heap.size wA W → W.cell? ⟨b4, 0, none⟩ = some (.int .i64 pos) ∧ W.cell? ⟨b4, 1, none⟩ = some (.slice sa S.length sc) ∧ W.cell? ⟨b4, 2, none⟩ = some (.slice da D.length dc) ∧ W.cell? ⟨b4, 3, none⟩ = some (.slice xa X.length xc)) := fun W hW => four_cells ((hW.block b4 (Array.getElem?_eq_some_iff.1 qE).1).trans qE)
  have HBL : Hid (Below w.heap.size w wA) := bl
  have HC1 : Hid (∀ W, Below wA.heap.size wA W → Calls Try.prog 17 #[.agg #[.int .i64 pos, .slice sa S.length sc, .slice da D.length dc, .slice xa X.length xc]] W (FwQ17 W pos S D X)) := fun W hW => pfacew17 pos W (h.old (bl.trans (hW.mono bl.size))) nm nk
  have HC2 : Hid (∀ W, Below wA.heap.size wA W → Calls Try.prog 20 #[.slice za z.length zc] W fun e w' => ∃ g cap', e = .returned (.tuple #[.slice (some ⟨g, 0, none⟩) (z.length + 5) cap', .slice (some ⟨g, 0, none⟩) z.length cap']) ∧ w'.ownsRow W.heap.size 5 1 (.slice (some ⟨g, 0, none⟩) (z.length + 5) cap') (z.length + 5) ((lentL z).map (Value.int .u8)) ∧ Below W.heap.size W w') := fun W hW => lend_any za z zc W (hz.old (bl.trans (hW.mono bl.size))) zn hzl
  have HC3 : Hid (∀ W, Below wA.heap.size wA W → Calls Try.prog 23 #[.slice za z.length zc, .agg #[.int .i64 pos, .slice sa S.length sc, .slice da D.length dc, .slice xa X.length xc], .int .i64 size] W (ArQ17 W (al17 z pos S D X size) (cc17 pos S D.length X.length (z.length : Int) size))) := fun W hW => rapl17_all pos size W (h.old (bl.trans (hW.mono bl.size))) (hz.old (bl.trans (hW.mono bl.size))) hxc nk
  have HC4 : Hid (∀ W, Below wA.heap.size wA W → Calls Try.prog 24 #[.agg #[.int .i64 pos, .slice sa S.length sc, .slice da D.length dc, .slice xa X.length xc], .int .i64 (z.length : Int), .int .i64 size] W fun e w' => e = .returned (.int .i64 (cc17 pos S D.length X.length (z.length : Int) size)) ∧ Below W.heap.size W w') := fun W hW => rchk17 pos _ size W (h.ss.old (bl.trans (hW.mono bl.size))) rfl (by have := h.ln; omega) (by have := h.lm; omega) (by have := h.lk; omega)
  have HK : Hid (∀ W b ca, Below wA.heap.size wA W → Seg W b (lentL z) → Calls Try.prog 26 #[.slice b (z.length + 5) ca, .slice za z.length zc] W fun e w' => e = .returned (.bool true) ∧ Below W.heap.size W w') := fun W b ca hW hb => by
    have e : (lentL z).length = z.length + 5 := by simp [lentL]
    have := kept_any za b (lentL z) z ca zc W hb (hz.old (bl.trans (hW.mono bl.size))) zn hzl
    rw [e] at this
    simpa using this
  have HSM : Hid (∀ W sb sd db dd xb xd, Below wA.heap.size wA W → SegS W sb S → Seg W db D → Seg W xb X → Calls Try.prog 14 #[.agg #[.slice sb S.length sd, .slice db D.length dd, .slice xb X.length xd], .agg #[.slice sa S.length sc, .slice da D.length dc, .slice xa X.length xc]] W fun e w' => e = .returned (.bool true) ∧ Below W.heap.size W w') := fun W sb sd db dd xb xd hW h1 h2 h3 => rsame17 W h1 (h.ss.old (bl.trans (hW.mono bl.size))) rfl (by have := h.ln; omega) h2 (h.sd.old (bl.trans (hW.mono bl.size))) rfl h3 (h.sx.old (bl.trans (hW.mono bl.size))) rfl
  have HFT : Hid ((∀ t ∈ S, Fit16 t) ∧ (∀ t ∈ D, 0 ≤ t ∧ t ≤ 255) ∧ (∀ t ∈ X, 0 ≤ t ∧ t ≤ 255) ∧ (∀ t ∈ z, 0 ≤ t ∧ t ≤ 255)) := ⟨h.ss.fit, h.sd.mem, h.sx.mem, hz.mem⟩
  have HLB : Hid ((∀ t ∈ al17 z pos S D X size, 0 ≤ t ∧ t ≤ 255) ∧ (al17 z pos S D X size).length ≤ 65536) := ⟨al17_bd h.sd.bd h.sx.bd, al17_len⟩
  have HLN : Hid (S.length ≤ 5864062014804 ∧ D.length ≤ 140737488351232 ∧ X.length ≤ 140737488351232) := ⟨h.ln, h.lm, h.lk⟩
  have HCK : Hid (∀ W sb sd db dd xb xd, SegS W sb S → Calls Try.prog 21 #[.agg #[.int .i64 pos, .slice sb S.length sd, .slice db D.length dd, .slice xb X.length xd], .int .i64 (z.length : Int), .int .i64 size] W fun e w' => e = .returned (.int .i64 (cc17 pos S D.length X.length (z.length : Int) size)) ∧ Below W.heap.size W w') := fun W sb sd db dd xb xd h1 => pck17 pos _ size W h1 rfl (by have := h.ln; omega) (by have := h.lm; omega) (by have := h.lk; omega) (by omega)
  have HAP : Hid (∀ W a c sb sd db dd xb xd, Ed17 W sb S.length S db D.length D xb X.length X → D.length ≤ dd → X.length ≤ xd → Seg W a z → Calls Try.prog 22 #[.slice a z.length c, .agg #[.int .i64 pos, .slice sb S.length sd, .slice db D.length dd, .slice xb X.length xd], .int .i64 size] W (ArQ17 W (al17 z pos S D X size) (cc17 pos S D.length X.length (z.length : Int) size))) := fun W a c sb sd db dd xb xd h1 h2 h3 h4 => papl17_all pos size W h1 h4 hzl h2 h3
  generalize cc17 pos S D.length X.length (z.length : Int) size = er at *
  generalize al17 z pos S D X size = L at *
  clear h hwA hb4 qE cA bl
  unfold wn17
  go_enter Try.func6, Try.ntmps6
  have g0 := HCE.out wA (Below.refl _ _)
  rw [← HWA.out] at g0
  obtain ⟨a0, a1, a2, a3⟩ := g0
  rw [← HB4.out] at a0 a1 a2 a3
  go_wp2_with fail
  rw [HWA.out, HB4.out]
  clear a0 a1 a2 a3
  refine (HC1.out wA (Below.refl _ _)).mono ?_
  rintro e1 w2 ⟨v1, v2, v3, rfl, hw, b2⟩
  obtain ⟨sb, sd, db, dd, xb, xd, eq1, eq2, eq3, hEd, kd, kx⟩ := wn17_ed hw HFT.out.1 HFT.out.2.1 HFT.out.2.2.1 HLN.out.1 HLN.out.2.1 HLN.out.2.2
  subst eq1; subst eq2; subst eq3
  obtain ⟨wG, hwG⟩ : ∃ wG, wG = w2.alloc (.cells #[.int .i64 pos, .slice sb S.length sd, .slice db D.length dd, .slice xb X.length xd] 43) := ⟨_, rfl⟩
  have cG : Cb16 w2 #[.int .i64 pos, .slice sb S.length sd, .slice db D.length dd, .slice xb X.length xd] 43 wG := by rw [hwG]; exact cb16 _ _ _
  obtain ⟨b7, hb7⟩ : ∃ b7, b7 = w2.heap.size := ⟨_, rfl⟩
  have q7 : wG.heap[b7]? = some (.cells #[.int .i64 pos, .slice sb S.length sd, .slice db D.length dd, .slice xb X.length xd] 43 (0, 0)) := by rw [hb7]; exact cG.cl
  have bG : Below wA.heap.size wA wG := b2.trans (cG.bl.mono b2.size)
  have HC7 : Hid (∀ W, Below wG.heap.size wG W → W.cell? ⟨b7, 0, none⟩ = some (.int .i64 pos) ∧ W.cell? ⟨b7, 1, none⟩ = some (.slice sb S.length sd) ∧ W.cell? ⟨b7, 2, none⟩ = some (.slice db D.length dd) ∧ W.cell? ⟨b7, 3, none⟩ = some (.slice xb X.length xd)) := fun W hW => four_cells ((hW.block b7 (Array.getElem?_eq_some_iff.1 q7).1).trans q7)
  have HEG : Hid (∀ W, Below wG.heap.size wG W → Ed17 W sb S.length S db D.length D xb X.length X) := fun W hW => (hEd.old cG.bl).old hW
  have HWG : Hid (w2.alloc (.cells #[.int .i64 pos, .slice sb S.length sd, .slice db D.length dd, .slice xb X.length xd] 43) = wG) := hwG.symm
  have HB7 : Hid (w2.heap.size = b7) := hb7.symm
  clear hw b2 hEd hwG cG hb7 q7
  go_wp2_with fail
  rw [HWG.out, HB7.out]
  refine (HC2.out wG bG).mono ?_
  rintro e3 w3 ⟨gl, cl, rfl, ol, b3⟩
  obtain ⟨-, al, cl2, hvl, sl, -, -, -⟩ := own_seg ol (M := 255) (by decide) (lent_bd HFT.out.2.2.2)
  injection hvl with ql1 ql2 ql3
  subst ql1; subst ql3
  have hsz : Seg w3 (some ⟨gl, 0, none⟩) z := by
    have := sl.take z.length
    have e : (lentL z).take z.length = z := by unfold lentL; simp
    rw [e] at this
    exact this
  have HB3 : Hid (Below wG.heap.size wG w3) := b3
  obtain ⟨c70, c71, c72, c73⟩ := HC7.out w3 b3
  clear b3 ol ql2
  go_wp2_with fail
  refine (HCK.out w3 sb sd db dd xb xd (HEG.out w3 HB3.out).ss).mono ?_
  rintro e4 w4 ⟨rfl, b4'⟩
  have HB4w : Hid (Below wG.heap.size wG w4) := HB3.out.trans (b4'.mono HB3.out.size)
  have hsz4 : Seg w4 (some ⟨gl, 0, none⟩) z := hsz.old b4'
  have sl4 : Seg w4 (some ⟨gl, 0, none⟩) (lentL z) := sl.old b4'
  clear c70 c71 c72 c73 b4' hsz sl
  obtain ⟨c70, c71, c72, c73⟩ := HC7.out w4 HB4w.out
  go_wp2_with fail
  refine (HAP.out w4 _ cl sb sd db dd xb xd (HEG.out w4 HB4w.out) kd kx hsz4).mono ?_
  rintro e5 w5 ⟨ra, rca, rfl, oa, b5⟩
  have HB5w : Hid (Below wG.heap.size wG w5) := HB4w.out.trans (b5.mono HB4w.out.size)
  have HOA : Hid (w5.ownsRow w4.heap.size 5 1 (.slice ra L.length rca) L.length (L.map (Value.int .u8))) := oa
  have HZ5 : Hid (Below w4.heap.size w4 w5) := b5
  have hsz5 : Seg w5 (some ⟨gl, 0, none⟩) z := hsz4.old b5
  clear c70 c71 c72 c73 b5 oa
  obtain ⟨c70, c71, c72, c73⟩ := HC7.out w5 HB5w.out
  go_wp2_with fail
  refine (HAP.out w5 _ cl sb sd db dd xb xd (HEG.out w5 HB5w.out) kd kx hsz5).mono ?_
  rintro e6 w6 ⟨rb, rcb, rfl, ob, b6⟩
  have HB6w : Hid (Below wG.heap.size wG w6) := HB5w.out.trans (b6.mono HB5w.out.size)
  have HOB : Hid (w6.ownsRow w5.heap.size 5 1 (.slice rb L.length rcb) L.length (L.map (Value.int .u8))) := ob
  have HZ6 : Hid (Below w5.heap.size w5 w6) := b6
  clear c70 c71 c72 c73 b6 ob
  have HG6 : Hid (∀ W, Below wG.heap.size wG W → Below wA.heap.size wA W) := fun W hW => bG.trans (hW.mono bG.size)
  obtain ⟨a0, a1, a2, a3⟩ := HCE.out w6 (HG6.out w6 HB6w.out)
  go_wp2_with fail
  refine (HC3.out w6 (HG6.out w6 HB6w.out)).mono ?_
  rintro e7 w7 ⟨rt, rct, rfl, ot, b7'⟩
  have HB7w : Hid (Below wG.heap.size wG w7) := HB6w.out.trans (b7'.mono HB6w.out.size)
  have HOT : Hid (w7.ownsRow w6.heap.size 5 1 (.slice rt L.length rct) L.length (L.map (Value.int .u8))) := ot
  have HZ7 : Hid (Below w6.heap.size w6 w7) := b7'
  clear a0 a1 a2 a3 b7' ot
  obtain ⟨a0, a1, a2, a3⟩ := HCE.out w7 (HG6.out w7 HB7w.out)
  go_wp2_with fail
  refine (HC4.out w7 (HG6.out w7 HB7w.out)).mono ?_
  rintro e8 w8 ⟨rfl, b8⟩
  have HB8w : Hid (Below wG.heap.size wG w8) := HB7w.out.trans (b8.mono HB7w.out.size)
  have hz5 := HZ5.out
  have hz6 := HZ6.out
  have hz7 := HZ7.out
  have b58 : Below w5.heap.size w5 w8 := hz6.trans ((hz7.trans (b8.mono hz7.size)).mono hz6.size)
  have b68 : Below w6.heap.size w6 w8 := hz7.trans (b8.mono hz7.size)
  have b48 : Below w4.heap.size w4 w8 := hz5.trans (b58.mono hz5.size)
  have oA := own_below HOA.out b58
  have oB := own_below HOB.out b68
  have oT := own_below HOT.out b8
  obtain ⟨-, pa, pac, hva, sgA, -, -, -⟩ := own_seg oA (M := 255) (by decide) HLB.out.1
  obtain ⟨-, pb, pbc, hvb, sgB, -, -, -⟩ := own_seg oB (M := 255) (by decide) HLB.out.1
  obtain ⟨-, pt, ptc, hvt, sgT, -, -, -⟩ := own_seg oT (M := 255) (by decide) HLB.out.1
  injection hva with ha1 ha2 ha3
  injection hvb with hb1 hb2 hb3
  injection hvt with ht1 ht2 ht3
  subst ha1; subst hb1; subst ht1
  have S1 := bsame_any ra rt L L rca rct w8 sgA sgT
  have S2 := bsame_any rb rt L L rcb rct w8 sgB sgT
  rw [show (L == L) = true by simp] at S1 S2
  have HOA8 : Hid (w8.ownsRow w4.heap.size 5 1 (.slice ra L.length rca) L.length (L.map (Value.int .u8))) := oA
  have HOB8 : Hid (w8.ownsRow w5.heap.size 5 1 (.slice rb L.length rcb) L.length (L.map (Value.int .u8))) := oB
  have HAPT : Hid (Ap (Value.slice ra L.length rca).ownBlock (Value.slice rb L.length rcb).ownBlock) := fun t x y => by
    have := (HOA.out.lt t x).2
    have := (HOB.out.lt t y).1
    omega
  have sl8 : Seg w8 (some ⟨gl, 0, none⟩) (lentL z) := sl4.old b48
  have HSL : Hid (Seg w8 (some ⟨gl, 0, none⟩) (lentL z)) := sl8
  have H48 : Hid (Below w4.heap.size w4 w8 ∧ w4.heap.size ≤ w5.heap.size) := ⟨b48, hz5.size⟩
  clear a0 a1 a2 a3 b8 hz5 hz6 hz7 b58 b68 b48 oA oB oT sgA sgB sgT sl8 sl4 hsz4 hsz5 ha2 ha3 hb2 hb3 ht2 ht3
  go_wp2_with (first
    | (go_at_call 25; refine S1.mono ?_; rintro e9 w9 ⟨rfl, rfl⟩; clear S1)
    | (go_at_call 25; refine S2.mono ?_; rintro e9 w9 ⟨rfl, rfl⟩; clear S2))
  have HSS : Hid (∀ W, Below wG.heap.size wG W → (W.cell? ⟨b7, 1, none⟩ = some (.slice sb S.length sd) ∧ W.cell? ⟨b7, 2, none⟩ = some (.slice db D.length dd) ∧ W.cell? ⟨b7, 3, none⟩ = some (.slice xb X.length xd)) ∧ W.cell? ⟨b4, 1, none⟩ = some (.slice sa S.length sc) ∧ W.cell? ⟨b4, 2, none⟩ = some (.slice da D.length dc) ∧ W.cell? ⟨b4, 3, none⟩ = some (.slice xa X.length xc)) := fun W hW => ⟨(HC7.out W hW).2, (HCE.out W (HG6.out W hW)).2⟩
  have bd : Below w9.heap.size w9 w9.drew := (Below.refl _ _).drew
  have bD : Below wG.heap.size wG w9.drew := HB8w.out.drew
  refine plain_region16 (fun V => (V.cell? ⟨b7, 1, none⟩ = some (.slice sb S.length sd) ∧ V.cell? ⟨b7, 2, none⟩ = some (.slice db D.length dd) ∧ V.cell? ⟨b7, 3, none⟩ = some (.slice xb X.length xd)) ∧ V.cell? ⟨b4, 1, none⟩ = some (.slice sa S.length sc) ∧ V.cell? ⟨b4, 2, none⟩ = some (.slice da D.length dc) ∧ V.cell? ⟨b4, 3, none⟩ = some (.slice xa X.length xc)) 21 (by kernel_rfl) (HSS.out _ bD) (fun hHeld => ?_)
  refine wpAnyK_take (i := 0) (v := .slice (some ⟨gl, 0, none⟩) (z.length + 5) cl) rfl (by kernel_rfl) (by kernel_rfl) (by kernel_rfl) (by kernel_rfl) (fun _ _ _ h => h) (Or.inl ⟨by rfl, fun w hSw => by go_simp⟩) hHeld ?_
  simp only [List.getElem_toArray, List.getElem_cons_zero, Act.put, List.setIfInBounds_toArray, List.set_cons_zero, List.set_cons_succ]
  refine wpAnyK_take (i := 1) (v := .slice za z.length zc) rfl (by kernel_rfl) (by kernel_rfl) (by kernel_rfl) (by kernel_rfl) (fun _ _ _ h => h) (Or.inl ⟨by rfl, fun w hSw => by go_simp⟩) hHeld ?_
  simp only [List.getElem_toArray, List.getElem_cons_zero, List.getElem_cons_succ, Act.put, List.setIfInBounds_toArray, List.set_cons_zero, List.set_cons_succ]
  refine wpAnyK_one (i := 2) (by kernel_rfl) rfl (fun K hK => ?_)
  (try simp only [List.getElem_toArray, List.getElem_cons_zero, List.getElem_cons_succ, Act.put, List.setIfInBounds_toArray, List.set_cons_zero, List.set_cons_succ])
  go_simp
  refine (HK.out w9.drew _ cl (HG6.out _ bD) (HSL.out.old bd)).mono ?_
  rintro f1 u1 ⟨rfl, c1⟩
  have c1' : Below w9.heap.size w9 u1 := bd.trans (c1.mono (Nat.le_refl _))
  have d1 : Below wG.heap.size wG u1 := HB8w.out.trans (c1'.mono HB8w.out.size)
  refine hK.out _ _ (fun _ => HSS.out u1 d1) (fun hHeld0 => ?_)
  have hHeld := hHeld0 (by decide)
  clear hHeld0 hK K
  (try simp only [List.getElem_toArray, List.getElem_cons_zero, List.getElem_cons_succ, Act.put, List.setIfInBounds_toArray, List.set_cons_zero, List.set_cons_succ])
  refine wpAnyK_one (i := 3) (by kernel_rfl) rfl (fun K hK => ?_)
  (try simp only [List.getElem_toArray, List.getElem_cons_zero, List.getElem_cons_succ, Act.put, List.setIfInBounds_toArray, List.set_cons_zero, List.set_cons_succ])
  go_simp
  refine hK.out _ _ (fun _ => HSS.out u1 d1) (fun hHeld0 => ?_)
  have hHeld := hHeld0 (by decide)
  clear hHeld0 hK K
  (try simp only [List.getElem_toArray, List.getElem_cons_zero, List.getElem_cons_succ, Act.put, List.setIfInBounds_toArray, List.set_cons_zero, List.set_cons_succ])
  refine wpAnyK_take (i := 4) (v := .pointer (some ⟨b7, 1, none⟩)) rfl (by kernel_rfl) (by kernel_rfl) (by kernel_rfl) (by kernel_rfl) (fun _ _ _ h => h) (Or.inl ⟨by rfl, fun w hSw => by go_simp⟩) hHeld ?_
  simp only [List.getElem_toArray, List.getElem_cons_zero, List.getElem_cons_succ, Act.put, List.setIfInBounds_toArray, List.set_cons_zero, List.set_cons_succ]
  refine wpAnyK_take (i := 5) (v := .agg #[.slice sb S.length sd, .slice db D.length dd, .slice xb X.length xd]) rfl (by kernel_rfl) (by kernel_rfl) (by kernel_rfl) (by kernel_rfl) (fun _ _ _ h => h) (Or.inl ⟨by rfl, fun w hSw => by go_simp⟩) hHeld ?_
  simp only [List.getElem_toArray, List.getElem_cons_zero, List.getElem_cons_succ, Act.put, List.setIfInBounds_toArray, List.set_cons_zero, List.set_cons_succ]
  refine wpAnyK_take (i := 7) (v := .pointer (some ⟨b4, 1, none⟩)) rfl (by kernel_rfl) (by kernel_rfl) (by kernel_rfl) (by kernel_rfl) (fun _ _ _ h => h) (Or.inl ⟨by rfl, fun w hSw => by go_simp⟩) hHeld ?_
  simp only [List.getElem_toArray, List.getElem_cons_zero, List.getElem_cons_succ, Act.put, List.setIfInBounds_toArray, List.set_cons_zero, List.set_cons_succ]
  refine wpAnyK_take (i := 8) (v := .agg #[.slice sa S.length sc, .slice da D.length dc, .slice xa X.length xc]) rfl (by kernel_rfl) (by kernel_rfl) (by kernel_rfl) (by kernel_rfl) (fun _ _ _ h => h) (Or.inl ⟨by rfl, fun w hSw => by go_simp⟩) hHeld ?_
  simp only [List.getElem_toArray, List.getElem_cons_zero, List.getElem_cons_succ, Act.put, List.setIfInBounds_toArray, List.set_cons_zero, List.set_cons_succ]
  refine wpAnyK_one (i := 6) (by kernel_rfl) rfl (fun K hK => ?_)
  (try simp only [List.getElem_toArray, List.getElem_cons_zero, List.getElem_cons_succ, Act.put, List.setIfInBounds_toArray, List.set_cons_zero, List.set_cons_succ])
  go_simp
  refine (pplain17 (S := S) u1 (HEG.out u1 d1).ss rfl HLN.out.1).mono ?_
  rintro f2 u2 ⟨p1, rfl, o1, c2⟩
  have c2' : Below w9.heap.size w9 u2 := c1'.trans (c2.mono c1'.size)
  have d2 : Below wG.heap.size wG u2 := HB8w.out.trans (c2'.mono HB8w.out.size)
  obtain ⟨sp, cp, hp1⟩ := own_sl17 o1
  subst hp1
  have ssp : SegS u2 sp S := own_segS17 o1 rfl HFT.out.1
  refine hK.out _ _ (fun _ => HSS.out u2 d2) (fun hHeld0 => ?_)
  have hHeld := hHeld0 (by decide)
  clear hHeld0 hK K
  (try simp only [List.getElem_toArray, List.getElem_cons_zero, List.getElem_cons_succ, Act.put, List.setIfInBounds_toArray, List.set_cons_zero, List.set_cons_succ])
  refine wpAnyK_one (i := 9) (by kernel_rfl) rfl (fun K hK => ?_)
  (try simp only [List.getElem_toArray, List.getElem_cons_zero, List.getElem_cons_succ, Act.put, List.setIfInBounds_toArray, List.set_cons_zero, List.set_cons_succ])
  go_simp
  refine (HSM.out u2 sp cp db dd xb xd (HG6.out u2 d2) ssp (HEG.out u2 d2).sd (HEG.out u2 d2).sx).mono ?_
  rintro f3 u3 ⟨rfl, c3⟩
  have c3' : Below w9.heap.size w9 u3 := c2'.trans (c3.mono c2'.size)
  have d3 : Below wG.heap.size wG u3 := HB8w.out.trans (c3'.mono HB8w.out.size)
  refine hK.out _ _ (fun _ => HSS.out u3 d3) (fun hHeld0 => ?_)
  have hHeld := hHeld0 (by decide)
  clear hHeld0 hK K
  (try simp only [List.getElem_toArray, List.getElem_cons_zero, List.getElem_cons_succ, Act.put, List.setIfInBounds_toArray, List.set_cons_zero, List.set_cons_succ])
  refine wpAnyK_one (i := 10) (by kernel_rfl) rfl (fun K hK => ?_)
  (try simp only [List.getElem_toArray, List.getElem_cons_zero, List.getElem_cons_succ, Act.put, List.setIfInBounds_toArray, List.set_cons_zero, List.set_cons_succ])
  go_simp
  refine hK.out _ _ (fun _ => HSS.out u3 d3) (fun hHeld0 => ?_)
  have hHeld := hHeld0 (by decide)
  clear hHeld0 hK K
  (try simp only [List.getElem_toArray, List.getElem_cons_zero, List.getElem_cons_succ, Act.put, List.setIfInBounds_toArray, List.set_cons_zero, List.set_cons_succ])
  refine wpAnyK_one (i := 11) (by kernel_rfl) rfl (fun K hK => ?_)
  (try simp only [List.getElem_toArray, List.getElem_cons_zero, List.getElem_cons_succ, Act.put, List.setIfInBounds_toArray, List.set_cons_zero, List.set_cons_succ])
  go_simp
  refine hK.out _ _ (fun _ => HSS.out u3 d3) (fun hHeld0 => ?_)
  have hHeld := hHeld0 (by decide)
  clear hHeld0 hK K
  (try simp only [List.getElem_toArray, List.getElem_cons_zero, List.getElem_cons_succ, Act.put, List.setIfInBounds_toArray, List.set_cons_zero, List.set_cons_succ])
  refine wpAnyK_take (i := 12) (v := .slice ra L.length rca) rfl (by kernel_rfl) (by kernel_rfl) (by kernel_rfl) (by kernel_rfl) (fun _ _ _ h => h) (Or.inl ⟨by rfl, fun w hSw => by go_simp⟩) hHeld ?_
  simp only [List.getElem_toArray, List.getElem_cons_zero, List.getElem_cons_succ, Act.put, List.setIfInBounds_toArray, List.set_cons_zero, List.set_cons_succ]
  refine wpAnyK_take (i := 13) (v := .slice rb L.length rcb) rfl (by kernel_rfl) (by kernel_rfl) (by kernel_rfl) (by kernel_rfl) (fun _ _ _ h => h) (Or.inl ⟨by rfl, fun w hSw => by go_simp⟩) hHeld ?_
  simp only [List.getElem_toArray, List.getElem_cons_zero, List.getElem_cons_succ, Act.put, List.setIfInBounds_toArray, List.set_cons_zero, List.set_cons_succ]
  refine wpAnyK_one (i := 14) (by kernel_rfl) rfl (fun K hK => ?_)
  (try simp only [List.getElem_toArray, List.getElem_cons_zero, List.getElem_cons_succ, Act.put, List.setIfInBounds_toArray, List.set_cons_zero, List.set_cons_succ])
  go_simp
  have d3a : ∀ o, Below wG.heap.size wG (u3.alloc o) := fun o => d3.trans ((Below.refl _ _).alloc d3.size o)
  refine hK.out _ _ (fun _ => HSS.out _ (d3a _)) (fun hHeld0 => ?_)
  have hHeld := hHeld0 (by decide)
  clear hHeld0 hK K
  (try simp only [List.getElem_toArray, List.getElem_cons_zero, List.getElem_cons_succ, Act.put, List.setIfInBounds_toArray, List.set_cons_zero, List.set_cons_succ])
  refine wpAnyK_one (i := 15) (by kernel_rfl) rfl (fun K hK => ?_)
  (try simp only [List.getElem_toArray, List.getElem_cons_zero, List.getElem_cons_succ, Act.put, List.setIfInBounds_toArray, List.set_cons_zero, List.set_cons_succ])
  go_simp
  have h48 := H48.out
  have z4u : w4.heap.size ≤ u3.heap.size := Nat.le_trans h48.1.size c3'.size
  have rA : Row 5 u3 w4.heap.size (.slice ra L.length rca) L := own_below HOA8.out c3'
  have rB : Row 5 u3 w4.heap.size (.slice rb L.length rcb) L := own_base (own_below HOB8.out c3') h48.2
  have hLl := HLB.out.2
  refine (own_two w4.heap.size _ _ L L u3 rA rB HAPT.out (by omega) (by omega) z4u).mono ?_
  rintro f4 u4 ⟨rfl, c4⟩
  have zG4 : wG.heap.size ≤ w4.heap.size := HB4w.out.size
  have d4 : Below wG.heap.size wG u4 := d3.trans (c4.mono zG4)
  clear rA rB
  refine hK.out _ _ (fun _ => HSS.out u4 d4) (fun hHeld0 => ?_)
  have hHeld := hHeld0 (by decide)
  clear hHeld0 hK K
  (try simp only [List.getElem_toArray, List.getElem_cons_zero, List.getElem_cons_succ, Act.put, List.setIfInBounds_toArray, List.set_cons_zero, List.set_cons_succ])
  refine wpAnyK_one (i := 16) (by kernel_rfl) rfl (fun K hK => ?_)
  (try simp only [List.getElem_toArray, List.getElem_cons_zero, List.getElem_cons_succ, Act.put, List.setIfInBounds_toArray, List.set_cons_zero, List.set_cons_succ])
  go_simp
  refine hK.out _ _ (fun _ => HSS.out u4 d4) (fun hHeld0 => ?_)
  have hHeld := hHeld0 (by decide)
  clear hHeld0 hK K
  (try simp only [List.getElem_toArray, List.getElem_cons_zero, List.getElem_cons_succ, Act.put, List.setIfInBounds_toArray, List.set_cons_zero, List.set_cons_succ])
  refine wpAnyK_one (i := 17) (by kernel_rfl) rfl (fun K hK => ?_)
  (try simp only [List.getElem_toArray, List.getElem_cons_zero, List.getElem_cons_succ, Act.put, List.setIfInBounds_toArray, List.set_cons_zero, List.set_cons_succ])
  go_simp
  refine hK.out _ _ (fun _ => HSS.out u4 d4) (fun hHeld0 => ?_)
  have hHeld := hHeld0 (by decide)
  clear hHeld0 hK K
  (try simp only [List.getElem_toArray, List.getElem_cons_zero, List.getElem_cons_succ, Act.put, List.setIfInBounds_toArray, List.set_cons_zero, List.set_cons_succ])
  refine wpAnyK_one (i := 18) (by kernel_rfl) rfl (fun K hK => ?_)
  (try simp only [List.getElem_toArray, List.getElem_cons_zero, List.getElem_cons_succ, Act.put, List.setIfInBounds_toArray, List.set_cons_zero, List.set_cons_succ])
  go_simp
  refine (plives17 u4).mono ?_
  rintro f5 u5 ⟨rfl, c5⟩
  have d5 : Below wG.heap.size wG u5 := d4.trans (c5.mono d4.size)
  refine hK.out _ _ (fun _ => HSS.out u5 d5) (fun hHeld0 => ?_)
  have hHeld := hHeld0 (by decide)
  clear hHeld0 hK K
  (try simp only [List.getElem_toArray, List.getElem_cons_zero, List.getElem_cons_succ, Act.put, List.setIfInBounds_toArray, List.set_cons_zero, List.set_cons_succ])
  refine wpAnyK_one (i := 19) (by kernel_rfl) rfl (fun K hK => ?_)
  (try simp only [List.getElem_toArray, List.getElem_cons_zero, List.getElem_cons_succ, Act.put, List.setIfInBounds_toArray, List.set_cons_zero, List.set_cons_succ])
  go_simp
  refine hK.out _ _ (fun _ => HSS.out u5 d5) (fun hHeld0 => ?_)
  have hHeld := hHeld0 (by decide)
  clear hHeld0 hK K
  (try simp only [List.getElem_toArray, List.getElem_cons_zero, List.getElem_cons_succ, Act.put, List.setIfInBounds_toArray, List.set_cons_zero, List.set_cons_succ])
  refine wpAnyK_one (i := 20) (by kernel_rfl) rfl (fun K hK => ?_)
  (try simp only [List.getElem_toArray, List.getElem_cons_zero, List.getElem_cons_succ, Act.put, List.setIfInBounds_toArray, List.set_cons_zero, List.set_cons_succ])
  go_simp
  refine hK.out _ _ (fun _ => HSS.out u5 d5) (fun hHeld0 => ?_)
  have hHeld := hHeld0 (by decide)
  clear hHeld0 hK K
  (try simp only [List.getElem_toArray, List.getElem_cons_zero, List.getElem_cons_succ, Act.put, List.setIfInBounds_toArray, List.set_cons_zero, List.set_cons_succ])
  refine wpAnyK_done (by kernel_rfl) ?_ _
  go_wp2
  go_ret
  exact ⟨rfl, HBL.out.trans ((HG6.out u5 d5).mono HBL.out.size)⟩
end Go.Proofs.Ytcgaembnibnglaa
