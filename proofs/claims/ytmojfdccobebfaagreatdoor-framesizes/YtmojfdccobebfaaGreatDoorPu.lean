import Derived.Test.YtmojfdccobebfaaGreatDoorPt
namespace Go.Proofs.YtmojfdccobebfaaGreatDoor
open Go.RowKit Go.Shelf
set_option linter.unusedVariables false

/-! FrameHeads. -/
theorem hh18_bd (h : Hd18) : ∀ z ∈ hh18 h, 0 ≤ z ∧ z ≤ 255 := by
  unfold hh18
  split
  · rename_i hk; exact sum18_bd (hd18_bd hk)
  · intro z hz; simp at hz
theorem hh18_len (h : Hd18) : (hh18 h).length ≤ 1000 := by
  unfold hh18
  split
  · rw [sum18_len, hd18_len]; have := encA_hv18 h; omega
  · simp
/-- Three answers, one behind the other: the second is written over. -/
theorem ow18_of {w0 w1 w2 w3 w4 : World} {L : List Int} {pw pa pb : Option Addr} {cw ca cb : Nat} (hbd : ∀ z ∈ L, 0 ≤ z ∧ z ≤ 255)
    (oW : w1.ownsRow w0.heap.size 5 1 (.slice pw L.length cw) L.length (L.map (Value.int .u8))) (oA : w2.ownsRow w1.heap.size 5 1 (.slice pa L.length ca) L.length (L.map (Value.int .u8))) (oB : w3.ownsRow w2.heap.size 5 1 (.slice pb L.length cb) L.length (L.map (Value.int .u8)))
    (b1 : Below w1.heap.size w1 w2) (b2 : Below w2.heap.size w2 w3) (b3 : Below w3.heap.size w3 w4) :
    w4.ownsRow w1.heap.size 5 1 (.slice pa L.length ca) L.length (L.map (Value.int .u8)) ∧ Ow18 w4 w1.heap.size pb pw L (.slice pa L.length ca) L.length w4 := by
  have b24 : Below w2.heap.size w2 w4 := b2.trans (b3.mono b2.size)
  have b14 : Below w1.heap.size w1 w4 := b1.trans (b24.mono b1.size)
  obtain ⟨-, aw, cw', hvw, sW, aW, -, -⟩ := own_seg oW (M := 255) (by decide) hbd
  injection hvw with y1 y2 y3
  subst y1
  obtain ⟨-, ab, cb', hvb, sB, aB, -, -⟩ := own_seg oB (M := 255) (by decide) hbd
  injection hvb with y1 y2 y3
  subst y1
  have oA4 := own_below oA b24
  have sW4 := sW.old b14
  have sB4 := sB.old b3
  refine ⟨oA4, ⟨⟨_, oA4⟩, sB4, sW4, Below.refl _ _, b14.size, Nat.le_refl _, ?_, ?_⟩⟩
  · intro k hk
    have hA := oA.lt k hk
    refine ⟨?_, ?_⟩
    · rintro ⟨off, e, _⟩
      have := (aB _ e).2.2.1
      simp only at this
      omega
    · rintro ⟨off, e, _⟩
      have := (aW _ e).2.2.2
      simp only at this
      omega
  · rintro k (⟨off, e, hp⟩ | ⟨off, e, hp⟩)
    · exact sB4.lt k off e hp
    · exact sW4.lt k off e hp
set_option maxRecDepth 100000 in
set_option maxHeartbeats 8000000 in
theorem frameHeads_walk (h : Hd18) (i : Int) (w : World) (ht : Tab w) (hso : 0 ≤ h.so ∧ h.so ≤ 4294967295) (hsn : 0 ≤ h.sn ∧ h.sn ≤ 4294967295) :
    Calls Tryz.prog 4 #[.agg #[.int .i64 h.o, .int .i64 h.n, .int .u32 h.so, .int .u32 h.sn, .int .i64 h.wi, .int .i64 h.lo], .int .i64 i] w fun e w' => e = .returned (.bool true) ∧ Below w.heap.size w w' := by
  obtain ⟨wA, b4, X⟩ := bx18 w h
  have HX : Hid (Bx18 w h wA b4) := X
  have HC : Hid (∀ V, Below wA.heap.size wA V → Cl18 V b4 h) := fun V hV => X.cl hV
  have HCC : Hid (∀ V, Below wA.heap.size wA V → V.cell? ⟨b4, 0, none⟩ = some (.int .i64 h.o) ∧ V.cell? ⟨b4, 1, none⟩ = some (.int .i64 h.n) ∧ V.cell? ⟨b4, 2, none⟩ = some (.int .u32 h.so) ∧ V.cell? ⟨b4, 3, none⟩ = some (.int .u32 h.sn) ∧ V.cell? ⟨b4, 4, none⟩ = some (.int .i64 h.wi) ∧ V.cell? ⟨b4, 5, none⟩ = some (.int .i64 h.lo)) := fun V hV => by
    have c := X.cl hV
    exact ⟨c.c0, c.c1, c.c2, c.c3, c.c4, c.c5⟩
  have HT : Hid (∀ V, Below wA.heap.size wA V → Tab V) := fun V hV => (ht.old X.bl).old hV
  have RH := rhead18 h wA hso hsn
  have HPH : Hid (∀ V, Below wA.heap.size wA V → Calls Tryz.prog 13 #[.agg #[.int .i64 h.o, .int .i64 h.n, .int .u32 h.so, .int .u32 h.sn, .int .i64 h.wi, .int .i64 h.lo]] V (HdQ18 V (hh18 h) (he18 h))) := fun V hV => phead18 h V (HT.out V hV) hso hsn
  have HBD : Hid (∀ z ∈ hh18 h, 0 ≤ z ∧ z ≤ 255) := hh18_bd h
  have HLL : Hid ((hh18 h).length ≤ 1000) := hh18_len h
  have HCK : Hid (∀ V, Calls Tryz.prog 14 #[.agg #[.int .i64 h.o, .int .i64 h.n, .int .u32 h.so, .int .u32 h.sn, .int .i64 h.wi, .int .i64 h.lo]] V fun e w' => e = .returned (.int .i64 (if h.Ok then 0 else 180)) ∧ Below V.heap.size V w') := pchk18 h
  have HRK : Hid (∀ V, Calls Tryz.prog 15 #[.agg #[.int .i64 h.o, .int .i64 h.n, .int .u32 h.so, .int .u32 h.sn, .int .i64 h.wi, .int .i64 h.lo]] V fun e w' => e = .returned (.int .i64 (if h.Ok then 0 else 180)) ∧ Below V.heap.size V w') := rchk18 h
  have HPW : Hid (∀ V, Calls Tryz.prog 10 #[.agg #[.int .i64 h.o, .int .i64 h.n, .int .u32 h.so, .int .u32 h.sn, .int .i64 h.wi, .int .i64 h.lo]] V fun e w' => e = .returned (.int .i64 (win18 h)) ∧ Below V.heap.size V w') := pwin18 h
  have HRW : Hid (∀ V, Calls Tryz.prog 16 #[.agg #[.int .i64 h.o, .int .i64 h.n, .int .u32 h.so, .int .u32 h.sn, .int .i64 h.wi, .int .i64 h.lo]] V fun e w' => e = .returned (.int .i64 (win18 h)) ∧ Below V.heap.size V w') := rwin18 h
  have HPS : Hid (∀ V, Calls Tryz.prog 11 #[.agg #[.int .i64 h.o, .int .i64 h.n, .int .u32 h.so, .int .u32 h.sn, .int .i64 h.wi, .int .i64 h.lo], .int .i64 i] V fun e w' => e = .returned (.int .i64 (siz18 h i)) ∧ Below V.heap.size V w') := psiz18 h i
  have HRS : Hid (∀ V, Calls Tryz.prog 17 #[.agg #[.int .i64 h.o, .int .i64 h.n, .int .u32 h.so, .int .u32 h.sn, .int .i64 h.wi, .int .i64 h.lo], .int .i64 i] V fun e w' => e = .returned (.int .i64 (siz18 h i)) ∧ Below V.heap.size V w') := rsiz18 h i
  generalize (if h.Ok then (0 : Int) else 180) = ck at *
  generalize win18 h = W at *
  generalize siz18 h i = Z at *
  generalize hh18 h = L at *
  generalize he18 h = er at *
  obtain ⟨l0, l1, l2, l3, l4, l5⟩ := X.cl (Below.refl _ _)
  rw [← X.wa] at l0 l1 l2 l3 l4 l5
  rw [← X.b] at l0 l1 l2 l3 l4 l5
  clear X ht hso hsn
  go_enter Tryz.func4, Tryz.ntmps4
  go_wp2_with fail
  rw [HX.out.wa, HX.out.b]
  clear l0 l1 l2 l3 l4 l5
  refine RH.mono ?_
  rintro e1 w1 ⟨p1, c1, rfl, o1, b1⟩
  have HO1 : Hid (w1.ownsRow wA.heap.size 5 1 (.slice p1 L.length c1) L.length (L.map (Value.int .u8))) := o1
  have HB1 : Hid (Below wA.heap.size wA w1) := b1
  clear RH o1 b1
  obtain ⟨l0, l1, l2, l3, l4, l5⟩ := HC.out w1 HB1.out
  go_wp2_with fail
  refine (HPH.out w1 HB1.out).mono ?_
  rintro e2 w2 ⟨p2, c2, rfl, o2, b2⟩
  have HO2 : Hid (w2.ownsRow w1.heap.size 5 1 (.slice p2 L.length c2) L.length (L.map (Value.int .u8))) := o2
  have H12 : Hid (Below w1.heap.size w1 w2) := b2
  have HB2 : Hid (Below wA.heap.size wA w2) := HB1.out.trans (b2.mono HB1.out.size)
  clear l0 l1 l2 l3 l4 l5 o2 b2
  obtain ⟨l0, l1, l2, l3, l4, l5⟩ := HC.out w2 HB2.out
  go_wp2_with fail
  refine (HPH.out w2 HB2.out).mono ?_
  rintro e3 w3 ⟨p3, c3, rfl, o3, b3⟩
  have HO3 : Hid (w3.ownsRow w2.heap.size 5 1 (.slice p3 L.length c3) L.length (L.map (Value.int .u8))) := o3
  have H23 : Hid (Below w2.heap.size w2 w3) := b3
  have HB3 : Hid (Below wA.heap.size wA w3) := HB2.out.trans (b3.mono HB2.out.size)
  clear l0 l1 l2 l3 l4 l5 o3 b3
  go_wp2_with fail
  have HD3 : Hid (Below w3.heap.size w3 w3.drew) := (Below.refl _ _).drew
  have HS : Hid (∀ V, Below w3.heap.size w3 V → V.cell? ⟨b4, 0, none⟩ = some (.int .i64 h.o) ∧ V.cell? ⟨b4, 1, none⟩ = some (.int .i64 h.n) ∧ V.cell? ⟨b4, 2, none⟩ = some (.int .u32 h.so) ∧ V.cell? ⟨b4, 3, none⟩ = some (.int .u32 h.sn) ∧ V.cell? ⟨b4, 4, none⟩ = some (.int .i64 h.wi) ∧ V.cell? ⟨b4, 5, none⟩ = some (.int .i64 h.lo)) := fun V hV => HCC.out V (HB3.out.trans (hV.mono HB3.out.size))
  refine plain_region16 (fun V => V.cell? ⟨b4, 0, none⟩ = some (.int .i64 h.o) ∧ V.cell? ⟨b4, 1, none⟩ = some (.int .i64 h.n) ∧ V.cell? ⟨b4, 2, none⟩ = some (.int .u32 h.so) ∧ V.cell? ⟨b4, 3, none⟩ = some (.int .u32 h.sn) ∧ V.cell? ⟨b4, 4, none⟩ = some (.int .i64 h.wi) ∧ V.cell? ⟨b4, 5, none⟩ = some (.int .i64 h.lo)) 22 (by kernel_rfl) (HS.out _ HD3.out) (fun hHeld => ?_)
  refine wpAnyK_take (i := 0) (v := .agg #[.int .i64 h.o, .int .i64 h.n, .int .u32 h.so, .int .u32 h.sn, .int .i64 h.wi, .int .i64 h.lo]) rfl (by kernel_rfl) (by kernel_rfl) (by kernel_rfl) (by kernel_rfl) (fun _ _ _ h => h) (Or.inl ⟨by rfl, fun w hSw => by go_simp⟩) hHeld ?_
  simp only [List.getElem_toArray, List.getElem_cons_zero, Act.put, List.setIfInBounds_toArray, List.set_cons_zero, List.set_cons_succ]
  refine wpAnyK_take (i := 3) (v := .agg #[.int .i64 h.o, .int .i64 h.n, .int .u32 h.so, .int .u32 h.sn, .int .i64 h.wi, .int .i64 h.lo]) rfl (by kernel_rfl) (by kernel_rfl) (by kernel_rfl) (by kernel_rfl) (fun _ _ _ h => h) (Or.inl ⟨by rfl, fun w hSw => by go_simp⟩) hHeld ?_
  simp only [List.getElem_toArray, List.getElem_cons_zero, List.getElem_cons_succ, Act.put, List.setIfInBounds_toArray, List.set_cons_zero, List.set_cons_succ]
  refine wpAnyK_one (i := 1) (by kernel_rfl) rfl (fun K hK => ?_)
  (try simp only [List.getElem_toArray, List.getElem_cons_zero, List.getElem_cons_succ, Act.put, List.setIfInBounds_toArray, List.set_cons_zero, List.set_cons_succ])
  go_simp
  refine (HCK.out _).mono ?_
  rintro e4 w4 ⟨rfl, b4'⟩
  have HB4 : Hid (Below w3.heap.size w3 w4) := HD3.out.trans (b4'.mono (Nat.le_refl _))
  clear b4'
  refine hK.out _ _ (fun _ => HS.out w4 HB4.out) (fun hHeld0 => ?_)
  have hHeld := hHeld0 (by decide)
  clear hHeld0 hK K
  (try simp only [List.getElem_toArray, List.getElem_cons_zero, List.getElem_cons_succ, Act.put, List.setIfInBounds_toArray, List.set_cons_zero, List.set_cons_succ])
  refine wpAnyK_one (i := 2) (by kernel_rfl) rfl (fun K hK => ?_)
  (try simp only [List.getElem_toArray, List.getElem_cons_zero, List.getElem_cons_succ, Act.put, List.setIfInBounds_toArray, List.set_cons_zero, List.set_cons_succ])
  go_simp
  refine (pnum18 ck w4).mono ?_
  rintro e5 w5 ⟨rfl, hw5⟩
  subst w5
  refine hK.out _ _ (fun _ => HS.out w4 HB4.out) (fun hHeld0 => ?_)
  have hHeld := hHeld0 (by decide)
  clear hHeld0 hK K
  (try simp only [List.getElem_toArray, List.getElem_cons_zero, List.getElem_cons_succ, Act.put, List.setIfInBounds_toArray, List.set_cons_zero, List.set_cons_succ])
  refine wpAnyK_one (i := 4) (by kernel_rfl) rfl (fun K hK => ?_)
  (try simp only [List.getElem_toArray, List.getElem_cons_zero, List.getElem_cons_succ, Act.put, List.setIfInBounds_toArray, List.set_cons_zero, List.set_cons_succ])
  go_simp
  refine (HRK.out _).mono ?_
  rintro e6 w6 ⟨rfl, b6⟩
  have HB6 : Hid (Below w3.heap.size w3 w6) := HB4.out.trans (b6.mono HB4.out.size)
  clear b6
  refine hK.out _ _ (fun _ => HS.out w6 HB6.out) (fun hHeld0 => ?_)
  have hHeld := hHeld0 (by decide)
  clear hHeld0 hK K
  (try simp only [List.getElem_toArray, List.getElem_cons_zero, List.getElem_cons_succ, Act.put, List.setIfInBounds_toArray, List.set_cons_zero, List.set_cons_succ])
  refine wpAnyK_one (i := 5) (by kernel_rfl) rfl (fun K hK => ?_)
  (try simp only [List.getElem_toArray, List.getElem_cons_zero, List.getElem_cons_succ, Act.put, List.setIfInBounds_toArray, List.set_cons_zero, List.set_cons_succ])
  go_simp
  refine hK.out _ _ (fun _ => HS.out w6 HB6.out) (fun hHeld0 => ?_)
  have hHeld := hHeld0 (by decide)
  clear hHeld0 hK K
  (try simp only [List.getElem_toArray, List.getElem_cons_zero, List.getElem_cons_succ, Act.put, List.setIfInBounds_toArray, List.set_cons_zero, List.set_cons_succ])
  refine wpAnyK_one (i := 6) (by kernel_rfl) rfl (fun K hK => ?_)
  (try simp only [List.getElem_toArray, List.getElem_cons_zero, List.getElem_cons_succ, Act.put, List.setIfInBounds_toArray, List.set_cons_zero, List.set_cons_succ])
  go_simp
  refine hK.out _ _ (fun _ => HS.out w6 HB6.out) (fun hHeld0 => ?_)
  have hHeld := hHeld0 (by decide)
  clear hHeld0 hK K
  (try simp only [List.getElem_toArray, List.getElem_cons_zero, List.getElem_cons_succ, Act.put, List.setIfInBounds_toArray, List.set_cons_zero, List.set_cons_succ])
  refine wpAnyK_take (i := 7) (v := .agg #[.int .i64 h.o, .int .i64 h.n, .int .u32 h.so, .int .u32 h.sn, .int .i64 h.wi, .int .i64 h.lo]) rfl (by kernel_rfl) (by kernel_rfl) (by kernel_rfl) (by kernel_rfl) (fun _ _ _ h => h) (Or.inl ⟨by rfl, fun w hSw => by go_simp⟩) hHeld ?_
  simp only [List.getElem_toArray, List.getElem_cons_zero, List.getElem_cons_succ, Act.put, List.setIfInBounds_toArray, List.set_cons_zero, List.set_cons_succ]
  refine wpAnyK_take (i := 9) (v := .agg #[.int .i64 h.o, .int .i64 h.n, .int .u32 h.so, .int .u32 h.sn, .int .i64 h.wi, .int .i64 h.lo]) rfl (by kernel_rfl) (by kernel_rfl) (by kernel_rfl) (by kernel_rfl) (fun _ _ _ h => h) (Or.inl ⟨by rfl, fun w hSw => by go_simp⟩) hHeld ?_
  simp only [List.getElem_toArray, List.getElem_cons_zero, List.getElem_cons_succ, Act.put, List.setIfInBounds_toArray, List.set_cons_zero, List.set_cons_succ]
  refine wpAnyK_one (i := 8) (by kernel_rfl) rfl (fun K hK => ?_)
  (try simp only [List.getElem_toArray, List.getElem_cons_zero, List.getElem_cons_succ, Act.put, List.setIfInBounds_toArray, List.set_cons_zero, List.set_cons_succ])
  go_simp
  refine (HPW.out _).mono ?_
  rintro e7 w7 ⟨rfl, b7⟩
  have HB7 : Hid (Below w3.heap.size w3 w7) := HB6.out.trans (b7.mono HB6.out.size)
  clear b7
  refine hK.out _ _ (fun _ => HS.out w7 HB7.out) (fun hHeld0 => ?_)
  have hHeld := hHeld0 (by decide)
  clear hHeld0 hK K
  (try simp only [List.getElem_toArray, List.getElem_cons_zero, List.getElem_cons_succ, Act.put, List.setIfInBounds_toArray, List.set_cons_zero, List.set_cons_succ])
  refine wpAnyK_one (i := 10) (by kernel_rfl) rfl (fun K hK => ?_)
  (try simp only [List.getElem_toArray, List.getElem_cons_zero, List.getElem_cons_succ, Act.put, List.setIfInBounds_toArray, List.set_cons_zero, List.set_cons_succ])
  go_simp
  refine (HRW.out _).mono ?_
  rintro e8 w8 ⟨rfl, b8⟩
  have HB8 : Hid (Below w3.heap.size w3 w8) := HB7.out.trans (b8.mono HB7.out.size)
  clear b8
  refine hK.out _ _ (fun _ => HS.out w8 HB8.out) (fun hHeld0 => ?_)
  have hHeld := hHeld0 (by decide)
  clear hHeld0 hK K
  (try simp only [List.getElem_toArray, List.getElem_cons_zero, List.getElem_cons_succ, Act.put, List.setIfInBounds_toArray, List.set_cons_zero, List.set_cons_succ])
  refine wpAnyK_one (i := 11) (by kernel_rfl) rfl (fun K hK => ?_)
  (try simp only [List.getElem_toArray, List.getElem_cons_zero, List.getElem_cons_succ, Act.put, List.setIfInBounds_toArray, List.set_cons_zero, List.set_cons_succ])
  go_simp
  refine hK.out _ _ (fun _ => HS.out w8 HB8.out) (fun hHeld0 => ?_)
  have hHeld := hHeld0 (by decide)
  clear hHeld0 hK K
  (try simp only [List.getElem_toArray, List.getElem_cons_zero, List.getElem_cons_succ, Act.put, List.setIfInBounds_toArray, List.set_cons_zero, List.set_cons_succ])
  refine wpAnyK_one (i := 12) (by kernel_rfl) rfl (fun K hK => ?_)
  (try simp only [List.getElem_toArray, List.getElem_cons_zero, List.getElem_cons_succ, Act.put, List.setIfInBounds_toArray, List.set_cons_zero, List.set_cons_succ])
  go_simp
  refine hK.out _ _ (fun _ => HS.out w8 HB8.out) (fun hHeld0 => ?_)
  have hHeld := hHeld0 (by decide)
  clear hHeld0 hK K
  (try simp only [List.getElem_toArray, List.getElem_cons_zero, List.getElem_cons_succ, Act.put, List.setIfInBounds_toArray, List.set_cons_zero, List.set_cons_succ])
  refine wpAnyK_one (i := 13) (by kernel_rfl) rfl (fun K hK => ?_)
  (try simp only [List.getElem_toArray, List.getElem_cons_zero, List.getElem_cons_succ, Act.put, List.setIfInBounds_toArray, List.set_cons_zero, List.set_cons_succ])
  go_simp
  refine hK.out _ _ (fun _ => HS.out w8 HB8.out) (fun hHeld0 => ?_)
  have hHeld := hHeld0 (by decide)
  clear hHeld0 hK K
  (try simp only [List.getElem_toArray, List.getElem_cons_zero, List.getElem_cons_succ, Act.put, List.setIfInBounds_toArray, List.set_cons_zero, List.set_cons_succ])
  refine wpAnyK_take (i := 14) (v := .agg #[.int .i64 h.o, .int .i64 h.n, .int .u32 h.so, .int .u32 h.sn, .int .i64 h.wi, .int .i64 h.lo]) rfl (by kernel_rfl) (by kernel_rfl) (by kernel_rfl) (by kernel_rfl) (fun _ _ _ h => h) (Or.inl ⟨by rfl, fun w hSw => by go_simp⟩) hHeld ?_
  simp only [List.getElem_toArray, List.getElem_cons_zero, List.getElem_cons_succ, Act.put, List.setIfInBounds_toArray, List.set_cons_zero, List.set_cons_succ]
  refine wpAnyK_take (i := 15) (v := .int .i64 i) rfl (by kernel_rfl) (by kernel_rfl) (by kernel_rfl) (by kernel_rfl) (fun _ _ _ h => h) (Or.inl ⟨by rfl, fun w hSw => by go_simp⟩) hHeld ?_
  simp only [List.getElem_toArray, List.getElem_cons_zero, List.getElem_cons_succ, Act.put, List.setIfInBounds_toArray, List.set_cons_zero, List.set_cons_succ]
  refine wpAnyK_take (i := 17) (v := .agg #[.int .i64 h.o, .int .i64 h.n, .int .u32 h.so, .int .u32 h.sn, .int .i64 h.wi, .int .i64 h.lo]) rfl (by kernel_rfl) (by kernel_rfl) (by kernel_rfl) (by kernel_rfl) (fun _ _ _ h => h) (Or.inl ⟨by rfl, fun w hSw => by go_simp⟩) hHeld ?_
  simp only [List.getElem_toArray, List.getElem_cons_zero, List.getElem_cons_succ, Act.put, List.setIfInBounds_toArray, List.set_cons_zero, List.set_cons_succ]
  refine wpAnyK_take (i := 18) (v := .int .i64 i) rfl (by kernel_rfl) (by kernel_rfl) (by kernel_rfl) (by kernel_rfl) (fun _ _ _ h => h) (Or.inl ⟨by rfl, fun w hSw => by go_simp⟩) hHeld ?_
  simp only [List.getElem_toArray, List.getElem_cons_zero, List.getElem_cons_succ, Act.put, List.setIfInBounds_toArray, List.set_cons_zero, List.set_cons_succ]
  refine wpAnyK_one (i := 16) (by kernel_rfl) rfl (fun K hK => ?_)
  (try simp only [List.getElem_toArray, List.getElem_cons_zero, List.getElem_cons_succ, Act.put, List.setIfInBounds_toArray, List.set_cons_zero, List.set_cons_succ])
  go_simp
  refine (HPS.out _).mono ?_
  rintro e9 w9 ⟨rfl, b9⟩
  have HB9 : Hid (Below w3.heap.size w3 w9) := HB8.out.trans (b9.mono HB8.out.size)
  clear b9
  refine hK.out _ _ (fun _ => HS.out w9 HB9.out) (fun hHeld0 => ?_)
  have hHeld := hHeld0 (by decide)
  clear hHeld0 hK K
  (try simp only [List.getElem_toArray, List.getElem_cons_zero, List.getElem_cons_succ, Act.put, List.setIfInBounds_toArray, List.set_cons_zero, List.set_cons_succ])
  refine wpAnyK_one (i := 19) (by kernel_rfl) rfl (fun K hK => ?_)
  (try simp only [List.getElem_toArray, List.getElem_cons_zero, List.getElem_cons_succ, Act.put, List.setIfInBounds_toArray, List.set_cons_zero, List.set_cons_succ])
  go_simp
  refine (HRS.out _).mono ?_
  rintro e10 w10 ⟨rfl, b10⟩
  have HB10 : Hid (Below w3.heap.size w3 w10) := HB9.out.trans (b10.mono HB9.out.size)
  clear b10
  refine hK.out _ _ (fun _ => HS.out w10 HB10.out) (fun hHeld0 => ?_)
  have hHeld := hHeld0 (by decide)
  clear hHeld0 hK K
  (try simp only [List.getElem_toArray, List.getElem_cons_zero, List.getElem_cons_succ, Act.put, List.setIfInBounds_toArray, List.set_cons_zero, List.set_cons_succ])
  refine wpAnyK_one (i := 20) (by kernel_rfl) rfl (fun K hK => ?_)
  (try simp only [List.getElem_toArray, List.getElem_cons_zero, List.getElem_cons_succ, Act.put, List.setIfInBounds_toArray, List.set_cons_zero, List.set_cons_succ])
  go_simp
  refine hK.out _ _ (fun _ => HS.out w10 HB10.out) (fun hHeld0 => ?_)
  have hHeld := hHeld0 (by decide)
  clear hHeld0 hK K
  (try simp only [List.getElem_toArray, List.getElem_cons_zero, List.getElem_cons_succ, Act.put, List.setIfInBounds_toArray, List.set_cons_zero, List.set_cons_succ])
  refine wpAnyK_one (i := 21) (by kernel_rfl) rfl (fun K hK => ?_)
  (try simp only [List.getElem_toArray, List.getElem_cons_zero, List.getElem_cons_succ, Act.put, List.setIfInBounds_toArray, List.set_cons_zero, List.set_cons_succ])
  go_simp
  refine hK.out _ _ (fun _ => HS.out w10 HB10.out) (fun hHeld0 => ?_)
  clear hHeld0 hK K
  (try simp only [List.getElem_toArray, List.getElem_cons_zero, List.getElem_cons_succ, Act.put, List.setIfInBounds_toArray, List.set_cons_zero, List.set_cons_succ])
  refine wpAnyK_done (by kernel_rfl) ?_ _
  obtain ⟨oA, hOw⟩ := ow18_of HBD.out HO1.out HO2.out HO3.out H12.out H23.out HB10.out
  have OW := pown18 w1.heap.size p2 p3 p1 c2 c3 c1 L w10 HBD.out (by have := HLL.out; omega) oA hOw
  have HA10 : Hid (Below wA.heap.size wA w10) := HB3.out.trans (HB10.out.mono HB3.out.size)
  clear oA hOw
  go_wp2_with fail
  refine (pnum18 er w10).mono ?_
  rintro e11 w11 ⟨rfl, hw11⟩
  subst w11
  go_wp2_with fail
  refine (pnum18 er w10).mono ?_
  rintro e11 w11 ⟨rfl, hw11⟩
  subst w11
  go_wp2_with fail
  refine OW.mono ?_
  rintro e12 w12 ⟨rfl, b12⟩
  have HA12 : Hid (Below wA.heap.size wA w12) := HA10.out.trans (b12.mono HB1.out.size)
  have AW := pawk18 w12 (HT.out w12 HA12.out)
  clear b12 OW
  go_wp2_with fail
  refine AW.mono ?_
  rintro e13 w13 ⟨rfl, b13⟩
  have HA13 : Below wA.heap.size wA w13 := HA12.out.trans (b13.mono HA12.out.size)
  go_wp2_with fail
  go_ret
  exact ⟨rfl, HX.out.bl.trans (HA13.mono HX.out.bl.size)⟩
end Go.Proofs.YtmojfdccobebfaaGreatDoor
