import Derived.Test.YtmojfdccobebfaaGreatDoorPq
namespace Go.Proofs.YtmojfdccobebfaaGreatDoor
open Go.RowKit Go.Shelf
set_option linter.unusedVariables false

/-! The document's Most, Fits. -/
set_option maxRecDepth 100000 in
theorem rmost18 (x : Int) (w : World) (h1 : 64 ≤ x) (h2 : x ≤ 65536) : Calls Tryz.prog 44 #[.int .i64 x] w fun e w' => e = .returned (.int .i64 (6 * x)) ∧ w' = w := by
  have C : Calls Tryz.prog 72 #[.int .i64 x, .int .i64 64, .int .i64 65536] w fun e w' => e = .returned (.bool true) ∧ w' = w := by
    go_enter Tryz.func72, Tryz.ntmps72
    go_wp2
    go_ret
    exact ⟨rfl, rfl⟩
  have hw : IntKind.i64.wrap (6 * x) = 6 * x := IntWalk.i64_in _ (by omega)
  go_enter Tryz.func44, Tryz.ntmps44
  go_wp2_with fail
  refine C.mono ?_
  rintro e w' ⟨rfl, hw'⟩
  subst w'
  go_wp2_with fail
  go_ret
  exact ⟨rfl, rfl⟩
/-- A field of Packed. -/
def Pk18 (r k : Int) : Prop := (if r = 0 then 0 else 1) ≤ k ∧ k ≤ (if r = 0 then 0 else 4 * r + 64)
theorem fs18_iff {h : Hd18} {Z : Int} {s : Sz18} : Fs18 h Z s ↔ ((0 ≤ s.p ∧ s.p ≤ h.o) ∧ (1 ≤ s.r0 ∧ s.r0 ≤ 6 * h.wi) ∧ (0 ≤ s.r1 ∧ s.r1 ≤ Z) ∧ s.r2 = Z - s.r1) ∧ Pk18 s.r0 s.k0 ∧ Pk18 s.r1 s.k1 ∧ Pk18 s.r2 s.k2 := by
  constructor
  · rintro ⟨f0, f1, f2, f3, f4, f5, f6⟩
    have f3 : Z - s.r1 ≤ s.r2 ∧ s.r2 ≤ Z - s.r1 := f3
    exact ⟨⟨f0, f1, f2, by omega⟩, f4, f5, f6⟩
  · rintro ⟨⟨f0, f1, f2, f3⟩, f4, f5, f6⟩
    exact ⟨f0, f1, f2, (show Z - s.r1 ≤ s.r2 ∧ s.r2 ≤ Z - s.r1 by omega), f4, f5, f6⟩
theorem pk18_z {k : Int} : Pk18 0 k ↔ k = 0 := by unfold Pk18; simp; omega
theorem pk18_n {r k : Int} (h : ¬ r = 0) : Pk18 r k ↔ (1 ≤ k ∧ k ≤ 4 * r + 64) := by unfold Pk18; rw [if_neg h, if_neg h]
/-- The first n of Packed. -/
def Pn18 (s : Sz18) (n : Nat) : Prop := (0 < n → Pk18 s.r0 s.k0) ∧ (1 < n → Pk18 s.r1 s.k1) ∧ (2 < n → Pk18 s.r2 s.k2)
set_option maxRecDepth 100000 in
set_option maxHeartbeats 16000000 in
theorem rfts18 (h : Hd18) (i : Int) (s : Sz18) (w : World) : Calls Tryz.prog 25 #[.agg #[.int .i64 h.o, .int .i64 h.n, .int .u32 h.so, .int .u32 h.sn, .int .i64 h.wi, .int .i64 h.lo], .int .i64 i, .agg #[.int .i64 s.p, .int .i64 s.r0, .int .i64 s.r1, .int .i64 s.r2, .int .i64 s.k0, .int .i64 s.k1, .int .i64 s.k2]] w fun e w' => e = .returned (.int .i64 (ft18 h i s)) ∧ Below w.heap.size w w' := by
  obtain ⟨wB, b4, b5, X⟩ := bw18 w h s
  have HX : Hid (Bw18 w h s wB b4 b5) := X
  obtain ⟨l0, l1, l2, l3, l4, l5⟩ := X.cl (Below.refl _ _)
  obtain ⟨m0, m1, m2, m3, m4, m5, m6⟩ := X.cz (Below.refl _ _)
  rw [← X.wa] at l0 l1 l2 l3 l4 l5 m0 m1 m2 m3 m4 m5 m6
  rw [← X.e5] at m0 m1 m2 m3 m4 m5 m6
  rw [← X.e4] at l0 l1 l2 l3 l4 l5 m0 m1 m2 m3 m4 m5 m6
  have CK := rchk18 h wB
  clear X
  unfold ft18
  by_cases hk : h.Ok
  · rw [if_pos hk]
    rw [if_pos hk] at CK
    by_cases h0 : i < 0
    · rw [if_pos (.inl h0)]
      clear hk
      go_enter Tryz.func25, Tryz.ntmps25
      go_wp2_with fail
      rw [HX.out.wa, HX.out.e4, HX.out.e5]
      clear l0 l1 l2 l3 l4 l5 m0 m1 m2 m3 m4 m5 m6
      refine CK.mono ?_
      rintro e1 w1 ⟨rfl, b1⟩
      have HB1 : Hid (Below wB.heap.size wB w1) := b1
      clear b1 CK
      obtain ⟨l0, l1, l2, l3, l4, l5⟩ := HX.out.cl HB1.out
      go_wp2_with fail
      go_ret
      exact ⟨rfl, HX.out.bl.trans (HB1.out.mono HX.out.bl.size)⟩
    · have HPW := fun V => rwin18 h V
      by_cases h1 : win18 h ≤ i
      · rw [if_pos (.inr h1)]
        generalize win18 h = W at *
        clear hk
        go_enter Tryz.func25, Tryz.ntmps25
        go_wp2_with fail
        rw [HX.out.wa, HX.out.e4, HX.out.e5]
        clear l0 l1 l2 l3 l4 l5 m0 m1 m2 m3 m4 m5 m6
        refine CK.mono ?_
        rintro e1 w1 ⟨rfl, b1⟩
        have HB1 : Hid (Below wB.heap.size wB w1) := b1
        clear b1 CK
        obtain ⟨l0, l1, l2, l3, l4, l5⟩ := HX.out.cl HB1.out
        go_wp2_with fail
        refine (HPW w1).mono ?_
        rintro e2 w2 ⟨rfl, b2⟩
        have HB2 : Hid (Below wB.heap.size wB w2) := HB1.out.trans (b2.mono HB1.out.size)
        clear b2
        go_wp2_with fail
        go_ret
        exact ⟨rfl, HX.out.bl.trans (HB2.out.mono HX.out.bl.size)⟩
      · have hnv : ¬ (i < 0 ∨ win18 h ≤ i) := by omega
        rw [if_neg hnv]
        have hZ := siz18_bd hk hnv
        have PS := fun V => rsiz18 h i V
        have HZ : Hid (0 ≤ siz18 h i ∧ siz18 h i ≤ 65536 ∧ 64 ≤ h.wi ∧ h.wi ≤ 65536) := hZ
        have HMO : Hid (∀ V, Calls Tryz.prog 44 #[.int .i64 h.wi] V fun e w' => e = .returned (.int .i64 (6 * h.wi)) ∧ w' = V) := fun V => rmost18 h.wi V hZ.2.2.1 hZ.2.2.2
        generalize siz18 h i = Z at *
        generalize win18 h = W at *
        have HPS : Hid (∀ V, Calls Tryz.prog 17 #[.agg #[.int .i64 h.o, .int .i64 h.n, .int .u32 h.so, .int .u32 h.sn, .int .i64 h.wi, .int .i64 h.lo], .int .i64 i] V fun e w' => e = .returned (.int .i64 Z) ∧ Below V.heap.size V w') := PS
        clear hk hnv hZ PS
        obtain ⟨fv, hfv⟩ : ∃ fv, fv = (if Fs18 h Z s then (0 : Int) else 181) := ⟨_, rfl⟩
        rw [← hfv]
        have HDN : Hid (¬ Fs18 h Z s → fv = 181) := fun x => by rw [hfv, if_neg x]
        have HDI : Hid (Fs18 h Z s → fv = 0) := fun x => by rw [hfv, if_pos x]
        clear hfv
        by_cases f0 : 0 ≤ s.p ∧ s.p ≤ h.o
        · have C0 := fun V => rwit18_t f0 V
          by_cases f1 : 1 ≤ s.r0 ∧ s.r0 ≤ 6 * h.wi
          · have C1 := fun V => rwit18_t f1 V
            by_cases f2 : 0 ≤ s.r1 ∧ s.r1 ≤ Z
            · have C2 := fun V => rwit18_t f2 V
              have hw9 : IntKind.i64.wrap (Z - s.r1) = Z - s.r1 := IntWalk.i64_in _ (by have := HZ.out; omega)
              by_cases f3 : s.r2 = Z - s.r1
              · have d3 : (s.r2 == Z - s.r1) = true := by simp [f3]
                have HDY : Hid (Pn18 s 3 → fv = 0) := fun x => HDI.out (fs18_iff.2 ⟨⟨f0, f1, f2, f3⟩, x.1 (by omega), x.2.1 (by omega), x.2.2 (by omega)⟩)
                have HRB : Hid ((0 ≤ s.r0 ∧ s.r0 ≤ 16777216) ∧ (0 ≤ s.r1 ∧ s.r1 ≤ 16777216) ∧ (0 ≤ s.r2 ∧ s.r2 ≤ 16777216)) := by have := HZ.out; exact ⟨by omega, by omega, by omega⟩
                clear f0 f1 f2 f3
                go_enter Tryz.func25, Tryz.ntmps25
                go_wp2_with fail
                rw [HX.out.wa, HX.out.e4, HX.out.e5]
                clear l0 l1 l2 l3 l4 l5 m0 m1 m2 m3 m4 m5 m6
                refine CK.mono ?_
                rintro e1 w1 ⟨rfl, b1⟩
                have HB1 : Hid (Below wB.heap.size wB w1) := b1
                clear b1 CK
                obtain ⟨l0, l1, l2, l3, l4, l5⟩ := HX.out.cl HB1.out
                go_wp2_with fail
                refine (HPW w1).mono ?_
                rintro e2 w2 ⟨rfl, b2⟩
                have HB2 : Hid (Below wB.heap.size wB w2) := HB1.out.trans (b2.mono HB1.out.size)
                clear b2 l0 l1 l2 l3 l4 l5
                obtain ⟨l0, l1, l2, l3, l4, l5⟩ := HX.out.cl HB2.out
                go_wp2_with fail
                refine (HPS.out w2).mono ?_
                rintro e3 w3 ⟨rfl, b3⟩
                have HB3 : Hid (Below wB.heap.size wB w3) := HB2.out.trans (b3.mono HB2.out.size)
                clear b3 l0 l1 l2 l3 l4 l5
                obtain ⟨l0, l1, l2, l3, l4, l5⟩ := HX.out.cl HB3.out
                obtain ⟨m0, m1, m2, m3, m4, m5, m6⟩ := HX.out.cz HB3.out
                go_wp2_with fail
                have HS : Hid (w3.drew.cell? ⟨b5, 0, none⟩ = some (.int .i64 s.p) ∧ w3.drew.cell? ⟨b5, 1, none⟩ = some (.int .i64 s.r0) ∧ w3.drew.cell? ⟨b5, 2, none⟩ = some (.int .i64 s.r1) ∧ w3.drew.cell? ⟨b5, 3, none⟩ = some (.int .i64 s.r2) ∧ w3.drew.cell? ⟨b4, 0, none⟩ = some (.int .i64 h.o) ∧ w3.drew.cell? ⟨b4, 4, none⟩ = some (.int .i64 h.wi)) := ⟨m0, m1, m2, m3, l0, l4⟩
                clear l0 l1 l2 l3 l4 l5 m0 m1 m2 m3 m4 m5 m6
                refine plain_region16 (fun V => V.cell? ⟨b5, 0, none⟩ = some (.int .i64 s.p) ∧ V.cell? ⟨b5, 1, none⟩ = some (.int .i64 s.r0) ∧ V.cell? ⟨b5, 2, none⟩ = some (.int .i64 s.r1) ∧ V.cell? ⟨b5, 3, none⟩ = some (.int .i64 s.r2) ∧ V.cell? ⟨b4, 0, none⟩ = some (.int .i64 h.o) ∧ V.cell? ⟨b4, 4, none⟩ = some (.int .i64 h.wi)) 33 (by kernel_rfl) HS.out (fun hHeld => ?_)
                refine wpAnyK_take (i := 0) (v := .pointer (some ⟨b5, 0, none⟩)) rfl (by kernel_rfl) (by kernel_rfl) (by kernel_rfl) (by kernel_rfl) (fun _ _ _ h => h) (Or.inl ⟨by rfl, fun w hSw => by go_simp⟩) hHeld ?_
                simp only [List.getElem_toArray, List.getElem_cons_zero, Act.put, List.setIfInBounds_toArray, List.set_cons_zero, List.set_cons_succ]
                refine wpAnyK_take (i := 1) (v := .int .i64 s.p) rfl (by kernel_rfl) (by kernel_rfl) (by kernel_rfl) (by kernel_rfl) (fun _ _ _ h => h) (Or.inl ⟨by rfl, fun w hSw => by go_simp⟩) hHeld ?_
                simp only [List.getElem_toArray, List.getElem_cons_zero, List.getElem_cons_succ, Act.put, List.setIfInBounds_toArray, List.set_cons_zero, List.set_cons_succ]
                refine wpAnyK_take (i := 2) (v := .pointer (some ⟨b4, 0, none⟩)) rfl (by kernel_rfl) (by kernel_rfl) (by kernel_rfl) (by kernel_rfl) (fun _ _ _ h => h) (Or.inl ⟨by rfl, fun w hSw => by go_simp⟩) hHeld ?_
                simp only [List.getElem_toArray, List.getElem_cons_zero, List.getElem_cons_succ, Act.put, List.setIfInBounds_toArray, List.set_cons_zero, List.set_cons_succ]
                refine wpAnyK_take (i := 3) (v := .int .i64 h.o) rfl (by kernel_rfl) (by kernel_rfl) (by kernel_rfl) (by kernel_rfl) (fun _ _ _ h => h) (Or.inl ⟨by rfl, fun w hSw => by go_simp⟩) hHeld ?_
                simp only [List.getElem_toArray, List.getElem_cons_zero, List.getElem_cons_succ, Act.put, List.setIfInBounds_toArray, List.set_cons_zero, List.set_cons_succ]
                refine wpAnyK_one (i := 4) (by kernel_rfl) rfl (fun K hK => ?_)
                (try simp only [List.getElem_toArray, List.getElem_cons_zero, List.getElem_cons_succ, Act.put, List.setIfInBounds_toArray, List.set_cons_zero, List.set_cons_succ])
                go_simp
                refine (C0 _).mono ?_
                rintro e9 w9 ⟨rfl, hw9⟩
                subst w9
                refine hK.out _ _ (fun _ => HS.out) (fun hHeld0 => ?_)
                have hHeld := hHeld0 (by decide)
                clear hHeld0 hK K
                (try simp only [List.getElem_toArray, List.getElem_cons_zero, List.getElem_cons_succ, Act.put, List.setIfInBounds_toArray, List.set_cons_zero, List.set_cons_succ])
                refine wpAnyK_one (i := 5) (by kernel_rfl) rfl (fun K hK => ?_)
                (try simp only [List.getElem_toArray, List.getElem_cons_zero, List.getElem_cons_succ, Act.put, List.setIfInBounds_toArray, List.set_cons_zero, List.set_cons_succ])
                go_simp
                refine hK.out _ _ (fun _ => HS.out) (fun hHeld0 => ?_)
                have hHeld := hHeld0 (by decide)
                clear hHeld0 hK K
                (try simp only [List.getElem_toArray, List.getElem_cons_zero, List.getElem_cons_succ, Act.put, List.setIfInBounds_toArray, List.set_cons_zero, List.set_cons_succ])
                refine wpAnyK_take (i := 6) (v := .pointer (some ⟨b5, 1, none⟩)) rfl (by kernel_rfl) (by kernel_rfl) (by kernel_rfl) (by kernel_rfl) (fun _ _ _ h => h) (Or.inl ⟨by rfl, fun w hSw => by go_simp⟩) hHeld ?_
                simp only [List.getElem_toArray, List.getElem_cons_zero, List.getElem_cons_succ, Act.put, List.setIfInBounds_toArray, List.set_cons_zero, List.set_cons_succ]
                refine wpAnyK_take (i := 7) (v := .pointer (some ⟨b5, 1, none⟩)) rfl (by kernel_rfl) (by kernel_rfl) (by kernel_rfl) (by kernel_rfl) (fun _ _ _ h => h) (Or.inl ⟨by rfl, fun w hSw => by go_simp⟩) hHeld ?_
                simp only [List.getElem_toArray, List.getElem_cons_zero, List.getElem_cons_succ, Act.put, List.setIfInBounds_toArray, List.set_cons_zero, List.set_cons_succ]
                refine wpAnyK_take (i := 8) (v := .int .i64 s.r0) rfl (by kernel_rfl) (by kernel_rfl) (by kernel_rfl) (by kernel_rfl) (fun _ _ _ h => h) (Or.inl ⟨by rfl, fun w hSw => by go_simp⟩) hHeld ?_
                simp only [List.getElem_toArray, List.getElem_cons_zero, List.getElem_cons_succ, Act.put, List.setIfInBounds_toArray, List.set_cons_zero, List.set_cons_succ]
                refine wpAnyK_take (i := 9) (v := .pointer (some ⟨b4, 4, none⟩)) rfl (by kernel_rfl) (by kernel_rfl) (by kernel_rfl) (by kernel_rfl) (fun _ _ _ h => h) (Or.inl ⟨by rfl, fun w hSw => by go_simp⟩) hHeld ?_
                simp only [List.getElem_toArray, List.getElem_cons_zero, List.getElem_cons_succ, Act.put, List.setIfInBounds_toArray, List.set_cons_zero, List.set_cons_succ]
                refine wpAnyK_take (i := 10) (v := .int .i64 h.wi) rfl (by kernel_rfl) (by kernel_rfl) (by kernel_rfl) (by kernel_rfl) (fun _ _ _ h => h) (Or.inl ⟨by rfl, fun w hSw => by go_simp⟩) hHeld ?_
                simp only [List.getElem_toArray, List.getElem_cons_zero, List.getElem_cons_succ, Act.put, List.setIfInBounds_toArray, List.set_cons_zero, List.set_cons_succ]
                refine wpAnyK_one (i := 11) (by kernel_rfl) rfl (fun K hK => ?_)
                (try simp only [List.getElem_toArray, List.getElem_cons_zero, List.getElem_cons_succ, Act.put, List.setIfInBounds_toArray, List.set_cons_zero, List.set_cons_succ])
                go_simp
                refine (HMO.out _).mono ?_
                rintro e9 w9 ⟨rfl, hw9⟩
                subst w9
                refine hK.out _ _ (fun _ => HS.out) (fun hHeld0 => ?_)
                have hHeld := hHeld0 (by decide)
                clear hHeld0 hK K
                (try simp only [List.getElem_toArray, List.getElem_cons_zero, List.getElem_cons_succ, Act.put, List.setIfInBounds_toArray, List.set_cons_zero, List.set_cons_succ])
                refine wpAnyK_one (i := 12) (by kernel_rfl) rfl (fun K hK => ?_)
                (try simp only [List.getElem_toArray, List.getElem_cons_zero, List.getElem_cons_succ, Act.put, List.setIfInBounds_toArray, List.set_cons_zero, List.set_cons_succ])
                go_simp
                refine (C1 _).mono ?_
                rintro e9 w9 ⟨rfl, hw9⟩
                subst w9
                refine hK.out _ _ (fun _ => HS.out) (fun hHeld0 => ?_)
                have hHeld := hHeld0 (by decide)
                clear hHeld0 hK K
                (try simp only [List.getElem_toArray, List.getElem_cons_zero, List.getElem_cons_succ, Act.put, List.setIfInBounds_toArray, List.set_cons_zero, List.set_cons_succ])
                refine wpAnyK_one (i := 13) (by kernel_rfl) rfl (fun K hK => ?_)
                (try simp only [List.getElem_toArray, List.getElem_cons_zero, List.getElem_cons_succ, Act.put, List.setIfInBounds_toArray, List.set_cons_zero, List.set_cons_succ])
                go_simp
                refine hK.out _ _ (fun _ => HS.out) (fun hHeld0 => ?_)
                have hHeld := hHeld0 (by decide)
                clear hHeld0 hK K
                (try simp only [List.getElem_toArray, List.getElem_cons_zero, List.getElem_cons_succ, Act.put, List.setIfInBounds_toArray, List.set_cons_zero, List.set_cons_succ])
                refine wpAnyK_one (i := 14) (by kernel_rfl) rfl (fun K hK => ?_)
                (try simp only [List.getElem_toArray, List.getElem_cons_zero, List.getElem_cons_succ, Act.put, List.setIfInBounds_toArray, List.set_cons_zero, List.set_cons_succ])
                go_simp
                refine hK.out _ _ (fun _ => HS.out) (fun hHeld0 => ?_)
                have hHeld := hHeld0 (by decide)
                clear hHeld0 hK K
                (try simp only [List.getElem_toArray, List.getElem_cons_zero, List.getElem_cons_succ, Act.put, List.setIfInBounds_toArray, List.set_cons_zero, List.set_cons_succ])
                refine wpAnyK_take (i := 15) (v := .pointer (some ⟨b5, 1, none⟩)) rfl (by kernel_rfl) (by kernel_rfl) (by kernel_rfl) (by kernel_rfl) (fun _ _ _ h => h) (Or.inl ⟨by rfl, fun w hSw => by go_simp⟩) hHeld ?_
                simp only [List.getElem_toArray, List.getElem_cons_zero, List.getElem_cons_succ, Act.put, List.setIfInBounds_toArray, List.set_cons_zero, List.set_cons_succ]
                refine wpAnyK_take (i := 16) (v := .pointer (some ⟨b5, 2, none⟩)) rfl (by kernel_rfl) (by kernel_rfl) (by kernel_rfl) (by kernel_rfl) (fun _ _ _ h => h) (Or.inl ⟨by rfl, fun w hSw => by go_simp⟩) hHeld ?_
                simp only [List.getElem_toArray, List.getElem_cons_zero, List.getElem_cons_succ, Act.put, List.setIfInBounds_toArray, List.set_cons_zero, List.set_cons_succ]
                refine wpAnyK_take (i := 17) (v := .int .i64 s.r1) rfl (by kernel_rfl) (by kernel_rfl) (by kernel_rfl) (by kernel_rfl) (fun _ _ _ h => h) (Or.inl ⟨by rfl, fun w hSw => by go_simp⟩) hHeld ?_
                simp only [List.getElem_toArray, List.getElem_cons_zero, List.getElem_cons_succ, Act.put, List.setIfInBounds_toArray, List.set_cons_zero, List.set_cons_succ]
                refine wpAnyK_take (i := 18) (v := .int .i64 Z) rfl (by kernel_rfl) (by kernel_rfl) (by kernel_rfl) (by kernel_rfl) (fun _ _ _ h => h) (Or.inl ⟨by rfl, fun w hSw => by go_simp⟩) hHeld ?_
                simp only [List.getElem_toArray, List.getElem_cons_zero, List.getElem_cons_succ, Act.put, List.setIfInBounds_toArray, List.set_cons_zero, List.set_cons_succ]
                refine wpAnyK_one (i := 19) (by kernel_rfl) rfl (fun K hK => ?_)
                (try simp only [List.getElem_toArray, List.getElem_cons_zero, List.getElem_cons_succ, Act.put, List.setIfInBounds_toArray, List.set_cons_zero, List.set_cons_succ])
                go_simp
                refine (C2 _).mono ?_
                rintro e9 w9 ⟨rfl, hw9⟩
                subst w9
                refine hK.out _ _ (fun _ => HS.out) (fun hHeld0 => ?_)
                have hHeld := hHeld0 (by decide)
                clear hHeld0 hK K
                (try simp only [List.getElem_toArray, List.getElem_cons_zero, List.getElem_cons_succ, Act.put, List.setIfInBounds_toArray, List.set_cons_zero, List.set_cons_succ])
                refine wpAnyK_one (i := 20) (by kernel_rfl) rfl (fun K hK => ?_)
                (try simp only [List.getElem_toArray, List.getElem_cons_zero, List.getElem_cons_succ, Act.put, List.setIfInBounds_toArray, List.set_cons_zero, List.set_cons_succ])
                go_simp
                refine hK.out _ _ (fun _ => HS.out) (fun hHeld0 => ?_)
                have hHeld := hHeld0 (by decide)
                clear hHeld0 hK K
                (try simp only [List.getElem_toArray, List.getElem_cons_zero, List.getElem_cons_succ, Act.put, List.setIfInBounds_toArray, List.set_cons_zero, List.set_cons_succ])
                refine wpAnyK_one (i := 21) (by kernel_rfl) rfl (fun K hK => ?_)
                (try simp only [List.getElem_toArray, List.getElem_cons_zero, List.getElem_cons_succ, Act.put, List.setIfInBounds_toArray, List.set_cons_zero, List.set_cons_succ])
                go_simp
                refine hK.out _ _ (fun _ => HS.out) (fun hHeld0 => ?_)
                have hHeld := hHeld0 (by decide)
                clear hHeld0 hK K
                (try simp only [List.getElem_toArray, List.getElem_cons_zero, List.getElem_cons_succ, Act.put, List.setIfInBounds_toArray, List.set_cons_zero, List.set_cons_succ])
                refine wpAnyK_take (i := 22) (v := .pointer (some ⟨b5, 1, none⟩)) rfl (by kernel_rfl) (by kernel_rfl) (by kernel_rfl) (by kernel_rfl) (fun _ _ _ h => h) (Or.inl ⟨by rfl, fun w hSw => by go_simp⟩) hHeld ?_
                simp only [List.getElem_toArray, List.getElem_cons_zero, List.getElem_cons_succ, Act.put, List.setIfInBounds_toArray, List.set_cons_zero, List.set_cons_succ]
                refine wpAnyK_take (i := 23) (v := .pointer (some ⟨b5, 3, none⟩)) rfl (by kernel_rfl) (by kernel_rfl) (by kernel_rfl) (by kernel_rfl) (fun _ _ _ h => h) (Or.inl ⟨by rfl, fun w hSw => by go_simp⟩) hHeld ?_
                simp only [List.getElem_toArray, List.getElem_cons_zero, List.getElem_cons_succ, Act.put, List.setIfInBounds_toArray, List.set_cons_zero, List.set_cons_succ]
                refine wpAnyK_take (i := 24) (v := .int .i64 s.r2) rfl (by kernel_rfl) (by kernel_rfl) (by kernel_rfl) (by kernel_rfl) (fun _ _ _ h => h) (Or.inl ⟨by rfl, fun w hSw => by go_simp⟩) hHeld ?_
                simp only [List.getElem_toArray, List.getElem_cons_zero, List.getElem_cons_succ, Act.put, List.setIfInBounds_toArray, List.set_cons_zero, List.set_cons_succ]
                refine wpAnyK_take (i := 25) (v := .int .i64 Z) rfl (by kernel_rfl) (by kernel_rfl) (by kernel_rfl) (by kernel_rfl) (fun _ _ _ h => h) (Or.inl ⟨by rfl, fun w hSw => by go_simp⟩) hHeld ?_
                simp only [List.getElem_toArray, List.getElem_cons_zero, List.getElem_cons_succ, Act.put, List.setIfInBounds_toArray, List.set_cons_zero, List.set_cons_succ]
                refine wpAnyK_take (i := 26) (v := .pointer (some ⟨b5, 1, none⟩)) rfl (by kernel_rfl) (by kernel_rfl) (by kernel_rfl) (by kernel_rfl) (fun _ _ _ h => h) (Or.inl ⟨by rfl, fun w hSw => by go_simp⟩) hHeld ?_
                simp only [List.getElem_toArray, List.getElem_cons_zero, List.getElem_cons_succ, Act.put, List.setIfInBounds_toArray, List.set_cons_zero, List.set_cons_succ]
                refine wpAnyK_take (i := 27) (v := .pointer (some ⟨b5, 2, none⟩)) rfl (by kernel_rfl) (by kernel_rfl) (by kernel_rfl) (by kernel_rfl) (fun _ _ _ h => h) (Or.inl ⟨by rfl, fun w hSw => by go_simp⟩) hHeld ?_
                simp only [List.getElem_toArray, List.getElem_cons_zero, List.getElem_cons_succ, Act.put, List.setIfInBounds_toArray, List.set_cons_zero, List.set_cons_succ]
                refine wpAnyK_take (i := 28) (v := .int .i64 s.r1) rfl (by kernel_rfl) (by kernel_rfl) (by kernel_rfl) (by kernel_rfl) (fun _ _ _ h => h) (Or.inl ⟨by rfl, fun w hSw => by go_simp⟩) hHeld ?_
                simp only [List.getElem_toArray, List.getElem_cons_zero, List.getElem_cons_succ, Act.put, List.setIfInBounds_toArray, List.set_cons_zero, List.set_cons_succ]
                refine wpAnyK_take (i := 29) (v := .int .i64 (Z - s.r1)) rfl (by kernel_rfl) (by kernel_rfl) (by kernel_rfl) (by kernel_rfl) (fun _ _ _ h => h) (Or.inl ⟨by rfl, fun w hSw => by go_simp⟩) hHeld ?_
                simp only [List.getElem_toArray, List.getElem_cons_zero, List.getElem_cons_succ, Act.put, List.setIfInBounds_toArray, List.set_cons_zero, List.set_cons_succ]
                refine wpAnyK_take (i := 30) (v := .bool true) rfl (by kernel_rfl) (by kernel_rfl) (by kernel_rfl) (by kernel_rfl) (fun _ _ _ h => h) (Or.inl ⟨by rfl, fun w hSw => by go_simp⟩) hHeld ?_
                simp only [List.getElem_toArray, List.getElem_cons_zero, List.getElem_cons_succ, Act.put, List.setIfInBounds_toArray, List.set_cons_zero, List.set_cons_succ]
                refine wpAnyK_one (i := 31) (by kernel_rfl) rfl (fun K hK => ?_)
                (try simp only [List.getElem_toArray, List.getElem_cons_zero, List.getElem_cons_succ, Act.put, List.setIfInBounds_toArray, List.set_cons_zero, List.set_cons_succ])
                go_simp
                refine hK.out _ _ (fun _ => HS.out) (fun hHeld0 => ?_)
                have hHeld := hHeld0 (by decide)
                clear hHeld0 hK K
                (try simp only [List.getElem_toArray, List.getElem_cons_zero, List.getElem_cons_succ, Act.put, List.setIfInBounds_toArray, List.set_cons_zero, List.set_cons_succ])
                refine wpAnyK_one (i := 32) (by kernel_rfl) rfl (fun K hK => ?_)
                (try simp only [List.getElem_toArray, List.getElem_cons_zero, List.getElem_cons_succ, Act.put, List.setIfInBounds_toArray, List.set_cons_zero, List.set_cons_succ])
                go_simp
                refine hK.out _ _ (fun _ => HS.out) (fun hHeld0 => ?_)
                clear hHeld0 hK K
                (try simp only [List.getElem_toArray, List.getElem_cons_zero, List.getElem_cons_succ, Act.put, List.setIfInBounds_toArray, List.set_cons_zero, List.set_cons_succ])
                refine wpAnyK_done (by kernel_rfl) ?_ _
                go_wp2_with fail
                go_loopw [8, 9] (fun t8 t9 V => ∃ (k : Nat) (b : Bool), k ≤ 3 ∧ t9 = .int .i64 (k : Int) ∧ t8 = .bool b ∧ (b = true → Pn18 s k) ∧ (b = false → ¬ Fs18 h Z s) ∧ Below wB.heap.size wB V) (fun _ t9 _ => 3 - (intOf t9).toNat)
                case atStart => exact ⟨0, true, by omega, rfl, rfl, fun _ => ⟨by omega, by omega, by omega⟩, (fun e => by cases e), HB3.out.drew⟩
                case round =>
                  obtain ⟨k, b, hk3, rfl, rfl, hbt, hbf, hBL⟩ := hrel
                  have HBV : Hid (Below wB.heap.size wB wr) := hBL
                  have HBT : Hid (b = true → Pn18 s k) := hbt
                  have HBF : Hid (b = false → ¬ Fs18 h Z s) := hbf
                  clear hbt hbf hBL
                  obtain ⟨m0, m1, m2, m3, m4, m5, m6⟩ := HX.out.cz HBV.out
                  cases b with
                  | false =>
                    have hk := HDN.out (HBF.out rfl)
                    subst hk
                    have hkb : k ≤ 3 := hk3
                    by_cases hk3' : k < 3
                    · have hki : (k : Int) < 3 := by omega
                      go_wp2_with fail
                      go_ret
                      exact ⟨rfl, HX.out.bl.trans (HBV.out.mono HX.out.bl.size)⟩
                    · have hki : ¬ (k : Int) < 3 := by omega
                      go_wp2_with fail
                      go_ret
                      exact ⟨rfl, HX.out.bl.trans (HBV.out.mono HX.out.bl.size)⟩
                  | true =>
                    have HPN := HBT.out rfl
                    have HPN : Hid (Pn18 s k) := HPN
                    rcases (by omega : k = 0 ∨ k = 1 ∨ k = 2 ∨ k = 3) with rfl | rfl | rfl | rfl
                    · by_cases hr : s.r0 = 0
                      · have HPI : Hid (Pk18 s.r0 s.k0 ↔ s.k0 = 0) := by rw [hr]; exact pk18_z
                        rw [hr] at m1
                        clear hr
                        obtain ⟨ob, hob⟩ : ∃ ob, ob = (s.k0 == 0) := ⟨_, rfl⟩
                        have HOB : Hid (ob = (s.k0 == 0)) := hob
                        have HT1 : Hid (ob = true → Pn18 s 1) := fun e => by
                          have : s.k0 = 0 := by simpa using (hob.symm.trans e)
                          exact ⟨fun _ => HPI.out.2 this, by omega, by omega⟩
                        have HF1 : Hid (ob = false → ¬ Fs18 h Z s) := fun e x => by
                          have : ¬ s.k0 = 0 := by simpa using (hob.symm.trans e)
                          exact this (HPI.out.1 (fs18_iff.1 x).2.1)
                        go_wp2_with fail
                        rw [← HOB.out]
                        go_roundw
                        case rel => exact ⟨1, ob, by omega, rfl, rfl, HT1.out, HF1.out, HBV.out⟩
                        case measure => simp [intOf]
                      · have HPI : Hid (Pk18 s.r0 s.k0 ↔ (1 ≤ s.k0 ∧ s.k0 ≤ 4 * s.r0 + 64)) := pk18_n hr
                        have hr2 : (s.r0 == 0) = false := by simp [hr]
                        have hrb : 0 ≤ s.r0 ∧ s.r0 ≤ 16777216 := HRB.out.1
                        have hw1 : IntKind.i64.wrap (4 * s.r0) = 4 * s.r0 := IntWalk.i64_in _ (by omega)
                        have hw2 : IntKind.i64.wrap (4 * s.r0 + 64) = 4 * s.r0 + 64 := IntWalk.i64_in _ (by omega)
                        clear hrb
                        obtain ⟨ob, hob⟩ : ∃ ob, ob = decide (1 ≤ s.k0 ∧ s.k0 ≤ 4 * s.r0 + 64) := ⟨_, rfl⟩
                        have HOB : Hid (ob = decide (1 ≤ s.k0 ∧ s.k0 ≤ 4 * s.r0 + 64)) := hob
                        have HT1 : Hid (ob = true → Pn18 s 1) := fun e => by
                          have : 1 ≤ s.k0 ∧ s.k0 ≤ 4 * s.r0 + 64 := of_decide_eq_true (hob.symm.trans e)
                          exact ⟨fun _ => HPI.out.2 this, by omega, by omega⟩
                        have HF1 : Hid (ob = false → ¬ Fs18 h Z s) := fun e x => by
                          have : ¬ (1 ≤ s.k0 ∧ s.k0 ≤ 4 * s.r0 + 64) := of_decide_eq_false (hob.symm.trans e)
                          exact this (HPI.out.1 (fs18_iff.1 x).2.1)
                        have CW : ∀ V, Calls Tryz.prog 36 #[.int .i64 s.k0, .int .i64 1, .int .i64 (4 * s.r0 + 64)] V fun e w' => e = .returned (.bool ob) ∧ w' = V := fun V => by rw [hob]; exact rwit18 _ _ _ V
                        clear hob hr
                        go_wp2_with fail
                        have HSk : Hid (wr.drew.cell? ⟨b5, 1, none⟩ = some (.int .i64 s.r0) ∧ wr.drew.cell? ⟨b5, 4, none⟩ = some (.int .i64 s.k0)) := ⟨m1, m4⟩
                        clear m0 m1 m2 m3 m4 m5 m6
                        refine plain_region16 (fun V => V.cell? ⟨b5, 1, none⟩ = some (.int .i64 s.r0) ∧ V.cell? ⟨b5, 4, none⟩ = some (.int .i64 s.k0)) 12 (by kernel_rfl) HSk.out (fun hHeld => ?_)
                        refine wpAnyK_take (i := 0) (v := .int .i64 0) rfl (by kernel_rfl) (by kernel_rfl) (by kernel_rfl) (by kernel_rfl) (fun _ _ _ h => h) (Or.inl ⟨by rfl, fun w hSw => by go_simp⟩) hHeld ?_
                        simp only [List.getElem_toArray, List.getElem_cons_zero, Act.put, List.setIfInBounds_toArray, List.set_cons_zero, List.set_cons_succ]
                        refine wpAnyK_take (i := 1) (v := .pointer (some ⟨b5, 4, none⟩)) rfl (by kernel_rfl) (by kernel_rfl) (by kernel_rfl) (by kernel_rfl) (fun _ _ _ h => h) (Or.inl ⟨by rfl, fun w hSw => by go_simp⟩) hHeld ?_
                        simp only [List.getElem_toArray, List.getElem_cons_zero, List.getElem_cons_succ, Act.put, List.setIfInBounds_toArray, List.set_cons_zero, List.set_cons_succ]
                        refine wpAnyK_take (i := 2) (v := .pointer (some ⟨b5, 4, none⟩)) rfl (by kernel_rfl) (by kernel_rfl) (by kernel_rfl) (by kernel_rfl) (fun _ _ _ h => h) (Or.inl ⟨by rfl, fun w hSw => by go_simp⟩) hHeld ?_
                        simp only [List.getElem_toArray, List.getElem_cons_zero, List.getElem_cons_succ, Act.put, List.setIfInBounds_toArray, List.set_cons_zero, List.set_cons_succ]
                        refine wpAnyK_take (i := 3) (v := .int .i64 s.k0) rfl (by kernel_rfl) (by kernel_rfl) (by kernel_rfl) (by kernel_rfl) (fun _ _ _ h => h) (Or.inl ⟨by rfl, fun w hSw => by go_simp⟩) hHeld ?_
                        simp only [List.getElem_toArray, List.getElem_cons_zero, List.getElem_cons_succ, Act.put, List.setIfInBounds_toArray, List.set_cons_zero, List.set_cons_succ]
                        refine wpAnyK_take (i := 4) (v := .int .i64 0) rfl (by kernel_rfl) (by kernel_rfl) (by kernel_rfl) (by kernel_rfl) (fun _ _ _ h => h) (Or.inl ⟨by rfl, fun w hSw => by go_simp⟩) hHeld ?_
                        simp only [List.getElem_toArray, List.getElem_cons_zero, List.getElem_cons_succ, Act.put, List.setIfInBounds_toArray, List.set_cons_zero, List.set_cons_succ]
                        refine wpAnyK_take (i := 5) (v := .pointer (some ⟨b5, 1, none⟩)) rfl (by kernel_rfl) (by kernel_rfl) (by kernel_rfl) (by kernel_rfl) (fun _ _ _ h => h) (Or.inl ⟨by rfl, fun w hSw => by go_simp⟩) hHeld ?_
                        simp only [List.getElem_toArray, List.getElem_cons_zero, List.getElem_cons_succ, Act.put, List.setIfInBounds_toArray, List.set_cons_zero, List.set_cons_succ]
                        refine wpAnyK_take (i := 6) (v := .pointer (some ⟨b5, 1, none⟩)) rfl (by kernel_rfl) (by kernel_rfl) (by kernel_rfl) (by kernel_rfl) (fun _ _ _ h => h) (Or.inl ⟨by rfl, fun w hSw => by go_simp⟩) hHeld ?_
                        simp only [List.getElem_toArray, List.getElem_cons_zero, List.getElem_cons_succ, Act.put, List.setIfInBounds_toArray, List.set_cons_zero, List.set_cons_succ]
                        refine wpAnyK_take (i := 7) (v := .int .i64 s.r0) rfl (by kernel_rfl) (by kernel_rfl) (by kernel_rfl) (by kernel_rfl) (fun _ _ _ h => h) (Or.inl ⟨by rfl, fun w hSw => by go_simp⟩) hHeld ?_
                        simp only [List.getElem_toArray, List.getElem_cons_zero, List.getElem_cons_succ, Act.put, List.setIfInBounds_toArray, List.set_cons_zero, List.set_cons_succ]
                        refine wpAnyK_take (i := 8) (v := .int .i64 (4 * s.r0)) rfl (by kernel_rfl) (by kernel_rfl) (by kernel_rfl) (by kernel_rfl) (fun _ _ _ h => h) (Or.inl ⟨by rfl, fun w hSw => by go_simp⟩) hHeld ?_
                        simp only [List.getElem_toArray, List.getElem_cons_zero, List.getElem_cons_succ, Act.put, List.setIfInBounds_toArray, List.set_cons_zero, List.set_cons_succ]
                        refine wpAnyK_take (i := 9) (v := .int .i64 (4 * s.r0 + 64)) rfl (by kernel_rfl) (by kernel_rfl) (by kernel_rfl) (by kernel_rfl) (fun _ _ _ h => h) (Or.inl ⟨by rfl, fun w hSw => by go_simp⟩) hHeld ?_
                        simp only [List.getElem_toArray, List.getElem_cons_zero, List.getElem_cons_succ, Act.put, List.setIfInBounds_toArray, List.set_cons_zero, List.set_cons_succ]
                        refine wpAnyK_one (i := 10) (by kernel_rfl) rfl (fun K hK => ?_)
                        (try simp only [List.getElem_toArray, List.getElem_cons_zero, List.getElem_cons_succ, Act.put, List.setIfInBounds_toArray, List.set_cons_zero, List.set_cons_succ])
                        go_simp
                        refine (CW _).mono ?_
                        rintro e9 w9 ⟨rfl, hw9⟩
                        subst w9
                        refine hK.out _ _ (fun _ => HSk.out) (fun hHeld0 => ?_)
                        have hHeld := hHeld0 (by decide)
                        clear hHeld0 hK K
                        (try simp only [List.getElem_toArray, List.getElem_cons_zero, List.getElem_cons_succ, Act.put, List.setIfInBounds_toArray, List.set_cons_zero, List.set_cons_succ])
                        refine wpAnyK_one (i := 11) (by kernel_rfl) rfl (fun K hK => ?_)
                        (try simp only [List.getElem_toArray, List.getElem_cons_zero, List.getElem_cons_succ, Act.put, List.setIfInBounds_toArray, List.set_cons_zero, List.set_cons_succ])
                        go_simp
                        refine hK.out _ _ (fun _ => HSk.out) (fun hHeld0 => ?_)
                        clear hHeld0 hK K
                        (try simp only [List.getElem_toArray, List.getElem_cons_zero, List.getElem_cons_succ, Act.put, List.setIfInBounds_toArray, List.set_cons_zero, List.set_cons_succ])
                        refine wpAnyK_done (by kernel_rfl) ?_ _
                        go_wp2_with fail
                        go_roundw
                        case rel => exact ⟨1, ob, by omega, rfl, rfl, HT1.out, HF1.out, HBV.out.drew⟩
                        case measure => simp [intOf]
                    · by_cases hr : s.r1 = 0
                      · have HPI : Hid (Pk18 s.r1 s.k1 ↔ s.k1 = 0) := by rw [hr]; exact pk18_z
                        rw [hr] at m2
                        clear hr
                        obtain ⟨ob, hob⟩ : ∃ ob, ob = (s.k1 == 0) := ⟨_, rfl⟩
                        have HOB : Hid (ob = (s.k1 == 0)) := hob
                        have HT1 : Hid (ob = true → Pn18 s 2) := fun e => by
                          have : s.k1 = 0 := by simpa using (hob.symm.trans e)
                          exact ⟨fun _ => HPN.out.1 (by omega), fun _ => HPI.out.2 this, by omega⟩
                        have HF1 : Hid (ob = false → ¬ Fs18 h Z s) := fun e x => by
                          have : ¬ s.k1 = 0 := by simpa using (hob.symm.trans e)
                          exact this (HPI.out.1 (fs18_iff.1 x).2.2.1)
                        go_wp2_with fail
                        rw [← HOB.out]
                        go_roundw
                        case rel => exact ⟨2, ob, by omega, rfl, rfl, HT1.out, HF1.out, HBV.out⟩
                        case measure => simp [intOf]
                      · have HPI : Hid (Pk18 s.r1 s.k1 ↔ (1 ≤ s.k1 ∧ s.k1 ≤ 4 * s.r1 + 64)) := pk18_n hr
                        have hr2 : (s.r1 == 0) = false := by simp [hr]
                        have hrb : 0 ≤ s.r1 ∧ s.r1 ≤ 16777216 := HRB.out.2.1
                        have hw1 : IntKind.i64.wrap (4 * s.r1) = 4 * s.r1 := IntWalk.i64_in _ (by omega)
                        have hw2 : IntKind.i64.wrap (4 * s.r1 + 64) = 4 * s.r1 + 64 := IntWalk.i64_in _ (by omega)
                        clear hrb
                        obtain ⟨ob, hob⟩ : ∃ ob, ob = decide (1 ≤ s.k1 ∧ s.k1 ≤ 4 * s.r1 + 64) := ⟨_, rfl⟩
                        have HOB : Hid (ob = decide (1 ≤ s.k1 ∧ s.k1 ≤ 4 * s.r1 + 64)) := hob
                        have HT1 : Hid (ob = true → Pn18 s 2) := fun e => by
                          have : 1 ≤ s.k1 ∧ s.k1 ≤ 4 * s.r1 + 64 := of_decide_eq_true (hob.symm.trans e)
                          exact ⟨fun _ => HPN.out.1 (by omega), fun _ => HPI.out.2 this, by omega⟩
                        have HF1 : Hid (ob = false → ¬ Fs18 h Z s) := fun e x => by
                          have : ¬ (1 ≤ s.k1 ∧ s.k1 ≤ 4 * s.r1 + 64) := of_decide_eq_false (hob.symm.trans e)
                          exact this (HPI.out.1 (fs18_iff.1 x).2.2.1)
                        have CW : ∀ V, Calls Tryz.prog 36 #[.int .i64 s.k1, .int .i64 1, .int .i64 (4 * s.r1 + 64)] V fun e w' => e = .returned (.bool ob) ∧ w' = V := fun V => by rw [hob]; exact rwit18 _ _ _ V
                        clear hob hr
                        go_wp2_with fail
                        have HSk : Hid (wr.drew.cell? ⟨b5, 2, none⟩ = some (.int .i64 s.r1) ∧ wr.drew.cell? ⟨b5, 5, none⟩ = some (.int .i64 s.k1)) := ⟨m2, m5⟩
                        clear m0 m1 m2 m3 m4 m5 m6
                        refine plain_region16 (fun V => V.cell? ⟨b5, 2, none⟩ = some (.int .i64 s.r1) ∧ V.cell? ⟨b5, 5, none⟩ = some (.int .i64 s.k1)) 12 (by kernel_rfl) HSk.out (fun hHeld => ?_)
                        refine wpAnyK_take (i := 0) (v := .int .i64 1) rfl (by kernel_rfl) (by kernel_rfl) (by kernel_rfl) (by kernel_rfl) (fun _ _ _ h => h) (Or.inl ⟨by rfl, fun w hSw => by go_simp⟩) hHeld ?_
                        simp only [List.getElem_toArray, List.getElem_cons_zero, Act.put, List.setIfInBounds_toArray, List.set_cons_zero, List.set_cons_succ]
                        refine wpAnyK_take (i := 1) (v := .pointer (some ⟨b5, 4, none⟩)) rfl (by kernel_rfl) (by kernel_rfl) (by kernel_rfl) (by kernel_rfl) (fun _ _ _ h => h) (Or.inl ⟨by rfl, fun w hSw => by go_simp⟩) hHeld ?_
                        simp only [List.getElem_toArray, List.getElem_cons_zero, List.getElem_cons_succ, Act.put, List.setIfInBounds_toArray, List.set_cons_zero, List.set_cons_succ]
                        refine wpAnyK_take (i := 2) (v := .pointer (some ⟨b5, 5, none⟩)) rfl (by kernel_rfl) (by kernel_rfl) (by kernel_rfl) (by kernel_rfl) (fun _ _ _ h => h) (Or.inl ⟨by rfl, fun w hSw => by go_simp⟩) hHeld ?_
                        simp only [List.getElem_toArray, List.getElem_cons_zero, List.getElem_cons_succ, Act.put, List.setIfInBounds_toArray, List.set_cons_zero, List.set_cons_succ]
                        refine wpAnyK_take (i := 3) (v := .int .i64 s.k1) rfl (by kernel_rfl) (by kernel_rfl) (by kernel_rfl) (by kernel_rfl) (fun _ _ _ h => h) (Or.inl ⟨by rfl, fun w hSw => by go_simp⟩) hHeld ?_
                        simp only [List.getElem_toArray, List.getElem_cons_zero, List.getElem_cons_succ, Act.put, List.setIfInBounds_toArray, List.set_cons_zero, List.set_cons_succ]
                        refine wpAnyK_take (i := 4) (v := .int .i64 1) rfl (by kernel_rfl) (by kernel_rfl) (by kernel_rfl) (by kernel_rfl) (fun _ _ _ h => h) (Or.inl ⟨by rfl, fun w hSw => by go_simp⟩) hHeld ?_
                        simp only [List.getElem_toArray, List.getElem_cons_zero, List.getElem_cons_succ, Act.put, List.setIfInBounds_toArray, List.set_cons_zero, List.set_cons_succ]
                        refine wpAnyK_take (i := 5) (v := .pointer (some ⟨b5, 1, none⟩)) rfl (by kernel_rfl) (by kernel_rfl) (by kernel_rfl) (by kernel_rfl) (fun _ _ _ h => h) (Or.inl ⟨by rfl, fun w hSw => by go_simp⟩) hHeld ?_
                        simp only [List.getElem_toArray, List.getElem_cons_zero, List.getElem_cons_succ, Act.put, List.setIfInBounds_toArray, List.set_cons_zero, List.set_cons_succ]
                        refine wpAnyK_take (i := 6) (v := .pointer (some ⟨b5, 2, none⟩)) rfl (by kernel_rfl) (by kernel_rfl) (by kernel_rfl) (by kernel_rfl) (fun _ _ _ h => h) (Or.inl ⟨by rfl, fun w hSw => by go_simp⟩) hHeld ?_
                        simp only [List.getElem_toArray, List.getElem_cons_zero, List.getElem_cons_succ, Act.put, List.setIfInBounds_toArray, List.set_cons_zero, List.set_cons_succ]
                        refine wpAnyK_take (i := 7) (v := .int .i64 s.r1) rfl (by kernel_rfl) (by kernel_rfl) (by kernel_rfl) (by kernel_rfl) (fun _ _ _ h => h) (Or.inl ⟨by rfl, fun w hSw => by go_simp⟩) hHeld ?_
                        simp only [List.getElem_toArray, List.getElem_cons_zero, List.getElem_cons_succ, Act.put, List.setIfInBounds_toArray, List.set_cons_zero, List.set_cons_succ]
                        refine wpAnyK_take (i := 8) (v := .int .i64 (4 * s.r1)) rfl (by kernel_rfl) (by kernel_rfl) (by kernel_rfl) (by kernel_rfl) (fun _ _ _ h => h) (Or.inl ⟨by rfl, fun w hSw => by go_simp⟩) hHeld ?_
                        simp only [List.getElem_toArray, List.getElem_cons_zero, List.getElem_cons_succ, Act.put, List.setIfInBounds_toArray, List.set_cons_zero, List.set_cons_succ]
                        refine wpAnyK_take (i := 9) (v := .int .i64 (4 * s.r1 + 64)) rfl (by kernel_rfl) (by kernel_rfl) (by kernel_rfl) (by kernel_rfl) (fun _ _ _ h => h) (Or.inl ⟨by rfl, fun w hSw => by go_simp⟩) hHeld ?_
                        simp only [List.getElem_toArray, List.getElem_cons_zero, List.getElem_cons_succ, Act.put, List.setIfInBounds_toArray, List.set_cons_zero, List.set_cons_succ]
                        refine wpAnyK_one (i := 10) (by kernel_rfl) rfl (fun K hK => ?_)
                        (try simp only [List.getElem_toArray, List.getElem_cons_zero, List.getElem_cons_succ, Act.put, List.setIfInBounds_toArray, List.set_cons_zero, List.set_cons_succ])
                        go_simp
                        refine (CW _).mono ?_
                        rintro e9 w9 ⟨rfl, hw9⟩
                        subst w9
                        refine hK.out _ _ (fun _ => HSk.out) (fun hHeld0 => ?_)
                        have hHeld := hHeld0 (by decide)
                        clear hHeld0 hK K
                        (try simp only [List.getElem_toArray, List.getElem_cons_zero, List.getElem_cons_succ, Act.put, List.setIfInBounds_toArray, List.set_cons_zero, List.set_cons_succ])
                        refine wpAnyK_one (i := 11) (by kernel_rfl) rfl (fun K hK => ?_)
                        (try simp only [List.getElem_toArray, List.getElem_cons_zero, List.getElem_cons_succ, Act.put, List.setIfInBounds_toArray, List.set_cons_zero, List.set_cons_succ])
                        go_simp
                        refine hK.out _ _ (fun _ => HSk.out) (fun hHeld0 => ?_)
                        clear hHeld0 hK K
                        (try simp only [List.getElem_toArray, List.getElem_cons_zero, List.getElem_cons_succ, Act.put, List.setIfInBounds_toArray, List.set_cons_zero, List.set_cons_succ])
                        refine wpAnyK_done (by kernel_rfl) ?_ _
                        go_wp2_with fail
                        go_roundw
                        case rel => exact ⟨2, ob, by omega, rfl, rfl, HT1.out, HF1.out, HBV.out.drew⟩
                        case measure => simp [intOf]
                    · by_cases hr : s.r2 = 0
                      · have HPI : Hid (Pk18 s.r2 s.k2 ↔ s.k2 = 0) := by rw [hr]; exact pk18_z
                        rw [hr] at m3
                        clear hr
                        obtain ⟨ob, hob⟩ : ∃ ob, ob = (s.k2 == 0) := ⟨_, rfl⟩
                        have HOB : Hid (ob = (s.k2 == 0)) := hob
                        have HT1 : Hid (ob = true → Pn18 s 3) := fun e => by
                          have : s.k2 = 0 := by simpa using (hob.symm.trans e)
                          exact ⟨fun _ => HPN.out.1 (by omega), fun _ => HPN.out.2.1 (by omega), fun _ => HPI.out.2 this⟩
                        have HF1 : Hid (ob = false → ¬ Fs18 h Z s) := fun e x => by
                          have : ¬ s.k2 = 0 := by simpa using (hob.symm.trans e)
                          exact this (HPI.out.1 (fs18_iff.1 x).2.2.2)
                        go_wp2_with fail
                        rw [← HOB.out]
                        go_roundw
                        case rel => exact ⟨3, ob, by omega, rfl, rfl, HT1.out, HF1.out, HBV.out⟩
                        case measure => simp [intOf]
                      · have HPI : Hid (Pk18 s.r2 s.k2 ↔ (1 ≤ s.k2 ∧ s.k2 ≤ 4 * s.r2 + 64)) := pk18_n hr
                        have hr2 : (s.r2 == 0) = false := by simp [hr]
                        have hrb : 0 ≤ s.r2 ∧ s.r2 ≤ 16777216 := HRB.out.2.2
                        have hw1 : IntKind.i64.wrap (4 * s.r2) = 4 * s.r2 := IntWalk.i64_in _ (by omega)
                        have hw2 : IntKind.i64.wrap (4 * s.r2 + 64) = 4 * s.r2 + 64 := IntWalk.i64_in _ (by omega)
                        clear hrb
                        obtain ⟨ob, hob⟩ : ∃ ob, ob = decide (1 ≤ s.k2 ∧ s.k2 ≤ 4 * s.r2 + 64) := ⟨_, rfl⟩
                        have HOB : Hid (ob = decide (1 ≤ s.k2 ∧ s.k2 ≤ 4 * s.r2 + 64)) := hob
                        have HT1 : Hid (ob = true → Pn18 s 3) := fun e => by
                          have : 1 ≤ s.k2 ∧ s.k2 ≤ 4 * s.r2 + 64 := of_decide_eq_true (hob.symm.trans e)
                          exact ⟨fun _ => HPN.out.1 (by omega), fun _ => HPN.out.2.1 (by omega), fun _ => HPI.out.2 this⟩
                        have HF1 : Hid (ob = false → ¬ Fs18 h Z s) := fun e x => by
                          have : ¬ (1 ≤ s.k2 ∧ s.k2 ≤ 4 * s.r2 + 64) := of_decide_eq_false (hob.symm.trans e)
                          exact this (HPI.out.1 (fs18_iff.1 x).2.2.2)
                        have CW : ∀ V, Calls Tryz.prog 36 #[.int .i64 s.k2, .int .i64 1, .int .i64 (4 * s.r2 + 64)] V fun e w' => e = .returned (.bool ob) ∧ w' = V := fun V => by rw [hob]; exact rwit18 _ _ _ V
                        clear hob hr
                        go_wp2_with fail
                        have HSk : Hid (wr.drew.cell? ⟨b5, 3, none⟩ = some (.int .i64 s.r2) ∧ wr.drew.cell? ⟨b5, 6, none⟩ = some (.int .i64 s.k2)) := ⟨m3, m6⟩
                        clear m0 m1 m2 m3 m4 m5 m6
                        refine plain_region16 (fun V => V.cell? ⟨b5, 3, none⟩ = some (.int .i64 s.r2) ∧ V.cell? ⟨b5, 6, none⟩ = some (.int .i64 s.k2)) 12 (by kernel_rfl) HSk.out (fun hHeld => ?_)
                        refine wpAnyK_take (i := 0) (v := .int .i64 2) rfl (by kernel_rfl) (by kernel_rfl) (by kernel_rfl) (by kernel_rfl) (fun _ _ _ h => h) (Or.inl ⟨by rfl, fun w hSw => by go_simp⟩) hHeld ?_
                        simp only [List.getElem_toArray, List.getElem_cons_zero, Act.put, List.setIfInBounds_toArray, List.set_cons_zero, List.set_cons_succ]
                        refine wpAnyK_take (i := 1) (v := .pointer (some ⟨b5, 4, none⟩)) rfl (by kernel_rfl) (by kernel_rfl) (by kernel_rfl) (by kernel_rfl) (fun _ _ _ h => h) (Or.inl ⟨by rfl, fun w hSw => by go_simp⟩) hHeld ?_
                        simp only [List.getElem_toArray, List.getElem_cons_zero, List.getElem_cons_succ, Act.put, List.setIfInBounds_toArray, List.set_cons_zero, List.set_cons_succ]
                        refine wpAnyK_take (i := 2) (v := .pointer (some ⟨b5, 6, none⟩)) rfl (by kernel_rfl) (by kernel_rfl) (by kernel_rfl) (by kernel_rfl) (fun _ _ _ h => h) (Or.inl ⟨by rfl, fun w hSw => by go_simp⟩) hHeld ?_
                        simp only [List.getElem_toArray, List.getElem_cons_zero, List.getElem_cons_succ, Act.put, List.setIfInBounds_toArray, List.set_cons_zero, List.set_cons_succ]
                        refine wpAnyK_take (i := 3) (v := .int .i64 s.k2) rfl (by kernel_rfl) (by kernel_rfl) (by kernel_rfl) (by kernel_rfl) (fun _ _ _ h => h) (Or.inl ⟨by rfl, fun w hSw => by go_simp⟩) hHeld ?_
                        simp only [List.getElem_toArray, List.getElem_cons_zero, List.getElem_cons_succ, Act.put, List.setIfInBounds_toArray, List.set_cons_zero, List.set_cons_succ]
                        refine wpAnyK_take (i := 4) (v := .int .i64 2) rfl (by kernel_rfl) (by kernel_rfl) (by kernel_rfl) (by kernel_rfl) (fun _ _ _ h => h) (Or.inl ⟨by rfl, fun w hSw => by go_simp⟩) hHeld ?_
                        simp only [List.getElem_toArray, List.getElem_cons_zero, List.getElem_cons_succ, Act.put, List.setIfInBounds_toArray, List.set_cons_zero, List.set_cons_succ]
                        refine wpAnyK_take (i := 5) (v := .pointer (some ⟨b5, 1, none⟩)) rfl (by kernel_rfl) (by kernel_rfl) (by kernel_rfl) (by kernel_rfl) (fun _ _ _ h => h) (Or.inl ⟨by rfl, fun w hSw => by go_simp⟩) hHeld ?_
                        simp only [List.getElem_toArray, List.getElem_cons_zero, List.getElem_cons_succ, Act.put, List.setIfInBounds_toArray, List.set_cons_zero, List.set_cons_succ]
                        refine wpAnyK_take (i := 6) (v := .pointer (some ⟨b5, 3, none⟩)) rfl (by kernel_rfl) (by kernel_rfl) (by kernel_rfl) (by kernel_rfl) (fun _ _ _ h => h) (Or.inl ⟨by rfl, fun w hSw => by go_simp⟩) hHeld ?_
                        simp only [List.getElem_toArray, List.getElem_cons_zero, List.getElem_cons_succ, Act.put, List.setIfInBounds_toArray, List.set_cons_zero, List.set_cons_succ]
                        refine wpAnyK_take (i := 7) (v := .int .i64 s.r2) rfl (by kernel_rfl) (by kernel_rfl) (by kernel_rfl) (by kernel_rfl) (fun _ _ _ h => h) (Or.inl ⟨by rfl, fun w hSw => by go_simp⟩) hHeld ?_
                        simp only [List.getElem_toArray, List.getElem_cons_zero, List.getElem_cons_succ, Act.put, List.setIfInBounds_toArray, List.set_cons_zero, List.set_cons_succ]
                        refine wpAnyK_take (i := 8) (v := .int .i64 (4 * s.r2)) rfl (by kernel_rfl) (by kernel_rfl) (by kernel_rfl) (by kernel_rfl) (fun _ _ _ h => h) (Or.inl ⟨by rfl, fun w hSw => by go_simp⟩) hHeld ?_
                        simp only [List.getElem_toArray, List.getElem_cons_zero, List.getElem_cons_succ, Act.put, List.setIfInBounds_toArray, List.set_cons_zero, List.set_cons_succ]
                        refine wpAnyK_take (i := 9) (v := .int .i64 (4 * s.r2 + 64)) rfl (by kernel_rfl) (by kernel_rfl) (by kernel_rfl) (by kernel_rfl) (fun _ _ _ h => h) (Or.inl ⟨by rfl, fun w hSw => by go_simp⟩) hHeld ?_
                        simp only [List.getElem_toArray, List.getElem_cons_zero, List.getElem_cons_succ, Act.put, List.setIfInBounds_toArray, List.set_cons_zero, List.set_cons_succ]
                        refine wpAnyK_one (i := 10) (by kernel_rfl) rfl (fun K hK => ?_)
                        (try simp only [List.getElem_toArray, List.getElem_cons_zero, List.getElem_cons_succ, Act.put, List.setIfInBounds_toArray, List.set_cons_zero, List.set_cons_succ])
                        go_simp
                        refine (CW _).mono ?_
                        rintro e9 w9 ⟨rfl, hw9⟩
                        subst w9
                        refine hK.out _ _ (fun _ => HSk.out) (fun hHeld0 => ?_)
                        have hHeld := hHeld0 (by decide)
                        clear hHeld0 hK K
                        (try simp only [List.getElem_toArray, List.getElem_cons_zero, List.getElem_cons_succ, Act.put, List.setIfInBounds_toArray, List.set_cons_zero, List.set_cons_succ])
                        refine wpAnyK_one (i := 11) (by kernel_rfl) rfl (fun K hK => ?_)
                        (try simp only [List.getElem_toArray, List.getElem_cons_zero, List.getElem_cons_succ, Act.put, List.setIfInBounds_toArray, List.set_cons_zero, List.set_cons_succ])
                        go_simp
                        refine hK.out _ _ (fun _ => HSk.out) (fun hHeld0 => ?_)
                        clear hHeld0 hK K
                        (try simp only [List.getElem_toArray, List.getElem_cons_zero, List.getElem_cons_succ, Act.put, List.setIfInBounds_toArray, List.set_cons_zero, List.set_cons_succ])
                        refine wpAnyK_done (by kernel_rfl) ?_ _
                        go_wp2_with fail
                        go_roundw
                        case rel => exact ⟨3, ob, by omega, rfl, rfl, HT1.out, HF1.out, HBV.out.drew⟩
                        case measure => simp [intOf]
                    · have hk := HDY.out HPN.out
                      subst hk
                      go_wp2_with fail
                      go_ret
                      exact ⟨rfl, HX.out.bl.trans (HBV.out.mono HX.out.bl.size)⟩
              · have d3 : (s.r2 == Z - s.r1) = false := by simp [f3]
                have hv := HDN.out (fun x => f3 (fs18_iff.1 x).1.2.2.2)
                subst hv
                clear f0 f1 f2 f3
                go_enter Tryz.func25, Tryz.ntmps25
                go_wp2_with fail
                rw [HX.out.wa, HX.out.e4, HX.out.e5]
                clear l0 l1 l2 l3 l4 l5 m0 m1 m2 m3 m4 m5 m6
                refine CK.mono ?_
                rintro e1 w1 ⟨rfl, b1⟩
                have HB1 : Hid (Below wB.heap.size wB w1) := b1
                clear b1 CK
                obtain ⟨l0, l1, l2, l3, l4, l5⟩ := HX.out.cl HB1.out
                go_wp2_with fail
                refine (HPW w1).mono ?_
                rintro e2 w2 ⟨rfl, b2⟩
                have HB2 : Hid (Below wB.heap.size wB w2) := HB1.out.trans (b2.mono HB1.out.size)
                clear b2 l0 l1 l2 l3 l4 l5
                obtain ⟨l0, l1, l2, l3, l4, l5⟩ := HX.out.cl HB2.out
                go_wp2_with fail
                refine (HPS.out w2).mono ?_
                rintro e3 w3 ⟨rfl, b3⟩
                have HB3 : Hid (Below wB.heap.size wB w3) := HB2.out.trans (b3.mono HB2.out.size)
                clear b3 l0 l1 l2 l3 l4 l5
                obtain ⟨l0, l1, l2, l3, l4, l5⟩ := HX.out.cl HB3.out
                obtain ⟨m0, m1, m2, m3, m4, m5, m6⟩ := HX.out.cz HB3.out
                go_wp2_with fail
                have HS : Hid (w3.drew.cell? ⟨b5, 0, none⟩ = some (.int .i64 s.p) ∧ w3.drew.cell? ⟨b5, 1, none⟩ = some (.int .i64 s.r0) ∧ w3.drew.cell? ⟨b5, 2, none⟩ = some (.int .i64 s.r1) ∧ w3.drew.cell? ⟨b5, 3, none⟩ = some (.int .i64 s.r2) ∧ w3.drew.cell? ⟨b4, 0, none⟩ = some (.int .i64 h.o) ∧ w3.drew.cell? ⟨b4, 4, none⟩ = some (.int .i64 h.wi)) := ⟨m0, m1, m2, m3, l0, l4⟩
                clear l0 l1 l2 l3 l4 l5 m0 m1 m2 m3 m4 m5 m6
                refine plain_region16 (fun V => V.cell? ⟨b5, 0, none⟩ = some (.int .i64 s.p) ∧ V.cell? ⟨b5, 1, none⟩ = some (.int .i64 s.r0) ∧ V.cell? ⟨b5, 2, none⟩ = some (.int .i64 s.r1) ∧ V.cell? ⟨b5, 3, none⟩ = some (.int .i64 s.r2) ∧ V.cell? ⟨b4, 0, none⟩ = some (.int .i64 h.o) ∧ V.cell? ⟨b4, 4, none⟩ = some (.int .i64 h.wi)) 33 (by kernel_rfl) HS.out (fun hHeld => ?_)
                refine wpAnyK_take (i := 0) (v := .pointer (some ⟨b5, 0, none⟩)) rfl (by kernel_rfl) (by kernel_rfl) (by kernel_rfl) (by kernel_rfl) (fun _ _ _ h => h) (Or.inl ⟨by rfl, fun w hSw => by go_simp⟩) hHeld ?_
                simp only [List.getElem_toArray, List.getElem_cons_zero, Act.put, List.setIfInBounds_toArray, List.set_cons_zero, List.set_cons_succ]
                refine wpAnyK_take (i := 1) (v := .int .i64 s.p) rfl (by kernel_rfl) (by kernel_rfl) (by kernel_rfl) (by kernel_rfl) (fun _ _ _ h => h) (Or.inl ⟨by rfl, fun w hSw => by go_simp⟩) hHeld ?_
                simp only [List.getElem_toArray, List.getElem_cons_zero, List.getElem_cons_succ, Act.put, List.setIfInBounds_toArray, List.set_cons_zero, List.set_cons_succ]
                refine wpAnyK_take (i := 2) (v := .pointer (some ⟨b4, 0, none⟩)) rfl (by kernel_rfl) (by kernel_rfl) (by kernel_rfl) (by kernel_rfl) (fun _ _ _ h => h) (Or.inl ⟨by rfl, fun w hSw => by go_simp⟩) hHeld ?_
                simp only [List.getElem_toArray, List.getElem_cons_zero, List.getElem_cons_succ, Act.put, List.setIfInBounds_toArray, List.set_cons_zero, List.set_cons_succ]
                refine wpAnyK_take (i := 3) (v := .int .i64 h.o) rfl (by kernel_rfl) (by kernel_rfl) (by kernel_rfl) (by kernel_rfl) (fun _ _ _ h => h) (Or.inl ⟨by rfl, fun w hSw => by go_simp⟩) hHeld ?_
                simp only [List.getElem_toArray, List.getElem_cons_zero, List.getElem_cons_succ, Act.put, List.setIfInBounds_toArray, List.set_cons_zero, List.set_cons_succ]
                refine wpAnyK_one (i := 4) (by kernel_rfl) rfl (fun K hK => ?_)
                (try simp only [List.getElem_toArray, List.getElem_cons_zero, List.getElem_cons_succ, Act.put, List.setIfInBounds_toArray, List.set_cons_zero, List.set_cons_succ])
                go_simp
                refine (C0 _).mono ?_
                rintro e9 w9 ⟨rfl, hw9⟩
                subst w9
                refine hK.out _ _ (fun _ => HS.out) (fun hHeld0 => ?_)
                have hHeld := hHeld0 (by decide)
                clear hHeld0 hK K
                (try simp only [List.getElem_toArray, List.getElem_cons_zero, List.getElem_cons_succ, Act.put, List.setIfInBounds_toArray, List.set_cons_zero, List.set_cons_succ])
                refine wpAnyK_one (i := 5) (by kernel_rfl) rfl (fun K hK => ?_)
                (try simp only [List.getElem_toArray, List.getElem_cons_zero, List.getElem_cons_succ, Act.put, List.setIfInBounds_toArray, List.set_cons_zero, List.set_cons_succ])
                go_simp
                refine hK.out _ _ (fun _ => HS.out) (fun hHeld0 => ?_)
                have hHeld := hHeld0 (by decide)
                clear hHeld0 hK K
                (try simp only [List.getElem_toArray, List.getElem_cons_zero, List.getElem_cons_succ, Act.put, List.setIfInBounds_toArray, List.set_cons_zero, List.set_cons_succ])
                refine wpAnyK_take (i := 6) (v := .pointer (some ⟨b5, 1, none⟩)) rfl (by kernel_rfl) (by kernel_rfl) (by kernel_rfl) (by kernel_rfl) (fun _ _ _ h => h) (Or.inl ⟨by rfl, fun w hSw => by go_simp⟩) hHeld ?_
                simp only [List.getElem_toArray, List.getElem_cons_zero, List.getElem_cons_succ, Act.put, List.setIfInBounds_toArray, List.set_cons_zero, List.set_cons_succ]
                refine wpAnyK_take (i := 7) (v := .pointer (some ⟨b5, 1, none⟩)) rfl (by kernel_rfl) (by kernel_rfl) (by kernel_rfl) (by kernel_rfl) (fun _ _ _ h => h) (Or.inl ⟨by rfl, fun w hSw => by go_simp⟩) hHeld ?_
                simp only [List.getElem_toArray, List.getElem_cons_zero, List.getElem_cons_succ, Act.put, List.setIfInBounds_toArray, List.set_cons_zero, List.set_cons_succ]
                refine wpAnyK_take (i := 8) (v := .int .i64 s.r0) rfl (by kernel_rfl) (by kernel_rfl) (by kernel_rfl) (by kernel_rfl) (fun _ _ _ h => h) (Or.inl ⟨by rfl, fun w hSw => by go_simp⟩) hHeld ?_
                simp only [List.getElem_toArray, List.getElem_cons_zero, List.getElem_cons_succ, Act.put, List.setIfInBounds_toArray, List.set_cons_zero, List.set_cons_succ]
                refine wpAnyK_take (i := 9) (v := .pointer (some ⟨b4, 4, none⟩)) rfl (by kernel_rfl) (by kernel_rfl) (by kernel_rfl) (by kernel_rfl) (fun _ _ _ h => h) (Or.inl ⟨by rfl, fun w hSw => by go_simp⟩) hHeld ?_
                simp only [List.getElem_toArray, List.getElem_cons_zero, List.getElem_cons_succ, Act.put, List.setIfInBounds_toArray, List.set_cons_zero, List.set_cons_succ]
                refine wpAnyK_take (i := 10) (v := .int .i64 h.wi) rfl (by kernel_rfl) (by kernel_rfl) (by kernel_rfl) (by kernel_rfl) (fun _ _ _ h => h) (Or.inl ⟨by rfl, fun w hSw => by go_simp⟩) hHeld ?_
                simp only [List.getElem_toArray, List.getElem_cons_zero, List.getElem_cons_succ, Act.put, List.setIfInBounds_toArray, List.set_cons_zero, List.set_cons_succ]
                refine wpAnyK_one (i := 11) (by kernel_rfl) rfl (fun K hK => ?_)
                (try simp only [List.getElem_toArray, List.getElem_cons_zero, List.getElem_cons_succ, Act.put, List.setIfInBounds_toArray, List.set_cons_zero, List.set_cons_succ])
                go_simp
                refine (HMO.out _).mono ?_
                rintro e9 w9 ⟨rfl, hw9⟩
                subst w9
                refine hK.out _ _ (fun _ => HS.out) (fun hHeld0 => ?_)
                have hHeld := hHeld0 (by decide)
                clear hHeld0 hK K
                (try simp only [List.getElem_toArray, List.getElem_cons_zero, List.getElem_cons_succ, Act.put, List.setIfInBounds_toArray, List.set_cons_zero, List.set_cons_succ])
                refine wpAnyK_one (i := 12) (by kernel_rfl) rfl (fun K hK => ?_)
                (try simp only [List.getElem_toArray, List.getElem_cons_zero, List.getElem_cons_succ, Act.put, List.setIfInBounds_toArray, List.set_cons_zero, List.set_cons_succ])
                go_simp
                refine (C1 _).mono ?_
                rintro e9 w9 ⟨rfl, hw9⟩
                subst w9
                refine hK.out _ _ (fun _ => HS.out) (fun hHeld0 => ?_)
                have hHeld := hHeld0 (by decide)
                clear hHeld0 hK K
                (try simp only [List.getElem_toArray, List.getElem_cons_zero, List.getElem_cons_succ, Act.put, List.setIfInBounds_toArray, List.set_cons_zero, List.set_cons_succ])
                refine wpAnyK_one (i := 13) (by kernel_rfl) rfl (fun K hK => ?_)
                (try simp only [List.getElem_toArray, List.getElem_cons_zero, List.getElem_cons_succ, Act.put, List.setIfInBounds_toArray, List.set_cons_zero, List.set_cons_succ])
                go_simp
                refine hK.out _ _ (fun _ => HS.out) (fun hHeld0 => ?_)
                have hHeld := hHeld0 (by decide)
                clear hHeld0 hK K
                (try simp only [List.getElem_toArray, List.getElem_cons_zero, List.getElem_cons_succ, Act.put, List.setIfInBounds_toArray, List.set_cons_zero, List.set_cons_succ])
                refine wpAnyK_one (i := 14) (by kernel_rfl) rfl (fun K hK => ?_)
                (try simp only [List.getElem_toArray, List.getElem_cons_zero, List.getElem_cons_succ, Act.put, List.setIfInBounds_toArray, List.set_cons_zero, List.set_cons_succ])
                go_simp
                refine hK.out _ _ (fun _ => HS.out) (fun hHeld0 => ?_)
                have hHeld := hHeld0 (by decide)
                clear hHeld0 hK K
                (try simp only [List.getElem_toArray, List.getElem_cons_zero, List.getElem_cons_succ, Act.put, List.setIfInBounds_toArray, List.set_cons_zero, List.set_cons_succ])
                refine wpAnyK_take (i := 15) (v := .pointer (some ⟨b5, 1, none⟩)) rfl (by kernel_rfl) (by kernel_rfl) (by kernel_rfl) (by kernel_rfl) (fun _ _ _ h => h) (Or.inl ⟨by rfl, fun w hSw => by go_simp⟩) hHeld ?_
                simp only [List.getElem_toArray, List.getElem_cons_zero, List.getElem_cons_succ, Act.put, List.setIfInBounds_toArray, List.set_cons_zero, List.set_cons_succ]
                refine wpAnyK_take (i := 16) (v := .pointer (some ⟨b5, 2, none⟩)) rfl (by kernel_rfl) (by kernel_rfl) (by kernel_rfl) (by kernel_rfl) (fun _ _ _ h => h) (Or.inl ⟨by rfl, fun w hSw => by go_simp⟩) hHeld ?_
                simp only [List.getElem_toArray, List.getElem_cons_zero, List.getElem_cons_succ, Act.put, List.setIfInBounds_toArray, List.set_cons_zero, List.set_cons_succ]
                refine wpAnyK_take (i := 17) (v := .int .i64 s.r1) rfl (by kernel_rfl) (by kernel_rfl) (by kernel_rfl) (by kernel_rfl) (fun _ _ _ h => h) (Or.inl ⟨by rfl, fun w hSw => by go_simp⟩) hHeld ?_
                simp only [List.getElem_toArray, List.getElem_cons_zero, List.getElem_cons_succ, Act.put, List.setIfInBounds_toArray, List.set_cons_zero, List.set_cons_succ]
                refine wpAnyK_take (i := 18) (v := .int .i64 Z) rfl (by kernel_rfl) (by kernel_rfl) (by kernel_rfl) (by kernel_rfl) (fun _ _ _ h => h) (Or.inl ⟨by rfl, fun w hSw => by go_simp⟩) hHeld ?_
                simp only [List.getElem_toArray, List.getElem_cons_zero, List.getElem_cons_succ, Act.put, List.setIfInBounds_toArray, List.set_cons_zero, List.set_cons_succ]
                refine wpAnyK_one (i := 19) (by kernel_rfl) rfl (fun K hK => ?_)
                (try simp only [List.getElem_toArray, List.getElem_cons_zero, List.getElem_cons_succ, Act.put, List.setIfInBounds_toArray, List.set_cons_zero, List.set_cons_succ])
                go_simp
                refine (C2 _).mono ?_
                rintro e9 w9 ⟨rfl, hw9⟩
                subst w9
                refine hK.out _ _ (fun _ => HS.out) (fun hHeld0 => ?_)
                have hHeld := hHeld0 (by decide)
                clear hHeld0 hK K
                (try simp only [List.getElem_toArray, List.getElem_cons_zero, List.getElem_cons_succ, Act.put, List.setIfInBounds_toArray, List.set_cons_zero, List.set_cons_succ])
                refine wpAnyK_one (i := 20) (by kernel_rfl) rfl (fun K hK => ?_)
                (try simp only [List.getElem_toArray, List.getElem_cons_zero, List.getElem_cons_succ, Act.put, List.setIfInBounds_toArray, List.set_cons_zero, List.set_cons_succ])
                go_simp
                refine hK.out _ _ (fun _ => HS.out) (fun hHeld0 => ?_)
                have hHeld := hHeld0 (by decide)
                clear hHeld0 hK K
                (try simp only [List.getElem_toArray, List.getElem_cons_zero, List.getElem_cons_succ, Act.put, List.setIfInBounds_toArray, List.set_cons_zero, List.set_cons_succ])
                refine wpAnyK_one (i := 21) (by kernel_rfl) rfl (fun K hK => ?_)
                (try simp only [List.getElem_toArray, List.getElem_cons_zero, List.getElem_cons_succ, Act.put, List.setIfInBounds_toArray, List.set_cons_zero, List.set_cons_succ])
                go_simp
                refine hK.out _ _ (fun _ => HS.out) (fun hHeld0 => ?_)
                have hHeld := hHeld0 (by decide)
                clear hHeld0 hK K
                (try simp only [List.getElem_toArray, List.getElem_cons_zero, List.getElem_cons_succ, Act.put, List.setIfInBounds_toArray, List.set_cons_zero, List.set_cons_succ])
                refine wpAnyK_take (i := 22) (v := .pointer (some ⟨b5, 1, none⟩)) rfl (by kernel_rfl) (by kernel_rfl) (by kernel_rfl) (by kernel_rfl) (fun _ _ _ h => h) (Or.inl ⟨by rfl, fun w hSw => by go_simp⟩) hHeld ?_
                simp only [List.getElem_toArray, List.getElem_cons_zero, List.getElem_cons_succ, Act.put, List.setIfInBounds_toArray, List.set_cons_zero, List.set_cons_succ]
                refine wpAnyK_take (i := 23) (v := .pointer (some ⟨b5, 3, none⟩)) rfl (by kernel_rfl) (by kernel_rfl) (by kernel_rfl) (by kernel_rfl) (fun _ _ _ h => h) (Or.inl ⟨by rfl, fun w hSw => by go_simp⟩) hHeld ?_
                simp only [List.getElem_toArray, List.getElem_cons_zero, List.getElem_cons_succ, Act.put, List.setIfInBounds_toArray, List.set_cons_zero, List.set_cons_succ]
                refine wpAnyK_take (i := 24) (v := .int .i64 s.r2) rfl (by kernel_rfl) (by kernel_rfl) (by kernel_rfl) (by kernel_rfl) (fun _ _ _ h => h) (Or.inl ⟨by rfl, fun w hSw => by go_simp⟩) hHeld ?_
                simp only [List.getElem_toArray, List.getElem_cons_zero, List.getElem_cons_succ, Act.put, List.setIfInBounds_toArray, List.set_cons_zero, List.set_cons_succ]
                refine wpAnyK_take (i := 25) (v := .int .i64 Z) rfl (by kernel_rfl) (by kernel_rfl) (by kernel_rfl) (by kernel_rfl) (fun _ _ _ h => h) (Or.inl ⟨by rfl, fun w hSw => by go_simp⟩) hHeld ?_
                simp only [List.getElem_toArray, List.getElem_cons_zero, List.getElem_cons_succ, Act.put, List.setIfInBounds_toArray, List.set_cons_zero, List.set_cons_succ]
                refine wpAnyK_take (i := 26) (v := .pointer (some ⟨b5, 1, none⟩)) rfl (by kernel_rfl) (by kernel_rfl) (by kernel_rfl) (by kernel_rfl) (fun _ _ _ h => h) (Or.inl ⟨by rfl, fun w hSw => by go_simp⟩) hHeld ?_
                simp only [List.getElem_toArray, List.getElem_cons_zero, List.getElem_cons_succ, Act.put, List.setIfInBounds_toArray, List.set_cons_zero, List.set_cons_succ]
                refine wpAnyK_take (i := 27) (v := .pointer (some ⟨b5, 2, none⟩)) rfl (by kernel_rfl) (by kernel_rfl) (by kernel_rfl) (by kernel_rfl) (fun _ _ _ h => h) (Or.inl ⟨by rfl, fun w hSw => by go_simp⟩) hHeld ?_
                simp only [List.getElem_toArray, List.getElem_cons_zero, List.getElem_cons_succ, Act.put, List.setIfInBounds_toArray, List.set_cons_zero, List.set_cons_succ]
                refine wpAnyK_take (i := 28) (v := .int .i64 s.r1) rfl (by kernel_rfl) (by kernel_rfl) (by kernel_rfl) (by kernel_rfl) (fun _ _ _ h => h) (Or.inl ⟨by rfl, fun w hSw => by go_simp⟩) hHeld ?_
                simp only [List.getElem_toArray, List.getElem_cons_zero, List.getElem_cons_succ, Act.put, List.setIfInBounds_toArray, List.set_cons_zero, List.set_cons_succ]
                refine wpAnyK_take (i := 29) (v := .int .i64 (Z - s.r1)) rfl (by kernel_rfl) (by kernel_rfl) (by kernel_rfl) (by kernel_rfl) (fun _ _ _ h => h) (Or.inl ⟨by rfl, fun w hSw => by go_simp⟩) hHeld ?_
                simp only [List.getElem_toArray, List.getElem_cons_zero, List.getElem_cons_succ, Act.put, List.setIfInBounds_toArray, List.set_cons_zero, List.set_cons_succ]
                refine wpAnyK_take (i := 30) (v := .bool false) rfl (by kernel_rfl) (by kernel_rfl) (by kernel_rfl) (by kernel_rfl) (fun _ _ _ h => h) (Or.inl ⟨by rfl, fun w hSw => by go_simp⟩) hHeld ?_
                simp only [List.getElem_toArray, List.getElem_cons_zero, List.getElem_cons_succ, Act.put, List.setIfInBounds_toArray, List.set_cons_zero, List.set_cons_succ]
                refine wpAnyK_one (i := 31) (by kernel_rfl) rfl (fun K hK => ?_)
                (try simp only [List.getElem_toArray, List.getElem_cons_zero, List.getElem_cons_succ, Act.put, List.setIfInBounds_toArray, List.set_cons_zero, List.set_cons_succ])
                go_simp
                refine hK.out _ _ (fun _ => HS.out) (fun hHeld0 => ?_)
                have hHeld := hHeld0 (by decide)
                clear hHeld0 hK K
                (try simp only [List.getElem_toArray, List.getElem_cons_zero, List.getElem_cons_succ, Act.put, List.setIfInBounds_toArray, List.set_cons_zero, List.set_cons_succ])
                refine wpAnyK_one (i := 32) (by kernel_rfl) rfl (fun K hK => ?_)
                (try simp only [List.getElem_toArray, List.getElem_cons_zero, List.getElem_cons_succ, Act.put, List.setIfInBounds_toArray, List.set_cons_zero, List.set_cons_succ])
                go_simp
                refine hK.out _ _ (fun _ => HS.out) (fun hHeld0 => ?_)
                clear hHeld0 hK K
                (try simp only [List.getElem_toArray, List.getElem_cons_zero, List.getElem_cons_succ, Act.put, List.setIfInBounds_toArray, List.set_cons_zero, List.set_cons_succ])
                refine wpAnyK_done (by kernel_rfl) ?_ _
                go_wp2_with fail
                go_loopw [8, 9] (fun t8 t9 V => t8 = .bool false ∧ t9 = .int .i64 0 ∧ V = w3.drew) (fun _ _ _ => 0)
                case atStart => exact ⟨rfl, rfl, rfl⟩
                case round =>
                  obtain ⟨rfl, rfl, hwr⟩ := hrel
                  subst wr
                  go_wp2_with fail
                  go_ret
                  exact ⟨rfl, HX.out.bl.trans (HB3.out.drew.mono HX.out.bl.size)⟩
            · have C2 := fun V => rwit18_f f2 V
              have hv := HDN.out (fun x => f2 (fs18_iff.1 x).1.2.2.1)
              subst hv
              clear f0 f1 f2
              go_enter Tryz.func25, Tryz.ntmps25
              go_wp2_with fail
              rw [HX.out.wa, HX.out.e4, HX.out.e5]
              clear l0 l1 l2 l3 l4 l5 m0 m1 m2 m3 m4 m5 m6
              refine CK.mono ?_
              rintro e1 w1 ⟨rfl, b1⟩
              have HB1 : Hid (Below wB.heap.size wB w1) := b1
              clear b1 CK
              obtain ⟨l0, l1, l2, l3, l4, l5⟩ := HX.out.cl HB1.out
              go_wp2_with fail
              refine (HPW w1).mono ?_
              rintro e2 w2 ⟨rfl, b2⟩
              have HB2 : Hid (Below wB.heap.size wB w2) := HB1.out.trans (b2.mono HB1.out.size)
              clear b2 l0 l1 l2 l3 l4 l5
              obtain ⟨l0, l1, l2, l3, l4, l5⟩ := HX.out.cl HB2.out
              go_wp2_with fail
              refine (HPS.out w2).mono ?_
              rintro e3 w3 ⟨rfl, b3⟩
              have HB3 : Hid (Below wB.heap.size wB w3) := HB2.out.trans (b3.mono HB2.out.size)
              clear b3 l0 l1 l2 l3 l4 l5
              obtain ⟨l0, l1, l2, l3, l4, l5⟩ := HX.out.cl HB3.out
              obtain ⟨m0, m1, m2, m3, m4, m5, m6⟩ := HX.out.cz HB3.out
              go_wp2_with fail
              have HS : Hid (w3.drew.cell? ⟨b5, 0, none⟩ = some (.int .i64 s.p) ∧ w3.drew.cell? ⟨b5, 1, none⟩ = some (.int .i64 s.r0) ∧ w3.drew.cell? ⟨b5, 2, none⟩ = some (.int .i64 s.r1) ∧ w3.drew.cell? ⟨b5, 3, none⟩ = some (.int .i64 s.r2) ∧ w3.drew.cell? ⟨b4, 0, none⟩ = some (.int .i64 h.o) ∧ w3.drew.cell? ⟨b4, 4, none⟩ = some (.int .i64 h.wi)) := ⟨m0, m1, m2, m3, l0, l4⟩
              clear l0 l1 l2 l3 l4 l5 m0 m1 m2 m3 m4 m5 m6
              refine plain_region16 (fun V => V.cell? ⟨b5, 0, none⟩ = some (.int .i64 s.p) ∧ V.cell? ⟨b5, 1, none⟩ = some (.int .i64 s.r0) ∧ V.cell? ⟨b5, 2, none⟩ = some (.int .i64 s.r1) ∧ V.cell? ⟨b5, 3, none⟩ = some (.int .i64 s.r2) ∧ V.cell? ⟨b4, 0, none⟩ = some (.int .i64 h.o) ∧ V.cell? ⟨b4, 4, none⟩ = some (.int .i64 h.wi)) 33 (by kernel_rfl) HS.out (fun hHeld => ?_)
              refine wpAnyK_take (i := 0) (v := .pointer (some ⟨b5, 0, none⟩)) rfl (by kernel_rfl) (by kernel_rfl) (by kernel_rfl) (by kernel_rfl) (fun _ _ _ h => h) (Or.inl ⟨by rfl, fun w hSw => by go_simp⟩) hHeld ?_
              simp only [List.getElem_toArray, List.getElem_cons_zero, Act.put, List.setIfInBounds_toArray, List.set_cons_zero, List.set_cons_succ]
              refine wpAnyK_take (i := 1) (v := .int .i64 s.p) rfl (by kernel_rfl) (by kernel_rfl) (by kernel_rfl) (by kernel_rfl) (fun _ _ _ h => h) (Or.inl ⟨by rfl, fun w hSw => by go_simp⟩) hHeld ?_
              simp only [List.getElem_toArray, List.getElem_cons_zero, List.getElem_cons_succ, Act.put, List.setIfInBounds_toArray, List.set_cons_zero, List.set_cons_succ]
              refine wpAnyK_take (i := 2) (v := .pointer (some ⟨b4, 0, none⟩)) rfl (by kernel_rfl) (by kernel_rfl) (by kernel_rfl) (by kernel_rfl) (fun _ _ _ h => h) (Or.inl ⟨by rfl, fun w hSw => by go_simp⟩) hHeld ?_
              simp only [List.getElem_toArray, List.getElem_cons_zero, List.getElem_cons_succ, Act.put, List.setIfInBounds_toArray, List.set_cons_zero, List.set_cons_succ]
              refine wpAnyK_take (i := 3) (v := .int .i64 h.o) rfl (by kernel_rfl) (by kernel_rfl) (by kernel_rfl) (by kernel_rfl) (fun _ _ _ h => h) (Or.inl ⟨by rfl, fun w hSw => by go_simp⟩) hHeld ?_
              simp only [List.getElem_toArray, List.getElem_cons_zero, List.getElem_cons_succ, Act.put, List.setIfInBounds_toArray, List.set_cons_zero, List.set_cons_succ]
              refine wpAnyK_one (i := 4) (by kernel_rfl) rfl (fun K hK => ?_)
              (try simp only [List.getElem_toArray, List.getElem_cons_zero, List.getElem_cons_succ, Act.put, List.setIfInBounds_toArray, List.set_cons_zero, List.set_cons_succ])
              go_simp
              refine (C0 _).mono ?_
              rintro e9 w9 ⟨rfl, hw9⟩
              subst w9
              refine hK.out _ _ (fun _ => HS.out) (fun hHeld0 => ?_)
              have hHeld := hHeld0 (by decide)
              clear hHeld0 hK K
              (try simp only [List.getElem_toArray, List.getElem_cons_zero, List.getElem_cons_succ, Act.put, List.setIfInBounds_toArray, List.set_cons_zero, List.set_cons_succ])
              refine wpAnyK_one (i := 5) (by kernel_rfl) rfl (fun K hK => ?_)
              (try simp only [List.getElem_toArray, List.getElem_cons_zero, List.getElem_cons_succ, Act.put, List.setIfInBounds_toArray, List.set_cons_zero, List.set_cons_succ])
              go_simp
              refine hK.out _ _ (fun _ => HS.out) (fun hHeld0 => ?_)
              have hHeld := hHeld0 (by decide)
              clear hHeld0 hK K
              (try simp only [List.getElem_toArray, List.getElem_cons_zero, List.getElem_cons_succ, Act.put, List.setIfInBounds_toArray, List.set_cons_zero, List.set_cons_succ])
              refine wpAnyK_take (i := 6) (v := .pointer (some ⟨b5, 1, none⟩)) rfl (by kernel_rfl) (by kernel_rfl) (by kernel_rfl) (by kernel_rfl) (fun _ _ _ h => h) (Or.inl ⟨by rfl, fun w hSw => by go_simp⟩) hHeld ?_
              simp only [List.getElem_toArray, List.getElem_cons_zero, List.getElem_cons_succ, Act.put, List.setIfInBounds_toArray, List.set_cons_zero, List.set_cons_succ]
              refine wpAnyK_take (i := 7) (v := .pointer (some ⟨b5, 1, none⟩)) rfl (by kernel_rfl) (by kernel_rfl) (by kernel_rfl) (by kernel_rfl) (fun _ _ _ h => h) (Or.inl ⟨by rfl, fun w hSw => by go_simp⟩) hHeld ?_
              simp only [List.getElem_toArray, List.getElem_cons_zero, List.getElem_cons_succ, Act.put, List.setIfInBounds_toArray, List.set_cons_zero, List.set_cons_succ]
              refine wpAnyK_take (i := 8) (v := .int .i64 s.r0) rfl (by kernel_rfl) (by kernel_rfl) (by kernel_rfl) (by kernel_rfl) (fun _ _ _ h => h) (Or.inl ⟨by rfl, fun w hSw => by go_simp⟩) hHeld ?_
              simp only [List.getElem_toArray, List.getElem_cons_zero, List.getElem_cons_succ, Act.put, List.setIfInBounds_toArray, List.set_cons_zero, List.set_cons_succ]
              refine wpAnyK_take (i := 9) (v := .pointer (some ⟨b4, 4, none⟩)) rfl (by kernel_rfl) (by kernel_rfl) (by kernel_rfl) (by kernel_rfl) (fun _ _ _ h => h) (Or.inl ⟨by rfl, fun w hSw => by go_simp⟩) hHeld ?_
              simp only [List.getElem_toArray, List.getElem_cons_zero, List.getElem_cons_succ, Act.put, List.setIfInBounds_toArray, List.set_cons_zero, List.set_cons_succ]
              refine wpAnyK_take (i := 10) (v := .int .i64 h.wi) rfl (by kernel_rfl) (by kernel_rfl) (by kernel_rfl) (by kernel_rfl) (fun _ _ _ h => h) (Or.inl ⟨by rfl, fun w hSw => by go_simp⟩) hHeld ?_
              simp only [List.getElem_toArray, List.getElem_cons_zero, List.getElem_cons_succ, Act.put, List.setIfInBounds_toArray, List.set_cons_zero, List.set_cons_succ]
              refine wpAnyK_one (i := 11) (by kernel_rfl) rfl (fun K hK => ?_)
              (try simp only [List.getElem_toArray, List.getElem_cons_zero, List.getElem_cons_succ, Act.put, List.setIfInBounds_toArray, List.set_cons_zero, List.set_cons_succ])
              go_simp
              refine (HMO.out _).mono ?_
              rintro e9 w9 ⟨rfl, hw9⟩
              subst w9
              refine hK.out _ _ (fun _ => HS.out) (fun hHeld0 => ?_)
              have hHeld := hHeld0 (by decide)
              clear hHeld0 hK K
              (try simp only [List.getElem_toArray, List.getElem_cons_zero, List.getElem_cons_succ, Act.put, List.setIfInBounds_toArray, List.set_cons_zero, List.set_cons_succ])
              refine wpAnyK_one (i := 12) (by kernel_rfl) rfl (fun K hK => ?_)
              (try simp only [List.getElem_toArray, List.getElem_cons_zero, List.getElem_cons_succ, Act.put, List.setIfInBounds_toArray, List.set_cons_zero, List.set_cons_succ])
              go_simp
              refine (C1 _).mono ?_
              rintro e9 w9 ⟨rfl, hw9⟩
              subst w9
              refine hK.out _ _ (fun _ => HS.out) (fun hHeld0 => ?_)
              have hHeld := hHeld0 (by decide)
              clear hHeld0 hK K
              (try simp only [List.getElem_toArray, List.getElem_cons_zero, List.getElem_cons_succ, Act.put, List.setIfInBounds_toArray, List.set_cons_zero, List.set_cons_succ])
              refine wpAnyK_one (i := 13) (by kernel_rfl) rfl (fun K hK => ?_)
              (try simp only [List.getElem_toArray, List.getElem_cons_zero, List.getElem_cons_succ, Act.put, List.setIfInBounds_toArray, List.set_cons_zero, List.set_cons_succ])
              go_simp
              refine hK.out _ _ (fun _ => HS.out) (fun hHeld0 => ?_)
              have hHeld := hHeld0 (by decide)
              clear hHeld0 hK K
              (try simp only [List.getElem_toArray, List.getElem_cons_zero, List.getElem_cons_succ, Act.put, List.setIfInBounds_toArray, List.set_cons_zero, List.set_cons_succ])
              refine wpAnyK_one (i := 14) (by kernel_rfl) rfl (fun K hK => ?_)
              (try simp only [List.getElem_toArray, List.getElem_cons_zero, List.getElem_cons_succ, Act.put, List.setIfInBounds_toArray, List.set_cons_zero, List.set_cons_succ])
              go_simp
              refine hK.out _ _ (fun _ => HS.out) (fun hHeld0 => ?_)
              have hHeld := hHeld0 (by decide)
              clear hHeld0 hK K
              (try simp only [List.getElem_toArray, List.getElem_cons_zero, List.getElem_cons_succ, Act.put, List.setIfInBounds_toArray, List.set_cons_zero, List.set_cons_succ])
              refine wpAnyK_take (i := 15) (v := .pointer (some ⟨b5, 1, none⟩)) rfl (by kernel_rfl) (by kernel_rfl) (by kernel_rfl) (by kernel_rfl) (fun _ _ _ h => h) (Or.inl ⟨by rfl, fun w hSw => by go_simp⟩) hHeld ?_
              simp only [List.getElem_toArray, List.getElem_cons_zero, List.getElem_cons_succ, Act.put, List.setIfInBounds_toArray, List.set_cons_zero, List.set_cons_succ]
              refine wpAnyK_take (i := 16) (v := .pointer (some ⟨b5, 2, none⟩)) rfl (by kernel_rfl) (by kernel_rfl) (by kernel_rfl) (by kernel_rfl) (fun _ _ _ h => h) (Or.inl ⟨by rfl, fun w hSw => by go_simp⟩) hHeld ?_
              simp only [List.getElem_toArray, List.getElem_cons_zero, List.getElem_cons_succ, Act.put, List.setIfInBounds_toArray, List.set_cons_zero, List.set_cons_succ]
              refine wpAnyK_take (i := 17) (v := .int .i64 s.r1) rfl (by kernel_rfl) (by kernel_rfl) (by kernel_rfl) (by kernel_rfl) (fun _ _ _ h => h) (Or.inl ⟨by rfl, fun w hSw => by go_simp⟩) hHeld ?_
              simp only [List.getElem_toArray, List.getElem_cons_zero, List.getElem_cons_succ, Act.put, List.setIfInBounds_toArray, List.set_cons_zero, List.set_cons_succ]
              refine wpAnyK_take (i := 18) (v := .int .i64 Z) rfl (by kernel_rfl) (by kernel_rfl) (by kernel_rfl) (by kernel_rfl) (fun _ _ _ h => h) (Or.inl ⟨by rfl, fun w hSw => by go_simp⟩) hHeld ?_
              simp only [List.getElem_toArray, List.getElem_cons_zero, List.getElem_cons_succ, Act.put, List.setIfInBounds_toArray, List.set_cons_zero, List.set_cons_succ]
              refine wpAnyK_one (i := 19) (by kernel_rfl) rfl (fun K hK => ?_)
              (try simp only [List.getElem_toArray, List.getElem_cons_zero, List.getElem_cons_succ, Act.put, List.setIfInBounds_toArray, List.set_cons_zero, List.set_cons_succ])
              go_simp
              refine (C2 _).mono ?_
              rintro e9 w9 ⟨rfl, hw9⟩
              subst w9
              refine hK.out _ _ (fun _ => HS.out) (fun hHeld0 => ?_)
              have hHeld := hHeld0 (by decide)
              clear hHeld0 hK K
              (try simp only [List.getElem_toArray, List.getElem_cons_zero, List.getElem_cons_succ, Act.put, List.setIfInBounds_toArray, List.set_cons_zero, List.set_cons_succ])
              refine wpAnyK_one (i := 20) (by kernel_rfl) rfl (fun K hK => ?_)
              (try simp only [List.getElem_toArray, List.getElem_cons_zero, List.getElem_cons_succ, Act.put, List.setIfInBounds_toArray, List.set_cons_zero, List.set_cons_succ])
              go_simp
              refine hK.out _ _ (fun _ => HS.out) (fun hHeld0 => ?_)
              have hHeld := hHeld0 (by decide)
              clear hHeld0 hK K
              (try simp only [List.getElem_toArray, List.getElem_cons_zero, List.getElem_cons_succ, Act.put, List.setIfInBounds_toArray, List.set_cons_zero, List.set_cons_succ])
              refine wpAnyK_one (i := 21) (by kernel_rfl) rfl (fun K hK => ?_)
              (try simp only [List.getElem_toArray, List.getElem_cons_zero, List.getElem_cons_succ, Act.put, List.setIfInBounds_toArray, List.set_cons_zero, List.set_cons_succ])
              go_simp
              refine hK.out _ _ (fun _ => HS.out) (fun hHeld0 => ?_)
              have hHeld := hHeld0 (by decide)
              clear hHeld0 hK K
              (try simp only [List.getElem_toArray, List.getElem_cons_zero, List.getElem_cons_succ, Act.put, List.setIfInBounds_toArray, List.set_cons_zero, List.set_cons_succ])
              refine wpAnyK_take (i := 22) (v := undef) rfl (by kernel_rfl) (by kernel_rfl) (by kernel_rfl) (by kernel_rfl) (fun _ _ _ h => h) (Or.inr ⟨by rfl, rfl⟩) hHeld ?_
              simp only [List.getElem_toArray, List.getElem_cons_zero, List.getElem_cons_succ, Act.put, List.setIfInBounds_toArray, List.set_cons_zero, List.set_cons_succ]
              refine wpAnyK_take (i := 23) (v := undef) rfl (by kernel_rfl) (by kernel_rfl) (by kernel_rfl) (by kernel_rfl) (fun _ _ _ h => h) (Or.inr ⟨by rfl, rfl⟩) hHeld ?_
              simp only [List.getElem_toArray, List.getElem_cons_zero, List.getElem_cons_succ, Act.put, List.setIfInBounds_toArray, List.set_cons_zero, List.set_cons_succ]
              refine wpAnyK_take (i := 24) (v := undef) rfl (by kernel_rfl) (by kernel_rfl) (by kernel_rfl) (by kernel_rfl) (fun _ _ _ h => h) (Or.inr ⟨by rfl, rfl⟩) hHeld ?_
              simp only [List.getElem_toArray, List.getElem_cons_zero, List.getElem_cons_succ, Act.put, List.setIfInBounds_toArray, List.set_cons_zero, List.set_cons_succ]
              refine wpAnyK_take (i := 25) (v := undef) rfl (by kernel_rfl) (by kernel_rfl) (by kernel_rfl) (by kernel_rfl) (fun _ _ _ h => h) (Or.inr ⟨by rfl, rfl⟩) hHeld ?_
              simp only [List.getElem_toArray, List.getElem_cons_zero, List.getElem_cons_succ, Act.put, List.setIfInBounds_toArray, List.set_cons_zero, List.set_cons_succ]
              refine wpAnyK_take (i := 26) (v := undef) rfl (by kernel_rfl) (by kernel_rfl) (by kernel_rfl) (by kernel_rfl) (fun _ _ _ h => h) (Or.inr ⟨by rfl, rfl⟩) hHeld ?_
              simp only [List.getElem_toArray, List.getElem_cons_zero, List.getElem_cons_succ, Act.put, List.setIfInBounds_toArray, List.set_cons_zero, List.set_cons_succ]
              refine wpAnyK_take (i := 27) (v := undef) rfl (by kernel_rfl) (by kernel_rfl) (by kernel_rfl) (by kernel_rfl) (fun _ _ _ h => h) (Or.inr ⟨by rfl, rfl⟩) hHeld ?_
              simp only [List.getElem_toArray, List.getElem_cons_zero, List.getElem_cons_succ, Act.put, List.setIfInBounds_toArray, List.set_cons_zero, List.set_cons_succ]
              refine wpAnyK_take (i := 28) (v := undef) rfl (by kernel_rfl) (by kernel_rfl) (by kernel_rfl) (by kernel_rfl) (fun _ _ _ h => h) (Or.inr ⟨by rfl, rfl⟩) hHeld ?_
              simp only [List.getElem_toArray, List.getElem_cons_zero, List.getElem_cons_succ, Act.put, List.setIfInBounds_toArray, List.set_cons_zero, List.set_cons_succ]
              refine wpAnyK_take (i := 29) (v := undef) rfl (by kernel_rfl) (by kernel_rfl) (by kernel_rfl) (by kernel_rfl) (fun _ _ _ h => h) (Or.inr ⟨by rfl, rfl⟩) hHeld ?_
              simp only [List.getElem_toArray, List.getElem_cons_zero, List.getElem_cons_succ, Act.put, List.setIfInBounds_toArray, List.set_cons_zero, List.set_cons_succ]
              refine wpAnyK_take (i := 30) (v := undef) rfl (by kernel_rfl) (by kernel_rfl) (by kernel_rfl) (by kernel_rfl) (fun _ _ _ h => h) (Or.inr ⟨by rfl, rfl⟩) hHeld ?_
              simp only [List.getElem_toArray, List.getElem_cons_zero, List.getElem_cons_succ, Act.put, List.setIfInBounds_toArray, List.set_cons_zero, List.set_cons_succ]
              refine wpAnyK_one (i := 31) (by kernel_rfl) rfl (fun K hK => ?_)
              (try simp only [List.getElem_toArray, List.getElem_cons_zero, List.getElem_cons_succ, Act.put, List.setIfInBounds_toArray, List.set_cons_zero, List.set_cons_succ])
              go_simp
              refine hK.out _ _ (fun _ => HS.out) (fun hHeld0 => ?_)
              have hHeld := hHeld0 (by decide)
              clear hHeld0 hK K
              (try simp only [List.getElem_toArray, List.getElem_cons_zero, List.getElem_cons_succ, Act.put, List.setIfInBounds_toArray, List.set_cons_zero, List.set_cons_succ])
              refine wpAnyK_one (i := 32) (by kernel_rfl) rfl (fun K hK => ?_)
              (try simp only [List.getElem_toArray, List.getElem_cons_zero, List.getElem_cons_succ, Act.put, List.setIfInBounds_toArray, List.set_cons_zero, List.set_cons_succ])
              go_simp
              refine hK.out _ _ (fun _ => HS.out) (fun hHeld0 => ?_)
              clear hHeld0 hK K
              (try simp only [List.getElem_toArray, List.getElem_cons_zero, List.getElem_cons_succ, Act.put, List.setIfInBounds_toArray, List.set_cons_zero, List.set_cons_succ])
              refine wpAnyK_done (by kernel_rfl) ?_ _
              go_wp2_with fail
              go_loopw [8, 9] (fun t8 t9 V => t8 = .bool false ∧ t9 = .int .i64 0 ∧ V = w3.drew) (fun _ _ _ => 0)
              case atStart => exact ⟨rfl, rfl, rfl⟩
              case round =>
                obtain ⟨rfl, rfl, hwr⟩ := hrel
                subst wr
                go_wp2_with fail
                go_ret
                exact ⟨rfl, HX.out.bl.trans (HB3.out.drew.mono HX.out.bl.size)⟩
          · have C1 := fun V => rwit18_f f1 V
            have hv := HDN.out (fun x => f1 (fs18_iff.1 x).1.2.1)
            subst hv
            clear f0 f1
            go_enter Tryz.func25, Tryz.ntmps25
            go_wp2_with fail
            rw [HX.out.wa, HX.out.e4, HX.out.e5]
            clear l0 l1 l2 l3 l4 l5 m0 m1 m2 m3 m4 m5 m6
            refine CK.mono ?_
            rintro e1 w1 ⟨rfl, b1⟩
            have HB1 : Hid (Below wB.heap.size wB w1) := b1
            clear b1 CK
            obtain ⟨l0, l1, l2, l3, l4, l5⟩ := HX.out.cl HB1.out
            go_wp2_with fail
            refine (HPW w1).mono ?_
            rintro e2 w2 ⟨rfl, b2⟩
            have HB2 : Hid (Below wB.heap.size wB w2) := HB1.out.trans (b2.mono HB1.out.size)
            clear b2 l0 l1 l2 l3 l4 l5
            obtain ⟨l0, l1, l2, l3, l4, l5⟩ := HX.out.cl HB2.out
            go_wp2_with fail
            refine (HPS.out w2).mono ?_
            rintro e3 w3 ⟨rfl, b3⟩
            have HB3 : Hid (Below wB.heap.size wB w3) := HB2.out.trans (b3.mono HB2.out.size)
            clear b3 l0 l1 l2 l3 l4 l5
            obtain ⟨l0, l1, l2, l3, l4, l5⟩ := HX.out.cl HB3.out
            obtain ⟨m0, m1, m2, m3, m4, m5, m6⟩ := HX.out.cz HB3.out
            go_wp2_with fail
            have HS : Hid (w3.drew.cell? ⟨b5, 0, none⟩ = some (.int .i64 s.p) ∧ w3.drew.cell? ⟨b5, 1, none⟩ = some (.int .i64 s.r0) ∧ w3.drew.cell? ⟨b5, 2, none⟩ = some (.int .i64 s.r1) ∧ w3.drew.cell? ⟨b5, 3, none⟩ = some (.int .i64 s.r2) ∧ w3.drew.cell? ⟨b4, 0, none⟩ = some (.int .i64 h.o) ∧ w3.drew.cell? ⟨b4, 4, none⟩ = some (.int .i64 h.wi)) := ⟨m0, m1, m2, m3, l0, l4⟩
            clear l0 l1 l2 l3 l4 l5 m0 m1 m2 m3 m4 m5 m6
            refine plain_region16 (fun V => V.cell? ⟨b5, 0, none⟩ = some (.int .i64 s.p) ∧ V.cell? ⟨b5, 1, none⟩ = some (.int .i64 s.r0) ∧ V.cell? ⟨b5, 2, none⟩ = some (.int .i64 s.r1) ∧ V.cell? ⟨b5, 3, none⟩ = some (.int .i64 s.r2) ∧ V.cell? ⟨b4, 0, none⟩ = some (.int .i64 h.o) ∧ V.cell? ⟨b4, 4, none⟩ = some (.int .i64 h.wi)) 33 (by kernel_rfl) HS.out (fun hHeld => ?_)
            refine wpAnyK_take (i := 0) (v := .pointer (some ⟨b5, 0, none⟩)) rfl (by kernel_rfl) (by kernel_rfl) (by kernel_rfl) (by kernel_rfl) (fun _ _ _ h => h) (Or.inl ⟨by rfl, fun w hSw => by go_simp⟩) hHeld ?_
            simp only [List.getElem_toArray, List.getElem_cons_zero, Act.put, List.setIfInBounds_toArray, List.set_cons_zero, List.set_cons_succ]
            refine wpAnyK_take (i := 1) (v := .int .i64 s.p) rfl (by kernel_rfl) (by kernel_rfl) (by kernel_rfl) (by kernel_rfl) (fun _ _ _ h => h) (Or.inl ⟨by rfl, fun w hSw => by go_simp⟩) hHeld ?_
            simp only [List.getElem_toArray, List.getElem_cons_zero, List.getElem_cons_succ, Act.put, List.setIfInBounds_toArray, List.set_cons_zero, List.set_cons_succ]
            refine wpAnyK_take (i := 2) (v := .pointer (some ⟨b4, 0, none⟩)) rfl (by kernel_rfl) (by kernel_rfl) (by kernel_rfl) (by kernel_rfl) (fun _ _ _ h => h) (Or.inl ⟨by rfl, fun w hSw => by go_simp⟩) hHeld ?_
            simp only [List.getElem_toArray, List.getElem_cons_zero, List.getElem_cons_succ, Act.put, List.setIfInBounds_toArray, List.set_cons_zero, List.set_cons_succ]
            refine wpAnyK_take (i := 3) (v := .int .i64 h.o) rfl (by kernel_rfl) (by kernel_rfl) (by kernel_rfl) (by kernel_rfl) (fun _ _ _ h => h) (Or.inl ⟨by rfl, fun w hSw => by go_simp⟩) hHeld ?_
            simp only [List.getElem_toArray, List.getElem_cons_zero, List.getElem_cons_succ, Act.put, List.setIfInBounds_toArray, List.set_cons_zero, List.set_cons_succ]
            refine wpAnyK_one (i := 4) (by kernel_rfl) rfl (fun K hK => ?_)
            (try simp only [List.getElem_toArray, List.getElem_cons_zero, List.getElem_cons_succ, Act.put, List.setIfInBounds_toArray, List.set_cons_zero, List.set_cons_succ])
            go_simp
            refine (C0 _).mono ?_
            rintro e9 w9 ⟨rfl, hw9⟩
            subst w9
            refine hK.out _ _ (fun _ => HS.out) (fun hHeld0 => ?_)
            have hHeld := hHeld0 (by decide)
            clear hHeld0 hK K
            (try simp only [List.getElem_toArray, List.getElem_cons_zero, List.getElem_cons_succ, Act.put, List.setIfInBounds_toArray, List.set_cons_zero, List.set_cons_succ])
            refine wpAnyK_one (i := 5) (by kernel_rfl) rfl (fun K hK => ?_)
            (try simp only [List.getElem_toArray, List.getElem_cons_zero, List.getElem_cons_succ, Act.put, List.setIfInBounds_toArray, List.set_cons_zero, List.set_cons_succ])
            go_simp
            refine hK.out _ _ (fun _ => HS.out) (fun hHeld0 => ?_)
            have hHeld := hHeld0 (by decide)
            clear hHeld0 hK K
            (try simp only [List.getElem_toArray, List.getElem_cons_zero, List.getElem_cons_succ, Act.put, List.setIfInBounds_toArray, List.set_cons_zero, List.set_cons_succ])
            refine wpAnyK_take (i := 6) (v := .pointer (some ⟨b5, 1, none⟩)) rfl (by kernel_rfl) (by kernel_rfl) (by kernel_rfl) (by kernel_rfl) (fun _ _ _ h => h) (Or.inl ⟨by rfl, fun w hSw => by go_simp⟩) hHeld ?_
            simp only [List.getElem_toArray, List.getElem_cons_zero, List.getElem_cons_succ, Act.put, List.setIfInBounds_toArray, List.set_cons_zero, List.set_cons_succ]
            refine wpAnyK_take (i := 7) (v := .pointer (some ⟨b5, 1, none⟩)) rfl (by kernel_rfl) (by kernel_rfl) (by kernel_rfl) (by kernel_rfl) (fun _ _ _ h => h) (Or.inl ⟨by rfl, fun w hSw => by go_simp⟩) hHeld ?_
            simp only [List.getElem_toArray, List.getElem_cons_zero, List.getElem_cons_succ, Act.put, List.setIfInBounds_toArray, List.set_cons_zero, List.set_cons_succ]
            refine wpAnyK_take (i := 8) (v := .int .i64 s.r0) rfl (by kernel_rfl) (by kernel_rfl) (by kernel_rfl) (by kernel_rfl) (fun _ _ _ h => h) (Or.inl ⟨by rfl, fun w hSw => by go_simp⟩) hHeld ?_
            simp only [List.getElem_toArray, List.getElem_cons_zero, List.getElem_cons_succ, Act.put, List.setIfInBounds_toArray, List.set_cons_zero, List.set_cons_succ]
            refine wpAnyK_take (i := 9) (v := .pointer (some ⟨b4, 4, none⟩)) rfl (by kernel_rfl) (by kernel_rfl) (by kernel_rfl) (by kernel_rfl) (fun _ _ _ h => h) (Or.inl ⟨by rfl, fun w hSw => by go_simp⟩) hHeld ?_
            simp only [List.getElem_toArray, List.getElem_cons_zero, List.getElem_cons_succ, Act.put, List.setIfInBounds_toArray, List.set_cons_zero, List.set_cons_succ]
            refine wpAnyK_take (i := 10) (v := .int .i64 h.wi) rfl (by kernel_rfl) (by kernel_rfl) (by kernel_rfl) (by kernel_rfl) (fun _ _ _ h => h) (Or.inl ⟨by rfl, fun w hSw => by go_simp⟩) hHeld ?_
            simp only [List.getElem_toArray, List.getElem_cons_zero, List.getElem_cons_succ, Act.put, List.setIfInBounds_toArray, List.set_cons_zero, List.set_cons_succ]
            refine wpAnyK_one (i := 11) (by kernel_rfl) rfl (fun K hK => ?_)
            (try simp only [List.getElem_toArray, List.getElem_cons_zero, List.getElem_cons_succ, Act.put, List.setIfInBounds_toArray, List.set_cons_zero, List.set_cons_succ])
            go_simp
            refine (HMO.out _).mono ?_
            rintro e9 w9 ⟨rfl, hw9⟩
            subst w9
            refine hK.out _ _ (fun _ => HS.out) (fun hHeld0 => ?_)
            have hHeld := hHeld0 (by decide)
            clear hHeld0 hK K
            (try simp only [List.getElem_toArray, List.getElem_cons_zero, List.getElem_cons_succ, Act.put, List.setIfInBounds_toArray, List.set_cons_zero, List.set_cons_succ])
            refine wpAnyK_one (i := 12) (by kernel_rfl) rfl (fun K hK => ?_)
            (try simp only [List.getElem_toArray, List.getElem_cons_zero, List.getElem_cons_succ, Act.put, List.setIfInBounds_toArray, List.set_cons_zero, List.set_cons_succ])
            go_simp
            refine (C1 _).mono ?_
            rintro e9 w9 ⟨rfl, hw9⟩
            subst w9
            refine hK.out _ _ (fun _ => HS.out) (fun hHeld0 => ?_)
            have hHeld := hHeld0 (by decide)
            clear hHeld0 hK K
            (try simp only [List.getElem_toArray, List.getElem_cons_zero, List.getElem_cons_succ, Act.put, List.setIfInBounds_toArray, List.set_cons_zero, List.set_cons_succ])
            refine wpAnyK_one (i := 13) (by kernel_rfl) rfl (fun K hK => ?_)
            (try simp only [List.getElem_toArray, List.getElem_cons_zero, List.getElem_cons_succ, Act.put, List.setIfInBounds_toArray, List.set_cons_zero, List.set_cons_succ])
            go_simp
            refine hK.out _ _ (fun _ => HS.out) (fun hHeld0 => ?_)
            have hHeld := hHeld0 (by decide)
            clear hHeld0 hK K
            (try simp only [List.getElem_toArray, List.getElem_cons_zero, List.getElem_cons_succ, Act.put, List.setIfInBounds_toArray, List.set_cons_zero, List.set_cons_succ])
            refine wpAnyK_one (i := 14) (by kernel_rfl) rfl (fun K hK => ?_)
            (try simp only [List.getElem_toArray, List.getElem_cons_zero, List.getElem_cons_succ, Act.put, List.setIfInBounds_toArray, List.set_cons_zero, List.set_cons_succ])
            go_simp
            refine hK.out _ _ (fun _ => HS.out) (fun hHeld0 => ?_)
            have hHeld := hHeld0 (by decide)
            clear hHeld0 hK K
            (try simp only [List.getElem_toArray, List.getElem_cons_zero, List.getElem_cons_succ, Act.put, List.setIfInBounds_toArray, List.set_cons_zero, List.set_cons_succ])
            refine wpAnyK_take (i := 15) (v := undef) rfl (by kernel_rfl) (by kernel_rfl) (by kernel_rfl) (by kernel_rfl) (fun _ _ _ h => h) (Or.inr ⟨by rfl, rfl⟩) hHeld ?_
            simp only [List.getElem_toArray, List.getElem_cons_zero, List.getElem_cons_succ, Act.put, List.setIfInBounds_toArray, List.set_cons_zero, List.set_cons_succ]
            refine wpAnyK_take (i := 16) (v := undef) rfl (by kernel_rfl) (by kernel_rfl) (by kernel_rfl) (by kernel_rfl) (fun _ _ _ h => h) (Or.inr ⟨by rfl, rfl⟩) hHeld ?_
            simp only [List.getElem_toArray, List.getElem_cons_zero, List.getElem_cons_succ, Act.put, List.setIfInBounds_toArray, List.set_cons_zero, List.set_cons_succ]
            refine wpAnyK_take (i := 17) (v := undef) rfl (by kernel_rfl) (by kernel_rfl) (by kernel_rfl) (by kernel_rfl) (fun _ _ _ h => h) (Or.inr ⟨by rfl, rfl⟩) hHeld ?_
            simp only [List.getElem_toArray, List.getElem_cons_zero, List.getElem_cons_succ, Act.put, List.setIfInBounds_toArray, List.set_cons_zero, List.set_cons_succ]
            refine wpAnyK_take (i := 18) (v := undef) rfl (by kernel_rfl) (by kernel_rfl) (by kernel_rfl) (by kernel_rfl) (fun _ _ _ h => h) (Or.inr ⟨by rfl, rfl⟩) hHeld ?_
            simp only [List.getElem_toArray, List.getElem_cons_zero, List.getElem_cons_succ, Act.put, List.setIfInBounds_toArray, List.set_cons_zero, List.set_cons_succ]
            refine wpAnyK_one (i := 19) (by kernel_rfl) rfl (fun K hK => ?_)
            (try simp only [List.getElem_toArray, List.getElem_cons_zero, List.getElem_cons_succ, Act.put, List.setIfInBounds_toArray, List.set_cons_zero, List.set_cons_succ])
            go_simp
            refine hK.out _ _ (fun _ => HS.out) (fun hHeld0 => ?_)
            have hHeld := hHeld0 (by decide)
            clear hHeld0 hK K
            (try simp only [List.getElem_toArray, List.getElem_cons_zero, List.getElem_cons_succ, Act.put, List.setIfInBounds_toArray, List.set_cons_zero, List.set_cons_succ])
            refine wpAnyK_one (i := 20) (by kernel_rfl) rfl (fun K hK => ?_)
            (try simp only [List.getElem_toArray, List.getElem_cons_zero, List.getElem_cons_succ, Act.put, List.setIfInBounds_toArray, List.set_cons_zero, List.set_cons_succ])
            go_simp
            refine hK.out _ _ (fun _ => HS.out) (fun hHeld0 => ?_)
            have hHeld := hHeld0 (by decide)
            clear hHeld0 hK K
            (try simp only [List.getElem_toArray, List.getElem_cons_zero, List.getElem_cons_succ, Act.put, List.setIfInBounds_toArray, List.set_cons_zero, List.set_cons_succ])
            refine wpAnyK_one (i := 21) (by kernel_rfl) rfl (fun K hK => ?_)
            (try simp only [List.getElem_toArray, List.getElem_cons_zero, List.getElem_cons_succ, Act.put, List.setIfInBounds_toArray, List.set_cons_zero, List.set_cons_succ])
            go_simp
            refine hK.out _ _ (fun _ => HS.out) (fun hHeld0 => ?_)
            have hHeld := hHeld0 (by decide)
            clear hHeld0 hK K
            (try simp only [List.getElem_toArray, List.getElem_cons_zero, List.getElem_cons_succ, Act.put, List.setIfInBounds_toArray, List.set_cons_zero, List.set_cons_succ])
            refine wpAnyK_take (i := 22) (v := undef) rfl (by kernel_rfl) (by kernel_rfl) (by kernel_rfl) (by kernel_rfl) (fun _ _ _ h => h) (Or.inr ⟨by rfl, rfl⟩) hHeld ?_
            simp only [List.getElem_toArray, List.getElem_cons_zero, List.getElem_cons_succ, Act.put, List.setIfInBounds_toArray, List.set_cons_zero, List.set_cons_succ]
            refine wpAnyK_take (i := 23) (v := undef) rfl (by kernel_rfl) (by kernel_rfl) (by kernel_rfl) (by kernel_rfl) (fun _ _ _ h => h) (Or.inr ⟨by rfl, rfl⟩) hHeld ?_
            simp only [List.getElem_toArray, List.getElem_cons_zero, List.getElem_cons_succ, Act.put, List.setIfInBounds_toArray, List.set_cons_zero, List.set_cons_succ]
            refine wpAnyK_take (i := 24) (v := undef) rfl (by kernel_rfl) (by kernel_rfl) (by kernel_rfl) (by kernel_rfl) (fun _ _ _ h => h) (Or.inr ⟨by rfl, rfl⟩) hHeld ?_
            simp only [List.getElem_toArray, List.getElem_cons_zero, List.getElem_cons_succ, Act.put, List.setIfInBounds_toArray, List.set_cons_zero, List.set_cons_succ]
            refine wpAnyK_take (i := 25) (v := undef) rfl (by kernel_rfl) (by kernel_rfl) (by kernel_rfl) (by kernel_rfl) (fun _ _ _ h => h) (Or.inr ⟨by rfl, rfl⟩) hHeld ?_
            simp only [List.getElem_toArray, List.getElem_cons_zero, List.getElem_cons_succ, Act.put, List.setIfInBounds_toArray, List.set_cons_zero, List.set_cons_succ]
            refine wpAnyK_take (i := 26) (v := undef) rfl (by kernel_rfl) (by kernel_rfl) (by kernel_rfl) (by kernel_rfl) (fun _ _ _ h => h) (Or.inr ⟨by rfl, rfl⟩) hHeld ?_
            simp only [List.getElem_toArray, List.getElem_cons_zero, List.getElem_cons_succ, Act.put, List.setIfInBounds_toArray, List.set_cons_zero, List.set_cons_succ]
            refine wpAnyK_take (i := 27) (v := undef) rfl (by kernel_rfl) (by kernel_rfl) (by kernel_rfl) (by kernel_rfl) (fun _ _ _ h => h) (Or.inr ⟨by rfl, rfl⟩) hHeld ?_
            simp only [List.getElem_toArray, List.getElem_cons_zero, List.getElem_cons_succ, Act.put, List.setIfInBounds_toArray, List.set_cons_zero, List.set_cons_succ]
            refine wpAnyK_take (i := 28) (v := undef) rfl (by kernel_rfl) (by kernel_rfl) (by kernel_rfl) (by kernel_rfl) (fun _ _ _ h => h) (Or.inr ⟨by rfl, rfl⟩) hHeld ?_
            simp only [List.getElem_toArray, List.getElem_cons_zero, List.getElem_cons_succ, Act.put, List.setIfInBounds_toArray, List.set_cons_zero, List.set_cons_succ]
            refine wpAnyK_take (i := 29) (v := undef) rfl (by kernel_rfl) (by kernel_rfl) (by kernel_rfl) (by kernel_rfl) (fun _ _ _ h => h) (Or.inr ⟨by rfl, rfl⟩) hHeld ?_
            simp only [List.getElem_toArray, List.getElem_cons_zero, List.getElem_cons_succ, Act.put, List.setIfInBounds_toArray, List.set_cons_zero, List.set_cons_succ]
            refine wpAnyK_take (i := 30) (v := undef) rfl (by kernel_rfl) (by kernel_rfl) (by kernel_rfl) (by kernel_rfl) (fun _ _ _ h => h) (Or.inr ⟨by rfl, rfl⟩) hHeld ?_
            simp only [List.getElem_toArray, List.getElem_cons_zero, List.getElem_cons_succ, Act.put, List.setIfInBounds_toArray, List.set_cons_zero, List.set_cons_succ]
            refine wpAnyK_one (i := 31) (by kernel_rfl) rfl (fun K hK => ?_)
            (try simp only [List.getElem_toArray, List.getElem_cons_zero, List.getElem_cons_succ, Act.put, List.setIfInBounds_toArray, List.set_cons_zero, List.set_cons_succ])
            go_simp
            refine hK.out _ _ (fun _ => HS.out) (fun hHeld0 => ?_)
            have hHeld := hHeld0 (by decide)
            clear hHeld0 hK K
            (try simp only [List.getElem_toArray, List.getElem_cons_zero, List.getElem_cons_succ, Act.put, List.setIfInBounds_toArray, List.set_cons_zero, List.set_cons_succ])
            refine wpAnyK_one (i := 32) (by kernel_rfl) rfl (fun K hK => ?_)
            (try simp only [List.getElem_toArray, List.getElem_cons_zero, List.getElem_cons_succ, Act.put, List.setIfInBounds_toArray, List.set_cons_zero, List.set_cons_succ])
            go_simp
            refine hK.out _ _ (fun _ => HS.out) (fun hHeld0 => ?_)
            clear hHeld0 hK K
            (try simp only [List.getElem_toArray, List.getElem_cons_zero, List.getElem_cons_succ, Act.put, List.setIfInBounds_toArray, List.set_cons_zero, List.set_cons_succ])
            refine wpAnyK_done (by kernel_rfl) ?_ _
            go_wp2_with fail
            go_loopw [8, 9] (fun t8 t9 V => t8 = .bool false ∧ t9 = .int .i64 0 ∧ V = w3.drew) (fun _ _ _ => 0)
            case atStart => exact ⟨rfl, rfl, rfl⟩
            case round =>
              obtain ⟨rfl, rfl, hwr⟩ := hrel
              subst wr
              go_wp2_with fail
              go_ret
              exact ⟨rfl, HX.out.bl.trans (HB3.out.drew.mono HX.out.bl.size)⟩
        · have C0 := fun V => rwit18_f f0 V
          have hv := HDN.out (fun x => f0 (fs18_iff.1 x).1.1)
          subst hv
          clear f0
          go_enter Tryz.func25, Tryz.ntmps25
          go_wp2_with fail
          rw [HX.out.wa, HX.out.e4, HX.out.e5]
          clear l0 l1 l2 l3 l4 l5 m0 m1 m2 m3 m4 m5 m6
          refine CK.mono ?_
          rintro e1 w1 ⟨rfl, b1⟩
          have HB1 : Hid (Below wB.heap.size wB w1) := b1
          clear b1 CK
          obtain ⟨l0, l1, l2, l3, l4, l5⟩ := HX.out.cl HB1.out
          go_wp2_with fail
          refine (HPW w1).mono ?_
          rintro e2 w2 ⟨rfl, b2⟩
          have HB2 : Hid (Below wB.heap.size wB w2) := HB1.out.trans (b2.mono HB1.out.size)
          clear b2 l0 l1 l2 l3 l4 l5
          obtain ⟨l0, l1, l2, l3, l4, l5⟩ := HX.out.cl HB2.out
          go_wp2_with fail
          refine (HPS.out w2).mono ?_
          rintro e3 w3 ⟨rfl, b3⟩
          have HB3 : Hid (Below wB.heap.size wB w3) := HB2.out.trans (b3.mono HB2.out.size)
          clear b3 l0 l1 l2 l3 l4 l5
          obtain ⟨l0, l1, l2, l3, l4, l5⟩ := HX.out.cl HB3.out
          obtain ⟨m0, m1, m2, m3, m4, m5, m6⟩ := HX.out.cz HB3.out
          go_wp2_with fail
          have HS : Hid (w3.drew.cell? ⟨b5, 0, none⟩ = some (.int .i64 s.p) ∧ w3.drew.cell? ⟨b5, 1, none⟩ = some (.int .i64 s.r0) ∧ w3.drew.cell? ⟨b5, 2, none⟩ = some (.int .i64 s.r1) ∧ w3.drew.cell? ⟨b5, 3, none⟩ = some (.int .i64 s.r2) ∧ w3.drew.cell? ⟨b4, 0, none⟩ = some (.int .i64 h.o) ∧ w3.drew.cell? ⟨b4, 4, none⟩ = some (.int .i64 h.wi)) := ⟨m0, m1, m2, m3, l0, l4⟩
          clear l0 l1 l2 l3 l4 l5 m0 m1 m2 m3 m4 m5 m6
          refine plain_region16 (fun V => V.cell? ⟨b5, 0, none⟩ = some (.int .i64 s.p) ∧ V.cell? ⟨b5, 1, none⟩ = some (.int .i64 s.r0) ∧ V.cell? ⟨b5, 2, none⟩ = some (.int .i64 s.r1) ∧ V.cell? ⟨b5, 3, none⟩ = some (.int .i64 s.r2) ∧ V.cell? ⟨b4, 0, none⟩ = some (.int .i64 h.o) ∧ V.cell? ⟨b4, 4, none⟩ = some (.int .i64 h.wi)) 33 (by kernel_rfl) HS.out (fun hHeld => ?_)
          refine wpAnyK_take (i := 0) (v := .pointer (some ⟨b5, 0, none⟩)) rfl (by kernel_rfl) (by kernel_rfl) (by kernel_rfl) (by kernel_rfl) (fun _ _ _ h => h) (Or.inl ⟨by rfl, fun w hSw => by go_simp⟩) hHeld ?_
          simp only [List.getElem_toArray, List.getElem_cons_zero, Act.put, List.setIfInBounds_toArray, List.set_cons_zero, List.set_cons_succ]
          refine wpAnyK_take (i := 1) (v := .int .i64 s.p) rfl (by kernel_rfl) (by kernel_rfl) (by kernel_rfl) (by kernel_rfl) (fun _ _ _ h => h) (Or.inl ⟨by rfl, fun w hSw => by go_simp⟩) hHeld ?_
          simp only [List.getElem_toArray, List.getElem_cons_zero, List.getElem_cons_succ, Act.put, List.setIfInBounds_toArray, List.set_cons_zero, List.set_cons_succ]
          refine wpAnyK_take (i := 2) (v := .pointer (some ⟨b4, 0, none⟩)) rfl (by kernel_rfl) (by kernel_rfl) (by kernel_rfl) (by kernel_rfl) (fun _ _ _ h => h) (Or.inl ⟨by rfl, fun w hSw => by go_simp⟩) hHeld ?_
          simp only [List.getElem_toArray, List.getElem_cons_zero, List.getElem_cons_succ, Act.put, List.setIfInBounds_toArray, List.set_cons_zero, List.set_cons_succ]
          refine wpAnyK_take (i := 3) (v := .int .i64 h.o) rfl (by kernel_rfl) (by kernel_rfl) (by kernel_rfl) (by kernel_rfl) (fun _ _ _ h => h) (Or.inl ⟨by rfl, fun w hSw => by go_simp⟩) hHeld ?_
          simp only [List.getElem_toArray, List.getElem_cons_zero, List.getElem_cons_succ, Act.put, List.setIfInBounds_toArray, List.set_cons_zero, List.set_cons_succ]
          refine wpAnyK_one (i := 4) (by kernel_rfl) rfl (fun K hK => ?_)
          (try simp only [List.getElem_toArray, List.getElem_cons_zero, List.getElem_cons_succ, Act.put, List.setIfInBounds_toArray, List.set_cons_zero, List.set_cons_succ])
          go_simp
          refine (C0 _).mono ?_
          rintro e9 w9 ⟨rfl, hw9⟩
          subst w9
          refine hK.out _ _ (fun _ => HS.out) (fun hHeld0 => ?_)
          have hHeld := hHeld0 (by decide)
          clear hHeld0 hK K
          (try simp only [List.getElem_toArray, List.getElem_cons_zero, List.getElem_cons_succ, Act.put, List.setIfInBounds_toArray, List.set_cons_zero, List.set_cons_succ])
          refine wpAnyK_one (i := 5) (by kernel_rfl) rfl (fun K hK => ?_)
          (try simp only [List.getElem_toArray, List.getElem_cons_zero, List.getElem_cons_succ, Act.put, List.setIfInBounds_toArray, List.set_cons_zero, List.set_cons_succ])
          go_simp
          refine hK.out _ _ (fun _ => HS.out) (fun hHeld0 => ?_)
          have hHeld := hHeld0 (by decide)
          clear hHeld0 hK K
          (try simp only [List.getElem_toArray, List.getElem_cons_zero, List.getElem_cons_succ, Act.put, List.setIfInBounds_toArray, List.set_cons_zero, List.set_cons_succ])
          refine wpAnyK_take (i := 6) (v := undef) rfl (by kernel_rfl) (by kernel_rfl) (by kernel_rfl) (by kernel_rfl) (fun _ _ _ h => h) (Or.inr ⟨by rfl, rfl⟩) hHeld ?_
          simp only [List.getElem_toArray, List.getElem_cons_zero, List.getElem_cons_succ, Act.put, List.setIfInBounds_toArray, List.set_cons_zero, List.set_cons_succ]
          refine wpAnyK_take (i := 7) (v := undef) rfl (by kernel_rfl) (by kernel_rfl) (by kernel_rfl) (by kernel_rfl) (fun _ _ _ h => h) (Or.inr ⟨by rfl, rfl⟩) hHeld ?_
          simp only [List.getElem_toArray, List.getElem_cons_zero, List.getElem_cons_succ, Act.put, List.setIfInBounds_toArray, List.set_cons_zero, List.set_cons_succ]
          refine wpAnyK_take (i := 8) (v := undef) rfl (by kernel_rfl) (by kernel_rfl) (by kernel_rfl) (by kernel_rfl) (fun _ _ _ h => h) (Or.inr ⟨by rfl, rfl⟩) hHeld ?_
          simp only [List.getElem_toArray, List.getElem_cons_zero, List.getElem_cons_succ, Act.put, List.setIfInBounds_toArray, List.set_cons_zero, List.set_cons_succ]
          refine wpAnyK_take (i := 9) (v := undef) rfl (by kernel_rfl) (by kernel_rfl) (by kernel_rfl) (by kernel_rfl) (fun _ _ _ h => h) (Or.inr ⟨by rfl, rfl⟩) hHeld ?_
          simp only [List.getElem_toArray, List.getElem_cons_zero, List.getElem_cons_succ, Act.put, List.setIfInBounds_toArray, List.set_cons_zero, List.set_cons_succ]
          refine wpAnyK_take (i := 10) (v := undef) rfl (by kernel_rfl) (by kernel_rfl) (by kernel_rfl) (by kernel_rfl) (fun _ _ _ h => h) (Or.inr ⟨by rfl, rfl⟩) hHeld ?_
          simp only [List.getElem_toArray, List.getElem_cons_zero, List.getElem_cons_succ, Act.put, List.setIfInBounds_toArray, List.set_cons_zero, List.set_cons_succ]
          refine wpAnyK_one (i := 11) (by kernel_rfl) rfl (fun K hK => ?_)
          (try simp only [List.getElem_toArray, List.getElem_cons_zero, List.getElem_cons_succ, Act.put, List.setIfInBounds_toArray, List.set_cons_zero, List.set_cons_succ])
          go_simp
          refine hK.out _ _ (fun _ => HS.out) (fun hHeld0 => ?_)
          have hHeld := hHeld0 (by decide)
          clear hHeld0 hK K
          (try simp only [List.getElem_toArray, List.getElem_cons_zero, List.getElem_cons_succ, Act.put, List.setIfInBounds_toArray, List.set_cons_zero, List.set_cons_succ])
          refine wpAnyK_one (i := 12) (by kernel_rfl) rfl (fun K hK => ?_)
          (try simp only [List.getElem_toArray, List.getElem_cons_zero, List.getElem_cons_succ, Act.put, List.setIfInBounds_toArray, List.set_cons_zero, List.set_cons_succ])
          go_simp
          refine hK.out _ _ (fun _ => HS.out) (fun hHeld0 => ?_)
          have hHeld := hHeld0 (by decide)
          clear hHeld0 hK K
          (try simp only [List.getElem_toArray, List.getElem_cons_zero, List.getElem_cons_succ, Act.put, List.setIfInBounds_toArray, List.set_cons_zero, List.set_cons_succ])
          refine wpAnyK_one (i := 13) (by kernel_rfl) rfl (fun K hK => ?_)
          (try simp only [List.getElem_toArray, List.getElem_cons_zero, List.getElem_cons_succ, Act.put, List.setIfInBounds_toArray, List.set_cons_zero, List.set_cons_succ])
          go_simp
          refine hK.out _ _ (fun _ => HS.out) (fun hHeld0 => ?_)
          have hHeld := hHeld0 (by decide)
          clear hHeld0 hK K
          (try simp only [List.getElem_toArray, List.getElem_cons_zero, List.getElem_cons_succ, Act.put, List.setIfInBounds_toArray, List.set_cons_zero, List.set_cons_succ])
          refine wpAnyK_one (i := 14) (by kernel_rfl) rfl (fun K hK => ?_)
          (try simp only [List.getElem_toArray, List.getElem_cons_zero, List.getElem_cons_succ, Act.put, List.setIfInBounds_toArray, List.set_cons_zero, List.set_cons_succ])
          go_simp
          refine hK.out _ _ (fun _ => HS.out) (fun hHeld0 => ?_)
          have hHeld := hHeld0 (by decide)
          clear hHeld0 hK K
          (try simp only [List.getElem_toArray, List.getElem_cons_zero, List.getElem_cons_succ, Act.put, List.setIfInBounds_toArray, List.set_cons_zero, List.set_cons_succ])
          refine wpAnyK_take (i := 15) (v := undef) rfl (by kernel_rfl) (by kernel_rfl) (by kernel_rfl) (by kernel_rfl) (fun _ _ _ h => h) (Or.inr ⟨by rfl, rfl⟩) hHeld ?_
          simp only [List.getElem_toArray, List.getElem_cons_zero, List.getElem_cons_succ, Act.put, List.setIfInBounds_toArray, List.set_cons_zero, List.set_cons_succ]
          refine wpAnyK_take (i := 16) (v := undef) rfl (by kernel_rfl) (by kernel_rfl) (by kernel_rfl) (by kernel_rfl) (fun _ _ _ h => h) (Or.inr ⟨by rfl, rfl⟩) hHeld ?_
          simp only [List.getElem_toArray, List.getElem_cons_zero, List.getElem_cons_succ, Act.put, List.setIfInBounds_toArray, List.set_cons_zero, List.set_cons_succ]
          refine wpAnyK_take (i := 17) (v := undef) rfl (by kernel_rfl) (by kernel_rfl) (by kernel_rfl) (by kernel_rfl) (fun _ _ _ h => h) (Or.inr ⟨by rfl, rfl⟩) hHeld ?_
          simp only [List.getElem_toArray, List.getElem_cons_zero, List.getElem_cons_succ, Act.put, List.setIfInBounds_toArray, List.set_cons_zero, List.set_cons_succ]
          refine wpAnyK_take (i := 18) (v := undef) rfl (by kernel_rfl) (by kernel_rfl) (by kernel_rfl) (by kernel_rfl) (fun _ _ _ h => h) (Or.inr ⟨by rfl, rfl⟩) hHeld ?_
          simp only [List.getElem_toArray, List.getElem_cons_zero, List.getElem_cons_succ, Act.put, List.setIfInBounds_toArray, List.set_cons_zero, List.set_cons_succ]
          refine wpAnyK_one (i := 19) (by kernel_rfl) rfl (fun K hK => ?_)
          (try simp only [List.getElem_toArray, List.getElem_cons_zero, List.getElem_cons_succ, Act.put, List.setIfInBounds_toArray, List.set_cons_zero, List.set_cons_succ])
          go_simp
          refine hK.out _ _ (fun _ => HS.out) (fun hHeld0 => ?_)
          have hHeld := hHeld0 (by decide)
          clear hHeld0 hK K
          (try simp only [List.getElem_toArray, List.getElem_cons_zero, List.getElem_cons_succ, Act.put, List.setIfInBounds_toArray, List.set_cons_zero, List.set_cons_succ])
          refine wpAnyK_one (i := 20) (by kernel_rfl) rfl (fun K hK => ?_)
          (try simp only [List.getElem_toArray, List.getElem_cons_zero, List.getElem_cons_succ, Act.put, List.setIfInBounds_toArray, List.set_cons_zero, List.set_cons_succ])
          go_simp
          refine hK.out _ _ (fun _ => HS.out) (fun hHeld0 => ?_)
          have hHeld := hHeld0 (by decide)
          clear hHeld0 hK K
          (try simp only [List.getElem_toArray, List.getElem_cons_zero, List.getElem_cons_succ, Act.put, List.setIfInBounds_toArray, List.set_cons_zero, List.set_cons_succ])
          refine wpAnyK_one (i := 21) (by kernel_rfl) rfl (fun K hK => ?_)
          (try simp only [List.getElem_toArray, List.getElem_cons_zero, List.getElem_cons_succ, Act.put, List.setIfInBounds_toArray, List.set_cons_zero, List.set_cons_succ])
          go_simp
          refine hK.out _ _ (fun _ => HS.out) (fun hHeld0 => ?_)
          have hHeld := hHeld0 (by decide)
          clear hHeld0 hK K
          (try simp only [List.getElem_toArray, List.getElem_cons_zero, List.getElem_cons_succ, Act.put, List.setIfInBounds_toArray, List.set_cons_zero, List.set_cons_succ])
          refine wpAnyK_take (i := 22) (v := undef) rfl (by kernel_rfl) (by kernel_rfl) (by kernel_rfl) (by kernel_rfl) (fun _ _ _ h => h) (Or.inr ⟨by rfl, rfl⟩) hHeld ?_
          simp only [List.getElem_toArray, List.getElem_cons_zero, List.getElem_cons_succ, Act.put, List.setIfInBounds_toArray, List.set_cons_zero, List.set_cons_succ]
          refine wpAnyK_take (i := 23) (v := undef) rfl (by kernel_rfl) (by kernel_rfl) (by kernel_rfl) (by kernel_rfl) (fun _ _ _ h => h) (Or.inr ⟨by rfl, rfl⟩) hHeld ?_
          simp only [List.getElem_toArray, List.getElem_cons_zero, List.getElem_cons_succ, Act.put, List.setIfInBounds_toArray, List.set_cons_zero, List.set_cons_succ]
          refine wpAnyK_take (i := 24) (v := undef) rfl (by kernel_rfl) (by kernel_rfl) (by kernel_rfl) (by kernel_rfl) (fun _ _ _ h => h) (Or.inr ⟨by rfl, rfl⟩) hHeld ?_
          simp only [List.getElem_toArray, List.getElem_cons_zero, List.getElem_cons_succ, Act.put, List.setIfInBounds_toArray, List.set_cons_zero, List.set_cons_succ]
          refine wpAnyK_take (i := 25) (v := undef) rfl (by kernel_rfl) (by kernel_rfl) (by kernel_rfl) (by kernel_rfl) (fun _ _ _ h => h) (Or.inr ⟨by rfl, rfl⟩) hHeld ?_
          simp only [List.getElem_toArray, List.getElem_cons_zero, List.getElem_cons_succ, Act.put, List.setIfInBounds_toArray, List.set_cons_zero, List.set_cons_succ]
          refine wpAnyK_take (i := 26) (v := undef) rfl (by kernel_rfl) (by kernel_rfl) (by kernel_rfl) (by kernel_rfl) (fun _ _ _ h => h) (Or.inr ⟨by rfl, rfl⟩) hHeld ?_
          simp only [List.getElem_toArray, List.getElem_cons_zero, List.getElem_cons_succ, Act.put, List.setIfInBounds_toArray, List.set_cons_zero, List.set_cons_succ]
          refine wpAnyK_take (i := 27) (v := undef) rfl (by kernel_rfl) (by kernel_rfl) (by kernel_rfl) (by kernel_rfl) (fun _ _ _ h => h) (Or.inr ⟨by rfl, rfl⟩) hHeld ?_
          simp only [List.getElem_toArray, List.getElem_cons_zero, List.getElem_cons_succ, Act.put, List.setIfInBounds_toArray, List.set_cons_zero, List.set_cons_succ]
          refine wpAnyK_take (i := 28) (v := undef) rfl (by kernel_rfl) (by kernel_rfl) (by kernel_rfl) (by kernel_rfl) (fun _ _ _ h => h) (Or.inr ⟨by rfl, rfl⟩) hHeld ?_
          simp only [List.getElem_toArray, List.getElem_cons_zero, List.getElem_cons_succ, Act.put, List.setIfInBounds_toArray, List.set_cons_zero, List.set_cons_succ]
          refine wpAnyK_take (i := 29) (v := undef) rfl (by kernel_rfl) (by kernel_rfl) (by kernel_rfl) (by kernel_rfl) (fun _ _ _ h => h) (Or.inr ⟨by rfl, rfl⟩) hHeld ?_
          simp only [List.getElem_toArray, List.getElem_cons_zero, List.getElem_cons_succ, Act.put, List.setIfInBounds_toArray, List.set_cons_zero, List.set_cons_succ]
          refine wpAnyK_take (i := 30) (v := undef) rfl (by kernel_rfl) (by kernel_rfl) (by kernel_rfl) (by kernel_rfl) (fun _ _ _ h => h) (Or.inr ⟨by rfl, rfl⟩) hHeld ?_
          simp only [List.getElem_toArray, List.getElem_cons_zero, List.getElem_cons_succ, Act.put, List.setIfInBounds_toArray, List.set_cons_zero, List.set_cons_succ]
          refine wpAnyK_one (i := 31) (by kernel_rfl) rfl (fun K hK => ?_)
          (try simp only [List.getElem_toArray, List.getElem_cons_zero, List.getElem_cons_succ, Act.put, List.setIfInBounds_toArray, List.set_cons_zero, List.set_cons_succ])
          go_simp
          refine hK.out _ _ (fun _ => HS.out) (fun hHeld0 => ?_)
          have hHeld := hHeld0 (by decide)
          clear hHeld0 hK K
          (try simp only [List.getElem_toArray, List.getElem_cons_zero, List.getElem_cons_succ, Act.put, List.setIfInBounds_toArray, List.set_cons_zero, List.set_cons_succ])
          refine wpAnyK_one (i := 32) (by kernel_rfl) rfl (fun K hK => ?_)
          (try simp only [List.getElem_toArray, List.getElem_cons_zero, List.getElem_cons_succ, Act.put, List.setIfInBounds_toArray, List.set_cons_zero, List.set_cons_succ])
          go_simp
          refine hK.out _ _ (fun _ => HS.out) (fun hHeld0 => ?_)
          clear hHeld0 hK K
          (try simp only [List.getElem_toArray, List.getElem_cons_zero, List.getElem_cons_succ, Act.put, List.setIfInBounds_toArray, List.set_cons_zero, List.set_cons_succ])
          refine wpAnyK_done (by kernel_rfl) ?_ _
          go_wp2_with fail
          go_loopw [8, 9] (fun t8 t9 V => t8 = .bool false ∧ t9 = .int .i64 0 ∧ V = w3.drew) (fun _ _ _ => 0)
          case atStart => exact ⟨rfl, rfl, rfl⟩
          case round =>
            obtain ⟨rfl, rfl, hwr⟩ := hrel
            subst wr
            go_wp2_with fail
            go_ret
            exact ⟨rfl, HX.out.bl.trans (HB3.out.drew.mono HX.out.bl.size)⟩
  · rw [if_neg hk]
    rw [if_neg hk] at CK
    clear hk
    go_enter Tryz.func25, Tryz.ntmps25
    go_wp2_with fail
    rw [HX.out.wa, HX.out.e4, HX.out.e5]
    clear l0 l1 l2 l3 l4 l5 m0 m1 m2 m3 m4 m5 m6
    refine CK.mono ?_
    rintro e1 w1 ⟨rfl, b1⟩
    have HB1 : Hid (Below wB.heap.size wB w1) := b1
    clear b1 CK
    obtain ⟨l0, l1, l2, l3, l4, l5⟩ := HX.out.cl HB1.out
    go_wp2_with fail
    go_ret
    exact ⟨rfl, HX.out.bl.trans (HB1.out.mono HX.out.bl.size)⟩
end Go.Proofs.YtmojfdccobebfaaGreatDoor
