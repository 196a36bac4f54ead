
import Derived.Test.YtcgaembnibnglaaCu16
import Derived.Test.YtcgaembnibnglaaCu14
namespace Go.Proofs.Ytcgaembnibnglaa
open Go.RowKit Go.Shelf
set_option linter.unusedVariables false

/-! faceWindow; CutterChecks. -/
set_option maxRecDepth 100000 in
set_option maxHeartbeats 8000000 in
theorem pfacew17 (pos : Int) {sa : Option Addr} {n sc : Nat} {da : Option Addr} {m dc : Nat} {xa : Option Addr} {k xc : Nat} {S : List St16} {D X : List Int} (w : World) (h : Ed17 w sa n S da m D xa k X) (nm : da = none → dc = 0) (nk : xa = none → xc = 0) :
    Calls Try.prog 17 #[wn17 pos sa n sc da m dc xa k xc] w (FwQ17 w pos S D X) := by
  have hb := two_boxes16 w #[.int .i64 pos, .slice sa n sc, .slice da m dc, .slice xa k xc] 45 #[.int .i64 0, .slice none 0 0, .slice none 0 0, .slice none 0 0] 43
  obtain ⟨w2, hw2⟩ : ∃ w2, w2 = (w.alloc (.cells #[.int .i64 pos, .slice sa n sc, .slice da m dc, .slice xa k xc] 45)).alloc (.cells #[.int .i64 0, .slice none 0 0, .slice none 0 0, .slice none 0 0] 43) := ⟨_, rfl⟩
  simp only [← hw2] at hb
  obtain ⟨bl, z2, qE, qR⟩ := hb
  obtain ⟨bE, hbE⟩ : ∃ bE, bE = w.heap.size := ⟨_, rfl⟩
  obtain ⟨bR, hbR⟩ : ∃ bR, bR = w.heap.size + 1 := ⟨_, rfl⟩
  rw [← hbE] at qE
  rw [← hbR] at qR
  have HW2 : Hid ((w.alloc (.cells #[.int .i64 pos, .slice sa n sc, .slice da m dc, .slice xa k xc] 45)).alloc (.cells #[.int .i64 0, .slice none 0 0, .slice none 0 0, .slice none 0 0] 43) = w2) := hw2.symm
  have HBE : Hid (w.heap.size = bE) := hbE.symm
  have HBR : Hid (w.heap.size + 1 = bR) := hbR.symm
  have HCE : Hid (∀ W, Below w2.heap.size w2 W → W.cell? ⟨bE, 0, none⟩ = some (.int .i64 pos) ∧ W.cell? ⟨bE, 1, none⟩ = some (.slice sa n sc) ∧ W.cell? ⟨bE, 2, none⟩ = some (.slice da m dc) ∧ W.cell? ⟨bE, 3, none⟩ = some (.slice xa k xc)) := fun W hW => four_cells ((hW.block bE (by omega)).trans qE)
  have HQR : Hid (∀ W, Below w2.heap.size w2 W → W.heap[bR]? = some (.cells #[.int .i64 0, .slice none 0 0, .slice none 0 0, .slice none 0 0] 43 (0, 0))) := fun W hW => (hW.block bR (by omega)).trans qR
  have HBL : Hid (Below w.heap.size w w2) := bl
  have HC1 : Hid (∀ W, Below w2.heap.size w2 W → Calls Try.prog 10 #[.agg #[.slice sa n sc, .slice da m dc, .slice xa k xc]] W (FaQ17 W S D X)) := fun W hW => pface17 W (h.old (bl.trans (hW.mono bl.size))) nm nk
  have HRW : Hid (w.heap.size ≤ bR ∧ bR < w2.heap.size) := ⟨by omega, by omega⟩
  clear h hw2 hbE hbR qE qR bl z2
  unfold wn17
  go_enter Try.func17, Try.ntmps17
  go_wp2
  rw [HW2.out, HBR.out, HBE.out]
  have g0 := HCE.out w2.drew ((Below.refl _ _).drew)
  refine plain_region16 (fun V => V.cell? ⟨bE, 0, none⟩ = some (.int .i64 pos) ∧ V.cell? ⟨bE, 1, none⟩ = some (.slice sa n sc) ∧ V.cell? ⟨bE, 2, none⟩ = some (.slice da m dc) ∧ V.cell? ⟨bE, 3, none⟩ = some (.slice xa k xc)) 6 (by kernel_rfl) g0 (fun hHeld => ?_)
  refine wpAnyK_take (i := 0) (v := .pointer (some ⟨bE, 0, none⟩)) rfl (by kernel_rfl) (by kernel_rfl) (by kernel_rfl) (by kernel_rfl) (fun _ _ _ h => h) (Or.inl ⟨by rfl, fun w hSw => by go_simp⟩) hHeld ?_
  simp only [List.getElem_toArray, List.getElem_cons_zero, Act.put, List.setIfInBounds_toArray, List.set_cons_zero, List.set_cons_succ]
  refine wpAnyK_take (i := 1) (v := .int .i64 pos) rfl (by kernel_rfl) (by kernel_rfl) (by kernel_rfl) (by kernel_rfl) (fun _ _ _ h => h) (Or.inl ⟨by rfl, fun w hSw => by go_simp⟩) hHeld ?_
  simp only [List.getElem_toArray, List.getElem_cons_zero, List.getElem_cons_succ, Act.put, List.setIfInBounds_toArray, List.set_cons_zero, List.set_cons_succ]
  refine wpAnyK_take (i := 2) (v := .pointer (some ⟨bE, 1, none⟩)) rfl (by kernel_rfl) (by kernel_rfl) (by kernel_rfl) (by kernel_rfl) (fun _ _ _ h => h) (Or.inl ⟨by rfl, fun w hSw => by go_simp⟩) hHeld ?_
  simp only [List.getElem_toArray, List.getElem_cons_zero, List.getElem_cons_succ, Act.put, List.setIfInBounds_toArray, List.set_cons_zero, List.set_cons_succ]
  refine wpAnyK_take (i := 3) (v := .agg #[.slice sa n sc, .slice da m dc, .slice xa k xc]) rfl (by kernel_rfl) (by kernel_rfl) (by kernel_rfl) (by kernel_rfl) (fun _ _ _ h => h) (Or.inl ⟨by rfl, fun w hSw => by go_simp⟩) hHeld ?_
  simp only [List.getElem_toArray, List.getElem_cons_zero, List.getElem_cons_succ, Act.put, List.setIfInBounds_toArray, List.set_cons_zero, List.set_cons_succ]
  have bd : Below w2.heap.size w2 w2.drew := (Below.refl _ _).drew
  refine wpAnyK_one (i := 4) (by kernel_rfl) rfl (fun K hK => ?_)
  (try simp only [List.getElem_toArray, List.getElem_cons_zero, List.getElem_cons_succ, Act.put, List.setIfInBounds_toArray, List.set_cons_zero, List.set_cons_succ])
  go_simp
  refine (HC1.out w2.drew bd).mono ?_
  rintro e3 w5 ⟨v1, v2, v3, rfl, hw, b3⟩
  have b5' : Below w2.heap.size w2 w5 := bd.trans (b3.mono (Nat.le_refl _))
  obtain ⟨p1, l1, c1, eq1⟩ := own_sl17' hw.oS
  obtain ⟨p2, l2, c2, eq2⟩ := own_sl17' hw.oD
  obtain ⟨p3, l3, c3, eq3⟩ := own_sl17' hw.oX
  have hbl := HBL.out
  have HWN : Hid (Wn17 w2.heap.size (v1, v2, v3) (pt17 S D X) w5) := hw
  have qR5 := HQR.out w5 b5'
  obtain ⟨r0, r1, r2, r3⟩ := four_cells qR5
  have f0 := four_free (i := 0) qR5
  have f1 := four_free (i := 1) qR5
  have f2 := four_free (i := 2) qR5
  have f3 := four_free (i := 3) qR5
  have HQ5 : Hid (w5.heap[bR]? = some (.cells #[.int .i64 0, .slice none 0 0, .slice none 0 0, .slice none 0 0] 43 (0, 0))) := qR5
  have HB5 : Hid (Below w.heap.size w w5) := hbl.trans (b5'.mono hbl.size)
  have HLT : Hid (∀ j, Ft17 (v1, v2, v3) j → j ≠ bR) := fun j x => by
    have h1 := HRW.out
    have := (HWN.out.lt j x).1
    omega
  clear hw b3 qR5 hbl
  simp only at eq1 eq2 eq3
  subst eq1; subst eq2; subst eq3
  refine hK.out _ _ (fun _ => HCE.out w5 b5') (fun hHeld0 => ?_)
  have hHeld := hHeld0 (by decide)
  clear hHeld0 hK K
  (try simp only [List.getElem_toArray, List.getElem_cons_zero, List.getElem_cons_succ, Act.put, List.setIfInBounds_toArray, List.set_cons_zero, List.set_cons_succ])
  refine wpAnyK_one (i := 5) (by kernel_rfl) rfl (fun K hK => ?_)
  (try simp only [List.getElem_toArray, List.getElem_cons_zero, List.getElem_cons_succ, Act.put, List.setIfInBounds_toArray, List.set_cons_zero, List.set_cons_succ])
  go_simp
  refine hK.out _ _ (fun _ => HCE.out w5 b5') (fun hHeld0 => ?_)
  have hHeld := hHeld0 (by decide)
  clear hHeld0 hK K
  (try simp only [List.getElem_toArray, List.getElem_cons_zero, List.getElem_cons_succ, Act.put, List.setIfInBounds_toArray, List.set_cons_zero, List.set_cons_succ])
  refine wpAnyK_one (i := 6) (by kernel_rfl) rfl (fun K hK => ?_)
  simp only [List.getElem_toArray, List.getElem_cons_zero, List.getElem_cons_succ, Act.put]
  go_simp
  refine hK.out _ _ (fun h => absurd rfl h) (fun _ => ?_)
  clear hK K
  refine wpAnyK_done (by kernel_rfl) ?_ _
  go_wp2
  obtain ⟨F, hF⟩ : ∃ F, F = (((w5.setCell ⟨bR, 0, none⟩ (.int .i64 pos)).setCell ⟨bR, 1, none⟩ (.slice p1 l1 c1)).setCell ⟨bR, 2, none⟩ (.slice p2 l2 c2)).setCell ⟨bR, 3, none⟩ (.slice p3 l3 c3) := ⟨_, rfl⟩
  have kF : Kp (fun j => j = bR) w5 F := by
    rw [hF]
    exact (((Kp.set (S := fun j => j = bR) rfl _).trans (Kp.set (S := fun j => j = bR) rfl _) (fun _ _ x => x)).trans (Kp.set (S := fun j => j = bR) rfl _) (fun _ _ x => x)).trans (Kp.set (S := fun j => j = bR) rfl _) (fun _ _ x => x)
  have qF : F.heap[bR]? = some (.cells #[.int .i64 pos, .slice p1 l1 c1, .slice p2 l2 c2, .slice p3 l3 c3] 43 (0, 0)) := by rw [hF]; exact four_set HQ5.out _ _ _ _
  rw [← hF]
  refine bodyPost_ret (v := .agg #[.int .i64 pos, .slice p1 l1 c1, .slice p2 l2 c2, .slice p3 l3 c3]) (results_cell_row (fn := Try.f17) (p := 2) (ty := 43) rfl _ _ bR _ _ _ _ rfl qF Try.underlying43 rfl (by kernel_rfl)) rfl ?_
  have hw5 := HWN.out.kp kF (fun j x y => HLT.out j x y)
  exact ⟨_, _, _, rfl, ⟨own_base17 hw5.oS HBL.out.size, own_base17 hw5.oD HBL.out.size, own_base17 hw5.oX HBL.out.size, hw5.sd, hw5.sx, hw5.dx⟩, HB5.out.trans (kF.below (fun j x => by have x : j = bR := x; have := HRW.out; omega) HB5.out.size)⟩
theorem wn17_seg {base : Nat} {v1 v2 v3 : Value} {S : List St16} {D X : List Int} {w : World} (h : Wn17 base (v1, v2, v3) (pt17 S D X) w) (hf : ∀ t ∈ S, Fit16 t) : ∃ sa sc da dc xa xc, v1 = .slice sa S.length sc ∧ v2 = .slice da D.length dc ∧ v3 = .slice xa X.length xc ∧ SegS w sa S := by
  obtain ⟨sa, sc, e1⟩ := own_sl17 h.oS
  obtain ⟨da, dc, e2⟩ := own_sl17 h.oD
  obtain ⟨xa, xc, e3⟩ := own_sl17 h.oX
  have h1 := h.oS
  simp only at e1 e2 e3 h1
  rw [e1] at h1
  exact ⟨sa, sc, da, dc, xa, xc, e1, e2, e3, own_segS17 h1 rfl hf⟩
set_option maxRecDepth 100000 in
set_option maxHeartbeats 8000000 in
theorem cutterChecks_walk (pos old size : Int) {sa : Option Addr} {n sc : Nat} {da : Option Addr} {m dc : Nat} {xa : Option Addr} {k xc : Nat} {S : List St16} {D X : List Int} (w : World) (h : Ed17 w sa n S da m D xa k X) (nm : da = none → dc = 0) (nk : xa = none → xc = 0) (ho : -9223372036854775808 ≤ old ∧ old ≤ 9223372036854775807) :
    Calls Try.prog 7 #[wn17 pos sa n sc da m dc xa k xc, .int .i64 old, .int .i64 size] w fun e w' => e = .returned (.bool true) ∧ Below w.heap.size w w' := by
  obtain ⟨wA, hwA⟩ : ∃ wA, wA = w.alloc (.cells #[.int .i64 pos, .slice sa n sc, .slice da m dc, .slice xa k xc] 45) := ⟨_, rfl⟩
  have cA : Cb16 w #[.int .i64 pos, .slice sa n sc, .slice da m dc, .slice xa k xc] 45 wA := by rw [hwA]; exact cb16 _ _ _
  obtain ⟨bE, hbE⟩ : ∃ bE, bE = w.heap.size := ⟨_, rfl⟩
  have qE : wA.heap[bE]? = some (.cells #[.int .i64 pos, .slice sa n sc, .slice da m dc, .slice xa k xc] 45 (0, 0)) := by rw [hbE]; exact cA.cl
  have bl := cA.bl
  have HWA : Hid (w.alloc (.cells #[.int .i64 pos, .slice sa n sc, .slice da m dc, .slice xa k xc] 45) = wA) := hwA.symm
  have HBE : Hid (w.heap.size = bE) := hbE.symm
  have HCE : Hid (∀ W, Below wA.heap.size wA W → W.cell? ⟨bE, 0, none⟩ = some (.int .i64 pos) ∧ W.cell? ⟨bE, 1, none⟩ = some (.slice sa n sc) ∧ W.cell? ⟨bE, 2, none⟩ = some (.slice da m dc) ∧ W.cell? ⟨bE, 3, none⟩ = some (.slice xa k xc)) := fun W hW => four_cells ((hW.block bE (Array.getElem?_eq_some_iff.1 qE).1).trans qE)
  have hn := h.hn
  have hm := h.hm
  have hk := h.hk
  have HC1 : Hid (∀ W, Below wA.heap.size wA W → Calls Try.prog 17 #[.agg #[.int .i64 pos, .slice sa n sc, .slice da m dc, .slice xa k xc]] W (FwQ17 W pos S D X)) := fun W hW => pfacew17 pos W (h.old (bl.trans (hW.mono bl.size))) nm nk
  have HC2 : Hid (∀ W v1 v2 v3 b, Wn17 b (v1, v2, v3) (pt17 S D X) W → Calls Try.prog 21 #[.agg #[.int .i64 pos, v1, v2, v3], .int .i64 old, .int .i64 size] W fun e w' => e = .returned (.int .i64 (cc17 pos S m k old size)) ∧ Below W.heap.size W w') := fun W v1 v2 v3 b hW => by
    obtain ⟨sa, sc, da, dc, xa, xc, rfl, rfl, rfl, hs⟩ := wn17_seg hW h.ss.fit
    rw [hn, hm, hk]
    exact pck17 pos old size W hs hn (by have := h.ln; omega) (by have := h.lm; omega) (by have := h.lk; omega) ho
  have HC3 : Hid (∀ W, Below wA.heap.size wA W → Calls Try.prog 24 #[.agg #[.int .i64 pos, .slice sa n sc, .slice da m dc, .slice xa k xc], .int .i64 old, .int .i64 size] W fun e w' => e = .returned (.int .i64 (cc17 pos S m k old size)) ∧ Below W.heap.size W w') := fun W hW => rchk17 pos old size W (h.ss.old (bl.trans (hW.mono bl.size))) hn (by have := h.ln; omega) (by have := h.lm; omega) (by have := h.lk; omega)
  have HBL : Hid (Below w.heap.size w wA) := bl
  clear h hwA hbE qE cA bl hn hm hk
  generalize cc17 pos S m k old size = er at *
  unfold wn17
  go_enter Try.func7, Try.ntmps7
  go_wp2
  rw [HWA.out, HBE.out]
  have bd : Below wA.heap.size wA wA.drew := (Below.refl _ _).drew
  have g0 := HCE.out wA.drew bd
  refine plain_region16 (fun V => V.cell? ⟨bE, 0, none⟩ = some (.int .i64 pos) ∧ V.cell? ⟨bE, 1, none⟩ = some (.slice sa n sc) ∧ V.cell? ⟨bE, 2, none⟩ = some (.slice da m dc) ∧ V.cell? ⟨bE, 3, none⟩ = some (.slice xa k xc)) 14 (by kernel_rfl) g0 (fun hHeld => ?_)
  refine wpAnyK_take (i := 0) (v := .agg #[.int .i64 pos, .slice sa n sc, .slice da m dc, .slice xa k xc]) rfl (by kernel_rfl) (by kernel_rfl) (by kernel_rfl) (by kernel_rfl) (fun _ _ _ h => h) (Or.inl ⟨by rfl, fun w hSw => by go_simp⟩) hHeld ?_
  simp only [List.getElem_toArray, List.getElem_cons_zero, Act.put, List.setIfInBounds_toArray, List.set_cons_zero, List.set_cons_succ]
  refine wpAnyK_take (i := 2) (v := .int .i64 old) rfl (by kernel_rfl) (by kernel_rfl) (by kernel_rfl) (by kernel_rfl) (fun _ _ _ h => h) (Or.inl ⟨by rfl, fun w hSw => by go_simp⟩) hHeld ?_
  simp only [List.getElem_toArray, List.getElem_cons_zero, List.getElem_cons_succ, Act.put, List.setIfInBounds_toArray, List.set_cons_zero, List.set_cons_succ]
  refine wpAnyK_take (i := 3) (v := .int .i64 size) rfl (by kernel_rfl) (by kernel_rfl) (by kernel_rfl) (by kernel_rfl) (fun _ _ _ h => h) (Or.inl ⟨by rfl, fun w hSw => by go_simp⟩) hHeld ?_
  simp only [List.getElem_toArray, List.getElem_cons_zero, List.getElem_cons_succ, Act.put, List.setIfInBounds_toArray, List.set_cons_zero, List.set_cons_succ]
  refine wpAnyK_take (i := 5) (v := .agg #[.int .i64 pos, .slice sa n sc, .slice da m dc, .slice xa k xc]) rfl (by kernel_rfl) (by kernel_rfl) (by kernel_rfl) (by kernel_rfl) (fun _ _ _ h => h) (Or.inl ⟨by rfl, fun w hSw => by go_simp⟩) hHeld ?_
  simp only [List.getElem_toArray, List.getElem_cons_zero, List.getElem_cons_succ, Act.put, List.setIfInBounds_toArray, List.set_cons_zero, List.set_cons_succ]
  refine wpAnyK_take (i := 6) (v := .int .i64 old) rfl (by kernel_rfl) (by kernel_rfl) (by kernel_rfl) (by kernel_rfl) (fun _ _ _ h => h) (Or.inl ⟨by rfl, fun w hSw => by go_simp⟩) hHeld ?_
  simp only [List.getElem_toArray, List.getElem_cons_zero, List.getElem_cons_succ, Act.put, List.setIfInBounds_toArray, List.set_cons_zero, List.set_cons_succ]
  refine wpAnyK_take (i := 7) (v := .int .i64 size) rfl (by kernel_rfl) (by kernel_rfl) (by kernel_rfl) (by kernel_rfl) (fun _ _ _ h => h) (Or.inl ⟨by rfl, fun w hSw => by go_simp⟩) hHeld ?_
  simp only [List.getElem_toArray, List.getElem_cons_zero, List.getElem_cons_succ, Act.put, List.setIfInBounds_toArray, List.set_cons_zero, List.set_cons_succ]
  refine wpAnyK_one (i := 1) (by kernel_rfl) rfl (fun K hK => ?_)
  (try simp only [List.getElem_toArray, List.getElem_cons_zero, List.getElem_cons_succ, Act.put, List.setIfInBounds_toArray, List.set_cons_zero, List.set_cons_succ])
  go_simp
  refine (HC1.out wA.drew bd).mono ?_
  rintro e3 w3 ⟨v1, v2, v3, rfl, hw, b3⟩
  have b3' : Below wA.heap.size wA w3 := bd.trans (b3.mono (Nat.le_refl _))
  refine hK.out _ _ (fun _ => HCE.out w3 b3') (fun hHeld0 => ?_)
  have hHeld := hHeld0 (by decide)
  clear hHeld0 hK K
  (try simp only [List.getElem_toArray, List.getElem_cons_zero, List.getElem_cons_succ, Act.put, List.setIfInBounds_toArray, List.set_cons_zero, List.set_cons_succ])
  refine wpAnyK_one (i := 4) (by kernel_rfl) rfl (fun K hK => ?_)
  (try simp only [List.getElem_toArray, List.getElem_cons_zero, List.getElem_cons_succ, Act.put, List.setIfInBounds_toArray, List.set_cons_zero, List.set_cons_succ])
  go_simp
  refine (HC2.out w3 v1 v2 v3 _ hw).mono ?_
  rintro e4 w4 ⟨rfl, b4⟩
  have b4' : Below wA.heap.size wA w4 := b3'.trans (b4.mono b3'.size)
  refine hK.out _ _ (fun _ => HCE.out w4 b4') (fun hHeld0 => ?_)
  have hHeld := hHeld0 (by decide)
  clear hHeld0 hK K
  (try simp only [List.getElem_toArray, List.getElem_cons_zero, List.getElem_cons_succ, Act.put, List.setIfInBounds_toArray, List.set_cons_zero, List.set_cons_succ])
  refine wpAnyK_one (i := 8) (by kernel_rfl) rfl (fun K hK => ?_)
  (try simp only [List.getElem_toArray, List.getElem_cons_zero, List.getElem_cons_succ, Act.put, List.setIfInBounds_toArray, List.set_cons_zero, List.set_cons_succ])
  go_simp
  refine (HC3.out w4 b4').mono ?_
  rintro e5 w5 ⟨rfl, b5⟩
  have b5' : Below wA.heap.size wA w5 := b4'.trans (b5.mono b4'.size)
  refine hK.out _ _ (fun _ => HCE.out w5 b5') (fun hHeld0 => ?_)
  have hHeld := hHeld0 (by decide)
  clear hHeld0 hK K
  (try simp only [List.getElem_toArray, List.getElem_cons_zero, List.getElem_cons_succ, Act.put, List.setIfInBounds_toArray, List.set_cons_zero, List.set_cons_succ])
  refine wpAnyK_one (i := 9) (by kernel_rfl) rfl (fun K hK => ?_)
  (try simp only [List.getElem_toArray, List.getElem_cons_zero, List.getElem_cons_succ, Act.put, List.setIfInBounds_toArray, List.set_cons_zero, List.set_cons_succ])
  go_simp
  refine hK.out _ _ (fun _ => HCE.out w5 b5') (fun hHeld0 => ?_)
  have hHeld := hHeld0 (by decide)
  clear hHeld0 hK K
  (try simp only [List.getElem_toArray, List.getElem_cons_zero, List.getElem_cons_succ, Act.put, List.setIfInBounds_toArray, List.set_cons_zero, List.set_cons_succ])
  refine wpAnyK_one (i := 10) (by kernel_rfl) rfl (fun K hK => ?_)
  (try simp only [List.getElem_toArray, List.getElem_cons_zero, List.getElem_cons_succ, Act.put, List.setIfInBounds_toArray, List.set_cons_zero, List.set_cons_succ])
  go_simp
  refine hK.out _ _ (fun _ => HCE.out w5 b5') (fun hHeld0 => ?_)
  have hHeld := hHeld0 (by decide)
  clear hHeld0 hK K
  (try simp only [List.getElem_toArray, List.getElem_cons_zero, List.getElem_cons_succ, Act.put, List.setIfInBounds_toArray, List.set_cons_zero, List.set_cons_succ])
  refine wpAnyK_one (i := 11) (by kernel_rfl) rfl (fun K hK => ?_)
  (try simp only [List.getElem_toArray, List.getElem_cons_zero, List.getElem_cons_succ, Act.put, List.setIfInBounds_toArray, List.set_cons_zero, List.set_cons_succ])
  go_simp
  refine (plives17 w5).mono ?_
  rintro e6 w6 ⟨rfl, b6⟩
  have b6' : Below wA.heap.size wA w6 := b5'.trans (b6.mono b5'.size)
  refine hK.out _ _ (fun _ => HCE.out w6 b6') (fun hHeld0 => ?_)
  have hHeld := hHeld0 (by decide)
  clear hHeld0 hK K
  (try simp only [List.getElem_toArray, List.getElem_cons_zero, List.getElem_cons_succ, Act.put, List.setIfInBounds_toArray, List.set_cons_zero, List.set_cons_succ])
  refine wpAnyK_one (i := 12) (by kernel_rfl) rfl (fun K hK => ?_)
  (try simp only [List.getElem_toArray, List.getElem_cons_zero, List.getElem_cons_succ, Act.put, List.setIfInBounds_toArray, List.set_cons_zero, List.set_cons_succ])
  go_simp
  refine hK.out _ _ (fun _ => HCE.out w6 b6') (fun hHeld0 => ?_)
  have hHeld := hHeld0 (by decide)
  clear hHeld0 hK K
  (try simp only [List.getElem_toArray, List.getElem_cons_zero, List.getElem_cons_succ, Act.put, List.setIfInBounds_toArray, List.set_cons_zero, List.set_cons_succ])
  refine wpAnyK_one (i := 13) (by kernel_rfl) rfl (fun K hK => ?_)
  (try simp only [List.getElem_toArray, List.getElem_cons_zero, List.getElem_cons_succ, Act.put, List.setIfInBounds_toArray, List.set_cons_zero, List.set_cons_succ])
  go_simp
  refine hK.out _ _ (fun _ => HCE.out w6 b6') (fun hHeld0 => ?_)
  have hHeld := hHeld0 (by decide)
  clear hHeld0 hK K
  (try simp only [List.getElem_toArray, List.getElem_cons_zero, List.getElem_cons_succ, Act.put, List.setIfInBounds_toArray, List.set_cons_zero, List.set_cons_succ])
  refine wpAnyK_done (by kernel_rfl) ?_ _
  go_wp2
  go_ret
  exact ⟨rfl, HBL.out.trans (b6'.mono HBL.out.size)⟩
end Go.Proofs.Ytcgaembnibnglaa
