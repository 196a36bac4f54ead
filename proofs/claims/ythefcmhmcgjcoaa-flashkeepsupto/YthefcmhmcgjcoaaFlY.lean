
import Derived.Test.YthefcmhmcgjcoaaFlX
namespace Go.Proofs.Ythefcmhmcgjcoaa
open Go.RowKit Go.Shelf Go.Deep
set_option linter.unusedVariables false
set_option linter.unusedSimpArgs false
set_option maxRecDepth 1000000

/-! FlashKeeps: the law's all. -/
theorem Fl21.bd {w : World} {b : Nat} {F : Nat → Prop} {S : Fs21} (h : Fl21 w b F S) (i : Nat) : ∀ y ∈ pB21 S i, 0 ≤ y ∧ y ≤ 255 := by
  intro y hy
  obtain ⟨m, c, f, ta, tc, la, lc, V, hI, _⟩ := h
  unfold pB21 rb21 at hy
  obtain ⟨j, _, rfl⟩ := List.mem_map.1 hy
  unfold pb21
  obtain ⟨a, cap, _, hs, _⟩ := hI.shv ((i / 4096 : Nat) : Int) ((((i % 4096 * S.pg + j) / S.pg : Nat)) : Int)
  have hm := hs.mem
  generalize (sh21 S ((i / 4096 : Nat) : Int) ((((i % 4096 * S.pg + j) / S.pg : Nat)) : Int)).b = B at *
  generalize (i % 4096 * S.pg + j) % S.pg = q at *
  by_cases hj : q < B.length
  · have := hm _ (List.getElem_mem hj)
    simpa [List.getD, hj] using this
  · have : B[q]? = none := List.getElem?_eq_none (by omega)
    simp [List.getD, this]
theorem rdE21_page {S : Fs21} (hO : Ok21 S) (hon : S.on = true) (a p PA : Nat) (hPA : pn21 S.ps (a : Int) = (PA : Int)) (hp : p < PA) : rdE21 S (a : Int) ((p * S.pg : Nat) : Int) (S.pg : Int) = 0 := by
  unfold rdE21
  rw [if_neg (by rw [hon]; simp), if_neg]
  unfold sz21
  rw [hPA]
  have h1 : (p + 1) * S.pg ≤ PA * S.pg := Nat.mul_le_mul_right _ hp
  rw [Nat.succ_mul] at h1
  have h2 := hO.pg.1
  have e : (PA : Int) * (S.pg : Int) = ((PA * S.pg : Nat) : Int) := by simp
  rw [e]
  omega
set_option maxRecDepth 100000 in
set_option maxHeartbeats 16000000 in
theorem pall21 {w : World} {b : Nat} {F : Nat → Prop} {S : Fs21} (hF : Fl21 w b F S) (hO : Ok21 S) (su : Su21) (hp : su.p = (S.pg : Int)) (hq : su.q = (S.ps : Int)) :
    Calls Try.prog 7 #[.pointer (some ⟨b, 0, none⟩), .agg #[.int .i64 su.p, .int .i64 su.q, .int .i64 su.ac, .slice su.a0 su.l0.length su.k0, .slice su.a1 su.l1.length su.k1]] w fun e w' => (∃ g, e = .returned (.tuple #[.slice (some ⟨g, 0, none⟩) 12288 12288, .bool S.on]) ∧ Ar21 w.heap.size S (if S.on then 12288 else 0) g w') ∧ Below w.heap.size w w' := by
  have HPG : Hid (su.p = (S.pg : Int) ∧ su.q = (S.ps : Int)) := ⟨hp, hq⟩
  clear hp hq
  obtain ⟨g3, hg3⟩ : ∃ g3, g3 = w.heap.size := ⟨_, rfl⟩
  obtain ⟨w1, hw1⟩ : ∃ w1, w1 = w.alloc (.cells #[.int .i64 su.p, .int .i64 su.q, .int .i64 su.ac, .slice su.a0 su.l0.length su.k0, .slice su.a1 su.l1.length su.k1] 24) := ⟨_, rfl⟩
  have HW1 : Hid (w.alloc (.cells #[.int .i64 su.p, .int .i64 su.q, .int .i64 su.ac, .slice su.a0 su.l0.length su.k0, .slice su.a1 su.l1.length su.k1] 24) = w1 ∧ w.heap.size = g3) := ⟨hw1.symm, hg3.symm⟩
  have b1 : Below w.heap.size w w1 := by rw [hw1]; exact (Below.refl _ _).alloc (Nat.le_refl _) _
  have q1 : w1.heap[g3]? = some (.cells #[.int .i64 su.p, .int .i64 su.q, .int .i64 su.ac, .slice su.a0 su.l0.length su.k0, .slice su.a1 su.l1.length su.k1] 24 (0, 0)) := by rw [hw1, hg3]; exact heap_alloc_new _ _
  have s1 : w1.heap.size = g3 + 1 := by rw [hw1, hg3]; simp
  have HMK := run_mk21 w1
  obtain ⟨w2, hw2⟩ : ∃ w2, w2 = w1.alloc (.cells (rl21 (fun _ => .slice none 0 0)).toArray 22) := ⟨_, rfl⟩
  rw [← hw2, s1] at HMK
  have b2 : Below w.heap.size w w2 := by rw [hw2]; exact b1.alloc b1.size _
  have q2 : w2.heap[g3 + 1]? = some (.cells (rl21 (fun _ => .slice none 0 0)).toArray 22 (0, 0)) := by rw [hw2, ← s1]; exact heap_alloc_new _ _
  have q12 : w2.heap[g3]? = some (.cells #[.int .i64 su.p, .int .i64 su.q, .int .i64 su.ac, .slice su.a0 su.l0.length su.k0, .slice su.a1 su.l1.length su.k1] 24 (0, 0)) := by rw [hw2, heap_alloc_old _ _ (by omega)]; exact q1
  have hA0 : Ar21 w.heap.size S 0 (g3 + 1) w2 := ⟨⟨fun _ => none, by simpa [al21_zero] using q2, fun i hi => ⟨by rw [al21_zero]; exact SegK.nil (by decide) _ _, fun k e => by cases e⟩⟩, by omega⟩
  rw [hw1] at HMK
  have HON := pon21 (hF.old b2) hO
  have HFL : Hid (Fl21 w b F S) := hF
  have HB2 : Hid (Below w.heap.size w w2) := b2
  have HA0 : Hid (Ar21 w.heap.size S 0 (g3 + 1) w2) := hA0
  have HBX : Hid (∀ V : World, V.heap[g3]? = w2.heap[g3]? → V.cell? ⟨g3, 0, none⟩ = some (.int .i64 su.p) ∧ V.cell? ⟨g3, 1, none⟩ = some (.int .i64 su.q)) := fun V hV => by
    have := hV.trans q12
    simp [World.cell?, this]
  have hOO := hO
  clear hw1 hw2 hg3 b1 b2 q1 q2 q12 s1 hA0 hF
  by_cases hon : S.on = true
  · rw [hon] at HON
    have hPP := hO.pg
    have hQQ := hO.ps
    go_enter Try.func7, Try.ntmps7
    go_wp2_with fail
    (try rw [HW1.out.2])
    refine HON.mono ?_
    rintro e w2' ⟨rfl, hw2'⟩
    subst w2'
    clear HON HMK
    go_wp2_with fail
    go_loopw [7] (fun ta wr => ∃ a : Nat, a ≤ 3 ∧ ta = .int .i64 (a : Int) ∧ Ar21 w.heap.size S (a * 4096) (g3 + 1) wr ∧ Below w.heap.size w wr ∧ wr.heap[g3]? = w2.heap[g3]?) (fun ta _ => 3 - (intOf ta).toNat)
    case atStart => exact ⟨0, by omega, rfl, by simpa using HA0.out, HB2.out, rfl⟩
    case round =>
      obtain ⟨a, ha3, rfl, hAr, hBa, hbx⟩ := hrel
      by_cases ha : a < 3
      · have hai : (a : Int) < 3 := by omega
        have haw : IntKind.i64.wrap ((a : Int) + 1) = ((a + 1 : Nat) : Int) := by rw [IntWalk.i64_in _ (by omega)]; omega
        obtain ⟨PA, hPA⟩ : ∃ PA, PA = if a = 2 then 2 else S.ps := ⟨_, rfl⟩
        have HPA : Hid (PA = (if a = 2 then 2 else S.ps) ∧ pn21 S.ps (a : Int) = (PA : Int) ∧ PA ≤ 4096) := by
          refine ⟨hPA, ?_, ?_⟩
          · rw [hPA]; unfold pn21; rw [if_neg (by omega)]
            by_cases h : a = 2
            · rw [if_pos (by omega), if_pos h]; rfl
            · rw [if_neg (by omega), if_neg h]
          · rw [hPA]; split <;> omega
        obtain ⟨bx0, bx1⟩ := HBX.out wr hbx
        have HAR : Hid (Ar21 w.heap.size S (a * 4096) (g3 + 1) wr ∧ Below w.heap.size w wr ∧ wr.heap[g3]? = w2.heap[g3]?) := ⟨hAr, hBa, hbx⟩
        clear hPA hAr hBa hbx
        by_cases ha2 : a = 2
        · have HP2 : Hid (PA = 2) := by have := HPA.out.1; rw [if_pos ha2] at this; exact this
          subst ha2
          (try rw [show ((2 : Nat) : Int) = 2 from rfl])
          clear hai haw
          go_wp2_with fail
          go_loopw [9] (fun tp wr => ∃ p : Nat, p ≤ PA ∧ tp = .int .i64 (p : Int) ∧ Ar21 w.heap.size S (2 * 4096 + p) (g3 + 1) wr ∧ Below w.heap.size w wr ∧ wr.heap[g3]? = w2.heap[g3]?) (fun tp _ => PA - (intOf tp).toNat)
          case atStart => exact ⟨0, by omega, rfl, HAR.out⟩
          case round =>
            obtain ⟨p, hpP, rfl, hAp, hBp, hbx⟩ := hrel
            obtain ⟨bx0, bx1⟩ := HBX.out wr hbx
            have hPA4 := HPA.out.2.2
            have hpw : IntKind.i64.wrap ((p : Int) + 1) = ((p + 1 : Nat) : Int) := by rw [IntWalk.i64_in _ (by omega)]; omega
            by_cases hp' : p < PA
            · have hp := HPG.out.1
              have hpi : (p : Int) < 2 := by have := HP2.out; omega
              obtain ⟨M, hM⟩ : ∃ M, M = p * S.pg := ⟨_, rfl⟩
              have hMb : M ≤ 16777216 := by rw [hM]; have := Nat.mul_le_mul (show p ≤ 4096 by omega) hPP.2; omega
              have hmul : IntKind.i64.wrap ((p : Int) * su.p) = (M : Int) := by
                rw [hp, show (p : Int) * (S.pg : Int) = (M : Int) by rw [hM]; simp, IntWalk.i64_in _ (by omega)]
              have hRD := pread21 (HFL.out.old hBp) hOO (2 : Int) (M : Int) (S.pg : Int) ⟨by omega, by omega⟩ ⟨by omega, by omega⟩ ⟨by omega, by omega⟩
              have hE := rdE21_page hOO hon 2 p PA HPA.out.2.1 hp'
              rw [← hM] at hE
              rw [← hp] at hRD hE
              have hRD' : Calls Try.prog 36 #[.pointer (some ⟨b, 0, none⟩), .int .i64 (2 : Int), .int .i64 (M : Int), .int .i64 su.p] wr fun e w' => Below wr.heap.size wr w' ∧ ∃ kk, e = .returned (.tuple #[.slice (some ⟨kk, 0, none⟩) S.pg S.pg, .int .i64 0]) ∧ wr.heap.size ≤ kk ∧ Rw21 w' kk (pB21 S (2 * 4096 + p)) := hRD.mono (by
                rintro e w' ⟨h1, h2⟩
                refine ⟨h1, ?_⟩
                rcases h2 with ⟨h2, -⟩ | ⟨-, kk, rfl, h4, h5⟩
                · exact absurd hE h2
                · refine ⟨kk, by rw [hp]; simp, h4, ?_⟩
                  unfold pB21
                  rw [show (2 * 4096 + p) / 4096 = 2 by omega, show (2 * 4096 + p) % 4096 = p by omega, ← hM]
                  rw [hp] at h5
                  simpa using h5)
              have HIN : Hid (in21 S.ps (2 * 4096 + p)) := by
                show _ < _
                rw [show (2 * 4096 + p) / 4096 = 2 by omega, show (2 * 4096 + p) % 4096 = p by omega, HPA.out.2.1]
                omega
              obtain ⟨ix, hix⟩ : ∃ ix, ix = 2 * 4096 + p := ⟨_, rfl⟩
              have hmul4 : IntKind.i64.wrap (4096 * (2 : Int)) = ((2 * 4096 : Nat) : Int) := by rw [IntWalk.i64_in _ (by omega)]; omega
              have hadd4 : IntKind.i64.wrap (((2 * 4096 : Nat) : Int) + (p : Int)) = (ix : Int) := by rw [IntWalk.i64_in _ (by omega)]; omega
              have hix1 : (ix : Int) < 12288 := by omega
              have hix0 : (0 : Int) ≤ (ix : Int) := by omega
              have HAP : Hid (Ar21 w.heap.size S ix (g3 + 1) wr ∧ Below w.heap.size w wr ∧ wr.heap[g3]? = w2.heap[g3]? ∧ ix = 2 * 4096 + p ∧ ix < 12288) := ⟨by rw [hix]; exact hAp, hBp, hbx, hix, by omega⟩
              have hsp : ((S.pg : Int) == su.p) = true := by rw [hp]; simp
              have hsp' : ((S.pg : Int) != su.p) = false := by rw [hp]; simp
              rw [← hix] at hRD' HIN
              clear hRD hE hM hAp hBp hbx hix hp
              go_wp2_with fail
              refine hRD'.mono ?_
              rintro e w3 ⟨b3, kk, rfl, hkk, hrw⟩
              obtain ⟨bx0, bx1⟩ := HBX.out w3 ((b3.block g3 (by have := HW1.out.2; have := HAP.out.2.1.size; have := (Array.getElem?_eq_some_iff.1 (HAP.out.1.row.choose_spec.1)).1; omega)).trans HAP.out.2.2.1)
              have hAr3 := HAP.out.1.old b3
              obtain ⟨ka, hrow, -⟩ := hAr3.row
              obtain ⟨cx, cf⟩ := cell_rl21 hrow ix HAP.out.2.2.2.2
              have hoff : ix = 8192 + p := by have := HAP.out.2.2.2.1; omega
              rw [hoff] at cx cf
              have HOFF : Hid (ix = 8192 + p) := hoff
              clear hoff
              have hg1 : g3 + 1 < wr.heap.size := (Array.getElem?_eq_some_iff.1 (HAP.out.1.row.choose_spec.1)).1
              have HPUT := HAP.out.1.put b3 hrw (by have := HAP.out.2.1.size; omega) (by omega) HIN.out HAP.out.2.2.2.2 (HFL.out.bd _) rfl
              have HPU : Hid (Ar21 w.heap.size S (ix + 1) (g3 + 1) (w3.setCell ⟨g3 + 1, 8192 + p, none⟩ (.slice (some ⟨kk, 0, none⟩) S.pg S.pg))) := by rw [← HOFF.out]; exact HPUT
              have HB3 : Hid (Below wr.heap.size wr w3 ∧ g3 + 1 < wr.heap.size) := ⟨b3, hg1⟩
              clear HPUT hrow hAr3 hRD' b3 hrw
              go_wp2_with fail
              go_roundw
              case rel =>
                obtain ⟨h1, h2, h3, h4, h5⟩ := HAP.out
                have k1 : Kp (fun k => k = g3 + 1) w3 (w3.setCell ⟨g3 + 1, 8192 + p, none⟩ (.slice (some ⟨kk, 0, none⟩) S.pg S.pg)) := Kp.set (S := fun k => k = g3 + 1) rfl _
                refine ⟨p + 1, by omega, by go_num, ?_, (h2.trans (HB3.out.1.mono h2.size)).trans (k1.below (fun k e => by have := HW1.out.2; omega) (by have := h2.size; have := HB3.out.1.size; omega)), ?_⟩
                · have := HPU.out; rw [h4] at this; exact this
                · rw [k1.block g3 (by have := HB3.out; have := HB3.out.1.size; omega) (by omega), HB3.out.1.block g3 (by have := HB3.out.2; omega)]; exact h3
              case measure => simp [intOf]; omega
            · obtain rfl : p = PA := by omega
              have hpi : ¬ (p : Int) < 2 := by have := HP2.out; omega
              have hSK := hAp.skip (t' := (2 + 1) * 4096) (by omega) (fun i h1 h2 h3 => by
                have e1 : i / 4096 = 2 := by omega
                have e2 : i % 4096 = i - 2 * 4096 := by omega
                unfold in21 at h3
                rw [e1, HPA.out.2.1, e2] at h3
                omega)
              have HSK : Hid (Ar21 w.heap.size S ((2 + 1) * 4096) (g3 + 1) wr ∧ Below w.heap.size w wr ∧ wr.heap[g3]? = w2.heap[g3]?) := ⟨hSK, hBp, hbx⟩
              clear hp' hAp hBp hbx hSK
              go_wp2_with fail
              refine ⟨⟨2 + 1, by omega, by first | rfl | simp, HSK.out⟩, ?_⟩
              first | (simp [intOf]; done) | (simp [intOf]; omega)
        · have HP1 : Hid (PA = S.ps) := by have := HPA.out.1; rw [if_neg ha2] at this; exact this
          have ha2' : ((a : Int) == 2) = false := by simp; omega
          have ha2'' : ¬ (a : Int) = 2 := by omega
          have ha0 : (0 : Int) ≤ (a : Int) := by omega
          go_wp2_with fail
          go_loopw [9] (fun tp wr => ∃ p : Nat, p ≤ PA ∧ tp = .int .i64 (p : Int) ∧ Ar21 w.heap.size S (a * 4096 + p) (g3 + 1) wr ∧ Below w.heap.size w wr ∧ wr.heap[g3]? = w2.heap[g3]?) (fun tp _ => PA - (intOf tp).toNat)
          case atStart => exact ⟨0, by omega, rfl, HAR.out⟩
          case round =>
            obtain ⟨p, hpP, rfl, hAp, hBp, hbx⟩ := hrel
            obtain ⟨bx0, bx1⟩ := HBX.out wr hbx
            have hPA4 := HPA.out.2.2
            have hpw : IntKind.i64.wrap ((p : Int) + 1) = ((p + 1 : Nat) : Int) := by rw [IntWalk.i64_in _ (by omega)]; omega
            by_cases hp' : p < PA
            · have hp := HPG.out.1
              have hpi : (p : Int) < su.q := by have := HP1.out; have := HPG.out.2; omega
              obtain ⟨M, hM⟩ : ∃ M, M = p * S.pg := ⟨_, rfl⟩
              have hMb : M ≤ 16777216 := by rw [hM]; have := Nat.mul_le_mul (show p ≤ 4096 by omega) hPP.2; omega
              have hmul : IntKind.i64.wrap ((p : Int) * su.p) = (M : Int) := by
                rw [hp, show (p : Int) * (S.pg : Int) = (M : Int) by rw [hM]; simp, IntWalk.i64_in _ (by omega)]
              have hRD := pread21 (HFL.out.old hBp) hOO (a : Int) (M : Int) (S.pg : Int) ⟨by omega, by omega⟩ ⟨by omega, by omega⟩ ⟨by omega, by omega⟩
              have hE := rdE21_page hOO hon a p PA HPA.out.2.1 hp'
              rw [← hM] at hE
              rw [← hp] at hRD hE
              have hRD' : Calls Try.prog 36 #[.pointer (some ⟨b, 0, none⟩), .int .i64 (a : Int), .int .i64 (M : Int), .int .i64 su.p] wr fun e w' => Below wr.heap.size wr w' ∧ ∃ kk, e = .returned (.tuple #[.slice (some ⟨kk, 0, none⟩) S.pg S.pg, .int .i64 0]) ∧ wr.heap.size ≤ kk ∧ Rw21 w' kk (pB21 S (a * 4096 + p)) := hRD.mono (by
                rintro e w' ⟨h1, h2⟩
                refine ⟨h1, ?_⟩
                rcases h2 with ⟨h2, -⟩ | ⟨-, kk, rfl, h4, h5⟩
                · exact absurd hE h2
                · refine ⟨kk, by rw [hp]; simp, h4, ?_⟩
                  unfold pB21
                  rw [show (a * 4096 + p) / 4096 = a by omega, show (a * 4096 + p) % 4096 = p by omega, ← hM]
                  rw [hp] at h5
                  simpa using h5)
              have HIN : Hid (in21 S.ps (a * 4096 + p)) := by
                show _ < _
                rw [show (a * 4096 + p) / 4096 = a by omega, show (a * 4096 + p) % 4096 = p by omega, HPA.out.2.1]
                omega
              obtain ⟨ix, hix⟩ : ∃ ix, ix = a * 4096 + p := ⟨_, rfl⟩
              have hmul4 : IntKind.i64.wrap (4096 * (a : Int)) = ((a * 4096 : Nat) : Int) := by rw [IntWalk.i64_in _ (by omega)]; omega
              have hadd4 : IntKind.i64.wrap (((a * 4096 : Nat) : Int) + (p : Int)) = (ix : Int) := by rw [IntWalk.i64_in _ (by omega)]; omega
              have hix1 : (ix : Int) < 12288 := by omega
              have hix0 : (0 : Int) ≤ (ix : Int) := by omega
              have HAP : Hid (Ar21 w.heap.size S ix (g3 + 1) wr ∧ Below w.heap.size w wr ∧ wr.heap[g3]? = w2.heap[g3]? ∧ ix = a * 4096 + p ∧ ix < 12288) := ⟨by rw [hix]; exact hAp, hBp, hbx, hix, by omega⟩
              have hsp : ((S.pg : Int) == su.p) = true := by rw [hp]; simp
              have hsp' : ((S.pg : Int) != su.p) = false := by rw [hp]; simp
              rw [← hix] at hRD' HIN
              clear hRD hE hM hAp hBp hbx hix hp
              go_wp2_with fail
              refine hRD'.mono ?_
              rintro e w3 ⟨b3, kk, rfl, hkk, hrw⟩
              obtain ⟨bx0, bx1⟩ := HBX.out w3 ((b3.block g3 (by have := HW1.out.2; have := HAP.out.2.1.size; have := (Array.getElem?_eq_some_iff.1 (HAP.out.1.row.choose_spec.1)).1; omega)).trans HAP.out.2.2.1)
              have hAr3 := HAP.out.1.old b3
              obtain ⟨ka, hrow, -⟩ := hAr3.row
              obtain ⟨cx, cf⟩ := cell_rl21 hrow ix HAP.out.2.2.2.2
              have hoff : ix = a * 4096 + p := by have := HAP.out.2.2.2.1; omega
              rw [hoff] at cx cf
              have HOFF : Hid (ix = a * 4096 + p) := hoff
              clear hoff
              have hg1 : g3 + 1 < wr.heap.size := (Array.getElem?_eq_some_iff.1 (HAP.out.1.row.choose_spec.1)).1
              have HPUT := HAP.out.1.put b3 hrw (by have := HAP.out.2.1.size; omega) (by omega) HIN.out HAP.out.2.2.2.2 (HFL.out.bd _) rfl
              have HPU : Hid (Ar21 w.heap.size S (ix + 1) (g3 + 1) (w3.setCell ⟨g3 + 1, a * 4096 + p, none⟩ (.slice (some ⟨kk, 0, none⟩) S.pg S.pg))) := by rw [← HOFF.out]; exact HPUT
              have HB3 : Hid (Below wr.heap.size wr w3 ∧ g3 + 1 < wr.heap.size) := ⟨b3, hg1⟩
              clear HPUT hrow hAr3 hRD' b3 hrw
              go_wp2_with fail
              go_roundw
              case rel =>
                obtain ⟨h1, h2, h3, h4, h5⟩ := HAP.out
                have k1 : Kp (fun k => k = g3 + 1) w3 (w3.setCell ⟨g3 + 1, a * 4096 + p, none⟩ (.slice (some ⟨kk, 0, none⟩) S.pg S.pg)) := Kp.set (S := fun k => k = g3 + 1) rfl _
                refine ⟨p + 1, by omega, by go_num, ?_, (h2.trans (HB3.out.1.mono h2.size)).trans (k1.below (fun k e => by have := HW1.out.2; omega) (by have := h2.size; have := HB3.out.1.size; omega)), ?_⟩
                · have := HPU.out; rw [h4] at this; exact this
                · rw [k1.block g3 (by have := HB3.out; have := HB3.out.1.size; omega) (by omega), HB3.out.1.block g3 (by have := HB3.out.2; omega)]; exact h3
              case measure => simp [intOf]; omega
            · obtain rfl : p = PA := by omega
              have hpi : ¬ (p : Int) < su.q := by have := HP1.out; have := HPG.out.2; omega
              have hSK := hAp.skip (t' := (a + 1) * 4096) (by omega) (fun i h1 h2 h3 => by
                have e1 : i / 4096 = a := by omega
                have e2 : i % 4096 = i - a * 4096 := by omega
                unfold in21 at h3
                rw [e1, HPA.out.2.1, e2] at h3
                omega)
              have HSK : Hid (Ar21 w.heap.size S ((a + 1) * 4096) (g3 + 1) wr ∧ Below w.heap.size w wr ∧ wr.heap[g3]? = w2.heap[g3]?) := ⟨hSK, hBp, hbx⟩
              clear hp' hAp hBp hbx hSK
              go_wp2_with fail
              refine ⟨⟨a + 1, by omega, by first | rfl | simp, HSK.out⟩, ?_⟩
              first | (simp [intOf]; done) | (simp [intOf]; omega)
      · obtain rfl : a = 3 := by omega
        have hai : ¬ ((3 : Nat) : Int) < 3 := by omega
        have HAR : Hid (Ar21 w.heap.size S (3 * 4096) (g3 + 1) wr ∧ Below w.heap.size w wr) := ⟨hAr, hBa⟩
        clear hAr hBa hbx
        go_wp2_with fail
        go_ret2
        exact ⟨⟨g3 + 1, rfl, HAR.out.1⟩, HAR.out.2⟩
  · have hon' : S.on = false := by simpa using hon
    rw [hon'] at HON
    go_enter Try.func7, Try.ntmps7
    go_wp2_with fail
    (try rw [HW1.out.2])
    refine HON.mono ?_
    rintro e w2' ⟨rfl, hw2'⟩
    subst w2'
    go_wp2_with fail
    go_ret2
    exact ⟨⟨g3 + 1, rfl, HA0.out⟩, HB2.out⟩
end Go.Proofs.Ythefcmhmcgjcoaa
