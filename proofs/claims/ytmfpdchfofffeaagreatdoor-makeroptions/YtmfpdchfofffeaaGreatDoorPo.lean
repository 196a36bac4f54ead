import Derived.Test.YtmfpdchfofffeaaGreatDoorPn
import Derived.Test.YtmfpdchfofffeaaGreatDoorPl
import Derived.Test.YtmfpdchfofffeaaGreatDoorPj
import Derived.Defers
import Derived.Recover
import Derived.Test.YtmfpdchfofffeaaGreatDoorPh
import Derived.Deep.AppendLies
import Derived.WalkLawsBesides
namespace Go.Proofs.YtmfpdchfofffeaaGreatDoor
open Go.RowKit Go.Shelf
set_option linter.unusedVariables false
theorem mag18_str : (strOfNums mag18).toList = [83, 65, 80, 82, 1] := by rw [ByteArray.toList_eq, strOfNums_data]; rfl
/-- All but what the reader keeps and what is new is kept. -/
def Ks18 (w : World) (br : Nat) (V : World) : Prop := Kp (fun k => k = br ∨ w.heap.size ≤ k) w V
theorem Ks18.refl (w : World) (br : Nat) : Ks18 w br w := Kp.refl _ _
theorem Ks18.kp {w V V' : World} {br : Nat} (h : Ks18 w br V) (k : Kp (fun x => x = br) V V') : Ks18 w br V' := Kp.trans h k (fun _ _ x => .inl x)
theorem Ks18.bl {w V V' : World} {br : Nat} (h : Ks18 w br V) (k : Below V.heap.size V V') : Ks18 w br V' := Kp.trans h (Kp.of_below (S := fun _ => False) k) (fun _ _ x => x.elim)
theorem Ks18.st {w V : World} {br b i : Nat} (h : Ks18 w br V) (hb : w.heap.size ≤ b) (v : Value) : Ks18 w br (V.setCell ⟨b, i, none⟩ v) := Kp.trans h (Kp.set (S := fun k => k = b) rfl v) (fun k _ x => .inr (by have x : k = b := x; omega))
theorem Ks18.to {w V : World} {br : Nat} (h : Ks18 w br V) : Kp (fun k => k = br) w V := ⟨h.os, h.tape, h.output, h.size, fun k hk hn => h.block k hk (fun x => by rcases x with x | x; exact hn x; omega)⟩
theorem Ks18.seg {w V : World} {br : Nat} {za : Option Addr} {z : List Int} (h : Ks18 w br V) (hz : Seg w za z) (hzb : ∀ x off, za = some ⟨x, off, none⟩ → 0 < z.length → x ≠ br) : Seg V za z := hz.kp h (fun x off e hp y => by
  rcases y with y | y
  · exact hzb x off e hp y
  · have := hz.lt x off e hp; omega)
theorem Ks18.tab {w V : World} {br : Nat} (h : Ks18 w br V) (ht : Tab w) (hbr : br ≠ 0) : Tab V := SegK.kp ht h (fun x off e hp y => by
  have hlt := SegK.lt ht x off e hp
  cases e
  rcases y with y | y
  · exact hbr y.symm
  · omega)
/-- What stands at the front: are the magic, the numbers, eight bytes and four more there? -/
def Hf18 (z : List Int) : Prop := (5 ≤ z.length ∧ z.take 5 = mag18) ∧ Nj18 z 5 4 ∧ pl18 z 5 4 + 12 ≤ z.length
open Classical in
noncomputable def hx18 (z : List Int) : Int := if Hf18 z then (if Su18 z (pl18 z 5 4 + 8) then 0 else 183) else 182
def hr18 (z : List Int) : Hd18 := { hp18 z 5 4 with so := wd18 z (pl18 z 5 4), sn := wd18 z (pl18 z 5 4 + 4) }
def HeQ18 (w : World) (br : Nat) (za : Option Addr) (zc : Nat) (z : List Int) (e : Ending) (w' : World) : Prop :=
  (hx18 z = 0 ∧ e = .returned (.agg (hr18 z).cs) ∧ Rq18 w' br za z.length zc (pl18 z 5 4 + 12) ∧ Kp (fun k => k = br) w w') ∨ (¬ hx18 z = 0 ∧ e = .panicked (pn18 (hx18 z)) ∧ Kp (fun k => k = br) w w')
theorem hx18_no {z : List Int} (h : ¬ Hf18 z) : hx18 z = 182 := by unfold hx18; rw [if_neg h]
theorem hx18_bad {z : List Int} (h : Hf18 z) (h2 : ¬ Su18 z (pl18 z 5 4 + 8)) : hx18 z = 183 := by unfold hx18; rw [if_pos h, if_neg h2]
theorem hx18_ok {z : List Int} (h : Hf18 z) (h2 : Su18 z (pl18 z 5 4 + 8)) : hx18 z = 0 := by unfold hx18; rw [if_pos h, if_pos h2]
theorem heq18_no {w w' : World} {br : Nat} {za : Option Addr} {zc : Nat} {z : List Int} (h : ¬ Hf18 z) (k : Ks18 w br w') : HeQ18 w br za zc z (.panicked (pn18 182)) w' := .inr ⟨by rw [hx18_no h]; decide, by rw [hx18_no h], k.to⟩
set_option maxRecDepth 100000 in
set_option maxHeartbeats 16000000 in
theorem phd18 (br : Nat) (za : Option Addr) (zc : Nat) (z : List Int) (w : World) (ht : Tab w) (hbr : br ≠ 0) (h : Rq18 w br za z.length zc 0) (hz : Seg w za z) (hzb : ∀ x off, za = some ⟨x, off, none⟩ → 0 < z.length → x ≠ br) (hl : z.length ≤ 140737488355328) (hc : z.length ≤ zc) :
    Calls Tryz.prog 67 #[.pointer (some ⟨br, 0, none⟩)] w (HeQ18 w br za zc z) := by
  obtain ⟨wA, b4, X⟩ := bx18 w ⟨0, 0, 0, 0, 0, 0⟩
  have HWA : Hid (w.alloc (.cells #[.int .i64 0, .int .i64 0, .int .u32 0, .int .u32 0, .int .i64 0, .int .i64 0] 51) = wA) := X.wa
  have HB : Hid (w.heap.size = b4) := X.b
  have HKA : Hid (Ks18 w br wA) := (Ks18.refl w br).bl X.bl
  have hrA : Rq18 wA br za z.length zc 0 := (X.bl.block _ (Array.getElem?_eq_some_iff.1 h).1).trans h
  have HBR : Hid (br < w.heap.size) := (Array.getElem?_eq_some_iff.1 h).1
  have H4A : Hid (wA.heap[b4]? = some (.cells #[.int .i64 0, .int .i64 0, .int .u32 0, .int .u32 0, .int .i64 0, .int .i64 0] 51 (0, 0))) := X.q
  have HSG : Hid (∀ V, Ks18 w br V → Seg V za z) := fun V hV => hV.seg hz hzb
  have HTB : Hid (∀ V, Ks18 w br V → Tab V) := fun V hV => hV.tab ht hbr
  have HZB : Hid (∀ x off, za = some ⟨x, off, none⟩ → 0 < z.length → x ≠ br) := hzb
  have HL : Hid (z.length ≤ 140737488355328 ∧ z.length ≤ zc ∧ br ≠ 0) := ⟨hl, hc, hbr⟩
  by_cases h5 : 5 ≤ z.length
  · have T : Hid (Calls Tryz.prog 102 #[.pointer (some ⟨br, 0, none⟩), .int .i64 5] wA fun e w' => e = .returned (.slice (rs16 za zc 0) 5 (zc - 0)) ∧ Rq18 w' br za z.length zc (0 + 5) ∧ Kp (fun k => k = br) wA w') := ptk18 br 5 za z.length zc 0 wA hrA (by omega) hc (by omega)
    have HCV : Hid (∀ V, Ks18 w br V → (convert 36 9 (.slice (rs16 za zc 0) 5 (zc - 0))).run Tryz.prog V = .ok (.string (strOfNums (z.take 5))) V) := fun V hV => by
      have s2 := ((seg_rs16 (c := zc) (d := 0) (HSG.out V hV) (by omega) hc).1).take 5
      rw [List.drop_zero] at s2
      have r := run_conv_segS (P := Tryz.prog) (zc - 0) s2 36 5 9 Tryz.underlying36 Tryz.underlying5 Tryz.underlying9
      rw [show (z.take 5).length = 5 by rw [List.length_take]; omega] at r
      exact r
    have hcm : ((strOfNums (z.take 5)).toList == [83, 65, 80, 82, 1]) = (z.take 5 == mag18) := by
      rw [← mag18_str]
      exact str_injS (fun t ht => hz.mem t (List.mem_of_mem_take ht)) (by decide)
    clear X h hz hzb hl hc ht hbr hrA
    by_cases hm : z.take 5 = mag18
    · rw [show (z.take 5 == mag18) = true by simp [hm]] at hcm
      have HM : Hid (z.take 5 = mag18) := hm
      clear hm
      by_cases hj : Nj18 z 5 4
      · by_cases h1 : pl18 z 5 4 + 4 ≤ z.length
        · by_cases h2 : pl18 z 5 4 + 8 ≤ z.length
          · by_cases h3 : pl18 z 5 4 + 12 ≤ z.length
            · have hf : Hf18 z := ⟨⟨h5, HM.out⟩, hj, h3⟩
              by_cases hs : Su18 z (pl18 z 5 4 + 8)
              · have HXO : Hid (hx18 z = 0) := hx18_ok hf hs
                clear hf
                go_enter Tryz.func67, Tryz.ntmps67
                go_wp2_with fail
                rw [HWA.out, HB.out]
                refine T.out.mono ?_
                rintro e1 w1 ⟨rfl, q1, k1⟩
                have HK1 : Hid (Ks18 w br w1) := HKA.out.kp k1
                have H41 : Hid (w1.heap[b4]? = some (.cells #[.int .i64 0, .int .i64 0, .int .u32 0, .int .u32 0, .int .i64 0, .int .i64 0] 51 (0, 0))) := k1.heap H4A.out (fun x => by have := HB.out; have := HBR.out; have x : b4 = br := x; omega)
                have hcv := HCV.out w1 HK1.out
                have HQ1 : Hid (Rq18 w1 br za z.length zc 5) := q1
                clear q1 k1 T HCV
                generalize rs16 za zc 0 = ax at *
                generalize zc - 0 = ac at *
                go_wp2_with fail
                (try rw [hcm])
                refine (pmust18_t w1).mono ?_
                rintro e2 w2 ⟨rfl, hw2⟩
                subst w2
                go_wp2_with fail
                refine (phf18 w1).mono ?_
                rintro e2 w2 ⟨rfl, hF, b2⟩
                have HK2 : Hid (Ks18 w br w2) := HK1.out.bl b2
                have H42 : Hid (w2.heap[b4]? = some (.cells #[.int .i64 0, .int .i64 0, .int .u32 0, .int .u32 0, .int .i64 0, .int .i64 0] 51 (0, 0))) := (b2.block _ (Array.getElem?_eq_some_iff.1 H41.out).1).trans H41.out
                have RD := prd18 w1.heap.size br za zc z 5 w2 hF (by have := HBR.out; have := HK1.out.size; omega) ((b2.block _ (Array.getElem?_eq_some_iff.1 HQ1.out).1).trans HQ1.out) (HSG.out w2 HK2.out) HZB.out HL.out.1 HL.out.2.1 h5
                have RD : Hid (Calls Tryz.prog 103 #[.pointer (some ⟨br, 0, none⟩), .slice (some ⟨w1.heap.size + 8, 0, none⟩) 4 4] w2 (RdQ18 w2 br za zc z 5)) := RD
                clear hF b2 hcv hcm
                go_wp2_with fail
                refine RD.out.mono ?_
                intro e3 w3 hrd
                obtain ⟨-, rfl, q3, hp3, k3⟩ | ⟨hx, -⟩ := hrd
                rotate_left
                · exact absurd hj hx
                have HK3 : Hid (Ks18 w br w3) := HK2.out.kp k3
                have H43 : Hid (w3.heap[b4]? = some (.cells #[.int .i64 0, .int .i64 0, .int .u32 0, .int .u32 0, .int .i64 0, .int .i64 0] 51 (0, 0))) := k3.heap H42.out (fun x => by have := HB.out; have := HBR.out; have x : b4 = br := x; omega)
                obtain ⟨H, hH⟩ : ∃ H, H = hp18 z 5 4 := ⟨_, rfl⟩
                have HHE : Hid (H = hp18 z 5 4) := hH
                rw [← hH]
                have cC := cb16 w3 H.cs 51
                obtain ⟨w4, hw4⟩ : ∃ w4, w4 = w3.alloc (.cells H.cs 51) := ⟨_, rfl⟩
                rw [← hw4] at cC
                obtain ⟨b3, hb3⟩ : ∃ b3, b3 = w3.heap.size := ⟨_, rfl⟩
                have HW4 : Hid (w3.alloc (.cells #[.int .i64 H.o, .int .i64 H.n, .int .u32 H.so, .int .u32 H.sn, .int .i64 H.wi, .int .i64 H.lo] 51) = w4) := hw4.symm
                have HB3 : Hid (w3.heap.size = b3) := hb3.symm
                have HK4 : Hid (Ks18 w br w4) := HK3.out.bl cC.bl
                have H44 : Hid (w4.heap[b4]? = some (.cells #[.int .i64 0, .int .i64 0, .int .u32 0, .int .u32 0, .int .i64 0, .int .i64 0] 51 (0, 0))) := (cC.bl.block _ (Array.getElem?_eq_some_iff.1 H43.out).1).trans H43.out
                have HQ4 : Hid (Rq18 w4 br za z.length zc (pl18 z 5 4)) := (cC.bl.block _ (Array.getElem?_eq_some_iff.1 q3).1).trans q3
                have hq34 := cC.cl
                rw [← hb3] at hq34
                have H34 : Hid (w4.heap[b3]? = some (.cells H.cs 51 (0, 0))) := hq34
                have HN3 : Hid (b3 ≠ br ∧ b3 ≠ b4 ∧ w.heap.size ≤ b3) := by
                  have x1 := HBR.out
                  have x2 := HK3.out.size
                  have x3 := (Array.getElem?_eq_some_iff.1 H43.out).1
                  exact ⟨by omega, by omega, by omega⟩
                obtain ⟨P, hP⟩ : ∃ P, P = pl18 z 5 4 := ⟨_, rfl⟩
                have HP : Hid (P = pl18 z 5 4) := hP
                rw [← hP] at HQ4
                clear q3 k3 RD hH hw4 cC hb3 hq34
                unfold Hd18.cs
                rw [← hP] at hp3 h1 h2 h3 hs
                have WD := pwd18 br za zc z P w4 HQ4.out (HSG.out w4 HK4.out) HZB.out HL.out.1 HL.out.2.1 h1
                clear hP
                go_wp2_with fail
                rw [HW4.out, HB3.out]
                refine WD.mono ?_
                rintro e5 w5 ⟨rfl, q5, k5⟩
                have H35 := k5.heap H34.out (fun x => HN3.out.1 x)
                have H45 := k5.heap H44.out (fun x => by have := HB.out; have := HBR.out; have x : b4 = br := x; omega)
                obtain ⟨V1, hV1⟩ : ∃ V1, V1 = wd18 z P := ⟨_, rfl⟩
                rw [← hV1]
                have HV1 : Hid (V1 = wd18 z P) := hV1
                have c5 : w5.cell? ⟨b3, 2, none⟩ = some (.int .u32 H.so) := cell18 H35 rfl
                have f5 : w5.frozen? ⟨b3, 2, none⟩ = false := by simp [World.frozen?, H35]
                obtain ⟨w6, hw6⟩ : ∃ w6, w6 = w5.setCell ⟨b3, 2, none⟩ (.int .u32 V1) := ⟨_, rfl⟩
                have HW6 : Hid (w5.setCell ⟨b3, 2, none⟩ (.int .u32 V1) = w6) := hw6.symm
                have HK6 : Hid (Ks18 w br w6) := by rw [hw6]; exact (HK4.out.kp k5).st HN3.out.2.2 _
                have kS : Kp (fun k => k = b3) w5 w6 := by rw [hw6]; exact Kp.set (S := fun k => k = b3) rfl _
                have H36 : Hid (w6.heap[b3]? = some (.cells #[.int .i64 H.o, .int .i64 H.n, .int .u32 V1, .int .u32 H.sn, .int .i64 H.wi, .int .i64 H.lo] 51 (0, 0))) := by
                  show _ = _
                  rw [hw6]
                  simp [World.setCell, Array.getElem?_modify, H35, Hd18.cs]
                have H46 : Hid (w6.heap[b4]? = some (.cells #[.int .i64 0, .int .i64 0, .int .u32 0, .int .u32 0, .int .i64 0, .int .i64 0] 51 (0, 0))) := kS.heap H45 (fun x => HN3.out.2.1 x.symm)
                have HQ6 : Hid (Rq18 w6 br za z.length zc (P + 4)) := kS.heap q5 (fun x => HN3.out.1 x.symm)
                clear hw6 kS H35 H45 q5 k5 hV1 WD
                have WD := pwd18 br za zc z (P + 4) w6 HQ6.out (HSG.out w6 HK6.out) HZB.out HL.out.1 HL.out.2.1 h2
                go_wp2_with fail
                rw [HW6.out]
                refine WD.mono ?_
                rintro e7 w7 ⟨rfl, q7, k7⟩
                have H37 := k7.heap H36.out (fun x => HN3.out.1 x)
                have H47 := k7.heap H46.out (fun x => by have := HB.out; have := HBR.out; have x : b4 = br := x; omega)
                obtain ⟨V2, hV2⟩ : ∃ V2, V2 = wd18 z (P + 4) := ⟨_, rfl⟩
                rw [← hV2]
                have HV2 : Hid (V2 = wd18 z (P + 4)) := hV2
                have c7 : w7.cell? ⟨b3, 3, none⟩ = some (.int .u32 H.sn) := cell18 H37 rfl
                have f7 : w7.frozen? ⟨b3, 3, none⟩ = false := by simp [World.frozen?, H37]
                obtain ⟨w8, hw8⟩ : ∃ w8, w8 = w7.setCell ⟨b3, 3, none⟩ (.int .u32 V2) := ⟨_, rfl⟩
                have HW8 : Hid (w7.setCell ⟨b3, 3, none⟩ (.int .u32 V2) = w8) := hw8.symm
                have HK8 : Hid (Ks18 w br w8) := by rw [hw8]; exact (HK6.out.kp k7).st HN3.out.2.2 _
                have kS : Kp (fun k => k = b3) w7 w8 := by rw [hw8]; exact Kp.set (S := fun k => k = b3) rfl _
                have H38 : Hid (w8.heap[b3]? = some (.cells #[.int .i64 H.o, .int .i64 H.n, .int .u32 V1, .int .u32 V2, .int .i64 H.wi, .int .i64 H.lo] 51 (0, 0))) := by
                  show _ = _
                  rw [hw8]
                  simp [World.setCell, Array.getElem?_modify, H37]
                have H48 : Hid (w8.heap[b4]? = some (.cells #[.int .i64 0, .int .i64 0, .int .u32 0, .int .u32 0, .int .i64 0, .int .i64 0] 51 (0, 0))) := kS.heap H47 (fun x => HN3.out.2.1 x.symm)
                have HQ8 : Hid (Rq18 w8 br za z.length zc (P + 8)) := kS.heap q7 (fun x => HN3.out.1 x.symm)
                clear hw8 kS H37 H47 q7 k7 hV2 WD
                have SU := psm18 br za zc z (P + 8) w8 (HTB.out w8 HK8.out) HL.out.2.2 HQ8.out (HSG.out w8 HK8.out) HZB.out HL.out.1 HL.out.2.1 h3 hs
                go_wp2_with fail
                rw [HW8.out]
                refine SU.mono ?_
                rintro e9 w9 ⟨rfl, q9, k9⟩
                have H39 := k9.heap H38.out (fun x => HN3.out.1 x)
                have H49 := k9.heap H48.out (fun x => by have := HB.out; have := HBR.out; have x : b4 = br := x; omega)
                have HK9 : Hid (Ks18 w br w9) := HK8.out.kp k9
                have l0 : w9.cell? ⟨b3, 0, none⟩ = some (.int .i64 H.o) := cell18 H39 rfl
                have l1 : w9.cell? ⟨b3, 1, none⟩ = some (.int .i64 H.n) := cell18 H39 rfl
                have l2 : w9.cell? ⟨b3, 2, none⟩ = some (.int .u32 V1) := cell18 H39 rfl
                have l3 : w9.cell? ⟨b3, 3, none⟩ = some (.int .u32 V2) := cell18 H39 rfl
                have l4 : w9.cell? ⟨b3, 4, none⟩ = some (.int .i64 H.wi) := cell18 H39 rfl
                have l5 : w9.cell? ⟨b3, 5, none⟩ = some (.int .i64 H.lo) := cell18 H39 rfl
                have f4 : ∀ j, w9.frozen? ⟨b4, j, none⟩ = false := fun j => by simp [World.frozen?, H49]
                have f40 := f4 0
                have f41 := f4 1
                have f42 := f4 2
                have f43 := f4 3
                have f44 := f4 4
                have f45 := f4 5
                have d0 : w9.cell? ⟨b4, 0, none⟩ = some (.int .i64 0) := cell18 H49 rfl
                have d1 : w9.cell? ⟨b4, 1, none⟩ = some (.int .i64 0) := cell18 H49 rfl
                have d2 : w9.cell? ⟨b4, 2, none⟩ = some (.int .u32 0) := cell18 H49 rfl
                have d3 : w9.cell? ⟨b4, 3, none⟩ = some (.int .u32 0) := cell18 H49 rfl
                have d4 : w9.cell? ⟨b4, 4, none⟩ = some (.int .i64 0) := cell18 H49 rfl
                have d5 : w9.cell? ⟨b4, 5, none⟩ = some (.int .i64 0) := cell18 H49 rfl
                have HQ9 : Hid (Rq18 w9 br za z.length zc (P + 8 + 4)) := q9
                have H4Q : Hid (w9.heap[b4]? = some (.cells #[.int .i64 0, .int .i64 0, .int .u32 0, .int .u32 0, .int .i64 0, .int .i64 0] 51 (0, 0))) := H49
                clear f4 q9 k9 H39 H49 SU
                go_wp2_with fail
                obtain ⟨F, hF⟩ : ∃ F, F = (((((w9.setCell ⟨b4, 0, none⟩ (.int .i64 H.o)).setCell ⟨b4, 1, none⟩ (.int .i64 H.n)).setCell ⟨b4, 2, none⟩ (.int .u32 V1)).setCell ⟨b4, 3, none⟩ (.int .u32 V2)).setCell ⟨b4, 4, none⟩ (.int .i64 H.wi)).setCell ⟨b4, 5, none⟩ (.int .i64 H.lo) := ⟨_, rfl⟩
                have hb4w : w.heap.size ≤ b4 := by have := HB.out; omega
                have kF : Ks18 w br F := by rw [hF]; exact (((((HK9.out.st hb4w _).st hb4w _).st hb4w _).st hb4w _).st hb4w _).st hb4w _
                have kG : Kp (fun k => k = b4) w9 F := by
                  rw [hF]
                  exact (((((Kp.set (S := fun j => j = b4) rfl _).trans (Kp.set (S := fun j => j = b4) rfl _) (fun _ _ x => x)).trans (Kp.set (S := fun j => j = b4) rfl _) (fun _ _ x => x)).trans (Kp.set (S := fun j => j = b4) rfl _) (fun _ _ x => x)).trans (Kp.set (S := fun j => j = b4) rfl _) (fun _ _ x => x)).trans (Kp.set (S := fun j => j = b4) rfl _) (fun _ _ x => x)
                have qF : F.heap[b4]? = some (.cells #[.int .i64 H.o, .int .i64 H.n, .int .u32 V1, .int .u32 V2, .int .i64 H.wi, .int .i64 H.lo] 51 (0, 0)) := by
                  rw [hF]
                  simp [World.setCell, Array.getElem?_modify, H4Q.out]
                rw [← hF]
                refine bodyPost_ret (v := .agg #[.int .i64 H.o, .int .i64 H.n, .int .u32 V1, .int .u32 V2, .int .i64 H.wi, .int .i64 H.lo]) (results_cell_row (fn := Tryz.f67) (p := 2) (ty := 51) rfl _ _ b4 _ _ _ _ rfl qF Tryz.underlying51 rfl (by kernel_rfl)) rfl ?_
                refine .inl ⟨HXO.out, ?_, ?_, kF.to⟩
                · unfold hr18
                  rw [← HHE.out, ← HP.out, ← HV1.out, ← HV2.out]
                  rfl
                · rw [← HP.out]
                  exact kG.heap HQ9.out (fun x => by have := HB.out; have := HBR.out; have x : br = b4 := x; omega)
              · have HXB : Hid (hx18 z = 183) := hx18_bad hf hs
                clear hf
                go_enter Tryz.func67, Tryz.ntmps67
                go_wp2_with fail
                rw [HWA.out, HB.out]
                refine T.out.mono ?_
                rintro e1 w1 ⟨rfl, q1, k1⟩
                have HK1 : Hid (Ks18 w br w1) := HKA.out.kp k1
                have H41 : Hid (w1.heap[b4]? = some (.cells #[.int .i64 0, .int .i64 0, .int .u32 0, .int .u32 0, .int .i64 0, .int .i64 0] 51 (0, 0))) := k1.heap H4A.out (fun x => by have := HB.out; have := HBR.out; have x : b4 = br := x; omega)
                have hcv := HCV.out w1 HK1.out
                have HQ1 : Hid (Rq18 w1 br za z.length zc 5) := q1
                clear q1 k1 T HCV
                generalize rs16 za zc 0 = ax at *
                generalize zc - 0 = ac at *
                go_wp2_with fail
                (try rw [hcm])
                refine (pmust18_t w1).mono ?_
                rintro e2 w2 ⟨rfl, hw2⟩
                subst w2
                go_wp2_with fail
                refine (phf18 w1).mono ?_
                rintro e2 w2 ⟨rfl, hF, b2⟩
                have HK2 : Hid (Ks18 w br w2) := HK1.out.bl b2
                have H42 : Hid (w2.heap[b4]? = some (.cells #[.int .i64 0, .int .i64 0, .int .u32 0, .int .u32 0, .int .i64 0, .int .i64 0] 51 (0, 0))) := (b2.block _ (Array.getElem?_eq_some_iff.1 H41.out).1).trans H41.out
                have RD := prd18 w1.heap.size br za zc z 5 w2 hF (by have := HBR.out; have := HK1.out.size; omega) ((b2.block _ (Array.getElem?_eq_some_iff.1 HQ1.out).1).trans HQ1.out) (HSG.out w2 HK2.out) HZB.out HL.out.1 HL.out.2.1 h5
                have RD : Hid (Calls Tryz.prog 103 #[.pointer (some ⟨br, 0, none⟩), .slice (some ⟨w1.heap.size + 8, 0, none⟩) 4 4] w2 (RdQ18 w2 br za zc z 5)) := RD
                clear hF b2 hcv hcm
                go_wp2_with fail
                refine RD.out.mono ?_
                intro e3 w3 hrd
                obtain ⟨-, rfl, q3, hp3, k3⟩ | ⟨hx, -⟩ := hrd
                rotate_left
                · exact absurd hj hx
                have HK3 : Hid (Ks18 w br w3) := HK2.out.kp k3
                have H43 : Hid (w3.heap[b4]? = some (.cells #[.int .i64 0, .int .i64 0, .int .u32 0, .int .u32 0, .int .i64 0, .int .i64 0] 51 (0, 0))) := k3.heap H42.out (fun x => by have := HB.out; have := HBR.out; have x : b4 = br := x; omega)
                obtain ⟨H, hH⟩ : ∃ H, H = hp18 z 5 4 := ⟨_, rfl⟩
                have HHE : Hid (H = hp18 z 5 4) := hH
                rw [← hH]
                have cC := cb16 w3 H.cs 51
                obtain ⟨w4, hw4⟩ : ∃ w4, w4 = w3.alloc (.cells H.cs 51) := ⟨_, rfl⟩
                rw [← hw4] at cC
                obtain ⟨b3, hb3⟩ : ∃ b3, b3 = w3.heap.size := ⟨_, rfl⟩
                have HW4 : Hid (w3.alloc (.cells #[.int .i64 H.o, .int .i64 H.n, .int .u32 H.so, .int .u32 H.sn, .int .i64 H.wi, .int .i64 H.lo] 51) = w4) := hw4.symm
                have HB3 : Hid (w3.heap.size = b3) := hb3.symm
                have HK4 : Hid (Ks18 w br w4) := HK3.out.bl cC.bl
                have H44 : Hid (w4.heap[b4]? = some (.cells #[.int .i64 0, .int .i64 0, .int .u32 0, .int .u32 0, .int .i64 0, .int .i64 0] 51 (0, 0))) := (cC.bl.block _ (Array.getElem?_eq_some_iff.1 H43.out).1).trans H43.out
                have HQ4 : Hid (Rq18 w4 br za z.length zc (pl18 z 5 4)) := (cC.bl.block _ (Array.getElem?_eq_some_iff.1 q3).1).trans q3
                have hq34 := cC.cl
                rw [← hb3] at hq34
                have H34 : Hid (w4.heap[b3]? = some (.cells H.cs 51 (0, 0))) := hq34
                have HN3 : Hid (b3 ≠ br ∧ b3 ≠ b4 ∧ w.heap.size ≤ b3) := by
                  have x1 := HBR.out
                  have x2 := HK3.out.size
                  have x3 := (Array.getElem?_eq_some_iff.1 H43.out).1
                  exact ⟨by omega, by omega, by omega⟩
                obtain ⟨P, hP⟩ : ∃ P, P = pl18 z 5 4 := ⟨_, rfl⟩
                have HP : Hid (P = pl18 z 5 4) := hP
                rw [← hP] at HQ4
                clear q3 k3 RD hH hw4 cC hb3 hq34
                unfold Hd18.cs
                rw [← hP] at hp3 h1 h2 h3 hs
                have WD := pwd18 br za zc z P w4 HQ4.out (HSG.out w4 HK4.out) HZB.out HL.out.1 HL.out.2.1 h1
                clear hP
                go_wp2_with fail
                rw [HW4.out, HB3.out]
                refine WD.mono ?_
                rintro e5 w5 ⟨rfl, q5, k5⟩
                have H35 := k5.heap H34.out (fun x => HN3.out.1 x)
                have H45 := k5.heap H44.out (fun x => by have := HB.out; have := HBR.out; have x : b4 = br := x; omega)
                obtain ⟨V1, hV1⟩ : ∃ V1, V1 = wd18 z P := ⟨_, rfl⟩
                rw [← hV1]
                have HV1 : Hid (V1 = wd18 z P) := hV1
                have c5 : w5.cell? ⟨b3, 2, none⟩ = some (.int .u32 H.so) := cell18 H35 rfl
                have f5 : w5.frozen? ⟨b3, 2, none⟩ = false := by simp [World.frozen?, H35]
                obtain ⟨w6, hw6⟩ : ∃ w6, w6 = w5.setCell ⟨b3, 2, none⟩ (.int .u32 V1) := ⟨_, rfl⟩
                have HW6 : Hid (w5.setCell ⟨b3, 2, none⟩ (.int .u32 V1) = w6) := hw6.symm
                have HK6 : Hid (Ks18 w br w6) := by rw [hw6]; exact (HK4.out.kp k5).st HN3.out.2.2 _
                have kS : Kp (fun k => k = b3) w5 w6 := by rw [hw6]; exact Kp.set (S := fun k => k = b3) rfl _
                have H36 : Hid (w6.heap[b3]? = some (.cells #[.int .i64 H.o, .int .i64 H.n, .int .u32 V1, .int .u32 H.sn, .int .i64 H.wi, .int .i64 H.lo] 51 (0, 0))) := by
                  show _ = _
                  rw [hw6]
                  simp [World.setCell, Array.getElem?_modify, H35, Hd18.cs]
                have H46 : Hid (w6.heap[b4]? = some (.cells #[.int .i64 0, .int .i64 0, .int .u32 0, .int .u32 0, .int .i64 0, .int .i64 0] 51 (0, 0))) := kS.heap H45 (fun x => HN3.out.2.1 x.symm)
                have HQ6 : Hid (Rq18 w6 br za z.length zc (P + 4)) := kS.heap q5 (fun x => HN3.out.1 x.symm)
                clear hw6 kS H35 H45 q5 k5 hV1 WD
                have WD := pwd18 br za zc z (P + 4) w6 HQ6.out (HSG.out w6 HK6.out) HZB.out HL.out.1 HL.out.2.1 h2
                go_wp2_with fail
                rw [HW6.out]
                refine WD.mono ?_
                rintro e7 w7 ⟨rfl, q7, k7⟩
                have H37 := k7.heap H36.out (fun x => HN3.out.1 x)
                have H47 := k7.heap H46.out (fun x => by have := HB.out; have := HBR.out; have x : b4 = br := x; omega)
                obtain ⟨V2, hV2⟩ : ∃ V2, V2 = wd18 z (P + 4) := ⟨_, rfl⟩
                rw [← hV2]
                have HV2 : Hid (V2 = wd18 z (P + 4)) := hV2
                have c7 : w7.cell? ⟨b3, 3, none⟩ = some (.int .u32 H.sn) := cell18 H37 rfl
                have f7 : w7.frozen? ⟨b3, 3, none⟩ = false := by simp [World.frozen?, H37]
                obtain ⟨w8, hw8⟩ : ∃ w8, w8 = w7.setCell ⟨b3, 3, none⟩ (.int .u32 V2) := ⟨_, rfl⟩
                have HW8 : Hid (w7.setCell ⟨b3, 3, none⟩ (.int .u32 V2) = w8) := hw8.symm
                have HK8 : Hid (Ks18 w br w8) := by rw [hw8]; exact (HK6.out.kp k7).st HN3.out.2.2 _
                have kS : Kp (fun k => k = b3) w7 w8 := by rw [hw8]; exact Kp.set (S := fun k => k = b3) rfl _
                have H38 : Hid (w8.heap[b3]? = some (.cells #[.int .i64 H.o, .int .i64 H.n, .int .u32 V1, .int .u32 V2, .int .i64 H.wi, .int .i64 H.lo] 51 (0, 0))) := by
                  show _ = _
                  rw [hw8]
                  simp [World.setCell, Array.getElem?_modify, H37]
                have H48 : Hid (w8.heap[b4]? = some (.cells #[.int .i64 0, .int .i64 0, .int .u32 0, .int .u32 0, .int .i64 0, .int .i64 0] 51 (0, 0))) := kS.heap H47 (fun x => HN3.out.2.1 x.symm)
                have HQ8 : Hid (Rq18 w8 br za z.length zc (P + 8)) := kS.heap q7 (fun x => HN3.out.1 x.symm)
                clear hw8 kS H37 H47 q7 k7 hV2 WD
                have SU := psm18_bad br za zc z (P + 8) w8 (HTB.out w8 HK8.out) HL.out.2.2 HQ8.out (HSG.out w8 HK8.out) HZB.out HL.out.1 HL.out.2.1 h3 hs
                go_wp2_with fail
                rw [HW8.out]
                refine SU.mono ?_
                rintro e9 w9 ⟨rfl, k9⟩
                exact ⟨rfl, .inr ⟨by rw [HXB.out]; decide, by rw [HXB.out], (HK8.out.kp k9).to⟩⟩
            · have HNF : Hid (¬ Hf18 z) := fun x => h3 x.2.2
              go_enter Tryz.func67, Tryz.ntmps67
              go_wp2_with fail
              rw [HWA.out, HB.out]
              refine T.out.mono ?_
              rintro e1 w1 ⟨rfl, q1, k1⟩
              have HK1 : Hid (Ks18 w br w1) := HKA.out.kp k1
              have H41 : Hid (w1.heap[b4]? = some (.cells #[.int .i64 0, .int .i64 0, .int .u32 0, .int .u32 0, .int .i64 0, .int .i64 0] 51 (0, 0))) := k1.heap H4A.out (fun x => by have := HB.out; have := HBR.out; have x : b4 = br := x; omega)
              have hcv := HCV.out w1 HK1.out
              have HQ1 : Hid (Rq18 w1 br za z.length zc 5) := q1
              clear q1 k1 T HCV
              generalize rs16 za zc 0 = ax at *
              generalize zc - 0 = ac at *
              go_wp2_with fail
              (try rw [hcm])
              refine (pmust18_t w1).mono ?_
              rintro e2 w2 ⟨rfl, hw2⟩
              subst w2
              go_wp2_with fail
              refine (phf18 w1).mono ?_
              rintro e2 w2 ⟨rfl, hF, b2⟩
              have HK2 : Hid (Ks18 w br w2) := HK1.out.bl b2
              have H42 : Hid (w2.heap[b4]? = some (.cells #[.int .i64 0, .int .i64 0, .int .u32 0, .int .u32 0, .int .i64 0, .int .i64 0] 51 (0, 0))) := (b2.block _ (Array.getElem?_eq_some_iff.1 H41.out).1).trans H41.out
              have RD := prd18 w1.heap.size br za zc z 5 w2 hF (by have := HBR.out; have := HK1.out.size; omega) ((b2.block _ (Array.getElem?_eq_some_iff.1 HQ1.out).1).trans HQ1.out) (HSG.out w2 HK2.out) HZB.out HL.out.1 HL.out.2.1 h5
              have RD : Hid (Calls Tryz.prog 103 #[.pointer (some ⟨br, 0, none⟩), .slice (some ⟨w1.heap.size + 8, 0, none⟩) 4 4] w2 (RdQ18 w2 br za zc z 5)) := RD
              clear hF b2 hcv hcm
              go_wp2_with fail
              refine RD.out.mono ?_
              intro e3 w3 hrd
              obtain ⟨-, rfl, q3, hp3, k3⟩ | ⟨hx, -⟩ := hrd
              rotate_left
              · exact absurd hj hx
              have HK3 : Hid (Ks18 w br w3) := HK2.out.kp k3
              have H43 : Hid (w3.heap[b4]? = some (.cells #[.int .i64 0, .int .i64 0, .int .u32 0, .int .u32 0, .int .i64 0, .int .i64 0] 51 (0, 0))) := k3.heap H42.out (fun x => by have := HB.out; have := HBR.out; have x : b4 = br := x; omega)
              obtain ⟨H, hH⟩ : ∃ H, H = hp18 z 5 4 := ⟨_, rfl⟩
              have HHE : Hid (H = hp18 z 5 4) := hH
              rw [← hH]
              have cC := cb16 w3 H.cs 51
              obtain ⟨w4, hw4⟩ : ∃ w4, w4 = w3.alloc (.cells H.cs 51) := ⟨_, rfl⟩
              rw [← hw4] at cC
              obtain ⟨b3, hb3⟩ : ∃ b3, b3 = w3.heap.size := ⟨_, rfl⟩
              have HW4 : Hid (w3.alloc (.cells #[.int .i64 H.o, .int .i64 H.n, .int .u32 H.so, .int .u32 H.sn, .int .i64 H.wi, .int .i64 H.lo] 51) = w4) := hw4.symm
              have HB3 : Hid (w3.heap.size = b3) := hb3.symm
              have HK4 : Hid (Ks18 w br w4) := HK3.out.bl cC.bl
              have H44 : Hid (w4.heap[b4]? = some (.cells #[.int .i64 0, .int .i64 0, .int .u32 0, .int .u32 0, .int .i64 0, .int .i64 0] 51 (0, 0))) := (cC.bl.block _ (Array.getElem?_eq_some_iff.1 H43.out).1).trans H43.out
              have HQ4 : Hid (Rq18 w4 br za z.length zc (pl18 z 5 4)) := (cC.bl.block _ (Array.getElem?_eq_some_iff.1 q3).1).trans q3
              have hq34 := cC.cl
              rw [← hb3] at hq34
              have H34 : Hid (w4.heap[b3]? = some (.cells H.cs 51 (0, 0))) := hq34
              have HN3 : Hid (b3 ≠ br ∧ b3 ≠ b4 ∧ w.heap.size ≤ b3) := by
                have x1 := HBR.out
                have x2 := HK3.out.size
                have x3 := (Array.getElem?_eq_some_iff.1 H43.out).1
                exact ⟨by omega, by omega, by omega⟩
              obtain ⟨P, hP⟩ : ∃ P, P = pl18 z 5 4 := ⟨_, rfl⟩
              have HP : Hid (P = pl18 z 5 4) := hP
              rw [← hP] at HQ4
              clear q3 k3 RD hH hw4 cC hb3 hq34
              unfold Hd18.cs
              rw [← hP] at hp3 h1 h2 h3
              have WD := pwd18 br za zc z P w4 HQ4.out (HSG.out w4 HK4.out) HZB.out HL.out.1 HL.out.2.1 h1
              clear hP
              go_wp2_with fail
              rw [HW4.out, HB3.out]
              refine WD.mono ?_
              rintro e5 w5 ⟨rfl, q5, k5⟩
              have H35 := k5.heap H34.out (fun x => HN3.out.1 x)
              have H45 := k5.heap H44.out (fun x => by have := HB.out; have := HBR.out; have x : b4 = br := x; omega)
              obtain ⟨V1, hV1⟩ : ∃ V1, V1 = wd18 z P := ⟨_, rfl⟩
              rw [← hV1]
              have HV1 : Hid (V1 = wd18 z P) := hV1
              have c5 : w5.cell? ⟨b3, 2, none⟩ = some (.int .u32 H.so) := cell18 H35 rfl
              have f5 : w5.frozen? ⟨b3, 2, none⟩ = false := by simp [World.frozen?, H35]
              obtain ⟨w6, hw6⟩ : ∃ w6, w6 = w5.setCell ⟨b3, 2, none⟩ (.int .u32 V1) := ⟨_, rfl⟩
              have HW6 : Hid (w5.setCell ⟨b3, 2, none⟩ (.int .u32 V1) = w6) := hw6.symm
              have HK6 : Hid (Ks18 w br w6) := by rw [hw6]; exact (HK4.out.kp k5).st HN3.out.2.2 _
              have kS : Kp (fun k => k = b3) w5 w6 := by rw [hw6]; exact Kp.set (S := fun k => k = b3) rfl _
              have H36 : Hid (w6.heap[b3]? = some (.cells #[.int .i64 H.o, .int .i64 H.n, .int .u32 V1, .int .u32 H.sn, .int .i64 H.wi, .int .i64 H.lo] 51 (0, 0))) := by
                show _ = _
                rw [hw6]
                simp [World.setCell, Array.getElem?_modify, H35, Hd18.cs]
              have H46 : Hid (w6.heap[b4]? = some (.cells #[.int .i64 0, .int .i64 0, .int .u32 0, .int .u32 0, .int .i64 0, .int .i64 0] 51 (0, 0))) := kS.heap H45 (fun x => HN3.out.2.1 x.symm)
              have HQ6 : Hid (Rq18 w6 br za z.length zc (P + 4)) := kS.heap q5 (fun x => HN3.out.1 x.symm)
              clear hw6 kS H35 H45 q5 k5 hV1 WD
              have WD := pwd18 br za zc z (P + 4) w6 HQ6.out (HSG.out w6 HK6.out) HZB.out HL.out.1 HL.out.2.1 h2
              go_wp2_with fail
              rw [HW6.out]
              refine WD.mono ?_
              rintro e7 w7 ⟨rfl, q7, k7⟩
              have H37 := k7.heap H36.out (fun x => HN3.out.1 x)
              have H47 := k7.heap H46.out (fun x => by have := HB.out; have := HBR.out; have x : b4 = br := x; omega)
              obtain ⟨V2, hV2⟩ : ∃ V2, V2 = wd18 z (P + 4) := ⟨_, rfl⟩
              rw [← hV2]
              have HV2 : Hid (V2 = wd18 z (P + 4)) := hV2
              have c7 : w7.cell? ⟨b3, 3, none⟩ = some (.int .u32 H.sn) := cell18 H37 rfl
              have f7 : w7.frozen? ⟨b3, 3, none⟩ = false := by simp [World.frozen?, H37]
              obtain ⟨w8, hw8⟩ : ∃ w8, w8 = w7.setCell ⟨b3, 3, none⟩ (.int .u32 V2) := ⟨_, rfl⟩
              have HW8 : Hid (w7.setCell ⟨b3, 3, none⟩ (.int .u32 V2) = w8) := hw8.symm
              have HK8 : Hid (Ks18 w br w8) := by rw [hw8]; exact (HK6.out.kp k7).st HN3.out.2.2 _
              have kS : Kp (fun k => k = b3) w7 w8 := by rw [hw8]; exact Kp.set (S := fun k => k = b3) rfl _
              have H38 : Hid (w8.heap[b3]? = some (.cells #[.int .i64 H.o, .int .i64 H.n, .int .u32 V1, .int .u32 V2, .int .i64 H.wi, .int .i64 H.lo] 51 (0, 0))) := by
                show _ = _
                rw [hw8]
                simp [World.setCell, Array.getElem?_modify, H37]
              have H48 : Hid (w8.heap[b4]? = some (.cells #[.int .i64 0, .int .i64 0, .int .u32 0, .int .u32 0, .int .i64 0, .int .i64 0] 51 (0, 0))) := kS.heap H47 (fun x => HN3.out.2.1 x.symm)
              have HQ8 : Hid (Rq18 w8 br za z.length zc (P + 8)) := kS.heap q7 (fun x => HN3.out.1 x.symm)
              clear hw8 kS H37 H47 q7 k7 hV2 WD
              have SU := psm18_no br za z.length zc (P + 8) w8 HQ8.out HL.out.1 HL.out.2.1 h2 (by omega)
              go_wp2_with fail
              rw [HW8.out]
              refine SU.mono ?_
              rintro e9 w9 ⟨rfl, b9⟩
              exact ⟨rfl, heq18_no HNF.out (HK8.out.bl b9)⟩
          · have HNF : Hid (¬ Hf18 z) := fun x => by have := x.2.2; omega
            go_enter Tryz.func67, Tryz.ntmps67
            go_wp2_with fail
            rw [HWA.out, HB.out]
            refine T.out.mono ?_
            rintro e1 w1 ⟨rfl, q1, k1⟩
            have HK1 : Hid (Ks18 w br w1) := HKA.out.kp k1
            have H41 : Hid (w1.heap[b4]? = some (.cells #[.int .i64 0, .int .i64 0, .int .u32 0, .int .u32 0, .int .i64 0, .int .i64 0] 51 (0, 0))) := k1.heap H4A.out (fun x => by have := HB.out; have := HBR.out; have x : b4 = br := x; omega)
            have hcv := HCV.out w1 HK1.out
            have HQ1 : Hid (Rq18 w1 br za z.length zc 5) := q1
            clear q1 k1 T HCV
            generalize rs16 za zc 0 = ax at *
            generalize zc - 0 = ac at *
            go_wp2_with fail
            (try rw [hcm])
            refine (pmust18_t w1).mono ?_
            rintro e2 w2 ⟨rfl, hw2⟩
            subst w2
            go_wp2_with fail
            refine (phf18 w1).mono ?_
            rintro e2 w2 ⟨rfl, hF, b2⟩
            have HK2 : Hid (Ks18 w br w2) := HK1.out.bl b2
            have H42 : Hid (w2.heap[b4]? = some (.cells #[.int .i64 0, .int .i64 0, .int .u32 0, .int .u32 0, .int .i64 0, .int .i64 0] 51 (0, 0))) := (b2.block _ (Array.getElem?_eq_some_iff.1 H41.out).1).trans H41.out
            have RD := prd18 w1.heap.size br za zc z 5 w2 hF (by have := HBR.out; have := HK1.out.size; omega) ((b2.block _ (Array.getElem?_eq_some_iff.1 HQ1.out).1).trans HQ1.out) (HSG.out w2 HK2.out) HZB.out HL.out.1 HL.out.2.1 h5
            have RD : Hid (Calls Tryz.prog 103 #[.pointer (some ⟨br, 0, none⟩), .slice (some ⟨w1.heap.size + 8, 0, none⟩) 4 4] w2 (RdQ18 w2 br za zc z 5)) := RD
            clear hF b2 hcv hcm
            go_wp2_with fail
            refine RD.out.mono ?_
            intro e3 w3 hrd
            obtain ⟨-, rfl, q3, hp3, k3⟩ | ⟨hx, -⟩ := hrd
            rotate_left
            · exact absurd hj hx
            have HK3 : Hid (Ks18 w br w3) := HK2.out.kp k3
            have H43 : Hid (w3.heap[b4]? = some (.cells #[.int .i64 0, .int .i64 0, .int .u32 0, .int .u32 0, .int .i64 0, .int .i64 0] 51 (0, 0))) := k3.heap H42.out (fun x => by have := HB.out; have := HBR.out; have x : b4 = br := x; omega)
            obtain ⟨H, hH⟩ : ∃ H, H = hp18 z 5 4 := ⟨_, rfl⟩
            have HHE : Hid (H = hp18 z 5 4) := hH
            rw [← hH]
            have cC := cb16 w3 H.cs 51
            obtain ⟨w4, hw4⟩ : ∃ w4, w4 = w3.alloc (.cells H.cs 51) := ⟨_, rfl⟩
            rw [← hw4] at cC
            obtain ⟨b3, hb3⟩ : ∃ b3, b3 = w3.heap.size := ⟨_, rfl⟩
            have HW4 : Hid (w3.alloc (.cells #[.int .i64 H.o, .int .i64 H.n, .int .u32 H.so, .int .u32 H.sn, .int .i64 H.wi, .int .i64 H.lo] 51) = w4) := hw4.symm
            have HB3 : Hid (w3.heap.size = b3) := hb3.symm
            have HK4 : Hid (Ks18 w br w4) := HK3.out.bl cC.bl
            have H44 : Hid (w4.heap[b4]? = some (.cells #[.int .i64 0, .int .i64 0, .int .u32 0, .int .u32 0, .int .i64 0, .int .i64 0] 51 (0, 0))) := (cC.bl.block _ (Array.getElem?_eq_some_iff.1 H43.out).1).trans H43.out
            have HQ4 : Hid (Rq18 w4 br za z.length zc (pl18 z 5 4)) := (cC.bl.block _ (Array.getElem?_eq_some_iff.1 q3).1).trans q3
            have hq34 := cC.cl
            rw [← hb3] at hq34
            have H34 : Hid (w4.heap[b3]? = some (.cells H.cs 51 (0, 0))) := hq34
            have HN3 : Hid (b3 ≠ br ∧ b3 ≠ b4 ∧ w.heap.size ≤ b3) := by
              have x1 := HBR.out
              have x2 := HK3.out.size
              have x3 := (Array.getElem?_eq_some_iff.1 H43.out).1
              exact ⟨by omega, by omega, by omega⟩
            obtain ⟨P, hP⟩ : ∃ P, P = pl18 z 5 4 := ⟨_, rfl⟩
            have HP : Hid (P = pl18 z 5 4) := hP
            rw [← hP] at HQ4
            clear q3 k3 RD hH hw4 cC hb3 hq34
            unfold Hd18.cs
            rw [← hP] at hp3 h1 h2
            have WD := pwd18 br za zc z P w4 HQ4.out (HSG.out w4 HK4.out) HZB.out HL.out.1 HL.out.2.1 h1
            clear hP
            go_wp2_with fail
            rw [HW4.out, HB3.out]
            refine WD.mono ?_
            rintro e5 w5 ⟨rfl, q5, k5⟩
            have H35 := k5.heap H34.out (fun x => HN3.out.1 x)
            have H45 := k5.heap H44.out (fun x => by have := HB.out; have := HBR.out; have x : b4 = br := x; omega)
            obtain ⟨V1, hV1⟩ : ∃ V1, V1 = wd18 z P := ⟨_, rfl⟩
            rw [← hV1]
            have HV1 : Hid (V1 = wd18 z P) := hV1
            have c5 : w5.cell? ⟨b3, 2, none⟩ = some (.int .u32 H.so) := cell18 H35 rfl
            have f5 : w5.frozen? ⟨b3, 2, none⟩ = false := by simp [World.frozen?, H35]
            obtain ⟨w6, hw6⟩ : ∃ w6, w6 = w5.setCell ⟨b3, 2, none⟩ (.int .u32 V1) := ⟨_, rfl⟩
            have HW6 : Hid (w5.setCell ⟨b3, 2, none⟩ (.int .u32 V1) = w6) := hw6.symm
            have HK6 : Hid (Ks18 w br w6) := by rw [hw6]; exact (HK4.out.kp k5).st HN3.out.2.2 _
            have kS : Kp (fun k => k = b3) w5 w6 := by rw [hw6]; exact Kp.set (S := fun k => k = b3) rfl _
            have H36 : Hid (w6.heap[b3]? = some (.cells #[.int .i64 H.o, .int .i64 H.n, .int .u32 V1, .int .u32 H.sn, .int .i64 H.wi, .int .i64 H.lo] 51 (0, 0))) := by
              show _ = _
              rw [hw6]
              simp [World.setCell, Array.getElem?_modify, H35, Hd18.cs]
            have H46 : Hid (w6.heap[b4]? = some (.cells #[.int .i64 0, .int .i64 0, .int .u32 0, .int .u32 0, .int .i64 0, .int .i64 0] 51 (0, 0))) := kS.heap H45 (fun x => HN3.out.2.1 x.symm)
            have HQ6 : Hid (Rq18 w6 br za z.length zc (P + 4)) := kS.heap q5 (fun x => HN3.out.1 x.symm)
            clear hw6 kS H35 H45 q5 k5 hV1 WD
            have WD := pwd18_no br za z.length zc (P + 4) w6 HQ6.out HL.out.1 h1 (by omega)
            go_wp2_with fail
            rw [HW6.out]
            refine WD.mono ?_
            rintro e7 w7 ⟨rfl, b7⟩
            exact ⟨rfl, heq18_no HNF.out (HK6.out.bl b7)⟩
        · have HNF : Hid (¬ Hf18 z) := fun x => by have := x.2.2; omega
          go_enter Tryz.func67, Tryz.ntmps67
          go_wp2_with fail
          rw [HWA.out, HB.out]
          refine T.out.mono ?_
          rintro e1 w1 ⟨rfl, q1, k1⟩
          have HK1 : Hid (Ks18 w br w1) := HKA.out.kp k1
          have H41 : Hid (w1.heap[b4]? = some (.cells #[.int .i64 0, .int .i64 0, .int .u32 0, .int .u32 0, .int .i64 0, .int .i64 0] 51 (0, 0))) := k1.heap H4A.out (fun x => by have := HB.out; have := HBR.out; have x : b4 = br := x; omega)
          have hcv := HCV.out w1 HK1.out
          have HQ1 : Hid (Rq18 w1 br za z.length zc 5) := q1
          clear q1 k1 T HCV
          generalize rs16 za zc 0 = ax at *
          generalize zc - 0 = ac at *
          go_wp2_with fail
          (try rw [hcm])
          refine (pmust18_t w1).mono ?_
          rintro e2 w2 ⟨rfl, hw2⟩
          subst w2
          go_wp2_with fail
          refine (phf18 w1).mono ?_
          rintro e2 w2 ⟨rfl, hF, b2⟩
          have HK2 : Hid (Ks18 w br w2) := HK1.out.bl b2
          have H42 : Hid (w2.heap[b4]? = some (.cells #[.int .i64 0, .int .i64 0, .int .u32 0, .int .u32 0, .int .i64 0, .int .i64 0] 51 (0, 0))) := (b2.block _ (Array.getElem?_eq_some_iff.1 H41.out).1).trans H41.out
          have RD := prd18 w1.heap.size br za zc z 5 w2 hF (by have := HBR.out; have := HK1.out.size; omega) ((b2.block _ (Array.getElem?_eq_some_iff.1 HQ1.out).1).trans HQ1.out) (HSG.out w2 HK2.out) HZB.out HL.out.1 HL.out.2.1 h5
          have RD : Hid (Calls Tryz.prog 103 #[.pointer (some ⟨br, 0, none⟩), .slice (some ⟨w1.heap.size + 8, 0, none⟩) 4 4] w2 (RdQ18 w2 br za zc z 5)) := RD
          clear hF b2 hcv hcm
          go_wp2_with fail
          refine RD.out.mono ?_
          intro e3 w3 hrd
          obtain ⟨-, rfl, q3, hp3, k3⟩ | ⟨hx, -⟩ := hrd
          rotate_left
          · exact absurd hj hx
          have HK3 : Hid (Ks18 w br w3) := HK2.out.kp k3
          have H43 : Hid (w3.heap[b4]? = some (.cells #[.int .i64 0, .int .i64 0, .int .u32 0, .int .u32 0, .int .i64 0, .int .i64 0] 51 (0, 0))) := k3.heap H42.out (fun x => by have := HB.out; have := HBR.out; have x : b4 = br := x; omega)
          obtain ⟨H, hH⟩ : ∃ H, H = hp18 z 5 4 := ⟨_, rfl⟩
          have HHE : Hid (H = hp18 z 5 4) := hH
          rw [← hH]
          have cC := cb16 w3 H.cs 51
          obtain ⟨w4, hw4⟩ : ∃ w4, w4 = w3.alloc (.cells H.cs 51) := ⟨_, rfl⟩
          rw [← hw4] at cC
          obtain ⟨b3, hb3⟩ : ∃ b3, b3 = w3.heap.size := ⟨_, rfl⟩
          have HW4 : Hid (w3.alloc (.cells #[.int .i64 H.o, .int .i64 H.n, .int .u32 H.so, .int .u32 H.sn, .int .i64 H.wi, .int .i64 H.lo] 51) = w4) := hw4.symm
          have HB3 : Hid (w3.heap.size = b3) := hb3.symm
          have HK4 : Hid (Ks18 w br w4) := HK3.out.bl cC.bl
          have H44 : Hid (w4.heap[b4]? = some (.cells #[.int .i64 0, .int .i64 0, .int .u32 0, .int .u32 0, .int .i64 0, .int .i64 0] 51 (0, 0))) := (cC.bl.block _ (Array.getElem?_eq_some_iff.1 H43.out).1).trans H43.out
          have HQ4 : Hid (Rq18 w4 br za z.length zc (pl18 z 5 4)) := (cC.bl.block _ (Array.getElem?_eq_some_iff.1 q3).1).trans q3
          have hq34 := cC.cl
          rw [← hb3] at hq34
          have H34 : Hid (w4.heap[b3]? = some (.cells H.cs 51 (0, 0))) := hq34
          have HN3 : Hid (b3 ≠ br ∧ b3 ≠ b4 ∧ w.heap.size ≤ b3) := by
            have x1 := HBR.out
            have x2 := HK3.out.size
            have x3 := (Array.getElem?_eq_some_iff.1 H43.out).1
            exact ⟨by omega, by omega, by omega⟩
          obtain ⟨P, hP⟩ : ∃ P, P = pl18 z 5 4 := ⟨_, rfl⟩
          have HP : Hid (P = pl18 z 5 4) := hP
          rw [← hP] at HQ4
          clear q3 k3 RD hH hw4 cC hb3 hq34
          unfold Hd18.cs
          rw [← hP] at hp3 h1
          have WD := pwd18_no br za z.length zc P w4 HQ4.out HL.out.1 hp3 (by omega)
          clear hP
          go_wp2_with fail
          rw [HW4.out, HB3.out]
          refine WD.mono ?_
          rintro e5 w5 ⟨rfl, b5⟩
          exact ⟨rfl, heq18_no HNF.out (HK4.out.bl b5)⟩
      · have HNF : Hid (¬ Hf18 z) := fun x => hj x.2.1
        go_enter Tryz.func67, Tryz.ntmps67
        go_wp2_with fail
        rw [HWA.out, HB.out]
        refine T.out.mono ?_
        rintro e1 w1 ⟨rfl, q1, k1⟩
        have HK1 : Hid (Ks18 w br w1) := HKA.out.kp k1
        have H41 : Hid (w1.heap[b4]? = some (.cells #[.int .i64 0, .int .i64 0, .int .u32 0, .int .u32 0, .int .i64 0, .int .i64 0] 51 (0, 0))) := k1.heap H4A.out (fun x => by have := HB.out; have := HBR.out; have x : b4 = br := x; omega)
        have hcv := HCV.out w1 HK1.out
        have HQ1 : Hid (Rq18 w1 br za z.length zc 5) := q1
        clear q1 k1 T HCV
        generalize rs16 za zc 0 = ax at *
        generalize zc - 0 = ac at *
        go_wp2_with fail
        (try rw [hcm])
        refine (pmust18_t w1).mono ?_
        rintro e2 w2 ⟨rfl, hw2⟩
        subst w2
        go_wp2_with fail
        refine (phf18 w1).mono ?_
        rintro e2 w2 ⟨rfl, hF, b2⟩
        have HK2 : Hid (Ks18 w br w2) := HK1.out.bl b2
        have H42 : Hid (w2.heap[b4]? = some (.cells #[.int .i64 0, .int .i64 0, .int .u32 0, .int .u32 0, .int .i64 0, .int .i64 0] 51 (0, 0))) := (b2.block _ (Array.getElem?_eq_some_iff.1 H41.out).1).trans H41.out
        have RD := prd18 w1.heap.size br za zc z 5 w2 hF (by have := HBR.out; have := HK1.out.size; omega) ((b2.block _ (Array.getElem?_eq_some_iff.1 HQ1.out).1).trans HQ1.out) (HSG.out w2 HK2.out) HZB.out HL.out.1 HL.out.2.1 h5
        have RD : Hid (Calls Tryz.prog 103 #[.pointer (some ⟨br, 0, none⟩), .slice (some ⟨w1.heap.size + 8, 0, none⟩) 4 4] w2 (RdQ18 w2 br za zc z 5)) := RD
        clear hF b2 hcv hcm
        go_wp2_with fail
        refine RD.out.mono ?_
        intro e3 w3 hrd
        obtain ⟨hx, -⟩ | ⟨-, rfl, k3⟩ := hrd
        · exact absurd hx hj
        · exact ⟨rfl, heq18_no HNF.out (HK2.out.kp k3)⟩
    · have HNF : Hid (¬ Hf18 z) := fun x => hm x.1.2
      rw [show (z.take 5 == mag18) = false by simp [hm]] at hcm
      clear hm
      go_enter Tryz.func67, Tryz.ntmps67
      go_wp2_with fail
      rw [HWA.out, HB.out]
      refine T.out.mono ?_
      rintro e1 w1 ⟨rfl, q1, k1⟩
      have HK1 : Hid (Ks18 w br w1) := HKA.out.kp k1
      have H41 : Hid (w1.heap[b4]? = some (.cells #[.int .i64 0, .int .i64 0, .int .u32 0, .int .u32 0, .int .i64 0, .int .i64 0] 51 (0, 0))) := k1.heap H4A.out (fun x => by have := HB.out; have := HBR.out; have x : b4 = br := x; omega)
      have hcv := HCV.out w1 HK1.out
      have HQ1 : Hid (Rq18 w1 br za z.length zc 5) := q1
      clear q1 k1 T HCV
      generalize rs16 za zc 0 = ax at *
      generalize zc - 0 = ac at *
      go_wp2_with fail
      (try rw [hcm])
      refine (pmust18_f w1).mono ?_
      rintro e2 w2 ⟨rfl, hw2⟩
      subst w2
      exact ⟨rfl, heq18_no HNF.out HK1.out⟩
  · have HNF : Hid (¬ Hf18 z) := fun x => h5 x.1.1
    have T : Hid (Calls Tryz.prog 102 #[.pointer (some ⟨br, 0, none⟩), .int .i64 5] wA fun e w' => e = .panicked (pn18 182) ∧ Below wA.heap.size wA w') := ptk18_no br 5 za z.length zc 0 wA hrA (by omega) (by omega) (by omega)
    clear X h hz hzb hl hc ht hbr hrA
    go_enter Tryz.func67, Tryz.ntmps67
    go_wp2_with fail
    rw [HWA.out]
    refine T.out.mono ?_
    rintro e1 w1 ⟨rfl, b1⟩
    exact ⟨rfl, heq18_no HNF.out (HKA.out.bl b1)⟩
end Go.Proofs.YtmfpdchfofffeaaGreatDoor

namespace Go.Proofs.YtmfpdchfofffeaaGreatDoor
open Go.RowKit Go.Shelf
set_option linter.unusedVariables false
set_option linter.unusedSimpArgs false
theorem pcatch20 (a0 : Value) (w : World) :
    CallsD Tryz.prog 39 #[a0] .returning w fun e u' w' => e = .returned (.tuple #[]) ∧ u' = .returning ∧ w' = w := by
  refine callsD_of_wpS Tryz.func39 rfl fun c₀ cs hu => ?_
  apply wpS_seq
  apply wpS_region
  simp [wpOpsS, go_sem, recoverD, hu, Tryz.ntmps39, Exit.thenS]
  refine wpS_of_wp ?_
  go_wp2
  cases c₀
  simp_all [bodyPostS, results, Tryz.results39]
def fv20 (fs : List Nat) : Array Value := (fs.map fun f => Value.func (.func f) #[] #[]).toArray
theorem fv20_get {fs : List Nat} {i : Nat} (h : i < fs.length) : (fv20 fs)[i]? = some (.func (.func (fs.getD i 0)) #[] #[]) := by
  simp [fv20, h]
theorem results_c20 {P : Program} {fn : Func} {p : Tmp} {ty : TypeId} (h : fn.results = #[.cell p ty]) (tmps : Array Value) (w : World) (g : Nat) (v : Value)
    (hp : tmps.getD p undef = .pointer (some ⟨g, 0, none⟩)) (hl : (loadVar ty ⟨g, 0, none⟩).run P w = .ok v w) :
    (results fn tmps).run P w = .ok v w := by
  have e : (results fn tmps).run P w = ((asAddr (tmps.getD p undef)).run P w).andThen fun a w₁ => (loadVar ty a).run P w₁ := by
    simp only [results, h]
    simp [Sem.run_bind, Result.andThen]
  rw [e, hp]
  simp [asAddr, Result.andThen, hl]
set_option maxRecDepth 100000 in
set_option maxHeartbeats 4000000 in
theorem prun20 (b pa n pc : Nat) (fs : List Nat) (I : Nat → World → Prop) (w : World) (pt : TypeId) (hn : Hid (fs.length = n)) (hnb : n ≤ 100) (hpc : n ≤ pc) (hb : b < w.heap.size) (hpb : pa ≠ b)
    (hq : w.heap[pa]? = some (.cells (fv20 fs) pt (0, 0))) (hcf : Hid (∀ f ∈ fs, ∀ x W, (callFunc f x).run Tryz.prog W = .ok (.enter f x) W))
    (h0 : Hid (∀ V, Below w.heap.size w V → w.heap.size < V.heap.size → I 0 V))
    (hs : Hid (∀ i, i < n → ∀ V, I i V → Calls Tryz.prog (fs.getD i 0) #[.pointer (some ⟨b, 0, none⟩)] V fun e V' => e = .returned (.tuple #[]) ∧ I (i + 1) V' ∧ Kp (fun k => k = b) V V')) :
    Calls Tryz.prog 19 #[.pointer (some ⟨b, 0, none⟩), .slice (some ⟨pa, 0, none⟩) n pc] w fun e w' => e = .returned (.int .i64 0) ∧ ∃ V, I n V ∧ Kp (fun k => k = w.heap.size) V w' ∧ Kp (fun k => k = b) w w' ∧ w.heap.size < V.heap.size := by
  have hmf : ∀ (fn : Fn) (first cap : Array Value) (w : World), (Instr.makeFunc fn first cap).run Tryz.prog w = .ok (.func fn first cap) w := fun _ _ _ _ => rfl
  obtain ⟨w1, hw1⟩ : ∃ w1, w1 = w.alloc (.cells #[.int .i64 0] 22) := ⟨_, rfl⟩
  have c1 := cb16 w #[.int .i64 0] 22
  rw [← hw1] at c1
  obtain ⟨g, hg⟩ : ∃ g, g = w.heap.size := ⟨_, rfl⟩
  have HW : Hid (w.alloc (.cells #[.int .i64 0] 22) = w1 ∧ w.heap.size = g) := ⟨hw1.symm, hg.symm⟩
  have HC : Hid (Cb16 w #[.int .i64 0] 22 w1) := c1
  have HQ : Hid (∀ V, Kp (fun k => k = b) w1 V → V.heap[g]? = some (.cells #[.int .i64 0] 22 (0, 0)) ∧ ∀ i, i < n → V.cell? ⟨pa, i, none⟩ = some (.func (.func (fs.getD i 0)) #[] #[])) := fun V hV => by
    refine ⟨hV.heap (by rw [hg]; exact c1.cl) (fun x => by have x : g = b := x; omega), fun i hi => ?_⟩
    have q := hV.heap ((c1.bl.block _ (Array.getElem?_eq_some_iff.1 hq).1).trans hq) (fun x => hpb x)
    exact cell18 q (fv20_get (by rw [hn.out]; exact hi))
  have HB : Hid (b < g ∧ n ≤ 100 ∧ n ≤ pc) := ⟨by omega, hnb, hpc⟩
  clear hw1 c1 hg hb hpb hq hnb hpc
  go_enter_defers Tryz.func19, Tryz.ntmps19
  go_wp2_with fail
  rw [HW.out.1, HW.out.2]
  go_loopw [10] (fun t10 V => ∃ i : Nat, i ≤ n ∧ t10 = .int .i64 (i : Int) ∧ I i V ∧ Kp (fun k => k = b) w1 V) (fun t10 _ => n - (intOf t10).toNat)
  case atStart => exact ⟨0, Nat.zero_le _, rfl, h0.out _ HC.out.bl (by have := HC.out.sz; omega), Kp.refl _ _⟩
  case round =>
    obtain ⟨i, hi, rfl, hI, hK⟩ := hrel
    have HI : Hid (I i wr ∧ Kp (fun k => k = b) w1 wr) := ⟨hI, hK⟩
    clear hI hK
    by_cases hin : i < n
    · have hlt : (i : Int) < (n : Int) := by omega
      have hix : IntKind.i64.wrap ((i : Int) + 1) = (i : Int) + 1 := IntWalk.i64_in _ (by have := HB.out; omega)
      have c := (HQ.out wr HI.out.2).2 i hin
      have hcf1 : ∀ x W, (callFunc (fs.getD i 0) x).run Tryz.prog W = .ok (.enter (fs.getD i 0) x) W := hcf.out _ (by
        have := hn.out
        rw [List.getD_eq_getElem?_getD, List.getElem?_eq_getElem (by omega)]
        exact List.getElem_mem _)
      have CJ := hs.out i hin wr HI.out.1
      generalize fs.getD i 0 = f at *
      go_wp2_with fail
      refine CJ.mono ?_
      rintro e5 w5 ⟨rfl, i5, k5⟩
      have H5 : Hid (I (i + 1) w5 ∧ Kp (fun k => k = b) w1 w5) := ⟨i5, HI.out.2.trans k5 (fun _ _ x => x)⟩
      clear c CJ i5 k5
      go_wp2_with fail
      go_roundw
      case rel => exact ⟨i + 1, by omega, by first | rfl | simp, H5.out.1, H5.out.2⟩
      case measure => simp [intOf]; omega
    · have hge : ¬ (i : Int) < (n : Int) := by omega
      obtain rfl : i = n := by omega
      have q := (HQ.out wr HI.out.2).1
      have d0 : wr.cell? ⟨g, 0, none⟩ = some (.int .i64 0) := cell18 q rfl
      have f0 : wr.frozen? ⟨g, 0, none⟩ = false := by simp [World.frozen?, q]
      have HP : Hid ((∃ V, I i V ∧ Kp (fun k => k = w.heap.size) V (wr.setCell ⟨g, 0, none⟩ (.int .i64 0)) ∧ Kp (fun k => k = b) w (wr.setCell ⟨g, 0, none⟩ (.int .i64 0)) ∧ w.heap.size < V.heap.size) ∧ (wr.setCell ⟨g, 0, none⟩ (.int .i64 0)).heap[g]? = some (.cells #[.int .i64 0] 22 (0, 0))) := by
        have hgw := HW.out.2
        refine ⟨⟨wr, HI.out.1, Kp.set (S := fun k => k = w.heap.size) hgw.symm _, ?_, by have := HI.out.2.size; have := HC.out.sz; omega⟩, ?_⟩
        · have k1 : Kp (fun k => k = b ∨ w.heap.size ≤ k) w wr := (Kp.of_below (S := fun k => k = b ∨ w.heap.size ≤ k) HC.out.bl).trans HI.out.2 (fun _ _ x => .inl x)
          have k2 : Kp (fun k => k = b ∨ w.heap.size ≤ k) w (wr.setCell ⟨g, 0, none⟩ (.int .i64 0)) := k1.trans (Kp.set (S := fun k => k = g) rfl _) (fun _ _ x => .inr (by have x : _ = g := x; omega))
          exact ⟨k2.os, k2.tape, k2.output, k2.size, fun k hk hn => k2.block k hk (fun x => by rcases x with x | x; exact hn x; omega)⟩
        · simp [World.setCell, Array.getElem?_modify, q]
      clear q
      go_wp2_with fail
      obtain ⟨w9, hw9⟩ : ∃ w9, w9 = wr.setCell ⟨g, 0, none⟩ (.int .i64 0) := ⟨_, rfl⟩
      rw [← hw9]
      have hp := HP.out
      rw [← hw9] at hp
      have g2 : w9.cell? ⟨g, 0, none⟩ = some (.int .i64 0) := cell18 hp.2 rfl
      refine leaves_cons (f := 39) (args := #[.pointer (some ⟨g, 0, none⟩)]) (by simp) (by simp [go_sem]) ?_
      refine (pcatch20 _ _).mono ?_
      rintro e u' w'' ⟨rfl, rfl, rfl⟩
      refine ⟨.int .i64 0, ?_, ?_⟩
      · exact results_c20 rfl _ _ g _ rfl (by simp [loadVar, go_sem, g2, Tryz.underlying22])
      · exact ⟨rfl, hp.1⟩
end Go.Proofs.YtmfpdchfofffeaaGreatDoor

namespace Go.Proofs.YtmfpdchfofffeaaGreatDoor
open Go.RowKit Go.Shelf
set_option linter.unusedVariables false
structure Wt16 where
  S : List St16
  D : List Int
  X : List Int
  a : Nat
  c : Nat
  p : Int
def flat16 (l : List St16) : List Value := l.flatMap fun t => [.int .i64 t.1, .int .i64 t.2.1, .int .i64 t.2.2]
theorem flat16_app (l r : List St16) : flat16 (l ++ r) = flat16 l ++ flat16 r := by unfold flat16; rw [List.flatMap_append]
theorem info_st16 : (Tryz.prog.info? 108).map (fun i => (i.zero, i.size, i.bytes)) = some (some (.agg #[.int .i64 0, .int .i64 0, .int .i64 0]), 3, 24) := by kernel_rfl
theorem own_kp16 {w w' : World} {S : Nat → Prop} {base n sz : Nat} {e : TypeId} {v : Value} {xs : List Value} (h : w.ownsRow base e sz v n xs) (hb : Kp S w w') (hn : ∀ x, v.ownBlock = some x → ¬ S x) : w'.ownsRow base e sz v n xs := by
  refine ⟨h.1, ?_⟩
  rcases h.2 with h | ⟨g, cap, cur, h1, h2, h3, h4⟩
  · exact .inl h
  · exact .inr ⟨g, cap, cur, h1, h2, hb.heap h3 (hn g (by rw [h1]; rfl)), h4⟩
/-- A writer in memory: its block, its three rows apart from one another. -/
structure Wr16 (base bw : Nat) (vS vD vX : Value) (s : Wt16) (sk : Int) (w : World) : Prop where
  hp : w.heap[bw]? = some (.cells #[vS, vD, vX, .int .i64 (s.a : Int), .int .i64 (s.c : Int), .int .i64 sk, .int .i64 s.p] 508 (0, 0))
  oS : w.ownsRow base 108 3 vS s.S.length (flat16 s.S)
  oD : w.ownsRow base 5 1 vD s.D.length (s.D.map (Value.int .u8))
  oX : w.ownsRow base 5 1 vX s.X.length (s.X.map (Value.int .u8))
  nS : vS.ownBlock ≠ some bw
  nD : vD.ownBlock ≠ some bw
  nX : vX.ownBlock ≠ some bw
  sd : ∀ g, vS.ownBlock = some g → vD.ownBlock ≠ some g
  sx : ∀ g, vS.ownBlock = some g → vX.ownBlock ≠ some g
  dx : ∀ g, vD.ownBlock = some g → vX.ownBlock ≠ some g
  bb : base ≤ bw
/-- The writer's own blocks. -/
def Wf16 (bw : Nat) (vS vD vX : Value) : Nat → Prop := fun k => k = bw ∨ vS.ownBlock = some k ∨ vD.ownBlock = some k ∨ vX.ownBlock = some k
theorem Wr16.kp {base bw : Nat} {vS vD vX : Value} {s : Wt16} {sk : Int} {w w' : World} {E : Nat → Prop} (h : Wr16 base bw vS vD vX s sk w) (hk : Kp E w w') (hE : ∀ k, Wf16 bw vS vD vX k → ¬ E k) : Wr16 base bw vS vD vX s sk w' :=
  ⟨hk.heap h.hp (hE bw (.inl rfl)), own_kp16 h.oS hk (fun x e => hE x (.inr (.inl e))), own_kp h.oD hk (fun x e => hE x (.inr (.inr (.inl e)))), own_kp h.oX hk (fun x e => hE x (.inr (.inr (.inr e)))), h.nS, h.nD, h.nX, h.sd, h.sx, h.dx, h.bb⟩
theorem Wr16.lt {base bw : Nat} {vS vD vX : Value} {s : Wt16} {sk : Int} {w : World} (h : Wr16 base bw vS vD vX s sk w) : ∀ k, Wf16 bw vS vD vX k → base ≤ k ∧ k < w.heap.size := by
  rintro k (rfl | e | e | e)
  · exact ⟨h.bb, (Array.getElem?_eq_some_iff.1 h.hp).1⟩
  · exact h.oS.lt k e
  · exact h.oD.lt k e
  · exact h.oX.lt k e
/-- Step appended: the run. -/
theorem apps16 (V : World) {base : Nat} {v : Value} {n : Nat} {xs : List Value} (y : St16) (hown : V.ownsRow base 108 3 v n xs) (hn : n + 1 ≤ 1099511627776) (hbase : base ≤ V.heap.size) :
    ∃ g rc w', (Builtin.append_ #[46, 46] 46 #[v, .slice (some ⟨V.heap.size, 0, none⟩) 1 1]).run Tryz.prog (V.alloc (.cells #[.int .i64 y.1, .int .i64 y.2.1, .int .i64 y.2.2] 108)) = .ok (.slice (some ⟨g, 0, none⟩) (n + 1) rc) w' ∧
      w'.ownsRow base 108 3 (.slice (some ⟨g, 0, none⟩) (n + 1) rc) (n + 1) (xs ++ [.int .i64 y.1, .int .i64 y.2.1, .int .i64 y.2.2]) ∧ Kp (fun k => v.ownBlock = some k) V w' ∧ (v.ownBlock = some g ∨ V.heap.size ≤ g) := by
  obtain ⟨i0, hi, hz0, hz1, hz2⟩ := info_parts info_st16
  obtain ⟨g, rc, w', hr, h1, h2, h3, h4⟩ := run_append_lies (P := Tryz.prog) (V.alloc (.cells #[.int .i64 y.1, .int .i64 y.2.1, .int .i64 y.2.2] 108)) 46 46 base 108 i0 _ 3 24 Tryz.underlying46 hi hz0 hz1 hz2 rfl (by omega) v n xs (hown.alloc _) ⟨V.heap.size, 0, none⟩ 1 1 [.int .i64 y.1, .int .i64 y.2.1, .int .i64 y.2.2] rfl
    (World.news_of_block (heap_alloc_new V (.cells #[.int .i64 y.1, .int .i64 y.2.1, .int .i64 y.2.2] 108 (0, 0)))) (by intro u hu; simp at hu; rcases hu with rfl | rfl | rfl <;> rfl) (by omega) (by unfold maxLen; omega) (by omega) (by simp; omega) (V.heap.size + 1) (by simp)
  refine ⟨g, rc, w', hr, h1, (Kp.alloc V _).trans (Kp.grown (S := fun k => v.ownBlock = some k) h2 (fun i e => e)) (fun _ _ e => e), ?_⟩
  rcases h3 with h | h
  · exact .inl h
  · exact .inr (by omega)
theorem appb16 (V : World) {base : Nat} {v : Value} {n : Nat} {xs : List Value} (y : Int) (hown : V.ownsRow base 5 1 v n xs) (hn : n + 1 ≤ 1099511627776) (hbase : base ≤ V.heap.size) :
    ∃ g rc w', (Builtin.append_ #[36, 36] 36 #[v, .slice (some ⟨V.heap.size, 0, none⟩) 1 1]).run Tryz.prog (V.alloc (.cells #[.int .u8 y] 5)) = .ok (.slice (some ⟨g, 0, none⟩) (n + 1) rc) w' ∧
      w'.ownsRow base 5 1 (.slice (some ⟨g, 0, none⟩) (n + 1) rc) (n + 1) (xs ++ [.int .u8 y]) ∧ Kp (fun k => v.ownBlock = some k) V w' ∧ (v.ownBlock = some g ∨ V.heap.size ≤ g) := by
  obtain ⟨i0, hi, hz0, hz1, hz2⟩ := info_parts info_u16
  obtain ⟨g, rc, w', hr, h1, h2, h3, h4⟩ := run_append_lies (P := Tryz.prog) (V.alloc (.cells #[.int .u8 y] 5)) 36 36 base 5 i0 _ 1 1 Tryz.underlying36 hi hz0 hz1 hz2 rfl (by omega) v n xs (hown.alloc _) ⟨V.heap.size, 0, none⟩ 1 1 [.int .u8 y] rfl
    (World.news_of_block (heap_alloc_new V (.cells #[.int .u8 y] 5 (0, 0)))) (by intro u hu; simp at hu; subst hu; rfl) (by omega) (by unfold maxLen; omega) (by omega) (by simp; omega) (V.heap.size + 1) (by simp)
  refine ⟨g, rc, w', hr, h1, (Kp.alloc V _).trans (Kp.grown (S := fun k => v.ownBlock = some k) h2 (fun i e => e)) (fun _ _ e => e), ?_⟩
  rcases h3 with h | h
  · exact .inl h
  · exact .inr (by omega)
variable {base bw : Nat} {vS vD vX : Value} {s : Wt16} {w : World}
end Go.Proofs.YtmfpdchfofffeaaGreatDoor
