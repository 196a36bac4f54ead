import Derived.Test.YtmjlpfmacblcpaaDoorPh
import Derived.Test.YtmjlpfmacblcpaaDoorPf
import Derived.Test.YtmjlpfmacblcpaaDoorPo
import Derived.Deep.CutRange
import Derived.Test.YtmjlpfmacblcpaaDoorPn
import Derived.Test.YtmjlpfmacblcpaaDoorPm
import Derived.Test.YtmjlpfmacblcpaaDoorPl
import Derived.Lib.SlBytesConst
namespace Go.Proofs.YtmjlpfmacblcpaaDoor
open Go.RowKit Go.Shelf
set_option linter.unusedVariables false
set_option linter.unusedSimpArgs false
theorem slice_hi25 (x : Addr) (n k m : Nat) (hnk : n ≤ k) (hm : m ≤ k) (W : World) : (Instr.slice 22 (.slice (some x) n k) none (some (.int .i64 (m : Int))) none).run Tryd.prog W = .ok (.slice (some x) m k) W := by
  have h1 : (m : Int) ≤ (k : Int) := by omega
  have h0 : (0 : Int) ≤ (m : Int) := by omega
  go_simp
theorem slice_lh25 (x : Addr) (n k m h : Nat) (hnk : n ≤ k) (hm : m ≤ h) (hh : h ≤ n) (hmk : m < k) (W : World) : (Instr.slice 22 (.slice (some x) n k) (some (.int .i64 (m : Int))) (some (.int .i64 (h : Int))) none).run Tryd.prog W = .ok (.slice (some (x.add m)) (h - m) (k - m)) W := by
  have h1 : (m : Int) ≤ (h : Int) := by omega
  have h2 : (h : Int) ≤ (k : Int) := by omega
  have h0 : (0 : Int) ≤ (m : Int) := by omega
  have h3 : (0 : Int) ≤ (h : Int) := by omega
  have h4 : (m : Int) ≤ (k : Int) := by omega
  have hkm' : ¬ ((k : Int) = (m : Int)) := by omega
  have hkm : ¬ (k = m) := by omega
  go_simp
theorem Ku25.of_kp {ob : Nat} {a b : World} (h : Kp (fun k => k = ob) a b) : Ku25 ob a b := ⟨h.size, fun j cs t fr hj h1 _ => h.block j (Array.getElem?_eq_some_iff.1 hj).1 h1⟩
/-- What holds at the head of Decode's loop. -/
def Hd25 (w1 : World) (rb ob M g o cp : Nat) (zs : List Int) (pf : Option Addr) (cf : Nat) (xs : List Value) (t38 : Value) (V : World) : Prop :=
  ∃ i : Nat, i ≤ 10 ∧ t38 = .int .i64 (i : Int) ∧ V.heap[ob]? = some (.cells #[.slice (some ⟨g, o + fo25 i, none⟩) (39 - fo25 i) (cp - fo25 i)] 22 (0, 0)) ∧ V.heap[rb]? = some (.cells (rs25 zs i) 63 (0, 0)) ∧ V.ownsRow M 151 1 (.slice pf 10 cf) 10 xs ∧ Fs25 V M rb 10 xs ∧ Below w1.heap.size w1 V
theorem bytes_eq25 {xs : List Int} (h : ∀ z ∈ xs, 0 ≤ z ∧ z ≤ 255) : ((strOfNums xs).toList == ([98, 116, 48, 49] : List UInt8)) = decide (xs = mg25) := by
  have e := str_injS h (ys := mg25) (by intro z hz; simp [mg25] at hz; omega)
  have e2 : (strOfNums mg25).toList = ([98, 116, 48, 49] : List UInt8) := by first | rfl | decide | simp [strOfNums, mg25]
  rw [e2] at e
  rw [e, Bool.eq_iff_iff]
  simp
set_option maxRecDepth 100000 in
set_option maxHeartbeats 8000000 in
theorem pdecode25 (a : Option Addr) (zs : List Int) (n cp : Nat) (w : World) (ht : Tab w) (hs : Seg w a zs) (hn : n = zs.length) (hcp : n ≤ cp) (hl : n ≤ 140737488355328) : Calls Tryd.prog 30 #[.slice a n cp] w fun e w' => e = .returned (.tuple #[.agg (de25 zs).1.cs, .int .i64 (de25 zs).2]) ∧ Below w.heap.size w w' := by
  have HDE : Hid (de25 zs = if tk25 zs then (cd25 (dr25 zs), ck25 (dr25 zs)) else (zr25, 250)) := rfl
  obtain ⟨R, hR⟩ : ∃ R, R = de25 zs := ⟨_, rfl⟩
  rw [← hR] at HDE ⊢
  clear hR
  obtain ⟨N, hN⟩ : ∃ N, N = w.heap.size := ⟨_, rfl⟩
  have HN : Hid (N = w.heap.size) := hN
  obtain ⟨w1, hw1⟩ : ∃ v, v = w.alloc (.cells #[.int .i64 0, .int .i64 0, .int .i64 0, .int .i64 0, .int .u32 0, .int .i64 0, .int .i64 0, .int .i64 0, .int .u32 0, .int .i64 0] 63) := ⟨_, rfl⟩
  have HW1 : Hid (w.alloc (.cells #[.int .i64 0, .int .i64 0, .int .i64 0, .int .i64 0, .int .u32 0, .int .i64 0, .int .i64 0, .int .i64 0, .int .u32 0, .int .i64 0] 63) = w1) := hw1.symm
  have b1 : Below w.heap.size w w1 := by rw [hw1]; exact (Below.refl _ _).alloc (Nat.le_refl _) _
  have q1 : w1.heap[N]? = some (.cells #[.int .i64 0, .int .i64 0, .int .i64 0, .int .i64 0, .int .u32 0, .int .i64 0, .int .i64 0, .int .i64 0, .int .u32 0, .int .i64 0] 63 (0, 0)) := by rw [hw1, hN]; exact heap_alloc_new _ _
  have z1 : w1.heap.size = N + 1 := by rw [hw1, hN]; simp
  rw [← hN] at b1
  have H1 : Hid (w1.heap[N]? = some (.cells #[.int .i64 0, .int .i64 0, .int .i64 0, .int .i64 0, .int .u32 0, .int .i64 0, .int .i64 0, .int .i64 0, .int .u32 0, .int .i64 0] 63 (0, 0)) ∧ Below N w w1 ∧ Seg w1 a zs ∧ Tab w1 ∧ w1.heap.size = N + 1) := ⟨q1, b1, hs.old (by rw [← hN]; exact b1), ht.old (by rw [← hN]; exact b1), z1⟩
  have HL : Hid (n = zs.length ∧ n ≤ cp ∧ n ≤ 140737488355328) := ⟨hn, hcp, hl⟩
  clear hw1 b1 q1 ht hs hn z1
  by_cases hlt : n < 43
  · have hr : R = (zr25, 250) := by rw [HDE.out, if_neg (fun h => by have h1 := h.1; have h2 := HL.out.1; omega)]
    subst hr
    clear HDE
    have hli : (n : Int) < 43 := by omega
    go_enter Tryd.func30, Tryd.ntmps30
    go_upto_region 1 with fail
    rw [HW1.out, ← hN]
    clear hN
    go_wp2_with (refine wpList_store_row rfl 63 (.tmp 2) (.tmp 19) rfl N #[.int .i64 0, .int .i64 0, .int .i64 0, .int .i64 0, .int .u32 0, .int .i64 0, .int .i64 0, .int .i64 0, .int .u32 0, .int .i64 0] rfl rfl _ _ H1.out.1 info_rc25 rfl (row_rc25 zr25) ?_)
    refine bodyPost_ret (v := .tuple #[.agg #[.int .i64 0, .int .i64 0, .int .i64 0, .int .i64 0, .int .u32 0, .int .i64 0, .int .i64 0, .int .i64 0, .int .u32 0, .int .i64 0], .int .i64 250]) (results_ct25 (fn := Tryd.f30) (p := 2) (u := 3) (ty := 63) rfl _ _ N _ #[.int .i64 0, .int .i64 0, .int .i64 0, .int .i64 0, .int .u32 0, .int .i64 0, .int .i64 0, .int .i64 0, .int .u32 0, .int .i64 0] _ _ rfl (set_row25 H1.out.1) Tryd.underlying63 rfl info_rc25) rfl ?_
    exact ⟨rfl, by have := below_row25 (w := w) (by rw [← HN.out]; exact H1.out.2.1) (Nat.le_of_eq HN.out.symm) #[.int .i64 0, .int .i64 0, .int .i64 0, .int .i64 0, .int .u32 0, .int .i64 0, .int .i64 0, .int .i64 0, .int .u32 0, .int .i64 0]; rw [← HN.out] at this ⊢; exact this⟩
  have hnl : ¬ (n : Int) < 43 := by omega
  obtain ⟨g, o, rfl, -⟩ := H1.out.2.2.1.at_ 0 (by have := HL.out.1; omega)
  have sg := H1.out.2.2.1
  have hcv := run_conv_segS (P := Tryd.prog) cp (sg.take 4) 22 5 9 Tryd.underlying22 Tryd.underlying5 Tryd.underlying9
  have hl4 : (zs.take 4).length = 4 := by rw [List.length_take]; have := HL.out.1; omega
  have hbd := sg.mem
  have h4 : ∀ z ∈ zs.take 4, 0 ≤ z ∧ z ≤ 255 := fun z hz => hbd z (List.mem_of_mem_take hz)
  have hbe := bytes_eq25 h4
  rw [hl4] at hcv
  have SH := slice_hi25 ⟨g, o, none⟩ n cp 4 hcp (by omega)
  have UF := unfix_any (some ⟨g, o + 39, none⟩) (zs.drop 39) (cp - 39) 4 w1 (sg.drop 39) (by rw [List.length_drop, ← HL.out.1]; omega) (by rw [List.length_drop, ← HL.out.1]; omega)
  have hE : unfE (zs.drop 39) 4 = 0 := by unfold unfE; rw [if_pos (by omega), if_neg (by rw [List.length_drop, ← HL.out.1]; simp; omega)]
  have hV : unfV (zs.drop 39) 4 = unfL ((zs.drop 39).take 4) := by unfold unfV; rw [if_pos hE]; rfl
  rw [hE, hV, List.length_drop, ← HL.out.1] at UF
  have SL := slice_lo25 ⟨g, o, none⟩ n cp 39 hcp (by omega) (by omega)
  rw [add25] at SL
  have SH2 := slice_hi25 ⟨g, o, none⟩ n cp 39 hcp (by omega)
  have hl39 : (zs.take 39).length = 39 := by rw [List.length_take]; have := HL.out.1; omega
  have SUM := sum_one w1 w1.heap.size 39 (some ⟨g, o, none⟩) (zs.take 39) cp 1 22 H1.out.2.2.2.1 (sg.take 39) rfl hl39.symm (by omega)
  have b0 := wI_bd21 (sumW (zs.take 39))
  have hw64 : IntKind.u64.wrap (wI (sumW (zs.take 39))) = wI (sumW (zs.take 39)) := IntWalk.u64_in _ (by omega)
  have HTK : Hid (tk25 zs ↔ zs.take 4 = mg25 ∧ unfL ((zs.drop 39).take 4) = wI (sumW (zs.take 39))) := by
    show _
    unfold tk25
    exact ⟨fun h => h.2, fun h => ⟨by have := HL.out.1; omega, h⟩⟩
  by_cases hmg : zs.take 4 = mg25
  rotate_left
  · have hr : R = (zr25, 250) := by rw [HDE.out, if_neg (fun h => hmg (HTK.out.1 h).1)]
    subst hr
    rw [decide_eq_false hmg] at hbe
    clear HDE UF hE hV SL SH2 SUM hw64 b0 HTK hmg hl4 h4 hbd sg hl39
    go_enter Tryd.func30, Tryd.ntmps30
    go_upto_region 1 with fail
    rw [HW1.out, ← hN]
    clear hN
    go_wp2_with (refine wpList_store_row rfl 63 (.tmp 2) (.tmp 19) rfl N #[.int .i64 0, .int .i64 0, .int .i64 0, .int .i64 0, .int .u32 0, .int .i64 0, .int .i64 0, .int .i64 0, .int .u32 0, .int .i64 0] rfl rfl _ _ H1.out.1 info_rc25 rfl (row_rc25 zr25) ?_)
    refine bodyPost_ret (v := .tuple #[.agg #[.int .i64 0, .int .i64 0, .int .i64 0, .int .i64 0, .int .u32 0, .int .i64 0, .int .i64 0, .int .i64 0, .int .u32 0, .int .i64 0], .int .i64 250]) (results_ct25 (fn := Tryd.f30) (p := 2) (u := 3) (ty := 63) rfl _ _ N _ #[.int .i64 0, .int .i64 0, .int .i64 0, .int .i64 0, .int .u32 0, .int .i64 0, .int .i64 0, .int .i64 0, .int .u32 0, .int .i64 0] _ _ rfl (set_row25 H1.out.1) Tryd.underlying63 rfl info_rc25) rfl ?_
    exact ⟨rfl, by have := below_row25 (w := w) (by rw [← HN.out]; exact H1.out.2.1) (Nat.le_of_eq HN.out.symm) #[.int .i64 0, .int .i64 0, .int .i64 0, .int .i64 0, .int .u32 0, .int .i64 0, .int .i64 0, .int .i64 0, .int .u32 0, .int .i64 0]; rw [← HN.out] at this ⊢; exact this⟩
  rw [decide_eq_true hmg] at hbe
  by_cases hsu : unfL ((zs.drop 39).take 4) = wI (sumW (zs.take 39))
  rotate_left
  · have hr : R = (zr25, 250) := by rw [HDE.out, if_neg (fun h => hsu (HTK.out.1 h).2)]
    subst hr
    have hne : (unfL ((zs.drop 39).take 4) != wI (sumW (zs.take 39))) = true := by simp [hsu]
    clear HDE hE hV b0 HTK hl4 h4 hbd sg hl39 hsu hmg
    generalize unfL ((zs.drop 39).take 4) = uu at *
    generalize wI (sumW (zs.take 39)) = sv at *
    have HA : Hid (Below w1.heap.size w1 (w1.alloc (.cells #[.slice (some ⟨g, o, none⟩) 39 cp] 22)) ∧ (w1.alloc (.cells #[.slice (some ⟨g, o, none⟩) 39 cp] 22)).heap[N]? = some (.cells #[.int .i64 0, .int .i64 0, .int .i64 0, .int .i64 0, .int .u32 0, .int .i64 0, .int .i64 0, .int .i64 0, .int .u32 0, .int .i64 0] 63 (0, 0))) := ⟨(Below.refl _ _).alloc (Nat.le_refl _) _, by rw [heap_alloc_old _ _ (by have := H1.out.2.2.2.2; omega)]; exact H1.out.1⟩
    go_enter Tryd.func30, Tryd.ntmps30
    go_upto_region 1 with fail
    rw [HW1.out, ← hN]
    clear hN
    go_wp2_with fail
    refine UF.mono ?_
    rintro e2 w2 ⟨rfl, hw2⟩
    subst hw2
    go_wp2_with fail
    refine SUM.mono ?_
    rintro e3 w3 ⟨rfl, hw3⟩
    subst hw3
    go_wp2_with (refine wpList_store_row rfl 63 (.tmp 2) (.tmp 33) rfl N #[.int .i64 0, .int .i64 0, .int .i64 0, .int .i64 0, .int .u32 0, .int .i64 0, .int .i64 0, .int .i64 0, .int .u32 0, .int .i64 0] rfl rfl _ _ HA.out.2 info_rc25 rfl (row_rc25 zr25) ?_)
    refine bodyPost_ret (v := .tuple #[.agg #[.int .i64 0, .int .i64 0, .int .i64 0, .int .i64 0, .int .u32 0, .int .i64 0, .int .i64 0, .int .i64 0, .int .u32 0, .int .i64 0], .int .i64 250]) (results_ct25 (fn := Tryd.f30) (p := 2) (u := 3) (ty := 63) rfl _ _ N _ #[.int .i64 0, .int .i64 0, .int .i64 0, .int .i64 0, .int .u32 0, .int .i64 0, .int .i64 0, .int .i64 0, .int .u32 0, .int .i64 0] _ _ rfl (set_row25 HA.out.2) Tryd.underlying63 rfl info_rc25) rfl ?_
    exact ⟨rfl, by have := below_row25 (w := w) (by rw [← HN.out]; exact H1.out.2.1.trans (HA.out.1.mono (by have := H1.out.2.2.2.2; omega))) (Nat.le_of_eq HN.out.symm) #[.int .i64 0, .int .i64 0, .int .i64 0, .int .i64 0, .int .u32 0, .int .i64 0, .int .i64 0, .int .i64 0, .int .u32 0, .int .i64 0]; rw [← HN.out] at this ⊢; exact this⟩
  have hr : R = (cd25 (dr25 zs), ck25 (dr25 zs)) := by rw [HDE.out, if_pos (HTK.out.2 ⟨hmg, hsu⟩)]
  subst hr
  have SLH := slice_lh25 ⟨g, o, none⟩ n cp 4 39 hcp (by omega) (by omega) (by omega)
  rw [add25] at SLH
  simp only [Nat.reduceSub] at SLH
  have heq : (unfL ((zs.drop 39).take 4) != wI (sumW (zs.take 39))) = false := by simp [hsu]
  clear HDE hE hV HTK hl4 h4 hbd hl39 hsu hmg b0
  generalize unfL ((zs.drop 39).take 4) = uu at *
  generalize wI (sumW (zs.take 39)) = sv at *
  obtain ⟨w5, hw5⟩ : ∃ v, v = ((w1.alloc (.cells #[.slice (some ⟨g, o, none⟩) 39 cp] 22)).alloc (.cells #[.int .i64 0, .int .i64 0, .int .i64 0, .int .i64 0, .int .u32 0, .int .i64 0, .int .i64 0, .int .i64 0, .int .u32 0, .int .i64 0] 63)).alloc (.cells #[.slice (some ⟨g, o + 4, none⟩) 35 (cp - 4)] 22) := ⟨_, rfl⟩
  have HW5 : Hid (((w1.alloc (.cells #[.slice (some ⟨g, o, none⟩) 39 cp] 22)).alloc (.cells #[.int .i64 0, .int .i64 0, .int .i64 0, .int .i64 0, .int .u32 0, .int .i64 0, .int .i64 0, .int .i64 0, .int .u32 0, .int .i64 0] 63)).alloc (.cells #[.slice (some ⟨g, o + 4, none⟩) 35 (cp - 4)] 22) = w5) := hw5.symm
  have b5 : Below w1.heap.size w1 w5 := by rw [hw5]; exact (((Below.refl _ _).alloc (Nat.le_refl _) _).alloc (by simp) _).alloc (by simp <;> omega) _
  have s5 : w5.heap.size = w1.heap.size + 3 := by rw [hw5]; simp
  have r5 : w5.heap[w1.heap.size + 1]? = some (.cells #[.int .i64 0, .int .i64 0, .int .i64 0, .int .i64 0, .int .u32 0, .int .i64 0, .int .i64 0, .int .i64 0, .int .u32 0, .int .i64 0] 63 (0, 0)) := by rw [hw5, heap_alloc_old _ _ (by simp)]; exact heap_alloc2_new _ _ _
  have o5 : w5.heap[w1.heap.size + 2]? = some (.cells #[.slice (some ⟨g, o + 4, none⟩) 35 (cp - 4)] 22 (0, 0)) := by rw [hw5]; exact heap_alloc3_25 _ _ _ _
  obtain ⟨rb, hrbd⟩ : ∃ b, b = w1.heap.size + 1 := ⟨_, rfl⟩
  obtain ⟨ob, hobd⟩ : ∃ b, b = w1.heap.size + 2 := ⟨_, rfl⟩
  have HRO : Hid (rb = w1.heap.size + 1 ∧ ob = w1.heap.size + 2 ∧ w5.heap.size = w1.heap.size + 3) := ⟨hrbd, hobd, s5⟩
  rw [← hrbd] at r5
  rw [← hobd] at o5
  have HRB1 : Hid (rb + 1 = ob) := by show rb + 1 = ob; have := HRO.out; omega
  have H5 : Hid (w5.heap[rb]? = some (.cells #[.int .i64 0, .int .i64 0, .int .i64 0, .int .i64 0, .int .u32 0, .int .i64 0, .int .i64 0, .int .i64 0, .int .u32 0, .int .i64 0] 63 (0, 0)) ∧ w5.heap[ob]? = some (.cells #[.slice (some ⟨g, o + 4, none⟩) 35 (cp - 4)] 22 (0, 0)) ∧ Below w1.heap.size w1 w5) := ⟨r5, o5, b5⟩
  clear hw5 b5 s5 r5 o5 hrbd hobd
  have HSG : Hid (Seg w1 (some ⟨g, o, none⟩) zs ∧ 43 ≤ zs.length ∧ zs.length ≤ cp ∧ zs.length ≤ 140737488355328) := ⟨sg, by have := HL.out.1; omega, by have := HL.out; omega, by have := HL.out; omega⟩
  have HP2 : Hid (∀ W, Calls Tryd.prog 81 #[.agg (dr25 zs).cs] W fun e w' => e = .returned (.tuple #[.agg (cd25 (dr25 zs)).cs, .int .i64 (ck25 (dr25 zs))]) ∧ Below W.heap.size W w') := fun W => pchk25 (dr25 zs) W
  simp only
  generalize cd25 (dr25 zs) = D at *
  generalize ck25 (dr25 zs) = E at *
  clear sg
  go_enter Tryd.func30, Tryd.ntmps30
  go_upto_region 1 with fail
  rw [HW1.out, ← hN]
  clear hN
  go_wp2_with fail
  refine UF.mono ?_
  rintro e2 w2 ⟨rfl, hw2⟩
  rw [hw2]
  clear hw2
  go_wp2_with fail
  refine SUM.mono ?_
  rintro e3 w3 ⟨rfl, hw3⟩
  rw [hw3]
  clear hw3
  go_wp2_with fail
  rw [HW5.out, ← HRO.out.1, HRB1.out]
  have hcfI : ∀ z W, (callFunc 80 z).run Tryd.prog W = .ok (.enter 80 z) W := by intro z W; kernel_rfl
  have HCF : Hid (∀ z W, (callFunc 80 z).run Tryd.prog W = .ok (.enter 80 z) W) := hcfI
  clear hcfI UF SUM SLH SH SH2 SL hcv hbe heq hw64 hnl hlt
  refine (pfields25 rb w5).mono ?_
  rintro e4 w4 ⟨pf, cf, xs, rfl, of, Ff, b4⟩
  have H4 : Hid (Hd25 w1 rb ob w5.heap.size g o cp zs pf cf xs (.int .i64 0) w4) := ⟨0, by omega, rfl, (b4.block _ (Array.getElem?_eq_some_iff.1 H5.out.2.1).1).trans H5.out.2.1, (b4.block _ (Array.getElem?_eq_some_iff.1 H5.out.1).1).trans H5.out.1, of, Ff, H5.out.2.2.trans (b4.mono H5.out.2.2.size)⟩
  obtain ⟨M, hMd⟩ : ∃ M, M = w5.heap.size := ⟨_, rfl⟩
  have HM : Hid (rb < M ∧ ob < M ∧ rb ≠ ob ∧ w1.heap.size ≤ rb ∧ w1.heap.size ≤ ob ∧ N < w1.heap.size) := by have h := HRO.out; have h1 := H1.out.2.2.2.2; exact ⟨by omega, by omega, by omega, by omega, by omega, by omega⟩
  rw [← hMd] at H4
  clear of Ff b4 hMd H5 HRO HW5
  have hmf : ∀ (fn : Fn) (first cap : Array Value) (w : World), (Instr.makeFunc fn first cap).run Tryd.prog w = .ok (.func fn first cap) w := fun _ _ _ _ => rfl
  go_wp2_with fail
  go_loopw [38] (fun t38 V => Hd25 w1 rb ob M g o cp zs pf cf xs t38 V) (fun t38 _ => 10 - (intOf t38).toNat)
  case atStart => exact H4.out
  case round =>
    obtain ⟨i, hi, rfl, hO, hrb, hof, hFs, hBl⟩ := hrel
    by_cases hlt : i < 10
    · obtain ⟨a, s, hx, hf⟩ := hFs.2 i hlt
      obtain ⟨gf, rfl, hc⟩ := own_cell25 hof hlt hx
      have hne : a ≠ ob ∧ s ≠ ob ∧ rb ≠ ob := by have h1 := hf.la; have h2 := hf.ls; have h3 := HM.out; exact ⟨by omega, by omega, h3.2.2.1⟩
      have nx := fo25_next i hlt
      have hil : (i : Int) < 10 := by omega
      have hiw : IntKind.i64.wrap ((i : Int) + 1) = ((i + 1 : Nat) : Int) := by rw [IntWalk.i64_in _ (by omega)]; omega
      have hpen : Calls Tryd.prog 80 #[.int .u64 0, .int .i64 (fz25 i), .pointer (some ⟨ob, 0, none⟩)] wr.drew fun e W' => e = .returned (.int .u64 (unfL ((zs.drop (fo25 i)).take (fz25 i).toNat))) ∧ (W'.heap[ob]? = some (.cells #[.slice (some ⟨g, o + (fo25 i + (fz25 i).toNat), none⟩) (39 - (fo25 i + (fz25 i).toNat)) (cp - (fo25 i + (fz25 i).toNat))] 22 (0, 0)) ∧ Kp (fun k => k = ob) wr.drew W') ∧ Ku25 ob wr.drew W' :=
        (pdec125 (w := wr.drew) (ob := ob) (g := g) (o := o) (cp := cp) (d := fo25 i) (s := (fz25 i).toNat) (zs := zs) (HSG.out.1.old hBl).drew HSG.out.2.1 HSG.out.2.2.1 HSG.out.2.2.2 hO nx.2.2.2.2 nx.2.2.1 nx.2.2.2.1 nx.2.1).mono (fun e W' h => ⟨h.1, ⟨h.2.1, h.2.2⟩, Ku25.of_kp h.2.2⟩)
      have hvc := rs25_get zs i hlt
      have hdv : dv25 zs i = (fk25 i).wrap (unfL ((zs.drop (fo25 i)).take (fz25 i).toNat)) := rfl
      have hrs : rs25 zs (i + 1) = (rs25 zs i).setIfInBounds i (.int (fk25 i) (dv25 zs i)) := rfl
      rw [hdv] at hrs
      have HH : Hid (wr.heap[ob]? = some (.cells #[.slice (some ⟨g, o + fo25 i, none⟩) (39 - fo25 i) (cp - fo25 i)] 22 (0, 0)) ∧ wr.heap[rb]? = some (.cells (rs25 zs i) 63 (0, 0)) ∧ wr.ownsRow M 151 1 (.slice (some ⟨gf, 0, none⟩) 10 cf) 10 xs ∧ Fs25 wr M rb 10 xs ∧ Below w1.heap.size w1 wr) := ⟨hO, hrb, hof, hFs, hBl⟩
      have HLT : Hid (i < 10) := hlt
      have HFO : Hid (fo25 (i + 1) = fo25 i + (fz25 i).toNat ∧ True) := ⟨nx.1, trivial⟩
      generalize unfL ((zs.drop (fo25 i)).take (fz25 i).toNat) = yy at *
      clear hO hof hFs hBl hx hlt hi H4 nx hdv
      by_cases hu : fu25 i = true
      · have e1 : fv25 i a s = .func (.func 126) #[] #[.pointer (some ⟨a, 0, none⟩), .pointer (some ⟨s, 0, none⟩)] := by unfold fv25 ffn25; rw [hu]; rfl
        have e2 : fk25 i = .u32 := by unfold fk25; rw [hu]; rfl
        rw [e1] at hc
        rw [e2] at hvc hrs
        have PP := pfld25u (PF := 80) (y := yy) hf hu hrb hvc (v := 0) (by decide) rfl HCF.out hpen hne.1 hne.2.1 hne.2.2
        have HSS : Hid ((rs25 zs i).setIfInBounds i (.int .u32 (IntKind.u32.wrap yy)) = rs25 zs (i + 1)) := hrs.symm
        have HNE : Hid (a ≠ ob ∧ s ≠ ob ∧ rb ≠ ob) := hne
        clear hf hvc hpen hne e1 e2 hrb hu hrs
        go_wp2_with fail
        refine PP.mono ?_
        rintro e4 w4 ⟨rfl, W', ⟨hO', hKp'⟩, hK', hW'⟩
        have hrb' : W'.heap[rb]? = some (.cells (rs25 zs i) 63 (0, 0)) := (hK'.2 _ _ _ _ HH.out.2.1 HNE.out.2.2 (by decide)).trans HH.out.2.1
        rw [HSS.out] at hW'
        have KU : Ku25 ob wr W' := hK'
        have kr := kp_row25 W' rb (rs25 zs (i + 1))
        have KR : ∀ {N k a s : Nat}, Fb25 W' N rb k a s → Fb25 (W'.setRow rb (rs25 zs (i + 1))) N rb k a s := fun f => f.kp kr (fun e => by have h := f.ha; rw [e, hrb'] at h; injection h with h; injection h with _ h _; unfold fpt25 at h; split at h <;> exact absurd h (by decide)) (fun e => by have h := f.hs; rw [e, hrb'] at h; injection h with h; injection h with _ h _; exact absurd h (by decide))
        have H4 : Hid (Hd25 w1 rb ob M g o cp zs (some ⟨gf, 0, none⟩) cf xs (.int .i64 ((i + 1 : Nat) : Int)) w4) := by
          rw [hW']
          refine ⟨i + 1, HLT.out, rfl, ?_, set_row25 hrb', ?_, ?_, ?_⟩
          · rw [old_row25 _ (fun e => HNE.out.2.2 e.symm), HFO.out.1]; exact hO'
          · exact own_kp21 (own_ku25 HH.out.2.2.1 KU HH.out.1) (fun k e => old_row25 _ (fun x => by subst x; exact absurd (own_ty25 (own_ku25 HH.out.2.2.1 KU HH.out.1) e hrb') (by decide)))
          · exact ⟨HH.out.2.2.2.1.1, fun k hk => by
              obtain ⟨a2, s2, x2, f2⟩ := HH.out.2.2.2.1.2 k hk
              exact ⟨a2, s2, x2, KR (KU.Fb f2 (by have := f2.la; have := HM.out; omega) (by have := f2.ls; have := HM.out; omega))⟩⟩
          · have m1 : Below w1.heap.size wr.drew W' := hKp'.below (fun k e => by subst e; have := HM.out; omega) HH.out.2.2.2.2.size
            exact (HH.out.2.2.2.2.drew.trans m1).trans (kr.below (fun k e => by subst e; have := HM.out; omega) (Nat.le_trans HH.out.2.2.2.2.size m1.size))
        clear hO' hKp' hK' hrb' hW' KU kr KR PP
        go_wp2_with fail
        go_roundw
        case rel => exact H4.out
        case measure => have := HLT.out; simp [intOf]; omega
      · have hu : fu25 i = false := by simpa using hu
        have e1 : fv25 i a s = .func (.func 125) #[] #[.pointer (some ⟨a, 0, none⟩), .pointer (some ⟨s, 0, none⟩)] := by unfold fv25 ffn25; rw [hu]; rfl
        have e2 : fk25 i = .i64 := by unfold fk25; rw [hu]; rfl
        rw [e1] at hc
        rw [e2] at hvc hrs
        have PP := pfld25i (PF := 80) (y := yy) hf hu hrb hvc (v := 0) (by decide) rfl HCF.out hpen hne.1 hne.2.1 hne.2.2
        have HSS : Hid ((rs25 zs i).setIfInBounds i (.int .i64 (IntKind.i64.wrap yy)) = rs25 zs (i + 1)) := hrs.symm
        have HNE : Hid (a ≠ ob ∧ s ≠ ob ∧ rb ≠ ob) := hne
        clear hf hvc hpen hne e1 e2 hrb hu hrs
        go_wp2_with fail
        refine PP.mono ?_
        rintro e4 w4 ⟨rfl, W', ⟨hO', hKp'⟩, hK', hW'⟩
        have hrb' : W'.heap[rb]? = some (.cells (rs25 zs i) 63 (0, 0)) := (hK'.2 _ _ _ _ HH.out.2.1 HNE.out.2.2 (by decide)).trans HH.out.2.1
        rw [HSS.out] at hW'
        have KU : Ku25 ob wr W' := hK'
        have kr := kp_row25 W' rb (rs25 zs (i + 1))
        have KR : ∀ {N k a s : Nat}, Fb25 W' N rb k a s → Fb25 (W'.setRow rb (rs25 zs (i + 1))) N rb k a s := fun f => f.kp kr (fun e => by have h := f.ha; rw [e, hrb'] at h; injection h with h; injection h with _ h _; unfold fpt25 at h; split at h <;> exact absurd h (by decide)) (fun e => by have h := f.hs; rw [e, hrb'] at h; injection h with h; injection h with _ h _; exact absurd h (by decide))
        have H4 : Hid (Hd25 w1 rb ob M g o cp zs (some ⟨gf, 0, none⟩) cf xs (.int .i64 ((i + 1 : Nat) : Int)) w4) := by
          rw [hW']
          refine ⟨i + 1, HLT.out, rfl, ?_, set_row25 hrb', ?_, ?_, ?_⟩
          · rw [old_row25 _ (fun e => HNE.out.2.2 e.symm), HFO.out.1]; exact hO'
          · exact own_kp21 (own_ku25 HH.out.2.2.1 KU HH.out.1) (fun k e => old_row25 _ (fun x => by subst x; exact absurd (own_ty25 (own_ku25 HH.out.2.2.1 KU HH.out.1) e hrb') (by decide)))
          · exact ⟨HH.out.2.2.2.1.1, fun k hk => by
              obtain ⟨a2, s2, x2, f2⟩ := HH.out.2.2.2.1.2 k hk
              exact ⟨a2, s2, x2, KR (KU.Fb f2 (by have := f2.la; have := HM.out; omega) (by have := f2.ls; have := HM.out; omega))⟩⟩
          · have m1 : Below w1.heap.size wr.drew W' := hKp'.below (fun k e => by subst e; have := HM.out; omega) HH.out.2.2.2.2.size
            exact (HH.out.2.2.2.2.drew.trans m1).trans (kr.below (fun k e => by subst e; have := HM.out; omega) (Nat.le_trans HH.out.2.2.2.2.size m1.size))
        clear hO' hKp' hK' hrb' hW' KU kr KR PP
        go_wp2_with fail
        go_roundw
        case rel => exact H4.out
        case measure => have := HLT.out; simp [intOf]; omega
    · obtain rfl : i = 10 := by omega
      have hnl : ¬ ((10 : Nat) : Int) < 10 := by omega
      rw [rs25_all] at hrb
      have hz : wr.heap[N]? = some (.cells #[.int .i64 0, .int .i64 0, .int .i64 0, .int .i64 0, .int .u32 0, .int .i64 0, .int .i64 0, .int .i64 0, .int .u32 0, .int .i64 0] 63 (0, 0)) := (hBl.block _ HM.out.2.2.2.2.2).trans H1.out.1
      have HH : Hid (wr.heap[rb]? = some (.cells (dr25 zs).cs 63 (0, 0)) ∧ wr.heap[N]? = some (.cells #[.int .i64 0, .int .i64 0, .int .i64 0, .int .i64 0, .int .u32 0, .int .i64 0, .int .i64 0, .int .i64 0, .int .u32 0, .int .i64 0] 63 (0, 0)) ∧ Below N w wr) := ⟨hrb, hz, H1.out.2.1.trans (hBl.mono (by have := HM.out; omega))⟩
      clear hrb hz hO hof hFs hBl H4 hlt hi
      go_wp2_with (refine wpList_load_row rfl 63 (.tmp 6) rfl rb rfl _ (dr25 zs).cs _ _ HH.out.1 Tryd.underlying63 rfl info_rc25 ?_)
      refine (HP2.out wr).mono ?_
      rintro e5 w6 ⟨rfl, b6⟩
      have H6 : Hid (w6.heap[N]? = some (.cells #[.int .i64 0, .int .i64 0, .int .i64 0, .int .i64 0, .int .u32 0, .int .i64 0, .int .i64 0, .int .i64 0, .int .u32 0, .int .i64 0] 63 (0, 0)) ∧ Below N w w6) := ⟨(b6.block _ (Array.getElem?_eq_some_iff.1 HH.out.2.1).1).trans HH.out.2.1, HH.out.2.2.trans (b6.mono (by have := (Array.getElem?_eq_some_iff.1 HH.out.2.1).1; omega))⟩
      clear b6
      go_wp2_with (refine wpList_store_row rfl 63 (.tmp 2) (.tmp 48) rfl N D.cs rfl rfl _ _ H6.out.1 info_rc25 rfl (row_rc25 D) ?_)
      refine bodyPost_ret (v := .tuple #[.agg D.cs, .int .i64 E]) (results_ct25 (fn := Tryd.f30) (p := 2) (u := 3) (ty := 63) rfl _ _ N _ D.cs _ _ rfl (set_row25 H6.out.1) Tryd.underlying63 rfl info_rc25) rfl ?_
      exact ⟨rfl, by have := below_row25 (w := w) (by rw [← HN.out]; exact H6.out.2) (Nat.le_of_eq HN.out.symm) D.cs; rw [← HN.out] at this ⊢; exact this⟩
end Go.Proofs.YtmjlpfmacblcpaaDoor

namespace Go.Proofs.YtmjlpfmacblcpaaDoor
open Go.RowKit Go.Shelf
set_option linter.unusedVariables false
set_option linter.unusedSimpArgs false
theorem ok21_new (p q : Nat) (ac : Int) (L0 L1 : List Int) (hp : 64 ≤ p ∧ p ≤ 4096) (hq : 1 ≤ q ∧ q ≤ 4096) (ha : ac = 0 ∨ ac = 1) : Ok21 (nw21 p q ac L0 L1) := by
  refine ⟨hp, hq, ha, by simp [nw21], by simp [nw21], by simp [nw21], fun x y s h => ?_⟩
  simp only [nw21, pj21] at h
  split at h
  · unfold ck21 at h
    split at h
    · simp only [Option.some.injEq] at h
      subst h
      refine ⟨?_, by simp, by simp, by simp⟩
      show (List.take _ _).length ≤ p
      simp
      omega
    · cases h
  · cases h
theorem ok21_up {S : Fs21} (h : Ok21 S) (x y : Int) (s : Sh21) (hs : s.b.length ≤ S.pg ∧ 0 ≤ s.wr ∧ s.wr ≤ 1099511627776 ∧ (s.er = true → s.b = [])) : ∀ x' y' s', up21 S.pa x y s x' y' = some s' → s'.b.length ≤ S.pg ∧ 0 ≤ s'.wr ∧ s'.wr ≤ 1099511627776 ∧ (s'.er = true → s'.b = []) := by
  intro x' y' s' e
  unfold up21 at e
  split at e
  · cases e; exact hs
  · exact h.sh x' y' s' e
theorem ok21_rn {S : Fs21} (h : Ok21 S) (kd x y : Int) (s : Sh21) (hs : s.b.length ≤ S.pg ∧ 0 ≤ s.wr ∧ s.wr ≤ 1099511627776 ∧ (s.er = true → s.b = [])) : Ok21 (rn21 S kd x y s) := by
  unfold rn21
  split
  · refine ⟨h.pg, h.ps, h.ac, h.lm, by simp [cu21], by simp [cu21], ok21_up h x y _ ⟨?_, hs.2.1, hs.2.2.1, by simp⟩⟩
    show (la21 _ _ _).length ≤ _
    rw [la21_len _ _ _ h.tn (sh21_ok h x y).1]
    exact Nat.le_refl _
  · refine ⟨h.pg, h.ps, h.ac, h.lm, ?_, h.tn, ok21_up h x y s hs⟩
    have := h.lf
    show 0 ≤ max 0 (S.lf - 1) ∧ max 0 (S.lf - 1) ≤ _
    omega
theorem ok21_er {S : Fs21} (h : Ok21 S) (x y : Int) : Ok21 (erS21 S x y) := by
  unfold erS21
  split
  · exact h
  · split
    · exact h
    · rename_i h1 h2
      have h3 := sh21_ok h x y
      have h4 : ¬ 1099511627776 ≤ (sh21 S x y).wr := by
        intro e
        exact h2 (by simp [wo21, e])
      exact ok21_rn h 1 x y _ ⟨by simp, by show 0 ≤ (sh21 S x y).wr + 1; omega, by show (sh21 S x y).wr + 1 ≤ _; omega, fun _ => rfl⟩
theorem ok21_pg {S : Fs21} (h : Ok21 S) (x y : Int) (L : List Int) : Ok21 (pgS21 S x y L) := by
  unfold pgS21
  split
  · exact h
  · split
    · exact h
    · split
      · exact h
      · rename_i h1 h2 h3
        have h4 := sh21_ok h x y
        exact ok21_rn h 2 x y _ ⟨by show L.length ≤ _; omega, h4.2.1, h4.2.2, by simp⟩
end Go.Proofs.YtmjlpfmacblcpaaDoor

namespace Go.Proofs.YtmjlpfmacblcpaaDoor
open Go.RowKit Go.Shelf
set_option linter.unusedVariables false
set_option linter.unusedSimpArgs false
structure Pw22 where
  ar : Int
  bf : List Int
  pn : Nat
  wn : Nat
  cl : Int
structure Wr22 (w : World) (v s g b pg : Nat) (P : Pw22) : Prop where
  hv : w.heap[v]? = some (.cells #[.pointer (some ⟨s, 0, none⟩)] 252 (0, 0))
  hs : w.heap[s]? = some (.cells #[.pointer (some ⟨b, 0, none⟩), .int .i64 P.ar, .slice (some ⟨g, 0, none⟩) pg pg, .int .i64 (P.bf.length : Int), .int .i64 (P.pn : Int), .int .i64 (P.wn : Int), .int .i64 P.cl] 252 (0, 0))
  hg : ∃ Y : List Int, w.heap[g]? = some (.cells ((P.bf ++ Y).map (Value.int .u8)).toArray 5 (0, 0)) ∧ P.bf.length + Y.length = pg ∧ ∀ y ∈ P.bf ++ Y, 0 ≤ y ∧ y ≤ 255
section
variable {w w' : World} {v s g b pg : Nat} {P : Pw22}
theorem Wr22.c0 (h : Wr22 w v s g b pg P) : w.cell? ⟨s, 0, none⟩ = some (.pointer (some ⟨b, 0, none⟩)) := by simp [World.cell?, h.hs]
theorem Wr22.c1 (h : Wr22 w v s g b pg P) : w.cell? ⟨s, 1, none⟩ = some (.int .i64 P.ar) := by simp [World.cell?, h.hs]
theorem Wr22.c2 (h : Wr22 w v s g b pg P) : w.cell? ⟨s, 2, none⟩ = some (.slice (some ⟨g, 0, none⟩) pg pg) := by simp [World.cell?, h.hs]
theorem Wr22.c3 (h : Wr22 w v s g b pg P) : w.cell? ⟨s, 3, none⟩ = some (.int .i64 (P.bf.length : Int)) := by simp [World.cell?, h.hs]
theorem Wr22.c4 (h : Wr22 w v s g b pg P) : w.cell? ⟨s, 4, none⟩ = some (.int .i64 (P.pn : Int)) := by simp [World.cell?, h.hs]
theorem Wr22.c5 (h : Wr22 w v s g b pg P) : w.cell? ⟨s, 5, none⟩ = some (.int .i64 (P.wn : Int)) := by simp [World.cell?, h.hs]
theorem Wr22.c6 (h : Wr22 w v s g b pg P) : w.cell? ⟨s, 6, none⟩ = some (.int .i64 P.cl) := by simp [World.cell?, h.hs]
theorem Wr22.fr (h : Wr22 w v s g b pg P) (i : Nat) : w.frozen? ⟨s, i, none⟩ = false := by simp [World.frozen?, h.hs]
theorem Wr22.ne_vs (h : Wr22 w v s g b pg P) : v ≠ s := fun e => by have := h.hs; rw [← e, h.hv] at this; simp at this
theorem Wr22.ne_sg (h : Wr22 w v s g b pg P) : s ≠ g := fun e => by
  obtain ⟨Y, h1, _⟩ := h.hg
  have := h.hs; rw [e, h1] at this
  injection this with h2
  injection h2 with _ h3 _
  exact absurd h3 (by decide)
theorem Wr22.ne_vg (h : Wr22 w v s g b pg P) : v ≠ g := fun e => by
  obtain ⟨Y, h1, _⟩ := h.hg
  have := h.hv; rw [e, h1] at this
  injection this with h2
  injection h2 with _ h3 _
  exact absurd h3 (by decide)
theorem Wr22.kp (h : Wr22 w v s g b pg P) (h1 : w'.heap[v]? = w.heap[v]?) (h2 : w'.heap[s]? = w.heap[s]?) (h3 : w'.heap[g]? = w.heap[g]?) : Wr22 w' v s g b pg P := by
  obtain ⟨Y, hY, hl⟩ := h.hg
  exact ⟨h1.trans h.hv, h2.trans h.hs, Y, h3.trans hY, hl⟩
theorem Wr22.lt (h : Wr22 w v s g b pg P) : v < w.heap.size ∧ s < w.heap.size ∧ g < w.heap.size := by
  obtain ⟨Y, hY, hl⟩ := h.hg
  exact ⟨(Array.getElem?_eq_some_iff.1 h.hv).1, (Array.getElem?_eq_some_iff.1 h.hs).1, (Array.getElem?_eq_some_iff.1 hY).1⟩
theorem Wr22.old (h : Wr22 w v s g b pg P) (hb : Below w.heap.size w w') : Wr22 w' v s g b pg P :=
  h.kp (hb.block v h.lt.1) (hb.block s h.lt.2.1) (hb.block g h.lt.2.2)
theorem Wr22.kpk {Q : Nat → Prop} (h : Wr22 w v s g b pg P) (hk : Kp Q w w') (h1 : ¬ Q v) (h2 : ¬ Q s) (h3 : ¬ Q g) : Wr22 w' v s g b pg P :=
  h.kp (hk.block v h.lt.1 h1) (hk.block s h.lt.2.1 h2) (hk.block g h.lt.2.2 h3)
end
/-- A writer over a flash. -/
structure Pe22 (w : World) (v s g b : Nat) (F : Nat → Prop) (S : Fs21) (P : Pw22) : Prop where
  fl : Fl21 w b F S
  wr : Wr22 w v s g b S.pg P
  nv : ¬ F v
  ns : ¬ F s
  ng : ¬ F g
def Pn22 (w w' : World) (v s g b : Nat) (F : Nat → Prop) (S' : Fs21) (P' : Pw22) : Prop := ∃ F', Pe22 w' v s g b F' S' P' ∧ (∀ k, F' k → F k ∨ w.heap.size ≤ k) ∧ Kp (fun k => F k ∨ k = s ∨ k = g) w w'
section
variable {w w' : World} {v s g b : Nat} {F : Nat → Prop} {S S' : Fs21} {P P' : Pw22}
theorem Pe22.old (h : Pe22 w v s g b F S P) (hb : Below w.heap.size w w') : Pe22 w' v s g b F S P := ⟨h.fl.old hb, h.wr.old hb, h.nv, h.ns, h.ng⟩
theorem Pe22.stay (h : Pe22 w v s g b F S P) (hb : Below w.heap.size w w') : Pn22 w w' v s g b F S P := ⟨F, h.old hb, fun _ e => .inl e, Kp.of_below hb⟩
theorem Pn22.from {w1 : World} (h : Pn22 w1 w' v s g b F S' P') (hb : Below w.heap.size w w1) : Pn22 w w' v s g b F S' P' := by
  obtain ⟨F', h1, h2, h3⟩ := h
  exact ⟨F', h1, fun k e => by rcases h2 k e with h | h; (exact .inl h); (exact .inr (Nat.le_trans hb.size h)), (Kp.of_below hb).trans h3 (fun _ _ e => e)⟩
/-- What a call of the flash leaves of a writer over it. -/
theorem Pe22.flash (h : Pe22 w v s g b F S P) (hn : Fn21 w w' b F S') (hp : S'.pg = S.pg) : Pn22 w w' v s g b F S' P := by
  obtain ⟨F', h1, h2, h3⟩ := hn
  have hl := h.wr.lt
  refine ⟨F', ⟨h1, by rw [hp]; exact h.wr.kpk h3 h.nv h.ns h.ng, fun e => ?_, fun e => ?_, fun e => ?_⟩, h2, h3.mono (fun i _ e => .inl e)⟩
  · rcases h2 v e with q | q; (exact h.nv q); omega
  · rcases h2 s e with q | q; (exact h.ns q); omega
  · rcases h2 g e with q | q; (exact h.ng q); omega
theorem Pn22.cons {w1 w2 : World} {F1 : Nat → Prop} {S2 : Fs21} {P2 : Pw22} (f1 : ∀ k, F1 k → F k ∨ w.heap.size ≤ k) (k1 : Kp (fun k => F k ∨ k = s ∨ k = g) w w1) (h : Pn22 w1 w2 v s g b F1 S2 P2) : Pn22 w w2 v s g b F S2 P2 := by
  obtain ⟨F2, h1, h2, h3⟩ := h
  refine ⟨F2, h1, fun x e => ?_, k1.trans h3 (fun i hi e => ?_)⟩
  · rcases h2 x e with q | q
    · exact f1 x q
    · exact .inr (Nat.le_trans k1.size q)
  · rcases e with e | e
    · rcases f1 i e with q | q
      · exact .inl q
      · omega
    · exact .inr e
end
section
variable {w : World} {v s g b pg : Nat} {P : Pw22}
end
section
variable {w : World} {b : Nat} {F : Nat → Prop} {S : Fs21}
set_option maxRecDepth 100000 in
set_option maxHeartbeats 1000000 in
theorem pshp22 (hF : Fl21 w b F S) (hO : Ok21 S) : Calls Tryd.prog 100 #[.pointer (some ⟨b, 0, none⟩)] w fun e w' => e = .returned (.agg #[.int .i64 (S.pg : Int), .int .i64 (S.ps : Int)]) ∧ Below w.heap.size w w' := by
  have hb : Below w.heap.size w (w.alloc (.cells #[.int .i64 0, .int .i64 0] 45)) := (Below.refl _ _).alloc (Nat.le_refl _) _
  obtain ⟨c0, c1, c2, c3, c4, cf⟩ := (hF.old hb).cells
  have HM := pmade21 b S.pg _ c0 hO.pg.1
  have hb2 : Below w.heap.size w (w.alloc (.cells #[.int .i64 (S.pg : Int), .int .i64 (S.ps : Int)] 45)) := (Below.refl _ _).alloc (Nat.le_refl _) _
  have hq := heap_alloc_new w (.cells #[.int .i64 (S.pg : Int), .int .i64 (S.ps : Int)] 45)
  have hlt := hF.lt
  clear hF
  go_enter Tryd.func100, Tryd.ntmps100
  go_wp2_with fail
  refine HM.mono ?_
  rintro e w1 ⟨rfl, hw⟩
  subst w1
  go_wp2_with fail
  refine bodyPost_ret (v := .agg #[.int .i64 (S.pg : Int), .int .i64 (S.ps : Int)]) (results_cell_row (fn := Tryd.f100) (p := 2) (ty := 45) rfl _ _ w.heap.size _ _ _ _ rfl hq Tryd.underlying45 rfl (by kernel_rfl)) rfl ?_
  exact ⟨rfl, hb2⟩
end
end Go.Proofs.YtmjlpfmacblcpaaDoor
