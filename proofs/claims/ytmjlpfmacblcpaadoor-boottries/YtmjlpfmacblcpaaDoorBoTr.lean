import Derived.Test.YtmjlpfmacblcpaaDoorBoN
import Derived.Test.YtmjlpfmacblcpaaDoorBoF
import Derived.Test.YtmjlpfmacblcpaaDoorBoS
import Derived.Test.YtmjlpfmacblcpaaDoorBoTb
import Derived.Test.YtmjlpfmacblcpaaDoorOpenBs
import Derived.Deep.CutRange
import Derived.Deep.CutBlock
namespace Go.Proofs.YtmjlpfmacblcpaaDoor
open Go.RowKit Go.Shelf
set_option linter.unusedVariables false
set_option linter.unusedSimpArgs false
theorem info_op25 : (Tryd.prog.info? 54).map (·.size) = some 14 := by kernel_rfl
theorem row_op25 (o : Oq25) : o.cl.toArray.all (·.oneCell') = true := by first | kernel_rfl | (unfold Oq25.cl; simp [Value.oneCell'])
set_option maxRecDepth 100000 in
set_option maxHeartbeats 64000000 in
theorem bootTries_walk (w : World) (ht : Tab w) (i0 : Im25) (wi : i0.wd) (a1 : Option Addr) (len cap1 : Nat) (O : Nat → Oq25) (hO : Rw25 14 w a1 len (fun i => (O i).cl)) (fO : ∀ i, i < len → Of25 w (O i)) (hlen : len ≤ 140737488351232) (a2 : Option Addr) (len2 cap2 : Nat) (I : Nat → Im25) (hI : Rw25 4 w a2 len2 (fun i => (I i).cs.toList)) :
    Calls Tryd.prog 6 #[.agg i0.cs, .slice a1 len cap1, .slice a2 len2 cap2] w fun e w' => e = .returned (.bool true) ∧ Below w.heap.size w w' := by
  have HT : Hid (∀ V, Below w.heap.size w V → Tab V) := fun V hV => ht.old hV
  have HO : Hid (∀ V, Below w.heap.size w V → Rw25 14 V a1 len (fun i => (O i).cl)) := fun V hV => hO.old hV
  have HI : Hid (∀ V, Below w.heap.size w V → Rw25 4 V a2 len2 (fun i => (I i).cs.toList)) := fun V hV => hI.old hV
  have HLN : Hid (len ≤ 140737488351232) := hlen
  clear ht wi hO hI hlen fO
  have HFI : Hid (∀ W, Calls Tryd.prog 31 #[.agg i0.cs] W fun e w' => e = .returned (.tuple #[.agg (cd25 ⟨1, i0, no25, 0⟩).cs, .int .i64 (ck25 ⟨1, i0, no25, 0⟩)]) ∧ Below W.heap.size W w') := fun W => pfirst25 i0 W
  have HOI : Hid (∀ (r : Rc25) (i : Im25) (k : Int) W, Calls Tryd.prog 33 #[.agg r.cs, .agg i.cs, .int .i64 k] W fun e w' => e = .returned (.tuple #[.agg (of25 r i k).1.cs, .int .i64 (of25 r i k).2]) ∧ Below W.heap.size W w') := fun r i k W => poffer25 r i k W
  have HSI : Hid (∀ (r : Rc25) W, Calls Tryd.prog 34 #[.agg r.cs] W fun e w' => e = .returned (.tuple #[.agg (st25 r).1.cs, .agg (st25 r).2.1.cs, .int .i64 (st25 r).2.2]) ∧ Below W.heap.size W w') := fun r W => pstart25 r W
  have HCI : Hid (∀ (r : Rc25) W, Calls Tryd.prog 35 #[.agg r.cs] W fun e w' => e = .returned (.tuple #[.agg (cf25 r).1.cs, .int .i64 (cf25 r).2]) ∧ Below W.heap.size W w') := fun r W => pconfirm25 r W
  have HCK : Hid (∀ (r : Rc25) W, Calls Tryd.prog 36 #[.agg r.cs] W fun e w' => e = .returned (.int .i64 (ck25 r)) ∧ Below W.heap.size W w') := fun r W => pcheck25 r W
  have HFM : Hid (∀ (x : Im25) W, Calls Tryd.prog 32 #[.agg x.cs] W fun e w' => e = .returned (.agg x.cs) ∧ Below W.heap.size W w') := fun x W => pfi25 x W
  have HLV : Hid (∀ W, Below w.heap.size w W → Calls Tryd.prog 22 #[] W fun e w' => e = .returned (.bool true) ∧ Below W.heap.size W w') := fun W hW => plives25 W (HT.out W hW)
  have hbi : Hid (∀ (x : Im25) W, (binOp .neq 61 (.agg x.cs) (.agg x.cs)).run Tryd.prog W = .ok (.bool false) W) := fun x W => by rw [bni25, decide_eq_true rfl]; rfl
  have hbn : Hid (∀ (x y : Im25) W, x ≠ y → (binOp .neq 61 (.agg x.cs) (.agg y.cs)).run Tryd.prog W = .ok (.bool true) W) := fun x y W h => by rw [bni25, decide_eq_false h]; rfl
  obtain ⟨wB, hwB⟩ : ∃ wB, wB = w.alloc (.cells i0.cs 50) := ⟨_, rfl⟩
  have bB : Below w.heap.size w wB := by rw [hwB]; exact (Below.refl _ _).alloc (Nat.le_refl _) _
  have q1 : wB.heap[w.heap.size]? = some (.cells i0.cs 50 (0, 0)) := by rw [hwB]; exact heap_alloc_new _ _
  have H0 : Hid (wB.heap[w.heap.size]? = some (.cells i0.cs 50 (0, 0)) ∧ Below w.heap.size w wB) := ⟨q1, bB⟩
  have HWB : Hid (w.alloc (.cells i0.cs 50) = wB) := hwB.symm
  clear hwB bB q1
  go_enter Tryd.func6, Tryd.ntmps6
  go_upto_region 1 with fail
  rw [HWB.out]
  go_wp2_with (refine wpList_load_row rfl 50 (.tmp 3) rfl (w.heap.size) rfl _ i0.cs _ _ H0.out.1 Tryd.underlying50 rfl info_im25d ?_)
  refine (HFM.out i0 wB).mono ?_
  rintro e v1 ⟨rfl, b⟩
  have H1 : Hid (Below w.heap.size w v1) := H0.out.2.trans (b.mono H0.out.2.size)
  clear b
  go_wp2_with fail
  refine (HFI.out v1).mono ?_
  rintro e v2 ⟨rfl, b⟩
  have H2 : Hid (Below w.heap.size w v2) := H1.out.trans (b.mono H1.out.size)
  clear b
  obtain ⟨v3, hv3⟩ : ∃ v, v = ((v2.alloc (.cells #[.int .i64 0, .int .i64 0, .int .i64 0, .int .i64 0, .int .u32 0, .int .i64 0, .int .i64 0, .int .i64 0, .int .u32 0, .int .i64 0] 63)).setRow v2.heap.size (cd25 ⟨1, i0, no25, 0⟩).cs) := ⟨_, rfl⟩
  obtain ⟨ba, hba⟩ : ∃ b, b = v2.heap.size := ⟨_, rfl⟩
  have q : v3.heap[ba]? = some (.cells (cd25 ⟨1, i0, no25, 0⟩).cs 63 (0, 0)) := by rw [hv3, hba]; exact set_row25 (heap_alloc_new _ _)
  have b : Below w.heap.size w v3 := by rw [hv3]; exact below_row25 (H2.out.alloc H2.out.size _) H2.out.size _
  have HBA : Hid (w.heap.size ≤ ba) := by rw [hba]; exact H2.out.size
  have W3 : Hid (((v2.alloc (.cells #[.int .i64 0, .int .i64 0, .int .i64 0, .int .i64 0, .int .u32 0, .int .i64 0, .int .i64 0, .int .i64 0, .int .u32 0, .int .i64 0] 63)).setRow v2.heap.size (cd25 ⟨1, i0, no25, 0⟩).cs) = v3 ∧ v2.heap.size = ba) := ⟨hv3.symm, hba.symm⟩
  have H3 : Hid (v3.heap[ba]? = some (.cells (cd25 ⟨1, i0, no25, 0⟩).cs 63 (0, 0)) ∧ Below w.heap.size w v3) := ⟨q, b⟩
  clear hv3 hba q b
  go_upto_region 2 with (refine wpList_store_row rfl 63 (.tmp 7) (.tmp 24) rfl v2.heap.size (cd25 ⟨1, i0, no25, 0⟩).cs rfl rfl _ _ (heap_alloc_new v2 _) info_rc25 rfl (row_rc25 (cd25 ⟨1, i0, no25, 0⟩)) ?_)
  rw [W3.out.1, W3.out.2]
  have HE : Hid (∀ e, ck25 ⟨1, i0, no25, 0⟩ = e → e = 0 → (⟨1, i0, no25, 0⟩ : Rc25).may) := fun e h1 h2 => may_first25 (h1.trans h2)
  by_cases he : ck25 ⟨1, i0, no25, 0⟩ = 0
  rotate_left
  · go_wp2_with fail
    refine (HLV.out v3 H3.out.2).mono ?_
    rintro e v4 ⟨rfl, b⟩
    have H4 : Hid (Below w.heap.size w v4) := H3.out.2.trans (b.mono H3.out.2.size)
    clear b he
    go_wp2_with fail
    go_ret
    exact ⟨rfl, H4.out⟩
  have hm0 := HE.out _ rfl he
  have HS0 : Hid (St25 w v3 ba ⟨1, i0, no25, 0⟩ 0) := ⟨by have h := H3.out.1; rw [cd_may25 hm0] at h; exact h, H3.out.2, hm0, Int.le_refl 0, by decide⟩
  rw [he]
  clear he hm0
  go_wp2_with fail
  go_loopw [9, 31] (fun t9 t31 wr => ∃ (i : Nat) (r : Rc25) (l : Int), i ≤ len ∧ t9 = .int .i64 l ∧ t31 = .int .i64 (i : Int) ∧ St25 w wr ba r l) (fun _ t31 _ => len - (intOf t31).toNat)
  case atStart => exact ⟨0, _, 0, by omega, rfl, rfl, HS0.out⟩
  case round =>
    obtain ⟨i, r, l, hin, rfl, rfl, hS⟩ := hrel
    by_cases hi : i < len
    rotate_left
    · have hii : ¬ ((i : Int) < (len : Int)) := by omega
      have HSS : Hid (St25 w wr ba r l) := hS
      clear hS
      go_wp2_with fail
      refine (HLV.out wr HSS.out.below).mono ?_
      rintro e v4 ⟨rfl, b⟩
      have H4 : Hid (Below w.heap.size w v4) := HSS.out.below.trans (b.mono HSS.out.below.size)
      clear b
      go_wp2_with fail
      go_ret
      exact ⟨rfl, H4.out⟩
    have hii : (i : Int) < (len : Int) := by omega
    have hiw : IntKind.i64.wrap ((i : Int) + 1) = ((i + 1 : Nat) : Int) := by rw [IntWalk.i64_in _ (by have := HLN.out; omega)]; omega
    obtain ⟨g, off, hsa, hgl, hrg⟩ := HO.out wr hS.below i hi
    obtain ⟨o, ho⟩ : ∃ o, o = O i := ⟨_, rfl⟩
    simp only at hrg
    rw [← ho] at hrg
    have HRG : Hid (wr.rangeAt g (off + i * 14) o.cl) := hrg
    subst hsa
    have hsz := hS.below.size
    have hbal := (Array.getElem?_eq_some_iff.1 hS.row).1
    -- the call, in its box
    obtain ⟨w5, hw5⟩ : ∃ x, x = (wr.alloc (.cells #[.int .i64 0, .int .i64 0, .int .i64 0, .int .i64 0, .int .i64 0, .int .u32 0, .int .i64 0, .int .i64 0, .int .i64 0, .int .u32 0, .int .i64 0, .int .i64 0, .slice none 0 0, .int .i64 0] 54)).setRow wr.heap.size o.cl.toArray := ⟨_, rfl⟩
    obtain ⟨gc, hgc⟩ : ∃ x, x = wr.heap.size := ⟨_, rfl⟩
    have HW5 : Hid ((wr.alloc (.cells #[.int .i64 0, .int .i64 0, .int .i64 0, .int .i64 0, .int .i64 0, .int .u32 0, .int .i64 0, .int .i64 0, .int .i64 0, .int .u32 0, .int .i64 0, .int .i64 0, .slice none 0 0, .int .i64 0] 54)).setRow wr.heap.size o.cl.toArray = w5 ∧ wr.heap.size = gc) := ⟨hw5.symm, hgc.symm⟩
    have q5 : w5.heap[gc]? = some (.cells o.cl.toArray 54 (0, 0)) := by rw [hw5, hgc]; exact set_row25 (heap_alloc_new _ _)
    have b5 : Below wr.heap.size wr w5 := by rw [hw5]; exact below_row25 ((Below.refl _ _).alloc (Nat.le_refl _) _) (Nat.le_refl _) _
    have r5 : w5.heap[ba]? = some (.cells r.cs 63 (0, 0)) := (b5.block _ hbal).trans hS.row
    have H5 : Hid (w5.heap[gc]? = some (.cells o.cl.toArray 54 (0, 0)) ∧ w5.heap[ba]? = some (.cells r.cs 63 (0, 0)) ∧ Below w.heap.size w w5 ∧ ba < gc) := ⟨q5, r5, hS.below.trans (b5.mono hsz), by rw [hgc]; exact hbal⟩
    have HSS : Hid (St25 w wr ba r l) := hS
    clear hrg hgl ho hw5 hgc q5 b5 r5 hS hsz hbal
    go_upto_region 8 with (first | refine wpList_load_mid rfl 54 (.tmp 34) rfl g (off + i * 14) rfl o.cl _ HRG.out Tryd.underlying54 rfl info_op25 ?_ | refine wpList_store_row rfl 54 (.tmp 11) (.tmp 35) rfl wr.heap.size o.cl.toArray rfl rfl _ _ (heap_alloc_new wr _) info_op25 rfl (row_op25 o) ?_)
    rw [HW5.out.1, HW5.out.2]
    -- what was
    obtain ⟨w6, hw6⟩ : ∃ x, x = (w5.alloc (.cells #[.int .i64 0, .int .i64 0, .int .i64 0, .int .i64 0, .int .u32 0, .int .i64 0, .int .i64 0, .int .i64 0, .int .u32 0, .int .i64 0] 63)).setRow w5.heap.size r.cs := ⟨_, rfl⟩
    obtain ⟨bw, hbw⟩ : ∃ x, x = w5.heap.size := ⟨_, rfl⟩
    have HW6 : Hid ((w5.alloc (.cells #[.int .i64 0, .int .i64 0, .int .i64 0, .int .i64 0, .int .u32 0, .int .i64 0, .int .i64 0, .int .i64 0, .int .u32 0, .int .i64 0] 63)).setRow w5.heap.size r.cs = w6 ∧ w5.heap.size = bw) := ⟨hw6.symm, hbw.symm⟩
    have q6 : w6.heap[bw]? = some (.cells r.cs 63 (0, 0)) := by rw [hw6, hbw]; exact set_row25 (heap_alloc_new _ _)
    have b6 : Below w5.heap.size w5 w6 := by rw [hw6]; exact below_row25 ((Below.refl _ _).alloc (Nat.le_refl _) _) (Nat.le_refl _) _
    have H6 : Hid (w6.heap[gc]? = some (.cells o.cl.toArray 54 (0, 0)) ∧ w6.heap[ba]? = some (.cells r.cs 63 (0, 0)) ∧ w6.heap[bw]? = some (.cells r.cs 63 (0, 0)) ∧ Below w.heap.size w w6 ∧ ba < gc ∧ gc < bw) := ⟨(b6.block _ (Array.getElem?_eq_some_iff.1 H5.out.1).1).trans H5.out.1, (b6.block _ (Array.getElem?_eq_some_iff.1 H5.out.2.1).1).trans H5.out.2.1, q6, H5.out.2.2.1.trans (b6.mono H5.out.2.2.1.size), H5.out.2.2.2, by rw [hbw]; exact (Array.getElem?_eq_some_iff.1 H5.out.1).1⟩
    clear hw6 hbw q6 b6
    go_upto_region 9 with (first | refine wpList_load_row rfl 63 (.tmp 7) rfl ba rfl _ r.cs _ _ H5.out.2.1 Tryd.underlying63 rfl info_rc25 ?_ | refine wpList_store_row rfl 63 (.tmp 12) (.tmp 36) rfl w5.heap.size r.cs rfl rfl _ _ (heap_alloc_new w5 _) info_rc25 rfl (row_rc25 r) ?_)
    rw [HW6.out.1, HW6.out.2]
    obtain ⟨k, hk⟩ : ∃ k, k = o.c := ⟨_, rfl⟩
    obtain ⟨nn, hnn⟩ : ∃ n, n = o.n := ⟨_, rfl⟩
    have m0 : w6.cell? ⟨gc, 0, none⟩ = some (.int .i64 k) := by rw [hk]; exact cell25 H6.out.1 rfl
    have HN : Hid (o.n = nn) := hnn.symm
    clear hk hnn
    go_upto_block 2 with fail
    go_cut [9] from 32 to 136 (fun s9 wc => ∃ (r' : Rc25) (l' : Int), s9 = .int .i64 l' ∧ St25 w wc ba r' l' ∧ wc.heap[bw]? = some (.cells r.cs 63 (0, 0)) ∧ r.g.v ≤ r'.g.v)
    case first =>
      have M0 : Hid (w6.cell? ⟨gc, 0, none⟩ = some (.int .i64 k)) := m0
      have H66 : Hid (w6.heap[gc]? = some (.cells o.cl.toArray 54 (0, 0)) ∧ w6.heap[ba]? = some (.cells r.cs 63 (0, 0)) ∧ w6.heap[bw]? = some (.cells r.cs 63 (0, 0)) ∧ Below w.heap.size w w6) := ⟨H6.out.1, H6.out.2.1, H6.out.2.2.1, H6.out.2.2.2.1⟩
      clear m0
      by_cases k0 : k = 0
      · subst k0
        by_cases h2 : i < len2
        rotate_left
        · have h2i : ¬ ((i : Int) < (len2 : Int)) := by omega
          have h2j : (len2 : Int) ≤ (i : Int) := by omega
          have m0 : w6.cell? ⟨gc, 0, none⟩ = some (.int .i64 0) := M0.out
          go_wp2_with fail
          go_roundw
          case rel => exact ⟨i + 1, r, l, by omega, rfl, rfl, ⟨H6.out.2.1, H6.out.2.2.2.1, HSS.out.iv⟩⟩
          case measure => simp [intOf]; omega
        have h2i : (i : Int) < (len2 : Int) := by omega
        have h2j : ¬ ((len2 : Int) ≤ (i : Int)) := by omega
        obtain ⟨g2, off2, hsa2, -, -⟩ := HI.out w6 H6.out.2.2.2.1 i h2
        subst hsa2
        have HIM : Hid (∀ V, Below w.heap.size w V → V.rangeAt g2 (off2 + i * 4) (I i).cs.toList) := fun V hV => by
          obtain ⟨g3, off3, e3, -, h3⟩ := HI.out V hV i h2
          simp only [Option.some.injEq, Addr.mk.injEq, and_true] at e3
          obtain ⟨rfl, rfl⟩ := e3
          exact h3
        go_upto_region 12 with fail
        go_cut [13, 14] from 46 to 56 (fun s13 s14 wc => ∃ bn, s13 = .pointer (some ⟨bn, 0, none⟩) ∧ s14 = .int .i64 (of25 r (I i) nn).2 ∧ (wc.heap[gc]? = some (.cells o.cl.toArray 54 (0, 0)) ∧ wc.heap[ba]? = some (.cells r.cs 63 (0, 0)) ∧ wc.heap[bw]? = some (.cells r.cs 63 (0, 0)) ∧ Below w.heap.size w wc) ∧ wc.heap[bn]? = some (.cells (of25 r (I i) nn).1.cs 63 (0, 0)) ∧ bw < bn)
        case first =>
          obtain ⟨u0, hv⟩ : ∃ v, v = w6.drew := ⟨_, rfl⟩
          have HV : Hid (w6.drew = u0) := hv.symm
          have b : Below w6.heap.size w6 u0 := by rw [hv]; exact (Below.refl _ _).drew
          have G0 : Hid (u0.heap[gc]? = some (.cells o.cl.toArray 54 (0, 0)) ∧ u0.heap[ba]? = some (.cells r.cs 63 (0, 0)) ∧ u0.heap[bw]? = some (.cells r.cs 63 (0, 0)) ∧ Below w.heap.size w u0) := ⟨(b.block _ (Array.getElem?_eq_some_iff.1 H66.out.1).1).trans H66.out.1, (b.block _ (Array.getElem?_eq_some_iff.1 H66.out.2.1).1).trans H66.out.2.1, (b.block _ (Array.getElem?_eq_some_iff.1 H66.out.2.2.1).1).trans H66.out.2.2.1, H66.out.2.2.2.trans (b.mono H66.out.2.2.2.size)⟩
          clear hv b
          refine plain_region16 (fun V => V.heap[ba]? = some (.cells r.cs 63 (0, 0)) ∧ V.heap[gc]? = some (.cells o.cl.toArray 54 (0, 0)) ∧ V.rangeAt g2 (off2 + i * 4) (I i).cs.toList) 15 (by kernel_rfl) (by rw [HV.out]; exact ⟨G0.out.2.1, G0.out.1, HIM.out _ G0.out.2.2.2⟩) (fun hHeld => ?_)
          rw [HV.out] at hHeld ⊢
          clear HV
          refine wpAnyK_take (i := 0) (v := .agg r.cs) rfl (by kernel_rfl) (by kernel_rfl) (by kernel_rfl) (by kernel_rfl) (fun _ _ _ h => h) (yields_row25 (by rfl) 63 (.tmp 7) rfl ba rfl _ _ _ _ (fun w h => h.1) Tryd.underlying63 rfl info_rc25) hHeld ?_
          (try simp only [List.getElem_toArray, List.getElem_cons_zero, List.getElem_cons_succ, Act.put, List.setIfInBounds_toArray, List.set_cons_zero, List.set_cons_succ])
          refine wpAnyK_take (i := 1) (v := .slice (some ⟨g2, off2, none⟩) len2 cap2) rfl (by kernel_rfl) (by kernel_rfl) (by kernel_rfl) (by kernel_rfl) (fun _ _ _ h => h) (Or.inl ⟨by rfl, fun w hSw => by go_simp⟩) hHeld ?_
          simp only [List.getElem_toArray, List.getElem_cons_zero, List.getElem_cons_succ, Act.put, List.setIfInBounds_toArray, List.set_cons_zero, List.set_cons_succ]
          refine wpAnyK_take (i := 2) (v := .int .i64 (i : Int)) rfl (by kernel_rfl) (by kernel_rfl) (by kernel_rfl) (by kernel_rfl) (fun _ _ _ h => h) (Or.inl ⟨by rfl, fun w hSw => by go_simp⟩) hHeld ?_
          simp only [List.getElem_toArray, List.getElem_cons_zero, List.getElem_cons_succ, Act.put, List.setIfInBounds_toArray, List.set_cons_zero, List.set_cons_succ]
          refine wpAnyK_take (i := 3) (v := .pointer (some ⟨g2, off2 + i * 4, none⟩)) rfl (by kernel_rfl) (by kernel_rfl) (by kernel_rfl) (by kernel_rfl) (fun _ _ _ h => h) (Or.inl ⟨by rfl, fun w hSw => by go_simp⟩) hHeld ?_
          simp only [List.getElem_toArray, List.getElem_cons_zero, List.getElem_cons_succ, Act.put, List.setIfInBounds_toArray, List.set_cons_zero, List.set_cons_succ]
          refine wpAnyK_take (i := 4) (v := .agg (I i).cs) rfl (by kernel_rfl) (by kernel_rfl) (by kernel_rfl) (by kernel_rfl) (fun _ _ _ h => h) (yields_img25 (by rfl) 50 (.tmp 49) rfl g2 (off2 + i * 4) rfl (I i) _ (fun w h => h.2.2) Tryd.underlying50 rfl info_im25d) hHeld ?_
          (try simp only [List.getElem_toArray, List.getElem_cons_zero, List.getElem_cons_succ, Act.put, List.setIfInBounds_toArray, List.set_cons_zero, List.set_cons_succ])
          refine wpAnyK_take (i := 6) (v := .pointer (some ⟨gc, 11, none⟩)) rfl (by kernel_rfl) (by kernel_rfl) (by kernel_rfl) (by kernel_rfl) (fun _ _ _ h => h) (Or.inl ⟨by rfl, fun w hSw => by go_simp⟩) hHeld ?_
          simp only [List.getElem_toArray, List.getElem_cons_zero, List.getElem_cons_succ, Act.put, List.setIfInBounds_toArray, List.set_cons_zero, List.set_cons_succ]
          refine wpAnyK_take (i := 7) (v := .int .i64 nn) rfl (by kernel_rfl) (by kernel_rfl) (by kernel_rfl) (by kernel_rfl) (fun _ _ _ h => h) (Or.inl ⟨by rfl, fun V hSw => by
            have m11 : V.cell? ⟨gc, 11, none⟩ = some (.int .i64 nn) := by rw [← HN.out]; exact cell25 hSw.2.1 rfl
            go_simp⟩) hHeld ?_
          simp only [List.getElem_toArray, List.getElem_cons_zero, List.getElem_cons_succ, Act.put, List.setIfInBounds_toArray, List.set_cons_zero, List.set_cons_succ]
          refine wpAnyK_two24 (i := 5) (j := 12) (by kernel_rfl) rfl rfl (fun K hK => ?_) (fun K hK => ?_)
          · (try simp only [List.getElem_toArray, List.getElem_cons_zero, List.getElem_cons_succ, Act.put, List.setIfInBounds_toArray, List.set_cons_zero, List.set_cons_succ])
            go_simp
            refine (HFM.out (I i) u0).mono ?_
            rintro e u1 ⟨rfl, b⟩
            have G1 : Hid (u1.heap[gc]? = some (.cells o.cl.toArray 54 (0, 0)) ∧ u1.heap[ba]? = some (.cells r.cs 63 (0, 0)) ∧ u1.heap[bw]? = some (.cells r.cs 63 (0, 0)) ∧ Below w.heap.size w u1) := ⟨(b.block _ (Array.getElem?_eq_some_iff.1 G0.out.1).1).trans G0.out.1, (b.block _ (Array.getElem?_eq_some_iff.1 G0.out.2.1).1).trans G0.out.2.1, (b.block _ (Array.getElem?_eq_some_iff.1 G0.out.2.2.1).1).trans G0.out.2.2.1, G0.out.2.2.2.trans (b.mono G0.out.2.2.2.size)⟩
            clear b
            refine hK.out _ _ (fun _ => ⟨G1.out.2.1, G1.out.1, HIM.out _ G1.out.2.2.2⟩) (fun hHeld0 => ?_)
            have hHeld := hHeld0 (by decide)
            clear hHeld0 hK K
            (try simp only [List.getElem_toArray, List.getElem_cons_zero, List.getElem_cons_succ, Act.put, List.setIfInBounds_toArray, List.set_cons_zero, List.set_cons_succ])
            refine wpAnyK_two24 (i := 8) (j := 12) (by kernel_rfl) rfl rfl (fun K hK => ?_) (fun K hK => ?_)
            · (try simp only [List.getElem_toArray, List.getElem_cons_zero, List.getElem_cons_succ, Act.put, List.setIfInBounds_toArray, List.set_cons_zero, List.set_cons_succ])
              go_simp
              refine (HOI.out r (I i) nn u1).mono ?_
              rintro e u2 ⟨rfl, b⟩
              have G2 : Hid (u2.heap[gc]? = some (.cells o.cl.toArray 54 (0, 0)) ∧ u2.heap[ba]? = some (.cells r.cs 63 (0, 0)) ∧ u2.heap[bw]? = some (.cells r.cs 63 (0, 0)) ∧ Below w.heap.size w u2) := ⟨(b.block _ (Array.getElem?_eq_some_iff.1 G1.out.1).1).trans G1.out.1, (b.block _ (Array.getElem?_eq_some_iff.1 G1.out.2.1).1).trans G1.out.2.1, (b.block _ (Array.getElem?_eq_some_iff.1 G1.out.2.2.1).1).trans G1.out.2.2.1, G1.out.2.2.2.trans (b.mono G1.out.2.2.2.size)⟩
              clear b
              refine hK.out _ _ (fun _ => ⟨G2.out.2.1, G2.out.1, HIM.out _ G2.out.2.2.2⟩) (fun hHeld0 => ?_)
              have hHeld := hHeld0 (by decide)
              clear hHeld0 hK K
              (try simp only [List.getElem_toArray, List.getElem_cons_zero, List.getElem_cons_succ, Act.put, List.setIfInBounds_toArray, List.set_cons_zero, List.set_cons_succ])
              refine wpAnyK_take (i := 9) (v := .tuple #[.agg (of25 r (I i) nn).1.cs, .int .i64 (of25 r (I i) nn).2]) rfl (by kernel_rfl) (by kernel_rfl) (by kernel_rfl) (by kernel_rfl) (fun _ _ _ h => h) (Or.inl ⟨by rfl, fun w hSw => by go_simp⟩) hHeld ?_
              simp only [List.getElem_toArray, List.getElem_cons_zero, List.getElem_cons_succ, Act.put, List.setIfInBounds_toArray, List.set_cons_zero, List.set_cons_succ]
              refine wpAnyK_take (i := 10) (v := .agg (of25 r (I i) nn).1.cs) rfl (by kernel_rfl) (by kernel_rfl) (by kernel_rfl) (by kernel_rfl) (fun _ _ _ h => h) (Or.inl ⟨by rfl, fun w hSw => by go_simp⟩) hHeld ?_
              simp only [List.getElem_toArray, List.getElem_cons_zero, List.getElem_cons_succ, Act.put, List.setIfInBounds_toArray, List.set_cons_zero, List.set_cons_succ]
              refine wpAnyK_take (i := 11) (v := .int .i64 (of25 r (I i) nn).2) rfl (by kernel_rfl) (by kernel_rfl) (by kernel_rfl) (by kernel_rfl) (fun _ _ _ h => h) (Or.inl ⟨by rfl, fun w hSw => by go_simp⟩) hHeld ?_
              simp only [List.getElem_toArray, List.getElem_cons_zero, List.getElem_cons_succ, Act.put, List.setIfInBounds_toArray, List.set_cons_zero, List.set_cons_succ]
              refine wpAnyK_one (i := 12) (by kernel_rfl) rfl (fun K hK => ?_)
              (try simp only [List.getElem_toArray, List.getElem_cons_zero, List.getElem_cons_succ, Act.put, List.setIfInBounds_toArray, List.set_cons_zero, List.set_cons_succ])
              go_simp
              obtain ⟨u3, hv⟩ : ∃ v, v = u2.alloc (.cells #[.int .i64 0, .int .i64 0, .int .i64 0, .int .i64 0, .int .u32 0, .int .i64 0, .int .i64 0, .int .i64 0, .int .u32 0, .int .i64 0] 63) := ⟨_, rfl⟩
              obtain ⟨bn, hbn⟩ : ∃ b, b = u2.heap.size := ⟨_, rfl⟩
              have b : Below u2.heap.size u2 u3 := by rw [hv]; exact (Below.refl _ _).alloc (Nat.le_refl _) _
              have HB : Hid (u3.heap[bn]? = some (.cells #[.int .i64 0, .int .i64 0, .int .i64 0, .int .i64 0, .int .u32 0, .int .i64 0, .int .i64 0, .int .i64 0, .int .u32 0, .int .i64 0] 63 (0, 0)) ∧ bw < bn) := ⟨by rw [hv, hbn]; exact heap_alloc_new _ _, by rw [hbn]; exact (Array.getElem?_eq_some_iff.1 G2.out.2.2.1).1⟩
              have G3 : Hid (u3.heap[gc]? = some (.cells o.cl.toArray 54 (0, 0)) ∧ u3.heap[ba]? = some (.cells r.cs 63 (0, 0)) ∧ u3.heap[bw]? = some (.cells r.cs 63 (0, 0)) ∧ Below w.heap.size w u3) := ⟨(b.block _ (Array.getElem?_eq_some_iff.1 G2.out.1).1).trans G2.out.1, (b.block _ (Array.getElem?_eq_some_iff.1 G2.out.2.1).1).trans G2.out.2.1, (b.block _ (Array.getElem?_eq_some_iff.1 G2.out.2.2.1).1).trans G2.out.2.2.1, G2.out.2.2.2.trans (b.mono G2.out.2.2.2.size)⟩
              rw [← hv, ← hbn]
              clear b hv hbn
              refine hK.out _ _ (fun _ => ⟨G3.out.2.1, G3.out.1, HIM.out _ G3.out.2.2.2⟩) (fun hHeld0 => ?_)
              have hHeld := hHeld0 (by decide)
              clear hHeld0 hK K
              (try simp only [List.getElem_toArray, List.getElem_cons_zero, List.getElem_cons_succ, Act.put, List.setIfInBounds_toArray, List.set_cons_zero, List.set_cons_succ])
              obtain ⟨w8, hw8⟩ : ∃ v, v = u3.setRow bn (of25 r (I i) nn).1.cs := ⟨_, rfl⟩
              have G8 : Hid (w8.heap[gc]? = some (.cells o.cl.toArray 54 (0, 0)) ∧ w8.heap[ba]? = some (.cells r.cs 63 (0, 0)) ∧ w8.heap[bw]? = some (.cells r.cs 63 (0, 0)) ∧ Below w.heap.size w w8) := ⟨by rw [hw8, old_row25 _ (by have := HB.out.2; have := H6.out.2.2.2.2; omega)]; exact G3.out.1, by rw [hw8, old_row25 _ (by have := HB.out.2; have := H6.out.2.2.2.2; omega)]; exact G3.out.2.1, by rw [hw8, old_row25 _ (by have := HB.out.2; omega)]; exact G3.out.2.2.1, by rw [hw8]; exact below_row25 G3.out.2.2.2 (by have := HB.out.2; have := H6.out.2.2.2.2; have := HBA.out; omega) _⟩
              have GB : Hid (w8.heap[bn]? = some (.cells (of25 r (I i) nn).1.cs 63 (0, 0)) ∧ bw < bn) := ⟨by rw [hw8]; exact set_row25 HB.out.1, HB.out.2⟩
              have HW8 : Hid (u3.setRow bn (of25 r (I i) nn).1.cs = w8) := hw8.symm
              clear hw8
              refine wpAnyK_one (i := 13) (by kernel_rfl) rfl (fun K hK => ?_)
              (try simp only [List.getElem_toArray, List.getElem_cons_zero, List.getElem_cons_succ, Act.put, List.setIfInBounds_toArray, List.set_cons_zero, List.set_cons_succ])
              rw [if_pos (by rfl)]
              refine wp_store_row 63 (.tmp 13) (.tmp 55) rfl bn (of25 r (I i) nn).1.cs rfl rfl _ _ HB.out.1 info_rc25 rfl (row_rc25 _) ?_
              rw [HW8.out]
              refine hK.out _ _ (fun _ => ⟨G8.out.2.1, G8.out.1, HIM.out _ G8.out.2.2.2⟩) (fun hHeld0 => ?_)
              have hHeld := hHeld0 (by decide)
              clear hHeld0 hK K
              simp only [Act.put, List.setIfInBounds_toArray, List.set_cons_zero, List.set_cons_succ]
              refine wpAnyK_one (i := 14) (by kernel_rfl) rfl (fun K hK => ?_)
              (try simp only [List.getElem_toArray, List.getElem_cons_zero, List.getElem_cons_succ, Act.put, List.setIfInBounds_toArray, List.set_cons_zero, List.set_cons_succ])
              go_simp
              refine hK.out _ _ (fun _ => ⟨G8.out.2.1, G8.out.1, HIM.out _ G8.out.2.2.2⟩) (fun hHeld0 => ?_)
              have hHeld := hHeld0 (by decide)
              clear hHeld0 hK K
              (try simp only [List.getElem_toArray, List.getElem_cons_zero, List.getElem_cons_succ, Act.put, List.setIfInBounds_toArray, List.set_cons_zero, List.set_cons_succ])
              refine wpAnyK_done (by kernel_rfl) ?_ _
              go_wp2_with fail
              go_meet
              case rel => exact ⟨bn, rfl, rfl, G8.out, GB.out.1, GB.out.2⟩
            · (try simp only [List.getElem_toArray, List.getElem_cons_zero, List.getElem_cons_succ, Act.put, List.setIfInBounds_toArray, List.set_cons_zero, List.set_cons_succ])
              go_simp
              obtain ⟨u2, hv⟩ : ∃ v, v = u1.alloc (.cells #[.int .i64 0, .int .i64 0, .int .i64 0, .int .i64 0, .int .u32 0, .int .i64 0, .int .i64 0, .int .i64 0, .int .u32 0, .int .i64 0] 63) := ⟨_, rfl⟩
              obtain ⟨bn, hbn⟩ : ∃ b, b = u1.heap.size := ⟨_, rfl⟩
              have b : Below u1.heap.size u1 u2 := by rw [hv]; exact (Below.refl _ _).alloc (Nat.le_refl _) _
              have HB : Hid (u2.heap[bn]? = some (.cells #[.int .i64 0, .int .i64 0, .int .i64 0, .int .i64 0, .int .u32 0, .int .i64 0, .int .i64 0, .int .i64 0, .int .u32 0, .int .i64 0] 63 (0, 0)) ∧ bw < bn) := ⟨by rw [hv, hbn]; exact heap_alloc_new _ _, by rw [hbn]; exact (Array.getElem?_eq_some_iff.1 G1.out.2.2.1).1⟩
              have G2 : Hid (u2.heap[gc]? = some (.cells o.cl.toArray 54 (0, 0)) ∧ u2.heap[ba]? = some (.cells r.cs 63 (0, 0)) ∧ u2.heap[bw]? = some (.cells r.cs 63 (0, 0)) ∧ Below w.heap.size w u2) := ⟨(b.block _ (Array.getElem?_eq_some_iff.1 G1.out.1).1).trans G1.out.1, (b.block _ (Array.getElem?_eq_some_iff.1 G1.out.2.1).1).trans G1.out.2.1, (b.block _ (Array.getElem?_eq_some_iff.1 G1.out.2.2.1).1).trans G1.out.2.2.1, G1.out.2.2.2.trans (b.mono G1.out.2.2.2.size)⟩
              rw [← hv, ← hbn]
              clear b hv hbn
              refine hK.out _ _ (fun _ => ⟨G2.out.2.1, G2.out.1, HIM.out _ G2.out.2.2.2⟩) (fun hHeld0 => ?_)
              have hHeld := hHeld0 (by decide)
              clear hHeld0 hK K
              (try simp only [List.getElem_toArray, List.getElem_cons_zero, List.getElem_cons_succ, Act.put, List.setIfInBounds_toArray, List.set_cons_zero, List.set_cons_succ])
              refine wpAnyK_one (i := 8) (by kernel_rfl) rfl (fun K hK => ?_)
              (try simp only [List.getElem_toArray, List.getElem_cons_zero, List.getElem_cons_succ, Act.put, List.setIfInBounds_toArray, List.set_cons_zero, List.set_cons_succ])
              go_simp
              refine (HOI.out r (I i) nn u2).mono ?_
              rintro e u3 ⟨rfl, b⟩
              have G3 : Hid (u3.heap[gc]? = some (.cells o.cl.toArray 54 (0, 0)) ∧ u3.heap[ba]? = some (.cells r.cs 63 (0, 0)) ∧ u3.heap[bw]? = some (.cells r.cs 63 (0, 0)) ∧ Below w.heap.size w u3) := ⟨(b.block _ (Array.getElem?_eq_some_iff.1 G2.out.1).1).trans G2.out.1, (b.block _ (Array.getElem?_eq_some_iff.1 G2.out.2.1).1).trans G2.out.2.1, (b.block _ (Array.getElem?_eq_some_iff.1 G2.out.2.2.1).1).trans G2.out.2.2.1, G2.out.2.2.2.trans (b.mono G2.out.2.2.2.size)⟩
              have HB' := HB.out
              clear HB
              have HB : Hid (u3.heap[bn]? = some (.cells #[.int .i64 0, .int .i64 0, .int .i64 0, .int .i64 0, .int .u32 0, .int .i64 0, .int .i64 0, .int .i64 0, .int .u32 0, .int .i64 0] 63 (0, 0)) ∧ bw < bn) := ⟨(b.block _ (Array.getElem?_eq_some_iff.1 HB'.1).1).trans HB'.1, HB'.2⟩
              clear HB'
              clear b
              refine hK.out _ _ (fun _ => ⟨G3.out.2.1, G3.out.1, HIM.out _ G3.out.2.2.2⟩) (fun hHeld0 => ?_)
              have hHeld := hHeld0 (by decide)
              clear hHeld0 hK K
              (try simp only [List.getElem_toArray, List.getElem_cons_zero, List.getElem_cons_succ, Act.put, List.setIfInBounds_toArray, List.set_cons_zero, List.set_cons_succ])
              refine wpAnyK_take (i := 9) (v := .tuple #[.agg (of25 r (I i) nn).1.cs, .int .i64 (of25 r (I i) nn).2]) rfl (by kernel_rfl) (by kernel_rfl) (by kernel_rfl) (by kernel_rfl) (fun _ _ _ h => h) (Or.inl ⟨by rfl, fun w hSw => by go_simp⟩) hHeld ?_
              simp only [List.getElem_toArray, List.getElem_cons_zero, List.getElem_cons_succ, Act.put, List.setIfInBounds_toArray, List.set_cons_zero, List.set_cons_succ]
              refine wpAnyK_take (i := 10) (v := .agg (of25 r (I i) nn).1.cs) rfl (by kernel_rfl) (by kernel_rfl) (by kernel_rfl) (by kernel_rfl) (fun _ _ _ h => h) (Or.inl ⟨by rfl, fun w hSw => by go_simp⟩) hHeld ?_
              simp only [List.getElem_toArray, List.getElem_cons_zero, List.getElem_cons_succ, Act.put, List.setIfInBounds_toArray, List.set_cons_zero, List.set_cons_succ]
              refine wpAnyK_take (i := 11) (v := .int .i64 (of25 r (I i) nn).2) rfl (by kernel_rfl) (by kernel_rfl) (by kernel_rfl) (by kernel_rfl) (fun _ _ _ h => h) (Or.inl ⟨by rfl, fun w hSw => by go_simp⟩) hHeld ?_
              simp only [List.getElem_toArray, List.getElem_cons_zero, List.getElem_cons_succ, Act.put, List.setIfInBounds_toArray, List.set_cons_zero, List.set_cons_succ]
              obtain ⟨w8, hw8⟩ : ∃ v, v = u3.setRow bn (of25 r (I i) nn).1.cs := ⟨_, rfl⟩
              have G8 : Hid (w8.heap[gc]? = some (.cells o.cl.toArray 54 (0, 0)) ∧ w8.heap[ba]? = some (.cells r.cs 63 (0, 0)) ∧ w8.heap[bw]? = some (.cells r.cs 63 (0, 0)) ∧ Below w.heap.size w w8) := ⟨by rw [hw8, old_row25 _ (by have := HB.out.2; have := H6.out.2.2.2.2; omega)]; exact G3.out.1, by rw [hw8, old_row25 _ (by have := HB.out.2; have := H6.out.2.2.2.2; omega)]; exact G3.out.2.1, by rw [hw8, old_row25 _ (by have := HB.out.2; omega)]; exact G3.out.2.2.1, by rw [hw8]; exact below_row25 G3.out.2.2.2 (by have := HB.out.2; have := H6.out.2.2.2.2; have := HBA.out; omega) _⟩
              have GB : Hid (w8.heap[bn]? = some (.cells (of25 r (I i) nn).1.cs 63 (0, 0)) ∧ bw < bn) := ⟨by rw [hw8]; exact set_row25 HB.out.1, HB.out.2⟩
              have HW8 : Hid (u3.setRow bn (of25 r (I i) nn).1.cs = w8) := hw8.symm
              clear hw8
              refine wpAnyK_one (i := 13) (by kernel_rfl) rfl (fun K hK => ?_)
              (try simp only [List.getElem_toArray, List.getElem_cons_zero, List.getElem_cons_succ, Act.put, List.setIfInBounds_toArray, List.set_cons_zero, List.set_cons_succ])
              rw [if_pos (by rfl)]
              refine wp_store_row 63 (.tmp 13) (.tmp 55) rfl bn (of25 r (I i) nn).1.cs rfl rfl _ _ HB.out.1 info_rc25 rfl (row_rc25 _) ?_
              rw [HW8.out]
              refine hK.out _ _ (fun _ => ⟨G8.out.2.1, G8.out.1, HIM.out _ G8.out.2.2.2⟩) (fun hHeld0 => ?_)
              have hHeld := hHeld0 (by decide)
              clear hHeld0 hK K
              simp only [Act.put, List.setIfInBounds_toArray, List.set_cons_zero, List.set_cons_succ]
              refine wpAnyK_one (i := 14) (by kernel_rfl) rfl (fun K hK => ?_)
              (try simp only [List.getElem_toArray, List.getElem_cons_zero, List.getElem_cons_succ, Act.put, List.setIfInBounds_toArray, List.set_cons_zero, List.set_cons_succ])
              go_simp
              refine hK.out _ _ (fun _ => ⟨G8.out.2.1, G8.out.1, HIM.out _ G8.out.2.2.2⟩) (fun hHeld0 => ?_)
              have hHeld := hHeld0 (by decide)
              clear hHeld0 hK K
              (try simp only [List.getElem_toArray, List.getElem_cons_zero, List.getElem_cons_succ, Act.put, List.setIfInBounds_toArray, List.set_cons_zero, List.set_cons_succ])
              refine wpAnyK_done (by kernel_rfl) ?_ _
              go_wp2_with fail
              go_meet
              case rel => exact ⟨bn, rfl, rfl, G8.out, GB.out.1, GB.out.2⟩
          · (try simp only [List.getElem_toArray, List.getElem_cons_zero, List.getElem_cons_succ, Act.put, List.setIfInBounds_toArray, List.set_cons_zero, List.set_cons_succ])
            go_simp
            obtain ⟨u1, hv⟩ : ∃ v, v = u0.alloc (.cells #[.int .i64 0, .int .i64 0, .int .i64 0, .int .i64 0, .int .u32 0, .int .i64 0, .int .i64 0, .int .i64 0, .int .u32 0, .int .i64 0] 63) := ⟨_, rfl⟩
            obtain ⟨bn, hbn⟩ : ∃ b, b = u0.heap.size := ⟨_, rfl⟩
            have b : Below u0.heap.size u0 u1 := by rw [hv]; exact (Below.refl _ _).alloc (Nat.le_refl _) _
            have HB : Hid (u1.heap[bn]? = some (.cells #[.int .i64 0, .int .i64 0, .int .i64 0, .int .i64 0, .int .u32 0, .int .i64 0, .int .i64 0, .int .i64 0, .int .u32 0, .int .i64 0] 63 (0, 0)) ∧ bw < bn) := ⟨by rw [hv, hbn]; exact heap_alloc_new _ _, by rw [hbn]; exact (Array.getElem?_eq_some_iff.1 G0.out.2.2.1).1⟩
            have G1 : Hid (u1.heap[gc]? = some (.cells o.cl.toArray 54 (0, 0)) ∧ u1.heap[ba]? = some (.cells r.cs 63 (0, 0)) ∧ u1.heap[bw]? = some (.cells r.cs 63 (0, 0)) ∧ Below w.heap.size w u1) := ⟨(b.block _ (Array.getElem?_eq_some_iff.1 G0.out.1).1).trans G0.out.1, (b.block _ (Array.getElem?_eq_some_iff.1 G0.out.2.1).1).trans G0.out.2.1, (b.block _ (Array.getElem?_eq_some_iff.1 G0.out.2.2.1).1).trans G0.out.2.2.1, G0.out.2.2.2.trans (b.mono G0.out.2.2.2.size)⟩
            rw [← hv, ← hbn]
            clear b hv hbn
            refine hK.out _ _ (fun _ => ⟨G1.out.2.1, G1.out.1, HIM.out _ G1.out.2.2.2⟩) (fun hHeld0 => ?_)
            have hHeld := hHeld0 (by decide)
            clear hHeld0 hK K
            (try simp only [List.getElem_toArray, List.getElem_cons_zero, List.getElem_cons_succ, Act.put, List.setIfInBounds_toArray, List.set_cons_zero, List.set_cons_succ])
            refine wpAnyK_one (i := 5) (by kernel_rfl) rfl (fun K hK => ?_)
            (try simp only [List.getElem_toArray, List.getElem_cons_zero, List.getElem_cons_succ, Act.put, List.setIfInBounds_toArray, List.set_cons_zero, List.set_cons_succ])
            go_simp
            refine (HFM.out (I i) u1).mono ?_
            rintro e u2 ⟨rfl, b⟩
            have G2 : Hid (u2.heap[gc]? = some (.cells o.cl.toArray 54 (0, 0)) ∧ u2.heap[ba]? = some (.cells r.cs 63 (0, 0)) ∧ u2.heap[bw]? = some (.cells r.cs 63 (0, 0)) ∧ Below w.heap.size w u2) := ⟨(b.block _ (Array.getElem?_eq_some_iff.1 G1.out.1).1).trans G1.out.1, (b.block _ (Array.getElem?_eq_some_iff.1 G1.out.2.1).1).trans G1.out.2.1, (b.block _ (Array.getElem?_eq_some_iff.1 G1.out.2.2.1).1).trans G1.out.2.2.1, G1.out.2.2.2.trans (b.mono G1.out.2.2.2.size)⟩
            have HB' := HB.out
            clear HB
            have HB : Hid (u2.heap[bn]? = some (.cells #[.int .i64 0, .int .i64 0, .int .i64 0, .int .i64 0, .int .u32 0, .int .i64 0, .int .i64 0, .int .i64 0, .int .u32 0, .int .i64 0] 63 (0, 0)) ∧ bw < bn) := ⟨(b.block _ (Array.getElem?_eq_some_iff.1 HB'.1).1).trans HB'.1, HB'.2⟩
            clear HB'
            clear b
            refine hK.out _ _ (fun _ => ⟨G2.out.2.1, G2.out.1, HIM.out _ G2.out.2.2.2⟩) (fun hHeld0 => ?_)
            have hHeld := hHeld0 (by decide)
            clear hHeld0 hK K
            (try simp only [List.getElem_toArray, List.getElem_cons_zero, List.getElem_cons_succ, Act.put, List.setIfInBounds_toArray, List.set_cons_zero, List.set_cons_succ])
            refine wpAnyK_one (i := 8) (by kernel_rfl) rfl (fun K hK => ?_)
            (try simp only [List.getElem_toArray, List.getElem_cons_zero, List.getElem_cons_succ, Act.put, List.setIfInBounds_toArray, List.set_cons_zero, List.set_cons_succ])
            go_simp
            refine (HOI.out r (I i) nn u2).mono ?_
            rintro e u3 ⟨rfl, b⟩
            have G3 : Hid (u3.heap[gc]? = some (.cells o.cl.toArray 54 (0, 0)) ∧ u3.heap[ba]? = some (.cells r.cs 63 (0, 0)) ∧ u3.heap[bw]? = some (.cells r.cs 63 (0, 0)) ∧ Below w.heap.size w u3) := ⟨(b.block _ (Array.getElem?_eq_some_iff.1 G2.out.1).1).trans G2.out.1, (b.block _ (Array.getElem?_eq_some_iff.1 G2.out.2.1).1).trans G2.out.2.1, (b.block _ (Array.getElem?_eq_some_iff.1 G2.out.2.2.1).1).trans G2.out.2.2.1, G2.out.2.2.2.trans (b.mono G2.out.2.2.2.size)⟩
            have HB' := HB.out
            clear HB
            have HB : Hid (u3.heap[bn]? = some (.cells #[.int .i64 0, .int .i64 0, .int .i64 0, .int .i64 0, .int .u32 0, .int .i64 0, .int .i64 0, .int .i64 0, .int .u32 0, .int .i64 0] 63 (0, 0)) ∧ bw < bn) := ⟨(b.block _ (Array.getElem?_eq_some_iff.1 HB'.1).1).trans HB'.1, HB'.2⟩
            clear HB'
            clear b
            refine hK.out _ _ (fun _ => ⟨G3.out.2.1, G3.out.1, HIM.out _ G3.out.2.2.2⟩) (fun hHeld0 => ?_)
            have hHeld := hHeld0 (by decide)
            clear hHeld0 hK K
            (try simp only [List.getElem_toArray, List.getElem_cons_zero, List.getElem_cons_succ, Act.put, List.setIfInBounds_toArray, List.set_cons_zero, List.set_cons_succ])
            refine wpAnyK_take (i := 9) (v := .tuple #[.agg (of25 r (I i) nn).1.cs, .int .i64 (of25 r (I i) nn).2]) rfl (by kernel_rfl) (by kernel_rfl) (by kernel_rfl) (by kernel_rfl) (fun _ _ _ h => h) (Or.inl ⟨by rfl, fun w hSw => by go_simp⟩) hHeld ?_
            simp only [List.getElem_toArray, List.getElem_cons_zero, List.getElem_cons_succ, Act.put, List.setIfInBounds_toArray, List.set_cons_zero, List.set_cons_succ]
            refine wpAnyK_take (i := 10) (v := .agg (of25 r (I i) nn).1.cs) rfl (by kernel_rfl) (by kernel_rfl) (by kernel_rfl) (by kernel_rfl) (fun _ _ _ h => h) (Or.inl ⟨by rfl, fun w hSw => by go_simp⟩) hHeld ?_
            simp only [List.getElem_toArray, List.getElem_cons_zero, List.getElem_cons_succ, Act.put, List.setIfInBounds_toArray, List.set_cons_zero, List.set_cons_succ]
            refine wpAnyK_take (i := 11) (v := .int .i64 (of25 r (I i) nn).2) rfl (by kernel_rfl) (by kernel_rfl) (by kernel_rfl) (by kernel_rfl) (fun _ _ _ h => h) (Or.inl ⟨by rfl, fun w hSw => by go_simp⟩) hHeld ?_
            simp only [List.getElem_toArray, List.getElem_cons_zero, List.getElem_cons_succ, Act.put, List.setIfInBounds_toArray, List.set_cons_zero, List.set_cons_succ]
            obtain ⟨w8, hw8⟩ : ∃ v, v = u3.setRow bn (of25 r (I i) nn).1.cs := ⟨_, rfl⟩
            have G8 : Hid (w8.heap[gc]? = some (.cells o.cl.toArray 54 (0, 0)) ∧ w8.heap[ba]? = some (.cells r.cs 63 (0, 0)) ∧ w8.heap[bw]? = some (.cells r.cs 63 (0, 0)) ∧ Below w.heap.size w w8) := ⟨by rw [hw8, old_row25 _ (by have := HB.out.2; have := H6.out.2.2.2.2; omega)]; exact G3.out.1, by rw [hw8, old_row25 _ (by have := HB.out.2; have := H6.out.2.2.2.2; omega)]; exact G3.out.2.1, by rw [hw8, old_row25 _ (by have := HB.out.2; omega)]; exact G3.out.2.2.1, by rw [hw8]; exact below_row25 G3.out.2.2.2 (by have := HB.out.2; have := H6.out.2.2.2.2; have := HBA.out; omega) _⟩
            have GB : Hid (w8.heap[bn]? = some (.cells (of25 r (I i) nn).1.cs 63 (0, 0)) ∧ bw < bn) := ⟨by rw [hw8]; exact set_row25 HB.out.1, HB.out.2⟩
            have HW8 : Hid (u3.setRow bn (of25 r (I i) nn).1.cs = w8) := hw8.symm
            clear hw8
            refine wpAnyK_one (i := 13) (by kernel_rfl) rfl (fun K hK => ?_)
            (try simp only [List.getElem_toArray, List.getElem_cons_zero, List.getElem_cons_succ, Act.put, List.setIfInBounds_toArray, List.set_cons_zero, List.set_cons_succ])
            rw [if_pos (by rfl)]
            refine wp_store_row 63 (.tmp 13) (.tmp 55) rfl bn (of25 r (I i) nn).1.cs rfl rfl _ _ HB.out.1 info_rc25 rfl (row_rc25 _) ?_
            rw [HW8.out]
            refine hK.out _ _ (fun _ => ⟨G8.out.2.1, G8.out.1, HIM.out _ G8.out.2.2.2⟩) (fun hHeld0 => ?_)
            have hHeld := hHeld0 (by decide)
            clear hHeld0 hK K
            simp only [Act.put, List.setIfInBounds_toArray, List.set_cons_zero, List.set_cons_succ]
            refine wpAnyK_one (i := 14) (by kernel_rfl) rfl (fun K hK => ?_)
            (try simp only [List.getElem_toArray, List.getElem_cons_zero, List.getElem_cons_succ, Act.put, List.setIfInBounds_toArray, List.set_cons_zero, List.set_cons_succ])
            go_simp
            refine hK.out _ _ (fun _ => ⟨G8.out.2.1, G8.out.1, HIM.out _ G8.out.2.2.2⟩) (fun hHeld0 => ?_)
            have hHeld := hHeld0 (by decide)
            clear hHeld0 hK K
            (try simp only [List.getElem_toArray, List.getElem_cons_zero, List.getElem_cons_succ, Act.put, List.setIfInBounds_toArray, List.set_cons_zero, List.set_cons_succ])
            refine wpAnyK_done (by kernel_rfl) ?_ _
            go_wp2_with fail
            go_meet
            case rel => exact ⟨bn, rfl, rfl, G8.out, GB.out.1, GB.out.2⟩
        case rest =>
          obtain ⟨bn, rfl, rfl, hF, hB, hbb⟩ := hcut
          have G9 : Hid (wc.heap[gc]? = some (.cells o.cl.toArray 54 (0, 0)) ∧ wc.heap[ba]? = some (.cells r.cs 63 (0, 0)) ∧ wc.heap[bw]? = some (.cells r.cs 63 (0, 0)) ∧ Below w.heap.size w wc) := hF
          have GB : Hid (wc.heap[bn]? = some (.cells (of25 r (I i) nn).1.cs 63 (0, 0)) ∧ bw < bn) := ⟨hB, hbb⟩
          clear hF hB hbb
          have HOF : Hid ((of25 r (I i) nn).2 = 0 → (of25 r (I i) nn).1.may ∧ (of25 r (I i) nn).1.g = r.g ∧ (of25 r (I i) nn).1.t = nn ∧ nn ≤ 15) := fun h => offer25 HSS.out.iv.1 h
          generalize (of25 r (I i) nn).1 = A2 at *
          generalize (of25 r (I i) nn).2 = E2 at *
          have HBI := hbi.out r.g
          by_cases he : E2 = 0
          · subst he
            obtain ⟨a1', a2', a3', a4'⟩ := HOF.out rfl
            have HA2 : Hid (A2.may ∧ A2.g = r.g ∧ A2.t = nn ∧ nn ≤ 15) := ⟨a1', a2', a3', a4'⟩
            obtain ⟨w10, hw⟩ : ∃ v, v = wc.drew := ⟨_, rfl⟩
            have HWD : Hid (wc.drew = w10) := hw.symm
            have b : Below wc.heap.size wc w10 := by rw [hw]; exact (Below.refl _ _).drew
            have G10 : Hid ((w10.heap[gc]? = some (.cells o.cl.toArray 54 (0, 0)) ∧ w10.heap[ba]? = some (.cells r.cs 63 (0, 0)) ∧ w10.heap[bw]? = some (.cells r.cs 63 (0, 0)) ∧ Below w.heap.size w w10) ∧ w10.heap[bn]? = some (.cells A2.cs 63 (0, 0))) := ⟨⟨(b.block _ (Array.getElem?_eq_some_iff.1 G9.out.1).1).trans G9.out.1, (b.block _ (Array.getElem?_eq_some_iff.1 G9.out.2.1).1).trans G9.out.2.1, (b.block _ (Array.getElem?_eq_some_iff.1 G9.out.2.2.1).1).trans G9.out.2.2.1, G9.out.2.2.2.trans (b.mono G9.out.2.2.2.size)⟩, (b.block _ (Array.getElem?_eq_some_iff.1 GB.out.1).1).trans GB.out.1⟩
            clear hw b a1' a2' a3' a4'
            go_upto_region 14 with fail
            refine plain_region16 (fun V => V.heap[bn]? = some (.cells A2.cs 63 (0, 0)) ∧ V.heap[gc]? = some (.cells o.cl.toArray 54 (0, 0))) 5 (by kernel_rfl) (by rw [HWD.out]; exact ⟨G10.out.2, G10.out.1.1⟩) (fun hHeld => ?_)
            rw [HWD.out] at hHeld ⊢
            clear HWD
            refine wpAnyK_take (i := 0) (v := .agg A2.cs) rfl (by kernel_rfl) (by kernel_rfl) (by kernel_rfl) (by kernel_rfl) (fun _ _ _ h => h) (yields_row25 (by rfl) 63 (.tmp 13) rfl bn rfl _ _ _ _ (fun w h => h.1) Tryd.underlying63 rfl info_rc25) hHeld ?_
            (try simp only [List.getElem_toArray, List.getElem_cons_zero, List.getElem_cons_succ, Act.put, List.setIfInBounds_toArray, List.set_cons_zero, List.set_cons_succ])
            refine wpAnyK_take (i := 1) (v := .pointer (some ⟨gc, 11, none⟩)) rfl (by kernel_rfl) (by kernel_rfl) (by kernel_rfl) (by kernel_rfl) (fun _ _ _ h => h) (Or.inl ⟨by rfl, fun w hSw => by go_simp⟩) hHeld ?_
            simp only [List.getElem_toArray, List.getElem_cons_zero, List.getElem_cons_succ, Act.put, List.setIfInBounds_toArray, List.set_cons_zero, List.set_cons_succ]
            refine wpAnyK_take (i := 2) (v := .int .i64 nn) rfl (by kernel_rfl) (by kernel_rfl) (by kernel_rfl) (by kernel_rfl) (fun _ _ _ h => h) (Or.inl ⟨by rfl, fun V hSw => by
              have m11 : V.cell? ⟨gc, 11, none⟩ = some (.int .i64 nn) := by rw [← HN.out]; exact cell25 hSw.2 rfl
              go_simp⟩) hHeld ?_
            simp only [List.getElem_toArray, List.getElem_cons_zero, List.getElem_cons_succ, Act.put, List.setIfInBounds_toArray, List.set_cons_zero, List.set_cons_succ]
            obtain ⟨w11, hw⟩ : ∃ v, v = w10.setRow ba A2.cs := ⟨_, rfl⟩
            have HWE : Hid (w10.setRow ba A2.cs = w11) := hw.symm
            have G11 : Hid (w11.heap[ba]? = some (.cells A2.cs 63 (0, 0)) ∧ w11.heap[bn]? = some (.cells A2.cs 63 (0, 0)) ∧ w11.heap[gc]? = some (.cells o.cl.toArray 54 (0, 0)) ∧ w11.heap[bw]? = some (.cells r.cs 63 (0, 0)) ∧ Below w.heap.size w w11) := ⟨by rw [hw]; exact set_row25 G10.out.1.2.1, by rw [hw, old_row25 _ (by have := GB.out.2; have := H6.out.2.2.2.2; omega)]; exact G10.out.2, by rw [hw, old_row25 _ (by have := H6.out.2.2.2.2; omega)]; exact G10.out.1.1, by rw [hw, old_row25 _ (by have := H6.out.2.2.2.2; omega)]; exact G10.out.1.2.2.1, by rw [hw]; exact below_row25 G10.out.1.2.2.2 HBA.out _⟩
            clear hw
            refine wpAnyK_one (i := 3) (by kernel_rfl) rfl (fun K hK => ?_)
            (try simp only [List.getElem_toArray, List.getElem_cons_zero, List.getElem_cons_succ, Act.put, List.setIfInBounds_toArray, List.set_cons_zero, List.set_cons_succ])
            rw [if_pos (by rfl)]
            refine wp_store_row 63 (.tmp 7) (.tmp 59) rfl ba A2.cs rfl rfl _ _ G10.out.1.2.1 info_rc25 rfl (row_rc25 A2) ?_
            rw [HWE.out]
            refine hK.out _ _ (fun _ => ⟨G11.out.2.1, G11.out.2.2.1⟩) (fun hHeld0 => ?_)
            have hHeld := hHeld0 (by decide)
            clear hHeld0 hK K
            simp only [Act.put, List.setIfInBounds_toArray, List.set_cons_zero, List.set_cons_succ]
            refine wpAnyK_one (i := 4) (by kernel_rfl) rfl (fun K hK => ?_)
            (try simp only [List.getElem_toArray, List.getElem_cons_zero, List.getElem_cons_succ, Act.put, List.setIfInBounds_toArray, List.set_cons_zero, List.set_cons_succ])
            go_simp
            refine hK.out _ _ (fun _ => ⟨G11.out.2.1, G11.out.2.2.1⟩) (fun hHeld0 => ?_)
            have hHeld := hHeld0 (by decide)
            clear hHeld0 hK K
            (try simp only [List.getElem_toArray, List.getElem_cons_zero, List.getElem_cons_succ, Act.put, List.setIfInBounds_toArray, List.set_cons_zero, List.set_cons_succ])
            refine wpAnyK_done (by kernel_rfl) ?_ _
            have lg := ld_good25 G11.out.1
            rw [HA2.out.2.1] at lg
            have LG : Hid (w11.rangeAt ba 1 r.g.cs.toList ∧ w11.rangeAt bw 1 r.g.cs.toList) := ⟨lg, ld_good25 G11.out.2.2.2.1⟩
            clear lg HBI
            go_wp2_with (first | refine wpList_ldI25 rfl 61 (.tmp 62) rfl ba 1 rfl r.g _ LG.out.1 Tryd.underlying61 rfl info_im25 ?_ | refine wpList_ldI25 rfl 61 (.tmp 64) rfl bw 1 rfl r.g _ LG.out.2 Tryd.underlying61 rfl info_im25 ?_ | refine wpList_bin25 rfl .neq 61 (.tmp 63) (.tmp 65) 61 rfl rfl rfl egi25 (hbi.out r.g w11) ?_)
            go_meet
            case rel => exact ⟨A2, nn, rfl, ⟨G11.out.1, G11.out.2.2.2.2, HA2.out.1, by rw [HA2.out.2.2.1]; exact Int.le_refl _, HA2.out.2.2.2⟩, G11.out.2.2.2.1, by rw [HA2.out.2.1]; exact Int.le_refl _⟩
          · clear HBI
            have LG : Hid (wc.rangeAt ba 1 r.g.cs.toList ∧ wc.rangeAt bw 1 r.g.cs.toList) := ⟨ld_good25 G9.out.2.1, ld_good25 G9.out.2.2.1⟩
            go_wp2_with (first | refine wpList_ldI25 rfl 61 (.tmp 62) rfl ba 1 rfl r.g _ LG.out.1 Tryd.underlying61 rfl info_im25 ?_ | refine wpList_ldI25 rfl 61 (.tmp 64) rfl bw 1 rfl r.g _ LG.out.2 Tryd.underlying61 rfl info_im25 ?_ | refine wpList_bin25 rfl .neq 61 (.tmp 63) (.tmp 65) 61 rfl rfl rfl egi25 (hbi.out r.g wc) ?_)
            go_meet
            case rel => exact ⟨r, l, rfl, ⟨G9.out.2.1, G9.out.2.2.2, HSS.out.iv⟩, G9.out.2.2.1, Int.le_refl _⟩
      by_cases k1 : k = 1
      · subst k1
        obtain ⟨f1, f2, f3, f4⟩ := start25 HSS.out.iv.1
        have HF : Hid ((st25 r).1.g = r.g ∧ (st25 r).1.may) := ⟨f2, f3⟩
        have HC := HSI.out r
        rw [f1] at HC
        have HSC : Hid (∀ W, Calls Tryd.prog 34 #[.agg r.cs] W fun e w' => e = .returned (.tuple #[.agg (st25 r).1.cs, .agg (st25 r).2.1.cs, .int .i64 0]) ∧ Below W.heap.size W w') := HC
        have HF4 : Hid ((0 < r.t ∧ (st25 r).2.1 = r.n ∧ r.n ≠ r.g ∧ (st25 r).1.t = r.t - 1) ∨ ((st25 r).2.1 = r.g ∧ (st25 r).1.t = 0)) := f4
        clear f1 f2 f3 f4 HC HSI
        generalize (st25 r).1 = A3 at *
        generalize (st25 r).2.1 = I3 at *
        have m0 : w6.cell? ⟨gc, 0, none⟩ = some (.int .i64 1) := M0.out
        go_upto_region 18 with fail
        clear m0
        go_wp2_with (refine wpList_load_row rfl 63 (.tmp 7) rfl ba rfl _ r.cs _ _ H66.out.2.1 Tryd.underlying63 rfl info_rc25 ?_)
        refine (HSC.out w6).mono ?_
        rintro e v1 ⟨rfl, b⟩
        have G1 : Hid (v1.heap[gc]? = some (.cells o.cl.toArray 54 (0, 0)) ∧ v1.heap[ba]? = some (.cells r.cs 63 (0, 0)) ∧ v1.heap[bw]? = some (.cells r.cs 63 (0, 0)) ∧ Below w.heap.size w v1) := ⟨(b.block _ (Array.getElem?_eq_some_iff.1 H66.out.1).1).trans H66.out.1, (b.block _ (Array.getElem?_eq_some_iff.1 H66.out.2.1).1).trans H66.out.2.1, (b.block _ (Array.getElem?_eq_some_iff.1 H66.out.2.2.1).1).trans H66.out.2.2.1, H66.out.2.2.2.trans (b.mono H66.out.2.2.2.size)⟩
        clear b
        have x1 : ((v1.alloc (.cells #[.int .i64 0, .int .i64 0, .int .i64 0, .int .i64 0, .int .u32 0, .int .i64 0, .int .i64 0, .int .i64 0, .int .u32 0, .int .i64 0] 63)).alloc (.cells #[.int .i64 0, .int .i64 0, .int .i64 0, .int .u32 0] 61)).heap[v1.heap.size]? = some (.cells #[.int .i64 0, .int .i64 0, .int .i64 0, .int .i64 0, .int .u32 0, .int .i64 0, .int .i64 0, .int .i64 0, .int .u32 0, .int .i64 0] 63 (0, 0)) := by rw [heap_alloc_old _ _ (by simp)]; exact heap_alloc_new _ _
        have x2 : (((v1.alloc (.cells #[.int .i64 0, .int .i64 0, .int .i64 0, .int .i64 0, .int .u32 0, .int .i64 0, .int .i64 0, .int .i64 0, .int .u32 0, .int .i64 0] 63)).alloc (.cells #[.int .i64 0, .int .i64 0, .int .i64 0, .int .u32 0] 61)).setRow v1.heap.size A3.cs).heap[v1.heap.size + 1]? = some (.cells #[.int .i64 0, .int .i64 0, .int .i64 0, .int .u32 0] 61 (0, 0)) := by rw [old_row25 _ (by omega)]; exact heap_alloc2_new _ _ _
        obtain ⟨v2, hv⟩ : ∃ v, v = (((v1.alloc (.cells #[.int .i64 0, .int .i64 0, .int .i64 0, .int .i64 0, .int .u32 0, .int .i64 0, .int .i64 0, .int .i64 0, .int .u32 0, .int .i64 0] 63)).alloc (.cells #[.int .i64 0, .int .i64 0, .int .i64 0, .int .u32 0] 61)).setRow v1.heap.size A3.cs).setRow (v1.heap.size + 1) I3.cs := ⟨_, rfl⟩
        obtain ⟨bn, hbn⟩ : ∃ b, b = v1.heap.size := ⟨_, rfl⟩
        have HX : Hid _ := And.intro x1 x2
        have y1 : v2.heap[bn]? = some (.cells A3.cs 63 (0, 0)) := by rw [hv, hbn, old_row25 _ (by omega)]; exact set_row25 x1
        have y2 : v2.heap[bn + 1]? = some (.cells I3.cs 61 (0, 0)) := by rw [hv, hbn]; exact set_row25 x2
        have b : Below v1.heap.size v1 v2 := by rw [hv]; exact below_row25 (below_row25 (((Below.refl _ _).alloc (Nat.le_refl _) _).alloc (by simp) _) (Nat.le_refl _) _) (by omega) _
        have G2 : Hid (v2.heap[gc]? = some (.cells o.cl.toArray 54 (0, 0)) ∧ v2.heap[ba]? = some (.cells r.cs 63 (0, 0)) ∧ v2.heap[bw]? = some (.cells r.cs 63 (0, 0)) ∧ Below w.heap.size w v2) := ⟨(b.block _ (Array.getElem?_eq_some_iff.1 G1.out.1).1).trans G1.out.1, (b.block _ (Array.getElem?_eq_some_iff.1 G1.out.2.1).1).trans G1.out.2.1, (b.block _ (Array.getElem?_eq_some_iff.1 G1.out.2.2.1).1).trans G1.out.2.2.1, G1.out.2.2.2.trans (b.mono G1.out.2.2.2.size)⟩
        have GB : Hid (v2.heap[bn]? = some (.cells A3.cs 63 (0, 0)) ∧ v2.heap[bn + 1]? = some (.cells I3.cs 61 (0, 0)) ∧ bw < bn) := ⟨y1, y2, by rw [hbn]; exact (Array.getElem?_eq_some_iff.1 G1.out.2.2.1).1⟩
        have HV : Hid ((((v1.alloc (.cells #[.int .i64 0, .int .i64 0, .int .i64 0, .int .i64 0, .int .u32 0, .int .i64 0, .int .i64 0, .int .i64 0, .int .u32 0, .int .i64 0] 63)).alloc (.cells #[.int .i64 0, .int .i64 0, .int .i64 0, .int .u32 0] 61)).setRow v1.heap.size A3.cs).setRow (v1.heap.size + 1) I3.cs = v2 ∧ v1.heap.size = bn) := ⟨hv.symm, hbn.symm⟩
        clear hv hbn x1 x2 y1 y2 b
        go_upto_region 19 with (first | refine wpList_store_row rfl 63 (.tmp 15) (.tmp 72) rfl v1.heap.size A3.cs rfl rfl _ _ HX.out.1 info_rc25 rfl (row_rc25 A3) ?_ | refine wpList_store_row rfl 61 (.tmp 16) (.tmp 73) rfl (v1.heap.size + 1) I3.cs rfl rfl _ _ HX.out.2 info_im25 rfl (row_im25 I3) ?_)
        rw [HV.out.1, HV.out.2]
        clear HX HV
        have lg := ld_good25 GB.out.1
        rw [HF.out.1] at lg
        have LG : Hid (v2.rangeAt bn 1 r.g.cs.toList ∧ v2.rangeAt ba 1 r.g.cs.toList ∧ v2.rangeAt ba 5 r.n.cs.toList) := ⟨lg, ld_good25 G2.out.2.1, ld_next25 G2.out.2.1⟩
        clear lg
        go_upto_region 21 with (first | (refine wpList_ung25 rfl ?_; refine wpList_ldI25 rfl 61 (.tmp 78) rfl bn 1 rfl r.g _ LG.out.1 Tryd.underlying61 rfl info_im25 ?_) | (refine wpList_ung25 rfl ?_; refine wpList_ldI25 rfl 61 (.tmp 80) rfl ba 1 rfl r.g _ LG.out.2.1 Tryd.underlying61 rfl info_im25 ?_) | (refine wpList_ung25 rfl ?_; refine wpList_bin25 rfl .neq 61 (.tmp 79) (.tmp 81) 61 rfl rfl rfl egi25 (hbi.out r.g v2) ?_))
        obtain ⟨v3, hv⟩ : ∃ v, v = v2.setRow ba A3.cs := ⟨_, rfl⟩
        have HV : Hid (v2.setRow ba A3.cs = v3) := hv.symm
        have G3 : Hid (v3.heap[ba]? = some (.cells A3.cs 63 (0, 0)) ∧ v3.heap[bw]? = some (.cells r.cs 63 (0, 0)) ∧ Below w.heap.size w v3) := ⟨by rw [hv]; exact set_row25 G2.out.2.1, by rw [hv, old_row25 _ (by have := H6.out.2.2.2.2; omega)]; exact G2.out.2.2.1, by rw [hv]; exact below_row25 G2.out.2.2.2 HBA.out _⟩
        clear hv
        have HRT := HSS.out.at_
        rcases HF4.out with ⟨t1, t2, t3, t4⟩ | ⟨t2, t4⟩
        · subst t2
          have HTT : Hid (A3.t ≤ l - 1 ∧ l - 1 ≤ 15) := ⟨by omega, by omega⟩
          have HNE : Hid (r.n ≠ r.g) := t3
          have hl1 : IntKind.i64.wrap (l - 1) = l - 1 := IntWalk.i64_in _ ⟨by omega, by omega⟩
          have hl1' : wrap64 (l - 1) = l - 1 := IntWalk.wrap64_in _ ⟨by omega, by omega⟩
          have hl2 : ¬ (l - 1 < 0) := by omega
          obtain ⟨l1, hll⟩ : ∃ x, x = l - 1 := ⟨_, rfl⟩
          have hw1 : IntKind.i64.wrap (l - 1) = l1 := by rw [hll]; exact hl1
          have hw2 : wrap64 (l - 1) = l1 := by rw [hll]; exact hl1'
          rw [← hll] at hl2
          have HTU : Hid (A3.t ≤ l1 ∧ l1 ≤ 15) := by rw [hll]; exact HTT.out
          have hl3 : ¬ (l1 < 0) := hl2
          have HL1 : Hid (l - 1 = l1) := hll.symm
          clear t1 t3 t4 hll HRT HF4 HTT hl2 hl1 hl1'
          go_wp2_with (first | refine wpList_load_row rfl 61 (.tmp 16) rfl (bn + 1) rfl _ r.n.cs _ _ GB.out.2.1 Tryd.underlying61 rfl info_im25 ?_ | (refine wpList_ung25 rfl ?_; refine wpList_load_row rfl 61 (.tmp 16) rfl (bn + 1) rfl _ r.n.cs _ _ GB.out.2.1 Tryd.underlying61 rfl info_im25 ?_) | refine wpList_ldI25 rfl 61 (.tmp 85) rfl ba 1 rfl r.g _ LG.out.2.1 Tryd.underlying61 rfl info_im25 ?_ | (refine wpList_ung25 rfl ?_; refine wpList_ldI25 rfl 61 (.tmp 94) rfl ba 5 rfl r.n _ LG.out.2.2 Tryd.underlying61 rfl info_im25 ?_) | refine wpList_bin25 rfl .neq 61 (.tmp 84) (.tmp 86) 61 rfl rfl rfl egi25 (hbn.out r.n r.g v2 HNE.out) ?_ | (refine wpList_ung25 rfl ?_; refine wpList_bin25 rfl .neq 61 (.tmp 93) (.tmp 95) 61 rfl rfl rfl egi25 (hbi.out r.n v2) ?_) | refine wpList_load_row rfl 63 (.tmp 15) rfl bn rfl _ A3.cs _ _ GB.out.1 Tryd.underlying63 rfl info_rc25 ?_ | refine wpList_store_row rfl 63 (.tmp 7) (.tmp 98) rfl ba A3.cs rfl rfl _ _ G2.out.2.1 info_rc25 rfl (row_rc25 A3) ?_)
          rw [HV.out]
          go_meet
          case rel => exact ⟨A3, l1, rfl, ⟨G3.out.1, G3.out.2.2, HF.out.2, HTU.out⟩, G3.out.2.1, by rw [HF.out.1]; exact Int.le_refl _⟩
        · subst t2
          have HTU : Hid (A3.t ≤ l ∧ l ≤ 15) := ⟨by omega, by omega⟩
          clear t4 HRT HF4
          go_wp2_with (first | refine wpList_load_row rfl 61 (.tmp 16) rfl (bn + 1) rfl _ r.g.cs _ _ GB.out.2.1 Tryd.underlying61 rfl info_im25 ?_ | refine wpList_ldI25 rfl 61 (.tmp 85) rfl ba 1 rfl r.g _ LG.out.2.1 Tryd.underlying61 rfl info_im25 ?_ | refine wpList_bin25 rfl .neq 61 (.tmp 84) (.tmp 86) 61 rfl rfl rfl egi25 (hbi.out r.g v2) ?_ | refine wpList_load_row rfl 63 (.tmp 15) rfl bn rfl _ A3.cs _ _ GB.out.1 Tryd.underlying63 rfl info_rc25 ?_ | refine wpList_store_row rfl 63 (.tmp 7) (.tmp 98) rfl ba A3.cs rfl rfl _ _ G2.out.2.1 info_rc25 rfl (row_rc25 A3) ?_)
          rw [HV.out]
          go_meet
          case rel => exact ⟨A3, l, rfl, ⟨G3.out.1, G3.out.2.2, HF.out.2, HTU.out⟩, G3.out.2.1, by rw [HF.out.1]; exact Int.le_refl _⟩
      by_cases k2 : k = 2
      · subst k2
        have HCF := confirm25 HSS.out.iv.1
        have HCA : Hid (((cf25 r).2 ≠ 0 ∧ r.n.v = 0) ∨ ((cf25 r).2 = 0 ∧ (cf25 r).1.g = r.n ∧ (cf25 r).1.n = no25 ∧ (cf25 r).1.may ∧ (cf25 r).1.t = 0 ∧ r.g.v ≤ r.n.v)) := HCF
        have HSC : Hid (∀ W, Calls Tryd.prog 35 #[.agg r.cs] W fun e w' => e = .returned (.tuple #[.agg (cf25 r).1.cs, .int .i64 (cf25 r).2]) ∧ Below W.heap.size W w') := HCI.out r
        clear HCF HCI
        generalize (cf25 r).1 = A4 at *
        generalize (cf25 r).2 = E4 at *
        have m0 : w6.cell? ⟨gc, 0, none⟩ = some (.int .i64 2) := M0.out
        go_upto_region 27 with fail
        clear m0
        go_wp2_with (refine wpList_load_row rfl 63 (.tmp 7) rfl ba rfl _ r.cs _ _ H66.out.2.1 Tryd.underlying63 rfl info_rc25 ?_)
        refine (HSC.out w6).mono ?_
        rintro e v1 ⟨rfl, b⟩
        have G1 : Hid (v1.heap[gc]? = some (.cells o.cl.toArray 54 (0, 0)) ∧ v1.heap[ba]? = some (.cells r.cs 63 (0, 0)) ∧ v1.heap[bw]? = some (.cells r.cs 63 (0, 0)) ∧ Below w.heap.size w v1) := ⟨(b.block _ (Array.getElem?_eq_some_iff.1 H66.out.1).1).trans H66.out.1, (b.block _ (Array.getElem?_eq_some_iff.1 H66.out.2.1).1).trans H66.out.2.1, (b.block _ (Array.getElem?_eq_some_iff.1 H66.out.2.2.1).1).trans H66.out.2.2.1, H66.out.2.2.2.trans (b.mono H66.out.2.2.2.size)⟩
        clear b
        obtain ⟨v2, hv⟩ : ∃ v, v = (v1.alloc (.cells #[.int .i64 0, .int .i64 0, .int .i64 0, .int .i64 0, .int .u32 0, .int .i64 0, .int .i64 0, .int .i64 0, .int .u32 0, .int .i64 0] 63)).setRow v1.heap.size A4.cs := ⟨_, rfl⟩
        obtain ⟨bn, hbn⟩ : ∃ b, b = v1.heap.size := ⟨_, rfl⟩
        have y1 : v2.heap[bn]? = some (.cells A4.cs 63 (0, 0)) := by rw [hv, hbn]; exact set_row25 (heap_alloc_new _ _)
        have b : Below v1.heap.size v1 v2 := by rw [hv]; exact below_row25 ((Below.refl _ _).alloc (Nat.le_refl _) _) (Nat.le_refl _) _
        have G2 : Hid (v2.heap[gc]? = some (.cells o.cl.toArray 54 (0, 0)) ∧ v2.heap[ba]? = some (.cells r.cs 63 (0, 0)) ∧ v2.heap[bw]? = some (.cells r.cs 63 (0, 0)) ∧ Below w.heap.size w v2) := ⟨(b.block _ (Array.getElem?_eq_some_iff.1 G1.out.1).1).trans G1.out.1, (b.block _ (Array.getElem?_eq_some_iff.1 G1.out.2.1).1).trans G1.out.2.1, (b.block _ (Array.getElem?_eq_some_iff.1 G1.out.2.2.1).1).trans G1.out.2.2.1, G1.out.2.2.2.trans (b.mono G1.out.2.2.2.size)⟩
        have GB : Hid (v2.heap[bn]? = some (.cells A4.cs 63 (0, 0)) ∧ bw < bn) := ⟨y1, by rw [hbn]; exact (Array.getElem?_eq_some_iff.1 G1.out.2.2.1).1⟩
        have HV : Hid ((v1.alloc (.cells #[.int .i64 0, .int .i64 0, .int .i64 0, .int .i64 0, .int .u32 0, .int .i64 0, .int .i64 0, .int .i64 0, .int .u32 0, .int .i64 0] 63)).setRow v1.heap.size A4.cs = v2 ∧ v1.heap.size = bn) := ⟨hv.symm, hbn.symm⟩
        clear hv hbn y1 b
        go_upto_region 28 with (refine wpList_store_row rfl 63 (.tmp 18) (.tmp 104) rfl v1.heap.size A4.cs rfl rfl _ _ (heap_alloc_new v1 _) info_rc25 rfl (row_rc25 A4) ?_)
        rw [HV.out.1, HV.out.2]
        clear HV
        rcases HCA.out with ⟨t1, t2⟩ | ⟨t1, t2, t3, t4, t5, t6⟩
        · have c6 : v2.cell? ⟨ba, 6, none⟩ = some (.int .i64 0) := by rw [← t2]; exact cell25 G2.out.2.1 rfl
          have t1' : ¬ E4 = 0 := t1
          clear t2 HCA
          go_wp2_with fail
          go_roundw
          case rel => exact ⟨i + 1, r, l, by omega, rfl, rfl, ⟨G2.out.2.1, G2.out.2.2.2, HSS.out.iv⟩⟩
          case measure => simp [intOf]; omega
        · subst t1
          have lg := ld_good25 GB.out.1
          have ln := ld_next25 GB.out.1
          rw [t2] at lg
          rw [t3] at ln
          have LG : Hid (v2.rangeAt bn 1 r.n.cs.toList ∧ v2.rangeAt ba 5 r.n.cs.toList ∧ v2.rangeAt bn 5 no25.cs.toList) := ⟨lg, ld_next25 G2.out.2.1, ln⟩
          obtain ⟨v3, hv⟩ : ∃ v, v = v2.setRow ba A4.cs := ⟨_, rfl⟩
          have HV : Hid (v2.setRow ba A4.cs = v3) := hv.symm
          have G3 : Hid (v3.heap[ba]? = some (.cells A4.cs 63 (0, 0)) ∧ v3.heap[bw]? = some (.cells r.cs 63 (0, 0)) ∧ Below w.heap.size w v3) := ⟨by rw [hv]; exact set_row25 G2.out.2.1, by rw [hv, old_row25 _ (by have := H6.out.2.2.2.2; omega)]; exact G2.out.2.2.1, by rw [hv]; exact below_row25 G2.out.2.2.2 HBA.out _⟩
          have HF : Hid (A4.may ∧ A4.t ≤ 0 ∧ r.g.v ≤ A4.g.v) := ⟨t4, by omega, by rw [t2]; exact t6⟩
          clear hv lg ln t2 t3 t4 t5 t6 HCA
          go_wp2_with (first | refine wpList_ldI25 rfl 61 (.tmp 112) rfl bn 1 rfl r.n _ LG.out.1 Tryd.underlying61 rfl info_im25 ?_ | refine wpList_ldI25 rfl 61 (.tmp 114) rfl ba 5 rfl r.n _ LG.out.2.1 Tryd.underlying61 rfl info_im25 ?_ | (refine wpList_ung25 rfl ?_; refine wpList_ldI25 rfl 61 (.tmp 118) rfl bn 5 rfl no25 _ LG.out.2.2 Tryd.underlying61 rfl info_im25 ?_) | refine wpList_bin25 rfl .neq 61 (.tmp 113) (.tmp 115) 61 rfl rfl rfl egi25 (hbi.out r.n v2) ?_ | (refine wpList_ung25 rfl ?_; refine wpList_bin25 rfl .neq 61 (.tmp 119) (.tmp 120) 61 rfl rfl rfl egi25 (hbi.out no25 v2) ?_) | refine wpList_load_row rfl 63 (.tmp 18) rfl bn rfl _ A4.cs _ _ GB.out.1 Tryd.underlying63 rfl info_rc25 ?_ | refine wpList_store_row rfl 63 (.tmp 7) (.tmp 123) rfl ba A4.cs rfl rfl _ _ G2.out.2.1 info_rc25 rfl (row_rc25 A4) ?_)
          rw [HV.out]
          go_meet
          case rel => exact ⟨A4, 0, rfl, ⟨G3.out.1, G3.out.2.2, HF.out.1, HF.out.2.1, by decide⟩, G3.out.2.1, HF.out.2.2⟩
      go_wp2_with fail
      go_meet
      case rel => exact ⟨r, l, rfl, ⟨H6.out.2.1, H6.out.2.2.2.1, HSS.out.iv⟩, H6.out.2.2.1, Int.le_refl _⟩
    case rest =>
      obtain ⟨r', l', rfl, hS', hb', hv'⟩ := hcut
      have HS' : Hid (St25 w wc ba r' l') := hS'
      have hck : ck25 r' = 0 := ck_may25 hS'.iv.1
      have hlt : ¬ (r'.g.v < r.g.v) := by omega
      have c2 : wc.cell? ⟨ba, 2, none⟩ = some (.int .i64 r'.g.v) := cell25 hS'.row rfl
      have d2 : wc.cell? ⟨bw, 2, none⟩ = some (.int .i64 r.g.v) := cell25 hb' rfl
      have HCC := HCK.out r' wc
      rw [hck] at HCC
      have HC2 : Hid (Calls Tryd.prog 36 #[.agg r'.cs] wc fun e w' => e = .returned (.int .i64 0) ∧ Below wc.heap.size wc w') := HCC
      clear hS' hb' hv' hck HCC
      go_wp2_with (refine wpList_ung25 rfl ?_; refine wpList_load_row rfl 63 (.tmp 7) rfl ba rfl _ r'.cs _ _ HS'.out.row Tryd.underlying63 rfl info_rc25 ?_)
      refine HC2.out.mono ?_
      rintro e v1 ⟨rfl, b⟩
      have HE1 : Hid (St25 w v1 ba r' l') := ⟨(b.block _ (Array.getElem?_eq_some_iff.1 HS'.out.row).1).trans HS'.out.row, HS'.out.below.trans (b.mono HS'.out.below.size), HS'.out.iv⟩
      clear b c2 d2
      go_wp2_with fail
      go_roundw
      case rel => exact ⟨i + 1, r', l', by omega, rfl, rfl, HE1.out⟩
      case measure => simp [intOf]; omega

end Go.Proofs.YtmjlpfmacblcpaaDoor
