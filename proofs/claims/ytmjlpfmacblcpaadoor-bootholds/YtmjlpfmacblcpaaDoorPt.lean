import Derived.Test.YtmjlpfmacblcpaaDoorPo
import Derived.Test.YtmjlpfmacblcpaaDoorPp
import Derived.Test.YtmjlpfmacblcpaaDoorPb
import Derived.Test.YtmjlpfmacblcpaaDoorPs
import Derived.Test.YtmjlpfmacblcpaaDoorPa
namespace Go.Proofs.YtmjlpfmacblcpaaDoor
open Go.RowKit Go.Shelf
set_option linter.unusedVariables false
set_option linter.unusedSimpArgs false
/-- Two records in a row. -/
def fr25 (x y : Rc25) : Array Value := #[.int .i64 x.q, .int .i64 x.g.s, .int .i64 x.g.v, .int .i64 x.g.z, .int .u32 x.g.m, .int .i64 x.n.s, .int .i64 x.n.v, .int .i64 x.n.z, .int .u32 x.n.m, .int .i64 x.t, .int .i64 y.q, .int .i64 y.g.s, .int .i64 y.g.v, .int .i64 y.g.z, .int .u32 y.g.m, .int .i64 y.n.s, .int .i64 y.n.v, .int .i64 y.n.z, .int .u32 y.n.m, .int .i64 y.t]
theorem info_fr25 : (Tryd.prog.info? 141).map (·.size) = some 20 := by kernel_rfl
theorem row_fr25 (x y : Rc25) : (fr25 x y).all (·.oneCell') = true := by first | kernel_rfl | (unfold fr25; simp [Value.oneCell'])
def ff25 (S : Fs21) : Rc25 × Rc25 × Int := if S.on = false then (zr25, zr25, 213) else ((dc25 S 0).1, (dc25 S 1).1, 0)
theorem fld_sh25 (W : World) : (Instr.field 45 (.agg #[.int .i64 64, .int .i64 1]) 0).run Tryd.prog W = .ok (.int .i64 64) W := by kernel_rfl
section
variable {w : World} {f : Nat} {F : Nat → Prop} {S : Fs21}
theorem rdE_both25 (hpg : S.pg = 64) (hps : S.ps = 1) : rdE21 S 2 0 128 = if S.on = false then 213 else 0 := by
  unfold rdE21 sz21 pn21
  rw [hpg, hps]
  split
  · rfl
  · rw [if_neg (by decide)]
theorem pb25_bd (h : By21 S) (k : Nat) : ∀ z ∈ pb25 S k, 0 ≤ z ∧ z ≤ 255 := fun z hz => by
  unfold pb25 at hz
  obtain ⟨i, _, rfl⟩ := List.mem_map.1 hz
  by_cases hi : i < (sh21 S 2 (k : Int)).b.length
  · have hm : (sh21 S 2 (k : Int)).b.getD i 255 ∈ (sh21 S 2 (k : Int)).b := by
      rw [List.getD, List.getElem?_eq_getElem hi]
      exact List.getElem_mem hi
    exact h 2 (k : Int) _ hm
  · rw [List.getD, List.getElem?_eq_none (by omega)]
    exact ⟨by decide, by decide⟩
theorem seg_lo25 {V : World} {g : Nat} {S : Fs21} (h : Seg V (some ⟨g, 0, none⟩) (pb25 S 0 ++ pb25 S 1)) : Seg V (some ⟨g, 0, none⟩) (pb25 S 0) := by
  have h2 := SegK.take h (pb25 S 0).length
  rwa [List.take_left] at h2
theorem seg_hi25 {V : World} {g : Nat} {S : Fs21} (h : Seg V (some ⟨g, 0, none⟩) (pb25 S 0 ++ pb25 S 1)) : Seg V (some ⟨g, 64, none⟩) (pb25 S 1) := by
  have hd : (pb25 S 0 ++ pb25 S 1).drop 64 = pb25 S 1 := by
    have := List.drop_left (l₁ := pb25 S 0) (l₂ := pb25 S 1)
    rwa [pb25_len] at this
  have h2 := seg_rs24 (c := 128) (d := 64) h (by rw [List.length_append, pb25_len, pb25_len]; omega) (by rw [List.length_append, pb25_len, pb25_len]; omega)
  rw [hd] at h2
  exact h2
theorem slice_p025 (g : Nat) (W : World) : (Instr.slice 22 (.slice (some ⟨g, 0, none⟩) 128 128) (some (.int .i64 0)) (some (.int .i64 64)) none).run Tryd.prog W = .ok (.slice (some ⟨g, 0, none⟩) 64 128) W := slice_lh25 ⟨g, 0, none⟩ 128 128 0 64 (by omega) (by omega) (by omega) (by omega) W
theorem slice_p125 (g : Nat) (W : World) : (Instr.slice 22 (.slice (some ⟨g, 0, none⟩) 128 128) (some (.int .i64 64)) (some (.int .i64 128)) none).run Tryd.prog W = .ok (.slice (some ⟨g, 64, none⟩) 64 64) W := slice_lh25 ⟨g, 0, none⟩ 128 128 64 128 (by omega) (by omega) (by omega) (by omega) W
set_option maxRecDepth 100000 in
set_option maxHeartbeats 8000000 in
theorem pfro25 (hF : Fl21 w f F S) (hO : Ok21 S) (ht : Tab w) (hpg : S.pg = 64) (hps : S.ps = 1) : Calls Tryd.prog 76 #[.pointer (some ⟨f, 0, none⟩)] w fun e w' => e = .returned (.tuple #[.agg (fr25 (ff25 S).1 (ff25 S).2.1), .int .i64 (ff25 S).2.2]) ∧ Below w.heap.size w w' := by
  obtain ⟨w2, hw2⟩ : ∃ x, x = (w.alloc (.cells #[.int .i64 0, .int .i64 0, .int .i64 0, .int .i64 0, .int .u32 0, .int .i64 0, .int .i64 0, .int .i64 0, .int .u32 0, .int .i64 0, .int .i64 0, .int .i64 0, .int .i64 0, .int .i64 0, .int .u32 0, .int .i64 0, .int .i64 0, .int .i64 0, .int .u32 0, .int .i64 0] 141)).alloc (.cells #[.int .i64 0, .int .i64 0, .int .i64 0, .int .i64 0, .int .u32 0, .int .i64 0, .int .i64 0, .int .i64 0, .int .u32 0, .int .i64 0, .int .i64 0, .int .i64 0, .int .i64 0, .int .i64 0, .int .u32 0, .int .i64 0, .int .i64 0, .int .i64 0, .int .u32 0, .int .i64 0] 141) := ⟨_, rfl⟩
  have HW2 : Hid ((w.alloc (.cells #[.int .i64 0, .int .i64 0, .int .i64 0, .int .i64 0, .int .u32 0, .int .i64 0, .int .i64 0, .int .i64 0, .int .u32 0, .int .i64 0, .int .i64 0, .int .i64 0, .int .i64 0, .int .i64 0, .int .u32 0, .int .i64 0, .int .i64 0, .int .i64 0, .int .u32 0, .int .i64 0] 141)).alloc (.cells #[.int .i64 0, .int .i64 0, .int .i64 0, .int .i64 0, .int .u32 0, .int .i64 0, .int .i64 0, .int .i64 0, .int .u32 0, .int .i64 0, .int .i64 0, .int .i64 0, .int .i64 0, .int .i64 0, .int .u32 0, .int .i64 0, .int .i64 0, .int .i64 0, .int .u32 0, .int .i64 0] 141) = w2) := hw2.symm
  have b2 : Below w.heap.size w w2 := by rw [hw2]; exact ((Below.refl _ _).alloc (Nat.le_refl _) _).alloc (by simp) _
  have q1 : w2.heap[w.heap.size]? = some (.cells (fr25 zr25 zr25) 141 (0, 0)) := by rw [hw2, heap_alloc_old _ _ (by simp)]; exact heap_alloc_new _ _
  have q2 : w2.heap[w.heap.size + 1]? = some (.cells (fr25 zr25 zr25) 141 (0, 0)) := by rw [hw2]; exact heap_alloc2_new _ _ _
  have H2 : Hid (Below w.heap.size w w2 ∧ w2.heap[w.heap.size]? = some (.cells (fr25 zr25 zr25) 141 (0, 0)) ∧ w2.heap[w.heap.size + 1]? = some (.cells (fr25 zr25 zr25) 141 (0, 0))) := ⟨b2, q1, q2⟩
  have HSH := pshp22 (hF.old b2) hO
  rw [hpg, hps] at HSH
  have HFF : Hid (Fl21 w f F S ∧ Ok21 S ∧ Tab w ∧ S.pg = 64 ∧ S.ps = 1) := ⟨hF, hO, ht, hpg, hps⟩
  have hfd := fld_sh25
  obtain ⟨ra, rb, re, hrr⟩ : ∃ a b e, ff25 S = (a, b, e) := ⟨_, _, _, rfl⟩
  rw [hrr]
  have HRR : Hid (ff25 S = (ra, rb, re)) := hrr
  clear hrr hw2 b2 q1 q2 hF hO ht hpg hps
  go_enter Tryd.func76, Tryd.ntmps76
  go_wp2_with fail
  rw [HW2.out]
  refine HSH.mono ?_
  rintro e w3 ⟨rfl, b3⟩
  have H3 : Hid (Below w.heap.size w w3 ∧ w3.heap[w.heap.size]? = some (.cells (fr25 zr25 zr25) 141 (0, 0)) ∧ w3.heap[w.heap.size + 1]? = some (.cells (fr25 zr25 zr25) 141 (0, 0))) := ⟨H2.out.1.trans (b3.mono H2.out.1.size), (b3.block _ (Array.getElem?_eq_some_iff.1 H2.out.2.1).1).trans H2.out.2.1, (b3.block _ (Array.getElem?_eq_some_iff.1 H2.out.2.2).1).trans H2.out.2.2⟩
  have HRD := pread21 (HFF.out.1.old H3.out.1) HFF.out.2.1 2 0 128 (by unfold In21; omega) (by unfold In21; omega) (by unfold In21; omega)
  unfold RdQ21 at HRD
  rw [rdE_both25 HFF.out.2.2.2.1 HFF.out.2.2.2.2] at HRD
  clear HSH b3
  go_wp2_with fail
  refine HRD.mono ?_
  rintro e w4 ⟨b4, h4⟩
  have H4 : Hid (Below w.heap.size w w4 ∧ w4.heap[w.heap.size]? = some (.cells (fr25 zr25 zr25) 141 (0, 0)) ∧ w4.heap[w.heap.size + 1]? = some (.cells (fr25 zr25 zr25) 141 (0, 0))) := ⟨H3.out.1.trans (b4.mono H3.out.1.size), (b4.block _ (Array.getElem?_eq_some_iff.1 H3.out.2.1).1).trans H3.out.2.1, (b4.block _ (Array.getElem?_eq_some_iff.1 H3.out.2.2).1).trans H3.out.2.2⟩
  clear HRD
  by_cases hon : S.on = false
  · rw [if_pos hon] at h4
    rcases h4 with ⟨-, rfl⟩ | ⟨h, -⟩
    rotate_left
    · cases h
    have hff : ff25 S = (zr25, zr25, 213) := if_pos hon
    rw [HRR.out] at hff
    injection hff with e1 e2
    injection e2 with e2 e3
    subst e1 e2 e3
    clear b4 hfd hon
    go_wp2_with (first | refine wpList_load_row rfl 141 (.tmp 4) rfl (w.heap.size + 1) rfl _ (fr25 zr25 zr25) _ _ H4.out.2.2 Tryd.underlying141 rfl info_fr25 ?_ | refine wpList_store_row rfl 141 (.tmp 2) (.tmp 21) rfl w.heap.size (fr25 zr25 zr25) rfl rfl _ _ H4.out.2.1 info_fr25 rfl (row_fr25 zr25 zr25) ?_)
    refine bodyPost_ret (v := .tuple #[.agg (fr25 zr25 zr25), .int .i64 213]) (results_ct25 (fn := Tryd.f76) (p := 2) (u := 3) (ty := 141) rfl _ _ w.heap.size _ (fr25 zr25 zr25) _ _ rfl (set_row25 H4.out.2.1) Tryd.underlying141 rfl info_fr25) rfl ?_
    exact ⟨rfl, below_row25 H4.out.1 (Nat.le_refl _) _⟩
  · rw [if_neg hon] at h4
    rcases h4 with ⟨h, -⟩ | ⟨-, g, rfl, hgw, hRw⟩
    · exact absurd rfl h
    have hff : ff25 S = ((dc25 S 0).1, (dc25 S 1).1, 0) := if_neg hon
    rw [HRR.out] at hff
    injection hff with e1 e2
    injection e2 with e2 e3
    subst e3
    have hrb : rb21 S 2 (0 : Int).toNat (128 : Int).toNat = pb25 S 0 ++ pb25 S 1 := rb_both25 HFF.out.2.2.2.1
    rw [hrb] at hRw
    have hby := HFF.out.1.by
    have sg := rw_seg21 hRw (fun z hz => by
      rcases List.mem_append.1 hz with h | h
      · exact pb25_bd hby 0 z h
      · exact pb25_bd hby 1 z h)
    have HSG : Hid (Seg w4 (some ⟨g, 0, none⟩) (pb25 S 0 ++ pb25 S 1)) := sg
    have HX : Hid ((de25 (pb25 S 0)).1 = ra ∧ (de25 (pb25 S 1)).1 = rb) := ⟨e1.symm, e2.symm⟩
    have HI0 : Hid (w4.heap[w.heap.size + 1]? = some (.cells (fr25 zr25 zr25) 141 (0, 0)) ∧ Below w4.heap.size w4 w4) := ⟨H4.out.2.2, Below.refl _ _⟩
    clear b4 hgw hRw hrb hby sg e1 e2 hfd hon
    go_wp2_with fail
    go_loopw [8, 23] (fun t8 t23 wr => ∃ (k : Nat), k ≤ 2 ∧ t23 = .int .i64 (k : Int) ∧ Hid (wr.heap[w.heap.size + 1]? = some (.cells (fr25 (if 0 < k then ra else zr25) (if 1 < k then rb else zr25)) 141 (0, 0)) ∧ Below w.heap.size w wr ∧ wr.heap[w.heap.size]? = some (.cells (fr25 zr25 zr25) 141 (0, 0)) ∧ Seg wr (some ⟨g, 0, none⟩) (pb25 S 0 ++ pb25 S 1))) (fun _ t23 _ => 2 - (intOf t23).toNat)
    case atStart => exact ⟨0, by omega, rfl, HI0.out.1, H4.out.1, H4.out.2.1, HSG.out⟩
    case round =>
      obtain ⟨k, hk2, rfl, hI⟩ := hrel
      by_cases hk : k < 2
      · rcases (show k = 0 ∨ k = 1 by omega) with rfl | rfl
        · have HI2 : Hid (wr.heap[w.heap.size + 1]? = some (.cells (fr25 zr25 zr25) 141 (0, 0)) ∧ Below w.heap.size w wr ∧ wr.heap[w.heap.size]? = some (.cells (fr25 zr25 zr25) 141 (0, 0)) ∧ Seg wr (some ⟨g, 0, none⟩) (pb25 S 0 ++ pb25 S 1)) := hI.out
          have hsg := seg_lo25 hI.out.2.2.2
          have X0 := slice_p025 g
          have HDC := pdecode25 (some ⟨g, 0, none⟩) (pb25 S 0) 64 128 wr (HFF.out.2.2.1.old hI.out.2.1) hsg (pb25_len S 0).symm (by omega) (by omega)
          obtain ⟨de, hde⟩ : ∃ e, e = (de25 (pb25 S 0)).2 := ⟨_, rfl⟩
          rw [← hde, HX.out.1] at HDC
          clear hI hk hk2 hsg hde
          go_wp2_with fail
          refine HDC.mono ?_
          rintro e w5 ⟨rfl, b5⟩
          have H5 : Hid (w5.heap[w.heap.size + 1]? = some (.cells (fr25 zr25 zr25) 141 (0, 0)) ∧ Below w.heap.size w w5 ∧ w5.heap[w.heap.size]? = some (.cells (fr25 zr25 zr25) 141 (0, 0)) ∧ Seg w5 (some ⟨g, 0, none⟩) (pb25 S 0 ++ pb25 S 1)) := ⟨(b5.block _ (Array.getElem?_eq_some_iff.1 HI2.out.1).1).trans HI2.out.1, HI2.out.2.1.trans (b5.mono HI2.out.2.1.size), (b5.block _ (Array.getElem?_eq_some_iff.1 HI2.out.2.2.1).1).trans HI2.out.2.2.1, HI2.out.2.2.2.old b5⟩
          obtain ⟨w6, hw6⟩ : ∃ x, x = w5.setRow (w.heap.size + 1) (fr25 ra zr25) := ⟨_, rfl⟩
          have HW6 : Hid (w5.setRow (w.heap.size + 1) (fr25 ra zr25) = w6) := hw6.symm
          have hgn : g ≠ w.heap.size + 1 := fun e => by
            subst e
            obtain ⟨b', o', e', c'⟩ := H5.out.2.2.2.at_ 0 (by rw [List.length_append, pb25_len]; omega)
            injection e' with e'
            injection e' with e1 e2 _
            subst e1 e2
            rw [World.cell?, H5.out.1] at c'
            revert c'
            intro c'
            have c2 : (fr25 zr25 zr25)[0]? = some (.int .u8 ((pb25 S 0 ++ pb25 S 1).getD 0 0)) := c'
            cases c2
          have H6 : Hid (w6.heap[w.heap.size + 1]? = some (.cells (fr25 ra zr25) 141 (0, 0)) ∧ Below w.heap.size w w6 ∧ w6.heap[w.heap.size]? = some (.cells (fr25 zr25 zr25) 141 (0, 0)) ∧ Seg w6 (some ⟨g, 0, none⟩) (pb25 S 0 ++ pb25 S 1)) := ⟨by rw [hw6]; exact set_row25 H5.out.1, by rw [hw6]; exact below_row25 H5.out.2.1 (by omega) _, by rw [hw6, old_row25 _ (by omega)]; exact H5.out.2.2.1, by
            rw [hw6]
            exact H5.out.2.2.2.of_cells (fun b' off i v hi ha hc => by
              cases ha
              rw [World.cell?_of_block (a := ⟨g, 0 + i, none⟩) (old_row25 _ hgn)]
              exact hc)⟩
          clear HDC b5 hw6 hgn
          go_wp2_with (refine wpList_part25 rfl 63 (.tmp 40) (.tmp 38) rfl (w.heap.size + 1) 0 ra.cs.toList rfl rfl (cs := (fr25 zr25 zr25).toList) H5.out.1 info_rc25 (row_rc25 ra) (by show _ ≤ 20; show 0 + 10 ≤ 20; omega) (fr25 ra zr25) rfl ?_)
          rw [HW6.out]
          go_roundw
          case rel => exact ⟨1, by omega, rfl, H6.out⟩
          case measure => simp [intOf]
        · have HI2 : Hid (wr.heap[w.heap.size + 1]? = some (.cells (fr25 ra zr25) 141 (0, 0)) ∧ Below w.heap.size w wr ∧ wr.heap[w.heap.size]? = some (.cells (fr25 zr25 zr25) 141 (0, 0)) ∧ Seg wr (some ⟨g, 0, none⟩) (pb25 S 0 ++ pb25 S 1)) := hI.out
          have hsg := seg_hi25 hI.out.2.2.2
          have X1 := slice_p125 g
          have HDC := pdecode25 (some ⟨g, 64, none⟩) (pb25 S 1) 64 64 wr (HFF.out.2.2.1.old hI.out.2.1) hsg (pb25_len S 1).symm (by omega) (by omega)
          obtain ⟨de, hde⟩ : ∃ e, e = (de25 (pb25 S 1)).2 := ⟨_, rfl⟩
          rw [← hde, HX.out.2] at HDC
          clear hI hk hk2 hsg hde
          go_wp2_with fail
          refine HDC.mono ?_
          rintro e w5 ⟨rfl, b5⟩
          have H5 : Hid (w5.heap[w.heap.size + 1]? = some (.cells (fr25 ra zr25) 141 (0, 0)) ∧ Below w.heap.size w w5 ∧ w5.heap[w.heap.size]? = some (.cells (fr25 zr25 zr25) 141 (0, 0)) ∧ Seg w5 (some ⟨g, 0, none⟩) (pb25 S 0 ++ pb25 S 1)) := ⟨(b5.block _ (Array.getElem?_eq_some_iff.1 HI2.out.1).1).trans HI2.out.1, HI2.out.2.1.trans (b5.mono HI2.out.2.1.size), (b5.block _ (Array.getElem?_eq_some_iff.1 HI2.out.2.2.1).1).trans HI2.out.2.2.1, HI2.out.2.2.2.old b5⟩
          obtain ⟨w6, hw6⟩ : ∃ x, x = w5.setRow (w.heap.size + 1) (fr25 ra rb) := ⟨_, rfl⟩
          have HW6 : Hid (w5.setRow (w.heap.size + 1) (fr25 ra rb) = w6) := hw6.symm
          have hgn : g ≠ w.heap.size + 1 := fun e => by
            subst e
            obtain ⟨b', o', e', c'⟩ := H5.out.2.2.2.at_ 0 (by rw [List.length_append, pb25_len]; omega)
            injection e' with e'
            injection e' with e1 e2 _
            subst e1 e2
            rw [World.cell?, H5.out.1] at c'
            revert c'
            intro c'
            have c2 : (fr25 ra zr25)[0]? = some (.int .u8 ((pb25 S 0 ++ pb25 S 1).getD 0 0)) := c'
            cases c2
          have H6 : Hid (w6.heap[w.heap.size + 1]? = some (.cells (fr25 ra rb) 141 (0, 0)) ∧ Below w.heap.size w w6 ∧ w6.heap[w.heap.size]? = some (.cells (fr25 zr25 zr25) 141 (0, 0)) ∧ Seg w6 (some ⟨g, 0, none⟩) (pb25 S 0 ++ pb25 S 1)) := ⟨by rw [hw6]; exact set_row25 H5.out.1, by rw [hw6]; exact below_row25 H5.out.2.1 (by omega) _, by rw [hw6, old_row25 _ (by omega)]; exact H5.out.2.2.1, by
            rw [hw6]
            exact H5.out.2.2.2.of_cells (fun b' off i v hi ha hc => by
              cases ha
              rw [World.cell?_of_block (a := ⟨g, 0 + i, none⟩) (old_row25 _ hgn)]
              exact hc)⟩
          clear HDC b5 hw6 hgn
          go_wp2_with (refine wpList_part25 rfl 63 (.tmp 40) (.tmp 38) rfl (w.heap.size + 1) 10 rb.cs.toList rfl rfl (cs := (fr25 ra zr25).toList) H5.out.1 info_rc25 (row_rc25 rb) (by show _ ≤ 20; show 10 + 10 ≤ 20; omega) (fr25 ra rb) rfl ?_)
          rw [HW6.out]
          go_roundw
          case rel => exact ⟨2, by omega, rfl, H6.out⟩
          case measure => simp [intOf]
      · obtain rfl : k = 2 := by omega
        have hki : ¬ ((2 : Nat) : Int) < 2 := by omega
        have HI2 : Hid (wr.heap[w.heap.size + 1]? = some (.cells (fr25 ra rb) 141 (0, 0)) ∧ Below w.heap.size w wr ∧ wr.heap[w.heap.size]? = some (.cells (fr25 zr25 zr25) 141 (0, 0))) := ⟨hI.out.1, hI.out.2.1, hI.out.2.2.1⟩
        clear hI hk hk2
        go_wp2_with (first | refine wpList_load_row rfl 141 (.tmp 4) rfl (w.heap.size + 1) rfl _ (fr25 ra rb) _ _ HI2.out.1 Tryd.underlying141 rfl info_fr25 ?_ | refine wpList_store_row rfl 141 (.tmp 2) (.tmp 42) rfl w.heap.size (fr25 ra rb) rfl rfl _ _ HI2.out.2.2 info_fr25 rfl (row_fr25 ra rb) ?_)
        refine bodyPost_ret (v := .tuple #[.agg (fr25 ra rb), .int .i64 0]) (results_ct25 (fn := Tryd.f76) (p := 2) (u := 3) (ty := 141) rfl _ _ w.heap.size _ (fr25 ra rb) _ _ rfl (set_row25 HI2.out.2.2) Tryd.underlying141 rfl info_fr25) rfl ?_
        exact ⟨rfl, below_row25 HI2.out.2.1 (Nat.le_refl _) _⟩
end
end Go.Proofs.YtmjlpfmacblcpaaDoor

namespace Go.Proofs.YtmjlpfmacblcpaaDoor
open Go.RowKit Go.Shelf
set_option linter.unusedVariables false
set_option linter.unusedSimpArgs false
theorem results_ctt25 {P : Program} {fn : Func} {p u v : Tmp} {ty : TypeId} (h : fn.results = #[.cell p ty, .tmp u, .tmp v]) (tmps : Array Value) (w : World) (g : Nat) (t : TypeId) (cs : Array Value) (fr : Nat × Nat) (d : TypeDesc)
    (hp : tmps.getD p undef = .pointer (some ⟨g, 0, none⟩)) (hg : w.heap[g]? = some (.cells cs t fr))
    (hu : P.underlying ty = some d) (hd : (match d with | .struct _ | .array _ _ => true | _ => false) = true) (hi : (P.info? ty).map (·.size) = some cs.size) :
    (results fn tmps).run P w = .ok (.tuple #[.agg cs, tmps.getD u undef, tmps.getD v undef]) w := by
  have e : (results fn tmps).run P w = ((asAddr (tmps.getD p undef)).run P w).andThen fun a w₁ => ((loadVar ty a).run P w₁).andThen fun x w₂ => .ok (.tuple #[x, tmps.getD u undef, tmps.getD v undef]) w₂ := by
    simp only [results, h]
    simp [Sem.run_bind, Result.andThen]
  rw [e, hp]
  simp [asAddr, Result.andThen, run_loadVar_row w g t ty cs fr d hg hu hd hi]
theorem wpList_ldR25 {P : Program} {ops : Array Oper} {rest : List Oper} {op : Oper} {a : Act} {w : World} {Q : Exit → Act → World → Prop} (hgd : op.guard = none) (ty : TypeId) (x : Operand) (ho : op.op = .load ty x)
    (b o : Nat) (hx : a.eval x = .pointer (some ⟨b, o, none⟩)) (i : Rc25) (d : TypeDesc) (hc : w.rangeAt b o i.cs.toList) (hu : P.underlying ty = some d) (hd : d.isRow = true) (hi : (P.info? ty).map (·.size) = some 10)
    (h : wpList P ops Q rest (a.put op.dst (.agg i.cs)) w) : wpList P ops Q (op :: rest) a w :=
  wpList_load_mid hgd ty x ho b o hx i.cs.toList d hc hu hd hi h
theorem fr_lo25 {W : World} {b : Nat} {t : TypeId} {fr : Nat × Nat} {x y : Rc25} (h : W.heap[b]? = some (.cells (fr25 x y) t fr)) : W.rangeAt b 0 x.cs.toList := range25 h (fun j v hv => by
  have hj : j < 10 := (List.getElem?_eq_some_iff.1 hv).1
  rcases (by omega : j = 0 ∨ j = 1 ∨ j = 2 ∨ j = 3 ∨ j = 4 ∨ j = 5 ∨ j = 6 ∨ j = 7 ∨ j = 8 ∨ j = 9) with rfl | rfl | rfl | rfl | rfl | rfl | rfl | rfl | rfl | rfl <;> exact hv)
theorem fr_hi25 {W : World} {b : Nat} {t : TypeId} {fr : Nat × Nat} {x y : Rc25} (h : W.heap[b]? = some (.cells (fr25 x y) t fr)) : W.rangeAt b 10 y.cs.toList := range25 h (fun j v hv => by
  have hj : j < 10 := (List.getElem?_eq_some_iff.1 hv).1
  rcases (by omega : j = 0 ∨ j = 1 ∨ j = 2 ∨ j = 3 ∨ j = 4 ∨ j = 5 ∨ j = 6 ∨ j = 7 ∨ j = 8 ∨ j = 9) with rfl | rfl | rfl | rfl | rfl | rfl | rfl | rfl | rfl | rfl <;> exact hv)
section
variable {w : World} {f : Nat} {F : Nat → Prop} {S : Fs21}
set_option maxRecDepth 100000 in
set_option maxHeartbeats 16000000 in
theorem pread25 (hF : Fl21 w f F S) (hO : Ok21 S) (ht : Tab w) (hpg : S.pg = 64) (hps : S.ps = 1) : Calls Tryd.prog 26 #[.pointer (some ⟨f, 0, none⟩)] w fun e w' => e = .returned (.tuple #[.agg (rd25 S).1.cs, .int .i64 ((rd25 S).2.1 : Int), .int .i64 (rd25 S).2.2]) ∧ Below w.heap.size w w' := by
  obtain ⟨w2, hw2⟩ : ∃ x, x = w.alloc (.cells #[.int .i64 0, .int .i64 0, .int .i64 0, .int .i64 0, .int .u32 0, .int .i64 0, .int .i64 0, .int .i64 0, .int .u32 0, .int .i64 0] 63) := ⟨_, rfl⟩
  have HW2 : Hid (w.alloc (.cells #[.int .i64 0, .int .i64 0, .int .i64 0, .int .i64 0, .int .u32 0, .int .i64 0, .int .i64 0, .int .i64 0, .int .u32 0, .int .i64 0] 63) = w2) := hw2.symm
  have b2 : Below w.heap.size w w2 := by rw [hw2]; exact (Below.refl _ _).alloc (Nat.le_refl _) _
  have q1 : w2.heap[w.heap.size]? = some (.cells zr25.cs 63 (0, 0)) := by rw [hw2]; exact heap_alloc_new _ _
  have H2 : Hid (Below w.heap.size w w2 ∧ w2.heap[w.heap.size]? = some (.cells zr25.cs 63 (0, 0))) := ⟨b2, q1⟩
  have HFR := pfro25 (hF.old b2) hO (ht.old b2) hpg hps
  obtain ⟨R, k, E, hR⟩ : ∃ R k E, rd25 S = (R, k, E) := ⟨_, _, _, rfl⟩
  rw [hR]
  have HR : Hid (rd25 S = (R, k, E)) := hR
  have HFF : Hid (ff25 S = if S.on = false then (zr25, zr25, 213) else ((dc25 S 0).1, (dc25 S 1).1, 0)) := rfl
  obtain ⟨ra, rb, re, hrr⟩ : ∃ a b e, ff25 S = (a, b, e) := ⟨_, _, _, rfl⟩
  rw [hrr] at HFR
  have HRR : Hid (ff25 S = (ra, rb, re)) := hrr
  have hbz : Hid (∀ (x : Rc25) W, (binOp .eql 63 (.agg x.cs) (.agg #[.int .i64 0, .int .i64 0, .int .i64 0, .int .i64 0, .int .u32 0, .int .i64 0, .int .i64 0, .int .i64 0, .int .u32 0, .int .i64 0])).run Tryd.prog W = .ok (.bool (decide (x = zr25))) W) := fun x W => ber25 x zr25 W
  clear hw2 b2 q1 hF hO ht hpg hps hR hrr
  go_enter Tryd.func26, Tryd.ntmps26
  go_wp2_with fail
  rw [HW2.out]
  refine HFR.mono ?_
  rintro e w3 ⟨rfl, b3⟩
  have H3 : Hid (Below w.heap.size w w3 ∧ w3.heap[w.heap.size]? = some (.cells zr25.cs 63 (0, 0))) := ⟨H2.out.1.trans (b3.mono H2.out.1.size), (b3.block _ (Array.getElem?_eq_some_iff.1 H2.out.2).1).trans H2.out.2⟩
  obtain ⟨w4, hw4⟩ : ∃ x, x = (w3.alloc (.cells #[.int .i64 0, .int .i64 0, .int .i64 0, .int .i64 0, .int .u32 0, .int .i64 0, .int .i64 0, .int .i64 0, .int .u32 0, .int .i64 0, .int .i64 0, .int .i64 0, .int .i64 0, .int .i64 0, .int .u32 0, .int .i64 0, .int .i64 0, .int .i64 0, .int .u32 0, .int .i64 0] 141)).setRow w3.heap.size (fr25 ra rb) := ⟨_, rfl⟩
  obtain ⟨g5, hg5⟩ : ∃ x, x = w3.heap.size := ⟨_, rfl⟩
  have HW4 : Hid ((w3.alloc (.cells #[.int .i64 0, .int .i64 0, .int .i64 0, .int .i64 0, .int .u32 0, .int .i64 0, .int .i64 0, .int .i64 0, .int .u32 0, .int .i64 0, .int .i64 0, .int .i64 0, .int .i64 0, .int .i64 0, .int .u32 0, .int .i64 0, .int .i64 0, .int .i64 0, .int .u32 0, .int .i64 0] 141)).setRow w3.heap.size (fr25 ra rb) = w4 ∧ w3.heap.size = g5) := ⟨hw4.symm, hg5.symm⟩
  have b4 : Below w3.heap.size w3 w4 := by rw [hw4]; exact below_row25 ((Below.refl _ _).alloc (Nat.le_refl _) _) (Nat.le_refl _) _
  have q4 : w4.heap[g5]? = some (.cells (fr25 ra rb) 141 (0, 0)) := by rw [hw4, hg5]; exact set_row25 (heap_alloc_new _ _)
  have H4 : Hid (Below w.heap.size w w4 ∧ w4.heap[w.heap.size]? = some (.cells zr25.cs 63 (0, 0)) ∧ w4.heap[g5]? = some (.cells (fr25 ra rb) 141 (0, 0))) := ⟨H3.out.1.trans (b4.mono H3.out.1.size), (b4.block _ (Array.getElem?_eq_some_iff.1 H3.out.2).1).trans H3.out.2, q4⟩
  clear HFR b3 hw4 hg5 b4 q4
  go_upto_region 2 with (refine wpList_store_row rfl 141 (.tmp 5) (.tmp 11) rfl w3.heap.size (fr25 ra rb) rfl rfl _ _ (heap_alloc_new w3 _) info_fr25 rfl (row_fr25 ra rb) ?_)
  rw [HW4.out.1, HW4.out.2]
  by_cases hon : S.on = false
  · have e0 : ff25 S = (zr25, zr25, 213) := HFF.out.trans (if_pos hon)
    rw [HRR.out] at e0
    injection e0 with e1 e2
    injection e2 with e2 e3
    have e4 : rd25 S = (zr25, 0, 213) := if_pos hon
    rw [HR.out] at e4
    injection e4 with e4 e5
    injection e5 with e5 e6
    subst e1 e2 e3 e4 e5 e6
    clear hon
    go_wp2_with (refine wpList_store_row rfl 63 (.tmp 2) (.tmp 15) rfl w.heap.size zr25.cs rfl rfl _ _ H4.out.2.1 info_rc25 rfl (row_rc25 zr25) ?_)
    refine bodyPost_ret (v := .tuple #[.agg zr25.cs, .int .i64 0, .int .i64 213]) (results_ctt25 (fn := Tryd.f26) (p := 2) (u := 3) (v := 4) (ty := 63) rfl _ _ w.heap.size _ zr25.cs _ _ rfl (set_row25 H4.out.2.1) Tryd.underlying63 rfl info_rc25) rfl ?_
    exact ⟨rfl, below_row25 H4.out.1 (Nat.le_refl _) _⟩
  · have e0 : ff25 S = ((dc25 S 0).1, (dc25 S 1).1, 0) := HFF.out.trans (if_neg hon)
    rw [HRR.out] at e0
    injection e0 with e1 e2
    injection e2 with e2 e3
    have e4 : rd25 S = nr25 (dc25 S 0).1 (dc25 S 1).1 := if_neg hon
    rw [HR.out, ← e1, ← e2] at e4
    have HN : Hid ((R, k, E) = nr25 ra rb) := e4
    subst e3
    clear hon e1 e2 e4
    have c0 : w4.cell? ⟨g5, 0, none⟩ = some (.int .i64 ra.q) := cell25 H4.out.2.2 rfl
    have c1 : w4.cell? ⟨g5, 10, none⟩ = some (.int .i64 rb.q) := cell25 H4.out.2.2 rfl
    have HL : Hid (w4.rangeAt g5 0 ra.cs.toList ∧ w4.rangeAt g5 10 rb.cs.toList) := ⟨fr_lo25 H4.out.2.2, fr_hi25 H4.out.2.2⟩
    have key : ∀ (x : Rc25) (j : Nat) (jj : Int), x = x → True := fun _ _ _ _ => trivial
    clear key
    by_cases hlt : ra.q < rb.q
    · as_aux_lemma =>
      by_cases hz : rb = zr25
      · have e5 : (R, k, E) = (zr25, 0, 251) := by rw [HN.out]; unfold nr25; rw [if_pos hlt, if_pos hz]
        injection e5 with e5 e6
        injection e6 with e6 e7
        subst e5 e6 e7
        have hbz1 := hbz.out rb w4
        rw [decide_eq_true hz] at hbz1
        clear hz
        go_wp2_with (first | refine wpList_ldR25 rfl 63 (.tmp 25) rfl g5 10 rfl rb _ HL.out.2 Tryd.underlying63 rfl info_rc25 ?_ | refine wpList_bin25 rfl .eql 63 (.tmp 26) (.tmp 27) 63 rfl rfl rfl egr25 hbz1 ?_ | refine wpList_store_row rfl 63 (.tmp 2) (.tmp 29) rfl w.heap.size zr25.cs rfl rfl _ _ H4.out.2.1 info_rc25 rfl (row_rc25 zr25) ?_)
        refine bodyPost_ret (v := .tuple #[.agg zr25.cs, .int .i64 0, .int .i64 251]) (results_ctt25 (fn := Tryd.f26) (p := 2) (u := 3) (v := 4) (ty := 63) rfl _ _ w.heap.size _ zr25.cs _ _ rfl (set_row25 H4.out.2.1) Tryd.underlying63 rfl info_rc25) rfl ?_
        exact ⟨rfl, below_row25 H4.out.1 (Nat.le_refl _) _⟩
      · have e5 : (R, k, E) = (rb, 1, 0) := by rw [HN.out]; unfold nr25; rw [if_pos hlt, if_neg hz]
        injection e5 with e5 e6
        injection e6 with e6 e7
        subst e5 e6 e7
        have hbz1 := hbz.out R w4
        rw [decide_eq_false hz] at hbz1
        clear hz
        go_wp2_with (first | refine wpList_ldR25 rfl 63 (.tmp 25) rfl g5 10 rfl R _ HL.out.2 Tryd.underlying63 rfl info_rc25 ?_ | refine wpList_ldR25 rfl 63 (.tmp 31) rfl g5 10 rfl R _ HL.out.2 Tryd.underlying63 rfl info_rc25 ?_ | refine wpList_bin25 rfl .eql 63 (.tmp 26) (.tmp 27) 63 rfl rfl rfl egr25 hbz1 ?_ | refine wpList_store_row rfl 63 (.tmp 2) (.tmp 32) rfl w.heap.size R.cs rfl rfl _ _ H4.out.2.1 info_rc25 rfl (row_rc25 R) ?_)
        refine bodyPost_ret (v := .tuple #[.agg R.cs, .int .i64 1, .int .i64 0]) (results_ctt25 (fn := Tryd.f26) (p := 2) (u := 3) (v := 4) (ty := 63) rfl _ _ w.heap.size _ R.cs _ _ rfl (set_row25 H4.out.2.1) Tryd.underlying63 rfl info_rc25) rfl ?_
        exact ⟨rfl, below_row25 H4.out.1 (Nat.le_refl _) _⟩
    · as_aux_lemma =>
      by_cases hz : ra = zr25
      · have e5 : (R, k, E) = (zr25, 0, 251) := by rw [HN.out]; unfold nr25; rw [if_neg hlt, if_pos hz]
        injection e5 with e5 e6
        injection e6 with e6 e7
        subst e5 e6 e7
        have hbz1 := hbz.out ra w4
        rw [decide_eq_true hz] at hbz1
        clear hz
        go_wp2_with (first | refine wpList_ldR25 rfl 63 (.tmp 25) rfl g5 0 rfl ra _ HL.out.1 Tryd.underlying63 rfl info_rc25 ?_ | refine wpList_bin25 rfl .eql 63 (.tmp 26) (.tmp 27) 63 rfl rfl rfl egr25 hbz1 ?_ | refine wpList_store_row rfl 63 (.tmp 2) (.tmp 29) rfl w.heap.size zr25.cs rfl rfl _ _ H4.out.2.1 info_rc25 rfl (row_rc25 zr25) ?_)
        refine bodyPost_ret (v := .tuple #[.agg zr25.cs, .int .i64 0, .int .i64 251]) (results_ctt25 (fn := Tryd.f26) (p := 2) (u := 3) (v := 4) (ty := 63) rfl _ _ w.heap.size _ zr25.cs _ _ rfl (set_row25 H4.out.2.1) Tryd.underlying63 rfl info_rc25) rfl ?_
        exact ⟨rfl, below_row25 H4.out.1 (Nat.le_refl _) _⟩
      · have e5 : (R, k, E) = (ra, 0, 0) := by rw [HN.out]; unfold nr25; rw [if_neg hlt, if_neg hz]
        injection e5 with e5 e6
        injection e6 with e6 e7
        subst e5 e6 e7
        have hbz1 := hbz.out R w4
        rw [decide_eq_false hz] at hbz1
        clear hz
        go_wp2_with (first | refine wpList_ldR25 rfl 63 (.tmp 25) rfl g5 0 rfl R _ HL.out.1 Tryd.underlying63 rfl info_rc25 ?_ | refine wpList_ldR25 rfl 63 (.tmp 31) rfl g5 0 rfl R _ HL.out.1 Tryd.underlying63 rfl info_rc25 ?_ | refine wpList_bin25 rfl .eql 63 (.tmp 26) (.tmp 27) 63 rfl rfl rfl egr25 hbz1 ?_ | refine wpList_store_row rfl 63 (.tmp 2) (.tmp 32) rfl w.heap.size R.cs rfl rfl _ _ H4.out.2.1 info_rc25 rfl (row_rc25 R) ?_)
        refine bodyPost_ret (v := .tuple #[.agg R.cs, .int .i64 0, .int .i64 0]) (results_ctt25 (fn := Tryd.f26) (p := 2) (u := 3) (v := 4) (ty := 63) rfl _ _ w.heap.size _ R.cs _ _ rfl (set_row25 H4.out.2.1) Tryd.underlying63 rfl info_rc25) rfl ?_
        exact ⟨rfl, below_row25 H4.out.1 (Nat.le_refl _) _⟩
end
end Go.Proofs.YtmjlpfmacblcpaaDoor
