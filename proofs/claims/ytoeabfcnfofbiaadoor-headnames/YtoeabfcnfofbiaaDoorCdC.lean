
import Derived.Test.YtoeabfcnfofbiaaDoorCdB
namespace Go.Proofs.YtoeabfcnfofbiaaDoor
open Go.RowKit
set_option linter.unusedVariables false

/-- A length that may not be, or too many. -/
def okL (zs : List Int) : Bool := zs.all fun z => decide (0 ≤ z ∧ z ≤ 15)
def errS (zs : List Int) : Int := if 288 < zs.length then 50 else if okL zs then 0 else 50
theorem okL_iff {zs : List Int} : okL zs = true ↔ LOk zs := by simp [okL, LOk]
theorem errS_many {zs : List Int} (h : 288 < zs.length) : errS zs = 50 := by unfold errS; rw [if_pos h]
theorem errS_bad {zs : List Int} {i : Nat} (hi : i < zs.length) (h : ¬ (0 ≤ zs.getD i 0 ∧ zs.getD i 0 ≤ 15)) : errS zs = 50 := by
  unfold errS
  split
  · rfl
  · rw [if_neg]
    intro e
    exact h ((okL_iff.1 e).get i)
theorem errS_ok {zs : List Int} (h : ¬ 288 < zs.length) (h2 : LOk zs) : errS zs = 0 := by unfold errS; rw [if_neg h, if_pos (okL_iff.2 h2)]
theorem errS_zero {zs : List Int} (h : errS zs = 0) : zs.length ≤ 288 ∧ LOk zs := by
  unfold errS at h
  split at h
  · cases h
  · split at h
    · rename_i h1 h2
      exact ⟨by omega, okL_iff.1 h2⟩
    · cases h
theorem cnts_nil : cnts [] = List.replicate 16 0 := by rfl
theorem cnts_skip (zs : List Int) : cnts (zs ++ [0]) = cnts zs := by
  unfold cnts
  apply List.map_congr_left
  intro l _
  rw [cC_snoc, if_neg (by omega)]
  simp
theorem cnts_put (zs : List Int) {z : Nat} (h0 : 0 < z) : cnts (zs ++ [(z : Int)]) = (cnts zs).set z ((cC zs z : Int) + 1) := by
  apply List.ext_getElem (by simp [cnts])
  intro i h1 h2
  simp only [List.getElem_set, cnts, List.getElem_map, List.getElem_range]
  rw [cC_snoc]
  by_cases e : z = i
  · subst e
    rw [if_pos ⟨by omega, rfl⟩, if_pos rfl]
    simp
  · rw [if_neg (by omega), if_neg e]
    simp

set_option maxRecDepth 100000 in
set_option maxHeartbeats 1000000 in
theorem counted_any (a : Option Addr) (zs : List Int) (n cap : Nat) (hn : Hid (zs.length = n)) (w : World) (hs : SegZ w a zs) (hl : n ≤ 9223372036854775807) :
    Calls Tryd.prog 111 #[.slice a n cap] w fun e w' => ∃ X : List Int, X.length = 16 ∧ (errS zs = 0 → X = cnts zs) ∧ e = .returned (.tuple #[.agg (arr X), .int .i64 (errS zs)]) ∧ Below w.heap.size w w' := by
  go_enter Tryd.func111, Tryd.ntmps111
  have hr0 : (w.alloc (.cells zero16 83)).heap[w.heap.size]? = some (.cells zero16 83 (0, 0)) := heap_alloc_new w _
  have B0 : Below w.heap.size w (w.alloc (.cells zero16 83)) := (Below.refl _ _).alloc (Nat.le_refl _) _
  have hz0 : w.heap.size < (w.alloc (.cells zero16 83)).heap.size := by simp
  go_wp2_with fail
  change Code.wp _ _ _ _ (w.alloc (.cells zero16 83))
  generalize w.alloc (.cells zero16 83) = W0 at *
  obtain ⟨r, er⟩ : ∃ r, r = w.heap.size := ⟨_, rfl⟩
  have HR : Hid (r = w.heap.size) := er
  rw [← er] at hr0 hz0
  rw [← er]
  clear er
  have hrW : ∀ ob, (W0.alloc ob).heap[r]? = some (.cells zero16 83 (0, 0)) := fun ob => (((Below.refl _ W0).alloc (Nat.le_refl _) ob).block r hz0).trans hr0
  go_step3
  by_cases h288 : 288 < n
  · have h288i : (288 : Int) < (n : Int) := by omega
    go_wp2_with (first
        | (refine wpList_load_row rfl 83 (.tmp 4) rfl W0.heap.size rfl _ zero16 _ _ (heap_alloc_new W0 (.cells zero16 83)) Tryd.underlying83 rfl (by kernel_rfl) ?_)
        | (refine wpList_store_row rfl 83 (.tmp 2) (.tmp 11) rfl r zero16 rfl rfl _ _ (hrW (.cells zero16 83)) (by kernel_rfl) rfl zero16_one ?_))
    rw [Exit.noGoto_ret]
    have hR := setRow_heap (W0.alloc (.cells zero16 83)) r _ zero16 _ _ (hrW (.cells zero16 83))
    have B1 : Below w.heap.size w (W0.alloc (.cells zero16 83)) := B0.alloc B0.size _
    refine bodyPost_ret (v := .tuple #[.agg zero16, .int .i64 50]) (results_ct (fn := Tryd.f111) (p := 2) (u := 3) (ty := 83) rfl _ _ r _ _ _ _ rfl hR Tryd.underlying83 rfl (by kernel_rfl)) rfl ⟨List.replicate 16 0, by simp, ?_, ?_, ?_⟩
    · intro e
      rw [errS_many (by have := hn.out; omega)] at e
      cases e
    · rw [errS_many (by have := hn.out; omega)]
      rfl
    · exact B1.grown (grown_setRow _ r _) B1.size (fun k hk => by cases hk; exact Nat.le_of_eq HR.out.symm)
  · have h288i : ¬ (288 : Int) < (n : Int) := by omega
    go_wp2_with fail
    go_step3
    go_wp2_with fail
    have ho0 : (W0.alloc (.cells zero16 83)).heap[W0.heap.size]? = some (.cells (arr (cnts [])) 83 (0, 0)) := heap_alloc_new W0 _
    have B1 : Below w.heap.size w (W0.alloc (.cells zero16 83)) := B0.alloc B0.size _
    have hr1 := hrW (.cells zero16 83)
    change Code.wp _ _ _ _ (W0.alloc (.cells zero16 83))
    generalize W0.alloc (.cells zero16 83) = W1 at *
    obtain ⟨o, eo⟩ : ∃ o, o = W0.heap.size := ⟨_, rfl⟩
    have HO : Hid (r < o ∧ w.heap.size ≤ r) := ⟨by omega, Nat.le_of_eq HR.out.symm⟩
    rw [← eo] at ho0
    rw [← eo]
    clear eo hrW
    go_loopw [5, 14] (fun te tj wr => ∃ j : Nat, j ≤ n ∧ te = .int .i64 0 ∧ tj = .int .i64 (j : Int) ∧ wr.heap[o]? = some (.cells (arr (cnts (zs.take j))) 83 (0, 0)) ∧ W1.grownBy wr (some o) ∧ Hid (∀ i, i < j → 0 ≤ zs.getD i 0 ∧ zs.getD i 0 ≤ 15)) (fun _ tj _ => n - (intOf tj).toNat)
    case atStart => exact ⟨0, by omega, rfl, rfl, by simpa using ho0, World.grownBy.refl _ _, fun i h => by omega⟩
    case round =>
      obtain ⟨j, hj, rfl, rfl, ho, hg, HOK⟩ := hrel
      have hr2 := (hg.block r (Array.getElem?_eq_some_iff.1 hr1).1 (by have := HO.out; simp; omega)).trans hr1
      have Bw := B1.grown hg B1.size (fun k hk => by cases hk; have := HO.out; omega)
      by_cases hjn : j < n
      · have hji : (j : Int) < (n : Int) := by omega
        obtain ⟨b, off, rfl, c0⟩ := (hs.old Bw).at_ j (by have := hn.out; omega)
        have HTK : Hid (zs.take (j + 1) = zs.take j ++ [zs.getD j 0]) := take_snocZ (by have := hn.out; omega)
        have HZ : Hid (∃ z, z = zs.getD j 0) := ⟨_, rfl⟩
        have hbd := hs.bd j
        obtain ⟨z, hz⟩ := HZ.out
        have HZJ : Hid (z = zs.getD j 0) := hz
        rw [← hz] at HTK c0 hbd
        clear HZ hz
        by_cases hz0 : z < 0
        · have HER : Hid (errS zs = 50) := errS_bad (i := j) (by have := hn.out; omega) (by rw [← HZJ.out]; omega)
          go_wp2_with (first
            | (refine wpList_load_row rfl 83 (.tmp 4) rfl o rfl _ _ _ _ ho Tryd.underlying83 rfl (arr_info (cnts_len _)) ?_)
            | (refine wpList_store_row rfl 83 (.tmp 2) (.tmp 34) rfl r (arr (cnts (zs.take j))) rfl rfl _ _ hr2 (arr_info (cnts_len _)) (by rw [arr_size, cnts_len]; rfl) (arr_one _) ?_))
          try rw [Exit.noGoto_ret]
          have hR := setRow_heap wr r _ (arr (cnts (zs.take j))) _ _ hr2
          refine bodyPost_ret (v := .tuple #[.agg (arr (cnts (zs.take j))), .int .i64 50]) (results_ct (fn := Tryd.f111) (p := 2) (u := 3) (ty := 83) rfl _ _ r _ _ _ _ rfl hR Tryd.underlying83 rfl (arr_info (cnts_len _))) rfl ⟨cnts (zs.take j), cnts_len _, ?_, ?_, Bw.grown (grown_setRow _ r _) Bw.size (fun k hk => by cases hk; exact HO.out.2)⟩
          · intro e
            rw [HER.out] at e
            cases e
          · rw [HER.out]
        · by_cases hz15 : 15 < z
          · have HER : Hid (errS zs = 50) := errS_bad (i := j) (by have := hn.out; omega) (by rw [← HZJ.out]; omega)
            go_wp2_with (first
              | (refine wpList_load_row rfl 83 (.tmp 4) rfl o rfl _ _ _ _ ho Tryd.underlying83 rfl (arr_info (cnts_len _)) ?_)
              | (refine wpList_store_row rfl 83 (.tmp 2) (.tmp 34) rfl r (arr (cnts (zs.take j))) rfl rfl _ _ hr2 (arr_info (cnts_len _)) (by rw [arr_size, cnts_len]; rfl) (arr_one _) ?_))
            try rw [Exit.noGoto_ret]
            have hR := setRow_heap wr r _ (arr (cnts (zs.take j))) _ _ hr2
            refine bodyPost_ret (v := .tuple #[.agg (arr (cnts (zs.take j))), .int .i64 50]) (results_ct (fn := Tryd.f111) (p := 2) (u := 3) (ty := 83) rfl _ _ r _ _ _ _ rfl hR Tryd.underlying83 rfl (arr_info (cnts_len _))) rfl ⟨cnts (zs.take j), cnts_len _, ?_, ?_, Bw.grown (grown_setRow _ r _) Bw.size (fun k hk => by cases hk; exact HO.out.2)⟩
            · intro e
              rw [HER.out] at e
              cases e
            · rw [HER.out]
          · by_cases hz00 : z = 0
            · subst hz00
              go_wp2_with fail
              go_roundw
              case rel =>
                refine ⟨j + 1, by omega, rfl, by go_num, ?_, hg, fun i hi => ?_⟩
                · rw [HTK.out, cnts_skip]; exact ho
                · by_cases e : i = j
                  · subst e; rw [← HZJ.out]; omega
                  · exact HOK.out i (by omega)
              case measure => simp [intOf]; omega
            · obtain ⟨k, rfl⟩ : ∃ k : Nat, z = (k : Int) := ⟨z.toNat, by omega⟩
              have hk16 : (k : Int) < 16 := by omega
              have hk0 : (0 : Int) < (k : Int) := by omega
              have HK16 : Hid (k < 16 ∧ 0 < k) := ⟨by omega, by omega⟩
              have d0 := arr_cell ho (i := k) (by rw [cnts_len]; omega)
              rw [cnts_get _ (by omega)] at d0
              have f0 := arr_free ho k
              have HSET : Hid _ := arr_set ho k ((cC (zs.take j) k : Int) + 1)
              have hcb : cC (zs.take j) k ≤ 100000 := Nat.le_trans (cC_le _ _) (by have := hn.out; simp; omega)
              have HCC : Hid (∃ c, c = cC (zs.take j) k) := ⟨_, rfl⟩
              obtain ⟨c, hc⟩ := HCC.out
              have HC : Hid (c = cC (zs.take j) k) := hc
              rw [← hc] at d0 HSET hcb
              clear hc HCC
              go_wp2_with fail
              go_roundw
              case rel =>
                refine ⟨j + 1, by omega, rfl, by go_num, ?_, grownBy_trans hg (set_grown _ _ _ _), fun i hi => ?_⟩
                · rw [HTK.out, cnts_put _ HK16.out.2, ← HC.out]; exact HSET.out
                · by_cases e : i = j
                  · subst e; rw [← HZJ.out]; omega
                  · exact HOK.out i (by omega)
              case measure => simp [intOf]; omega
      · obtain rfl : j = n := by omega
        have HALL : Hid (zs.take j = zs) := by show _ = _; exact List.take_of_length_le (by have := hn.out; omega)
        have HER : Hid (errS zs = 0) := errS_ok (by have := hn.out; omega) (fun z hz => by
          obtain ⟨i, hi, rfl⟩ := List.mem_iff_getElem.1 hz
          have := HOK.out i (by have := hn.out; omega)
          simpa [List.getD, hi] using this)
        go_wp2_with (first
          | (refine wpList_load_row rfl 83 (.tmp 4) rfl o rfl _ _ _ _ ho Tryd.underlying83 rfl (arr_info (cnts_len _)) ?_)
          | (refine wpList_store_row rfl 83 (.tmp 2) (.tmp 34) rfl r (arr (cnts (zs.take j))) rfl rfl _ _ hr2 (arr_info (cnts_len _)) (by rw [arr_size, cnts_len]; rfl) (arr_one _) ?_))
        try rw [Exit.noGoto_ret]
        have hR := setRow_heap wr r _ (arr (cnts (zs.take j))) _ _ hr2
        refine bodyPost_ret (v := .tuple #[.agg (arr (cnts (zs.take j))), .int .i64 0]) (results_ct (fn := Tryd.f111) (p := 2) (u := 3) (ty := 83) rfl _ _ r _ _ _ _ rfl hR Tryd.underlying83 rfl (arr_info (cnts_len _))) rfl ⟨cnts (zs.take j), cnts_len _, ?_, ?_, Bw.grown (grown_setRow _ r _) Bw.size (fun k hk => by cases hk; exact HO.out.2)⟩
        · intro _
          rw [HALL.out]
        · rw [HER.out]
end Go.Proofs.YtoeabfcnfofbiaaDoor
