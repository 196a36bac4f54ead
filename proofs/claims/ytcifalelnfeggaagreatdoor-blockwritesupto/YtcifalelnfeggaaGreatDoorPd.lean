import Derived.Test.YtcifalelnfeggaaGreatDoorPc
import Derived.Test.YtcifalelnfeggaaGreatDoorPb
import Derived.Test.YtcifalelnfeggaaGreatDoorProg
import Derived.WalkKit
import Derived.WalkSpells
import Derived.WalkLawsBesides
import Derived.Laws.BitsAllLaws
import Derived.Laws.ShiftsVarLaws
import Derived.Test.YtcifalelnfeggaaGreatDoorPa
import Derived.Deep.RegionHeld3
import Derived.Deep.AppendLies
import Derived.Deep.RegionLaw
import Derived.Deep.QuietTactic
import Derived.BigQuiet
namespace Go.Proofs.YtcifalelnfeggaaGreatDoor
open Go.RowKit
set_option linter.unusedVariables false

/-- A length that may not be, or too many. -/
def okL (zs : List Int) : Bool := zs.all fun z => decide (0 ≤ z ∧ z ≤ 15)
def errS (zs : List Int) : Int := if 288 < zs.length then 50 else if okL zs then 0 else 50
theorem okL_iff {zs : List Int} : okL zs = true ↔ LOk zs := by simp [okL, LOk]
theorem errS_many {zs : List Int} (h : 288 < zs.length) : errS zs = 50 := by unfold errS; rw [if_pos h]
theorem errS_bad {zs : List Int} {i : Nat} (hi : i < zs.length) (h : ¬ (0 ≤ zs.getD i 0 ∧ zs.getD i 0 ≤ 15)) : errS zs = 50 := by
  unfold errS
  split
  · rfl
  · rw [if_neg]
    intro e
    exact h ((okL_iff.1 e).get i)
theorem errS_ok {zs : List Int} (h : ¬ 288 < zs.length) (h2 : LOk zs) : errS zs = 0 := by unfold errS; rw [if_neg h, if_pos (okL_iff.2 h2)]
theorem errS_zero {zs : List Int} (h : errS zs = 0) : zs.length ≤ 288 ∧ LOk zs := by
  unfold errS at h
  split at h
  · cases h
  · split at h
    · rename_i h1 h2
      exact ⟨by omega, okL_iff.1 h2⟩
    · cases h
theorem cnts_nil : cnts [] = List.replicate 16 0 := by rfl
theorem cnts_skip (zs : List Int) : cnts (zs ++ [0]) = cnts zs := by
  unfold cnts
  apply List.map_congr_left
  intro l _
  rw [cC_snoc, if_neg (by omega)]
  simp
theorem cnts_put (zs : List Int) {z : Nat} (h0 : 0 < z) : cnts (zs ++ [(z : Int)]) = (cnts zs).set z ((cC zs z : Int) + 1) := by
  apply List.ext_getElem (by simp [cnts])
  intro i h1 h2
  simp only [List.getElem_set, cnts, List.getElem_map, List.getElem_range]
  rw [cC_snoc]
  by_cases e : z = i
  · subst e
    rw [if_pos ⟨by omega, rfl⟩, if_pos rfl]
    simp
  · rw [if_neg (by omega), if_neg e]
    simp

set_option maxRecDepth 100000 in
set_option maxHeartbeats 1000000 in
theorem counted_any (a : Option Addr) (zs : List Int) (n cap : Nat) (hn : Hid (zs.length = n)) (w : World) (hs : SegZ w a zs) (hl : n ≤ 9223372036854775807) :
    Calls Tryz.prog 167 #[.slice a n cap] w fun e w' => ∃ X : List Int, X.length = 16 ∧ (errS zs = 0 → X = cnts zs) ∧ e = .returned (.tuple #[.agg (arr X), .int .i64 (errS zs)]) ∧ Below w.heap.size w w' := by
  go_enter Tryz.func167, Tryz.ntmps167
  have hr0 : (w.alloc (.cells zero16 219)).heap[w.heap.size]? = some (.cells zero16 219 (0, 0)) := heap_alloc_new w _
  have B0 : Below w.heap.size w (w.alloc (.cells zero16 219)) := (Below.refl _ _).alloc (Nat.le_refl _) _
  have hz0 : w.heap.size < (w.alloc (.cells zero16 219)).heap.size := by simp
  go_wp2_with fail
  change Code.wp _ _ _ _ (w.alloc (.cells zero16 219))
  generalize w.alloc (.cells zero16 219) = W0 at *
  obtain ⟨r, er⟩ : ∃ r, r = w.heap.size := ⟨_, rfl⟩
  have HR : Hid (r = w.heap.size) := er
  rw [← er] at hr0 hz0
  rw [← er]
  clear er
  have hrW : ∀ ob, (W0.alloc ob).heap[r]? = some (.cells zero16 219 (0, 0)) := fun ob => (((Below.refl _ W0).alloc (Nat.le_refl _) ob).block r hz0).trans hr0
  go_step3
  by_cases h288 : 288 < n
  · have h288i : (288 : Int) < (n : Int) := by omega
    go_wp2_with (first
        | (refine wpList_load_row rfl 219 (.tmp 4) rfl W0.heap.size rfl _ zero16 _ _ (heap_alloc_new W0 (.cells zero16 219)) Tryz.underlying219 rfl (by kernel_rfl) ?_)
        | (refine wpList_store_row rfl 219 (.tmp 2) (.tmp 11) rfl r zero16 rfl rfl _ _ (hrW (.cells zero16 219)) (by kernel_rfl) rfl zero16_one ?_))
    rw [Exit.noGoto_ret]
    have hR := setRow_heap (W0.alloc (.cells zero16 219)) r _ zero16 _ _ (hrW (.cells zero16 219))
    have B1 : Below w.heap.size w (W0.alloc (.cells zero16 219)) := B0.alloc B0.size _
    refine bodyPost_ret (v := .tuple #[.agg zero16, .int .i64 50]) (results_ct (fn := Tryz.f167) (p := 2) (u := 3) (ty := 219) rfl _ _ r _ _ _ _ rfl hR Tryz.underlying219 rfl (by kernel_rfl)) rfl ⟨List.replicate 16 0, by simp, ?_, ?_, ?_⟩
    · intro e
      rw [errS_many (by have := hn.out; omega)] at e
      cases e
    · rw [errS_many (by have := hn.out; omega)]
      rfl
    · exact B1.grown (grown_setRow _ r _) B1.size (fun k hk => by cases hk; exact Nat.le_of_eq HR.out.symm)
  · have h288i : ¬ (288 : Int) < (n : Int) := by omega
    go_wp2_with fail
    go_step3
    go_wp2_with fail
    have ho0 : (W0.alloc (.cells zero16 219)).heap[W0.heap.size]? = some (.cells (arr (cnts [])) 219 (0, 0)) := heap_alloc_new W0 _
    have B1 : Below w.heap.size w (W0.alloc (.cells zero16 219)) := B0.alloc B0.size _
    have hr1 := hrW (.cells zero16 219)
    change Code.wp _ _ _ _ (W0.alloc (.cells zero16 219))
    generalize W0.alloc (.cells zero16 219) = W1 at *
    obtain ⟨o, eo⟩ : ∃ o, o = W0.heap.size := ⟨_, rfl⟩
    have HO : Hid (r < o ∧ w.heap.size ≤ r) := ⟨by omega, Nat.le_of_eq HR.out.symm⟩
    rw [← eo] at ho0
    rw [← eo]
    clear eo hrW
    go_loopw [5, 14] (fun te tj wr => ∃ j : Nat, j ≤ n ∧ te = .int .i64 0 ∧ tj = .int .i64 (j : Int) ∧ wr.heap[o]? = some (.cells (arr (cnts (zs.take j))) 219 (0, 0)) ∧ W1.grownBy wr (some o) ∧ Hid (∀ i, i < j → 0 ≤ zs.getD i 0 ∧ zs.getD i 0 ≤ 15)) (fun _ tj _ => n - (intOf tj).toNat)
    case atStart => exact ⟨0, by omega, rfl, rfl, by simpa using ho0, World.grownBy.refl _ _, fun i h => by omega⟩
    case round =>
      obtain ⟨j, hj, rfl, rfl, ho, hg, HOK⟩ := hrel
      have hr2 := (hg.block r (Array.getElem?_eq_some_iff.1 hr1).1 (by have := HO.out; simp; omega)).trans hr1
      have Bw := B1.grown hg B1.size (fun k hk => by cases hk; have := HO.out; omega)
      by_cases hjn : j < n
      · have hji : (j : Int) < (n : Int) := by omega
        obtain ⟨b, off, rfl, c0⟩ := (hs.old Bw).at_ j (by have := hn.out; omega)
        have HTK : Hid (zs.take (j + 1) = zs.take j ++ [zs.getD j 0]) := take_snocZ (by have := hn.out; omega)
        have HZ : Hid (∃ z, z = zs.getD j 0) := ⟨_, rfl⟩
        have hbd := hs.bd j
        obtain ⟨z, hz⟩ := HZ.out
        have HZJ : Hid (z = zs.getD j 0) := hz
        rw [← hz] at HTK c0 hbd
        clear HZ hz
        by_cases hz0 : z < 0
        · have HER : Hid (errS zs = 50) := errS_bad (i := j) (by have := hn.out; omega) (by rw [← HZJ.out]; omega)
          go_wp2_with (first
            | (refine wpList_load_row rfl 219 (.tmp 4) rfl o rfl _ _ _ _ ho Tryz.underlying219 rfl (arr_info (cnts_len _)) ?_)
            | (refine wpList_store_row rfl 219 (.tmp 2) (.tmp 34) rfl r (arr (cnts (zs.take j))) rfl rfl _ _ hr2 (arr_info (cnts_len _)) (by rw [arr_size, cnts_len]; rfl) (arr_one _) ?_))
          try rw [Exit.noGoto_ret]
          have hR := setRow_heap wr r _ (arr (cnts (zs.take j))) _ _ hr2
          refine bodyPost_ret (v := .tuple #[.agg (arr (cnts (zs.take j))), .int .i64 50]) (results_ct (fn := Tryz.f167) (p := 2) (u := 3) (ty := 219) rfl _ _ r _ _ _ _ rfl hR Tryz.underlying219 rfl (arr_info (cnts_len _))) rfl ⟨cnts (zs.take j), cnts_len _, ?_, ?_, Bw.grown (grown_setRow _ r _) Bw.size (fun k hk => by cases hk; exact HO.out.2)⟩
          · intro e
            rw [HER.out] at e
            cases e
          · rw [HER.out]
        · by_cases hz15 : 15 < z
          · have HER : Hid (errS zs = 50) := errS_bad (i := j) (by have := hn.out; omega) (by rw [← HZJ.out]; omega)
            go_wp2_with (first
              | (refine wpList_load_row rfl 219 (.tmp 4) rfl o rfl _ _ _ _ ho Tryz.underlying219 rfl (arr_info (cnts_len _)) ?_)
              | (refine wpList_store_row rfl 219 (.tmp 2) (.tmp 34) rfl r (arr (cnts (zs.take j))) rfl rfl _ _ hr2 (arr_info (cnts_len _)) (by rw [arr_size, cnts_len]; rfl) (arr_one _) ?_))
            try rw [Exit.noGoto_ret]
            have hR := setRow_heap wr r _ (arr (cnts (zs.take j))) _ _ hr2
            refine bodyPost_ret (v := .tuple #[.agg (arr (cnts (zs.take j))), .int .i64 50]) (results_ct (fn := Tryz.f167) (p := 2) (u := 3) (ty := 219) rfl _ _ r _ _ _ _ rfl hR Tryz.underlying219 rfl (arr_info (cnts_len _))) rfl ⟨cnts (zs.take j), cnts_len _, ?_, ?_, Bw.grown (grown_setRow _ r _) Bw.size (fun k hk => by cases hk; exact HO.out.2)⟩
            · intro e
              rw [HER.out] at e
              cases e
            · rw [HER.out]
          · by_cases hz00 : z = 0
            · subst hz00
              go_wp2_with fail
              go_roundw
              case rel =>
                refine ⟨j + 1, by omega, rfl, by go_num, ?_, hg, fun i hi => ?_⟩
                · rw [HTK.out, cnts_skip]; exact ho
                · by_cases e : i = j
                  · subst e; rw [← HZJ.out]; omega
                  · exact HOK.out i (by omega)
              case measure => simp [intOf]; omega
            · obtain ⟨k, rfl⟩ : ∃ k : Nat, z = (k : Int) := ⟨z.toNat, by omega⟩
              have hk16 : (k : Int) < 16 := by omega
              have hk0 : (0 : Int) < (k : Int) := by omega
              have HK16 : Hid (k < 16 ∧ 0 < k) := ⟨by omega, by omega⟩
              have d0 := arr_cell ho (i := k) (by rw [cnts_len]; omega)
              rw [cnts_get _ (by omega)] at d0
              have f0 := arr_free ho k
              have HSET : Hid _ := arr_set ho k ((cC (zs.take j) k : Int) + 1)
              have hcb : cC (zs.take j) k ≤ 100000 := Nat.le_trans (cC_le _ _) (by have := hn.out; simp; omega)
              have HCC : Hid (∃ c, c = cC (zs.take j) k) := ⟨_, rfl⟩
              obtain ⟨c, hc⟩ := HCC.out
              have HC : Hid (c = cC (zs.take j) k) := hc
              rw [← hc] at d0 HSET hcb
              clear hc HCC
              go_wp2_with fail
              go_roundw
              case rel =>
                refine ⟨j + 1, by omega, rfl, by go_num, ?_, grownBy_trans hg (set_grown _ _ _ _), fun i hi => ?_⟩
                · rw [HTK.out, cnts_put _ HK16.out.2, ← HC.out]; exact HSET.out
                · by_cases e : i = j
                  · subst e; rw [← HZJ.out]; omega
                  · exact HOK.out i (by omega)
              case measure => simp [intOf]; omega
      · obtain rfl : j = n := by omega
        have HALL : Hid (zs.take j = zs) := by show _ = _; exact List.take_of_length_le (by have := hn.out; omega)
        have HER : Hid (errS zs = 0) := errS_ok (by have := hn.out; omega) (fun z hz => by
          obtain ⟨i, hi, rfl⟩ := List.mem_iff_getElem.1 hz
          have := HOK.out i (by have := hn.out; omega)
          simpa [List.getD, hi] using this)
        go_wp2_with (first
          | (refine wpList_load_row rfl 219 (.tmp 4) rfl o rfl _ _ _ _ ho Tryz.underlying219 rfl (arr_info (cnts_len _)) ?_)
          | (refine wpList_store_row rfl 219 (.tmp 2) (.tmp 34) rfl r (arr (cnts (zs.take j))) rfl rfl _ _ hr2 (arr_info (cnts_len _)) (by rw [arr_size, cnts_len]; rfl) (arr_one _) ?_))
        try rw [Exit.noGoto_ret]
        have hR := setRow_heap wr r _ (arr (cnts (zs.take j))) _ _ hr2
        refine bodyPost_ret (v := .tuple #[.agg (arr (cnts (zs.take j))), .int .i64 0]) (results_ct (fn := Tryz.f167) (p := 2) (u := 3) (ty := 219) rfl _ _ r _ _ _ _ rfl hR Tryz.underlying219 rfl (arr_info (cnts_len _))) rfl ⟨cnts (zs.take j), cnts_len _, ?_, ?_, Bw.grown (grown_setRow _ r _) Bw.size (fun k hk => by cases hk; exact HO.out.2)⟩
        · intro _
          rw [HALL.out]
        · rw [HER.out]
end Go.Proofs.YtcifalelnfeggaaGreatDoor

namespace Go.Proofs.YtcifalelnfeggaaGreatDoor
open Go.RowKit
set_option linter.unusedVariables false

def errR (zs : List Int) : Int := if 32768 < spc zs then 51 else if spc zs = 32768 ∨ tot zs = 0 ∨ (tot zs = 1 ∧ cC zs 1 = 1) then 0 else 52
def errC (zs : List Int) : Int := if errS zs = 0 then errR zs else errS zs
theorem info16 : (Tryz.prog.info? 219).map (·.size) = some 16 := by kernel_rfl

set_option maxRecDepth 100000 in
set_option maxHeartbeats 1000000 in
theorem refusal5_any (zs : List Int) (hb : ∀ l, cC zs l ≤ 288) (w : World) :
    Calls Tryz.prog 168 #[.agg (arr (cnts zs))] w fun e w' => e = .returned (.int .i64 (errR zs)) ∧ Below w.heap.size w w' := by
  have h0 : (w.alloc (.cells (arr (cnts zs)) 219)).heap[w.heap.size]? = some (.cells (arr (cnts zs)) 219 (0, 0)) := heap_alloc_new w _
  have B0 : Below w.heap.size w (w.alloc (.cells (arr (cnts zs)) 219)) := (Below.refl _ _).alloc (Nat.le_refl _) _
  have hu99 := Tryz.underlying219
  have hi99 : (Tryz.prog.info? 219).map (·.size) = some ((cnts zs).map (Value.int .i64)).length := by rw [List.length_map, cnts_len]; exact info16
  go_enter Tryz.func168, Tryz.ntmps168
  go_wp2_with fail
  generalize w.alloc (.cells (arr (cnts zs)) 219) = wr at *
  obtain ⟨a, ea⟩ : ∃ a, a = w.heap.size := ⟨_, rfl⟩
  have HA : Hid (a = w.heap.size) := ea
  rw [← ea] at h0 ⊢
  clear ea
  have hlt : a < wr.heap.size := (Array.getElem?_eq_some_iff.1 h0).1
  have r0 := arr_range h0
  have c1 := arr_cell h0 (i := 1) (by rw [cnts_len]; decide)
  rw [cnts_get zs (by decide)] at c1
  have HK : Hid (∀ w', Below wr.heap.size wr w' → w'.rangeAt a 0 ((cnts zs).map (Value.int .i64))) := fun w' hb => range_old r0 hb hlt
  have HK1 : Hid (∀ w', Below wr.heap.size wr w' → w'.cell? ⟨a, 1, none⟩ = some (.int .i64 (cC zs 1 : Int))) := fun w' hb => (hb.cell (p := ⟨a, 1, none⟩) hlt).trans c1
  have HS : Hid (∀ W, Below wr.heap.size wr W → Calls Tryz.prog 172 #[.agg (arr (cnts zs))] W fun e w' => e = .returned (.int .i64 (spc zs : Int)) ∧ Below wr.heap.size wr w') := fun W hW => (pspace_any zs hb W).mono fun e w' h => ⟨h.1, hW.trans (h.2.mono hW.size)⟩
  have HT : Hid (∀ W, Below wr.heap.size wr W → Calls Tryz.prog 169 #[.agg (arr (cnts zs))] W fun e w' => e = .returned (.int .i64 (tot zs : Int)) ∧ Below wr.heap.size wr w') := fun W hW => (total_any zs hb W).mono fun e w' h => ⟨h.1, hW.trans (h.2.mono hW.size)⟩
  have Brr : Below wr.heap.size wr wr := Below.refl _ _
  have HB : Hid (∀ w', Below wr.heap.size wr w' → Below w.heap.size w w') := fun w' h => B0.trans (h.mono B0.size)
  obtain ⟨s, hs⟩ : ∃ s, s = spc zs := ⟨_, rfl⟩
  obtain ⟨t, ht⟩ : ∃ t, t = tot zs := ⟨_, rfl⟩
  have htb : t ≤ 4608 := by have h2 := cS_le zs hb 16; rw [ht]; unfold tot; omega
  have hsb : s ≤ 100000000 := by
    have h1 := spc_tot zs
    rw [← hs, ← ht] at h1
    omega
  have hcb := hb 1
  have HERR : Hid (errR zs = if 32768 < s then 51 else if s = 32768 ∨ t = 0 ∨ (t = 1 ∧ cC zs 1 = 1) then 0 else 52) := by
    show _ = _
    unfold errR
    rw [← hs, ← ht]
  rw [← hs] at HS
  rw [← ht] at HT
  clear hs ht c1 hb
  generalize cC zs 1 = q at *
  refine wp_region_held_drew (S := fun w' => w'.rangeAt a 0 ((cnts zs).map (Value.int .i64))) (by kernel_rfl) (HK.out _ (Below.drew Brr)) (fun hHeld => ?_)
  refine wpAnyH_take (i := 0) (v := .agg (arr (cnts zs))) rfl (by kernel_rfl) (by kernel_rfl) (by kernel_rfl) (fun _ _ _ h => h) (yieldsIf_load_mid (by rfl) _ _ rfl _ _ rfl _ _ (fun w h => h) hu99 rfl hi99) hHeld ?_
  simp only [Act.put, List.setIfInBounds_toArray]
  refine wpAnyH_take (i := 2) (v := .agg (arr (cnts zs))) rfl (by kernel_rfl) (by kernel_rfl) (by kernel_rfl) (fun _ _ _ h => h) (yieldsIf_load_mid (by rfl) _ _ rfl _ _ rfl _ _ (fun w h => h) hu99 rfl hi99) hHeld ?_
  simp only [Act.put]
  refine wpAnyH_ready (rs := [1]) (by kernel_rfl) (by simp) ?_
  refine AllReadyH.cons rfl (fun K hK => ?_) AllReadyH.nil
  go_simp
  refine (HS.out _ (Below.drew Brr)).mono ?_
  rintro e w3 ⟨rfl, b3⟩
  refine hK.out _ _ (HK.out _ b3) (fun hHeld2 => ?_)
  clear hK K
  refine wpAnyH_ready (rs := [3]) (by kernel_rfl) (by simp) ?_
  refine AllReadyH.cons rfl (fun K hK => ?_) AllReadyH.nil
  go_simp
  refine (HT.out _ b3).mono ?_
  rintro e w4 ⟨rfl, b4⟩
  refine hK.out _ _ (HK.out _ b4) (fun hHeld3 => ?_)
  clear hK K
  refine wpAnyH_ready (rs := [4]) (by kernel_rfl) (by simp) ?_
  refine AllReadyH.cons rfl (fun K hK => ?_) AllReadyH.nil
  go_simp
  refine hK.out _ _ (HK.out _ b4) (fun _ => ?_)
  clear hK K
  refine wpAnyH_ready (rs := [5]) (by kernel_rfl) (by simp) ?_
  refine AllReadyH.cons rfl (fun K hK => ?_) AllReadyH.nil
  go_simp
  refine hK.out _ _ (HK.out _ b4) (fun _ => ?_)
  clear hK K
  refine wpAnyH_done (by kernel_rfl) ?_ _
  all_goals
    have cq := HK1.out _ b4
    have HBB : Hid _ := HB.out _ b4
    by_cases h1 : 32768 < s
    · have h1i : (32768 : Int) < (s : Int) := by omega
      have he : Hid (errR zs = 51) := by show _ = _; rw [HERR.out, if_pos h1]
      go_wp2
      go_ret
      exact ⟨by rw [he.out]; rfl, HBB.out⟩
    · have h1i : ¬ (32768 : Int) < (s : Int) := by omega
      by_cases h2 : s = 32768
      · subst h2
        have he : Hid (errR zs = 0) := by show _ = _; rw [HERR.out, if_neg h1, if_pos (Or.inl rfl)]
        go_wp2
        go_ret
        exact ⟨by rw [he.out]; rfl, HBB.out⟩
      · have h2i : ¬ (s : Int) = 32768 := by omega
        by_cases h3 : t = 0
        · subst h3
          have he : Hid (errR zs = 0) := by show _ = _; rw [HERR.out, if_neg h1, if_pos (Or.inr (Or.inl rfl))]
          go_wp2
          go_ret
          exact ⟨by rw [he.out]; rfl, HBB.out⟩
        · have h3i : ¬ (t : Int) = 0 := by omega
          by_cases h4 : t = 1
          · subst h4
            by_cases h5 : q = 1
            · subst h5
              have he : Hid (errR zs = 0) := by show _ = _; rw [HERR.out, if_neg h1, if_pos (Or.inr (Or.inr ⟨rfl, rfl⟩))]
              go_wp2
              go_ret
              exact ⟨by rw [he.out]; rfl, HBB.out⟩
            · have h5i : ¬ (q : Int) = 1 := by omega
              have he : Hid (errR zs = 52) := by show _ = _; rw [HERR.out, if_neg h1, if_neg (by omega)]
              go_wp2
              go_ret
              exact ⟨by rw [he.out]; rfl, HBB.out⟩
          · have h4i : ¬ (t : Int) = 1 := by omega
            have he : Hid (errR zs = 52) := by show _ = _; rw [HERR.out, if_neg h1, if_neg (by omega)]
            go_wp2
            go_ret
            exact ⟨by rw [he.out]; rfl, HBB.out⟩
theorem errC_zero {zs : List Int} (h : errC zs = 0) : errS zs = 0 ∧ errR zs = 0 := by
  unfold errC at h
  split at h
  · rename_i h1; exact ⟨h1, h⟩
  · rename_i h1; exact absurd h h1
theorem cC_288 {zs : List Int} (h : errS zs = 0) : ∀ l, cC zs l ≤ 288 := fun l => Nat.le_trans (cC_le zs l) (errS_zero h).1
end Go.Proofs.YtcifalelnfeggaaGreatDoor

namespace Go.Proofs.YtcifalelnfeggaaGreatDoor
open Go.RowKit
set_option linter.unusedVariables false

theorem errS_two (zs : List Int) : errS zs = 0 ∨ errS zs = 50 := by
  unfold errS
  split
  · exact .inr rfl
  · split
    · exact .inl rfl
    · exact .inr rfl
theorem new_arr {w : World} {A : List Int} {t : TypeId} : (w.alloc (.cells (arr A) t)).heap[w.heap.size]? = some (.cells (arr A) t (0, 0)) := heap_alloc_new w _

set_option maxRecDepth 100000 in
set_option maxHeartbeats 1000000 in
theorem checked_any (a : Option Addr) (zs : List Int) (n cap : Nat) (hn : Hid (zs.length = n)) (w : World) (hs : SegZ w a zs) (hl : n ≤ 9223372036854775807) :
    Calls Tryz.prog 154 #[.slice a n cap] w fun e w' => ∃ X : List Int, X.length = 16 ∧ (errC zs = 0 → X = cnts zs) ∧ e = .returned (.tuple #[.agg (arr X), .int .i64 (errC zs)]) ∧ Below w.heap.size w w' := by
  have HC : Hid (∀ W, Below w.heap.size w W → Calls Tryz.prog 167 #[.slice a n cap] W fun e w' => ∃ X : List Int, X.length = 16 ∧ (errS zs = 0 → X = cnts zs) ∧ e = .returned (.tuple #[.agg (arr X), .int .i64 (errS zs)]) ∧ Below W.heap.size W w') := fun W hW => counted_any a zs n cap hn W (hs.old hW) hl
  go_enter Tryz.func154, Tryz.ntmps154
  have hr0 : (w.alloc (.cells zero16 219)).heap[w.heap.size]? = some (.cells zero16 219 (0, 0)) := heap_alloc_new w _
  have B0 : Below w.heap.size w (w.alloc (.cells zero16 219)) := (Below.refl _ _).alloc (Nat.le_refl _) _
  have hz0 : w.heap.size < (w.alloc (.cells zero16 219)).heap.size := by simp
  go_wp2_with fail
  change Calls _ _ _ (w.alloc (.cells zero16 219)) _
  generalize w.alloc (.cells zero16 219) = W0 at *
  obtain ⟨r, er⟩ : ∃ r, r = w.heap.size := ⟨_, rfl⟩
  have HR : Hid (r = w.heap.size) := er
  rw [← er] at hr0 hz0
  rw [← er]
  clear er
  refine (HC.out _ B0).mono ?_
  rintro e W1 ⟨X, hX16, hXc, rfl, B1⟩
  have HX : Hid (X.length = 16 ∧ (errS zs = 0 → X = cnts zs)) := ⟨hX16, hXc⟩
  clear hX16 hXc
  have hr1 := (B1.block r hz0).trans hr0
  have hz1 : r < W1.heap.size := Nat.lt_of_lt_of_le hz0 B1.size
  have B01 : Below w.heap.size w W1 := B0.trans (B1.mono B0.size)
  have hr2 : (W1.alloc (.cells (arr X) 219)).heap[r]? = some (.cells zero16 219 (0, 0)) := (((Below.refl _ W1).alloc (Nat.le_refl _) _).block r hz1).trans hr1
  have B2 : Below w.heap.size w (W1.alloc (.cells (arr X) 219)) := B01.alloc B01.size _
  have hz2 : r < (W1.alloc (.cells (arr X) 219)).heap.size := by simp; omega
  have ho2 := new_arr (w := W1) (A := X) (t := 219)
  obtain ⟨o, eo⟩ : ∃ o, o = W1.heap.size := ⟨_, rfl⟩
  have HO : Hid (o = W1.heap.size) := eo
  rw [← eo] at ho2
  have hro : r ≠ o := by omega
  have hoz : o < (W1.alloc (.cells (arr X) 219)).heap.size := by simp; omega
  clear eo
  rcases errS_two zs with he | he
  · have HE : Hid (errS zs = 0) := he
    rw [he]
    clear he
    have HXc : Hid (X = cnts zs) := HX.out.2 HE.out
    have HCR : Hid (∀ W, Calls Tryz.prog 168 #[.agg (arr X)] W fun e w' => e = .returned (.int .i64 (errR zs)) ∧ Below W.heap.size W w') := fun W => by
      rw [HXc.out]
      exact refusal5_any zs (cC_288 HE.out) W
    go_wp2_with (first
      | (refine wpList_store_row rfl 219 _ _ rfl W1.heap.size (arr X) rfl rfl _ zero16 (heap_alloc_new W1 _) (arr_info HX.out.1) (by rw [arr_size, HX.out.1]; rfl) (arr_one _) ?_; rw [World.setRow_alloc_new, ← HO.out]; generalize W1.alloc (.cells (arr X) 219) = W2 at *)
      | (refine wpList_load_row rfl 219 _ rfl o rfl _ _ _ _ ho2 Tryz.underlying219 rfl (arr_info HX.out.1) ?_))
    refine (HCR.out _).mono ?_
    rintro e W3 ⟨rfl, B3⟩
    have hr3 := (B3.block r hz2).trans hr2
    have ho3 := (B3.block o hoz).trans ho2
    have Bw : Below w.heap.size w W3 := B2.trans (B3.mono B2.size)
    go_wp2_with (first
      | (refine wpList_load_row rfl 219 _ rfl o rfl _ _ _ _ ho3 Tryz.underlying219 rfl (arr_info HX.out.1) ?_)
      | (refine wpList_store_row rfl 219 _ _ rfl r (arr X) rfl rfl _ _ hr3 (arr_info HX.out.1) (by rw [arr_size, HX.out.1]; rfl) (arr_one _) ?_))
    have hR := setRow_heap W3 r _ (arr X) _ _ hr3
    refine bodyPost_ret (v := .tuple #[.agg (arr X), .int .i64 (errR zs)]) (results_ct (fn := Tryz.f154) (p := 2) (u := 3) (ty := 219) rfl _ _ r _ _ _ _ rfl hR Tryz.underlying219 rfl (arr_info HX.out.1)) rfl ⟨X, HX.out.1, fun _ => HXc.out, ?_, Bw.grown (grown_setRow _ r _) Bw.size (fun k hk => by cases hk; exact Nat.le_of_eq HR.out.symm)⟩
    unfold errC
    rw [if_pos HE.out]
  · have HE : Hid (errS zs = 50) := he
    rw [he]
    clear he
    go_wp2_with (first
      | (refine wpList_store_row rfl 219 _ _ rfl W1.heap.size (arr X) rfl rfl _ zero16 (heap_alloc_new W1 _) (arr_info HX.out.1) (by rw [arr_size, HX.out.1]; rfl) (arr_one _) ?_; rw [World.setRow_alloc_new, ← HO.out]; generalize W1.alloc (.cells (arr X) 219) = W2 at *)
      | (refine wpList_load_row rfl 219 _ rfl o rfl _ _ _ _ ho2 Tryz.underlying219 rfl (arr_info HX.out.1) ?_)
      | (refine wpList_store_row rfl 219 _ _ rfl r (arr X) rfl rfl _ _ hr2 (arr_info HX.out.1) (by rw [arr_size, HX.out.1]; rfl) (arr_one _) ?_))
    have hR := setRow_heap _ r _ (arr X) _ _ hr2
    refine bodyPost_ret (v := .tuple #[.agg (arr X), .int .i64 50]) (results_ct (fn := Tryz.f154) (p := 2) (u := 3) (ty := 219) rfl _ _ r _ _ _ _ rfl hR Tryz.underlying219 rfl (arr_info HX.out.1)) rfl ⟨X, HX.out.1, ?_, ?_, B2.grown (grown_setRow _ r _) B2.size (fun k hk => by cases hk; exact Nat.le_of_eq HR.out.symm)⟩
    · intro h
      have := (errC_zero h).1
      rw [HE.out] at this
      cases this
    · unfold errC
      rw [HE.out, if_neg (by decide)]
end Go.Proofs.YtcifalelnfeggaaGreatDoor

namespace Go.Proofs.YtcifalelnfeggaaGreatDoor
open Go.RowKit
set_option linter.unusedVariables false

theorem errC_cases (zs : List Int) : errC zs = 0 ∨ errC zs = 50 ∨ errC zs = 51 ∨ errC zs = 52 := by
  unfold errC
  split
  · unfold errR
    split
    · exact .inr (.inr (.inl rfl))
    · split
      · exact .inl rfl
      · exact .inr (.inr (.inr rfl))
  · rename_i h
    rcases errS_two zs with h1 | h1
    · exact absurd h1 h
    · exact .inr (.inl h1)

set_option maxRecDepth 100000 in
set_option maxHeartbeats 400000 in
theorem check_any (a : Option Addr) (zs : List Int) (n cap : Nat) (hn : Hid (zs.length = n)) (w : World) (hs : SegZ w a zs) (hl : n ≤ 9223372036854775807) :
    Calls Tryz.prog 163 #[.slice a n cap] w fun e w' => e = .returned (.int .i64 (errC zs)) ∧ Below w.heap.size w w' := by
  have HC := checked_any a zs n cap hn w hs hl
  go_enter Tryz.func163, Tryz.ntmps163
  go_wp2_with fail
  refine HC.mono ?_
  rintro e W1 ⟨X, hX16, hXc, rfl, B1⟩
  have HX : Hid (X.length = 16) := hX16
  clear hX16 hXc
  have B2 : Below w.heap.size w (W1.alloc (.cells (arr X) 219)) := B1.alloc B1.size _
  go_wp2_with (first
      | (refine wpList_store_row rfl 219 _ _ rfl W1.heap.size (arr X) rfl rfl _ zero16 (heap_alloc_new W1 _) (arr_info HX.out) (by rw [arr_size, HX.out]; rfl) (arr_one _) ?_; rw [World.setRow_alloc_new]))
  go_ret
  exact ⟨rfl, B2⟩
def spcR (zs : List Int) : Nat := if errS zs = 0 then spc zs else 0

end Go.Proofs.YtcifalelnfeggaaGreatDoor

namespace Go.Proofs.YtcifalelnfeggaaGreatDoor
open Go.RowKit
set_option linter.unusedVariables false

/-- Each symbol's code. -/
def cds (zs : List Int) : List Int := (List.range zs.length).map fun s => (cd zs s : Int)
def cdsR (zs : List Int) : List Int := if errC zs = 0 then cds zs else []
def cdk (zs : List Int) (n j : Nat) : List Int := (List.range n).map fun s => if s < j then (cd zs s : Int) else 0
theorem cds_len (zs : List Int) : (cds zs).length = zs.length := by simp [cds]
theorem cds_get (zs : List Int) {s : Nat} (h : s < zs.length) : (cds zs).getD s 0 = (cd zs s : Int) := by simp [cds, List.getD, h]
theorem cdk_zero (zs : List Int) (n : Nat) : cdk zs n 0 = List.replicate n 0 := by
  apply List.ext_getElem (by simp [cdk])
  intro i h1 h2
  simp [cdk]
theorem cdk_len (zs : List Int) (n j : Nat) : (cdk zs n j).length = n := by simp [cdk]
theorem cdk_all (zs : List Int) : cdk zs zs.length zs.length = cds zs := by
  unfold cdk cds
  apply List.map_congr_left
  intro i hi
  rw [List.mem_range] at hi
  rw [if_pos hi]
theorem cdk_skip {zs : List Int} {n j : Nat} (h : cd zs j = 0) : cdk zs n (j + 1) = cdk zs n j := by
  unfold cdk
  apply List.map_congr_left
  intro i hi
  by_cases e : i = j
  · subst e; rw [if_pos (by omega), if_neg (by omega), h]; rfl
  · by_cases c : i < j
    · rw [if_pos (by omega), if_pos c]
    · rw [if_neg (by omega), if_neg c]
theorem cdk_put (zs : List Int) {n j : Nat} : (cdk zs n j).set j (cd zs j : Int) = cdk zs n (j + 1) := by
  apply List.ext_getElem (by simp [cdk])
  intro i h1 h2
  simp only [List.getElem_set, cdk, List.getElem_map, List.getElem_range]
  by_cases e : j = i
  · subst e; simp
  · rw [if_neg e]
    by_cases c : i < j
    · rw [if_pos c, if_pos (by omega)]
    · rw [if_neg c, if_neg (by omega)]
/-- What comes next for each length. -/
def nxt (zs : List Int) (j : Nat) : List Int := (List.range 16).map fun l => (cF zs l : Int) + (cC (zs.take j) l : Int)
theorem nxt_len (zs : List Int) (j : Nat) : (nxt zs j).length = 16 := by simp [nxt]
theorem nxt_get (zs : List Int) (j : Nat) {l : Nat} (h : l < 16) : (nxt zs j).getD l 0 = (cF zs l : Int) + (cC (zs.take j) l : Int) := by simp [nxt, List.getD, h]
theorem nxt_zero (zs : List Int) : nxt zs 0 = fsts zs := by
  unfold nxt fsts
  apply List.map_congr_left
  intro l _
  have : cC (zs.take 0) l = 0 := by rw [List.take_zero]; unfold cC; split <;> simp
  rw [this]
  simp
theorem nxt_skip {zs : List Int} {j : Nat} (h : zs.take (j + 1) = zs.take j ++ [0]) : nxt zs (j + 1) = nxt zs j := by
  unfold nxt
  apply List.map_congr_left
  intro l _
  rw [h, cC_snoc, if_neg (by omega)]
  simp
theorem nxt_put {zs : List Int} {j z : Nat} (h : zs.take (j + 1) = zs.take j ++ [(z : Int)]) (h0 : 0 < z) : nxt zs (j + 1) = (nxt zs j).set z ((cF zs z : Int) + (cC (zs.take j) z : Int) + 1) := by
  apply List.ext_getElem (by simp [nxt])
  intro i h1 h2
  simp only [List.getElem_set, nxt, List.getElem_map, List.getElem_range]
  rw [h, cC_snoc]
  by_cases e : z = i
  · subst e
    rw [if_pos ⟨by omega, rfl⟩, if_pos rfl]
    omega
  · rw [if_neg (by omega), if_neg e]
    simp
theorem cF_bd {zs : List Int} (h : ∀ l, cC zs l ≤ 288) : ∀ l, l ≤ 15 → cF zs l ≤ 100000000 := by
  intro l hl
  have h1 := cF_cP zs l hl
  have h2 := cP_le zs l
  have h3 := cS_le zs h l
  have h4 : l * 288 ≤ 15 * 288 := Nat.mul_le_mul_right _ hl
  have h5 : cF zs l * 1 ≤ cF zs l * 2 ^ (15 - l) := Nat.mul_le_mul_left _ (Nat.one_le_two_pow)
  rw [h1] at h5
  omega
theorem cd_nxt {zs : List Int} {j z : Nat} (h : zs.getD j 0 = (z : Int)) (h0 : 0 < z) : (cd zs j : Int) = (cF zs z : Int) + (cC (zs.take j) z : Int) := by
  unfold cd ln rk
  rw [h, if_neg (by omega), cC_pos _ h0, Int.toNat_natCast]
  omega
theorem cd_none {zs : List Int} {j : Nat} (h : zs.getD j 0 = 0) : cd zs j = 0 := by unfold cd; rw [if_pos h]

def CodQ (w : World) (zs : List Int) (e : Ending) (w' : World) : Prop := ∃ b c, e = .returned (.tuple #[.slice b (cdsR zs).length c, .int .i64 (errC zs)]) ∧ w'.ownsRow w.heap.size 3 1 (.slice b (cdsR zs).length c) (cdsR zs).length ((cdsR zs).map (Value.int .i64)) ∧ Below w.heap.size w w'
set_option maxRecDepth 100000 in
set_option maxHeartbeats 2000000 in
theorem codes_any (a : Option Addr) (zs : List Int) (n cap : Nat) (hn : Hid (zs.length = n)) (w : World) (hs : SegZ w a zs) (hl : n ≤ 9223372036854775807) :
    Calls Tryz.prog 140 #[.slice a n cap] w fun e w' => CodQ w zs e w' := by
  have HC := checked_any a zs n cap hn w hs hl
  by_cases hok : errC zs = 0
  · have HOK : Hid (errC zs = 0) := hok
    have HL := errS_zero (errC_zero hok).1
    have HLK : Hid (LOk zs) := HL.2
    have hn288 : n ≤ 288 := by have := hn.out; have := HL.1; omega
    rw [hok] at HC
    clear hok HL
    have hb : ∀ l, cC zs l ≤ 288 := cC_288 (errC_zero HOK.out).1
    have HFB : Hid (∀ l, l ≤ 15 → cF zs l ≤ 100000000) := cF_bd hb
    have HCF : Hid (∀ W, Calls Tryz.prog 159 #[.agg (arr (cnts zs))] W fun e w' => e = .returned (.agg (arr (fsts zs))) ∧ Below W.heap.size W w') := fun W => firsts_any zs hb HFB W
    go_enter Tryz.func140, Tryz.ntmps140
    go_wp2_with fail
    refine HC.mono ?_
    rintro e W1 ⟨X, hX16, hXc, rfl, B1⟩
    obtain rfl := hXc trivial
    clear hXc hX16 hb
    have B2 : Below w.heap.size w (W1.alloc (.cells (arr (cnts zs)) 219)) := B1.alloc B1.size _
    have ho2 := new_arr (w := W1) (A := cnts zs) (t := 219)
    go_wp2_with (first
      | (refine wpList_store_row rfl 219 _ _ rfl W1.heap.size (arr (cnts zs)) rfl rfl _ zero16 (heap_alloc_new W1 _) (arr_info (cnts_len _)) (by rw [arr_size, cnts_len]; rfl) (arr_one _) ?_; rw [World.setRow_alloc_new])
      | (refine wpList_load_row rfl 219 _ rfl W1.heap.size rfl _ _ _ _ ho2 Tryz.underlying219 rfl (arr_info (cnts_len _)) ?_))
    generalize W1.alloc (.cells (arr (cnts zs)) 219) = W2 at *
    refine (HCF.out _).mono ?_
    rintro e W3 ⟨rfl, B3⟩
    have B13 : Below w.heap.size w W3 := B2.trans (B3.mono B2.size)
    have B4 : Below w.heap.size w (W3.alloc (.cells (arr (fsts zs)) 219)) := B13.alloc B13.size _
    have ho4 := new_arr (w := W3) (A := fsts zs) (t := 219)
    have z4 : (W3.alloc (.cells (arr (fsts zs)) 219)).heap.size = W3.heap.size + 1 := by simp
    have hz4 : W3.heap.size < (W3.alloc (.cells (arr (fsts zs)) 219)).heap.size := by simp
    have hmk := run_make_ints n (by omega)
    have HZ4 : Hid _ := z4
    clear z4
    go_wp2_with (first
      | (refine wpList_store_row rfl 219 _ _ rfl W3.heap.size (arr (fsts zs)) rfl rfl _ zero16 (heap_alloc_new W3 _) (arr_info (fsts_len _)) (by rw [arr_size, fsts_len]; rfl) (arr_one _) ?_; rw [World.setRow_alloc_new]))
    have z4 := HZ4.out
    clear HZ4
    generalize W3.alloc (.cells (arr (fsts zs)) 219) = W4 at *
    have hO := own_zeros W4 n (by omega)
    have ho5 := (((Below.refl _ W4).alloc (Nat.le_refl _) (.cells (Array.replicate n (.int .i64 0)) 3)).block W3.heap.size hz4).trans ho4
    have B5 : Below w.heap.size w (W4.alloc (.cells (Array.replicate n (.int .i64 0)) 3)) := B4.alloc B4.size _
    generalize W4.alloc (.cells (Array.replicate n (.int .i64 0)) 3) = W5 at *
    obtain ⟨o, eo⟩ : ∃ o, o = W3.heap.size := ⟨_, rfl⟩
    obtain ⟨g, eg⟩ : ∃ g, g = o + 1 := ⟨_, rfl⟩
    have eg4 : W4.heap.size = g := by omega
    have HOG : Hid (o < g ∧ w.heap.size ≤ o ∧ w.heap.size ≤ W4.heap.size) := ⟨by omega, by have := B13.size; omega, B4.size⟩
    rw [eg4] at hO
    have hO2 := own_base hO (show w.heap.size ≤ g by have := HOG.out; omega)
    rw [← cdk_zero zs n] at hO2
    rw [← eo] at ho5
    rw [← nxt_zero] at ho5
    rw [← eo, ← eg]
    clear eo eg eg4 z4 hO ho4 hz4 ho2
    go_loopw [25] (fun tj wr => ∃ j : Nat, j ≤ n ∧ tj = .int .i64 (j : Int) ∧ wr.heap[o]? = some (.cells (arr (nxt zs j)) 219 (0, 0)) ∧ wr.ownsRow w.heap.size 3 1 (.slice (some ⟨g, 0, none⟩) n n) n ((cdk zs n j).map (Value.int .i64)) ∧ Below w.heap.size w wr) (fun tj _ => n - (intOf tj).toNat)
    case atStart => exact ⟨0, by omega, rfl, ho5, hO2, B5⟩
    case round =>
      obtain ⟨j, hj, rfl, ho, OJ, Bw⟩ := hrel
      by_cases hjn : j < n
      · have hji : (j : Int) < (n : Int) := by omega
        obtain ⟨b, off, rfl, c0⟩ := (hs.old Bw).at_ j (by have := hn.out; omega)
        have HTK : Hid (zs.take (j + 1) = zs.take j ++ [zs.getD j 0]) := take_snocZ (by have := hn.out; omega)
        have HZB : Hid (0 ≤ zs.getD j 0 ∧ zs.getD j 0 ≤ 15) := HLK.out.get j
        have HZ : Hid (∃ z, z = zs.getD j 0) := ⟨_, rfl⟩
        obtain ⟨z, hz⟩ := HZ.out
        have HZJ : Hid (z = zs.getD j 0) := hz
        rw [← hz] at HTK c0 HZB
        clear HZ hz
        by_cases hz00 : z = 0
        · subst hz00
          go_wp2_with fail
          go_roundw
          case rel =>
            refine ⟨j + 1, by omega, by go_num, ?_, ?_, Bw⟩
            · rw [nxt_skip HTK.out]; exact ho
            · rw [cdk_skip (cd_none HZJ.out.symm)]; exact OJ
          case measure => simp [intOf]; omega
        · obtain ⟨k, rfl⟩ : ∃ k : Nat, z = (k : Int) := ⟨z.toNat, by have := HZB.out; omega⟩
          have hk16 : (k : Int) < 16 := by have := HZB.out; omega
          have hk0 : (0 : Int) < (k : Int) := by have := HZB.out; omega
          have HK16 : Hid (k < 16 ∧ 0 < k) := ⟨by omega, by omega⟩
          have d0 := arr_cell ho (i := k) (by rw [nxt_len]; omega)
          rw [nxt_get _ _ (by omega)] at d0
          have HCD : Hid ((cd zs j : Int) = (cF zs k : Int) + (cC (zs.take j) k : Int)) := cd_nxt HZJ.out.symm HK16.out.2
          rw [← HCD.out] at d0
          have hcb : cd zs j ≤ 1000000000 := by
            have h1 := HFB.out k (by omega)
            have h2 := cC_le (zs.take j) k
            have h3 := HCD.out
            simp at h2
            omega
          have HSET : Hid _ := arr_set ho k ((cd zs j : Int) + 1)
          obtain ⟨a0, fz⟩ := own_cell1 OJ (i := j) (by rw [cdk_len]; omega)
          have f0 := fz j
          obtain ⟨OS, GS⟩ := OJ.stored j (.int .i64 (cd zs j : Int))
          rw [← List.map_set, cdk_put] at OS
          have HOS : Hid _ := OS
          have HGS : Hid _ := GS
          have hnog : g ≠ o := by have := HOG.out; omega
          have ho6 : (wr.setCell ⟨g, j, none⟩ (.int .i64 (cd zs j : Int))).heap[o]? = some (.cells (arr (nxt zs j)) 219 (0, 0)) := (GS.block o (Array.getElem?_eq_some_iff.1 ho).1 (by simp; omega)).trans ho
          have B6 : Below w.heap.size w (wr.setCell ⟨g, j, none⟩ (.int .i64 (cd zs j : Int))) := Bw.grown GS Bw.size (fun k hk => by cases hk; have := HOG.out; omega)
          clear GS fz
          generalize (cdk zs n j).getD j 0 = zz at *
          have HC2 : Hid (∃ c, c = cd zs j) := ⟨_, rfl⟩
          obtain ⟨c, hc⟩ := HC2.out
          have HCJ : Hid (c = cd zs j) := hc
          rw [← hc] at d0 hcb ho6 B6 OS HSET
          clear hc HC2 HOS HGS
          have d6 := arr_cell ho6 (i := k) (by rw [nxt_len]; exact HK16.out.1)
          rw [nxt_get _ _ HK16.out.1, ← HCD.out, ← HCJ.out] at d6
          have f6 := arr_free ho6 k
          have HS6 : Hid _ := arr_set ho6 k ((c : Int) + 1)
          have OS7 : Hid (((wr.setCell ⟨g, j, none⟩ (.int .i64 (c : Int))).setCell ⟨o, k, none⟩ (.int .i64 ((c : Int) + 1))).ownsRow w.heap.size 3 1 (.slice (some ⟨g, 0, none⟩) n n) n ((cdk zs n (j + 1)).map (Value.int .i64))) := own_grown OS (set_grown _ _ _ _) hnog
          have B7 : Hid (Below w.heap.size w ((wr.setCell ⟨g, j, none⟩ (.int .i64 (c : Int))).setCell ⟨o, k, none⟩ (.int .i64 ((c : Int) + 1)))) := B6.grown (set_grown _ _ _ _) B6.size (fun k hk => by cases hk; have := HOG.out; omega)
          clear OS B6
          go_wp2_with fail
          go_roundw
          case rel =>
            refine ⟨j + 1, by omega, by go_num, ?_, OS7.out, B7.out⟩
            rw [nxt_put HTK.out HK16.out.2, ← HCD.out, ← HCJ.out]
            exact HS6.out
          case measure => simp [intOf]; omega
      · obtain rfl : j = n := by omega
        go_wp2
        go_ret2
        have e1 : cdsR zs = cds zs := by unfold cdsR; rw [if_pos HOK.out]
        have e2 : cdk zs j j = cds zs := by have := cdk_all zs; rw [hn.out] at this; exact this
        have e3 : (cds zs).length = j := by rw [cds_len]; exact hn.out
        refine ⟨some ⟨g, 0, none⟩, j, ?_, ?_, Bw⟩
        · rw [e1, e3, HOK.out]; rfl
        · rw [e1, e3, ← e2]; exact OJ
  · have HNK : Hid (¬ errC zs = 0) := hok
    have e1 : Hid (cdsR zs = []) := by show _ = _; unfold cdsR; rw [if_neg hok]
    have key : ∀ E : Int, E = 50 ∨ E = 51 ∨ E = 52 → errC zs = E → Calls Tryz.prog 140 #[.slice a n cap] w fun e w' => CodQ w zs e w' := by
      intro E hE hEE
      have HEE : Hid (errC zs = E) := hEE
      rw [hEE] at HC
      clear hEE hok
      rcases hE with rfl | rfl | rfl
      all_goals
        go_enter Tryz.func140, Tryz.ntmps140
        go_wp2_with fail
        refine HC.mono ?_
        rintro e W1 ⟨X, hX16, hXc, rfl, B1⟩
        have HX : Hid (X.length = 16) := hX16
        clear hXc hX16
        have B2 : Below w.heap.size w (W1.alloc (.cells (arr X) 219)) := B1.alloc B1.size _
        go_wp2_with (first
          | (refine wpList_store_row rfl 219 _ _ rfl W1.heap.size (arr X) rfl rfl _ zero16 (heap_alloc_new W1 _) (arr_info HX.out) (by rw [arr_size, HX.out]; rfl) (arr_one _) ?_; rw [World.setRow_alloc_new]))
        go_ret2
        refine ⟨none, 0, ?_, ?_, B2⟩
        · rw [e1.out, HEE.out]; rfl
        · rw [e1.out]; exact World.ownsRow_nil _ _ _ _
    rcases errC_cases zs with h | h | h | h
    · exact absurd h hok
    · exact key 50 (.inl rfl) h
    · exact key 51 (.inr (.inl rfl)) h
    · exact key 52 (.inr (.inr rfl)) h
end Go.Proofs.YtcifalelnfeggaaGreatDoor

namespace Go.Proofs.YtcifalelnfeggaaGreatDoor
open Go.RowKit
set_option linter.unusedVariables false

theorem or_pow {r v c : Nat} (h : r < 2 ^ c) (h2 : v * 2 ^ c + r < 18446744073709551616) : bits .or .u64 (r : Int) ((v * 2 ^ c : Nat) : Int) = ((r + v * 2 ^ c : Nat) : Int) := by
  rw [u64_or_nat _ _ (by omega) (by omega), Nat.or_comm, Nat.mul_comm v, ← Nat.two_pow_add_eq_or_of_lt h, Nat.add_comm]
theorem or_two {o b : Nat} (h : b < 2) (h2 : o * 2 + b < 18446744073709551616) : bits .or .u64 ((o : Int) * 2) (b : Int) = ((b + 2 * o : Nat) : Int) := by
  have := or_pow (r := b) (v := o) (c := 1) (by omega) (by omega)
  rw [show ((o : Int) * 2) = ((o * 2 ^ 1 : Nat) : Int) by simp]
  rw [u64_or_nat _ _ (by omega) (by omega)] at this ⊢
  rw [Nat.or_comm, this]
  omega
theorem and_low (v n : Nat) (hn : n ≤ 64) (hv : v < 18446744073709551616) : bits .and .u64 (v : Int) ((2 ^ n - 1 : Nat) : Int) = ((v % 2 ^ n : Nat) : Int) := by
  have h1 : 2 ^ n ≤ 2 ^ 64 := Nat.pow_le_pow_right (by decide) hn
  rw [u64_and_nat _ _ hv (by omega), Nat.and_two_pow_sub_one_eq_mod]
theorem and_one' (v : Nat) (hv : v < 18446744073709551616) : bits .and .u64 (v : Int) 1 = ((v % 2 : Nat) : Int) := by
  have := and_low v 1 (by decide) hv
  simpa using this

theorem div_pow_lt {v k : Nat} (hv : v < 18446744073709551616) : v / 2 ^ k < 18446744073709551616 := Nat.lt_of_le_of_lt (Nat.div_le_self _ _) hv
theorem pow_le_64 {k : Nat} (h : k ≤ 64) : 2 ^ k ≤ 18446744073709551616 := Nat.pow_le_pow_right (n := 2) (j := 64) (by decide) h
theorem pow_le_63 {k : Nat} (h : k ≤ 63) : 2 ^ k ≤ 9223372036854775808 := Nat.pow_le_pow_right (n := 2) (j := 63) (by decide) h
theorem rev_lt (v i : Nat) : num (bN v i).reverse < 2 ^ i := by
  have := num_lt (bN v i).reverse
  rwa [rev_len] at this

theorem ret_u64 {a b : Int} (h : a = b) : Ending.returned (.int .u64 a) = .returned (.int .u64 b) := by rw [h]
/-- How many bits a Flip turns. -/
def cnt (n : Int) : Nat := (min n 64).toNat
def flipN (v : Nat) (n : Int) : Nat := num (bN v (cnt n)).reverse
theorem cnt_le (n : Int) : cnt n ≤ 64 := by unfold cnt; omega
theorem flip_lt (v : Nat) (n : Int) : flipN v n < 2 ^ cnt n := rev_lt _ _

set_option maxRecDepth 100000 in
set_option maxHeartbeats 1000000 in
theorem flip_any (v : Nat) (n : Int) (w : World) (hv : v < 18446744073709551616) (hn0 : -9223372036854775808 ≤ n) (hn1 : n ≤ 9223372036854775807) :
    Calls Tryz.prog 160 #[.int .u64 (v : Int), .int .i64 n] w fun e w' => e = .returned (.int .u64 (flipN v n)) ∧ w' = w := by
  have hm : cnt n = (min n 64).toNat := rfl
  have hf : Hid (flipN v n = num (bN v (cnt n)).reverse) := rfl
  have hc := cnt_le n
  generalize flipN v n = f at *
  generalize cnt n = c at *
  rcases Int.lt_or_le 64 n with h | h
  · have hc64 : c = 64 := by omega
    clear hm
    go_enter Tryz.func160, Tryz.ntmps160
    go_wp2
    go_loopw [0, 5, 8] (fun tv to ti wr => ∃ i u o : Nat, i ≤ c ∧ tv = .int .u64 (u : Int) ∧ to = .int .u64 (o : Int) ∧ ti = .int .i64 (i : Int) ∧ Hid (u = v / 2 ^ i) ∧ Hid (o = num (bN v i).reverse) ∧ wr = w) (fun _ _ ti _ => c - (intOf ti).toNat)
    case atStart => exact ⟨0, v, 0, Nat.zero_le _, rfl, rfl, rfl, (by show _ = _; simp), rfl, rfl⟩
    case round =>
      obtain ⟨i, u, o, hi, rfl, rfl, rfl, hu, ho, rfl⟩ := hrel
      have hu2 : u < 18446744073709551616 := by rw [hu.out]; exact div_pow_lt hv
      by_cases hlt : i < c
      · have ho2 : o < 9223372036854775808 := by
          have h1 := rev_lt v i
          have h2 := pow_le_63 (k := i) (by omega)
          rw [ho.out]; omega
        have HN : Hid (u % 2 + 2 * o = num (bN v (i + 1)).reverse) := by show _ = _; rw [rev_succ, hu.out, ho.out]
        have HU : Hid (u / 2 = v / 2 ^ (i + 1)) := by show _ = _; rw [hu.out, Nat.div_div_eq_div_mul, Nat.pow_succ]
        have ha := and_one' u hu2
        have hor := or_two (o := o) (b := u % 2) (by omega) (by omega)
        have hb2 : u % 2 < 2 := by omega
        generalize u % 2 = b at *
        generalize b + 2 * o = x at *
        have hlt2 : (i : Int) < 64 := by omega
        go_wp2
        go_roundw
        case rel => exact ⟨i + 1, u / 2, x, by omega, by go_num, rfl, by go_num, HU, HN, trivial⟩
        case measure => simp [intOf]; omega
      · have hic : i = c := by omega
        have hge : 64 ≤ (i : Int) := by omega
        have HIC : Hid (i = c) := hic
        clear hic hlt hi hc64
        go_wp2
        go_ret
        exact ⟨by rw [hf.out, ho.out, HIC.out]; rfl, rfl⟩
  · have hcn : (c : Int) = n ∨ n < 0 ∧ c = 0 := by omega
    clear hm
    go_enter Tryz.func160, Tryz.ntmps160
    go_wp2
    go_loopw [0, 5, 8] (fun tv to ti wr => ∃ i u o : Nat, i ≤ c ∧ tv = .int .u64 (u : Int) ∧ to = .int .u64 (o : Int) ∧ ti = .int .i64 (i : Int) ∧ Hid (u = v / 2 ^ i) ∧ Hid (o = num (bN v i).reverse) ∧ wr = w) (fun _ _ ti _ => c - (intOf ti).toNat)
    case atStart => exact ⟨0, v, 0, Nat.zero_le _, rfl, rfl, rfl, (by show _ = _; simp), rfl, rfl⟩
    case round =>
      obtain ⟨i, u, o, hi, rfl, rfl, rfl, hu, ho, rfl⟩ := hrel
      have hu2 : u < 18446744073709551616 := by rw [hu.out]; exact div_pow_lt hv
      by_cases hlt : i < c
      · have ho2 : o < 9223372036854775808 := by
          have h1 := rev_lt v i
          have h2 := pow_le_63 (k := i) (by omega)
          rw [ho.out]; omega
        have HN : Hid (u % 2 + 2 * o = num (bN v (i + 1)).reverse) := by show _ = _; rw [rev_succ, hu.out, ho.out]
        have HU : Hid (u / 2 = v / 2 ^ (i + 1)) := by show _ = _; rw [hu.out, Nat.div_div_eq_div_mul, Nat.pow_succ]
        have ha := and_one' u hu2
        have hor := or_two (o := o) (b := u % 2) (by omega) (by omega)
        have hb2 : u % 2 < 2 := by omega
        generalize u % 2 = b at *
        generalize b + 2 * o = x at *
        have hlt2 : (i : Int) < n := by omega
        go_wp2
        go_roundw
        case rel => exact ⟨i + 1, u / 2, x, by omega, by go_num, rfl, by go_num, HU, HN, trivial⟩
        case measure => simp [intOf]; omega
      · have hic : i = c := by omega
        have hge : n ≤ (i : Int) := by omega
        have HIC : Hid (i = c) := hic
        clear hic hlt hi hcn
        go_wp2
        go_ret
        exact ⟨by rw [hf.out, ho.out, HIC.out]; rfl, rfl⟩
end Go.Proofs.YtcifalelnfeggaaGreatDoor

namespace Go.Proofs.YtcifalelnfeggaaGreatDoor
open Go.RowKit
set_option linter.unusedVariables false

theorem shr_nat (v k : Nat) : (v : Int) / 2 ^ k = ((v / 2 ^ k : Nat) : Int) := by simp
theorem shr_ne {v k : Nat} (h : ¬ v < 2 ^ k) : 0 < v / 2 ^ k := Nat.div_pos (by omega) (Nat.two_pow_pos k)
set_option maxRecDepth 100000 in
set_option maxHeartbeats 400000 in
theorem refuse_ok (v k : Nat) (w : World) (hv : v < 2 ^ k) (hk : k ≤ 56) :
    Calls Tryz.prog 54 #[.int .u64 (v : Int), .int .i64 (k : Int)] w fun e w' => e = .returned (.int .i64 0) ∧ w' = w := by
  have hs : (v : Int) / 2 ^ k = 0 := by rw [shr_nat, Nat.div_eq_of_lt hv]; rfl
  have hp := pow_le_63 (k := k) (by omega)
  have hv2 : v < 18446744073709551616 := by omega
  clear hv hp
  go_enter Tryz.func54, Tryz.ntmps54
  go_wp2
  go_ret
  exact ⟨rfl, rfl⟩
set_option maxRecDepth 100000 in
set_option maxHeartbeats 400000 in
theorem refuse_value (v k : Nat) (w : World) (hv : ¬ v < 2 ^ k) (hk : k ≤ 56) (hv2 : v < 18446744073709551616) :
    Calls Tryz.prog 54 #[.int .u64 (v : Int), .int .i64 (k : Int)] w fun e w' => e = .returned (.int .i64 31) ∧ w' = w := by
  have hs := shr_nat v k
  have hp := shr_ne hv
  generalize v / 2 ^ k = q at *
  clear hv
  have hq : ((q : Int) != 0) = true := by rw [bne_iff_ne]; omega
  go_enter Tryz.func54, Tryz.ntmps54
  go_wp2
  go_ret
  exact ⟨rfl, rfl⟩
set_option maxRecDepth 100000 in
set_option maxHeartbeats 400000 in
theorem refuse_count (v : Nat) (n : Int) (w : World) (hn : n < 0 ∨ 56 < n) :
    Calls Tryz.prog 54 #[.int .u64 (v : Int), .int .i64 n] w fun e w' => e = .returned (.int .i64 30) ∧ w' = w := by
  rcases hn with hn | hn
  · go_enter Tryz.func54, Tryz.ntmps54
    go_wp2
    go_ret
    exact ⟨rfl, rfl⟩
  · have h0 : 0 ≤ n := by omega
    go_enter Tryz.func54, Tryz.ntmps54
    go_wp2
    go_ret
    exact ⟨rfl, rfl⟩

/-- What is refused. -/
def errW (v : Nat) (n : Int) : Int := if n < 0 ∨ 56 < n then 30 else if v < 2 ^ n.toNat then 0 else 31
theorem errW_ok {v k : Nat} (hv : v < 2 ^ k) (hk : k ≤ 56) : errW v k = 0 := by
  unfold errW
  rw [if_neg (by omega), if_pos (by simpa using hv)]
theorem errW_cases (v : Nat) (n : Int) : (errW v n = 30 ∧ (n < 0 ∨ 56 < n)) ∨ (∃ k : Nat, n = k ∧ k ≤ 56 ∧ ((errW v n = 0 ∧ v < 2 ^ k) ∨ (errW v n = 31 ∧ ¬ v < 2 ^ k))) := by
  unfold errW
  by_cases h : n < 0 ∨ 56 < n
  · exact .inl ⟨if_pos h, h⟩
  · right
    refine ⟨n.toNat, by omega, by omega, ?_⟩
    rw [if_neg h]
    by_cases h2 : v < 2 ^ n.toNat
    · exact .inl ⟨if_pos h2, h2⟩
    · exact .inr ⟨if_neg h2, h2⟩

theorem wrap_pow {k : Nat} (hk : k < 64) : IntKind.u64.wrap (2 ^ k) = ((2 ^ k : Nat) : Int) := by
  have h1 := pow_le_63 (k := k) (by omega)
  rw [show (2 : Int) ^ k = ((2 ^ k : Nat) : Int) by simp]
  generalize 2 ^ k = p at *
  rw [IntWalk.u64_in _ ⟨by omega, by omega⟩]
theorem wrap_mask {k : Nat} (hk : k ≤ 64) : IntKind.u64.wrap (IntKind.u64.wrap (2 ^ k) - 1) = ((2 ^ k - 1 : Nat) : Int) := by
  by_cases h : k = 64
  · subst h; decide
  · have h1 := pow_le_63 (k := k) (by omega)
    have h2 := Nat.two_pow_pos k
    rw [wrap_pow (by omega), IntWalk.u64_in _ ⟨by omega, by omega⟩]
    omega
set_option maxRecDepth 100000 in
/-- The n low bits. -/
theorem low_any (v k : Nat) (w : World) (hv : v < 18446744073709551616) (hk : k ≤ 64) :
    Calls Tryz.prog 120 #[.int .u64 (v : Int), .int .i64 (k : Int)] w fun e w' => e = .returned (.int .u64 ((v % 2 ^ k : Nat) : Int)) ∧ w' = w := by
  have HA : Hid (bits .and .u64 (v : Int) (IntKind.u64.wrap (IntKind.u64.wrap (2 ^ k) - 1)) = ((v % 2 ^ k : Nat) : Int)) := by show _ = _; rw [wrap_mask hk, and_low v k hk hv]
  go_enter Tryz.func120, Tryz.ntmps120
  go_wp2
  go_ret
  exact ⟨by rw [← HA.out]; rfl, rfl⟩

theorem add_bit {o i : Nat} (ho : o < 2 ^ i) (hi : i < 64) : IntKind.u64.wrap ((o : Int) + IntKind.u64.wrap (2 ^ i)) = ((o + 2 ^ i : Nat) : Int) := by
  have h1 := pow_le_63 (k := i) (by omega)
  rw [wrap_pow hi, IntWalk.u64_in _ ⟨by omega, by omega⟩]
  omega
theorem bit_eq (v j : Nat) : (((v / 2 ^ j % 2 : Nat) : Int) == 1) = v.testBit j := by
  have h := bit0 (v / 2 ^ j)
  rw [Nat.testBit_div_two_pow, Nat.zero_add] at h
  rw [← h]
  cases v.testBit j <;> rfl

end Go.Proofs.YtcifalelnfeggaaGreatDoor

namespace Go.Proofs.YtcifalelnfeggaaGreatDoor
open Go.RowKit
set_option linter.unusedVariables false

theorem info_u8w : (Tryz.prog.info? 5).map (fun i => (i.zero, i.size, i.bytes)) = some (some (.int .u8 0), 1, 1) := by kernel_rfl

/-- A Writer in a block of its own: full bytes in a row of its own, and bits behind them. -/
structure Wr (w : World) (b B : Nat) (a : Option Addr) (cap : Nat) (ws : List Int) (r c : Nat) : Prop where
  hp : w.heap[b]? = some (.cells #[.slice a ws.length cap, .int .u64 (r : Int), .int .i64 (c : Int)] 64 (0, 0))
  own : w.ownsRow B 5 1 (.slice a ws.length cap) ws.length (ws.map (Value.int .u8))
  nil : ws = [] → a = none
  bd : ∀ z ∈ ws, 0 ≤ z ∧ z ≤ 255
  ne : (Value.slice a ws.length cap).ownBlock ≠ some b
  bB : B ≤ w.heap.size
  lt : r < 2 ^ c
theorem Wr.b_lt {w : World} {b B : Nat} {a : Option Addr} {cap : Nat} {ws : List Int} {r c : Nat} (h : Wr w b B a cap ws r c) : b < w.heap.size := (Array.getElem?_eq_some_iff.1 h.hp).1
theorem Wr.kp {w w' : World} {b B : Nat} {a : Option Addr} {cap : Nat} {ws : List Int} {r c : Nat} {S : Nat → Prop} (h : Wr w b B a cap ws r c) (hk : Kp S w w') (h1 : ¬ S b) (h2 : ∀ k, (Value.slice a ws.length cap).ownBlock = some k → ¬ S k) : Wr w' b B a cap ws r c :=
  ⟨hk.heap h.hp h1, own_kp h.own hk h2, h.nil, h.bd, h.ne, Nat.le_trans h.bB hk.size, h.lt⟩

def cellN (w : World) (b i : Nat) : Nat := (intOf ((w.cell? ⟨b, i, none⟩).getD (.int .i64 0))).toNat
theorem cellN_of {w : World} {b i : Nat} {k : IntKind} {n : Int} (h : w.cell? ⟨b, i, none⟩ = some (.int k n)) : cellN w b i = n.toNat := by unfold cellN; rw [h]; rfl

/-- The blocks of a Writer. -/
def WS (b : Nat) (v : Value) : Nat → Prop := fun k => k = b ∨ v.ownBlock = some k

theorem shl_nat {r v c k : Nat} (h : r < 2 ^ c) (hv : v < 2 ^ k) (hck : c + k ≤ 63) : r + v * 2 ^ c < 2 ^ (c + k) := by
  have h1 : v + 1 ≤ 2 ^ k := hv
  have h2 : (v + 1) * 2 ^ c ≤ 2 ^ k * 2 ^ c := Nat.mul_le_mul_right _ h1
  rw [← Nat.pow_add, Nat.add_comm k c, Nat.add_mul, Nat.one_mul] at h2
  omega
theorem bN_join {r v c k : Nat} (h : r < 2 ^ c) : bN (r + v * 2 ^ c) (c + k) = bN r c ++ bN v k := by
  rw [bN_add]
  have h1 : (r + v * 2 ^ c) / 2 ^ c = v := by
    rw [Nat.add_mul_div_right _ _ (Nat.two_pow_pos c), Nat.div_eq_of_lt h, Nat.zero_add]
  rw [h1, ← bN_mod (r + v * 2 ^ c) c, Nat.add_mul_mod_self_right, bN_mod]

theorem ws_back {w : World} {b j : Nat} {v v1 : Value} (h : Fresh w v v1) (hj : j < w.heap.size) (e : WS b v1 j) : WS b v j := by
  rcases e with e | e
  · exact .inl e
  · rcases h j e with e | e
    · exact .inr e
    · omega
theorem Fresh.trans {w wr : World} {v v1 v2 : Value} (h : Fresh w v v1) (k : Fresh wr v1 v2) (hs : w.heap.size ≤ wr.heap.size) : Fresh w v v2 := by
  intro j e
  rcases k j e with e | e
  · exact h j e
  · exact .inr (by omega)
theorem byte_wrap (r : Nat) : IntKind.u8.wrap (r : Int) = ((r % 256 : Nat) : Int) := by rw [IntKind.wrap_u8]; omega
/-- A full byte goes behind the row. -/
theorem Wr.pushed {wr w2 : World} {b B : Nat} {a1 : Option Addr} {cap1 : Nat} {ws1 : List Int} {r1 c1 : Nat} {o : Obj} (h : Wr wr b B a1 cap1 ws1 r1 c1) (h8 : 8 ≤ c1) {gg cap2 : Nat}
    (hown : w2.ownsRow B 5 1 (.slice (some ⟨gg, 0, none⟩) (ws1.length + 1) cap2) (ws1.length + 1) (ws1.map (Value.int .u8) ++ [.int .u8 (IntKind.u8.wrap (r1 : Int))]))
    (hgrow : ((wr.alloc o).drew).grownBy w2 (Value.slice a1 ws1.length cap1).ownBlock) (hat : (Value.slice a1 ws1.length cap1).ownBlock = some gg ∨ gg = wr.heap.size + 1) :
    Wr (((w2.setCell ⟨b, 0, none⟩ (.slice (some ⟨gg, 0, none⟩) (ws1.length + 1) cap2)).setCell ⟨b, 1, none⟩ (.int .u64 ((r1 : Int) / 256))).setCell ⟨b, 2, none⟩ (.int .i64 ((c1 : Int) - 8))) b B (some ⟨gg, 0, none⟩) cap2 (ws1 ++ [((r1 % 256 : Nat) : Int)]) (r1 / 256) (c1 - 8) ∧
    Kp (WS b (.slice a1 ws1.length cap1)) wr (((w2.setCell ⟨b, 0, none⟩ (.slice (some ⟨gg, 0, none⟩) (ws1.length + 1) cap2)).setCell ⟨b, 1, none⟩ (.int .u64 ((r1 : Int) / 256))).setCell ⟨b, 2, none⟩ (.int .i64 ((c1 : Int) - 8))) ∧
    Fresh wr (.slice a1 ws1.length cap1) (.slice (some ⟨gg, 0, none⟩) (ws1 ++ [((r1 % 256 : Nat) : Int)]).length cap2) := by
  have hlt := h.b_lt
  have hgb : gg ≠ b := by
    rcases hat with e | e
    · intro e2; subst e2; exact h.ne e
    · omega
  have hka : Kp (WS b (.slice a1 ws1.length cap1)) wr ((wr.alloc o).drew) := (Kp.alloc _ _).drew
  have hk2 : Kp (WS b (.slice a1 ws1.length cap1)) wr w2 := hka.trans (Kp.grown (S := WS b (.slice a1 ws1.length cap1)) hgrow (fun i e => .inr e)) (fun _ _ e => e)
  have hp2 : w2.heap[b]? = some (.cells #[.slice a1 ws1.length cap1, .int .u64 (r1 : Int), .int .i64 (c1 : Int)] 64 (0, 0)) := by
    rw [hgrow.block b (by simp; omega) (Ne.symm h.ne)]
    show (wr.alloc o).heap[b]? = _
    rw [Below.heap_alloc _ _ _ hlt]; exact h.hp
  have hp3 := three_set2 (three_set1 (three_set0 hp2 (.slice (some ⟨gg, 0, none⟩) (ws1.length + 1) cap2)) (.int .u64 ((r1 : Int) / 256))) (.int .i64 ((c1 : Int) - 8))
  have hkb : Kp (fun j => j = b) w2 (((w2.setCell ⟨b, 0, none⟩ (.slice (some ⟨gg, 0, none⟩) (ws1.length + 1) cap2)).setCell ⟨b, 1, none⟩ (.int .u64 ((r1 : Int) / 256))).setCell ⟨b, 2, none⟩ (.int .i64 ((c1 : Int) - 8))) :=
    ((Kp.set (S := fun j => j = b) rfl _).trans (Kp.set (S := fun j => j = b) rfl _) (fun _ _ e => e)).trans (Kp.set (S := fun j => j = b) rfl _) (fun _ _ e => e)
  have hown3 := own_kp hown hkb (fun j e1 e2 => by subst e2; cases e1; exact hgb rfl)
  have hlen : (ws1 ++ [((r1 % 256 : Nat) : Int)]).length = ws1.length + 1 := by simp
  refine ⟨⟨?_, ?_, by simp, ?_, ?_, ?_, ?_⟩, hk2.trans hkb (fun j _ e => .inl e), ?_⟩
  · rw [hp3, hlen]
    have e1 : ((r1 : Int) / 256) = ((r1 / 256 : Nat) : Int) := by omega
    have e2 : ((c1 : Int) - 8) = ((c1 - 8 : Nat) : Int) := by omega
    rw [e1, e2]
  · rw [hlen]
    rw [byte_wrap] at hown3
    simpa using hown3
  · intro z hz
    rw [List.mem_append] at hz
    rcases hz with hz | hz
    · exact h.bd z hz
    · simp at hz; omega
  · intro e; cases e; exact hgb rfl
  · exact Nat.le_trans h.bB (Nat.le_trans hk2.size hkb.size)
  · have := h.lt
    rw [Nat.div_lt_iff_lt_mul (by decide), show (256 : Nat) = 2 ^ 8 from rfl, ← Nat.pow_add, Nat.sub_add_cancel h8]
    exact this
  · intro j e
    cases e
    rcases hat with e | e
    · exact .inl e
    · right; show wr.heap.size ≤ gg; omega
theorem bits_push (ws : List Int) (r c : Nat) (h8 : 8 ≤ c) : bB (ws ++ [((r % 256 : Nat) : Int)]) ++ bN (r / 256) (c - 8) = bB ws ++ bN r c := by
  rw [bB_append, bB_one, Int.toNat_natCast, List.append_assoc]
  congr 1
  rw [show c = 8 + (c - 8) by omega, bN_add, Nat.add_sub_cancel_left]
  rw [show (256 : Nat) = 2 ^ 8 from rfl, bN_mod]

set_option maxRecDepth 100000 in
set_option maxHeartbeats 4000000 in
theorem lay_any (b B : Nat) (a : Option Addr) (cap : Nat) (ws : List Int) (r c v k : Nat) (w : World) (h : Wr w b B a cap ws r c) (hc : c < 8) (hv : v < 2 ^ k) (hk : k ≤ 56) (hl : ws.length ≤ 140737488355320) :
    Calls Tryz.prog 55 #[.pointer (some ⟨b, 0, none⟩), .int .u64 (v : Int), .int .i64 (k : Int)] w fun e w' => e = .returned (.tuple #[]) ∧ ∃ a' cap' ws' r' c',
      Wr w' b B a' cap' ws' r' c' ∧ c' < 8 ∧ bB ws' ++ bN r' c' = bB ws ++ bN r c ++ bN v k ∧ Kp (WS b (.slice a ws.length cap)) w w' ∧ Fresh w (.slice a ws.length cap) (.slice a' ws'.length cap') := by
  obtain ⟨i0, hi, hz0, hz1, hz2⟩ := info_parts info_u8w
  have hc0 := three_cell0 h.hp
  have hc1 := three_cell1 h.hp
  have hc2 := three_cell2 h.hp
  have hf := three_free h.hp
  have hlt := h.b_lt
  have hsl : IntKind.u64.wrap ((v : Int) * 2 ^ c) = ((v * 2 ^ c : Nat) : Int) := by
    have h1 := shl_nat h.lt hv (by omega)
    have h2 := pow_le_63 (k := c + k) (by omega)
    rw [show ((v : Int) * 2 ^ c) = ((v * 2 ^ c : Nat) : Int) by simp]
    generalize v * 2 ^ c = p at *
    rw [IntWalk.u64_in _ ⟨by omega, by omega⟩]
  have hor : bits .or .u64 (r : Int) ((v * 2 ^ c : Nat) : Int) = ((r + v * 2 ^ c : Nat) : Int) := by
    have h1 := shl_nat h.lt hv (by omega)
    have h2 := pow_le_63 (k := c + k) (by omega)
    exact or_pow h.lt (by omega)
  have HB : Hid (bN (r + v * 2 ^ c) (c + k) = bN r c ++ bN v k) := bN_join h.lt
  have HL := shl_nat h.lt hv (by omega : c + k ≤ 63)
  have hv2 : v < 18446744073709551616 := by
    have h2 := pow_le_63 (k := k) (by omega)
    omega
  generalize v * 2 ^ c = x at *
  have hp := h.hp
  have hown := h.own
  obtain ⟨y, hy⟩ : ∃ y, y = r + x := ⟨_, rfl⟩
  have hor2 : bits .or .u64 (r : Int) (x : Int) = (y : Int) := by rw [hor, hy]
  rw [← hy] at HB HL
  clear hor hy
  go_enter Tryz.func55, Tryz.ntmps55
  go_wp2
  go_region
  have hp1 : ((w.setCell ⟨b, 1, none⟩ (.int .u64 (y : Int))).drew).heap[b]? = some (.cells #[.slice a ws.length cap, .int .u64 (y : Int), .int .i64 (c : Int)] 64 (0, 0)) := three_set1 hp _
  have hk1 : Kp (fun j => j = b) w ((w.setCell ⟨b, 1, none⟩ (.int .u64 (y : Int))).drew) := (Kp.set (S := fun j => j = b) rfl _).drew
  generalize (w.setCell ⟨b, 1, none⟩ (.int .u64 (y : Int))).drew = w1 at *
  have hd0 := three_cell0 hp1
  have hd1 := three_cell1 hp1
  have hd2 := three_cell2 hp1
  have hdf := three_free hp1
  go_wp2
  have hp2 : (w1.setCell ⟨b, 2, none⟩ (.int .i64 ((c : Int) + (k : Int)))).heap[b]? = some (.cells #[.slice a ws.length cap, .int .u64 (y : Int), .int .i64 ((c : Int) + (k : Int))] 64 (0, 0)) := three_set2 hp1 _
  have hk2 : Kp (fun j => j = b) w (w1.setCell ⟨b, 2, none⟩ (.int .i64 ((c : Int) + (k : Int)))) := hk1.trans (Kp.set (S := fun j => j = b) rfl _) (fun _ _ e => e)
  have hst : Wr (w1.setCell ⟨b, 2, none⟩ (.int .i64 ((c : Int) + (k : Int)))) b B a cap ws y (c + k) :=
    ⟨by simpa using hp2, own_kp hown hk2 (fun j e1 e2 => h.ne (e2 ▸ e1)), h.nil, h.bd, h.ne, Nat.le_trans h.bB hk2.size, HL⟩
  have HB2 : Hid (bB ws ++ bN y (c + k) = bB ws ++ bN r c ++ bN v k) := by show _ = _; rw [HB.out, List.append_assoc]
  have hk3 : Kp (WS b (.slice a ws.length cap)) w (w1.setCell ⟨b, 2, none⟩ (.int .i64 ((c : Int) + (k : Int)))) := hk2.mono (fun _ _ e => .inl e)
  generalize w1.setCell ⟨b, 2, none⟩ (.int .i64 ((c : Int) + (k : Int))) = w2 at *
  clear hp1 hp2 hd0 hd1 hd2 hdf hk1 hk2 hc0 hc1 hc2 hf hp hown hsl hor2 HB HL
  go_loopw [] (fun wr => ∃ a1 cap1 ws1 r1 c1, Wr wr b B a1 cap1 ws1 r1 c1 ∧ c1 ≤ 63 ∧ Hid (bB ws1 ++ bN r1 c1 = bB ws ++ bN r c ++ bN v k) ∧ Kp (WS b (.slice a ws.length cap)) w wr ∧ Fresh w (.slice a ws.length cap) (.slice a1 ws1.length cap1) ∧ 8 * ws1.length + c1 = 8 * ws.length + c + k) (fun wr => cellN wr b 2)
  case atStart => exact ⟨a, cap, ws, y, c + k, hst, by omega, HB2, hk3, fun j e => .inl e, by omega⟩
  case round =>
    obtain ⟨a1, cap1, ws1, r1, c1, hs1, hc1, HQ, hkr, hfr, hn1⟩ := hrel
    clear hst HB2 hk3
    have hd0 := three_cell0 hs1.hp
    have hd1 := three_cell1 hs1.hp
    have hd2 := three_cell2 hs1.hp
    have hdf := three_free hs1.hp
    have hdf0 := hdf 0
    have hltr := hs1.b_lt
    have hfa : ∀ o, (wr.alloc o).frozen? ⟨b, 0, none⟩ = false := fun o => (((Below.refl wr.heap.size wr).alloc (Nat.le_refl _) o).frozen (p := ⟨b, 0, none⟩) hltr).trans hdf0
    have hca : ∀ o, (wr.alloc o).cell? ⟨b, 0, none⟩ = some (.slice a1 ws1.length cap1) := fun o => (((Below.refl wr.heap.size wr).alloc (Nat.le_refl _) o).cell (p := ⟨b, 0, none⟩) hltr).trans hd0
    have hown1 := hs1.own
    have hbase := hs1.bB
    have hr1 : r1 < 18446744073709551616 := by
      have h2 := pow_le_63 (k := c1) (by omega)
      have := hs1.lt
      omega
    have hne := hs1.ne
    have hn1b : 8 * ws1.length + c1 ≤ 8 * ws.length + c + k := by omega
    have HN1 : Hid (8 * ws1.length + c1 = 8 * ws.length + c + k) := hn1
    clear hn1
    by_cases h8 : 8 ≤ c1
    · go_wp2
      go_region_law
        (refine step_append_lies _ (by rfl) _ _ _ (by rfl) B 5 i0 _ 1 1 Tryz.underlying59 hi hz0 hz1 hz2 rfl (by omega) (.slice a1 ws1.length cap1) ws1.length (ws1.map (Value.int .u8)) (by rfl) ((hown1.alloc _).drew)
            ⟨wr.heap.size, 0, none⟩ 1 1 [.int .u8 (IntKind.u8.wrap (r1 : Int))] (by rfl) (by rfl) (World.news_of_block (cs := #[.int .u8 (IntKind.u8.wrap (r1 : Int))]) (t := 5) (fr := (0, 0)) (heap_alloc_new wr _)) (by simp [Value.oneCell'])
            (by omega) (by unfold maxLen; omega) (by omega) (by simp; omega) (wr.heap.size + 1) (by simp) ?_; intro gg cap2 w2 hown2 hgrow hat hlt2
         have hx0 := (hgrow.cell_far ⟨b, 0, none⟩ (by simp; omega) (Ne.symm hne)).trans (hca _)
         have hxf := (hgrow.frozen_far ⟨b, 0, none⟩ (by simp; omega) (Ne.symm hne)).trans (hfa _))
      all_goals
        have hpu := hs1.pushed h8 hown2 hgrow hat
        have hp2 : (w2.setCell ⟨b, 0, none⟩ (.slice (some ⟨gg, 0, none⟩) (ws1.length + 1) cap2)).heap[b]? = some (.cells #[.slice (some ⟨gg, 0, none⟩) (ws1.length + 1) cap2, .int .u64 (r1 : Int), .int .i64 (c1 : Int)] 64 (0, 0)) := by
          refine three_set0 (x := .slice a1 ws1.length cap1) ?_ _
          rw [hgrow.block b (by simp; omega) (Ne.symm hne)]
          show (wr.alloc _).heap[b]? = _
          rw [Below.heap_alloc _ _ _ hltr]; exact hs1.hp
        generalize w2.setCell ⟨b, 0, none⟩ (.slice (some ⟨gg, 0, none⟩) (ws1.length + 1) cap2) = w3 at *
        have he0 := three_cell0 hp2
        have he1 := three_cell1 hp2
        have he2 := three_cell2 hp2
        have hef := three_free hp2
        clear hp2 hx0 hxf hgrow hown2 hd0 hd1 hdf hdf0 hfa hca hown1 hs1
        have HM : Hid (cellN wr b 2 = c1) := by show _ = _; rw [cellN_of hd2]; simp
        go_wp2
        go_roundw
        case rel => exact ⟨_, cap2, ws1 ++ [((r1 % 256 : Nat) : Int)], r1 / 256, c1 - 8, hpu.1, by omega, (by show _ = _; rw [bits_push _ _ _ h8]; exact HQ.out), hkr.trans hpu.2.1 (fun j hj e => ws_back hfr hj e), hfr.trans hpu.2.2 hkr.size, by have := HN1.out; simp; omega⟩
        case measure => rw [HM.out, cellN_of (three_cell2 hpu.1.hp)]; simp; omega
    · clear hfa hca hdf0 hdf
      go_wp2
      go_end0
      exact ⟨rfl, a1, cap1, ws1, r1, c1, hs1, by omega, HQ.out, hkr, hfr⟩
end Go.Proofs.YtcifalelnfeggaaGreatDoor

namespace Go.Proofs.YtcifalelnfeggaaGreatDoor
open Go.RowKit
set_option linter.unusedVariables false

/-- A Writer that has these bits; v: its row. -/
def WrL (w : World) (b B : Nat) (v : Value) (L : List Bool) : Prop := ∃ a cap ws r c, v = .slice a ws.length cap ∧ Wr w b B a cap ws r c ∧ c < 8 ∧ L = bB ws ++ bN r c
theorem WrL.kp {w w' : World} {b B : Nat} {v : Value} {L : List Bool} {S : Nat → Prop} (h : WrL w b B v L) (hk : Kp S w w') (h1 : ¬ S b) (h2 : ∀ k, v.ownBlock = some k → ¬ S k) : WrL w' b B v L := by
  obtain ⟨a, cap, ws, r, c, rfl, h, r⟩ := h
  exact ⟨a, cap, ws, _, c, rfl, h.kp hk h1 h2, r⟩
theorem WrL.b_lt {w : World} {b B : Nat} {v : Value} {L : List Bool} (h : WrL w b B v L) : b < w.heap.size := by
  obtain ⟨a, cap, ws, r, c, rfl, h, r⟩ := h
  exact h.b_lt
theorem WrL.own_lt {w : World} {b B : Nat} {v : Value} {L : List Bool} (h : WrL w b B v L) : ∀ k, v.ownBlock = some k → B ≤ k ∧ k < w.heap.size ∧ k ≠ b := by
  obtain ⟨a, cap, ws, r, c, rfl, h, r⟩ := h
  intro k e
  exact ⟨(h.own.lt k e).1, (h.own.lt k e).2, fun e2 => h.ne (e2 ▸ e)⟩
theorem WrL.new {w : World} {b B : Nat} (h : w.heap[b]? = some (.cells #[.slice none 0 0, .int .u64 0, .int .i64 0] 64 (0, 0))) (hB : B ≤ w.heap.size) : WrL w b B (.slice none 0 0) [] :=
  ⟨none, 0, [], 0, 0, rfl, ⟨h, World.ownsRow_nil _ _ _ _, fun _ => rfl, by simp, by simp [Value.ownBlock], hB, by decide⟩, by decide, rfl⟩

def putL (L : List Bool) (x : Nat) (n : Int) : List Bool := if errW x n = 0 then L ++ bN x n.toNat else L
def turnL (L : List Bool) (x : Nat) (n : Int) : List Bool := if errW x n = 0 then L ++ (bN x n.toNat).reverse else L
def padN (n : Nat) : Nat := (8 - n % 8) % 8
def alignL (L : List Bool) : List Bool := L ++ List.replicate (padN L.length) false

set_option maxRecDepth 100000 in
theorem put_ok (b B : Nat) (v : Value) (L : List Bool) (x k : Nat) (w : World) (h : WrL w b B v L) (hx : x < 2 ^ k) (hk : k ≤ 56) (hl : L.length ≤ 1125899906842560) :
    Calls Tryz.prog 29 #[.pointer (some ⟨b, 0, none⟩), .int .u64 (x : Int), .int .i64 (k : Int)] w fun e w' => e = .returned (.int .i64 0) ∧ ∃ v', WrL w' b B v' (L ++ bN x k) ∧ Kp (WS b v) w w' ∧ Fresh w v v' := by
  obtain ⟨a, cap, ws, r, c, rfl, h, hc, rfl⟩ := h
  have hl2 : ws.length ≤ 140737488355320 := by rw [List.length_append, bB_len, bN_len] at hl; omega
  have C := lay_any b B a cap ws r c x k w h hc hx hk hl2
  have D := refuse_ok x k w hx hk
  have hx2 : x < 18446744073709551616 := by
    have := pow_le_63 (k := k) (by omega)
    omega
  clear hx hl
  go_enter Tryz.func29, Tryz.ntmps29
  go_wp2_with fail
  refine D.mono ?_
  rintro e w1 ⟨rfl, hw1⟩
  subst w1
  go_wp2_with fail
  refine C.mono ?_
  rintro e w1 ⟨rfl, a', cap', ws', r', c', h', hc', hb', hk', hf'⟩
  go_wp2
  go_ret
  exact ⟨rfl, _, ⟨a', cap', ws', r', c', rfl, h', hc', hb'.symm⟩, hk', hf'⟩

set_option maxRecDepth 100000 in
theorem put_no (b : Nat) (x : Nat) (n : Int) (w : World) (hx : x < 18446744073709551616) (hn0 : -9223372036854775808 ≤ n) (hn1 : n ≤ 9223372036854775807) (he : errW x n ≠ 0) :
    Calls Tryz.prog 29 #[.pointer (some ⟨b, 0, none⟩), .int .u64 (x : Int), .int .i64 n] w fun e w' => e = .returned (.int .i64 (errW x n)) ∧ w' = w := by
  rcases errW_cases x n with ⟨h1, h2⟩ | ⟨k, rfl, hk, ⟨h1, h2⟩ | ⟨h1, h2⟩⟩
  · have D := refuse_count x n w h2
    rw [h1]
    go_enter Tryz.func29, Tryz.ntmps29
    go_wp2_with fail
    refine D.mono ?_
    rintro e w1 ⟨rfl, hw1⟩
    subst w1
    go_wp2
    go_ret
    exact ⟨rfl, rfl⟩
  · exact absurd h1 he
  · have D := refuse_value x k w h2 hk hx
    rw [h1]
    clear h2
    go_enter Tryz.func29, Tryz.ntmps29
    go_wp2_with fail
    refine D.mono ?_
    rintro e w1 ⟨rfl, hw1⟩
    subst w1
    go_wp2
    go_ret
    exact ⟨rfl, rfl⟩

theorem put_any (b B : Nat) (v : Value) (L : List Bool) (x : Nat) (n : Int) (w : World) (h : WrL w b B v L) (hx : x < 18446744073709551616) (hn0 : -9223372036854775808 ≤ n) (hn1 : n ≤ 9223372036854775807) (hl : L.length ≤ 1125899906842560) :
    Calls Tryz.prog 29 #[.pointer (some ⟨b, 0, none⟩), .int .u64 (x : Int), .int .i64 n] w fun e w' => e = .returned (.int .i64 (errW x n)) ∧ ∃ v', WrL w' b B v' (putL L x n) ∧ Kp (WS b v) w w' ∧ Fresh w v v' := by
  by_cases he : errW x n = 0
  · rcases errW_cases x n with ⟨h1, h2⟩ | ⟨k, rfl, hk, ⟨h1, h2⟩ | ⟨h1, h2⟩⟩
    · omega
    · refine (put_ok b B v L x k w h h2 hk hl).mono ?_
      rintro e w' ⟨rfl, v', h1', h2', h3'⟩
      unfold putL
      rw [he, if_pos rfl]
      exact ⟨rfl, v', by simpa using h1', h2', h3'⟩
    · omega
  · refine (put_no b x n w hx hn0 hn1 he).mono ?_
    rintro e w' ⟨rfl, rfl⟩
    unfold putL
    rw [if_neg he]
    exact ⟨rfl, v, h, Kp.refl _ _, fun k e => .inl e⟩

theorem flip_bits (x k : Nat) (hk : k ≤ 56) : flipN x k < 2 ^ k ∧ bN (flipN x k) k = (bN x k).reverse := by
  have hc : cnt (k : Int) = k := by unfold cnt; omega
  unfold flipN
  rw [hc]
  exact ⟨rev_lt x k, bN_num' (rev_len x k)⟩

set_option maxRecDepth 100000 in
set_option maxHeartbeats 1000000 in
theorem turned_ok (b B : Nat) (v : Value) (L : List Bool) (x k : Nat) (w : World) (h : WrL w b B v L) (hx : x < 2 ^ k) (hk : k ≤ 56) (hl : L.length ≤ 1125899906842560) :
    Calls Tryz.prog 143 #[.pointer (some ⟨b, 0, none⟩), .int .u64 (x : Int), .int .i64 (k : Int)] w fun e w' => e = .returned (.int .i64 0) ∧ ∃ v', WrL w' b B v' (L ++ (bN x k).reverse) ∧ Kp (WS b v) w w' ∧ Fresh w v v' := by
  obtain ⟨a, cap, ws, r, c, rfl, h, hc, rfl⟩ := h
  have hl2 : ws.length ≤ 140737488355320 := by rw [List.length_append, bB_len, bN_len] at hl; omega
  have hfl := flip_bits x k hk
  have hx2 : x < 18446744073709551616 := by
    have := pow_le_63 (k := k) (by omega)
    omega
  have HC : Hid (∀ W, Wr W b B a cap ws r c → Calls Tryz.prog 55 #[.pointer (some ⟨b, 0, none⟩), .int .u64 (flipN x k : Int), .int .i64 (k : Int)] W fun e w' => e = .returned (.tuple #[]) ∧ ∃ a' cap' ws' r' c',
      Wr w' b B a' cap' ws' r' c' ∧ c' < 8 ∧ bB ws' ++ bN r' c' = bB ws ++ bN r c ++ (bN x k).reverse ∧ Kp (WS b (.slice a ws.length cap)) W w' ∧ Fresh W (.slice a ws.length cap) (.slice a' ws'.length cap')) := by
    intro W hW
    have := lay_any b B a cap ws r c (flipN x k) k W hW hc hfl.1 hk hl2
    rw [hfl.2] at this
    exact this
  have HF : Hid (∀ W, Calls Tryz.prog 160 #[.int .u64 (x : Int), .int .i64 (k : Int)] W fun e w' => e = .returned (.int .u64 (flipN x k)) ∧ w' = W) := fun W => flip_any x k W hx2 (by omega) (by omega)
  have D := refuse_ok x k w hx hk
  have hd : Wr w.drew b B a cap ws r c := h.kp ((Kp.refl (fun _ => False) w).drew) (by simp) (by simp)
  clear hx hl hfl
  generalize flipN x k = f at *
  go_enter Tryz.func143, Tryz.ntmps143
  go_wp2_with fail
  refine D.mono ?_
  rintro e w1 ⟨rfl, hw1⟩
  subst w1
  go_wp2_with fail
  go_region_held3 (fun _ => True) (trivial) (first
    | (go_at_call 160; refine (HF.out _).mono ?_; rintro e w1 ⟨rfl, hw1⟩; subst w1)
    | (go_at_call 55; refine (HC.out _ hd).mono ?_; rintro e w1 ⟨rfl, a', cap', ws', r', c', h', hc', hb', hk', hf'⟩))
  go_wp2
  go_ret
  exact ⟨rfl, _, ⟨a', cap', ws', r', c', rfl, h', hc', hb'.symm⟩, ⟨hk'.os, hk'.tape, hk'.output, hk'.size, hk'.block⟩, hf'⟩
end Go.Proofs.YtcifalelnfeggaaGreatDoor

namespace Go.Proofs.YtcifalelnfeggaaGreatDoor
open Go.RowKit
set_option linter.unusedVariables false

set_option maxRecDepth 100000 in
theorem turned_no (b : Nat) (x : Nat) (n : Int) (w : World) (hx : x < 18446744073709551616) (hn0 : -9223372036854775808 ≤ n) (hn1 : n ≤ 9223372036854775807) (he : errW x n ≠ 0) :
    Calls Tryz.prog 143 #[.pointer (some ⟨b, 0, none⟩), .int .u64 (x : Int), .int .i64 n] w fun e w' => e = .returned (.int .i64 (errW x n)) ∧ w' = w := by
  rcases errW_cases x n with ⟨h1, h2⟩ | ⟨k, rfl, hk, ⟨h1, h2⟩ | ⟨h1, h2⟩⟩
  · have D := refuse_count x n w h2
    rw [h1]
    go_enter Tryz.func143, Tryz.ntmps143
    go_wp2_with fail
    refine D.mono ?_
    rintro e w1 ⟨rfl, hw1⟩
    subst w1
    go_wp2
    go_ret
    exact ⟨rfl, rfl⟩
  · exact absurd h1 he
  · have D := refuse_value x k w h2 hk hx
    rw [h1]
    clear h2
    go_enter Tryz.func143, Tryz.ntmps143
    go_wp2_with fail
    refine D.mono ?_
    rintro e w1 ⟨rfl, hw1⟩
    subst w1
    go_wp2
    go_ret
    exact ⟨rfl, rfl⟩

theorem turned_any (b B : Nat) (v : Value) (L : List Bool) (x : Nat) (n : Int) (w : World) (h : WrL w b B v L) (hx : x < 18446744073709551616) (hn0 : -9223372036854775808 ≤ n) (hn1 : n ≤ 9223372036854775807) (hl : L.length ≤ 1125899906842560) :
    Calls Tryz.prog 143 #[.pointer (some ⟨b, 0, none⟩), .int .u64 (x : Int), .int .i64 n] w fun e w' => e = .returned (.int .i64 (errW x n)) ∧ ∃ v', WrL w' b B v' (turnL L x n) ∧ Kp (WS b v) w w' ∧ Fresh w v v' := by
  by_cases he : errW x n = 0
  · rcases errW_cases x n with ⟨h1, h2⟩ | ⟨k, rfl, hk, ⟨h1, h2⟩ | ⟨h1, h2⟩⟩
    · omega
    · refine (turned_ok b B v L x k w h h2 hk hl).mono ?_
      rintro e w' ⟨rfl, v', h1', h2', h3'⟩
      unfold turnL
      rw [he, if_pos rfl]
      exact ⟨rfl, v', by simpa using h1', h2', h3'⟩
    · omega
  · refine (turned_no b x n w hx hn0 hn1 he).mono ?_
    rintro e w' ⟨rfl, rfl⟩
    unfold turnL
    rw [if_neg he]
    exact ⟨rfl, v, h, Kp.refl _ _, fun k e => .inl e⟩

set_option maxRecDepth 100000 in
theorem align_any (b B : Nat) (v : Value) (L : List Bool) (w : World) (h : WrL w b B v L) (hl : L.length ≤ 1125899906842560) :
    Calls Tryz.prog 96 #[.pointer (some ⟨b, 0, none⟩)] w fun e w' => e = .returned (.int .i64 (padN L.length)) ∧ ∃ v', WrL w' b B v' (alignL L) ∧ Kp (WS b v) w w' ∧ Fresh w v v' := by
  obtain ⟨a, cap, ws, r, c, rfl, h, hc, hL⟩ := h
  have hlen : L.length = 8 * ws.length + c := by rw [hL, List.length_append, bB_len, bN_len]
  have hl2 : ws.length ≤ 140737488355320 := by omega
  have hpad : padN L.length = (8 - c) % 8 := by unfold padN; omega
  have hc2 := three_cell2 h.hp
  by_cases h0 : c = 0
  · have hp0 : padN L.length = 0 := by omega
    have HA : Hid (alignL L = L) := by show _ = _; unfold alignL; rw [hp0]; simp
    rw [hp0]
    have HW : Hid (WrL w b B (.slice a ws.length cap) L) := ⟨a, cap, ws, r, c, rfl, h, hc, hL⟩
    subst h0
    clear hpad hp0 hlen hL hl
    go_enter Tryz.func96, Tryz.ntmps96
    go_wp2
    go_ret
    exact ⟨rfl, _, by rw [HA.out]; exact HW.out, Kp.refl _ _, fun k e => .inl e⟩
  · have hp0 : padN L.length = 8 - c := by omega
    rw [hp0]
    have HA : Hid (alignL L = bB ws ++ bN r c ++ bN 0 (8 - c)) := by show _ = _; unfold alignL; rw [hp0, bN_zero, hL]
    have C := lay_any b B a cap ws r c 0 (8 - c) w h hc (Nat.two_pow_pos _) (by omega) hl2
    have hcn : ((8 - c : Nat) : Int) = 8 - (c : Int) := by omega
    rw [hcn] at C ⊢
    have hc0 : ((c : Int) == 0) = false := by simp [h0]
    clear hpad hp0 hlen hL hl hcn
    go_enter Tryz.func96, Tryz.ntmps96
    go_wp2_with fail
    refine C.mono ?_
    rintro e w1 ⟨rfl, a', cap', ws', r', c', h', hc', hb', hk', hf'⟩
    go_wp2
    go_ret
    exact ⟨rfl, _, ⟨a', cap', ws', r', c', rfl, h', hc', by rw [HA.out]; exact hb'.symm⟩, hk', hf'⟩

theorem padN_add (n : Nat) : (n + padN n) % 8 = 0 := by unfold padN; omega
theorem alignL_len (L : List Bool) : (alignL L).length = L.length + padN L.length := by simp [alignL]

set_option maxRecDepth 100000 in
set_option maxHeartbeats 1000000 in
theorem whole_any (b B : Nat) (v : Value) (L : List Bool) (pa : Option Addr) (p : List Int) (pc : Nat) (w : World) (h : WrL w b B v L) (hs : Seg w pa p) (hnil : pa = none → pc = 0) (hfar : ∀ g off, pa = some ⟨g, off, none⟩ → 0 < p.length → ¬ WS b v g)
    (hl : L.length + 8 * p.length ≤ 1125899906842560) :
    Calls Tryz.prog 97 #[.pointer (some ⟨b, 0, none⟩), .slice pa p.length pc] w fun e w' => e = .returned (.tuple #[]) ∧ ∃ v', WrL w' b B v' (alignL L ++ bB p) ∧ Kp (WS b v) w w' ∧ Fresh w v v' := by
  obtain ⟨i0, hi, hz0, hz1, hz2⟩ := info_parts info_u8w
  have C := align_any b B v L w h (by omega)
  go_enter Tryz.func97, Tryz.ntmps97
  go_wp2_with fail
  refine C.mono ?_
  rintro e w1 ⟨rfl, v1, ⟨a, cap, ws, r, c, rfl, h1, hc1, hL1⟩, hk1, hf1⟩
  have hlen := alignL_len L
  have hpad := padN_add L.length
  rw [hL1, List.length_append, bB_len, bN_len] at hlen
  have hc0 : c = 0 := by omega
  subst hc0
  have hr0 : r = 0 := by have := h1.lt; simp at this; exact this
  subst hr0
  have hp8 : padN L.length < 8 := by unfold padN; omega
  have hs1 : Seg w1 pa p := hs.kp hk1 hfar
  have hd0 := three_cell0 h1.hp
  have hdf := three_free h1.hp
  have hown1 := h1.own
  have hbB := h1.bB
  clear hpad
  go_wp2_with (at_builtin; refine wpList_appS rfl (.tmp 13) (.tmp 14) 59 rfl B 5 i0 (.int .u8 0) 1 Tryz.underlying59 hi hz0 hz1 hz2 rfl hown1 hs1 hnil rfl rfl (by omega) (by omega) hbB ?_; intro b2 c2 w2 hown2 hg2 hfr2 hnl2; have hx0 := (hg2.cell_far ⟨b, 0, none⟩ h1.b_lt (Ne.symm h1.ne)).trans hd0; have hxf := (hg2.frozen_far ⟨b, 0, none⟩ h1.b_lt (Ne.symm h1.ne)).trans (hdf 0))
  go_end0
  have hp2 : w2.heap[b]? = some (.cells #[.slice a ws.length cap, .int .u64 ((0 : Nat) : Int), .int .i64 ((0 : Nat) : Int)] 64 (0, 0)) := by
    rw [hg2.block b h1.b_lt (Ne.symm h1.ne)]; exact h1.hp
  have hne2 : (Value.slice b2 (ws.length + p.length) c2).ownBlock ≠ some b := by
    intro e
    rcases hfr2 b e with e | e
    · exact h1.ne e
    · have := h1.b_lt; omega
  have hkb : Kp (fun j => j = b) w2 (w2.setCell ⟨b, 0, none⟩ (.slice b2 (ws.length + p.length) c2)) := Kp.set (S := fun j => j = b) rfl _
  have hk2 : Kp (WS b (.slice a ws.length cap)) w1 w2 := Kp.grown hg2 (fun i e => .inr e)
  refine ⟨rfl, .slice b2 (ws ++ p).length c2, ⟨b2, c2, ws ++ p, 0, 0, rfl, ⟨?_, ?_, ?_, ?_, ?_, ?_, by decide⟩, by decide, ?_⟩, ?_, ?_⟩
  · rw [List.length_append]; exact three_set0 hp2 _
  · rw [List.length_append, List.map_append]
    exact own_kp hown2 hkb (fun j e1 e2 => hne2 (e2 ▸ e1))
  · intro e
    rw [List.append_eq_nil_iff] at e
    obtain ⟨rfl, rfl⟩ := e
    have ha := h1.nil rfl
    subst ha
    have hcp : cap = 0 := by
      rcases hown1.2 with ⟨e0, _⟩ | ⟨g, cp, cur, e0, _⟩
      · simp at e0; exact e0
      · simp at e0
    subst hcp
    have := hnl2.2 ⟨rfl, rfl⟩
    simp at this
    exact this.1
  · intro z hz
    rw [List.mem_append] at hz
    rcases hz with hz | hz
    · exact h1.bd z hz
    · exact hs.mem z hz
  · rw [List.length_append]; exact hne2
  · exact Nat.le_trans hbB (Nat.le_trans hk2.size hkb.size)
  · rw [hL1, bB_append]; simp [bN]
  · exact (hk1.trans hk2 (fun j hj e => ws_back hf1 hj e)).trans hkb (fun j _ e => .inl e)
  · rw [List.length_append]; exact hf1.trans hfr2 hk1.size
end Go.Proofs.YtcifalelnfeggaaGreatDoor
