
import Derived.Test.YtoeabfcnfofbiaaDoorCdA
import Derived.Deep.RegionHeld3
namespace Go.Proofs.YtoeabfcnfofbiaaDoor
open Go.RowKit
set_option linter.unusedVariables false

def fstk (zs : List Int) (j : Nat) : List Int := (List.range 16).map fun l => if l ≤ j then (cF zs l : Int) else 0
theorem fstk_len (zs : List Int) (j : Nat) : (fstk zs j).length = 16 := by simp [fstk]
theorem fstk_get (zs : List Int) {j l : Nat} (h : l < 16) : (fstk zs j).getD l 0 = if l ≤ j then (cF zs l : Int) else 0 := by simp [fstk, List.getD, h]
theorem fstk_set (zs : List Int) {j : Nat} (h : j + 1 < 16) : (fstk zs j).set (j + 1) (cF zs (j + 1) : Int) = fstk zs (j + 1) := by
  apply List.ext_getElem (by simp [fstk])
  intro i h1 h2
  simp only [List.getElem_set, fstk, List.getElem_map, List.getElem_range]
  by_cases e : j + 1 = i
  · subst e; simp
  · rw [if_neg e]
    by_cases c : i ≤ j
    · rw [if_pos c, if_pos (by omega)]
    · rw [if_neg c, if_neg (by omega)]
theorem fstk_zero (zs : List Int) : fstk zs 0 = List.replicate 16 0 := by
  simp [fstk, List.range, List.range.loop, cF]
theorem fstk_all (zs : List Int) : fstk zs 15 = fsts zs := by
  simp only [fstk, fsts]
  apply List.map_congr_left
  intro l hl
  rw [List.mem_range] at hl
  rw [if_pos (by omega)]

set_option maxRecDepth 100000 in
set_option maxHeartbeats 4000000 in
theorem firsts_any (zs : List Int) (hb : ∀ l, cC zs l ≤ 288) (HFB : Hid (∀ l, l ≤ 15 → cF zs l ≤ 100000000)) (w : World) :
    Calls Tryd.prog 94 #[.agg (arr (cnts zs))] w fun e w' => e = .returned (.agg (arr (fsts zs))) ∧ Below w.heap.size w w' := by
  go_enter Tryd.func94, Tryd.ntmps94
  go_wp2_with fail
  have e0 : (#[.int .i64 0, .int .i64 0, .int .i64 0, .int .i64 0, .int .i64 0, .int .i64 0, .int .i64 0, .int .i64 0, .int .i64 0, .int .i64 0, .int .i64 0, .int .i64 0, .int .i64 0, .int .i64 0, .int .i64 0, .int .i64 0] : Array Value) = arr (fstk zs 0) := by rw [fstk_zero]; rfl
  rw [e0]
  have h0 : (w.alloc (.cells (arr (cnts zs)) 83)).heap[w.heap.size]? = some (.cells (arr (cnts zs)) 83 (0, 0)) := heap_alloc_new w _
  have B0 : Below w.heap.size w (w.alloc (.cells (arr (cnts zs)) 83)) := (Below.refl _ _).alloc (Nat.le_refl _) _
  have z0 : (w.alloc (.cells (arr (cnts zs)) 83)).heap.size = w.heap.size + 1 := by simp
  generalize w.alloc (.cells (arr (cnts zs)) 83) = W0 at *
  have h1 : (W0.alloc (.cells (arr (fstk zs 0)) 83)).heap[W0.heap.size]? = some (.cells (arr (fstk zs 0)) 83 (0, 0)) := heap_alloc_new _ _
  have B1 : Below W0.heap.size W0 (W0.alloc (.cells (arr (fstk zs 0)) 83)) := (Below.refl _ _).alloc (Nat.le_refl _) _
  have z1 : (W0.alloc (.cells (arr (fstk zs 0)) 83)).heap.size = W0.heap.size + 1 := by simp
  generalize W0.alloc (.cells (arr (fstk zs 0)) 83) = W1 at *
  have h2 : (W1.alloc (.cells (arr (fstk zs 0)) 83)).heap[W1.heap.size]? = some (.cells (arr (fstk zs 0)) 83 (0, 0)) := heap_alloc_new _ _
  have B2 : Below W1.heap.size W1 (W1.alloc (.cells (arr (fstk zs 0)) 83)) := (Below.refl _ _).alloc (Nat.le_refl _) _
  have z2 : (W1.alloc (.cells (arr (fstk zs 0)) 83)).heap.size = W1.heap.size + 1 := by simp
  generalize W1.alloc (.cells (arr (fstk zs 0)) 83) = W2 at *
  rw [← z0, ← z1]
  have ha := (B2.block w.heap.size (by omega)).trans ((B1.block w.heap.size (by omega)).trans h0)
  have hr := (B2.block W0.heap.size (by omega)).trans h1
  have BB : Below w.heap.size w W2 := B0.trans ((B1.mono (by omega)).trans (B2.mono (by omega)))
  obtain ⟨a, ea⟩ : ∃ a, a = w.heap.size := ⟨_, rfl⟩
  obtain ⟨r, er⟩ : ∃ r, r = W0.heap.size := ⟨_, rfl⟩
  obtain ⟨o, eo⟩ : ∃ o, o = W1.heap.size := ⟨_, rfl⟩
  have HN : Hid (a < r ∧ r < o ∧ w.heap.size = a) := ⟨by omega, by omega, ea.symm⟩
  rw [← ea, ← er, ← eo]
  rw [← ea] at ha
  rw [← er] at hr
  rw [← eo] at h2
  clear h0 h1 B0 B1 B2 z0 z1 z2 ea er eo
  go_loopw [5] (fun tj wr => ∃ j : Nat, j ≤ 15 ∧ tj = .int .i64 (j : Int) ∧ wr.heap[o]? = some (.cells (arr (fstk zs j)) 83 (0, 0)) ∧ W2.grownBy wr (some o)) (fun tj _ => 15 - (intOf tj).toNat)
  case atStart => exact ⟨0, by omega, rfl, h2, World.grownBy.refl _ _⟩
  case round =>
    obtain ⟨j, hj, rfl, ho, hg⟩ := hrel
    have ha2 := (hg.block a (by have := BB.size; have := HN.out; have := (Array.getElem?_eq_some_iff.1 ha).1; omega) (by have := HN.out; simp; omega)).trans ha
    have hr2 := (hg.block r (Array.getElem?_eq_some_iff.1 hr).1 (by have := HN.out; simp; omega)).trans hr
    by_cases hj6 : j < 15
    · have hji : (j : Int) < 15 := by omega
      have c0 := arr_cell ha2 (i := j) (by rw [cnts_len]; omega)
      rw [cnts_get zs (by omega)] at c0
      have d0 := arr_cell ho (i := j) (by rw [fstk_len]; omega)
      rw [fstk_get zs (by omega), if_pos (Nat.le_refl _)] at d0
      have d1 := arr_cell ho (i := j + 1) (by rw [fstk_len]; omega)
      have f1 := arr_free ho (j + 1)
      have HSET : Hid _ := arr_set ho (j + 1) (cF zs (j + 1) : Int)
      have HF : Hid (cF zs (j + 1) = 2 * (cF zs j + cC zs j)) := cF_succ zs j
      have hfb : cF zs j ≤ 100000000 := HFB.out j (by omega)
      have hcb := hb j
      generalize (fstk zs j).getD (j + 1) 0 = old at *
      generalize cC zs j = c at *
      have HX : Hid (∃ x, x = cF zs (j + 1)) := ⟨_, rfl⟩
      obtain ⟨x, hx⟩ := HX.out
      rw [← hx] at HSET HF
      have HXX : Hid (x = cF zs (j + 1)) := hx
      clear hx HX
      generalize cF zs j = f at *
      obtain ⟨t, ht⟩ : ∃ t, t = f + c := ⟨_, rfl⟩
      have r1 : (f : Int) + (c : Int) = (t : Int) := by omega
      have hx : IntKind.i64.wrap ((t : Int) * 2) = (x : Int) := by
        have := HF.out
        rw [show ((t : Int) * 2) = (x : Int) by omega]
        exact IntWalk.i64_in _ (by omega)
      have ht64 : IntKind.i64.wrap (t : Int) = (t : Int) := IntWalk.i64_in _ (by omega)
      have htb : t ≤ 1000000000 := by omega
      have hji1 : (j : Int) + 1 < 16 := by omega
      have hj16 : (j : Int) < 16 := by omega
      have hz1 : (0 : Int) ≤ (j : Int) + 1 := by omega
      have hwj : IntKind.i64.wrap ((j : Int) + 1) = (j : Int) + 1 := IntWalk.i64_in _ (by omega)
      have HK : Hid (∀ (W : World) (v : Value), (W.cell? ⟨a, j, none⟩ = some (.int .i64 (c : Int)) ∧ W.cell? ⟨o, j, none⟩ = some (.int .i64 (f : Int))) → ((W.setCell ⟨o, j + 1, none⟩ v).cell? ⟨a, j, none⟩ = some (.int .i64 (c : Int)) ∧ (W.setCell ⟨o, j + 1, none⟩ v).cell? ⟨o, j, none⟩ = some (.int .i64 (f : Int)))) := fun W v h => by
        have hn := HN.out
        exact ⟨(World.cell?_setCell_other _ _ _ _ (by intro e; simp only [Addr.mk.injEq] at e; omega)).trans h.1, (World.cell?_setCell_other _ _ _ _ (by intro e; simp only [Addr.mk.injEq] at e; omega)).trans h.2⟩
      have HK2 := fun v => HK.out wr v ⟨c0, d0⟩
      have k1 : ∀ v, (wr.setCell ⟨o, j + 1, none⟩ v).drew.cell? ⟨a, j, none⟩ = some (.int .i64 (c : Int)) := fun v => (HK2 v).1
      have k2 : ∀ v, (wr.setCell ⟨o, j + 1, none⟩ v).drew.cell? ⟨o, j, none⟩ = some (.int .i64 (f : Int)) := fun v => (HK2 v).2
      clear ht HK2
      go_wp2_with fail
      go_region_held3 (fun w' => w'.cell? ⟨a, j, none⟩ = some (.int .i64 (c : Int)) ∧ w'.cell? ⟨o, j, none⟩ = some (.int .i64 (f : Int))) (first | go_keep | (exact ⟨k1 _, k2 _⟩) | (exact k1 _) | (exact k2 _)) (fail)
      all_goals
        go_wp2
        go_roundw
        case rel =>
          refine ⟨j + 1, by omega, by go_num, ?_, ?_⟩
          · rw [← fstk_set zs (by omega), ← HXX.out]
            exact HSET.out
          · exact grown_drew (grownBy_trans hg (set_grown _ _ _ _))
        case measure => simp [intOf]; omega
    · obtain rfl : j = 15 := by omega
      rw [fstk_all] at ho
      go_wp2_with (first
        | (refine wpList_load_row rfl 83 (.tmp 3) rfl o rfl _ _ _ _ ho Tryd.underlying83 rfl (arr_info (fsts_len zs)) ?_)
        | (refine wpList_store_row rfl 83 (.tmp 2) (.tmp 20) rfl r (arr (fsts zs)) rfl rfl _ _ hr2 (arr_info (fsts_len zs)) (by rw [arr_size, arr_size, fsts_len, fstk_len]) (arr_one _) ?_))
      have hR : (wr.setRow r (arr (fsts zs))).heap[r]? = some (.cells (arr (fsts zs)) 83 (0, 0)) := setRow_heap wr r _ _ _ _ hr2
      refine bodyPost_ret (v := .agg (arr (fsts zs))) (results_cell_row rfl _ _ r _ _ _ _ rfl hR Tryd.underlying83 rfl (arr_info (fsts_len zs))) rfl ⟨rfl, ?_⟩
      have hn := HN.out
      have B1 := BB.grown hg BB.size (fun k hk => by cases hk; omega)
      exact B1.grown (grown_setRow wr r _) B1.size (fun k hk => by cases hk; omega)
end Go.Proofs.YtoeabfcnfofbiaaDoor
