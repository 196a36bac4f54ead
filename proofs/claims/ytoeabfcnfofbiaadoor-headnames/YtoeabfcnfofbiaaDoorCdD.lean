
import Derived.Test.YtoeabfcnfofbiaaDoorCdC
namespace Go.Proofs.YtoeabfcnfofbiaaDoor
open Go.RowKit
set_option linter.unusedVariables false

def errR (zs : List Int) : Int := if 32768 < spc zs then 51 else if spc zs = 32768 ∨ tot zs = 0 ∨ (tot zs = 1 ∧ cC zs 1 = 1) then 0 else 52
def errC (zs : List Int) : Int := if errS zs = 0 then errR zs else errS zs
theorem info16 : (Tryd.prog.info? 83).map (·.size) = some 16 := by kernel_rfl

set_option maxRecDepth 100000 in
set_option maxHeartbeats 1000000 in
theorem refusal5_any (zs : List Int) (hb : ∀ l, cC zs l ≤ 288) (w : World) :
    Calls Tryd.prog 112 #[.agg (arr (cnts zs))] w fun e w' => e = .returned (.int .i64 (errR zs)) ∧ Below w.heap.size w w' := by
  have h0 : (w.alloc (.cells (arr (cnts zs)) 83)).heap[w.heap.size]? = some (.cells (arr (cnts zs)) 83 (0, 0)) := heap_alloc_new w _
  have B0 : Below w.heap.size w (w.alloc (.cells (arr (cnts zs)) 83)) := (Below.refl _ _).alloc (Nat.le_refl _) _
  have hu99 := Tryd.underlying83
  have hi99 : (Tryd.prog.info? 83).map (·.size) = some ((cnts zs).map (Value.int .i64)).length := by rw [List.length_map, cnts_len]; exact info16
  go_enter Tryd.func112, Tryd.ntmps112
  go_wp2_with fail
  generalize w.alloc (.cells (arr (cnts zs)) 83) = wr at *
  obtain ⟨a, ea⟩ : ∃ a, a = w.heap.size := ⟨_, rfl⟩
  have HA : Hid (a = w.heap.size) := ea
  rw [← ea] at h0 ⊢
  clear ea
  have hlt : a < wr.heap.size := (Array.getElem?_eq_some_iff.1 h0).1
  have r0 := arr_range h0
  have c1 := arr_cell h0 (i := 1) (by rw [cnts_len]; decide)
  rw [cnts_get zs (by decide)] at c1
  have HK : Hid (∀ w', Below wr.heap.size wr w' → w'.rangeAt a 0 ((cnts zs).map (Value.int .i64))) := fun w' hb => range_old r0 hb hlt
  have HK1 : Hid (∀ w', Below wr.heap.size wr w' → w'.cell? ⟨a, 1, none⟩ = some (.int .i64 (cC zs 1 : Int))) := fun w' hb => (hb.cell (p := ⟨a, 1, none⟩) hlt).trans c1
  have HS : Hid (∀ W, Below wr.heap.size wr W → Calls Tryd.prog 118 #[.agg (arr (cnts zs))] W fun e w' => e = .returned (.int .i64 (spc zs : Int)) ∧ Below wr.heap.size wr w') := fun W hW => (pspace_any zs hb W).mono fun e w' h => ⟨h.1, hW.trans (h.2.mono hW.size)⟩
  have HT : Hid (∀ W, Below wr.heap.size wr W → Calls Tryd.prog 119 #[.agg (arr (cnts zs))] W fun e w' => e = .returned (.int .i64 (tot zs : Int)) ∧ Below wr.heap.size wr w') := fun W hW => (total_any zs hb W).mono fun e w' h => ⟨h.1, hW.trans (h.2.mono hW.size)⟩
  have Brr : Below wr.heap.size wr wr := Below.refl _ _
  have HB : Hid (∀ w', Below wr.heap.size wr w' → Below w.heap.size w w') := fun w' h => B0.trans (h.mono B0.size)
  obtain ⟨s, hs⟩ : ∃ s, s = spc zs := ⟨_, rfl⟩
  obtain ⟨t, ht⟩ : ∃ t, t = tot zs := ⟨_, rfl⟩
  have htb : t ≤ 4608 := by have h2 := cS_le zs hb 16; rw [ht]; unfold tot; omega
  have hsb : s ≤ 100000000 := by
    have h1 := spc_tot zs
    rw [← hs, ← ht] at h1
    omega
  have hcb := hb 1
  have HERR : Hid (errR zs = if 32768 < s then 51 else if s = 32768 ∨ t = 0 ∨ (t = 1 ∧ cC zs 1 = 1) then 0 else 52) := by
    show _ = _
    unfold errR
    rw [← hs, ← ht]
  rw [← hs] at HS
  rw [← ht] at HT
  clear hs ht c1 hb
  generalize cC zs 1 = q at *
  refine wp_region_held_drew (S := fun w' => w'.rangeAt a 0 ((cnts zs).map (Value.int .i64))) (by kernel_rfl) (HK.out _ (Below.drew Brr)) (fun hHeld => ?_)
  refine wpAnyH_take (i := 0) (v := .agg (arr (cnts zs))) rfl (by kernel_rfl) (by kernel_rfl) (by kernel_rfl) (fun _ _ _ h => h) (yieldsIf_load_mid (by rfl) _ _ rfl _ _ rfl _ _ (fun w h => h) hu99 rfl hi99) hHeld ?_
  simp only [Act.put, List.setIfInBounds_toArray]
  refine wpAnyH_take (i := 2) (v := .agg (arr (cnts zs))) rfl (by kernel_rfl) (by kernel_rfl) (by kernel_rfl) (fun _ _ _ h => h) (yieldsIf_load_mid (by rfl) _ _ rfl _ _ rfl _ _ (fun w h => h) hu99 rfl hi99) hHeld ?_
  simp only [Act.put]
  refine wpAnyH_ready (rs := [1]) (by kernel_rfl) (by simp) ?_
  refine AllReadyH.cons rfl (fun K hK => ?_) AllReadyH.nil
  go_simp
  refine (HS.out _ (Below.drew Brr)).mono ?_
  rintro e w3 ⟨rfl, b3⟩
  refine hK.out _ _ (HK.out _ b3) (fun hHeld2 => ?_)
  clear hK K
  refine wpAnyH_ready (rs := [3]) (by kernel_rfl) (by simp) ?_
  refine AllReadyH.cons rfl (fun K hK => ?_) AllReadyH.nil
  go_simp
  refine (HT.out _ b3).mono ?_
  rintro e w4 ⟨rfl, b4⟩
  refine hK.out _ _ (HK.out _ b4) (fun hHeld3 => ?_)
  clear hK K
  refine wpAnyH_ready (rs := [4]) (by kernel_rfl) (by simp) ?_
  refine AllReadyH.cons rfl (fun K hK => ?_) AllReadyH.nil
  go_simp
  refine hK.out _ _ (HK.out _ b4) (fun _ => ?_)
  clear hK K
  refine wpAnyH_ready (rs := [5]) (by kernel_rfl) (by simp) ?_
  refine AllReadyH.cons rfl (fun K hK => ?_) AllReadyH.nil
  go_simp
  refine hK.out _ _ (HK.out _ b4) (fun _ => ?_)
  clear hK K
  refine wpAnyH_done (by kernel_rfl) ?_ _
  all_goals
    have cq := HK1.out _ b4
    have HBB : Hid _ := HB.out _ b4
    by_cases h1 : 32768 < s
    · have h1i : (32768 : Int) < (s : Int) := by omega
      have he : Hid (errR zs = 51) := by show _ = _; rw [HERR.out, if_pos h1]
      go_wp2
      go_ret
      exact ⟨by rw [he.out]; rfl, HBB.out⟩
    · have h1i : ¬ (32768 : Int) < (s : Int) := by omega
      by_cases h2 : s = 32768
      · subst h2
        have he : Hid (errR zs = 0) := by show _ = _; rw [HERR.out, if_neg h1, if_pos (Or.inl rfl)]
        go_wp2
        go_ret
        exact ⟨by rw [he.out]; rfl, HBB.out⟩
      · have h2i : ¬ (s : Int) = 32768 := by omega
        by_cases h3 : t = 0
        · subst h3
          have he : Hid (errR zs = 0) := by show _ = _; rw [HERR.out, if_neg h1, if_pos (Or.inr (Or.inl rfl))]
          go_wp2
          go_ret
          exact ⟨by rw [he.out]; rfl, HBB.out⟩
        · have h3i : ¬ (t : Int) = 0 := by omega
          by_cases h4 : t = 1
          · subst h4
            by_cases h5 : q = 1
            · subst h5
              have he : Hid (errR zs = 0) := by show _ = _; rw [HERR.out, if_neg h1, if_pos (Or.inr (Or.inr ⟨rfl, rfl⟩))]
              go_wp2
              go_ret
              exact ⟨by rw [he.out]; rfl, HBB.out⟩
            · have h5i : ¬ (q : Int) = 1 := by omega
              have he : Hid (errR zs = 52) := by show _ = _; rw [HERR.out, if_neg h1, if_neg (by omega)]
              go_wp2
              go_ret
              exact ⟨by rw [he.out]; rfl, HBB.out⟩
          · have h4i : ¬ (t : Int) = 1 := by omega
            have he : Hid (errR zs = 52) := by show _ = _; rw [HERR.out, if_neg h1, if_neg (by omega)]
            go_wp2
            go_ret
            exact ⟨by rw [he.out]; rfl, HBB.out⟩
theorem errC_zero {zs : List Int} (h : errC zs = 0) : errS zs = 0 ∧ errR zs = 0 := by
  unfold errC at h
  split at h
  · rename_i h1; exact ⟨h1, h⟩
  · rename_i h1; exact absurd h h1
theorem cC_288 {zs : List Int} (h : errS zs = 0) : ∀ l, cC zs l ≤ 288 := fun l => Nat.le_trans (cC_le zs l) (errS_zero h).1
end Go.Proofs.YtoeabfcnfofbiaaDoor
