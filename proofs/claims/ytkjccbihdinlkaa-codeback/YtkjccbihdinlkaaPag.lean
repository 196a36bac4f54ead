import Derived.Test.YtkjccbihdinlkaaPaf
import Derived.Test.YtkjccbihdinlkaaPae
import Derived.WalkLawsBesides
import Derived.Deep.OwnRows
namespace Go.Proofs.Ytkjccbihdinlkaa
open Go.RowKit
set_option linter.unusedVariables false

def errR (zs : List Int) : Int := if 32768 < spc zs then 51 else if spc zs = 32768 ∨ tot zs = 0 ∨ (tot zs = 1 ∧ cC zs 1 = 1) then 0 else 52
def errC (zs : List Int) : Int := if errS zs = 0 then errR zs else errS zs
theorem info16 : (Try.prog.info? 80).map (·.size) = some 16 := by kernel_rfl

set_option maxRecDepth 100000 in
set_option maxHeartbeats 1000000 in
theorem refusal5_any (zs : List Int) (hb : ∀ l, cC zs l ≤ 288) (w : World) :
    Calls Try.prog 55 #[.agg (arr (cnts zs))] w fun e w' => e = .returned (.int .i64 (errR zs)) ∧ Below w.heap.size w w' := by
  have h0 : (w.alloc (.cells (arr (cnts zs)) 80)).heap[w.heap.size]? = some (.cells (arr (cnts zs)) 80 (0, 0)) := heap_alloc_new w _
  have B0 : Below w.heap.size w (w.alloc (.cells (arr (cnts zs)) 80)) := (Below.refl _ _).alloc (Nat.le_refl _) _
  have hu99 := Try.underlying80
  have hi99 : (Try.prog.info? 80).map (·.size) = some ((cnts zs).map (Value.int .i64)).length := by rw [List.length_map, cnts_len]; exact info16
  go_enter Try.func55, Try.ntmps55
  go_wp2_with fail
  generalize w.alloc (.cells (arr (cnts zs)) 80) = wr at *
  obtain ⟨a, ea⟩ : ∃ a, a = w.heap.size := ⟨_, rfl⟩
  have HA : Hid (a = w.heap.size) := ea
  rw [← ea] at h0 ⊢
  clear ea
  have hlt : a < wr.heap.size := (Array.getElem?_eq_some_iff.1 h0).1
  have r0 := arr_range h0
  have c1 := arr_cell h0 (i := 1) (by rw [cnts_len]; decide)
  rw [cnts_get zs (by decide)] at c1
  have HK : Hid (∀ w', Below wr.heap.size wr w' → w'.rangeAt a 0 ((cnts zs).map (Value.int .i64))) := fun w' hb => range_old r0 hb hlt
  have HK1 : Hid (∀ w', Below wr.heap.size wr w' → w'.cell? ⟨a, 1, none⟩ = some (.int .i64 (cC zs 1 : Int))) := fun w' hb => (hb.cell (p := ⟨a, 1, none⟩) hlt).trans c1
  have HS : Hid (∀ W, Below wr.heap.size wr W → Calls Try.prog 40 #[.agg (arr (cnts zs))] W fun e w' => e = .returned (.int .i64 (spc zs : Int)) ∧ Below wr.heap.size wr w') := fun W hW => (pspace_any zs hb W).mono fun e w' h => ⟨h.1, hW.trans (h.2.mono hW.size)⟩
  have HT : Hid (∀ W, Below wr.heap.size wr W → Calls Try.prog 60 #[.agg (arr (cnts zs))] W fun e w' => e = .returned (.int .i64 (tot zs : Int)) ∧ Below wr.heap.size wr w') := fun W hW => (total_any zs hb W).mono fun e w' h => ⟨h.1, hW.trans (h.2.mono hW.size)⟩
  have Brr : Below wr.heap.size wr wr := Below.refl _ _
  have HB : Hid (∀ w', Below wr.heap.size wr w' → Below w.heap.size w w') := fun w' h => B0.trans (h.mono B0.size)
  obtain ⟨s, hs⟩ : ∃ s, s = spc zs := ⟨_, rfl⟩
  obtain ⟨t, ht⟩ : ∃ t, t = tot zs := ⟨_, rfl⟩
  have htb : t ≤ 4608 := by have h2 := cS_le zs hb 16; rw [ht]; unfold tot; omega
  have hsb : s ≤ 100000000 := by
    have h1 := spc_tot zs
    rw [← hs, ← ht] at h1
    omega
  have hcb := hb 1
  have HERR : Hid (errR zs = if 32768 < s then 51 else if s = 32768 ∨ t = 0 ∨ (t = 1 ∧ cC zs 1 = 1) then 0 else 52) := by
    show _ = _
    unfold errR
    rw [← hs, ← ht]
  rw [← hs] at HS
  rw [← ht] at HT
  clear hs ht c1 hb
  generalize cC zs 1 = q at *
  refine wp_region_held_drew (S := fun w' => w'.rangeAt a 0 ((cnts zs).map (Value.int .i64))) (by kernel_rfl) (HK.out _ (Below.drew Brr)) (fun hHeld => ?_)
  refine wpAnyH_take (i := 0) (v := .agg (arr (cnts zs))) rfl (by kernel_rfl) (by kernel_rfl) (by kernel_rfl) (fun _ _ _ h => h) (yieldsIf_load_mid (by rfl) _ _ rfl _ _ rfl _ _ (fun w h => h) hu99 rfl hi99) hHeld ?_
  simp only [Act.put, List.setIfInBounds_toArray]
  refine wpAnyH_take (i := 2) (v := .agg (arr (cnts zs))) rfl (by kernel_rfl) (by kernel_rfl) (by kernel_rfl) (fun _ _ _ h => h) (yieldsIf_load_mid (by rfl) _ _ rfl _ _ rfl _ _ (fun w h => h) hu99 rfl hi99) hHeld ?_
  simp only [Act.put]
  refine wpAnyH_ready (rs := [1]) (by kernel_rfl) (by simp) ?_
  refine AllReadyH.cons rfl (fun K hK => ?_) AllReadyH.nil
  go_simp
  refine (HS.out _ (Below.drew Brr)).mono ?_
  rintro e w3 ⟨rfl, b3⟩
  refine hK.out _ _ (HK.out _ b3) (fun hHeld2 => ?_)
  clear hK K
  refine wpAnyH_ready (rs := [3]) (by kernel_rfl) (by simp) ?_
  refine AllReadyH.cons rfl (fun K hK => ?_) AllReadyH.nil
  go_simp
  refine (HT.out _ b3).mono ?_
  rintro e w4 ⟨rfl, b4⟩
  refine hK.out _ _ (HK.out _ b4) (fun hHeld3 => ?_)
  clear hK K
  refine wpAnyH_ready (rs := [4]) (by kernel_rfl) (by simp) ?_
  refine AllReadyH.cons rfl (fun K hK => ?_) AllReadyH.nil
  go_simp
  refine hK.out _ _ (HK.out _ b4) (fun _ => ?_)
  clear hK K
  refine wpAnyH_ready (rs := [5]) (by kernel_rfl) (by simp) ?_
  refine AllReadyH.cons rfl (fun K hK => ?_) AllReadyH.nil
  go_simp
  refine hK.out _ _ (HK.out _ b4) (fun _ => ?_)
  clear hK K
  refine wpAnyH_done (by kernel_rfl) ?_ _
  all_goals
    have cq := HK1.out _ b4
    have HBB : Hid _ := HB.out _ b4
    by_cases h1 : 32768 < s
    · have h1i : (32768 : Int) < (s : Int) := by omega
      have he : Hid (errR zs = 51) := by show _ = _; rw [HERR.out, if_pos h1]
      go_wp2
      go_ret
      exact ⟨by rw [he.out]; rfl, HBB.out⟩
    · have h1i : ¬ (32768 : Int) < (s : Int) := by omega
      by_cases h2 : s = 32768
      · subst h2
        have he : Hid (errR zs = 0) := by show _ = _; rw [HERR.out, if_neg h1, if_pos (Or.inl rfl)]
        go_wp2
        go_ret
        exact ⟨by rw [he.out]; rfl, HBB.out⟩
      · have h2i : ¬ (s : Int) = 32768 := by omega
        by_cases h3 : t = 0
        · subst h3
          have he : Hid (errR zs = 0) := by show _ = _; rw [HERR.out, if_neg h1, if_pos (Or.inr (Or.inl rfl))]
          go_wp2
          go_ret
          exact ⟨by rw [he.out]; rfl, HBB.out⟩
        · have h3i : ¬ (t : Int) = 0 := by omega
          by_cases h4 : t = 1
          · subst h4
            by_cases h5 : q = 1
            · subst h5
              have he : Hid (errR zs = 0) := by show _ = _; rw [HERR.out, if_neg h1, if_pos (Or.inr (Or.inr ⟨rfl, rfl⟩))]
              go_wp2
              go_ret
              exact ⟨by rw [he.out]; rfl, HBB.out⟩
            · have h5i : ¬ (q : Int) = 1 := by omega
              have he : Hid (errR zs = 52) := by show _ = _; rw [HERR.out, if_neg h1, if_neg (by omega)]
              go_wp2
              go_ret
              exact ⟨by rw [he.out]; rfl, HBB.out⟩
          · have h4i : ¬ (t : Int) = 1 := by omega
            have he : Hid (errR zs = 52) := by show _ = _; rw [HERR.out, if_neg h1, if_neg (by omega)]
            go_wp2
            go_ret
            exact ⟨by rw [he.out]; rfl, HBB.out⟩
theorem errC_zero {zs : List Int} (h : errC zs = 0) : errS zs = 0 ∧ errR zs = 0 := by
  unfold errC at h
  split at h
  · rename_i h1; exact ⟨h1, h⟩
  · rename_i h1; exact absurd h h1
theorem cC_288 {zs : List Int} (h : errS zs = 0) : ∀ l, cC zs l ≤ 288 := fun l => Nat.le_trans (cC_le zs l) (errS_zero h).1
end Go.Proofs.Ytkjccbihdinlkaa

namespace Go.Proofs.Ytkjccbihdinlkaa
open Go.RowKit
set_option linter.unusedVariables false

theorem errS_two (zs : List Int) : errS zs = 0 ∨ errS zs = 50 := by
  unfold errS
  split
  · exact .inr rfl
  · split
    · exact .inl rfl
    · exact .inr rfl
theorem new_arr {w : World} {A : List Int} {t : TypeId} : (w.alloc (.cells (arr A) t)).heap[w.heap.size]? = some (.cells (arr A) t (0, 0)) := heap_alloc_new w _

set_option maxRecDepth 100000 in
set_option maxHeartbeats 1000000 in
theorem checked_any (a : Option Addr) (zs : List Int) (n cap : Nat) (hn : Hid (zs.length = n)) (w : World) (hs : SegZ w a zs) (hl : n ≤ 9223372036854775807) :
    Calls Try.prog 41 #[.slice a n cap] w fun e w' => ∃ X : List Int, X.length = 16 ∧ (errC zs = 0 → X = cnts zs) ∧ e = .returned (.tuple #[.agg (arr X), .int .i64 (errC zs)]) ∧ Below w.heap.size w w' := by
  have HC : Hid (∀ W, Below w.heap.size w W → Calls Try.prog 39 #[.slice a n cap] W fun e w' => ∃ X : List Int, X.length = 16 ∧ (errS zs = 0 → X = cnts zs) ∧ e = .returned (.tuple #[.agg (arr X), .int .i64 (errS zs)]) ∧ Below W.heap.size W w') := fun W hW => counted_any a zs n cap hn W (hs.old hW) hl
  go_enter Try.func41, Try.ntmps41
  have hr0 : (w.alloc (.cells zero16 80)).heap[w.heap.size]? = some (.cells zero16 80 (0, 0)) := heap_alloc_new w _
  have B0 : Below w.heap.size w (w.alloc (.cells zero16 80)) := (Below.refl _ _).alloc (Nat.le_refl _) _
  have hz0 : w.heap.size < (w.alloc (.cells zero16 80)).heap.size := by simp
  go_wp2_with fail
  change Calls _ _ _ (w.alloc (.cells zero16 80)) _
  generalize w.alloc (.cells zero16 80) = W0 at *
  obtain ⟨r, er⟩ : ∃ r, r = w.heap.size := ⟨_, rfl⟩
  have HR : Hid (r = w.heap.size) := er
  rw [← er] at hr0 hz0
  rw [← er]
  clear er
  refine (HC.out _ B0).mono ?_
  rintro e W1 ⟨X, hX16, hXc, rfl, B1⟩
  have HX : Hid (X.length = 16 ∧ (errS zs = 0 → X = cnts zs)) := ⟨hX16, hXc⟩
  clear hX16 hXc
  have hr1 := (B1.block r hz0).trans hr0
  have hz1 : r < W1.heap.size := Nat.lt_of_lt_of_le hz0 B1.size
  have B01 : Below w.heap.size w W1 := B0.trans (B1.mono B0.size)
  have hr2 : (W1.alloc (.cells (arr X) 80)).heap[r]? = some (.cells zero16 80 (0, 0)) := (((Below.refl _ W1).alloc (Nat.le_refl _) _).block r hz1).trans hr1
  have B2 : Below w.heap.size w (W1.alloc (.cells (arr X) 80)) := B01.alloc B01.size _
  have hz2 : r < (W1.alloc (.cells (arr X) 80)).heap.size := by simp; omega
  have ho2 := new_arr (w := W1) (A := X) (t := 80)
  obtain ⟨o, eo⟩ : ∃ o, o = W1.heap.size := ⟨_, rfl⟩
  have HO : Hid (o = W1.heap.size) := eo
  rw [← eo] at ho2
  have hro : r ≠ o := by omega
  have hoz : o < (W1.alloc (.cells (arr X) 80)).heap.size := by simp; omega
  clear eo
  rcases errS_two zs with he | he
  · have HE : Hid (errS zs = 0) := he
    rw [he]
    clear he
    have HXc : Hid (X = cnts zs) := HX.out.2 HE.out
    have HCR : Hid (∀ W, Calls Try.prog 55 #[.agg (arr X)] W fun e w' => e = .returned (.int .i64 (errR zs)) ∧ Below W.heap.size W w') := fun W => by
      rw [HXc.out]
      exact refusal5_any zs (cC_288 HE.out) W
    go_wp2_with (first
      | (refine wpList_store_row rfl 80 _ _ rfl W1.heap.size (arr X) rfl rfl _ zero16 (heap_alloc_new W1 _) (arr_info HX.out.1) (by rw [arr_size, HX.out.1]; rfl) (arr_one _) ?_; rw [World.setRow_alloc_new, ← HO.out]; generalize W1.alloc (.cells (arr X) 80) = W2 at *)
      | (refine wpList_load_row rfl 80 _ rfl o rfl _ _ _ _ ho2 Try.underlying80 rfl (arr_info HX.out.1) ?_))
    refine (HCR.out _).mono ?_
    rintro e W3 ⟨rfl, B3⟩
    have hr3 := (B3.block r hz2).trans hr2
    have ho3 := (B3.block o hoz).trans ho2
    have Bw : Below w.heap.size w W3 := B2.trans (B3.mono B2.size)
    go_wp2_with (first
      | (refine wpList_load_row rfl 80 _ rfl o rfl _ _ _ _ ho3 Try.underlying80 rfl (arr_info HX.out.1) ?_)
      | (refine wpList_store_row rfl 80 _ _ rfl r (arr X) rfl rfl _ _ hr3 (arr_info HX.out.1) (by rw [arr_size, HX.out.1]; rfl) (arr_one _) ?_))
    have hR := setRow_heap W3 r _ (arr X) _ _ hr3
    refine bodyPost_ret (v := .tuple #[.agg (arr X), .int .i64 (errR zs)]) (results_ct (fn := Try.f41) (p := 2) (u := 3) (ty := 80) rfl _ _ r _ _ _ _ rfl hR Try.underlying80 rfl (arr_info HX.out.1)) rfl ⟨X, HX.out.1, fun _ => HXc.out, ?_, Bw.grown (grown_setRow _ r _) Bw.size (fun k hk => by cases hk; exact Nat.le_of_eq HR.out.symm)⟩
    unfold errC
    rw [if_pos HE.out]
  · have HE : Hid (errS zs = 50) := he
    rw [he]
    clear he
    go_wp2_with (first
      | (refine wpList_store_row rfl 80 _ _ rfl W1.heap.size (arr X) rfl rfl _ zero16 (heap_alloc_new W1 _) (arr_info HX.out.1) (by rw [arr_size, HX.out.1]; rfl) (arr_one _) ?_; rw [World.setRow_alloc_new, ← HO.out]; generalize W1.alloc (.cells (arr X) 80) = W2 at *)
      | (refine wpList_load_row rfl 80 _ rfl o rfl _ _ _ _ ho2 Try.underlying80 rfl (arr_info HX.out.1) ?_)
      | (refine wpList_store_row rfl 80 _ _ rfl r (arr X) rfl rfl _ _ hr2 (arr_info HX.out.1) (by rw [arr_size, HX.out.1]; rfl) (arr_one _) ?_))
    have hR := setRow_heap _ r _ (arr X) _ _ hr2
    refine bodyPost_ret (v := .tuple #[.agg (arr X), .int .i64 50]) (results_ct (fn := Try.f41) (p := 2) (u := 3) (ty := 80) rfl _ _ r _ _ _ _ rfl hR Try.underlying80 rfl (arr_info HX.out.1)) rfl ⟨X, HX.out.1, ?_, ?_, B2.grown (grown_setRow _ r _) B2.size (fun k hk => by cases hk; exact Nat.le_of_eq HR.out.symm)⟩
    · intro h
      have := (errC_zero h).1
      rw [HE.out] at this
      cases this
    · unfold errC
      rw [HE.out, if_neg (by decide)]
end Go.Proofs.Ytkjccbihdinlkaa

namespace Go.Proofs.Ytkjccbihdinlkaa
open Go.RowKit
set_option linter.unusedVariables false

theorem errC_cases (zs : List Int) : errC zs = 0 ∨ errC zs = 50 ∨ errC zs = 51 ∨ errC zs = 52 := by
  unfold errC
  split
  · unfold errR
    split
    · exact .inr (.inr (.inl rfl))
    · split
      · exact .inl rfl
      · exact .inr (.inr (.inr rfl))
  · rename_i h
    rcases errS_two zs with h1 | h1
    · exact absurd h1 h
    · exact .inr (.inl h1)

set_option maxRecDepth 100000 in
set_option maxHeartbeats 400000 in
theorem check_any (a : Option Addr) (zs : List Int) (n cap : Nat) (hn : Hid (zs.length = n)) (w : World) (hs : SegZ w a zs) (hl : n ≤ 9223372036854775807) :
    Calls Try.prog 15 #[.slice a n cap] w fun e w' => e = .returned (.int .i64 (errC zs)) ∧ Below w.heap.size w w' := by
  have HC := checked_any a zs n cap hn w hs hl
  go_enter Try.func15, Try.ntmps15
  go_wp2_with fail
  refine HC.mono ?_
  rintro e W1 ⟨X, hX16, hXc, rfl, B1⟩
  have HX : Hid (X.length = 16) := hX16
  clear hX16 hXc
  have B2 : Below w.heap.size w (W1.alloc (.cells (arr X) 80)) := B1.alloc B1.size _
  go_wp2_with (first
      | (refine wpList_store_row rfl 80 _ _ rfl W1.heap.size (arr X) rfl rfl _ zero16 (heap_alloc_new W1 _) (arr_info HX.out) (by rw [arr_size, HX.out]; rfl) (arr_one _) ?_; rw [World.setRow_alloc_new]))
  go_ret
  exact ⟨rfl, B2⟩
def spcR (zs : List Int) : Nat := if errS zs = 0 then spc zs else 0

set_option maxRecDepth 100000 in
set_option maxHeartbeats 400000 in
theorem spaceF_any (a : Option Addr) (zs : List Int) (n cap : Nat) (hn : Hid (zs.length = n)) (w : World) (hs : SegZ w a zs) (hl : n ≤ 9223372036854775807) :
    Calls Try.prog 11 #[.slice a n cap] w fun e w' => e = .returned (.tuple #[.int .i64 (spcR zs : Int), .int .i64 (errS zs)]) ∧ Below w.heap.size w w' := by
  have HC := counted_any a zs n cap hn w hs hl
  rcases errS_two zs with he | he
  · have HE : Hid (errS zs = 0) := he
    have HSP : Hid (spcR zs = spc zs) := by show _ = _; unfold spcR; rw [if_pos he]
    rw [he] at HC ⊢
    clear he
    go_enter Try.func11, Try.ntmps11
    go_wp2_with fail
    refine HC.mono ?_
    rintro e W1 ⟨X, hX16, hXc, rfl, B1⟩
    obtain rfl := hXc trivial
    clear hXc hX16
    have HCS : Hid (∀ W, Calls Try.prog 40 #[.agg (arr (cnts zs))] W fun e w' => e = .returned (.int .i64 (spc zs : Int)) ∧ Below W.heap.size W w') := fun W => pspace_any zs (cC_288 HE.out) W
    have B2 : Below w.heap.size w (W1.alloc (.cells (arr (cnts zs)) 80)) := B1.alloc B1.size _
    have ho2 := new_arr (w := W1) (A := cnts zs) (t := 80)
    go_wp2_with (first
      | (refine wpList_store_row rfl 80 _ _ rfl W1.heap.size (arr (cnts zs)) rfl rfl _ zero16 (heap_alloc_new W1 _) (arr_info (cnts_len _)) (by rw [arr_size, cnts_len]; rfl) (arr_one _) ?_; rw [World.setRow_alloc_new])
      | (refine wpList_load_row rfl 80 _ rfl W1.heap.size rfl _ _ _ _ ho2 Try.underlying80 rfl (arr_info (cnts_len _)) ?_)
      | (go_at_call 40; refine (HCS.out _).mono ?_; rintro e W3 ⟨rfl, B3⟩))
    go_ret2
    exact ⟨by rw [HSP.out]; rfl, B2.trans (B3.mono B2.size)⟩
  · have HE : Hid (errS zs = 50) := he
    have HSP : Hid (spcR zs = 0) := by show _ = _; unfold spcR; rw [he, if_neg (by decide)]
    rw [he] at HC ⊢
    clear he
    go_enter Try.func11, Try.ntmps11
    go_wp2_with fail
    refine HC.mono ?_
    rintro e W1 ⟨X, hX16, hXc, rfl, B1⟩
    have HX : Hid (X.length = 16) := hX16
    clear hXc hX16
    have B2 : Below w.heap.size w (W1.alloc (.cells (arr X) 80)) := B1.alloc B1.size _
    go_wp2_with (first
      | (refine wpList_store_row rfl 80 _ _ rfl W1.heap.size (arr X) rfl rfl _ zero16 (heap_alloc_new W1 _) (arr_info HX.out) (by rw [arr_size, HX.out]; rfl) (arr_one _) ?_; rw [World.setRow_alloc_new]))
    go_ret2
    exact ⟨by rw [HSP.out]; rfl, B2⟩
end Go.Proofs.Ytkjccbihdinlkaa

namespace Go.Proofs.Ytkjccbihdinlkaa
open Go.RowKit
set_option linter.unusedVariables false

theorem info_int : (Try.prog.info? 3).map (fun i => (i.zero, i.size, i.bytes)) = some (some (.int .i64 0), 1, 8) := by kernel_rfl
end Go.Proofs.Ytkjccbihdinlkaa

namespace Go.Proofs.Ytkjccbihdinlkaa
open Go.RowKit
set_option linter.unusedVariables false

theorem made_zerosI (n : Nat) : madeCells #[.int .i64 0] n = Array.replicate n (.int .i64 0) := by
  apply Array.toList_inj.1
  rw [toList_madeCells_one]
  simp
theorem run_make_ints (n : Nat) (h : n ≤ 100000) (w : World) :
    (Instr.makeSlice 23 (.int .i64 (n : Int)) (.int .i64 (n : Int))).run Try.prog w = .ok (.slice (some ⟨w.heap.size, 0, none⟩) n n) (w.alloc (.cells (Array.replicate n (.int .i64 0)) 3)) := by
  rw [← made_zerosI]
  exact run_make_row' 23 3 (.int .i64 0) 8 Try.underlying23 info_int rfl .i64 .i64 n (by omega) (by omega) w
theorem own_zeros (w : World) (n : Nat) (hn : n ≤ 100000) : (w.alloc (.cells (Array.replicate n (.int .i64 0)) 3)).ownsRow w.heap.size 3 1 (.slice (some ⟨w.heap.size, 0, none⟩) n n) n ((List.replicate n (0 : Int)).map (Value.int .i64)) :=
  ⟨by simp, .inr ⟨w.heap.size, n, _, rfl, Nat.le_refl _, heap_alloc_new w _, Nat.le_refl _, by unfold maxLen; omega, by simp, by simp⟩⟩
theorem own_cell1 {w : World} {base n g cap : Nat} {e : TypeId} {A : List Int} (h : w.ownsRow base e 1 (.slice (some ⟨g, 0, none⟩) n cap) n (A.map (Value.int .i64))) {i : Nat} (hi : i < A.length) : w.cell? ⟨g, i, none⟩ = some (.int .i64 (A.getD i 0)) ∧ ∀ k, w.frozen? ⟨g, k, none⟩ = false := by
  have := h.cells (g := g) rfl i (.int .i64 (A.getD i 0)) (by simp [List.getD, hi])
  have hadd : (⟨g, 0, none⟩ : Addr).add i = ⟨g, i, none⟩ := by unfold Addr.add; split <;> simp_all
  rw [hadd] at this
  refine ⟨this, fun k => ?_⟩
  rcases h.2 with ⟨h1, _⟩ | ⟨g', cap', cur, hv, _, hh, _⟩
  · cases h1
  · simp only [Value.slice.injEq, Option.some.injEq, Addr.mk.injEq] at hv
    obtain ⟨⟨rfl, _⟩, _⟩ := hv
    simp [World.frozen?, hh]
theorem own_grown {w w' : World} {base n g g2 cap : Nat} {e : TypeId} {xs : List Value} (h : w.ownsRow base e 1 (.slice (some ⟨g, 0, none⟩) n cap) n xs) (hg : w.grownBy w' (some g2)) (hne : g ≠ g2) : w'.ownsRow base e 1 (.slice (some ⟨g, 0, none⟩) n cap) n xs := by
  rcases h with ⟨hl, h | ⟨g', cap', cur, hv, hb, hh, rest⟩⟩
  · exact ⟨hl, .inl h⟩
  · simp only [Value.slice.injEq, Option.some.injEq, Addr.mk.injEq, and_true, true_and] at hv
    obtain ⟨rfl, rfl⟩ := hv
    exact ⟨hl, .inr ⟨g, cap, cur, rfl, hb, by rw [hg.block g (Array.getElem?_eq_some_iff.1 hh).1 (by simpa using hne)]; exact hh, rest⟩⟩
end Go.Proofs.Ytkjccbihdinlkaa
