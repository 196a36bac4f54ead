import Derived.Test.YtoeabfcnfofbiaaDoorPe
import Derived.Test.YtoeabfcnfofbiaaDoorPc
import Derived.Test.YtoeabfcnfofbiaaDoorPd
import Derived.Deep.OwnRows
import Derived.Laws.CopyOwn
import Derived.Test.YtoeabfcnfofbiaaDoorPa
import Derived.Test.YtoeabfcnfofbiaaDoorProg
import Derived.WalkKit
import Derived.WalkSpells
import Derived.BigQuiet
import Derived.BigRegion
import Derived.Deep.QuietTactic
import Derived.Deep.MidRow
namespace Go.Proofs.YtoeabfcnfofbiaaDoor
open Go.RowKit
set_option linter.unusedVariables false

def errR (zs : List Int) : Int := if 32768 < spc zs then 51 else if spc zs = 32768 ∨ tot zs = 0 ∨ (tot zs = 1 ∧ cC zs 1 = 1) then 0 else 52
def errC (zs : List Int) : Int := if errS zs = 0 then errR zs else errS zs
theorem info16 : (Tryd.prog.info? 83).map (·.size) = some 16 := by kernel_rfl

set_option maxRecDepth 100000 in
set_option maxHeartbeats 1000000 in
theorem refusal5_any (zs : List Int) (hb : ∀ l, cC zs l ≤ 288) (w : World) :
    Calls Tryd.prog 112 #[.agg (arr (cnts zs))] w fun e w' => e = .returned (.int .i64 (errR zs)) ∧ Below w.heap.size w w' := by
  have h0 : (w.alloc (.cells (arr (cnts zs)) 83)).heap[w.heap.size]? = some (.cells (arr (cnts zs)) 83 (0, 0)) := heap_alloc_new w _
  have B0 : Below w.heap.size w (w.alloc (.cells (arr (cnts zs)) 83)) := (Below.refl _ _).alloc (Nat.le_refl _) _
  have hu99 := Tryd.underlying83
  have hi99 : (Tryd.prog.info? 83).map (·.size) = some ((cnts zs).map (Value.int .i64)).length := by rw [List.length_map, cnts_len]; exact info16
  go_enter Tryd.func112, Tryd.ntmps112
  go_wp2_with fail
  generalize w.alloc (.cells (arr (cnts zs)) 83) = wr at *
  obtain ⟨a, ea⟩ : ∃ a, a = w.heap.size := ⟨_, rfl⟩
  have HA : Hid (a = w.heap.size) := ea
  rw [← ea] at h0 ⊢
  clear ea
  have hlt : a < wr.heap.size := (Array.getElem?_eq_some_iff.1 h0).1
  have r0 := arr_range h0
  have c1 := arr_cell h0 (i := 1) (by rw [cnts_len]; decide)
  rw [cnts_get zs (by decide)] at c1
  have HK : Hid (∀ w', Below wr.heap.size wr w' → w'.rangeAt a 0 ((cnts zs).map (Value.int .i64))) := fun w' hb => range_old r0 hb hlt
  have HK1 : Hid (∀ w', Below wr.heap.size wr w' → w'.cell? ⟨a, 1, none⟩ = some (.int .i64 (cC zs 1 : Int))) := fun w' hb => (hb.cell (p := ⟨a, 1, none⟩) hlt).trans c1
  have HS : Hid (∀ W, Below wr.heap.size wr W → Calls Tryd.prog 118 #[.agg (arr (cnts zs))] W fun e w' => e = .returned (.int .i64 (spc zs : Int)) ∧ Below wr.heap.size wr w') := fun W hW => (pspace_any zs hb W).mono fun e w' h => ⟨h.1, hW.trans (h.2.mono hW.size)⟩
  have HT : Hid (∀ W, Below wr.heap.size wr W → Calls Tryd.prog 119 #[.agg (arr (cnts zs))] W fun e w' => e = .returned (.int .i64 (tot zs : Int)) ∧ Below wr.heap.size wr w') := fun W hW => (total_any zs hb W).mono fun e w' h => ⟨h.1, hW.trans (h.2.mono hW.size)⟩
  have Brr : Below wr.heap.size wr wr := Below.refl _ _
  have HB : Hid (∀ w', Below wr.heap.size wr w' → Below w.heap.size w w') := fun w' h => B0.trans (h.mono B0.size)
  obtain ⟨s, hs⟩ : ∃ s, s = spc zs := ⟨_, rfl⟩
  obtain ⟨t, ht⟩ : ∃ t, t = tot zs := ⟨_, rfl⟩
  have htb : t ≤ 4608 := by have h2 := cS_le zs hb 16; rw [ht]; unfold tot; omega
  have hsb : s ≤ 100000000 := by
    have h1 := spc_tot zs
    rw [← hs, ← ht] at h1
    omega
  have hcb := hb 1
  have HERR : Hid (errR zs = if 32768 < s then 51 else if s = 32768 ∨ t = 0 ∨ (t = 1 ∧ cC zs 1 = 1) then 0 else 52) := by
    show _ = _
    unfold errR
    rw [← hs, ← ht]
  rw [← hs] at HS
  rw [← ht] at HT
  clear hs ht c1 hb
  generalize cC zs 1 = q at *
  refine wp_region_held_drew (S := fun w' => w'.rangeAt a 0 ((cnts zs).map (Value.int .i64))) (by kernel_rfl) (HK.out _ (Below.drew Brr)) (fun hHeld => ?_)
  refine wpAnyH_take (i := 0) (v := .agg (arr (cnts zs))) rfl (by kernel_rfl) (by kernel_rfl) (by kernel_rfl) (fun _ _ _ h => h) (yieldsIf_load_mid (by rfl) _ _ rfl _ _ rfl _ _ (fun w h => h) hu99 rfl hi99) hHeld ?_
  simp only [Act.put, List.setIfInBounds_toArray]
  refine wpAnyH_take (i := 2) (v := .agg (arr (cnts zs))) rfl (by kernel_rfl) (by kernel_rfl) (by kernel_rfl) (fun _ _ _ h => h) (yieldsIf_load_mid (by rfl) _ _ rfl _ _ rfl _ _ (fun w h => h) hu99 rfl hi99) hHeld ?_
  simp only [Act.put]
  refine wpAnyH_ready (rs := [1]) (by kernel_rfl) (by simp) ?_
  refine AllReadyH.cons rfl (fun K hK => ?_) AllReadyH.nil
  go_simp
  refine (HS.out _ (Below.drew Brr)).mono ?_
  rintro e w3 ⟨rfl, b3⟩
  refine hK.out _ _ (HK.out _ b3) (fun hHeld2 => ?_)
  clear hK K
  refine wpAnyH_ready (rs := [3]) (by kernel_rfl) (by simp) ?_
  refine AllReadyH.cons rfl (fun K hK => ?_) AllReadyH.nil
  go_simp
  refine (HT.out _ b3).mono ?_
  rintro e w4 ⟨rfl, b4⟩
  refine hK.out _ _ (HK.out _ b4) (fun hHeld3 => ?_)
  clear hK K
  refine wpAnyH_ready (rs := [4]) (by kernel_rfl) (by simp) ?_
  refine AllReadyH.cons rfl (fun K hK => ?_) AllReadyH.nil
  go_simp
  refine hK.out _ _ (HK.out _ b4) (fun _ => ?_)
  clear hK K
  refine wpAnyH_ready (rs := [5]) (by kernel_rfl) (by simp) ?_
  refine AllReadyH.cons rfl (fun K hK => ?_) AllReadyH.nil
  go_simp
  refine hK.out _ _ (HK.out _ b4) (fun _ => ?_)
  clear hK K
  refine wpAnyH_done (by kernel_rfl) ?_ _
  all_goals
    have cq := HK1.out _ b4
    have HBB : Hid _ := HB.out _ b4
    by_cases h1 : 32768 < s
    · have h1i : (32768 : Int) < (s : Int) := by omega
      have he : Hid (errR zs = 51) := by show _ = _; rw [HERR.out, if_pos h1]
      go_wp2
      go_ret
      exact ⟨by rw [he.out]; rfl, HBB.out⟩
    · have h1i : ¬ (32768 : Int) < (s : Int) := by omega
      by_cases h2 : s = 32768
      · subst h2
        have he : Hid (errR zs = 0) := by show _ = _; rw [HERR.out, if_neg h1, if_pos (Or.inl rfl)]
        go_wp2
        go_ret
        exact ⟨by rw [he.out]; rfl, HBB.out⟩
      · have h2i : ¬ (s : Int) = 32768 := by omega
        by_cases h3 : t = 0
        · subst h3
          have he : Hid (errR zs = 0) := by show _ = _; rw [HERR.out, if_neg h1, if_pos (Or.inr (Or.inl rfl))]
          go_wp2
          go_ret
          exact ⟨by rw [he.out]; rfl, HBB.out⟩
        · have h3i : ¬ (t : Int) = 0 := by omega
          by_cases h4 : t = 1
          · subst h4
            by_cases h5 : q = 1
            · subst h5
              have he : Hid (errR zs = 0) := by show _ = _; rw [HERR.out, if_neg h1, if_pos (Or.inr (Or.inr ⟨rfl, rfl⟩))]
              go_wp2
              go_ret
              exact ⟨by rw [he.out]; rfl, HBB.out⟩
            · have h5i : ¬ (q : Int) = 1 := by omega
              have he : Hid (errR zs = 52) := by show _ = _; rw [HERR.out, if_neg h1, if_neg (by omega)]
              go_wp2
              go_ret
              exact ⟨by rw [he.out]; rfl, HBB.out⟩
          · have h4i : ¬ (t : Int) = 1 := by omega
            have he : Hid (errR zs = 52) := by show _ = _; rw [HERR.out, if_neg h1, if_neg (by omega)]
            go_wp2
            go_ret
            exact ⟨by rw [he.out]; rfl, HBB.out⟩
theorem errC_zero {zs : List Int} (h : errC zs = 0) : errS zs = 0 ∧ errR zs = 0 := by
  unfold errC at h
  split at h
  · rename_i h1; exact ⟨h1, h⟩
  · rename_i h1; exact absurd h h1
theorem cC_288 {zs : List Int} (h : errS zs = 0) : ∀ l, cC zs l ≤ 288 := fun l => Nat.le_trans (cC_le zs l) (errS_zero h).1
end Go.Proofs.YtoeabfcnfofbiaaDoor

namespace Go.Proofs.YtoeabfcnfofbiaaDoor
open Go.RowKit
set_option linter.unusedVariables false

theorem errS_two (zs : List Int) : errS zs = 0 ∨ errS zs = 50 := by
  unfold errS
  split
  · exact .inr rfl
  · split
    · exact .inl rfl
    · exact .inr rfl
theorem new_arr {w : World} {A : List Int} {t : TypeId} : (w.alloc (.cells (arr A) t)).heap[w.heap.size]? = some (.cells (arr A) t (0, 0)) := heap_alloc_new w _

set_option maxRecDepth 100000 in
set_option maxHeartbeats 1000000 in
theorem checked_any (a : Option Addr) (zs : List Int) (n cap : Nat) (hn : Hid (zs.length = n)) (w : World) (hs : SegZ w a zs) (hl : n ≤ 9223372036854775807) :
    Calls Tryd.prog 93 #[.slice a n cap] w fun e w' => ∃ X : List Int, X.length = 16 ∧ (errC zs = 0 → X = cnts zs) ∧ e = .returned (.tuple #[.agg (arr X), .int .i64 (errC zs)]) ∧ Below w.heap.size w w' := by
  have HC : Hid (∀ W, Below w.heap.size w W → Calls Tryd.prog 111 #[.slice a n cap] W fun e w' => ∃ X : List Int, X.length = 16 ∧ (errS zs = 0 → X = cnts zs) ∧ e = .returned (.tuple #[.agg (arr X), .int .i64 (errS zs)]) ∧ Below W.heap.size W w') := fun W hW => counted_any a zs n cap hn W (hs.old hW) hl
  go_enter Tryd.func93, Tryd.ntmps93
  have hr0 : (w.alloc (.cells zero16 83)).heap[w.heap.size]? = some (.cells zero16 83 (0, 0)) := heap_alloc_new w _
  have B0 : Below w.heap.size w (w.alloc (.cells zero16 83)) := (Below.refl _ _).alloc (Nat.le_refl _) _
  have hz0 : w.heap.size < (w.alloc (.cells zero16 83)).heap.size := by simp
  go_wp2_with fail
  change Calls _ _ _ (w.alloc (.cells zero16 83)) _
  generalize w.alloc (.cells zero16 83) = W0 at *
  obtain ⟨r, er⟩ : ∃ r, r = w.heap.size := ⟨_, rfl⟩
  have HR : Hid (r = w.heap.size) := er
  rw [← er] at hr0 hz0
  rw [← er]
  clear er
  refine (HC.out _ B0).mono ?_
  rintro e W1 ⟨X, hX16, hXc, rfl, B1⟩
  have HX : Hid (X.length = 16 ∧ (errS zs = 0 → X = cnts zs)) := ⟨hX16, hXc⟩
  clear hX16 hXc
  have hr1 := (B1.block r hz0).trans hr0
  have hz1 : r < W1.heap.size := Nat.lt_of_lt_of_le hz0 B1.size
  have B01 : Below w.heap.size w W1 := B0.trans (B1.mono B0.size)
  have hr2 : (W1.alloc (.cells (arr X) 83)).heap[r]? = some (.cells zero16 83 (0, 0)) := (((Below.refl _ W1).alloc (Nat.le_refl _) _).block r hz1).trans hr1
  have B2 : Below w.heap.size w (W1.alloc (.cells (arr X) 83)) := B01.alloc B01.size _
  have hz2 : r < (W1.alloc (.cells (arr X) 83)).heap.size := by simp; omega
  have ho2 := new_arr (w := W1) (A := X) (t := 83)
  obtain ⟨o, eo⟩ : ∃ o, o = W1.heap.size := ⟨_, rfl⟩
  have HO : Hid (o = W1.heap.size) := eo
  rw [← eo] at ho2
  have hro : r ≠ o := by omega
  have hoz : o < (W1.alloc (.cells (arr X) 83)).heap.size := by simp; omega
  clear eo
  rcases errS_two zs with he | he
  · have HE : Hid (errS zs = 0) := he
    rw [he]
    clear he
    have HXc : Hid (X = cnts zs) := HX.out.2 HE.out
    have HCR : Hid (∀ W, Calls Tryd.prog 112 #[.agg (arr X)] W fun e w' => e = .returned (.int .i64 (errR zs)) ∧ Below W.heap.size W w') := fun W => by
      rw [HXc.out]
      exact refusal5_any zs (cC_288 HE.out) W
    go_wp2_with (first
      | (refine wpList_store_row rfl 83 _ _ rfl W1.heap.size (arr X) rfl rfl _ zero16 (heap_alloc_new W1 _) (arr_info HX.out.1) (by rw [arr_size, HX.out.1]; rfl) (arr_one _) ?_; rw [World.setRow_alloc_new, ← HO.out]; generalize W1.alloc (.cells (arr X) 83) = W2 at *)
      | (refine wpList_load_row rfl 83 _ rfl o rfl _ _ _ _ ho2 Tryd.underlying83 rfl (arr_info HX.out.1) ?_))
    refine (HCR.out _).mono ?_
    rintro e W3 ⟨rfl, B3⟩
    have hr3 := (B3.block r hz2).trans hr2
    have ho3 := (B3.block o hoz).trans ho2
    have Bw : Below w.heap.size w W3 := B2.trans (B3.mono B2.size)
    go_wp2_with (first
      | (refine wpList_load_row rfl 83 _ rfl o rfl _ _ _ _ ho3 Tryd.underlying83 rfl (arr_info HX.out.1) ?_)
      | (refine wpList_store_row rfl 83 _ _ rfl r (arr X) rfl rfl _ _ hr3 (arr_info HX.out.1) (by rw [arr_size, HX.out.1]; rfl) (arr_one _) ?_))
    have hR := setRow_heap W3 r _ (arr X) _ _ hr3
    refine bodyPost_ret (v := .tuple #[.agg (arr X), .int .i64 (errR zs)]) (results_ct (fn := Tryd.f93) (p := 2) (u := 3) (ty := 83) rfl _ _ r _ _ _ _ rfl hR Tryd.underlying83 rfl (arr_info HX.out.1)) rfl ⟨X, HX.out.1, fun _ => HXc.out, ?_, Bw.grown (grown_setRow _ r _) Bw.size (fun k hk => by cases hk; exact Nat.le_of_eq HR.out.symm)⟩
    unfold errC
    rw [if_pos HE.out]
  · have HE : Hid (errS zs = 50) := he
    rw [he]
    clear he
    go_wp2_with (first
      | (refine wpList_store_row rfl 83 _ _ rfl W1.heap.size (arr X) rfl rfl _ zero16 (heap_alloc_new W1 _) (arr_info HX.out.1) (by rw [arr_size, HX.out.1]; rfl) (arr_one _) ?_; rw [World.setRow_alloc_new, ← HO.out]; generalize W1.alloc (.cells (arr X) 83) = W2 at *)
      | (refine wpList_load_row rfl 83 _ rfl o rfl _ _ _ _ ho2 Tryd.underlying83 rfl (arr_info HX.out.1) ?_)
      | (refine wpList_store_row rfl 83 _ _ rfl r (arr X) rfl rfl _ _ hr2 (arr_info HX.out.1) (by rw [arr_size, HX.out.1]; rfl) (arr_one _) ?_))
    have hR := setRow_heap _ r _ (arr X) _ _ hr2
    refine bodyPost_ret (v := .tuple #[.agg (arr X), .int .i64 50]) (results_ct (fn := Tryd.f93) (p := 2) (u := 3) (ty := 83) rfl _ _ r _ _ _ _ rfl hR Tryd.underlying83 rfl (arr_info HX.out.1)) rfl ⟨X, HX.out.1, ?_, ?_, B2.grown (grown_setRow _ r _) B2.size (fun k hk => by cases hk; exact Nat.le_of_eq HR.out.symm)⟩
    · intro h
      have := (errC_zero h).1
      rw [HE.out] at this
      cases this
    · unfold errC
      rw [HE.out, if_neg (by decide)]
end Go.Proofs.YtoeabfcnfofbiaaDoor

namespace Go.Proofs.YtoeabfcnfofbiaaDoor
open Go.RowKit
set_option linter.unusedVariables false

theorem errC_cases (zs : List Int) : errC zs = 0 ∨ errC zs = 50 ∨ errC zs = 51 ∨ errC zs = 52 := by
  unfold errC
  split
  · unfold errR
    split
    · exact .inr (.inr (.inl rfl))
    · split
      · exact .inl rfl
      · exact .inr (.inr (.inr rfl))
  · rename_i h
    rcases errS_two zs with h1 | h1
    · exact absurd h1 h
    · exact .inr (.inl h1)

set_option maxRecDepth 100000 in
set_option maxHeartbeats 400000 in
theorem check_any (a : Option Addr) (zs : List Int) (n cap : Nat) (hn : Hid (zs.length = n)) (w : World) (hs : SegZ w a zs) (hl : n ≤ 9223372036854775807) :
    Calls Tryd.prog 87 #[.slice a n cap] w fun e w' => e = .returned (.int .i64 (errC zs)) ∧ Below w.heap.size w w' := by
  have HC := checked_any a zs n cap hn w hs hl
  go_enter Tryd.func87, Tryd.ntmps87
  go_wp2_with fail
  refine HC.mono ?_
  rintro e W1 ⟨X, hX16, hXc, rfl, B1⟩
  have HX : Hid (X.length = 16) := hX16
  clear hX16 hXc
  have B2 : Below w.heap.size w (W1.alloc (.cells (arr X) 83)) := B1.alloc B1.size _
  go_wp2_with (first
      | (refine wpList_store_row rfl 83 _ _ rfl W1.heap.size (arr X) rfl rfl _ zero16 (heap_alloc_new W1 _) (arr_info HX.out) (by rw [arr_size, HX.out]; rfl) (arr_one _) ?_; rw [World.setRow_alloc_new]))
  go_ret
  exact ⟨rfl, B2⟩
def spcR (zs : List Int) : Nat := if errS zs = 0 then spc zs else 0

end Go.Proofs.YtoeabfcnfofbiaaDoor

namespace Go.Proofs.YtoeabfcnfofbiaaDoor
open Go.RowKit
set_option linter.unusedVariables false

/-! The landed head: tellable. -/
set_option maxRecDepth 100000 in
set_option maxHeartbeats 4000000 in
theorem ptell8 (xs ys : List Int) (a b : Option Addr) (n m ca cb : Nat) (hn : Hid (xs.length = n)) (hm : Hid (ys.length = m)) (w : World) (hx : SegZ w a xs) (hy : SegZ w b ys) :
    Calls Tryd.prog 63 #[.slice a n ca, .slice b m cb] w fun e w' => e = .returned (.bool (decide (tld8 errC xs ys))) ∧ Below w.heap.size w w' := by
  have HX : Hid (SegZ w a xs) := hx
  have HY : Hid (SegZ w b ys) := hy
  have HT : Hid (tld8 errC xs ys ↔ 257 ≤ n ∧ n ≤ 286 ∧ m ≤ 30 ∧ errC xs = 0 ∧ errC ys = 0 ∧ xs.getD 256 0 ≠ 0) := by
    unfold tld8
    rw [hn.out, hm.out]
    exact Iff.rfl
  have HF : Hid (¬ (257 ≤ n ∧ n ≤ 286 ∧ m ≤ 30 ∧ errC xs = 0 ∧ errC ys = 0 ∧ xs.getD 256 0 ≠ 0) → decide (tld8 errC xs ys) = false) := fun h => by
    simp only [decide_eq_false_iff_not]
    exact fun h' => h (HT.out.1 h')
  clear hx hy
  by_cases h1 : n < 257
  · have h1i : (n : Int) < 257 := by omega
    have HE : Hid (decide (tld8 errC xs ys) = false) := HF.out (by omega)
    clear HT HF
    go_enter Tryd.func63, Tryd.ntmps63
    go_wp2_with fail
    go_ret
    exact ⟨by rw [HE.out]; rfl, Below.refl _ _⟩
  have h1i : ¬ (n : Int) < 257 := by omega
  by_cases h2 : 286 < n
  · have h2i : 286 < (n : Int) := by omega
    have HE : Hid (decide (tld8 errC xs ys) = false) := HF.out (by omega)
    clear HT HF
    go_enter Tryd.func63, Tryd.ntmps63
    go_wp2_with fail
    go_ret
    exact ⟨by rw [HE.out]; rfl, Below.refl _ _⟩
  have h2i : ¬ 286 < (n : Int) := by omega
  by_cases h3 : 30 < m
  · have h3i : 30 < (m : Int) := by omega
    have HE : Hid (decide (tld8 errC xs ys) = false) := HF.out (by omega)
    clear HT HF
    go_enter Tryd.func63, Tryd.ntmps63
    go_wp2_with fail
    go_ret
    exact ⟨by rw [HE.out]; rfl, Below.refl _ _⟩
  have h3i : ¬ 30 < (m : Int) := by omega
  have C1 := check_any a xs n ca hn w HX.out (by omega)
  by_cases h4 : errC xs = 0
  · have C2 : Hid (∀ W, Below w.heap.size w W → Calls Tryd.prog 87 #[.slice b m cb] W fun e w' => e = .returned (.int .i64 (errC ys)) ∧ Below W.heap.size W w') := fun W hW => check_any b ys m cb hm W ((show SegZ w b ys from HY.out).old hW) (by omega)
    rw [h4] at C1
    by_cases h5 : errC ys = 0
    · have hg : 256 < xs.length := by rw [hn.out]; omega
      obtain ⟨g, off, rfl, c0⟩ := (show SegZ w a xs from HX.out).at_ 256 hg
      have HG : Hid (∀ W, Below w.heap.size w W → W.cell? ⟨g, off + 256, none⟩ = some (.int .i64 (xs.getD 256 0))) := fun W hW => (hW.cell (p := ⟨g, off + 256, none⟩) (World.block_lt_of_cell? w _ c0)).trans c0
      have HE : Hid (decide (tld8 errC xs ys) = decide (xs.getD 256 0 ≠ 0)) := by
        show _ = _
        rw [decide_eq_decide, HT.out]
        constructor
        · exact fun h => h.2.2.2.2.2
        · exact fun h => ⟨by omega, by omega, by omega, h4, h5, h⟩
      rw [h5] at C2
      generalize xs.getD 256 0 = z at *
      have h256 : (256 : Int) < (n : Int) := by omega
      clear HT HF
      go_enter Tryd.func63, Tryd.ntmps63
      go_wp2_with fail
      refine C1.mono ?_
      rintro e w1 ⟨rfl, B1⟩
      go_wp2_with fail
      refine (C2.out w1 B1).mono ?_
      rintro e w2 ⟨rfl, B2⟩
      have B3 := B1.trans (B2.mono B1.size)
      have c2 := HG.out w2 B3
      by_cases hz : z = 0
      · subst hz
        go_wp2_with fail
        go_ret
        exact ⟨by rw [HE.out]; rfl, B3⟩
      · have hzb : (z == 0) = false := by simpa using hz
        go_wp2_with fail
        go_ret
        refine ⟨?_, B3⟩
        rw [HE.out, decide_eq_true hz]
        have hzn : (z != 0) = true := by simpa using hz
        show Ending.returned (Value.bool (z != 0)) = _
        rw [hzn]
    · have HE : Hid (decide (tld8 errC xs ys) = false) := HF.out (fun h => h5 h.2.2.2.2.1)
      have h5b : (errC ys == 0) = false := by simpa using h5
      clear HT HF
      generalize errC ys = z at *
      go_enter Tryd.func63, Tryd.ntmps63
      go_wp2_with fail
      refine C1.mono ?_
      rintro e w1 ⟨rfl, B1⟩
      go_wp2_with fail
      refine (C2.out w1 B1).mono ?_
      rintro e w2 ⟨rfl, B2⟩
      have B3 := B1.trans (B2.mono B1.size)
      go_wp2_with fail
      go_ret
      exact ⟨by rw [HE.out]; rfl, B3⟩
  · have HE : Hid (decide (tld8 errC xs ys) = false) := HF.out (fun h => h4 h.2.2.2.1)
    have h4b : (errC xs == 0) = false := by simpa using h4
    clear HT HF
    generalize errC xs = z at *
    go_enter Tryd.func63, Tryd.ntmps63
    go_wp2_with fail
    refine C1.mono ?_
    rintro e w1 ⟨rfl, B1⟩
    go_wp2_with fail
    go_ret
    exact ⟨by rw [HE.out]; rfl, B1⟩
end Go.Proofs.YtoeabfcnfofbiaaDoor

namespace Go.Proofs.YtoeabfcnfofbiaaDoor
open Go.RowKit
set_option linter.unusedVariables false

theorem made_zerosI (n : Nat) : madeCells #[.int .i64 0] n = Array.replicate n (.int .i64 0) := by
  apply Array.toList_inj.1
  rw [toList_madeCells_one]
  simp
theorem run_make_ints (n : Nat) (h : n ≤ 100000) (w : World) :
    (Instr.makeSlice 22 (.int .i64 (n : Int)) (.int .i64 (n : Int))).run Tryd.prog w = .ok (.slice (some ⟨w.heap.size, 0, none⟩) n n) (w.alloc (.cells (Array.replicate n (.int .i64 0)) 3)) := by
  rw [← made_zerosI]
  exact run_make_row' 22 3 (.int .i64 0) 8 Tryd.underlying22 info_int rfl .i64 .i64 n (by omega) (by omega) w
theorem own_zeros (w : World) (n : Nat) (hn : n ≤ 100000) : (w.alloc (.cells (Array.replicate n (.int .i64 0)) 3)).ownsRow w.heap.size 3 1 (.slice (some ⟨w.heap.size, 0, none⟩) n n) n ((List.replicate n (0 : Int)).map (Value.int .i64)) :=
  ⟨by simp, .inr ⟨w.heap.size, n, _, rfl, Nat.le_refl _, heap_alloc_new w _, Nat.le_refl _, by unfold maxLen; omega, by simp, by simp⟩⟩
theorem own_cell1 {w : World} {base n g cap : Nat} {e : TypeId} {A : List Int} (h : w.ownsRow base e 1 (.slice (some ⟨g, 0, none⟩) n cap) n (A.map (Value.int .i64))) {i : Nat} (hi : i < A.length) : w.cell? ⟨g, i, none⟩ = some (.int .i64 (A.getD i 0)) ∧ ∀ k, w.frozen? ⟨g, k, none⟩ = false := by
  have := h.cells (g := g) rfl i (.int .i64 (A.getD i 0)) (by simp [List.getD, hi])
  have hadd : (⟨g, 0, none⟩ : Addr).add i = ⟨g, i, none⟩ := by unfold Addr.add; split <;> simp_all
  rw [hadd] at this
  refine ⟨this, fun k => ?_⟩
  rcases h.2 with ⟨h1, _⟩ | ⟨g', cap', cur, hv, _, hh, _⟩
  · cases h1
  · simp only [Value.slice.injEq, Option.some.injEq, Addr.mk.injEq] at hv
    obtain ⟨⟨rfl, _⟩, _⟩ := hv
    simp [World.frozen?, hh]
theorem own_grown {w w' : World} {base n g g2 cap : Nat} {e : TypeId} {xs : List Value} (h : w.ownsRow base e 1 (.slice (some ⟨g, 0, none⟩) n cap) n xs) (hg : w.grownBy w' (some g2)) (hne : g ≠ g2) : w'.ownsRow base e 1 (.slice (some ⟨g, 0, none⟩) n cap) n xs := by
  rcases h with ⟨hl, h | ⟨g', cap', cur, hv, hb, hh, rest⟩⟩
  · exact ⟨hl, .inl h⟩
  · simp only [Value.slice.injEq, Option.some.injEq, Addr.mk.injEq, and_true, true_and] at hv
    obtain ⟨rfl, rfl⟩ := hv
    exact ⟨hl, .inr ⟨g, cap, cur, rfl, hb, by rw [hg.block g (Array.getElem?_eq_some_iff.1 hh).1 (by simpa using hne)]; exact hh, rest⟩⟩
end Go.Proofs.YtoeabfcnfofbiaaDoor

namespace Go.Proofs.YtoeabfcnfofbiaaDoor
open Go.RowKit
set_option linter.unusedVariables false
set_option linter.unusedSimpArgs false

/-! The landed head: trimmed, tally, toldOf. -/
theorem info_sz8 : (Tryd.prog.info? 3).map (·.size) = some 1 := by kernel_rfl
theorem ints_one8 (l : List Int) : ∀ v ∈ l.map (Value.int .i64), v.oneCell' = true := by
  intro v hv
  obtain ⟨z, _, rfl⟩ := List.mem_map.1 hv
  rfl
theorem cut8_zero (zs : List Int) : ∀ m, cut8 zs m ≤ m ∧ ∀ j, cut8 zs m ≤ j → j < m → zs.getD j 0 = 0
  | 0 => ⟨Nat.le_refl _, fun j _ h => by omega⟩
  | m + 1 => by
    obtain ⟨h1, h2⟩ := cut8_zero zs m
    rw [cut8]
    split
    · rename_i h
      refine ⟨by omega, fun j hj hjm => ?_⟩
      by_cases e : j = m
      · subst e; exact h
      · exact h2 j hj (by omega)
    · exact ⟨Nat.le_refl _, fun j hj hjm => by omega⟩
theorem take_zeros {zs : List Int} {c m : Nat} (hc : c ≤ m) (hm : m ≤ zs.length) (h : ∀ j, c ≤ j → j < m → zs.getD j 0 = 0) : zs.take m = zs.take c ++ List.replicate (m - c) 0 := by
  apply List.ext_getElem
  · simp; omega
  · intro i h1 h2
    simp only [List.length_take] at h1
    by_cases hi : i < c
    · rw [List.getElem_append_left (by simp; omega)]
      simp
    · rw [List.getElem_append_right (by simp; omega), List.getElem_replicate, List.getElem_take]
      have := h i (by omega) (by omega)
      simpa [List.getD, show i < zs.length by omega] using this
/-- What trimmed answers. -/
theorem trim8_eq {zs : List Int} {k m : Nat} (hm : m ≤ zs.length) (hc : cut8 zs zs.length = cut8 zs m) (hk : m ≤ k ∨ cut8 zs m = m) : zs.take m ++ List.replicate (k - m) 0 = sht8 zs k := by
  obtain ⟨h1, h2⟩ := cut8_zero zs m
  unfold sht8
  rw [hc]
  rcases hk with hk | hk
  · rw [take_zeros h1 hm h2, List.append_assoc, List.replicate_append_replicate, show m - cut8 zs m + (k - m) = k - cut8 zs m by omega]
  · rw [hk]
set_option maxRecDepth 100000 in
set_option maxHeartbeats 4000000 in
theorem ptrim8 (zs : List Int) (k : Nat) (a : Option Addr) (n cap : Nat) (hn : Hid (zs.length = n)) (w : World) (hs : SegZ w a zs) (hcap : n ≤ cap) (hl : n ≤ 1000) (hk : k ≤ 1000) :
    Calls Tryd.prog 64 #[.slice a n cap, .int .i64 (k : Int)] w (ShQ w 3 (sht8 zs k)) := by
  have HS : Hid (SegZ w a zs) := hs
  clear hs
  go_enter Tryd.func64, Tryd.ntmps64
  go_wp2_with fail
  go_loopw [5] (fun tm wr => ∃ m : Nat, m ≤ n ∧ tm = .int .i64 (m : Int) ∧ Hid (cut8 zs zs.length = cut8 zs m) ∧ wr = w) (fun tm _ => (intOf tm).toNat)
  case atStart => exact ⟨n, Nat.le_refl _, rfl, by show _ = _; rw [hn.out], rfl⟩
  case round =>
    obtain ⟨m, hm, rfl, HC, hwr⟩ := hrel
    have hwr2 : w = wr := hwr.symm
    subst hwr2
    clear hwr
    have HEND : Hid (¬ k < m ∨ (zs.getD (m - 1) 0 ≠ 0 ∧ 0 < m) → ∀ (o : Nat) (w3 : World), w.heap.size ≤ o → w3.heap[o]? = some (.cells (splice (List.replicate (max m k) (Value.int .i64 0)) 0 ((zs.take m).map (Value.int .i64))).toArray 3 (0, 0)) → Below w.heap.size w w3 → ShQ w 3 (sht8 zs k) (.returned (.slice (some ⟨o, 0, none⟩) (max m k) (max m k))) w3) := fun hst o w3 ho hh hb => by
      have he := trim8_eq (k := k) (zs := zs) (m := m) (by rw [hn.out]; exact hm) HC.out (by
        rcases hst with h | ⟨h, h0⟩
        · exact .inl (by omega)
        · right
          obtain ⟨q, rfl⟩ : ∃ q, m = q + 1 := ⟨m - 1, by omega⟩
          rw [cut8, if_neg (by simpa using h)])
      have hlt : (zs.take m).length = m := by rw [List.length_take, hn.out]; omega
      have hsp : splice (List.replicate (max m k) (Value.int .i64 0)) 0 ((zs.take m).map (Value.int .i64)) = (sht8 zs k).map (Value.int .i64) := by
        rw [← he]
        unfold splice
        rw [List.take_zero, List.nil_append, Nat.zero_add, List.length_map, hlt, List.drop_replicate, List.map_append, List.map_replicate, show max m k - m = k - m by omega]
      have hll : (sht8 zs k).length = max m k := by
        rw [← he, List.length_append, hlt, List.length_replicate]
        omega
      rw [hsp] at hh
      refine ⟨some ⟨o, 0, none⟩, max m k, by rw [hll], ?_, hb⟩
      rw [hll]
      exact ⟨by simp [hll], .inr ⟨o, max m k, _, rfl, ho, hh, Nat.le_refl _, by unfold maxLen; omega, by simp [hll], by simp; exact List.take_of_length_le (by simp [hll])⟩⟩
    have HMK : Hid ((k < m → max m k = m) ∧ (¬ k < m → max m k = k)) := ⟨fun _ => by omega, fun _ => by omega⟩
    have HMM : Hid (max m k ≤ 1000 ∧ m ≤ max m k) := ⟨by omega, by omega⟩
    have HSEG : Hid (0 < m → ∃ ad, a = some ad ∧ ∀ j v, ((zs.take m).map (Value.int .i64))[j]? = some v → w.cell? (ad.add j) = some v) := fun h0 => by
      obtain ⟨b, off, rfl, _⟩ := (show SegZ w a zs from HS.out).at_ 0 (by rw [hn.out]; omega)
      exact ⟨_, rfl, segZ_cells ((show SegZ w (some ⟨b, off, none⟩) zs from HS.out).take m)⟩
    have HLT : Hid ((zs.take m).length = m) := by show _ = _; rw [List.length_take, hn.out]; omega
    have hst : (k < m ∧ zs.getD (m - 1) 0 = 0) ∨ (k < m ∧ zs.getD (m - 1) 0 ≠ 0) ∨ ¬ k < m := by
      by_cases h1 : k < m
      · by_cases h2 : zs.getD (m - 1) 0 = 0
        · exact .inl ⟨h1, h2⟩
        · exact .inr (.inl ⟨h1, h2⟩)
      · exact .inr (.inr h1)
    rcases hst with ⟨h1, h2⟩ | hst
    · obtain ⟨q, rfl⟩ : ∃ q, m = q + 1 := ⟨m - 1, by omega⟩
      simp only [Nat.add_sub_cancel] at h2
      obtain ⟨b, off, rfl, c0⟩ := (show SegZ w a zs from HS.out).at_ q (by rw [hn.out]; omega)
      rw [h2] at c0
      have h1i : (k : Int) < ((q + 1 : Nat) : Int) := by omega
      have HC2 : Hid (cut8 zs zs.length = cut8 zs q) := by show _ = _; rw [HC.out, cut8, if_pos h2]
      clear HC HEND HMK HMM HSEG HLT
      go_wp2_with fail
      go_roundw
      case rel => exact ⟨q, by omega, by go_num, HC2, trivial⟩
      case measure => simp [intOf]
    · have HE2 := HEND.out (by rcases hst with ⟨h1, h2⟩ | h1; exact .inr ⟨h2, by omega⟩; exact .inl h1)
      have HE : Hid (∀ (o : Nat) (w3 : World), w.heap.size ≤ o → w3.heap[o]? = some (.cells (splice (List.replicate (max m k) (Value.int .i64 0)) 0 ((zs.take m).map (Value.int .i64))).toArray 3 (0, 0)) → Below w.heap.size w w3 → ShQ w 3 (sht8 zs k) (.returned (.slice (some ⟨o, 0, none⟩) (max m k) (max m k))) w3) := HE2
      have hcell : k < m → ∃ q b off z, m = q + 1 ∧ a = some ⟨b, off, none⟩ ∧ w.cell? ⟨b, off + q, none⟩ = some (.int .i64 z) ∧ (z == 0) = false := fun h1 => by
        obtain ⟨q, rfl⟩ : ∃ q, m = q + 1 := ⟨m - 1, by omega⟩
        obtain ⟨b, off, ha, c0⟩ := (show SegZ w a zs from HS.out).at_ q (by rw [hn.out]; omega)
        refine ⟨q, b, off, _, rfl, ha, c0, ?_⟩
        rcases hst with ⟨_, h2⟩ | h2
        · rw [beq_eq_false_iff_ne]; simpa using h2
        · omega
      clear HEND HE2 HC
      generalize max m k = M at *
      have H2L : Hid ((w.alloc (.cells (Array.replicate M (.int .i64 0)) 3)).heap[w.heap.size]? = some (.cells (List.replicate M (Value.int .i64 0)).toArray 3 (0, 0))) := by
        show _ = _
        rw [heap_alloc_new]
        simp
      have HB0 : Hid (Below w.heap.size w (w.alloc (.cells (Array.replicate M (.int .i64 0)) 3))) := below_box8 w _
      have HSG2 : Hid (0 < m → ∃ ad, a = some ad ∧ ∀ j v, ((zs.take m).map (Value.int .i64))[j]? = some v → (w.alloc (.cells (Array.replicate M (.int .i64 0)) 3)).cell? (ad.add j) = some v) := fun h0 => by
        obtain ⟨ad, ha, hc⟩ := HSEG.out h0
        refine ⟨ad, ha, fun j v hv => ?_⟩
        have hc1 := hc j v hv
        have hl1 := World.block_lt_of_cell? w _ hc1
        exact ((below_box8 w _).cell (p := ad.add j) hl1).trans hc1
      clear HSEG
      have hmc : (m : Int) ≤ (cap : Int) := by omega
      have hmn : (m : Int) ≤ (n : Int) := by omega
      have hm0 : (0 : Int) ≤ (m : Int) := by omega
      by_cases h1 : k < m
      · obtain ⟨q, b, off, z, rfl, rfl, c0, hzb⟩ := hcell h1
        have h1i : (k : Int) < ((q + 1 : Nat) : Int) := by omega
        obtain rfl : M = q + 1 := HMK.out.1 h1
        have hmk : ∀ W, (Instr.makeSlice 22 (.int .i64 ((q : Int) + 1)) (.int .i64 ((q : Int) + 1))).run Tryd.prog W = .ok (.slice (some ⟨W.heap.size, 0, none⟩) (q + 1) (q + 1)) (W.alloc (.cells (Array.replicate (q + 1) (.int .i64 0)) 3)) := fun W => by
          rw [show (q : Int) + 1 = ((q + 1 : Nat) : Int) by omega]
          exact run_make_ints (q + 1) (by omega) W
        clear hcell HMK
        go_wp2_with (refine wpList_copy_splice rfl (.tmp 26) (.tmp 29) 22 22 rfl 3 Tryd.underlying22 info_sz8 (some ⟨w.heap.size, 0, none⟩) _ (q + 1) (q + 1) (q + 1) _ rfl rfl w.heap.size 0 (List.replicate (q + 1) (Value.int .i64 0)) 3 H2L.out ((zs.take (q + 1)).map (Value.int .i64)) (by have h8 := HLT.out; have h9 := HMM.out; rw [List.length_map, h8]; show _ = min _ _; omega) (fun h => ⟨rfl, HSG2.out (by omega)⟩) (by have := HLT.out; have := HMM.out; simp only [List.length_map, List.length_replicate]; omega) (ints_one8 _) w.heap.size w HB0.out (Nat.le_refl _) ?_; intro w3 HW3 bw3)
        go_ret
        exact HE.out _ _ (Nat.le_refl _) HW3.out bw3
      · have h1i : ¬ (k : Int) < (m : Int) := by omega
        obtain rfl : M = k := HMK.out.2 h1
        have hmk := run_make_ints M (by omega)
        clear hcell HMK
        have hmM : m = M ∨ (m : Int) < (M : Int) := by omega
        rcases hmM with rfl | hmM
        all_goals
          go_wp2_with (refine wpList_copy_splice rfl (.tmp 26) (.tmp 29) 22 22 rfl 3 Tryd.underlying22 info_sz8 (some ⟨w.heap.size, 0, none⟩) _ _ _ m _ rfl rfl w.heap.size 0 (List.replicate _ (Value.int .i64 0)) 3 H2L.out ((zs.take m).map (Value.int .i64)) (by have h8 := HLT.out; have h9 := HMM.out; rw [List.length_map, h8]; show _ = min _ _; omega) (fun h => ⟨rfl, HSG2.out (by have := HLT.out; simp only [List.length_map] at h; omega)⟩) (by have := HLT.out; have := HMM.out; simp only [List.length_map, List.length_replicate]; omega) (ints_one8 _) w.heap.size w HB0.out (Nat.le_refl _) ?_; intro w3 HW3 bw3)
          go_ret
          exact HE.out _ _ (Nat.le_refl _) HW3.out bw3
/-- How often each symbol stands among runs. -/
def tly8 (R : List Rn8) : List Int := (List.range 19).map fun (s : Nat) => ((R.filter fun r => r.sy == (s : Int)).length : Int)
theorem tly8_len (R : List Rn8) : (tly8 R).length = 19 := by simp [tly8]
theorem tly8_get (R : List Rn8) {s : Nat} (h : s < 19) : (tly8 R).getD s 0 = ((R.filter fun r => r.sy == (s : Int)).length : Int) := by simp [tly8, List.getD, h]
theorem tly8_snoc (R : List Rn8) {s : Nat} {c : Int} (h : s < 19) : tly8 (R ++ [⟨(s : Int), c⟩]) = (tly8 R).set s ((tly8 R).getD s 0 + 1) := by
  apply List.ext_getElem
  · simp [tly8]
  · intro i h1 h2
    have hi : i < 19 := by simpa [tly8] using h1
    rw [List.getElem_set]
    by_cases e : s = i
    · subst e
      rw [if_pos rfl, tly8_get R h]
      simp [tly8, List.filter_append]
    · rw [if_neg e]
      have : ¬ ((s : Int) = (i : Int)) := by omega
      simp [tly8, List.filter_append, this]
theorem tly8_bd (R : List Rn8) : ∀ z ∈ tly8 R, 0 ≤ z ∧ z ≤ R.length := by
  intro z hz
  unfold tly8 at hz
  obtain ⟨s, _, rfl⟩ := List.mem_map.1 hz
  have := List.length_filter_le (fun r : Rn8 => r.sy == (s : Int)) R
  omega
set_option maxRecDepth 100000 in
set_option maxHeartbeats 4000000 in
theorem ptally8 (R : List Rn8) (a : Option Addr) (n cap : Nat) (hn : Hid (R.length = n)) (w : World) (hs : SegN w a R) (hok : ∀ r ∈ R, 0 ≤ r.sy ∧ r.sy ≤ 18) (hl : n ≤ 1000) :
    Calls Tryd.prog 66 #[.slice a n cap] w (ShQ w 3 (tly8 R)) := by
  have HS : Hid (SegN w a R) := hs
  have HOK : Hid (∀ r ∈ R, 0 ≤ r.sy ∧ r.sy ≤ 18) := hok
  have hmk : ∀ W, (Instr.makeSlice 22 (.int .i64 19) (.int .i64 19)).run Tryd.prog W = .ok (.slice (some ⟨W.heap.size, 0, none⟩) 19 19) (W.alloc (.cells (Array.replicate 19 (.int .i64 0)) 3)) := fun W => run_make_ints 19 (by omega) W
  clear hs hok
  go_enter Tryd.func66, Tryd.ntmps66
  go_wp2_with fail
  have O0 := own_zeros w 19 (by omega)
  have B0 := below_box8 w (.cells (Array.replicate 19 (.int .i64 0)) 3)
  generalize w.alloc (.cells (Array.replicate 19 (.int .i64 0)) 3) = w0 at *
  go_loopw [9] (fun ti wr => ∃ i : Nat, i ≤ n ∧ ti = .int .i64 (i : Int) ∧ wr.ownsRow w.heap.size 3 1 (.slice (some ⟨w.heap.size, 0, none⟩) 19 19) 19 ((tly8 (R.take i)).map (Value.int .i64)) ∧ Below w.heap.size w wr) (fun ti _ => n - (intOf ti).toNat)
  case atStart => exact ⟨0, by omega, rfl, by rw [List.take_zero]; exact O0, B0⟩
  case round =>
    obtain ⟨i, hin, rfl, OO, BR⟩ := hrel
    clear O0 B0
    by_cases hlt : i < n
    · have hlti : (i : Int) < (n : Int) := by omega
      have hil : i < R.length := by rw [hn.out]; exact hlt
      obtain ⟨b, off, rfl, cs, cc⟩ := ((show SegN w a R from HS.out).old BR).at_ i hil
      have HTK : Hid (R.take (i + 1) = R.take i ++ [R.getD i ⟨0, 0⟩]) := take_snocN hil
      have hbd := HOK.out (R.getD i ⟨0, 0⟩) (by simp [List.getD, hil])
      generalize R.getD i ⟨0, 0⟩ = r at *
      obtain ⟨sy, ct⟩ := r
      simp only at cs cc hbd
      obtain ⟨s, rfl⟩ : ∃ s : Nat, sy = (s : Int) := ⟨sy.toNat, by omega⟩
      have hs19 : (s : Int) < 19 := by omega
      have hzb := tly8_bd (R.take i) ((tly8 (R.take i)).getD s 0) (by have : s < (tly8 (R.take i)).length := by rw [tly8_len]; omega
                                                                      simp [List.getD, this])
      rw [List.length_take] at hzb
      have HSN : Hid (tly8 (R.take (i + 1)) = (tly8 (R.take i)).set s ((tly8 (R.take i)).getD s 0 + 1)) := by
        show _ = _
        rw [HTK.out, tly8_snoc _ (by omega)]
      obtain ⟨d0, fz⟩ := own_cell1 OO (i := s) (by rw [tly8_len]; omega)
      have f0 := fz s
      obtain ⟨OS, GS⟩ := OO.stored s (.int .i64 ((tly8 (R.take i)).getD s 0 + 1))
      rw [← List.map_set, ← HSN.out] at OS
      have hsz := BR.size
      have hwlt : w.heap.size < wr.heap.size := (OO.lt _ rfl).2
      have B1 : Below w.heap.size w (wr.setCell ⟨w.heap.size, s, none⟩ (.int .i64 ((tly8 (R.take i)).getD s 0 + 1))) := BR.trans ((Below.refl _ _).grown GS hsz (fun k hk => by cases hk; exact Nat.le_refl _))
      have HB : Hid (Below w.heap.size w ((wr.setCell ⟨w.heap.size, s, none⟩ (.int .i64 ((tly8 (R.take i)).getD s 0 + 1))).alloc (.cells #[.int .i64 (s : Int), .int .i64 ct] 38))) := B1.alloc B1.size _
      have HOS : Hid _ := OS.alloc (.cells #[.int .i64 (s : Int), .int .i64 ct] 38)
      clear B1
      clear OS GS fz HSN HTK
      generalize (tly8 (R.take i)).getD s 0 = z at *
      have hneb : ¬ wr.heap.size = w.heap.size := by omega
      go_wp2_with fail
      go_roundw
      case rel => exact ⟨i + 1, by omega, by go_num, HOS.out, HB.out⟩
      case measure => simp [intOf]; omega
    · have hge : ¬ (i : Int) < (n : Int) := by omega
      have hTA : R.take i = R := List.take_of_length_le (by rw [hn.out]; omega)
      rw [hTA] at OO
      go_wp2_with fail
      go_ret
      refine ⟨some ⟨w.heap.size, 0, none⟩, 19, ?_, ?_, BR⟩
      · rw [tly8_len]; rfl
      · rw [tly8_len]; exact OO
/-- How many of the nineteen sizes are told. -/
def tol8 (Z : List Int) : Nat → Nat
  | 0 => 0
  | n + 1 => if 4 < n + 1 ∧ Z.getD (ordL.getD n 0).toNat 0 = 0 then tol8 Z n else n + 1
theorem tol8_bd (Z : List Int) : ∀ n, 4 ≤ n → 4 ≤ tol8 Z n ∧ tol8 Z n ≤ n
  | 0, h => by omega
  | n + 1, h => by
    rw [tol8]
    split
    · rename_i h1
      have := tol8_bd Z n (by omega)
      omega
    · omega
theorem ord_bd : ∀ k : Fin 19, 0 ≤ ordL.getD k.val 0 ∧ ordL.getD k.val 0 ≤ 18 := by decide
set_option maxRecDepth 100000 in
set_option maxHeartbeats 4000000 in
theorem ptoldof8 (Z : List Int) (a : Option Addr) (cap : Nat) (hn : Hid (Z.length = 19)) (w : World) (hs : SegZ w a Z) (T : TabO w) :
    Calls Tryd.prog 67 #[.slice a 19 cap] w fun e w' => e = .returned (.int .i64 (tol8 Z 19 : Int)) ∧ w' = w := by
  have HS : Hid (SegZ w a Z) := hs
  have HT : Hid (TabO w) := T
  clear hs T
  go_enter Tryd.func67, Tryd.ntmps67
  go_wp2_with fail
  go_loopw [3] (fun tm wr => ∃ m : Nat, 4 ≤ m ∧ m ≤ 19 ∧ tm = .int .i64 (m : Int) ∧ Hid (tol8 Z 19 = tol8 Z m) ∧ wr = w) (fun tm _ => (intOf tm).toNat)
  case atStart => exact ⟨19, by omega, by omega, rfl, rfl, rfl⟩
  case round =>
    obtain ⟨m, hm4, hm, rfl, HC, hwr⟩ := hrel
    have hwr2 : w = wr := hwr.symm
    subst hwr2
    clear hwr
    obtain ⟨q, rfl⟩ : ∃ q, m = q + 1 := ⟨m - 1, by omega⟩
    have c0 := TabO.at8 HT.out q (by omega)
    have hob := ord_bd ⟨q, by omega⟩
    simp only at hob
    have HQ : Hid (tol8 Z (q + 1) = if 4 < q + 1 ∧ Z.getD (ordL.getD q 0).toNat 0 = 0 then tol8 Z q else q + 1) := rfl
    generalize ordL.getD q 0 = oq at *
    obtain ⟨s, rfl⟩ : ∃ s : Nat, oq = (s : Int) := ⟨oq.toNat, by omega⟩
    rw [Int.toNat_natCast] at HQ
    obtain ⟨b, off, rfl, c1⟩ := (show SegZ w a Z from HS.out).at_ s (by rw [hn.out]; omega)
    have hs19 : (s : Int) < 19 := by omega
    by_cases h4 : 4 < q + 1
    · have h4i : (4 : Int) < ((q + 1 : Nat) : Int) := by omega
      by_cases hz : Z.getD s 0 = 0
      · have HC2 : Hid (tol8 Z 19 = tol8 Z q) := by show _ = _; rw [HC.out, HQ.out, if_pos ⟨h4, hz⟩]
        rw [hz] at c1
        clear HC HQ
        go_wp2_with fail
        go_roundw
        case rel => exact ⟨q, by omega, by omega, by go_num, HC2, trivial⟩
        case measure => simp [intOf]
      · have HC2 : Hid (tol8 Z 19 = q + 1) := by show _ = _; rw [HC.out, HQ.out, if_neg (fun h => hz h.2)]
        have hzb : (Z.getD s 0 == 0) = false := by rw [beq_eq_false_iff_ne]; exact hz
        clear HC HQ
        generalize Z.getD s 0 = z at *
        go_wp2_with fail
        go_ret
        refine ⟨?_, rfl⟩
        rw [HC2.out]
        rfl
    · have h4i : ¬ (4 : Int) < ((q + 1 : Nat) : Int) := by omega
      have HC2 : Hid (tol8 Z 19 = q + 1) := by show _ = _; rw [HC.out, HQ.out, if_neg (fun h => h4 h.1)]
      clear HC HQ
      go_wp2_with fail
      go_ret
      refine ⟨?_, rfl⟩
      rw [HC2.out]
      rfl
end Go.Proofs.YtoeabfcnfofbiaaDoor

namespace Go.Proofs.YtoeabfcnfofbiaaDoor
open Go.RowKit
set_option linter.unusedVariables false

/-! Items: four cells. -/
structure Im where
  wt : Int
  sy : Int
  fs : Option Addr
  sn : Option Addr
def Im.val (x : Im) : Value := .agg #[.int .i64 x.wt, .int .i64 x.sy, .pointer x.fs, .pointer x.sn]
structure ItAt (w : World) (g o : Nat) (x : Im) : Prop where
  c0 : w.cell? ⟨g, o, none⟩ = some (.int .i64 x.wt)
  c1 : w.cell? ⟨g, o + 1, none⟩ = some (.int .i64 x.sy)
  c2 : w.cell? ⟨g, o + 2, none⟩ = some (.pointer x.fs)
  c3 : w.cell? ⟨g, o + 3, none⟩ = some (.pointer x.sn)
theorem ItAt.of_block {w w' : World} {g o : Nat} {x : Im} (h : ItAt w g o x) (hb : w'.heap[g]? = w.heap[g]?) : ItAt w' g o x :=
  ⟨(World.cell?_of_block (a := ⟨g, o, none⟩) hb).trans h.c0, (World.cell?_of_block (a := ⟨g, o + 1, none⟩) hb).trans h.c1, (World.cell?_of_block (a := ⟨g, o + 2, none⟩) hb).trans h.c2, (World.cell?_of_block (a := ⟨g, o + 3, none⟩) hb).trans h.c3⟩
theorem ItAt.lt {w : World} {g o : Nat} {x : Im} (h : ItAt w g o x) : g < w.heap.size := World.block_lt_of_cell? w _ h.c0
/-- A row of items. -/
structure RowAt (w : World) (g off n : Nat) (X : Nat → Im) : Prop where
  at_ : ∀ k, k < n → ItAt w g (off + k * 4) (X k)
theorem RowAt.of_block {w w' : World} {g off n : Nat} {X : Nat → Im} (h : RowAt w g off n X) (hb : w'.heap[g]? = w.heap[g]?) : RowAt w' g off n X := ⟨fun k hk => (h.at_ k hk).of_block hb⟩
theorem RowAt.drewN {w : World} {g off n : Nat} {X : Nat → Im} (h : RowAt w g off n X) (q : Nat) : RowAt (w.drewN q) g off n X := h.of_block rfl
/-- Four cells set. -/
def setIt (w : World) (g o : Nat) (x : Im) : World := (((w.setCell ⟨g, o, none⟩ (.int .i64 x.wt)).setCell ⟨g, o + 1, none⟩ (.int .i64 x.sy)).setCell ⟨g, o + 2, none⟩ (.pointer x.fs)).setCell ⟨g, o + 3, none⟩ (.pointer x.sn)

theorem sc_same {w : World} {g o : Nat} {v : Value} {u : Value} (h : w.cell? ⟨g, o, none⟩ = some u) : (w.setCell ⟨g, o, none⟩ v).cell? ⟨g, o, none⟩ = some v := World.cell?_setCell_same _ _ _ h
theorem sc_other {w : World} {g o p : Nat} {v : Value} (h : o ≠ p) : (w.setCell ⟨g, o, none⟩ v).cell? ⟨g, p, none⟩ = w.cell? ⟨g, p, none⟩ := World.cell?_setCell_other _ _ _ _ (by intro e; cases e; exact h rfl)
theorem setIt_same {w : World} {g o : Nat} {x y : Im} (h : ItAt w g o y) : ItAt (setIt w g o x) g o x := by
  unfold setIt
  refine ⟨?_, ?_, ?_, ?_⟩
  · rw [sc_other (by omega), sc_other (by omega), sc_other (by omega)]; exact sc_same h.c0
  · rw [sc_other (by omega), sc_other (by omega)]; exact sc_same (by rw [sc_other (by omega)]; exact h.c1)
  · rw [sc_other (by omega)]; exact sc_same (by rw [sc_other (by omega), sc_other (by omega)]; exact h.c2)
  · exact sc_same (by rw [sc_other (by omega), sc_other (by omega), sc_other (by omega)]; exact h.c3)
theorem setIt_cell {w : World} {g o p : Nat} {x : Im} (h : p < o ∨ o + 4 ≤ p) : (setIt w g o x).cell? ⟨g, p, none⟩ = w.cell? ⟨g, p, none⟩ := by
  unfold setIt
  rw [sc_other (by omega), sc_other (by omega), sc_other (by omega), sc_other (by omega)]
theorem setIt_other {w : World} {g o p : Nat} {x y : Im} (h : p + 4 ≤ o ∨ o + 4 ≤ p) (hy : ItAt w g p y) : ItAt (setIt w g o x) g p y :=
  ⟨by rw [setIt_cell (by omega)]; exact hy.c0, by rw [setIt_cell (by omega)]; exact hy.c1, by rw [setIt_cell (by omega)]; exact hy.c2, by rw [setIt_cell (by omega)]; exact hy.c3⟩
theorem setIt_grown (w : World) (g o : Nat) (x : Im) : w.grownBy (setIt w g o x) (some g) := grownBy_set (grownBy_set (grownBy_set (grownBy_set (World.grownBy.refl _ _) _) _) _) _
def upd (X : Nat → Im) (i : Nat) (x : Im) : Nat → Im := fun k => if k = i then x else X k
theorem RowAt.set {w : World} {g off n i : Nat} {X : Nat → Im} (h : RowAt w g off n X) (hi : i < n) (x : Im) : RowAt (setIt w g (off + i * 4) x) g off n (upd X i x) := by
  refine ⟨fun k hk => ?_⟩
  unfold upd
  by_cases e : k = i
  · subst e; rw [if_pos rfl]; exact setIt_same (h.at_ k hk)
  · rw [if_neg e]; exact setIt_other (by omega) (h.at_ k hk)
def swI (X : Nat → Im) (i j : Nat) : Nat → Im := upd (upd X i (X j)) j (X i)
theorem swI_at (X : Nat → Im) (i j k : Nat) : swI X i j k = if k = j then X i else if k = i then X j else X k := rfl
theorem RowAt.swap {w : World} {g off n i j : Nat} {X : Nat → Im} (h : RowAt w g off n X) (hi : i < n) (hj : j < n) : RowAt (setIt (setIt w g (off + i * 4) (X j)) g (off + j * 4) (X i)) g off n (swI X i j) := (h.set hi _).set hj _
theorem free_set {w : World} {g : Nat} (hf : ∀ k, w.frozen? ⟨g, k, none⟩ = false) (o : Nat) (v : Value) : ∀ k, (w.setCell ⟨g, o, none⟩ v).frozen? ⟨g, k, none⟩ = false := by
  intro k
  rw [← hf k]
  simp
theorem free_setIt {w : World} {g : Nat} (hf : ∀ k, w.frozen? ⟨g, k, none⟩ = false) (o : Nat) (x : Im) : ∀ k, (setIt w g o x).frozen? ⟨g, k, none⟩ = false := free_set (free_set (free_set (free_set hf _ _) _ _) _ _) _ _

end Go.Proofs.YtoeabfcnfofbiaaDoor
