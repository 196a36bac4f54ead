import Derived.Test.YtmddnmpldmdllaaDoorPc
import Derived.Test.YtmddnmpldmdllaaDoorPb
import Derived.WalkLawsBesides
import Derived.Deep.OwnRows
import Derived.Test.YtmddnmpldmdllaaDoorProg
import Derived.Test.YtmddnmpldmdllaaDoorPa
import Derived.WalkKit
import Derived.WalkSpells
import Derived.Laws.BitsAllLaws
import Derived.Laws.ShiftsVarLaws
import Derived.Deep.RegionHeld3
import Derived.Deep.AppendLies
import Derived.Deep.RegionLaw
import Derived.Deep.QuietTactic
import Derived.BigQuiet
import Derived.Deep.SlicePairs
namespace Go.Proofs.YtmddnmpldmdllaaDoor
open Go.RowKit
set_option linter.unusedVariables false

theorem errS_two (zs : List Int) : errS zs = 0 ∨ errS zs = 50 := by
  unfold errS
  split
  · exact .inr rfl
  · split
    · exact .inl rfl
    · exact .inr rfl
theorem new_arr {w : World} {A : List Int} {t : TypeId} : (w.alloc (.cells (arr A) t)).heap[w.heap.size]? = some (.cells (arr A) t (0, 0)) := heap_alloc_new w _

set_option maxRecDepth 100000 in
set_option maxHeartbeats 1000000 in
theorem checked_any (a : Option Addr) (zs : List Int) (n cap : Nat) (hn : Hid (zs.length = n)) (w : World) (hs : SegZ w a zs) (hl : n ≤ 9223372036854775807) :
    Calls Tryd.prog 74 #[.slice a n cap] w fun e w' => ∃ X : List Int, X.length = 16 ∧ (errC zs = 0 → X = cnts zs) ∧ e = .returned (.tuple #[.agg (arr X), .int .i64 (errC zs)]) ∧ Below w.heap.size w w' := by
  have HC : Hid (∀ W, Below w.heap.size w W → Calls Tryd.prog 83 #[.slice a n cap] W fun e w' => ∃ X : List Int, X.length = 16 ∧ (errS zs = 0 → X = cnts zs) ∧ e = .returned (.tuple #[.agg (arr X), .int .i64 (errS zs)]) ∧ Below W.heap.size W w') := fun W hW => counted_any a zs n cap hn W (hs.old hW) hl
  go_enter Tryd.func74, Tryd.ntmps74
  have hr0 : (w.alloc (.cells zero16 65)).heap[w.heap.size]? = some (.cells zero16 65 (0, 0)) := heap_alloc_new w _
  have B0 : Below w.heap.size w (w.alloc (.cells zero16 65)) := (Below.refl _ _).alloc (Nat.le_refl _) _
  have hz0 : w.heap.size < (w.alloc (.cells zero16 65)).heap.size := by simp
  go_wp2_with fail
  change Calls _ _ _ (w.alloc (.cells zero16 65)) _
  generalize w.alloc (.cells zero16 65) = W0 at *
  obtain ⟨r, er⟩ : ∃ r, r = w.heap.size := ⟨_, rfl⟩
  have HR : Hid (r = w.heap.size) := er
  rw [← er] at hr0 hz0
  rw [← er]
  clear er
  refine (HC.out _ B0).mono ?_
  rintro e W1 ⟨X, hX16, hXc, rfl, B1⟩
  have HX : Hid (X.length = 16 ∧ (errS zs = 0 → X = cnts zs)) := ⟨hX16, hXc⟩
  clear hX16 hXc
  have hr1 := (B1.block r hz0).trans hr0
  have hz1 : r < W1.heap.size := Nat.lt_of_lt_of_le hz0 B1.size
  have B01 : Below w.heap.size w W1 := B0.trans (B1.mono B0.size)
  have hr2 : (W1.alloc (.cells (arr X) 65)).heap[r]? = some (.cells zero16 65 (0, 0)) := (((Below.refl _ W1).alloc (Nat.le_refl _) _).block r hz1).trans hr1
  have B2 : Below w.heap.size w (W1.alloc (.cells (arr X) 65)) := B01.alloc B01.size _
  have hz2 : r < (W1.alloc (.cells (arr X) 65)).heap.size := by simp; omega
  have ho2 := new_arr (w := W1) (A := X) (t := 65)
  obtain ⟨o, eo⟩ : ∃ o, o = W1.heap.size := ⟨_, rfl⟩
  have HO : Hid (o = W1.heap.size) := eo
  rw [← eo] at ho2
  have hro : r ≠ o := by omega
  have hoz : o < (W1.alloc (.cells (arr X) 65)).heap.size := by simp; omega
  clear eo
  rcases errS_two zs with he | he
  · have HE : Hid (errS zs = 0) := he
    rw [he]
    clear he
    have HXc : Hid (X = cnts zs) := HX.out.2 HE.out
    have HCR : Hid (∀ W, Calls Tryd.prog 84 #[.agg (arr X)] W fun e w' => e = .returned (.int .i64 (errR zs)) ∧ Below W.heap.size W w') := fun W => by
      rw [HXc.out]
      exact refusal5_any zs (cC_288 HE.out) W
    go_wp2_with (first
      | (refine wpList_store_row rfl 65 _ _ rfl W1.heap.size (arr X) rfl rfl _ zero16 (heap_alloc_new W1 _) (arr_info HX.out.1) (by rw [arr_size, HX.out.1]; rfl) (arr_one _) ?_; rw [World.setRow_alloc_new, ← HO.out]; generalize W1.alloc (.cells (arr X) 65) = W2 at *)
      | (refine wpList_load_row rfl 65 _ rfl o rfl _ _ _ _ ho2 Tryd.underlying65 rfl (arr_info HX.out.1) ?_))
    refine (HCR.out _).mono ?_
    rintro e W3 ⟨rfl, B3⟩
    have hr3 := (B3.block r hz2).trans hr2
    have ho3 := (B3.block o hoz).trans ho2
    have Bw : Below w.heap.size w W3 := B2.trans (B3.mono B2.size)
    go_wp2_with (first
      | (refine wpList_load_row rfl 65 _ rfl o rfl _ _ _ _ ho3 Tryd.underlying65 rfl (arr_info HX.out.1) ?_)
      | (refine wpList_store_row rfl 65 _ _ rfl r (arr X) rfl rfl _ _ hr3 (arr_info HX.out.1) (by rw [arr_size, HX.out.1]; rfl) (arr_one _) ?_))
    have hR := setRow_heap W3 r _ (arr X) _ _ hr3
    refine bodyPost_ret (v := .tuple #[.agg (arr X), .int .i64 (errR zs)]) (results_ct (fn := Tryd.f74) (p := 2) (u := 3) (ty := 65) rfl _ _ r _ _ _ _ rfl hR Tryd.underlying65 rfl (arr_info HX.out.1)) rfl ⟨X, HX.out.1, fun _ => HXc.out, ?_, Bw.grown (grown_setRow _ r _) Bw.size (fun k hk => by cases hk; exact Nat.le_of_eq HR.out.symm)⟩
    unfold errC
    rw [if_pos HE.out]
  · have HE : Hid (errS zs = 50) := he
    rw [he]
    clear he
    go_wp2_with (first
      | (refine wpList_store_row rfl 65 _ _ rfl W1.heap.size (arr X) rfl rfl _ zero16 (heap_alloc_new W1 _) (arr_info HX.out.1) (by rw [arr_size, HX.out.1]; rfl) (arr_one _) ?_; rw [World.setRow_alloc_new, ← HO.out]; generalize W1.alloc (.cells (arr X) 65) = W2 at *)
      | (refine wpList_load_row rfl 65 _ rfl o rfl _ _ _ _ ho2 Tryd.underlying65 rfl (arr_info HX.out.1) ?_)
      | (refine wpList_store_row rfl 65 _ _ rfl r (arr X) rfl rfl _ _ hr2 (arr_info HX.out.1) (by rw [arr_size, HX.out.1]; rfl) (arr_one _) ?_))
    have hR := setRow_heap _ r _ (arr X) _ _ hr2
    refine bodyPost_ret (v := .tuple #[.agg (arr X), .int .i64 50]) (results_ct (fn := Tryd.f74) (p := 2) (u := 3) (ty := 65) rfl _ _ r _ _ _ _ rfl hR Tryd.underlying65 rfl (arr_info HX.out.1)) rfl ⟨X, HX.out.1, ?_, ?_, B2.grown (grown_setRow _ r _) B2.size (fun k hk => by cases hk; exact Nat.le_of_eq HR.out.symm)⟩
    · intro h
      have := (errC_zero h).1
      rw [HE.out] at this
      cases this
    · unfold errC
      rw [HE.out, if_neg (by decide)]
end Go.Proofs.YtmddnmpldmdllaaDoor

namespace Go.Proofs.YtmddnmpldmdllaaDoor
open Go.RowKit
set_option linter.unusedVariables false

theorem errC_cases (zs : List Int) : errC zs = 0 ∨ errC zs = 50 ∨ errC zs = 51 ∨ errC zs = 52 := by
  unfold errC
  split
  · unfold errR
    split
    · exact .inr (.inr (.inl rfl))
    · split
      · exact .inl rfl
      · exact .inr (.inr (.inr rfl))
  · rename_i h
    rcases errS_two zs with h1 | h1
    · exact absurd h1 h
    · exact .inr (.inl h1)

set_option maxRecDepth 100000 in
set_option maxHeartbeats 400000 in
theorem check_any (a : Option Addr) (zs : List Int) (n cap : Nat) (hn : Hid (zs.length = n)) (w : World) (hs : SegZ w a zs) (hl : n ≤ 9223372036854775807) :
    Calls Tryd.prog 89 #[.slice a n cap] w fun e w' => e = .returned (.int .i64 (errC zs)) ∧ Below w.heap.size w w' := by
  have HC := checked_any a zs n cap hn w hs hl
  go_enter Tryd.func89, Tryd.ntmps89
  go_wp2_with fail
  refine HC.mono ?_
  rintro e W1 ⟨X, hX16, hXc, rfl, B1⟩
  have HX : Hid (X.length = 16) := hX16
  clear hX16 hXc
  have B2 : Below w.heap.size w (W1.alloc (.cells (arr X) 65)) := B1.alloc B1.size _
  go_wp2_with (first
      | (refine wpList_store_row rfl 65 _ _ rfl W1.heap.size (arr X) rfl rfl _ zero16 (heap_alloc_new W1 _) (arr_info HX.out) (by rw [arr_size, HX.out]; rfl) (arr_one _) ?_; rw [World.setRow_alloc_new]))
  go_ret
  exact ⟨rfl, B2⟩
def spcR (zs : List Int) : Nat := if errS zs = 0 then spc zs else 0

end Go.Proofs.YtmddnmpldmdllaaDoor

namespace Go.Proofs.YtmddnmpldmdllaaDoor
open Go.RowKit
set_option linter.unusedVariables false

theorem info_int : (Tryd.prog.info? 3).map (fun i => (i.zero, i.size, i.bytes)) = some (some (.int .i64 0), 1, 8) := by kernel_rfl
end Go.Proofs.YtmddnmpldmdllaaDoor

namespace Go.Proofs.YtmddnmpldmdllaaDoor
open Go.RowKit
set_option linter.unusedVariables false

theorem made_zerosI (n : Nat) : madeCells #[.int .i64 0] n = Array.replicate n (.int .i64 0) := by
  apply Array.toList_inj.1
  rw [toList_madeCells_one]
  simp
theorem run_make_ints (n : Nat) (h : n ≤ 100000) (w : World) :
    (Instr.makeSlice 89 (.int .i64 (n : Int)) (.int .i64 (n : Int))).run Tryd.prog w = .ok (.slice (some ⟨w.heap.size, 0, none⟩) n n) (w.alloc (.cells (Array.replicate n (.int .i64 0)) 3)) := by
  rw [← made_zerosI]
  exact run_make_row' 89 3 (.int .i64 0) 8 Tryd.underlying89 info_int rfl .i64 .i64 n (by omega) (by omega) w
theorem own_zeros (w : World) (n : Nat) (hn : n ≤ 100000) : (w.alloc (.cells (Array.replicate n (.int .i64 0)) 3)).ownsRow w.heap.size 3 1 (.slice (some ⟨w.heap.size, 0, none⟩) n n) n ((List.replicate n (0 : Int)).map (Value.int .i64)) :=
  ⟨by simp, .inr ⟨w.heap.size, n, _, rfl, Nat.le_refl _, heap_alloc_new w _, Nat.le_refl _, by unfold maxLen; omega, by simp, by simp⟩⟩
theorem own_cell1 {w : World} {base n g cap : Nat} {e : TypeId} {A : List Int} (h : w.ownsRow base e 1 (.slice (some ⟨g, 0, none⟩) n cap) n (A.map (Value.int .i64))) {i : Nat} (hi : i < A.length) : w.cell? ⟨g, i, none⟩ = some (.int .i64 (A.getD i 0)) ∧ ∀ k, w.frozen? ⟨g, k, none⟩ = false := by
  have := h.cells (g := g) rfl i (.int .i64 (A.getD i 0)) (by simp [List.getD, hi])
  have hadd : (⟨g, 0, none⟩ : Addr).add i = ⟨g, i, none⟩ := by unfold Addr.add; split <;> simp_all
  rw [hadd] at this
  refine ⟨this, fun k => ?_⟩
  rcases h.2 with ⟨h1, _⟩ | ⟨g', cap', cur, hv, _, hh, _⟩
  · cases h1
  · simp only [Value.slice.injEq, Option.some.injEq, Addr.mk.injEq] at hv
    obtain ⟨⟨rfl, _⟩, _⟩ := hv
    simp [World.frozen?, hh]
theorem own_grown {w w' : World} {base n g g2 cap : Nat} {e : TypeId} {xs : List Value} (h : w.ownsRow base e 1 (.slice (some ⟨g, 0, none⟩) n cap) n xs) (hg : w.grownBy w' (some g2)) (hne : g ≠ g2) : w'.ownsRow base e 1 (.slice (some ⟨g, 0, none⟩) n cap) n xs := by
  rcases h with ⟨hl, h | ⟨g', cap', cur, hv, hb, hh, rest⟩⟩
  · exact ⟨hl, .inl h⟩
  · simp only [Value.slice.injEq, Option.some.injEq, Addr.mk.injEq, and_true, true_and] at hv
    obtain ⟨rfl, rfl⟩ := hv
    exact ⟨hl, .inr ⟨g, cap, cur, rfl, hb, by rw [hg.block g (Array.getElem?_eq_some_iff.1 hh).1 (by simpa using hne)]; exact hh, rest⟩⟩
end Go.Proofs.YtmddnmpldmdllaaDoor

namespace Go.Proofs.YtmddnmpldmdllaaDoor
open Go.RowKit
set_option linter.unusedVariables false

/-- Each symbol's code. -/
def cds (zs : List Int) : List Int := (List.range zs.length).map fun s => (cd zs s : Int)
def cdsR (zs : List Int) : List Int := if errC zs = 0 then cds zs else []
def cdk (zs : List Int) (n j : Nat) : List Int := (List.range n).map fun s => if s < j then (cd zs s : Int) else 0
theorem cds_len (zs : List Int) : (cds zs).length = zs.length := by simp [cds]
theorem cds_get (zs : List Int) {s : Nat} (h : s < zs.length) : (cds zs).getD s 0 = (cd zs s : Int) := by simp [cds, List.getD, h]
theorem cdk_zero (zs : List Int) (n : Nat) : cdk zs n 0 = List.replicate n 0 := by
  apply List.ext_getElem (by simp [cdk])
  intro i h1 h2
  simp [cdk]
theorem cdk_len (zs : List Int) (n j : Nat) : (cdk zs n j).length = n := by simp [cdk]
theorem cdk_all (zs : List Int) : cdk zs zs.length zs.length = cds zs := by
  unfold cdk cds
  apply List.map_congr_left
  intro i hi
  rw [List.mem_range] at hi
  rw [if_pos hi]
theorem cdk_skip {zs : List Int} {n j : Nat} (h : cd zs j = 0) : cdk zs n (j + 1) = cdk zs n j := by
  unfold cdk
  apply List.map_congr_left
  intro i hi
  by_cases e : i = j
  · subst e; rw [if_pos (by omega), if_neg (by omega), h]; rfl
  · by_cases c : i < j
    · rw [if_pos (by omega), if_pos c]
    · rw [if_neg (by omega), if_neg c]
theorem cdk_put (zs : List Int) {n j : Nat} : (cdk zs n j).set j (cd zs j : Int) = cdk zs n (j + 1) := by
  apply List.ext_getElem (by simp [cdk])
  intro i h1 h2
  simp only [List.getElem_set, cdk, List.getElem_map, List.getElem_range]
  by_cases e : j = i
  · subst e; simp
  · rw [if_neg e]
    by_cases c : i < j
    · rw [if_pos c, if_pos (by omega)]
    · rw [if_neg c, if_neg (by omega)]
/-- What comes next for each length. -/
def nxt (zs : List Int) (j : Nat) : List Int := (List.range 16).map fun l => (cF zs l : Int) + (cC (zs.take j) l : Int)
theorem nxt_len (zs : List Int) (j : Nat) : (nxt zs j).length = 16 := by simp [nxt]
theorem nxt_get (zs : List Int) (j : Nat) {l : Nat} (h : l < 16) : (nxt zs j).getD l 0 = (cF zs l : Int) + (cC (zs.take j) l : Int) := by simp [nxt, List.getD, h]
theorem nxt_zero (zs : List Int) : nxt zs 0 = fsts zs := by
  unfold nxt fsts
  apply List.map_congr_left
  intro l _
  have : cC (zs.take 0) l = 0 := by rw [List.take_zero]; unfold cC; split <;> simp
  rw [this]
  simp
theorem nxt_skip {zs : List Int} {j : Nat} (h : zs.take (j + 1) = zs.take j ++ [0]) : nxt zs (j + 1) = nxt zs j := by
  unfold nxt
  apply List.map_congr_left
  intro l _
  rw [h, cC_snoc, if_neg (by omega)]
  simp
theorem nxt_put {zs : List Int} {j z : Nat} (h : zs.take (j + 1) = zs.take j ++ [(z : Int)]) (h0 : 0 < z) : nxt zs (j + 1) = (nxt zs j).set z ((cF zs z : Int) + (cC (zs.take j) z : Int) + 1) := by
  apply List.ext_getElem (by simp [nxt])
  intro i h1 h2
  simp only [List.getElem_set, nxt, List.getElem_map, List.getElem_range]
  rw [h, cC_snoc]
  by_cases e : z = i
  · subst e
    rw [if_pos ⟨by omega, rfl⟩, if_pos rfl]
    omega
  · rw [if_neg (by omega), if_neg e]
    simp
theorem cF_bd {zs : List Int} (h : ∀ l, cC zs l ≤ 288) : ∀ l, l ≤ 15 → cF zs l ≤ 100000000 := by
  intro l hl
  have h1 := cF_cP zs l hl
  have h2 := cP_le zs l
  have h3 := cS_le zs h l
  have h4 : l * 288 ≤ 15 * 288 := Nat.mul_le_mul_right _ hl
  have h5 : cF zs l * 1 ≤ cF zs l * 2 ^ (15 - l) := Nat.mul_le_mul_left _ (Nat.one_le_two_pow)
  rw [h1] at h5
  omega
theorem cd_nxt {zs : List Int} {j z : Nat} (h : zs.getD j 0 = (z : Int)) (h0 : 0 < z) : (cd zs j : Int) = (cF zs z : Int) + (cC (zs.take j) z : Int) := by
  unfold cd ln rk
  rw [h, if_neg (by omega), cC_pos _ h0, Int.toNat_natCast]
  omega
theorem cd_none {zs : List Int} {j : Nat} (h : zs.getD j 0 = 0) : cd zs j = 0 := by unfold cd; rw [if_pos h]

def CodQ (w : World) (zs : List Int) (e : Ending) (w' : World) : Prop := ∃ b c, e = .returned (.tuple #[.slice b (cdsR zs).length c, .int .i64 (errC zs)]) ∧ w'.ownsRow w.heap.size 3 1 (.slice b (cdsR zs).length c) (cdsR zs).length ((cdsR zs).map (Value.int .i64)) ∧ Below w.heap.size w w'
end Go.Proofs.YtmddnmpldmdllaaDoor

namespace Go.Proofs.YtmddnmpldmdllaaDoor
open Go.RowKit
set_option linter.unusedVariables false

theorem or_pow {r v c : Nat} (h : r < 2 ^ c) (h2 : v * 2 ^ c + r < 18446744073709551616) : bits .or .u64 (r : Int) ((v * 2 ^ c : Nat) : Int) = ((r + v * 2 ^ c : Nat) : Int) := by
  rw [u64_or_nat _ _ (by omega) (by omega), Nat.or_comm, Nat.mul_comm v, ← Nat.two_pow_add_eq_or_of_lt h, Nat.add_comm]
theorem or_two {o b : Nat} (h : b < 2) (h2 : o * 2 + b < 18446744073709551616) : bits .or .u64 ((o : Int) * 2) (b : Int) = ((b + 2 * o : Nat) : Int) := by
  have := or_pow (r := b) (v := o) (c := 1) (by omega) (by omega)
  rw [show ((o : Int) * 2) = ((o * 2 ^ 1 : Nat) : Int) by simp]
  rw [u64_or_nat _ _ (by omega) (by omega)] at this ⊢
  rw [Nat.or_comm, this]
  omega
theorem and_low (v n : Nat) (hn : n ≤ 64) (hv : v < 18446744073709551616) : bits .and .u64 (v : Int) ((2 ^ n - 1 : Nat) : Int) = ((v % 2 ^ n : Nat) : Int) := by
  have h1 : 2 ^ n ≤ 2 ^ 64 := Nat.pow_le_pow_right (by decide) hn
  rw [u64_and_nat _ _ hv (by omega), Nat.and_two_pow_sub_one_eq_mod]
theorem and_one' (v : Nat) (hv : v < 18446744073709551616) : bits .and .u64 (v : Int) 1 = ((v % 2 : Nat) : Int) := by
  have := and_low v 1 (by decide) hv
  simpa using this

theorem div_pow_lt {v k : Nat} (hv : v < 18446744073709551616) : v / 2 ^ k < 18446744073709551616 := Nat.lt_of_le_of_lt (Nat.div_le_self _ _) hv
theorem pow_le_64 {k : Nat} (h : k ≤ 64) : 2 ^ k ≤ 18446744073709551616 := Nat.pow_le_pow_right (n := 2) (j := 64) (by decide) h
theorem pow_le_63 {k : Nat} (h : k ≤ 63) : 2 ^ k ≤ 9223372036854775808 := Nat.pow_le_pow_right (n := 2) (j := 63) (by decide) h
theorem rev_lt (v i : Nat) : num (bN v i).reverse < 2 ^ i := by
  have := num_lt (bN v i).reverse
  rwa [rev_len] at this

theorem ret_u64 {a b : Int} (h : a = b) : Ending.returned (.int .u64 a) = .returned (.int .u64 b) := by rw [h]
/-- How many bits a Flip turns. -/
def cnt (n : Int) : Nat := (min n 64).toNat
def flipN (v : Nat) (n : Int) : Nat := num (bN v (cnt n)).reverse
theorem cnt_le (n : Int) : cnt n ≤ 64 := by unfold cnt; omega
theorem flip_lt (v : Nat) (n : Int) : flipN v n < 2 ^ cnt n := rev_lt _ _

end Go.Proofs.YtmddnmpldmdllaaDoor

namespace Go.Proofs.YtmddnmpldmdllaaDoor
open Go.RowKit
set_option linter.unusedVariables false

theorem shr_nat (v k : Nat) : (v : Int) / 2 ^ k = ((v / 2 ^ k : Nat) : Int) := by simp
theorem shr_ne {v k : Nat} (h : ¬ v < 2 ^ k) : 0 < v / 2 ^ k := Nat.div_pos (by omega) (Nat.two_pow_pos k)
/-- What is refused. -/
def errW (v : Nat) (n : Int) : Int := if n < 0 ∨ 56 < n then 30 else if v < 2 ^ n.toNat then 0 else 31
theorem errW_ok {v k : Nat} (hv : v < 2 ^ k) (hk : k ≤ 56) : errW v k = 0 := by
  unfold errW
  rw [if_neg (by omega), if_pos (by simpa using hv)]
theorem errW_cases (v : Nat) (n : Int) : (errW v n = 30 ∧ (n < 0 ∨ 56 < n)) ∨ (∃ k : Nat, n = k ∧ k ≤ 56 ∧ ((errW v n = 0 ∧ v < 2 ^ k) ∨ (errW v n = 31 ∧ ¬ v < 2 ^ k))) := by
  unfold errW
  by_cases h : n < 0 ∨ 56 < n
  · exact .inl ⟨if_pos h, h⟩
  · right
    refine ⟨n.toNat, by omega, by omega, ?_⟩
    rw [if_neg h]
    by_cases h2 : v < 2 ^ n.toNat
    · exact .inl ⟨if_pos h2, h2⟩
    · exact .inr ⟨if_neg h2, h2⟩

theorem wrap_pow {k : Nat} (hk : k < 64) : IntKind.u64.wrap (2 ^ k) = ((2 ^ k : Nat) : Int) := by
  have h1 := pow_le_63 (k := k) (by omega)
  rw [show (2 : Int) ^ k = ((2 ^ k : Nat) : Int) by simp]
  generalize 2 ^ k = p at *
  rw [IntWalk.u64_in _ ⟨by omega, by omega⟩]
theorem wrap_mask {k : Nat} (hk : k ≤ 64) : IntKind.u64.wrap (IntKind.u64.wrap (2 ^ k) - 1) = ((2 ^ k - 1 : Nat) : Int) := by
  by_cases h : k = 64
  · subst h; decide
  · have h1 := pow_le_63 (k := k) (by omega)
    have h2 := Nat.two_pow_pos k
    rw [wrap_pow (by omega), IntWalk.u64_in _ ⟨by omega, by omega⟩]
    omega
set_option maxRecDepth 100000 in
/-- The n low bits. -/
theorem low_any (v k : Nat) (w : World) (hv : v < 18446744073709551616) (hk : k ≤ 64) :
    Calls Tryd.prog 60 #[.int .u64 (v : Int), .int .i64 (k : Int)] w fun e w' => e = .returned (.int .u64 ((v % 2 ^ k : Nat) : Int)) ∧ w' = w := by
  have HA : Hid (bits .and .u64 (v : Int) (IntKind.u64.wrap (IntKind.u64.wrap (2 ^ k) - 1)) = ((v % 2 ^ k : Nat) : Int)) := by show _ = _; rw [wrap_mask hk, and_low v k hk hv]
  go_enter Tryd.func60, Tryd.ntmps60
  go_wp2
  go_ret
  exact ⟨by rw [← HA.out]; rfl, rfl⟩

theorem add_bit {o i : Nat} (ho : o < 2 ^ i) (hi : i < 64) : IntKind.u64.wrap ((o : Int) + IntKind.u64.wrap (2 ^ i)) = ((o + 2 ^ i : Nat) : Int) := by
  have h1 := pow_le_63 (k := i) (by omega)
  rw [wrap_pow hi, IntWalk.u64_in _ ⟨by omega, by omega⟩]
  omega
theorem bit_eq (v j : Nat) : (((v / 2 ^ j % 2 : Nat) : Int) == 1) = v.testBit j := by
  have h := bit0 (v / 2 ^ j)
  rw [Nat.testBit_div_two_pow, Nat.zero_add] at h
  rw [← h]
  cases v.testBit j <;> rfl

end Go.Proofs.YtmddnmpldmdllaaDoor

namespace Go.Proofs.YtmddnmpldmdllaaDoor
open Go.RowKit
set_option linter.unusedVariables false

theorem info_u8w : (Tryd.prog.info? 5).map (fun i => (i.zero, i.size, i.bytes)) = some (some (.int .u8 0), 1, 1) := by kernel_rfl

/-- A Writer in a block of its own: full bytes in a row of its own, and bits behind them. -/
structure Wr (w : World) (b B : Nat) (a : Option Addr) (cap : Nat) (ws : List Int) (r c : Nat) : Prop where
  hp : w.heap[b]? = some (.cells #[.slice a ws.length cap, .int .u64 (r : Int), .int .i64 (c : Int)] 158 (0, 0))
  own : w.ownsRow B 5 1 (.slice a ws.length cap) ws.length (ws.map (Value.int .u8))
  nil : ws = [] → a = none
  bd : ∀ z ∈ ws, 0 ≤ z ∧ z ≤ 255
  ne : (Value.slice a ws.length cap).ownBlock ≠ some b
  bB : B ≤ w.heap.size
  lt : r < 2 ^ c
theorem Wr.b_lt {w : World} {b B : Nat} {a : Option Addr} {cap : Nat} {ws : List Int} {r c : Nat} (h : Wr w b B a cap ws r c) : b < w.heap.size := (Array.getElem?_eq_some_iff.1 h.hp).1
theorem Wr.kp {w w' : World} {b B : Nat} {a : Option Addr} {cap : Nat} {ws : List Int} {r c : Nat} {S : Nat → Prop} (h : Wr w b B a cap ws r c) (hk : Kp S w w') (h1 : ¬ S b) (h2 : ∀ k, (Value.slice a ws.length cap).ownBlock = some k → ¬ S k) : Wr w' b B a cap ws r c :=
  ⟨hk.heap h.hp h1, own_kp h.own hk h2, h.nil, h.bd, h.ne, Nat.le_trans h.bB hk.size, h.lt⟩

def cellN (w : World) (b i : Nat) : Nat := (intOf ((w.cell? ⟨b, i, none⟩).getD (.int .i64 0))).toNat
theorem cellN_of {w : World} {b i : Nat} {k : IntKind} {n : Int} (h : w.cell? ⟨b, i, none⟩ = some (.int k n)) : cellN w b i = n.toNat := by unfold cellN; rw [h]; rfl

/-- The blocks of a Writer. -/
def WS (b : Nat) (v : Value) : Nat → Prop := fun k => k = b ∨ v.ownBlock = some k

theorem shl_nat {r v c k : Nat} (h : r < 2 ^ c) (hv : v < 2 ^ k) (hck : c + k ≤ 63) : r + v * 2 ^ c < 2 ^ (c + k) := by
  have h1 : v + 1 ≤ 2 ^ k := hv
  have h2 : (v + 1) * 2 ^ c ≤ 2 ^ k * 2 ^ c := Nat.mul_le_mul_right _ h1
  rw [← Nat.pow_add, Nat.add_comm k c, Nat.add_mul, Nat.one_mul] at h2
  omega
theorem bN_join {r v c k : Nat} (h : r < 2 ^ c) : bN (r + v * 2 ^ c) (c + k) = bN r c ++ bN v k := by
  rw [bN_add]
  have h1 : (r + v * 2 ^ c) / 2 ^ c = v := by
    rw [Nat.add_mul_div_right _ _ (Nat.two_pow_pos c), Nat.div_eq_of_lt h, Nat.zero_add]
  rw [h1, ← bN_mod (r + v * 2 ^ c) c, Nat.add_mul_mod_self_right, bN_mod]

theorem ws_back {w : World} {b j : Nat} {v v1 : Value} (h : Fresh w v v1) (hj : j < w.heap.size) (e : WS b v1 j) : WS b v j := by
  rcases e with e | e
  · exact .inl e
  · rcases h j e with e | e
    · exact .inr e
    · omega
theorem Fresh.trans {w wr : World} {v v1 v2 : Value} (h : Fresh w v v1) (k : Fresh wr v1 v2) (hs : w.heap.size ≤ wr.heap.size) : Fresh w v v2 := by
  intro j e
  rcases k j e with e | e
  · exact h j e
  · exact .inr (by omega)
theorem byte_wrap (r : Nat) : IntKind.u8.wrap (r : Int) = ((r % 256 : Nat) : Int) := by rw [IntKind.wrap_u8]; omega
theorem bits_push (ws : List Int) (r c : Nat) (h8 : 8 ≤ c) : bB (ws ++ [((r % 256 : Nat) : Int)]) ++ bN (r / 256) (c - 8) = bB ws ++ bN r c := by
  rw [bB_append, bB_one, Int.toNat_natCast, List.append_assoc]
  congr 1
  rw [show c = 8 + (c - 8) by omega, bN_add, Nat.add_sub_cancel_left]
  rw [show (256 : Nat) = 2 ^ 8 from rfl, bN_mod]

end Go.Proofs.YtmddnmpldmdllaaDoor

namespace Go.Proofs.YtmddnmpldmdllaaDoor
open Go.RowKit
set_option linter.unusedVariables false

/-- A Writer that has these bits; v: its row. -/
def WrL (w : World) (b B : Nat) (v : Value) (L : List Bool) : Prop := ∃ a cap ws r c, v = .slice a ws.length cap ∧ Wr w b B a cap ws r c ∧ c < 8 ∧ L = bB ws ++ bN r c
theorem WrL.kp {w w' : World} {b B : Nat} {v : Value} {L : List Bool} {S : Nat → Prop} (h : WrL w b B v L) (hk : Kp S w w') (h1 : ¬ S b) (h2 : ∀ k, v.ownBlock = some k → ¬ S k) : WrL w' b B v L := by
  obtain ⟨a, cap, ws, r, c, rfl, h, r⟩ := h
  exact ⟨a, cap, ws, _, c, rfl, h.kp hk h1 h2, r⟩
theorem WrL.b_lt {w : World} {b B : Nat} {v : Value} {L : List Bool} (h : WrL w b B v L) : b < w.heap.size := by
  obtain ⟨a, cap, ws, r, c, rfl, h, r⟩ := h
  exact h.b_lt
theorem WrL.own_lt {w : World} {b B : Nat} {v : Value} {L : List Bool} (h : WrL w b B v L) : ∀ k, v.ownBlock = some k → B ≤ k ∧ k < w.heap.size ∧ k ≠ b := by
  obtain ⟨a, cap, ws, r, c, rfl, h, r⟩ := h
  intro k e
  exact ⟨(h.own.lt k e).1, (h.own.lt k e).2, fun e2 => h.ne (e2 ▸ e)⟩
def putL (L : List Bool) (x : Nat) (n : Int) : List Bool := if errW x n = 0 then L ++ bN x n.toNat else L
def turnL (L : List Bool) (x : Nat) (n : Int) : List Bool := if errW x n = 0 then L ++ (bN x n.toNat).reverse else L
def padN (n : Nat) : Nat := (8 - n % 8) % 8
def alignL (L : List Bool) : List Bool := L ++ List.replicate (padN L.length) false

theorem flip_bits (x k : Nat) (hk : k ≤ 56) : flipN x k < 2 ^ k ∧ bN (flipN x k) k = (bN x k).reverse := by
  have hc : cnt (k : Int) = k := by unfold cnt; omega
  unfold flipN
  rw [hc]
  exact ⟨rev_lt x k, bN_num' (rev_len x k)⟩

end Go.Proofs.YtmddnmpldmdllaaDoor

namespace Go.Proofs.YtmddnmpldmdllaaDoor
open Go.RowKit
set_option linter.unusedVariables false

theorem padN_add (n : Nat) : (n + padN n) % 8 = 0 := by unfold padN; omega
theorem alignL_len (L : List Bool) : (alignL L).length = L.length + padN L.length := by simp [alignL]

end Go.Proofs.YtmddnmpldmdllaaDoor

namespace Go.Proofs.YtmddnmpldmdllaaDoor
open Go.RowKit
set_option linter.unusedVariables false

theorem row_cap {w : World} {base n : Nat} {e : TypeId} {cap : Nat} {xs : List Value} (h : w.ownsRow base e 1 (.slice none n cap) n xs) : cap = 0 ∧ n = 0 := by
  rcases h.2 with ⟨e0, h0⟩ | ⟨g, cp, cur, e0, _⟩
  · simp at e0; exact ⟨e0.2, h0⟩
  · simp at e0

end Go.Proofs.YtmddnmpldmdllaaDoor

namespace Go.Proofs.YtmddnmpldmdllaaDoor
open Go.RowKit
set_option linter.unusedVariables false

/-- An encoder of these lengths, all of it below block N. -/
structure En (w : World) (b N : Nat) (zs : List Int) : Prop where
  ok : errC zs = 0
  lt : b < N
  row : ∃ la lc ca cc, w.heap[b]? = some (.cells #[.bool true, .slice la zs.length lc, .slice ca zs.length cc] 158 (0, 0)) ∧ SegZ w la zs ∧ SegZ w ca (cds zs) ∧ (∀ x, la = some x → x.block < N) ∧ (∀ x, ca = some x → x.block < N)
theorem En.old {w w' : World} {b N : Nat} {zs : List Int} (h : En w b N zs) (hb : Below N w w') : En w' b N zs := by
  obtain ⟨la, lc, ca, cc, h1, h2, h3, h4, h5⟩ := h.row
  refine ⟨h.ok, h.lt, la, lc, ca, cc, (hb.block b h.lt).trans h1, ?_, ?_, h4, h5⟩
  · exact h2.of_cells fun b' off i v _ ha hc => by
      have := h4 _ ha
      exact (hb.cell (p := ⟨b', off + i, none⟩) this).trans hc
  · exact h3.of_cells fun b' off i v _ ha hc => by
      have := h5 _ ha
      exact (hb.cell (p := ⟨b', off + i, none⟩) this).trans hc
theorem own_blk {w : World} {base n cap : Nat} {e : TypeId} {b : Option Addr} {xs : List Value} (h : w.ownsRow base e 1 (.slice b n cap) n xs) : ∀ x, b = some x → base ≤ x.block ∧ x.block < w.heap.size := by
  rcases h.2 with ⟨h1, h2⟩ | ⟨g, cp, cur, h1, h2, h3, h4, _⟩
  · simp only [Value.slice.injEq] at h1
    obtain ⟨rfl, _, rfl⟩ := h1
    intro x h
    cases h
  · simp only [Value.slice.injEq] at h1
    obtain ⟨rfl, _, rfl⟩ := h1
    intro x h
    cases h
    exact ⟨h2, (Array.getElem?_eq_some_iff.1 h3).1⟩
theorem cd_small {zs : List Int} (h : errC zs = 0) {s : Nat} (hs : s < zs.length) : cd zs s < 2 ^ ln zs s ∧ ln zs s ≤ 15 ∧ cd zs s < 32768 := by
  have hL := (errS_zero (errC_zero h).1).2
  have hp : spc zs ≤ 32768 := by
    have h1 := (errC_zero h).2
    unfold errR at h1
    by_cases c : 32768 < spc zs
    · rw [if_pos c] at h1; cases h1
    · omega
  have h1 := cd_lt hL hp hs
  have h2 := (hL.ln s).2
  have h3 : 2 ^ ln zs s ≤ 2 ^ 15 := Nat.pow_le_pow_right (by decide) h2
  exact ⟨h1, h2, Nat.lt_of_lt_of_le h1 h3⟩
theorem cds_bd {zs : List Int} (h : errC zs = 0) : ∀ z ∈ cds zs, -9223372036854775808 ≤ z ∧ z ≤ 9223372036854775807 := by
  intro z hz
  unfold cds at hz
  obtain ⟨s, hs, rfl⟩ := List.mem_map.1 hz
  rw [List.mem_range] at hs
  have := (cd_small h hs).2.2
  omega

def EncQ (w : World) (zs : List Int) (e : Ending) (w' : World) : Prop := (errC zs = 0 → ∃ b, e = .returned (.tuple #[.pointer (some ⟨b, 0, none⟩), .int .i64 0]) ∧ w.heap.size ≤ b ∧ En w' b w'.heap.size zs) ∧ (errC zs ≠ 0 → e = .returned (.tuple #[.pointer none, .int .i64 (errC zs)])) ∧ Below w.heap.size w w'
end Go.Proofs.YtmddnmpldmdllaaDoor

namespace Go.Proofs.YtmddnmpldmdllaaDoor
open Go.RowKit
set_option linter.unusedVariables false

/-- What a symbol costs, and its bits. -/
def costV (zs : List Int) (s : Int) : Int := if 0 ≤ s ∧ s < zs.length then zs.getD s.toNat 0 else 0
def cbits (zs : List Int) (s : Nat) : List Bool := (bN (cd zs s) (ln zs s)).reverse
def putB (zs : List Int) (s : Int) : List Bool := if costV zs s = 0 then [] else cbits zs s.toNat
def errP (zs : List Int) (s : Int) : Int := if costV zs s = 0 then 53 else 0
theorem En.cells {w : World} {b N : Nat} {zs : List Int} (h : En w b N zs) : ∃ la lc ca cc, w.cell? ⟨b, 0, none⟩ = some (.bool true) ∧ w.cell? ⟨b, 1, none⟩ = some (.slice la zs.length lc) ∧ w.cell? ⟨b, 2, none⟩ = some (.slice ca zs.length cc) ∧ SegZ w la zs ∧ SegZ w ca (cds zs) := by
  obtain ⟨la, lc, ca, cc, h1, h2, h3, _, _⟩ := h.row
  exact ⟨la, lc, ca, cc, three_cell0 h1, three_cell1 h1, three_cell2 h1, h2, h3⟩

theorem costV_pos {zs : List Int} {s : Int} (h : costV zs s ≠ 0) : ∃ k : Nat, s = (k : Int) ∧ k < zs.length ∧ costV zs s = zs.getD k 0 ∧ zs.getD k 0 ≠ 0 := by
  unfold costV at h ⊢
  by_cases c : 0 ≤ s ∧ s < zs.length
  · rw [if_pos c] at h ⊢
    exact ⟨s.toNat, by omega, by omega, rfl, h⟩
  · rw [if_neg c] at h
    exact absurd rfl h

end Go.Proofs.YtmddnmpldmdllaaDoor
