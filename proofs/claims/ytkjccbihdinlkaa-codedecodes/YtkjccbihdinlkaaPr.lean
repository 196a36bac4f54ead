import Derived.Test.YtkjccbihdinlkaaPn
import Derived.Test.YtkjccbihdinlkaaPp
import Derived.Test.YtkjccbihdinlkaaPq
import Derived.Deep.RegionHeld3
import Derived.Test.YtkjccbihdinlkaaPm
namespace Go.Proofs.Ytkjccbihdinlkaa
open Go.RowKit
set_option linter.unusedVariables false

theorem seg_bool1 (w : World) (y : Bool) : SegB (w.alloc (.cells #[.bool y] 4)) (some ⟨w.heap.size, 0, none⟩) [y] := by
  refine ⟨fun i hi => ⟨w.heap.size, 0, rfl, ?_⟩⟩
  simp only [List.length_cons, List.length_nil] at hi
  match i, hi with
  | 0, _ => simp
theorem and_oneI (v : Nat) : bits .and .i64 (v : Int) 1 = ((v % 2 : Nat) : Int) := by
  have h1 : (BitVec.ofInt 64 1).toNat = 2 ^ 1 - 1 := by decide
  have key : (BitVec.ofInt 64 (v : Int) &&& BitVec.ofInt 64 1).toNat = ((v : Int) % ((2 ^ 64 : Nat) : Int)).toNat % 2 ^ 1 := by
    rw [BitVec.toNat_and, BitVec.toNat_ofInt, h1, Nat.and_two_pow_sub_one_eq_mod]
  show IntKind.i64.wrap ((BitVec.ofInt 64 (v : Int) &&& BitVec.ofInt 64 1).toNat : Nat) = ((v % 2 : Nat) : Int)
  rw [key, IntKind.wrap_i64]
  omega
set_option maxRecDepth 100000 in
set_option maxHeartbeats 1000000 in
theorem row5_any (x k : Nat) (w : World) (hx : x < 32768) (hk : k ≤ 15) :
    Calls Try.prog 44 #[.int .i64 (x : Int), .int .i64 (k : Int)] w fun e w' => ∃ a c, e = .returned (.slice a k c) ∧ w'.ownsRow w.heap.size 4 1 (.slice a k c) k ((bN x k).reverse.map Value.bool) ∧ Below w.heap.size w w' := by
  obtain ⟨i0, hi, hz0, hz1, hz2⟩ := info_parts info_b1
  go_enter Try.func44, Try.ntmps44
  go_wp2_with fail
  go_loopw [5, 6] (fun tl ti wr => ∃ (m : Nat) (a1 : Option Addr) (c1 : Nat), m ≤ k ∧ ti = .int .i64 ((m : Int) - 1) ∧ tl = .slice a1 (k - m) c1 ∧ wr.ownsRow w.heap.size 4 1 (.slice a1 (k - m) c1) (k - m) (((bN x k).reverse.take (k - m)).map Value.bool) ∧ Below w.heap.size w wr) (fun _ ti _ => (intOf ti + 1).toNat)
  case atStart => exact ⟨k, none, 0, Nat.le_refl _, rfl, by rw [Nat.sub_self], by rw [Nat.sub_self, List.take_zero]; exact World.ownsRow_nil _ _ _ _, Below.refl _ _⟩
  case round =>
    obtain ⟨m, a1, c1, hm, rfl, rfl, O1, B1⟩ := hrel
    by_cases hlt : 0 < m
    · obtain ⟨i, rfl⟩ : ∃ i, m = i + 1 := ⟨m - 1, by omega⟩
      have hbs := rev_take x k i (by omega)
      have him : (((i + 1 : Nat) : Int) - 1) = (i : Int) := by omega
      rw [him]
      have HK : Hid (k - (i + 1) + 1 = k - i) := by show _ = _; omega
      have HB : Hid (((bN x k).reverse.take (k - (i + 1))).map Value.bool ++ [x.testBit i].map Value.bool = ((bN x k).reverse.take (k - i)).map Value.bool) := by show _ = _; rw [hbs, List.map_append]
      have hq := shr_nat x i
      have ha := and_oneI (x / 2 ^ i)
      have hb := bit_eq x i
      have hq0 : x / 2 ^ i < 32768 := Nat.lt_of_le_of_lt (Nat.div_le_self _ _) hx
      have hkm : k - (i + 1) ≤ 15 := by omega
      have hi15 : i ≤ 15 := by omega
      have hsz := B1.size
      clear him hbs
      generalize hqq : x / 2 ^ i = q at *
      clear hqq
      have hb2 : q % 2 < 2 := by omega
      generalize q % 2 = bb at *
      generalize x.testBit i = y at *
      generalize k - (i + 1) = r at *
      go_wp2_with (first
        | (at_builtin; refine wpList_appB rfl (.tmp 13) (.tmp 19) 48 rfl w.heap.size 4 i0 (.bool false) 1 Try.underlying48 hi hz0 hz1 hz2 rfl (O1.alloc _) (seg_bool1 wr y) (by intro h; cases h) rfl rfl (by simp; omega) (by simp; omega) (by simp; omega) ?_; intro a2 c2 w2 hown2 hg2 hf2; clear hf2))
      have B2 : Below w.heap.size w w2 := (B1.alloc hsz _).trans (below_own (O1.alloc _) hg2 (by simp; omega))
      rw [HB.out, show r + [y].length = k - i from HK.out] at hown2
      refine ⟨⟨i, a2, c2, by omega, rfl, by rw [← HK.out], hown2, B2⟩, ?_⟩
      show (((i : Int) - 1) + 1).toNat < ((i : Int) + 1).toNat
      omega
    · obtain rfl : m = 0 := by omega
      go_wp2_with fail
      go_ret
      rw [Nat.sub_zero, List.take_of_length_le (by rw [rev_len]; omega)] at O1
      exact ⟨a1, c1, by rw [Nat.sub_zero]; rfl, O1, B1⟩

theorem costV_in {zs : List Int} {k : Nat} (hk : k < zs.length) : costV zs k = zs.getD k 0 := by
  unfold costV
  rw [if_pos ⟨by omega, by omega⟩, Int.toNat_natCast]
theorem putB_in {zs : List Int} (h : errC zs = 0) {k : Nat} (hk : k < zs.length) : putB zs k = (bN (cd zs k) (ln zs k)).reverse := by
  have hL := (errS_zero (errC_zero h).1)
  have HLN := hL.2.ln k
  unfold putB
  rw [costV_in hk, HLN.1, Int.toNat_natCast]
  by_cases hz : ln zs k = 0
  · rw [if_pos (by omega), hz]; rfl
  · rw [if_neg (by omega)]; rfl
theorem putB_out {zs : List Int} {s : Int} (h : s < 0 ∨ (zs.length : Int) ≤ s) : putB zs s = [] := by
  have h0 : costV zs s = 0 := by unfold costV; rw [if_neg (by omega)]
  unfold putB
  rw [if_pos h0]
theorem putB_cost {zs : List Int} (h : errC zs = 0) (s : Int) : costV zs s = ((putB zs s).length : Int) := by
  by_cases hs : 0 ≤ s ∧ s < zs.length
  · obtain ⟨k, rfl⟩ : ∃ k : Nat, s = k := ⟨s.toNat, by omega⟩
    rw [putB_in h (by omega), rev_len]
    unfold costV
    rw [if_pos hs, Int.toNat_natCast]
    exact ((errS_zero (errC_zero h).1).2.ln k).1
  · rw [putB_out (by omega)]
    unfold costV
    rw [if_neg hs]
    rfl
theorem putB_err {zs : List Int} (h : errC zs = 0) (s : Int) : errP zs s = if (putB zs s).length = 0 then 53 else 0 := by
  unfold errP
  rw [putB_cost h]
  by_cases hz : (putB zs s).length = 0
  · rw [if_pos (by omega), if_pos hz]
  · rw [if_neg (by omega), if_neg hz]
theorem putB_le {zs : List Int} (h : errC zs = 0) (s : Int) : (putB zs s).length ≤ 15 := by
  by_cases hs : 0 ≤ s ∧ s < zs.length
  · obtain ⟨k, rfl⟩ : ∃ k : Nat, s = k := ⟨s.toNat, by omega⟩
    rw [putB_in h (by omega), rev_len]
    exact ((errS_zero (errC_zero h).1).2.ln k).2
  · rw [putB_out (by omega)]
    simp

set_option maxRecDepth 100000 in
set_option maxHeartbeats 1000000 in
theorem bits5_any (a : Option Addr) (zs : List Int) (n cap : Nat) (hn : Hid (zs.length = n)) (s : Int) (w : World) (hs : SegZ w a zs) (hok : errC zs = 0) (hs0 : -9223372036854775808 ≤ s) (hs1 : s ≤ 9223372036854775807) :
    Calls Try.prog 20 #[.slice a n cap, .int .i64 s] w fun e w' => ∃ b c, e = .returned (.slice b (putB zs s).length c) ∧ w'.ownsRow w.heap.size 4 1 (.slice b (putB zs s).length c) (putB zs s).length ((putB zs s).map Value.bool) ∧ Below w.heap.size w w' := by
  have HL := errS_zero (errC_zero hok).1
  have hn288 : n ≤ 288 := by have := hn.out; have := HL.1; omega
  have HC := rcodes_any a zs n cap hn w hs (by omega)
  have e1 : Hid (cdsR zs = cds zs) := by show _ = _; unfold cdsR; rw [if_pos hok]
  have e3 : Hid ((cds zs).length = n) := by show _ = _; rw [cds_len]; exact hn.out
  have HOK : Hid (errC zs = 0) := hok
  by_cases hin : 0 ≤ s ∧ s < n
  · obtain ⟨k, rfl⟩ : ∃ k : Nat, s = k := ⟨s.toNat, by omega⟩
    have hk : k < zs.length := by have := hn.out; omega
    have HP : Hid (putB zs k = (bN (cd zs k) (ln zs k)).reverse) := putB_in hok hk
    have HSM := cd_small hok hk
    have HLN := (HL.2.ln k).1
    have HCB := cds_bd hok
    obtain ⟨g, off, rfl, c0⟩ := hs.at_ k hk
    rw [HLN] at c0
    have hki : (k : Int) < (n : Int) := by omega
    have hin2 : ¬ (n : Int) ≤ (k : Int) := by omega
    have hg : g < w.heap.size := World.block_lt_of_cell? w _ c0
    clear hok HL hin HLN
    rw [HP.out, rev_len]
    go_enter Try.func20, Try.ntmps20
    go_wp2_with fail
    refine HC.mono ?_
    rintro e w1 ⟨b1, c1, rfl, O1, B1⟩
    rw [e1.out, e3.out] at O1
    rw [e1.out, e3.out, HOK.out]
    have Z1 := own_segZ O1 HCB
    obtain ⟨g1, off1, rfl, d0⟩ := Z1.at_ k (by rw [e3.out]; omega)
    rw [cds_get zs hk] at d0
    have c0 := (B1.cell (p := ⟨g, off + k, none⟩) hg).trans c0
    have R := row5_any (cd zs k) (ln zs k)
    have hcs := HSM.2.2
    have hl15 := HSM.2.1
    clear O1 Z1 HSM
    have hgA : g < w1.heap.size := World.block_lt_of_cell? w1 _ c0
    have hgB : g1 < w1.heap.size := World.block_lt_of_cell? w1 _ d0
    go_wp2_with fail
    go_region_held3 (fun w' => w'.cell? ⟨g, off + k, none⟩ = some (.int .i64 (ln zs k : Int)) ∧ w'.cell? ⟨g1, off1 + k, none⟩ = some (.int .i64 (cd zs k : Int))) (first | go_keep | exact ⟨cA, cB⟩)
      (first | (go_at_call 44; refine (R _ hcs hl15).mono ?_; rintro e w2 ⟨a2, c2, rfl, O2, B2⟩; have cA := (B2.cell (p := ⟨g, off + k, none⟩) hgA).trans c0; have cB := (B2.cell (p := ⟨g1, off1 + k, none⟩) hgB).trans d0))
    all_goals
      go_wp2
      go_ret
      exact ⟨a2, c2, rfl, own_base O2 B1.size, B1.drew.trans (B2.mono B1.size)⟩
  · have HP : Hid (putB zs s = []) := putB_out (by have := hn.out; omega)
    have hcs : s < 0 ∨ ¬ s < 0 ∧ (n : Int) ≤ s := by omega
    clear HL hin hok
    rw [HP.out]
    rcases hcs with h1 | ⟨h1, h2⟩
    all_goals
      go_enter Try.func20, Try.ntmps20
      go_wp2_with fail
      refine HC.mono ?_
      rintro e w1 ⟨b1, c1, rfl, O1, B1⟩
      rw [e1.out, e3.out, HOK.out]
      clear O1
      go_wp2_with fail
      go_ret
      exact ⟨none, 0, rfl, World.ownsRow_nil _ _ _ _, B1⟩
set_option maxRecDepth 100000 in
theorem put5_made (b N : Nat) (zs : List Int) (s : Int) (w : World) (h : En w b N zs) : Calls Try.prog 22 #[.pointer (some ⟨b, 0, none⟩), .pointer none, .int .i64 s] w fun e w' => e = .returned (.int .i64 2) ∧ w' = w := by
  obtain ⟨la, lc, ca, cc, c0, _, _, _, _⟩ := h.cells
  go_enter Try.func22, Try.ntmps22
  go_wp2_with fail
  go_ret
  exact ⟨rfl, rfl⟩

def EncF (w : World) (zs : List Int) (e : Ending) (w' : World) : Prop := (errC zs = 0 → ∃ b, e = .returned (.tuple #[.pointer (some ⟨b, 0, none⟩), .int .i64 0]) ∧ w.heap.size ≤ b ∧ En w' b w'.heap.size zs ∧ ∀ W, Kp (fun k => k < w.heap.size) w' W → En W b w'.heap.size zs) ∧ (errC zs ≠ 0 → e = .returned (.tuple #[.pointer none, .int .i64 (errC zs)])) ∧ Below w.heap.size w w'
set_option maxRecDepth 100000 in
set_option maxHeartbeats 1000000 in
theorem newEnc_far (a : Option Addr) (zs : List Int) (n cap : Nat) (hn : Hid (zs.length = n)) (w : World) (hs : SegZ w a zs) (hnil : a = none → cap = 0) (hl : n ≤ 9223372036854775807) :
    Calls Try.prog 19 #[.slice a n cap] w fun e w' => EncF w zs e w' := by
  have HC := codes_any a zs n cap hn w hs hl
  by_cases hok : errC zs = 0
  · have HOK : Hid (errC zs = 0) := hok
    have HL := errS_zero (errC_zero hok).1
    have hn288 : n ≤ 288 := by have := hn.out; have := HL.1; omega
    clear hok HL
    have HCL : Hid (∀ W, Below w.heap.size w W → Calls Try.prog 43 #[.slice a n cap] W fun e w' => ∃ a' c', e = .returned (.slice a' n c') ∧ w'.ownsRow W.heap.size 3 1 (.slice a' n c') n (zs.map (Value.int .i64)) ∧ Below W.heap.size W w') := fun W hW => clone5_any a zs n cap hn W (hs.old hW) hnil (by omega)
    have e1 : Hid (cdsR zs = cds zs) := by show _ = _; unfold cdsR; rw [if_pos HOK.out]
    have e3 : Hid ((cds zs).length = n) := by show _ = _; rw [cds_len]; exact hn.out
    go_enter Try.func19, Try.ntmps19
    go_wp2_with fail
    refine HC.mono ?_
    rintro e W1 ⟨b1, c1, rfl, O1, B1⟩
    rw [e1.out, e3.out] at O1
    rw [e1.out, e3.out, HOK.out]
    go_wp2_with fail
    refine (HCL.out _ B1).mono ?_
    rintro e W2 ⟨a2, c2, rfl, O2, B2⟩
    have B12 : Below w.heap.size w W2 := B1.trans (B2.mono B1.size)
    have O1b := own_below O1 B2
    go_wp2_with fail
    go_ret2
    have hbl := own_blk O2
    have hbl1 := own_blk O1b
    have hzb : ∀ z ∈ zs, -9223372036854775808 ≤ z ∧ z ≤ 9223372036854775807 := hs.mem
    have HEN : En (W2.alloc (.cells #[.bool true, .slice a2 n c2, .slice b1 n c1] 86)) W2.heap.size (W2.alloc (.cells #[.bool true, .slice a2 n c2, .slice b1 n c1] 86)).heap.size zs := by
      refine ⟨HOK.out, by simp, a2, c2, b1, c1, ?_, ?_, ?_, ?_, ?_⟩
      · rw [hn.out]; exact heap_alloc_new W2 _
      · exact (own_segZ O2 hzb).alloc _
      · exact (own_segZ O1b (cds_bd HOK.out)).alloc _
      · intro x hx
        have := hbl x hx
        simp
        omega
      · intro x hx
        have := hbl1 x hx
        simp
        omega
    refine ⟨fun _ => ⟨W2.heap.size, rfl, B12.size, HEN, fun W hW => ?_⟩, fun h => absurd HOK.out h, B12.alloc B12.size _⟩
    refine ⟨HOK.out, by simp, a2, c2, b1, c1, ?_, ?_, ?_, ?_, ?_⟩
    · rw [hn.out]; exact hW.heap (heap_alloc_new W2 _) (by have := B12.size; omega)
    · exact ((own_segZ O2 hzb).alloc _).kp hW (fun b off e _ => by have := hbl _ e; have := B1.size; simp at *; omega)
    · exact ((own_segZ O1b (cds_bd HOK.out)).alloc _).kp hW (fun b off e _ => by have := hbl1 _ e; simp at *; omega)
    · intro x hx
      have := hbl x hx
      simp
      omega
    · intro x hx
      have := hbl1 x hx
      simp
      omega
  · have HNK : Hid (¬ errC zs = 0) := hok
    have key : ∀ E : Int, E = 50 ∨ E = 51 ∨ E = 52 → errC zs = E → Calls Try.prog 19 #[.slice a n cap] w fun e w' => EncF w zs e w' := by
      intro E hE hEE
      have HEE : Hid (errC zs = E) := hEE
      clear hEE hok
      rcases hE with rfl | rfl | rfl
      all_goals
        go_enter Try.func19, Try.ntmps19
        go_wp2_with fail
        refine HC.mono ?_
        rintro e W1 ⟨b1, c1, rfl, O1, B1⟩
        rw [HEE.out]
        clear O1
        go_wp2_with fail
        go_ret2
        exact ⟨fun h => absurd h HNK.out, fun _ => by rw [HEE.out]; rfl, B1⟩
    rcases errC_cases zs with h | h | h | h
    · exact absurd h hok
    · exact key 50 (.inl rfl) h
    · exact key 51 (.inr (.inl rfl)) h
    · exact key 52 (.inr (.inr rfl)) h
end Go.Proofs.Ytkjccbihdinlkaa

namespace Go.Proofs.Ytkjccbihdinlkaa
open Go.RowKit
set_option linter.unusedVariables false

theorem seg_lit {w : World} : SegZ (w.alloc (.cells #[.int .i64 2, .int .i64 1, .int .i64 3, .int .i64 3] 3)) (some ⟨w.heap.size, 0, none⟩) [2, 1, 3, 3] := by
  refine ⟨fun i hi => ⟨w.heap.size, 0, rfl, ?_⟩, getD_bdz (by intro z hz; simp at hz; omega)⟩
  simp only [List.length_cons, List.length_nil] at hi
  match i, hi with
  | 0, _ => simp
  | 1, _ => simp
  | 2, _ => simp
  | 3, _ => simp
set_option maxRecDepth 100000 in
set_option maxHeartbeats 400000 in
theorem first5_any (w : World) : Calls Try.prog 38 #[] w fun e w' => ∃ g, e = .returned (.slice (some ⟨g, 0, none⟩) 4 4) ∧ SegZ w' (some ⟨g, 0, none⟩) [2, 1, 3, 3] ∧ Below w.heap.size w w' := by
  go_enter Try.func38, Try.ntmps38
  go_wp2_with fail
  go_ret
  exact ⟨w.heap.size, rfl, seg_lit, (Below.refl _ _).alloc (Nat.le_refl _) _⟩
theorem ex_ok : errC [2, 1, 3, 3] = 0 := by decide
theorem ex_put2 : errP [2, 1, 3, 3] 2 = 0 ∧ putB [2, 1, 3, 3] 2 = [true, true, false] := by decide
theorem ex_put1 : errP [2, 1, 3, 3] 1 = 0 ∧ putB [2, 1, 3, 3] 1 = [false] := by decide
theorem ex_beg2 : Beg [2, 1, 3, 3] (bN 3 8) 2 := by unfold Beg; decide
theorem ex_beg1 : Beg [2, 1, 3, 3] ((bN 3 8).drop 3) 1 := by unfold Beg; decide
theorem toB_three : toB [true, true, false, false] = [3] := by
  rw [toB_eq (by decide)]
  rw [show ([true, true, false, false] : List Bool).drop 8 = [] from by decide, toB_nil]
  decide
theorem ex_lok : LOk [2, 1, 3, 3] := by unfold LOk; decide

set_option maxRecDepth 100000 in
set_option maxHeartbeats 2000000 in
theorem lives5_any (w : World) : Calls Try.prog 9 #[] w fun e w' => e = .returned (.bool true) ∧ Below w.heap.size w w' := by
  go_enter Try.func9, Try.ntmps9
  go_wp2_with fail
  refine (first5_any w).mono ?_
  rintro e w1 ⟨g1, rfl, s1, B1⟩
  go_wp2_with fail
  refine (newEnc_any (some ⟨g1, 0, none⟩) [2, 1, 3, 3] 4 4 rfl w1 s1 (by intro h; cases h) (by omega)).mono ?_
  rintro e w2 ⟨hE, _, B2⟩
  obtain ⟨be, rfl, hbe, E2⟩ := hE ex_ok
  clear hE
  go_wp2_with fail
  refine (newDec_any 4 (by omega) (by omega) w2).mono ?_
  rintro e w3 ⟨rfl, hw3⟩
  have hd3 : w3.heap[w2.heap.size]? = some (.cells (arr (dl 4 [] Z288)) 95 (0, 0)) := by rw [hw3]; exact heap_alloc_new w2 _
  have B3 : Below w2.heap.size w2 w3 := by rw [hw3]; exact (Below.refl _ _).alloc (Nat.le_refl _) _
  have D3 : De w3 w2.heap.size 4 [] := De.new (by omega) (by omega) hd3
  clear hw3 hd3
  have E3 := E2.old B3
  obtain ⟨bd, hbd⟩ : ∃ bd, bd = w2.heap.size := ⟨_, rfl⟩
  rw [← hbd] at D3 E3 ⊢
  have HBD : Hid (bd = w2.heap.size) := hbd
  clear hbd
  go_wp2_with fail
  refine (first5_any w3).mono ?_
  rintro e w4 ⟨g4, rfl, s4, B4⟩
  have hs23 := B3.size
  have hs34 := B4.size
  have E4 := E3.old (B4.mono (by have := HBD.out; omega))
  have D4 := D3.keep (B4.block bd D3.lt)
  have e1 : errD 4 [2, 1, 3, 3] = 0 := by decide
  go_wp2_with fail
  refine (load_any bd 4 [] (some ⟨g4, 0, none⟩) [2, 1, 3, 3] 4 4 rfl w4 D4 s4 (by omega)).mono ?_
  rintro e w5 ⟨rfl, D5, K5⟩
  rw [e1, if_pos rfl] at D5
  rw [e1]
  clear e1
  have hs45 := K5.size
  have B5 : Below bd w4 w5 := K5.below (fun i e => by omega) (by have := HBD.out; omega)
  have E5 := E4.old B5
  have h6 : WrL (w5.alloc (.cells #[.slice none 0 0, .int .u64 0, .int .i64 0] 47)) w5.heap.size w5.heap.size (.slice none 0 0) [] := WrL.new (heap_new _ _) (by simp)
  have B6 : Below w5.heap.size w5 (w5.alloc (.cells #[.slice none 0 0, .int .u64 0, .int .i64 0] 47)) := (Below.refl _ _).alloc (Nat.le_refl _) _
  go_wp2_with fail
  generalize w5.alloc (.cells #[.slice none 0 0, .int .u64 0, .int .i64 0] 47) = w6 at *
  have hs56 := B6.size
  have E6 := E5.old (B6.mono (by have := HBD.out; omega))
  have D6 := D5.keep (B6.block bd D5.lt)
  obtain ⟨bw, hbw⟩ : ∃ bw, bw = w5.heap.size := ⟨_, rfl⟩
  rw [← hbw] at h6 ⊢
  have HBW : Hid (bw = w5.heap.size) := hbw
  clear hbw
  have hdw : bd < bw := by have := HBW.out; have := D5.lt; omega
  refine (put5_any be bd [2, 1, 3, 3] 2 bw bw _ [] w6 E6 h6 (by simp)).mono ?_
  rw [ex_put2.1, ex_put2.2]
  rintro e w7 ⟨rfl, v7, h7, k7, f7⟩
  have B7 := h6.below k7 (Nat.le_refl _) (Nat.le_refl _)
  have E7 := E6.old (B7.mono (by omega))
  have D7 := D6.keep (B7.block bd hdw)
  go_wp2_with fail
  refine (put5_any be bd [2, 1, 3, 3] 1 bw bw _ _ w7 E7 h7 (by simp)).mono ?_
  rw [ex_put1.1, ex_put1.2]
  rintro e w8 ⟨rfl, v8, h8, k8, f8⟩
  have B8 := h7.below k8 (Nat.le_refl _) (Nat.le_refl _)
  have D8 := D7.keep (B8.block bd hdw)
  have eL : (([] : List Bool) ++ [true, true, false] ++ [false]) = [true, true, false, false] := rfl
  rw [eL] at h8
  clear eL
  go_wp2_with fail
  refine (len_any bw bw _ _ _ h8 (by simp)).mono ?_
  rintro e w9 ⟨rfl, B9⟩
  have h9 : WrL w9 bw bw v8 [true, true, false, false] := h8.kp (S := fun _ => False) (Kp.of_below B9) (by simp) (by simp)
  have D9 := D8.keep (B9.block bd D8.lt)
  have hb9 := h9.b_lt
  have hR : (w9.alloc (.cells #[.int .u64 0, .int .i64 0, .int .i64 0] 63)).heap[w9.heap.size]? = some (.cells #[.int .u64 0, .int .i64 0, .int .i64 0] 63 (0, 0)) := heap_new _ _
  have BA : Below w9.heap.size w9 (w9.alloc (.cells #[.int .u64 0, .int .i64 0, .int .i64 0] 63)) := (Below.refl _ _).alloc (Nat.le_refl _) _
  have hA : WrL (w9.alloc (.cells #[.int .u64 0, .int .i64 0, .int .i64 0] 63)) bw bw v8 [true, true, false, false] := h9.kp (S := fun _ => False) (Kp.of_below BA) (by simp) (by simp)
  have rA := Rd.new hR
  have DA := D9.keep (BA.block bd D9.lt)
  have hlen : (([true, true, false, false] : List Bool).length : Int) = 4 := rfl
  rw [hlen]
  clear hlen hR
  obtain ⟨q, hq⟩ : ∃ q, q = w9.heap.size := ⟨_, rfl⟩
  have HQ : Hid (q = w9.heap.size) := hq
  clear hq
  go_wp2_with fail
  generalize w9.alloc (.cells #[.int .u64 0, .int .i64 0, .int .i64 0] 63) = wA at *
  rw [← HQ.out] at rA ⊢
  refine (bytes_any bw bw _ _ _ hA (by simp)).mono ?_
  rw [toB_three]
  rintro e wB ⟨aB, cB, rfl, ownB, BB⟩
  have rB : Rd wB q [] 0 := rA.kp (S := fun _ => False) (Kp.of_below BB) (by simp)
  have DB := DA.keep (BB.block bd DA.lt)
  obtain ⟨_, a', c', hv, hsB, hxB, hcB, _⟩ := own_seg (zs := [3]) ownB (M := 255) (by decide) (by decide)
  cases hv
  have hqA := rA.b_lt
  go_wp2_with fail
  refine (feed_any q [] 0 aB [3] cB wB rB hsB hcB (fun g off e _ e2 => by have h6 := (hxB _ e).2.2.1; simp at h6; omega) (by simp)).mono ?_
  rintro e wC ⟨rfl, rC, kC⟩
  clear hqA
  have e1 : feedN [] ([3] : List Int).length = 1 := by decide
  have e2 : ([] ++ bB (([3] : List Int).take 1)) = bN 3 8 := by decide
  rw [e1, e2] at rC
  rw [e1]
  clear e1 e2
  have hqd : bd < q := by have := HQ.out; have := D9.lt; omega
  have DC := DB.keep (kC.block bd DB.lt (by omega))
  go_wp2_with fail
  refine (next5_any bd 4 [2, 1, 3, 3] q (bN 3 8) 0 wC DC rC (by omega)).mono ?_
  rintro e wD ⟨hN, kD⟩
  rcases hN with ⟨s, hs, rfl, rD⟩ | ⟨hs, _⟩ | ⟨hs, _⟩
  · obtain rfl := beg_one ex_lok hs ex_beg2
    clear hs
    have eD : (bN 3 8).drop (ln [2, 1, 3, 3] 2) = (bN 3 8).drop 3 := by decide
    have eT : 0 + ln [2, 1, 3, 3] 2 = 3 := by decide
    rw [eD, eT] at rD
    clear eD eT
    have DD := DC.keep (kD.block bd DC.lt (by omega))
    have e2 : ((2 : Nat) : Int) = 2 := rfl
    rw [e2]
    clear e2
    go_wp2_with fail
    refine (next5_any bd 4 [2, 1, 3, 3] q ((bN 3 8).drop 3) 3 wD DD rD (by omega)).mono ?_
    rintro e wE ⟨hN, kE⟩
    rcases hN with ⟨s, hs, rfl, rE⟩ | ⟨hs, _⟩ | ⟨hs, _⟩
    · obtain rfl := beg_one ex_lok hs ex_beg1
      clear hs
      have e2 : ((1 : Nat) : Int) = 1 := rfl
      rw [e2]
      clear e2
      go_wp2
      go_ret
      refine ⟨rfl, ?_⟩
      have hbd := HBD.out
      have hbw := HBW.out
      have hq := HQ.out
      have s1 := B1.size
      have s2 := B2.size
      have s7 := B7.size
      have s8 := B8.size
      have s9 := B9.size
      have sA := BA.size
      have sB := BB.size
      have sC := kC.size
      have sD := kD.size
      have x1 : Below w.heap.size w w2 := B1.trans (B2.mono s1)
      have x2 : Below w.heap.size w w4 := x1.trans ((B3.mono (by omega)).trans (B4.mono (by omega)))
      have x3 : Below w.heap.size w w6 := x2.trans ((B5.mono (by omega)).trans (B6.mono (by omega)))
      have x4 : Below w.heap.size w w8 := x3.trans ((B7.mono (by omega)).trans (B8.mono (by omega)))
      have x5 : Below w.heap.size w wB := x4.trans ((B9.mono (by omega)).trans ((BA.mono (by omega)).trans (BB.mono (by omega))))
      have x6 : Below w.heap.size wB wC := kC.below (fun i e => by omega) (by omega)
      have x7 : Below w.heap.size wC wD := kD.below (fun i e => by omega) (by omega)
      have x8 : Below w.heap.size wD wE := kE.below (fun i e => by omega) (by omega)
      exact x5.trans (x6.trans (x7.trans x8))
    · exact absurd ex_beg1 (hs 1)
    · exact absurd ex_beg1 (hs 1)
  · exact absurd ex_beg2 (hs 2)
  · exact absurd ex_beg2 (hs 2)
end Go.Proofs.Ytkjccbihdinlkaa
