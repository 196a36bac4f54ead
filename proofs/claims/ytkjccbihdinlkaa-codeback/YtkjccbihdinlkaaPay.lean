import Derived.Test.YtkjccbihdinlkaaPas
import Derived.Test.YtkjccbihdinlkaaPaw
import Derived.Test.YtkjccbihdinlkaaPax
import Derived.Deep.RegionHeld3
namespace Go.Proofs.Ytkjccbihdinlkaa
open Go.RowKit
set_option linter.unusedVariables false

theorem seg_bool1 (w : World) (y : Bool) : SegB (w.alloc (.cells #[.bool y] 4)) (some ⟨w.heap.size, 0, none⟩) [y] := by
  refine ⟨fun i hi => ⟨w.heap.size, 0, rfl, ?_⟩⟩
  simp only [List.length_cons, List.length_nil] at hi
  match i, hi with
  | 0, _ => simp
theorem and_oneI (v : Nat) : bits .and .i64 (v : Int) 1 = ((v % 2 : Nat) : Int) := by
  have h1 : (BitVec.ofInt 64 1).toNat = 2 ^ 1 - 1 := by decide
  have key : (BitVec.ofInt 64 (v : Int) &&& BitVec.ofInt 64 1).toNat = ((v : Int) % ((2 ^ 64 : Nat) : Int)).toNat % 2 ^ 1 := by
    rw [BitVec.toNat_and, BitVec.toNat_ofInt, h1, Nat.and_two_pow_sub_one_eq_mod]
  show IntKind.i64.wrap ((BitVec.ofInt 64 (v : Int) &&& BitVec.ofInt 64 1).toNat : Nat) = ((v % 2 : Nat) : Int)
  rw [key, IntKind.wrap_i64]
  omega
set_option maxRecDepth 100000 in
set_option maxHeartbeats 1000000 in
theorem row5_any (x k : Nat) (w : World) (hx : x < 32768) (hk : k ≤ 15) :
    Calls Try.prog 44 #[.int .i64 (x : Int), .int .i64 (k : Int)] w fun e w' => ∃ a c, e = .returned (.slice a k c) ∧ w'.ownsRow w.heap.size 4 1 (.slice a k c) k ((bN x k).reverse.map Value.bool) ∧ Below w.heap.size w w' := by
  obtain ⟨i0, hi, hz0, hz1, hz2⟩ := info_parts info_b1
  go_enter Try.func44, Try.ntmps44
  go_wp2_with fail
  go_loopw [5, 6] (fun tl ti wr => ∃ (m : Nat) (a1 : Option Addr) (c1 : Nat), m ≤ k ∧ ti = .int .i64 ((m : Int) - 1) ∧ tl = .slice a1 (k - m) c1 ∧ wr.ownsRow w.heap.size 4 1 (.slice a1 (k - m) c1) (k - m) (((bN x k).reverse.take (k - m)).map Value.bool) ∧ Below w.heap.size w wr) (fun _ ti _ => (intOf ti + 1).toNat)
  case atStart => exact ⟨k, none, 0, Nat.le_refl _, rfl, by rw [Nat.sub_self], by rw [Nat.sub_self, List.take_zero]; exact World.ownsRow_nil _ _ _ _, Below.refl _ _⟩
  case round =>
    obtain ⟨m, a1, c1, hm, rfl, rfl, O1, B1⟩ := hrel
    by_cases hlt : 0 < m
    · obtain ⟨i, rfl⟩ : ∃ i, m = i + 1 := ⟨m - 1, by omega⟩
      have hbs := rev_take x k i (by omega)
      have him : (((i + 1 : Nat) : Int) - 1) = (i : Int) := by omega
      rw [him]
      have HK : Hid (k - (i + 1) + 1 = k - i) := by show _ = _; omega
      have HB : Hid (((bN x k).reverse.take (k - (i + 1))).map Value.bool ++ [x.testBit i].map Value.bool = ((bN x k).reverse.take (k - i)).map Value.bool) := by show _ = _; rw [hbs, List.map_append]
      have hq := shr_nat x i
      have ha := and_oneI (x / 2 ^ i)
      have hb := bit_eq x i
      have hq0 : x / 2 ^ i < 32768 := Nat.lt_of_le_of_lt (Nat.div_le_self _ _) hx
      have hkm : k - (i + 1) ≤ 15 := by omega
      have hi15 : i ≤ 15 := by omega
      have hsz := B1.size
      clear him hbs
      generalize hqq : x / 2 ^ i = q at *
      clear hqq
      have hb2 : q % 2 < 2 := by omega
      generalize q % 2 = bb at *
      generalize x.testBit i = y at *
      generalize k - (i + 1) = r at *
      go_wp2_with (first
        | (at_builtin; refine wpList_appB rfl (.tmp 13) (.tmp 19) 48 rfl w.heap.size 4 i0 (.bool false) 1 Try.underlying48 hi hz0 hz1 hz2 rfl (O1.alloc _) (seg_bool1 wr y) (by intro h; cases h) rfl rfl (by simp; omega) (by simp; omega) (by simp; omega) ?_; intro a2 c2 w2 hown2 hg2 hf2; clear hf2))
      have B2 : Below w.heap.size w w2 := (B1.alloc hsz _).trans (below_own (O1.alloc _) hg2 (by simp; omega))
      rw [HB.out, show r + [y].length = k - i from HK.out] at hown2
      refine ⟨⟨i, a2, c2, by omega, rfl, by rw [← HK.out], hown2, B2⟩, ?_⟩
      show (((i : Int) - 1) + 1).toNat < ((i : Int) + 1).toNat
      omega
    · obtain rfl : m = 0 := by omega
      go_wp2_with fail
      go_ret
      rw [Nat.sub_zero, List.take_of_length_le (by rw [rev_len]; omega)] at O1
      exact ⟨a1, c1, by rw [Nat.sub_zero]; rfl, O1, B1⟩

theorem costV_in {zs : List Int} {k : Nat} (hk : k < zs.length) : costV zs k = zs.getD k 0 := by
  unfold costV
  rw [if_pos ⟨by omega, by omega⟩, Int.toNat_natCast]
theorem putB_in {zs : List Int} (h : errC zs = 0) {k : Nat} (hk : k < zs.length) : putB zs k = (bN (cd zs k) (ln zs k)).reverse := by
  have hL := (errS_zero (errC_zero h).1)
  have HLN := hL.2.ln k
  unfold putB
  rw [costV_in hk, HLN.1, Int.toNat_natCast]
  by_cases hz : ln zs k = 0
  · rw [if_pos (by omega), hz]; rfl
  · rw [if_neg (by omega)]; rfl
theorem putB_out {zs : List Int} {s : Int} (h : s < 0 ∨ (zs.length : Int) ≤ s) : putB zs s = [] := by
  have h0 : costV zs s = 0 := by unfold costV; rw [if_neg (by omega)]
  unfold putB
  rw [if_pos h0]
theorem putB_cost {zs : List Int} (h : errC zs = 0) (s : Int) : costV zs s = ((putB zs s).length : Int) := by
  by_cases hs : 0 ≤ s ∧ s < zs.length
  · obtain ⟨k, rfl⟩ : ∃ k : Nat, s = k := ⟨s.toNat, by omega⟩
    rw [putB_in h (by omega), rev_len]
    unfold costV
    rw [if_pos hs, Int.toNat_natCast]
    exact ((errS_zero (errC_zero h).1).2.ln k).1
  · rw [putB_out (by omega)]
    unfold costV
    rw [if_neg hs]
    rfl
theorem putB_err {zs : List Int} (h : errC zs = 0) (s : Int) : errP zs s = if (putB zs s).length = 0 then 53 else 0 := by
  unfold errP
  rw [putB_cost h]
  by_cases hz : (putB zs s).length = 0
  · rw [if_pos (by omega), if_pos hz]
  · rw [if_neg (by omega), if_neg hz]
theorem putB_le {zs : List Int} (h : errC zs = 0) (s : Int) : (putB zs s).length ≤ 15 := by
  by_cases hs : 0 ≤ s ∧ s < zs.length
  · obtain ⟨k, rfl⟩ : ∃ k : Nat, s = k := ⟨s.toNat, by omega⟩
    rw [putB_in h (by omega), rev_len]
    exact ((errS_zero (errC_zero h).1).2.ln k).2
  · rw [putB_out (by omega)]
    simp

set_option maxRecDepth 100000 in
set_option maxHeartbeats 1000000 in
theorem bits5_any (a : Option Addr) (zs : List Int) (n cap : Nat) (hn : Hid (zs.length = n)) (s : Int) (w : World) (hs : SegZ w a zs) (hok : errC zs = 0) (hs0 : -9223372036854775808 ≤ s) (hs1 : s ≤ 9223372036854775807) :
    Calls Try.prog 20 #[.slice a n cap, .int .i64 s] w fun e w' => ∃ b c, e = .returned (.slice b (putB zs s).length c) ∧ w'.ownsRow w.heap.size 4 1 (.slice b (putB zs s).length c) (putB zs s).length ((putB zs s).map Value.bool) ∧ Below w.heap.size w w' := by
  have HL := errS_zero (errC_zero hok).1
  have hn288 : n ≤ 288 := by have := hn.out; have := HL.1; omega
  have HC := rcodes_any a zs n cap hn w hs (by omega)
  have e1 : Hid (cdsR zs = cds zs) := by show _ = _; unfold cdsR; rw [if_pos hok]
  have e3 : Hid ((cds zs).length = n) := by show _ = _; rw [cds_len]; exact hn.out
  have HOK : Hid (errC zs = 0) := hok
  by_cases hin : 0 ≤ s ∧ s < n
  · obtain ⟨k, rfl⟩ : ∃ k : Nat, s = k := ⟨s.toNat, by omega⟩
    have hk : k < zs.length := by have := hn.out; omega
    have HP : Hid (putB zs k = (bN (cd zs k) (ln zs k)).reverse) := putB_in hok hk
    have HSM := cd_small hok hk
    have HLN := (HL.2.ln k).1
    have HCB := cds_bd hok
    obtain ⟨g, off, rfl, c0⟩ := hs.at_ k hk
    rw [HLN] at c0
    have hki : (k : Int) < (n : Int) := by omega
    have hin2 : ¬ (n : Int) ≤ (k : Int) := by omega
    have hg : g < w.heap.size := World.block_lt_of_cell? w _ c0
    clear hok HL hin HLN
    rw [HP.out, rev_len]
    go_enter Try.func20, Try.ntmps20
    go_wp2_with fail
    refine HC.mono ?_
    rintro e w1 ⟨b1, c1, rfl, O1, B1⟩
    rw [e1.out, e3.out] at O1
    rw [e1.out, e3.out, HOK.out]
    have Z1 := own_segZ O1 HCB
    obtain ⟨g1, off1, rfl, d0⟩ := Z1.at_ k (by rw [e3.out]; omega)
    rw [cds_get zs hk] at d0
    have c0 := (B1.cell (p := ⟨g, off + k, none⟩) hg).trans c0
    have R := row5_any (cd zs k) (ln zs k)
    have hcs := HSM.2.2
    have hl15 := HSM.2.1
    clear O1 Z1 HSM
    have hgA : g < w1.heap.size := World.block_lt_of_cell? w1 _ c0
    have hgB : g1 < w1.heap.size := World.block_lt_of_cell? w1 _ d0
    go_wp2_with fail
    go_region_held3 (fun w' => w'.cell? ⟨g, off + k, none⟩ = some (.int .i64 (ln zs k : Int)) ∧ w'.cell? ⟨g1, off1 + k, none⟩ = some (.int .i64 (cd zs k : Int))) (first | go_keep | exact ⟨cA, cB⟩)
      (first | (go_at_call 44; refine (R _ hcs hl15).mono ?_; rintro e w2 ⟨a2, c2, rfl, O2, B2⟩; have cA := (B2.cell (p := ⟨g, off + k, none⟩) hgA).trans c0; have cB := (B2.cell (p := ⟨g1, off1 + k, none⟩) hgB).trans d0))
    all_goals
      go_wp2
      go_ret
      exact ⟨a2, c2, rfl, own_base O2 B1.size, B1.drew.trans (B2.mono B1.size)⟩
  · have HP : Hid (putB zs s = []) := putB_out (by have := hn.out; omega)
    have hcs : s < 0 ∨ ¬ s < 0 ∧ (n : Int) ≤ s := by omega
    clear HL hin hok
    rw [HP.out]
    rcases hcs with h1 | ⟨h1, h2⟩
    all_goals
      go_enter Try.func20, Try.ntmps20
      go_wp2_with fail
      refine HC.mono ?_
      rintro e w1 ⟨b1, c1, rfl, O1, B1⟩
      rw [e1.out, e3.out, HOK.out]
      clear O1
      go_wp2_with fail
      go_ret
      exact ⟨none, 0, rfl, World.ownsRow_nil _ _ _ _, B1⟩
set_option maxRecDepth 100000 in
theorem put5_made (b N : Nat) (zs : List Int) (s : Int) (w : World) (h : En w b N zs) : Calls Try.prog 22 #[.pointer (some ⟨b, 0, none⟩), .pointer none, .int .i64 s] w fun e w' => e = .returned (.int .i64 2) ∧ w' = w := by
  obtain ⟨la, lc, ca, cc, c0, _, _, _, _⟩ := h.cells
  go_enter Try.func22, Try.ntmps22
  go_wp2_with fail
  go_ret
  exact ⟨rfl, rfl⟩

def EncF (w : World) (zs : List Int) (e : Ending) (w' : World) : Prop := (errC zs = 0 → ∃ b, e = .returned (.tuple #[.pointer (some ⟨b, 0, none⟩), .int .i64 0]) ∧ w.heap.size ≤ b ∧ En w' b w'.heap.size zs ∧ ∀ W, Kp (fun k => k < w.heap.size) w' W → En W b w'.heap.size zs) ∧ (errC zs ≠ 0 → e = .returned (.tuple #[.pointer none, .int .i64 (errC zs)])) ∧ Below w.heap.size w w'
set_option maxRecDepth 100000 in
set_option maxHeartbeats 1000000 in
theorem newEnc_far (a : Option Addr) (zs : List Int) (n cap : Nat) (hn : Hid (zs.length = n)) (w : World) (hs : SegZ w a zs) (hnil : a = none → cap = 0) (hl : n ≤ 9223372036854775807) :
    Calls Try.prog 19 #[.slice a n cap] w fun e w' => EncF w zs e w' := by
  have HC := codes_any a zs n cap hn w hs hl
  by_cases hok : errC zs = 0
  · have HOK : Hid (errC zs = 0) := hok
    have HL := errS_zero (errC_zero hok).1
    have hn288 : n ≤ 288 := by have := hn.out; have := HL.1; omega
    clear hok HL
    have HCL : Hid (∀ W, Below w.heap.size w W → Calls Try.prog 43 #[.slice a n cap] W fun e w' => ∃ a' c', e = .returned (.slice a' n c') ∧ w'.ownsRow W.heap.size 3 1 (.slice a' n c') n (zs.map (Value.int .i64)) ∧ Below W.heap.size W w') := fun W hW => clone5_any a zs n cap hn W (hs.old hW) hnil (by omega)
    have e1 : Hid (cdsR zs = cds zs) := by show _ = _; unfold cdsR; rw [if_pos HOK.out]
    have e3 : Hid ((cds zs).length = n) := by show _ = _; rw [cds_len]; exact hn.out
    go_enter Try.func19, Try.ntmps19
    go_wp2_with fail
    refine HC.mono ?_
    rintro e W1 ⟨b1, c1, rfl, O1, B1⟩
    rw [e1.out, e3.out] at O1
    rw [e1.out, e3.out, HOK.out]
    go_wp2_with fail
    refine (HCL.out _ B1).mono ?_
    rintro e W2 ⟨a2, c2, rfl, O2, B2⟩
    have B12 : Below w.heap.size w W2 := B1.trans (B2.mono B1.size)
    have O1b := own_below O1 B2
    go_wp2_with fail
    go_ret2
    have hbl := own_blk O2
    have hbl1 := own_blk O1b
    have hzb : ∀ z ∈ zs, -9223372036854775808 ≤ z ∧ z ≤ 9223372036854775807 := hs.mem
    have HEN : En (W2.alloc (.cells #[.bool true, .slice a2 n c2, .slice b1 n c1] 86)) W2.heap.size (W2.alloc (.cells #[.bool true, .slice a2 n c2, .slice b1 n c1] 86)).heap.size zs := by
      refine ⟨HOK.out, by simp, a2, c2, b1, c1, ?_, ?_, ?_, ?_, ?_⟩
      · rw [hn.out]; exact heap_alloc_new W2 _
      · exact (own_segZ O2 hzb).alloc _
      · exact (own_segZ O1b (cds_bd HOK.out)).alloc _
      · intro x hx
        have := hbl x hx
        simp
        omega
      · intro x hx
        have := hbl1 x hx
        simp
        omega
    refine ⟨fun _ => ⟨W2.heap.size, rfl, B12.size, HEN, fun W hW => ?_⟩, fun h => absurd HOK.out h, B12.alloc B12.size _⟩
    refine ⟨HOK.out, by simp, a2, c2, b1, c1, ?_, ?_, ?_, ?_, ?_⟩
    · rw [hn.out]; exact hW.heap (heap_alloc_new W2 _) (by have := B12.size; omega)
    · exact ((own_segZ O2 hzb).alloc _).kp hW (fun b off e _ => by have := hbl _ e; have := B1.size; simp at *; omega)
    · exact ((own_segZ O1b (cds_bd HOK.out)).alloc _).kp hW (fun b off e _ => by have := hbl1 _ e; simp at *; omega)
    · intro x hx
      have := hbl x hx
      simp
      omega
    · intro x hx
      have := hbl1 x hx
      simp
      omega
  · have HNK : Hid (¬ errC zs = 0) := hok
    have key : ∀ E : Int, E = 50 ∨ E = 51 ∨ E = 52 → errC zs = E → Calls Try.prog 19 #[.slice a n cap] w fun e w' => EncF w zs e w' := by
      intro E hE hEE
      have HEE : Hid (errC zs = E) := hEE
      clear hEE hok
      rcases hE with rfl | rfl | rfl
      all_goals
        go_enter Try.func19, Try.ntmps19
        go_wp2_with fail
        refine HC.mono ?_
        rintro e W1 ⟨b1, c1, rfl, O1, B1⟩
        rw [HEE.out]
        clear O1
        go_wp2_with fail
        go_ret2
        exact ⟨fun h => absurd h HNK.out, fun _ => by rw [HEE.out]; rfl, B1⟩
    rcases errC_cases zs with h | h | h | h
    · exact absurd h hok
    · exact key 50 (.inl rfl) h
    · exact key 51 (.inr (.inl rfl)) h
    · exact key 52 (.inr (.inr rfl)) h
end Go.Proofs.Ytkjccbihdinlkaa
