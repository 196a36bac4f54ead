import Derived.Test.YtiankbopnjhhaaaGreatDoorPu
import Derived.Test.YtiankbopnjhhaaaGreatDoorPv
import Derived.Deep.RegionHeld3
import Derived.Test.YtiankbopnjhhaaaGreatDoorPl
import Derived.Test.YtiankbopnjhhaaaGreatDoorPm
namespace Go.Proofs.YtiankbopnjhhaaaGreatDoor
open Go.RowKit
set_option linter.unusedVariables false

theorem seg_bool1 (w : World) (y : Bool) : SegB (w.alloc (.cells #[.bool y] 4)) (some ⟨w.heap.size, 0, none⟩) [y] := by
  refine ⟨fun i hi => ⟨w.heap.size, 0, rfl, ?_⟩⟩
  simp only [List.length_cons, List.length_nil] at hi
  match i, hi with
  | 0, _ => simp
theorem and_oneI (v : Nat) : bits .and .i64 (v : Int) 1 = ((v % 2 : Nat) : Int) := by
  have h1 : (BitVec.ofInt 64 1).toNat = 2 ^ 1 - 1 := by decide
  have key : (BitVec.ofInt 64 (v : Int) &&& BitVec.ofInt 64 1).toNat = ((v : Int) % ((2 ^ 64 : Nat) : Int)).toNat % 2 ^ 1 := by
    rw [BitVec.toNat_and, BitVec.toNat_ofInt, h1, Nat.and_two_pow_sub_one_eq_mod]
  show IntKind.i64.wrap ((BitVec.ofInt 64 (v : Int) &&& BitVec.ofInt 64 1).toNat : Nat) = ((v % 2 : Nat) : Int)
  rw [key, IntKind.wrap_i64]
  omega
set_option maxRecDepth 100000 in
set_option maxHeartbeats 1000000 in
theorem row5_any (x k : Nat) (w : World) (hx : x < 32768) (hk : k ≤ 15) :
    Calls Tryz.prog 112 #[.int .i64 (x : Int), .int .i64 (k : Int)] w fun e w' => ∃ a c, e = .returned (.slice a k c) ∧ w'.ownsRow w.heap.size 4 1 (.slice a k c) k ((bN x k).reverse.map Value.bool) ∧ Below w.heap.size w w' := by
  obtain ⟨i0, hi, hz0, hz1, hz2⟩ := info_parts info_b1
  go_enter Tryz.func112, Tryz.ntmps112
  go_wp2_with fail
  go_loopw [5, 6] (fun tl ti wr => ∃ (m : Nat) (a1 : Option Addr) (c1 : Nat), m ≤ k ∧ ti = .int .i64 ((m : Int) - 1) ∧ tl = .slice a1 (k - m) c1 ∧ wr.ownsRow w.heap.size 4 1 (.slice a1 (k - m) c1) (k - m) (((bN x k).reverse.take (k - m)).map Value.bool) ∧ Below w.heap.size w wr) (fun _ ti _ => (intOf ti + 1).toNat)
  case atStart => exact ⟨k, none, 0, Nat.le_refl _, rfl, by rw [Nat.sub_self], by rw [Nat.sub_self, List.take_zero]; exact World.ownsRow_nil _ _ _ _, Below.refl _ _⟩
  case round =>
    obtain ⟨m, a1, c1, hm, rfl, rfl, O1, B1⟩ := hrel
    by_cases hlt : 0 < m
    · obtain ⟨i, rfl⟩ : ∃ i, m = i + 1 := ⟨m - 1, by omega⟩
      have hbs := rev_take x k i (by omega)
      have him : (((i + 1 : Nat) : Int) - 1) = (i : Int) := by omega
      rw [him]
      have HK : Hid (k - (i + 1) + 1 = k - i) := by show _ = _; omega
      have HB : Hid (((bN x k).reverse.take (k - (i + 1))).map Value.bool ++ [x.testBit i].map Value.bool = ((bN x k).reverse.take (k - i)).map Value.bool) := by show _ = _; rw [hbs, List.map_append]
      have hq := shr_nat x i
      have ha := and_oneI (x / 2 ^ i)
      have hb := bit_eq x i
      have hq0 : x / 2 ^ i < 32768 := Nat.lt_of_le_of_lt (Nat.div_le_self _ _) hx
      have hkm : k - (i + 1) ≤ 15 := by omega
      have hi15 : i ≤ 15 := by omega
      have hsz := B1.size
      clear him hbs
      generalize hqq : x / 2 ^ i = q at *
      clear hqq
      have hb2 : q % 2 < 2 := by omega
      generalize q % 2 = bb at *
      generalize x.testBit i = y at *
      generalize k - (i + 1) = r at *
      go_wp2_with (first
        | (at_builtin; refine wpList_appB rfl (.tmp 13) (.tmp 19) 65 rfl w.heap.size 4 i0 (.bool false) 1 Tryz.underlying65 hi hz0 hz1 hz2 rfl (O1.alloc _) (seg_bool1 wr y) (by intro h; cases h) rfl rfl (by simp; omega) (by simp; omega) (by simp; omega) ?_; intro a2 c2 w2 hown2 hg2 hf2; clear hf2))
      have B2 : Below w.heap.size w w2 := (B1.alloc hsz _).trans (below_own (O1.alloc _) hg2 (by simp; omega))
      rw [HB.out, show r + [y].length = k - i from HK.out] at hown2
      refine ⟨⟨i, a2, c2, by omega, rfl, by rw [← HK.out], hown2, B2⟩, ?_⟩
      show (((i : Int) - 1) + 1).toNat < ((i : Int) + 1).toNat
      omega
    · obtain rfl : m = 0 := by omega
      go_wp2_with fail
      go_ret
      rw [Nat.sub_zero, List.take_of_length_le (by rw [rev_len]; omega)] at O1
      exact ⟨a1, c1, by rw [Nat.sub_zero]; rfl, O1, B1⟩

theorem costV_in {zs : List Int} {k : Nat} (hk : k < zs.length) : costV zs k = zs.getD k 0 := by
  unfold costV
  rw [if_pos ⟨by omega, by omega⟩, Int.toNat_natCast]
theorem putB_in {zs : List Int} (h : errC zs = 0) {k : Nat} (hk : k < zs.length) : putB zs k = (bN (cd zs k) (ln zs k)).reverse := by
  have hL := (errS_zero (errC_zero h).1)
  have HLN := hL.2.ln k
  unfold putB
  rw [costV_in hk, HLN.1, Int.toNat_natCast]
  by_cases hz : ln zs k = 0
  · rw [if_pos (by omega), hz]; rfl
  · rw [if_neg (by omega)]; rfl
theorem putB_out {zs : List Int} {s : Int} (h : s < 0 ∨ (zs.length : Int) ≤ s) : putB zs s = [] := by
  have h0 : costV zs s = 0 := by unfold costV; rw [if_neg (by omega)]
  unfold putB
  rw [if_pos h0]
theorem putB_cost {zs : List Int} (h : errC zs = 0) (s : Int) : costV zs s = ((putB zs s).length : Int) := by
  by_cases hs : 0 ≤ s ∧ s < zs.length
  · obtain ⟨k, rfl⟩ : ∃ k : Nat, s = k := ⟨s.toNat, by omega⟩
    rw [putB_in h (by omega), rev_len]
    unfold costV
    rw [if_pos hs, Int.toNat_natCast]
    exact ((errS_zero (errC_zero h).1).2.ln k).1
  · rw [putB_out (by omega)]
    unfold costV
    rw [if_neg hs]
    rfl
theorem putB_err {zs : List Int} (h : errC zs = 0) (s : Int) : errP zs s = if (putB zs s).length = 0 then 53 else 0 := by
  unfold errP
  rw [putB_cost h]
  by_cases hz : (putB zs s).length = 0
  · rw [if_pos (by omega), if_pos hz]
  · rw [if_neg (by omega), if_neg hz]
theorem putB_le {zs : List Int} (h : errC zs = 0) (s : Int) : (putB zs s).length ≤ 15 := by
  by_cases hs : 0 ≤ s ∧ s < zs.length
  · obtain ⟨k, rfl⟩ : ∃ k : Nat, s = k := ⟨s.toNat, by omega⟩
    rw [putB_in h (by omega), rev_len]
    exact ((errS_zero (errC_zero h).1).2.ln k).2
  · rw [putB_out (by omega)]
    simp

set_option maxRecDepth 100000 in
set_option maxHeartbeats 1000000 in
theorem bits5_any (a : Option Addr) (zs : List Int) (n cap : Nat) (hn : Hid (zs.length = n)) (s : Int) (w : World) (hs : SegZ w a zs) (hok : errC zs = 0) (hs0 : -9223372036854775808 ≤ s) (hs1 : s ≤ 9223372036854775807) :
    Calls Tryz.prog 83 #[.slice a n cap, .int .i64 s] w fun e w' => ∃ b c, e = .returned (.slice b (putB zs s).length c) ∧ w'.ownsRow w.heap.size 4 1 (.slice b (putB zs s).length c) (putB zs s).length ((putB zs s).map Value.bool) ∧ Below w.heap.size w w' := by
  have HL := errS_zero (errC_zero hok).1
  have hn288 : n ≤ 288 := by have := hn.out; have := HL.1; omega
  have HC := rcodes_any a zs n cap hn w hs (by omega)
  have e1 : Hid (cdsR zs = cds zs) := by show _ = _; unfold cdsR; rw [if_pos hok]
  have e3 : Hid ((cds zs).length = n) := by show _ = _; rw [cds_len]; exact hn.out
  have HOK : Hid (errC zs = 0) := hok
  by_cases hin : 0 ≤ s ∧ s < n
  · obtain ⟨k, rfl⟩ : ∃ k : Nat, s = k := ⟨s.toNat, by omega⟩
    have hk : k < zs.length := by have := hn.out; omega
    have HP : Hid (putB zs k = (bN (cd zs k) (ln zs k)).reverse) := putB_in hok hk
    have HSM := cd_small hok hk
    have HLN := (HL.2.ln k).1
    have HCB := cds_bd hok
    obtain ⟨g, off, rfl, c0⟩ := hs.at_ k hk
    rw [HLN] at c0
    have hki : (k : Int) < (n : Int) := by omega
    have hin2 : ¬ (n : Int) ≤ (k : Int) := by omega
    have hg : g < w.heap.size := World.block_lt_of_cell? w _ c0
    clear hok HL hin HLN
    rw [HP.out, rev_len]
    go_enter Tryz.func83, Tryz.ntmps83
    go_wp2_with fail
    refine HC.mono ?_
    rintro e w1 ⟨b1, c1, rfl, O1, B1⟩
    rw [e1.out, e3.out] at O1
    rw [e1.out, e3.out, HOK.out]
    have Z1 := own_segZ O1 HCB
    obtain ⟨g1, off1, rfl, d0⟩ := Z1.at_ k (by rw [e3.out]; omega)
    rw [cds_get zs hk] at d0
    have c0 := (B1.cell (p := ⟨g, off + k, none⟩) hg).trans c0
    have R := row5_any (cd zs k) (ln zs k)
    have hcs := HSM.2.2
    have hl15 := HSM.2.1
    clear O1 Z1 HSM
    have hgA : g < w1.heap.size := World.block_lt_of_cell? w1 _ c0
    have hgB : g1 < w1.heap.size := World.block_lt_of_cell? w1 _ d0
    go_wp2_with fail
    go_region_held3 (fun w' => w'.cell? ⟨g, off + k, none⟩ = some (.int .i64 (ln zs k : Int)) ∧ w'.cell? ⟨g1, off1 + k, none⟩ = some (.int .i64 (cd zs k : Int))) (first | go_keep | exact ⟨cA, cB⟩)
      (first | (go_at_call 112; refine (R _ hcs hl15).mono ?_; rintro e w2 ⟨a2, c2, rfl, O2, B2⟩; have cA := (B2.cell (p := ⟨g, off + k, none⟩) hgA).trans c0; have cB := (B2.cell (p := ⟨g1, off1 + k, none⟩) hgB).trans d0))
    all_goals
      go_wp2
      go_ret
      exact ⟨a2, c2, rfl, own_base O2 B1.size, B1.drew.trans (B2.mono B1.size)⟩
  · have HP : Hid (putB zs s = []) := putB_out (by have := hn.out; omega)
    have hcs : s < 0 ∨ ¬ s < 0 ∧ (n : Int) ≤ s := by omega
    clear HL hin hok
    rw [HP.out]
    rcases hcs with h1 | ⟨h1, h2⟩
    all_goals
      go_enter Tryz.func83, Tryz.ntmps83
      go_wp2_with fail
      refine HC.mono ?_
      rintro e w1 ⟨b1, c1, rfl, O1, B1⟩
      rw [e1.out, e3.out, HOK.out]
      clear O1
      go_wp2_with fail
      go_ret
      exact ⟨none, 0, rfl, World.ownsRow_nil _ _ _ _, B1⟩
set_option maxRecDepth 100000 in
theorem put5_made (b N : Nat) (zs : List Int) (s : Int) (w : World) (h : En w b N zs) : Calls Tryz.prog 125 #[.pointer (some ⟨b, 0, none⟩), .pointer none, .int .i64 s] w fun e w' => e = .returned (.int .i64 2) ∧ w' = w := by
  obtain ⟨la, lc, ca, cc, c0, _, _, _, _⟩ := h.cells
  go_enter Tryz.func125, Tryz.ntmps125
  go_wp2_with fail
  go_ret
  exact ⟨rfl, rfl⟩

def EncF (w : World) (zs : List Int) (e : Ending) (w' : World) : Prop := (errC zs = 0 → ∃ b, e = .returned (.tuple #[.pointer (some ⟨b, 0, none⟩), .int .i64 0]) ∧ w.heap.size ≤ b ∧ En w' b w'.heap.size zs ∧ ∀ W, Kp (fun k => k < w.heap.size) w' W → En W b w'.heap.size zs) ∧ (errC zs ≠ 0 → e = .returned (.tuple #[.pointer none, .int .i64 (errC zs)])) ∧ Below w.heap.size w w'
set_option maxRecDepth 100000 in
set_option maxHeartbeats 1000000 in
theorem newEnc_far (a : Option Addr) (zs : List Int) (n cap : Nat) (hn : Hid (zs.length = n)) (w : World) (hs : SegZ w a zs) (hnil : a = none → cap = 0) (hl : n ≤ 9223372036854775807) :
    Calls Tryz.prog 124 #[.slice a n cap] w fun e w' => EncF w zs e w' := by
  have HC := codes_any a zs n cap hn w hs hl
  by_cases hok : errC zs = 0
  · have HOK : Hid (errC zs = 0) := hok
    have HL := errS_zero (errC_zero hok).1
    have hn288 : n ≤ 288 := by have := hn.out; have := HL.1; omega
    clear hok HL
    have HCL : Hid (∀ W, Below w.heap.size w W → Calls Tryz.prog 141 #[.slice a n cap] W fun e w' => ∃ a' c', e = .returned (.slice a' n c') ∧ w'.ownsRow W.heap.size 3 1 (.slice a' n c') n (zs.map (Value.int .i64)) ∧ Below W.heap.size W w') := fun W hW => clone5_any a zs n cap hn W (hs.old hW) hnil (by omega)
    have e1 : Hid (cdsR zs = cds zs) := by show _ = _; unfold cdsR; rw [if_pos HOK.out]
    have e3 : Hid ((cds zs).length = n) := by show _ = _; rw [cds_len]; exact hn.out
    go_enter Tryz.func124, Tryz.ntmps124
    go_wp2_with fail
    refine HC.mono ?_
    rintro e W1 ⟨b1, c1, rfl, O1, B1⟩
    rw [e1.out, e3.out] at O1
    rw [e1.out, e3.out, HOK.out]
    go_wp2_with fail
    refine (HCL.out _ B1).mono ?_
    rintro e W2 ⟨a2, c2, rfl, O2, B2⟩
    have B12 : Below w.heap.size w W2 := B1.trans (B2.mono B1.size)
    have O1b := own_below O1 B2
    go_wp2_with fail
    go_ret2
    have hbl := own_blk O2
    have hbl1 := own_blk O1b
    have hzb : ∀ z ∈ zs, -9223372036854775808 ≤ z ∧ z ≤ 9223372036854775807 := hs.mem
    have HEN : En (W2.alloc (.cells #[.bool true, .slice a2 n c2, .slice b1 n c1] 237)) W2.heap.size (W2.alloc (.cells #[.bool true, .slice a2 n c2, .slice b1 n c1] 237)).heap.size zs := by
      refine ⟨HOK.out, by simp, a2, c2, b1, c1, ?_, ?_, ?_, ?_, ?_⟩
      · rw [hn.out]; exact heap_alloc_new W2 _
      · exact (own_segZ O2 hzb).alloc _
      · exact (own_segZ O1b (cds_bd HOK.out)).alloc _
      · intro x hx
        have := hbl x hx
        simp
        omega
      · intro x hx
        have := hbl1 x hx
        simp
        omega
    refine ⟨fun _ => ⟨W2.heap.size, rfl, B12.size, HEN, fun W hW => ?_⟩, fun h => absurd HOK.out h, B12.alloc B12.size _⟩
    refine ⟨HOK.out, by simp, a2, c2, b1, c1, ?_, ?_, ?_, ?_, ?_⟩
    · rw [hn.out]; exact hW.heap (heap_alloc_new W2 _) (by have := B12.size; omega)
    · exact ((own_segZ O2 hzb).alloc _).kp hW (fun b off e _ => by have := hbl _ e; have := B1.size; simp at *; omega)
    · exact ((own_segZ O1b (cds_bd HOK.out)).alloc _).kp hW (fun b off e _ => by have := hbl1 _ e; simp at *; omega)
    · intro x hx
      have := hbl x hx
      simp
      omega
    · intro x hx
      have := hbl1 x hx
      simp
      omega
  · have HNK : Hid (¬ errC zs = 0) := hok
    have key : ∀ E : Int, E = 50 ∨ E = 51 ∨ E = 52 → errC zs = E → Calls Tryz.prog 124 #[.slice a n cap] w fun e w' => EncF w zs e w' := by
      intro E hE hEE
      have HEE : Hid (errC zs = E) := hEE
      clear hEE hok
      rcases hE with rfl | rfl | rfl
      all_goals
        go_enter Tryz.func124, Tryz.ntmps124
        go_wp2_with fail
        refine HC.mono ?_
        rintro e W1 ⟨b1, c1, rfl, O1, B1⟩
        rw [HEE.out]
        clear O1
        go_wp2_with fail
        go_ret2
        exact ⟨fun h => absurd h HNK.out, fun _ => by rw [HEE.out]; rfl, B1⟩
    rcases errC_cases zs with h | h | h | h
    · exact absurd h hok
    · exact key 50 (.inl rfl) h
    · exact key 51 (.inr (.inl rfl)) h
    · exact key 52 (.inr (.inr rfl)) h
end Go.Proofs.YtiankbopnjhhaaaGreatDoor

namespace Go.Proofs.YtiankbopnjhhaaaGreatDoor
open Go.RowKit
set_option linter.unusedVariables false

/-! A head's bits; a writer on its way. -/
def szb8 (Z : List Int) : Nat → List Bool
  | 0 => []
  | i + 1 => szb8 Z i ++ bN (Z.getD (ordL.getD i 0).toNat 0).toNat 3
def rnb8 (Z : List Int) : List Rn8 → List Bool
  | [] => []
  | r :: R => (putB Z r.sy ++ bN (r.ct - lst8 r.sy).toNat (mor8 r.sy)) ++ rnb8 Z R
theorem rnb8_app (Z : List Int) (b : List Rn8) : ∀ a, rnb8 Z (a ++ b) = rnb8 Z a ++ rnb8 Z b
  | [] => rfl
  | r :: a => by simp only [List.cons_append, rnb8, rnb8_app Z b a, List.append_assoc]
def hd8 (lit dist : List Int) : List Bool := bN ((sht8 lit 257).length - 257) 5 ++ bN ((sht8 dist 1).length - 1) 5 ++ bN (tol8 (sz8 lit dist) 19 - 4) 4 ++ szb8 (sz8 lit dist) (tol8 (sz8 lit dist) 19) ++ rnb8 (sz8 lit dist) (rs8 lit dist)
theorem szb8_len (Z : List Int) : ∀ k, (szb8 Z k).length = 3 * k
  | 0 => rfl
  | k + 1 => by rw [szb8, List.length_append, szb8_len Z k, bN_len]; omega
theorem mor8_le (s : Int) : mor8 s ≤ 7 := by rcases mor8_in s with h | h | h | h <;> omega
theorem rnb8_len {Z : List Int} (h : errC Z = 0) : ∀ R, (rnb8 Z R).length ≤ 22 * R.length
  | [] => by simp [rnb8]
  | r :: R => by
    have h1 := putB_le h r.sy
    have h2 := mor8_le r.sy
    have h3 := rnb8_len h R
    rw [rnb8, List.length_append, List.length_append, bN_len, List.length_cons]
    omega
theorem ct8_lt {r : Rn8} (h : ok8 r) : (r.ct - lst8 r.sy).toNat < 2 ^ mor8 r.sy := by
  obtain ⟨h1, h2, h3, h4⟩ := h
  rw [grt8_lst r.sy h2] at h4
  have : ((2 : Int) ^ mor8 r.sy) = ((2 ^ mor8 r.sy : Nat) : Int) := by norm_cast
  omega
/-- A writer on its way: what it has, and what is kept. -/
def WrI (W wr : World) (bw B : Nat) (v : Value) (M : List Bool) : Prop := ∃ v', WrL wr bw B v' M ∧ Kp (WS bw v) W wr ∧ Fresh W v v'
theorem WrI.start {W : World} {bw B : Nat} {v : Value} {M : List Bool} (h : WrL W bw B v M) : WrI W W bw B v M := ⟨v, h, Kp.refl _ _, fun k e => .inl e⟩
theorem WrI.size {W wr : World} {bw B : Nat} {v : Value} {M : List Bool} (h : WrI W wr bw B v M) : W.heap.size ≤ wr.heap.size := by
  obtain ⟨v', _, h2, _⟩ := h
  exact h2.size
theorem WrI.kp {W wr : World} {bw B : Nat} {v : Value} {M : List Bool} (h : WrI W wr bw B v M) : Kp (WS bw v) W wr := by
  obtain ⟨v', _, h2, _⟩ := h
  exact h2
theorem WrI.next {W wr w' : World} {bw B : Nat} {v v1 v2 : Value} {M2 : List Bool} (hK : Kp (WS bw v) W wr) (hF : Fresh W v v1) (h : WrL w' bw B v2 M2) (hk : Kp (WS bw v1) wr w') (hf : Fresh wr v1 v2) : WrI W w' bw B v M2 := by
  refine ⟨v2, h, hK.trans (S' := WS bw v1) hk (fun k hlt e => ?_), fun k e => ?_⟩
  · rcases e with e | e
    · exact .inl e
    · rcases hF k e with e2 | e2
      · exact .inr e2
      · omega
  · rcases hf k e with e2 | e2
    · exact hF k e2
    · exact .inr (Nat.le_trans hK.size e2)
theorem kp_of_below {w w' : World} (h : Below w.heap.size w w') (S : Nat → Prop) : Kp S w w' := ⟨h.os, h.tape, h.output, h.size, fun k hk _ => h.block k hk⟩
theorem WrL.below8 {w w' : World} {b B : Nat} {v : Value} {L : List Bool} (h : WrL w b B v L) (hb : Below w.heap.size w w') : WrL w' b B v L := h.kp (kp_of_below hb (fun _ => False)) (fun h => h) (fun _ _ h => h)
theorem WrI.old {W wr w' : World} {bw B : Nat} {v : Value} {M : List Bool} (h : WrI W wr bw B v M) (hb : Below wr.heap.size wr w') : WrI W w' bw B v M := by
  obtain ⟨v', h1, h2, h3⟩ := h
  exact ⟨v', h1.below8 hb, h2.trans (S' := fun _ => False) (kp_of_below hb _) (fun _ _ e => e.elim), h3⟩
def PuQ (W : World) (bw B : Nat) (v : Value) (M : List Bool) (e : Ending) (w' : World) : Prop := e = .returned (.int .i64 0) ∧ WrI W w' bw B v M
/-- Put, on the way. -/
theorem put8 {W wr : World} {bw B : Nat} {v : Value} {M : List Bool} (h : WrI W wr bw B v M) (x k : Nat) (hx : x < 2 ^ k) (hk : k ≤ 56) (hl : M.length ≤ 1125899906842560) :
    Calls Tryz.prog 29 #[.pointer (some ⟨bw, 0, none⟩), .int .u64 (x : Int), .int .i64 (k : Int)] wr (PuQ W bw B v (M ++ bN x k)) := by
  obtain ⟨v', h1, h2, h3⟩ := h
  refine (put_ok bw B v' M x k wr h1 hx hk hl).mono ?_
  rintro e w' ⟨rfl, v2, q1, q2, q3⟩
  exact ⟨rfl, WrI.next h2 h3 q1 q2 q3⟩
def EpQ (W : World) (bw B : Nat) (v : Value) (M : List Bool) (er : Int) (e : Ending) (w' : World) : Prop := e = .returned (.int .i64 er) ∧ WrI W w' bw B v M
/-- An encoder's Put, on the way. -/
theorem eput8 {W wr : World} {bw B b N : Nat} {v : Value} {M : List Bool} {Z : List Int} (s : Int) (h : WrI W wr bw B v M) (hE : En wr b N Z) (hl : M.length ≤ 1125899906842560) :
    Calls Tryz.prog 125 #[.pointer (some ⟨b, 0, none⟩), .pointer (some ⟨bw, 0, none⟩), .int .i64 s] wr (EpQ W bw B v (M ++ putB Z s) (errP Z s)) := by
  obtain ⟨v', h1, h2, h3⟩ := h
  refine (put5_any b N Z s bw B v' M wr hE h1 hl).mono ?_
  rintro e w' ⟨rfl, v2, q1, q2, q3⟩
  exact ⟨rfl, WrI.next h2 h3 q1 q2 q3⟩
end Go.Proofs.YtiankbopnjhhaaaGreatDoor

namespace Go.Proofs.YtiankbopnjhhaaaGreatDoor
open Go.RowKit
set_option linter.unusedVariables false

/-! The landed head: Write. -/
def WtQ (w : World) (bw B : Nat) (v : Value) (L : List Bool) (lit dist : List Int) (e : Ending) (w' : World) : Prop := e = .returned (.int .i64 (if tld8 errC lit dist then 0 else 80)) ∧ WrI w w' bw B v (L ++ if tld8 errC lit dist then hd8 lit dist else [])
set_option maxRecDepth 100000 in
theorem pwrite_nil8 (a b : Option Addr) (n m ca cb : Nat) (w : World) : Calls Tryz.prog 105 #[.pointer none, .slice a n ca, .slice b m cb] w fun e w' => e = .returned (.int .i64 2) ∧ w' = w := by
  go_enter Tryz.func105, Tryz.ntmps105
  go_wp2_with fail
  go_ret
  exact ⟨rfl, rfl⟩
theorem WrI.drew8 {W wr : World} {bw B : Nat} {v : Value} {M : List Bool} (h : WrI W wr bw B v M) : WrI W wr.drew bw B v M := h.old ((Below.refl wr.heap.size wr).drew)
theorem own_blk28 {w : World} {base n cap : Nat} {e : TypeId} {b : Option Addr} {xs : List Value} (h : w.ownsRow base e 2 (.slice b n cap) n xs) : ∀ x, b = some x → base ≤ x.block := by
  rcases h.2 with ⟨h1, _⟩ | ⟨g, cp, cur, h1, hb, _⟩
  · simp only [Value.slice.injEq] at h1
    intro x e; rw [h1.1] at e; cases e
  · simp only [Value.slice.injEq] at h1
    intro x e; rw [h1.1] at e; cases e; exact hb
theorem WrI.up {w W wr : World} {bw B : Nat} {v : Value} {M : List Bool} (hb : Below w.heap.size w W) (h : WrI W wr bw B v M) : WrI w wr bw B v M := by
  obtain ⟨v', h1, h2, h3⟩ := h
  refine ⟨v', h1, (kp_of_below hb (WS bw v)).trans (S' := WS bw v) h2 (fun _ _ e => e), fun k e => ?_⟩
  rcases h3 k e with e2 | e2
  · exact .inl e2
  · exact .inr (Nat.le_trans hb.size e2)
set_option maxRecDepth 100000 in
set_option maxHeartbeats 4000000 in
theorem pwrite8 (bw B : Nat) (v : Value) (L : List Bool) (lit dist : List Int) (a b : Option Addr) (n m ca cb : Nat) (hn : Hid (lit.length = n)) (hm : Hid (dist.length = m)) (w : World) (hw : WrL w bw B v L) (hL : L.length ≤ 1125899906800000) (hx : SegZ w a lit) (hy : SegZ w b dist) (hca : n ≤ ca) (hcb : m ≤ cb) (T : TabS w) (O : TabO w) (hbw : 2 ≤ bw) (hB : 2 ≤ B) :
    Calls Tryz.prog 105 #[.pointer (some ⟨bw, 0, none⟩), .slice a n ca, .slice b m cb] w (WtQ w bw B v L lit dist) := by
  have CP := pplan8 lit dist a b n m ca cb hn hm w hx hy hca hcb T O
  have HTS : Hid (TabS w) := T
  have HTO : Hid (TabO w) := O
  have HWR : Hid (WrL w bw B v L) := hw
  have hbl := hw.b_lt
  have HOW := hw.own_lt
  clear hx hy T O hw
  by_cases ht : tld8 errC lit dist
  · have hZ := sz8_ok ht
    have hR := runs8_ok (tld8_ok ht).2.2.1
    have hR3 : (rs8 lit dist).length ≤ 320 := by have := (tld8_ok ht).2.2.1.1; unfold rs8; omega
    have hto := tol8_bd (sz8 lit dist) 19 (by omega)
    have HHD : Hid (hd8 lit dist = bN ((sht8 lit 257).length - 257) 5 ++ bN ((sht8 dist 1).length - 1) 5 ++ bN (tol8 (sz8 lit dist) 19 - 4) 4 ++ szb8 (sz8 lit dist) (tol8 (sz8 lit dist) 19) ++ rnb8 (sz8 lit dist) (rs8 lit dist)) := rfl
    obtain ⟨_, _, _, hla, hlb⟩ := tld8_ok ht
    have HQ : Hid (∀ w', WrI w w' bw B v (L ++ hd8 lit dist) → WtQ w bw B v L lit dist (.returned (.int .i64 0)) w') := fun w' h => by
      unfold WtQ
      rw [if_pos ht, if_pos ht]
      exact ⟨rfl, h⟩
    go_enter Tryz.func105, Tryz.ntmps105
    go_wp2_with fail
    refine CP.mono ?_
    rintro e w1 ⟨hyes, _, B1⟩
    obtain ⟨za, zc, ra, rc, rfl, OZ, OR⟩ := hyes ht
    have HOKR : Hid (∀ r ∈ rs8 lit dist, ok8 r) := fun r hr => hR.1 r hr
    clear hyes ht CP hR
    generalize (sht8 lit 257).length = nA at *
    generalize (sht8 dist 1).length = nB at *
    obtain ⟨Z, hZe⟩ : ∃ Z, Z = sz8 lit dist := ⟨_, rfl⟩
    obtain ⟨R, hRe⟩ : ∃ R, R = rs8 lit dist := ⟨_, rfl⟩
    rw [← hZe, ← hRe] at HHD
    rw [← hZe] at hZ hto OZ ⊢
    rw [← hRe] at hZ hR3 OR HOKR ⊢
    clear hZe hRe
    generalize tol8 Z 19 = tq at *
    obtain ⟨kA, rfl⟩ : ∃ kA, nA = kA + 257 := ⟨nA - 257, by omega⟩
    obtain ⟨kB, rfl⟩ : ∃ kB, nB = kB + 1 := ⟨nB - 1, by omega⟩
    obtain ⟨kt, rfl⟩ : ∃ kt, tq = kt + 4 := ⟨tq - 4, by omega⟩
    rw [show kA + 257 - 257 = kA by omega, show kB + 1 - 1 = kB by omega, show kt + 4 - 4 = kt by omega] at HHD
    obtain ⟨nR, hnR⟩ : ∃ nR, nR = R.length := ⟨_, rfl⟩
    have HNR : Hid (R.length = nR) := hnR.symm
    rw [← hnR] at hR3 OR ⊢
    clear hnR
    obtain ⟨zg, rfl, hzc, hzg, hzl⟩ := own_shape1 OZ (by omega)
    obtain ⟨hZC, hZ19, hZb, _⟩ := hZ
    have HZC : Hid (errC Z = 0) := hZC
    have SZ1 : SegZ w1 (some ⟨zg, 0, none⟩) Z := own_segZ OZ (fun z hz => by
      obtain ⟨i, hi, rfl⟩ := List.mem_iff_getElem.1 hz
      have := hZb i (by rw [hZ19] at hi; exact hi)
      simp only [List.getD, List.getElem?_eq_getElem hi, Option.getD_some] at this
      omega)
    have SR1 : SegN w1 ra R := own_segN OR HNR.out
    have hrg : ∀ g o, ra = some ⟨g, o, none⟩ → w.heap.size ≤ g := fun g o e => own_blk28 OR _ e
    obtain ⟨W, hW⟩ : ∃ W, W = w1.alloc (.cells #[.int .i64 ((kA : Int) + 257), .int .i64 ((kB : Int) + 1), .slice (some ⟨zg, 0, none⟩) 19 zc, .int .i64 ((kt : Int) + 4), .slice ra nR rc] 208) := ⟨_, rfl⟩
    have HWE : Hid (w1.alloc (.cells #[.int .i64 ((kA : Int) + 257), .int .i64 ((kB : Int) + 1), .slice (some ⟨zg, 0, none⟩) 19 zc, .int .i64 ((kt : Int) + 4), .slice ra nR rc] 208) = W) := hW.symm
    have BW : Below w1.heap.size w1 W := by rw [hW]; exact below_box8 _ _
    have hPW : W.heap[w1.heap.size]? = some (.cells #[.int .i64 ((kA : Int) + 257), .int .i64 ((kB : Int) + 1), .slice (some ⟨zg, 0, none⟩) 19 zc, .int .i64 ((kt : Int) + 4), .slice ra nR rc] 208 (0, 0)) := by rw [hW]; exact heap_alloc_new _ _
    have hlW : w1.heap.size < W.heap.size := (Array.getElem?_eq_some_iff.1 hPW).1
    obtain ⟨⟨p0, p1, p2, p3, p4⟩, _⟩ := five_cells hPW
    have SZW := SZ1.old BW
    have SRW := SR1.old BW
    have xW : Below w.heap.size w W := B1.trans (BW.mono B1.size)
    have TW : TabS W := SegZ.old HTS.out xW
    have OW : TabO W := SegZ.old HTO.out xW
    have HI0 : WrI W W bw B v L := WrI.start ((show WrL w bw B v L from HWR.out).below8 xW)
    have hPs : w.heap.size ≤ w1.heap.size := B1.size
    -- what stays while the writer writes
    have HK : Hid (∀ wr, Kp (WS bw v) W wr → (wr.cell? ⟨w1.heap.size, 0, none⟩ = some (.int .i64 ((kA : Int) + 257)) ∧ wr.cell? ⟨w1.heap.size, 1, none⟩ = some (.int .i64 ((kB : Int) + 1)) ∧ wr.cell? ⟨w1.heap.size, 2, none⟩ = some (.slice (some ⟨zg, 0, none⟩) 19 zc) ∧ wr.cell? ⟨w1.heap.size, 3, none⟩ = some (.int .i64 ((kt : Int) + 4)) ∧ wr.cell? ⟨w1.heap.size, 4, none⟩ = some (.slice ra nR rc)) ∧ SegZ wr (some ⟨zg, 0, none⟩) Z ∧ SegN wr ra R ∧ TabS wr ∧ TabO wr) := fun wr hk => by
      have hfar : ∀ k, w.heap.size ≤ k → ¬ WS bw v k := fun k hk2 e => by
        rcases e with e | e
        · omega
        · have := (HOW k e).2.1; omega
      have hlow : ∀ k, k < 2 → ¬ WS bw v k := fun k hk2 e => by
        rcases e with e | e
        · omega
        · have := (HOW k e).1; omega
      refine ⟨⟨hk.cellN p0 (hfar w1.heap.size hPs), hk.cellN p1 (hfar w1.heap.size hPs), hk.cellN p2 (hfar w1.heap.size hPs), hk.cellN p3 (hfar w1.heap.size hPs), hk.cellN p4 (hfar w1.heap.size hPs)⟩, SZW.kp hk (fun g o e _ => by cases e; exact hfar _ hzg), SRW.kp hk (fun g o e => hfar _ (hrg g o e)), SegZ.kp TW hk (fun g o e _ => by cases e; exact hlow 0 (by omega)), SegZ.kp OW hk (fun g o e _ => by cases e; exact hlow 1 (by omega))⟩
    clear OZ OR SZ1 SR1 hPW p0 p1 p2 p3 p4 SZW SRW TW OW BW hW
    have HKA : Hid (kA < 2 ^ 5 ∧ kB < 2 ^ 5 ∧ kt < 2 ^ 4) := ⟨by omega, by omega, by omega⟩
    go_wp2_with fail
    rw [HWE.out]
    refine (put8 HI0 kA 5 HKA.out.1 (by omega) (by omega)).mono ?_
    rintro e w2 ⟨rfl, HI1⟩
    obtain ⟨⟨q0, q1, q2, q3, q4⟩, _⟩ := HK.out w2 HI1.kp
    clear HWE HI0
    go_wp2_with fail
    refine (put8 HI1 kB 5 HKA.out.2.1 (by omega) (by simp [bN_len]; omega)).mono ?_
    rintro e w3 ⟨rfl, HI2⟩
    obtain ⟨⟨q0, q1, q2, q3, q4⟩, _⟩ := HK.out w3 HI2.kp
    clear HI1
    go_wp2_with fail
    refine (put8 HI2 kt 4 HKA.out.2.2 (by omega) (by simp [bN_len]; omega)).mono ?_
    rintro e w4 ⟨rfl, HI3⟩
    obtain ⟨⟨q0, q1, q2, q3, q4⟩, _⟩ := HK.out w4 HI3.kp
    clear HI2
    obtain ⟨M3, hM3⟩ : ∃ M3, M3 = L ++ bN kA 5 ++ bN kB 5 ++ bN kt 4 := ⟨_, rfl⟩
    have HM3 : Hid (M3 = L ++ bN kA 5 ++ bN kB 5 ++ bN kt 4) := hM3
    have hM3l : M3.length = L.length + 14 := by rw [hM3]; simp [bN_len]
    rw [← hM3] at HI3
    clear hM3
    go_wp2_with fail
    go_loopw [46] (fun ti wr => ∃ i : Nat, i ≤ kt + 4 ∧ ti = .int .i64 (i : Int) ∧ WrI W wr bw B v (M3 ++ szb8 Z i)) (fun ti _ => kt + 4 - (intOf ti).toNat)
    case atStart => exact ⟨0, by omega, rfl, by rw [szb8, List.append_nil]; exact HI3⟩
    case round =>
      obtain ⟨i, hit, rfl, HI⟩ := hrel
      clear HI3 q0 q1 q2 q3 q4
      obtain ⟨⟨q0, q1, q2, q3, q4⟩, SZ, SR, TS, TO⟩ := HK.out wr HI.kp
      by_cases hlt : i < kt + 4
      · have hlti : (i : Int) < (kt : Int) + 4 := by omega
        have c0 := TabO.at8 TO i (by omega)
        have hob := ord_bd ⟨i, by omega⟩
        simp only at hob
        have KR2 : Hid (∀ w' M, WrI W w' bw B v M → w'.cell? ⟨w1.heap.size, 2, none⟩ = some (.slice (some ⟨zg, 0, none⟩) 19 zc) ∧ w'.cell? ⟨1, i, none⟩ = some (.int .i64 (ordL.getD i 0)) ∧ w'.cell? ⟨zg, (ordL.getD i 0).toNat, none⟩ = some (.int .i64 (Z.getD (ordL.getD i 0).toNat 0))) := fun w' M h => by
          obtain ⟨⟨_, _, r2, _⟩, RZ, _, _, RO⟩ := HK.out w' h.kp
          obtain ⟨zg', off', ez, cz⟩ := RZ.at_ (ordL.getD i 0).toNat (by omega)
          cases ez
          rw [Nat.zero_add] at cz
          exact ⟨r2, TabO.at8 RO i (by omega), cz⟩
        have HSB : Hid (szb8 Z (i + 1) = szb8 Z i ++ bN (Z.getD (ordL.getD i 0).toNat 0).toNat 3) := rfl
        have hl3 := szb8_len Z i
        generalize ordL.getD i 0 = oq at *
        obtain ⟨s, rfl⟩ : ∃ s : Nat, oq = (s : Int) := ⟨oq.toNat, by omega⟩
        rw [Int.toNat_natCast] at HSB KR2
        obtain ⟨zg', off', ez, cz⟩ := SZ.at_ s (by omega)
        cases ez
        rw [Nat.zero_add] at cz
        have hzb := hZb s (by omega)
        generalize Z.getD s 0 = z at *
        obtain ⟨zn, rfl⟩ : ∃ zn : Nat, z = (zn : Int) := ⟨z.toNat, by omega⟩
        rw [Int.toNat_natCast] at HSB
        have hs19 : (s : Int) < 19 := by omega
        have hi19 : (i : Int) < 19 := by omega
        have CPU := put8 (HI.drew8) zn 3 (by omega) (by omega) (by rw [List.length_append, hl3]; omega)
        rw [List.append_assoc, ← HSB.out] at CPU
        have KR : Hid (wr.cell? ⟨w1.heap.size, 2, none⟩ = some (.slice (some ⟨zg, 0, none⟩) 19 zc) ∧ wr.cell? ⟨1, i, none⟩ = some (.int .i64 (s : Int)) ∧ wr.cell? ⟨zg, s, none⟩ = some (.int .i64 (zn : Int))) := ⟨q2, c0, cz⟩
        clear HI SZ SR TS TO q0 q1 q3 q4 HSB
        go_wp2_with fail
        have r2 : wr.drew.cell? ⟨w1.heap.size, 2, none⟩ = some (.slice (some ⟨zg, 0, none⟩) 19 zc) := KR.out.1
        have r3 : wr.drew.cell? ⟨1, i, none⟩ = some (.int .i64 (s : Int)) := KR.out.2.1
        have r4 : wr.drew.cell? ⟨zg, s, none⟩ = some (.int .i64 (zn : Int)) := KR.out.2.2
        have HCV : Hid (IntKind.u64.wrap (zn : Int) = (zn : Int)) := IntWalk.u64_in _ (by omega)
        clear KR KR2 q2 c0 cz HK HOW
        go_region_law (first | (go_simp; go_at_call 29; rw [HCV.out]; refine CPU.mono ?_; rintro e w5 ⟨rfl, HI5⟩))
        all_goals
          go_wp2_with fail
          go_roundw
          case rel => exact ⟨i + 1, by omega, by go_num, HI5⟩
          case measure => simp [intOf]; omega
      · have hge : ¬ (i : Int) < (kt : Int) + 4 := by omega
        obtain rfl : i = kt + 4 := by omega
        have hl3 := szb8_len Z (kt + 4)
        obtain ⟨M4, hM4⟩ : ∃ M4, M4 = M3 ++ szb8 Z (kt + 4) := ⟨_, rfl⟩
        have HM4 : Hid (M4 = M3 ++ szb8 Z (kt + 4)) := hM4
        have hM4l : M4.length ≤ L.length + 80 := by rw [hM4, List.length_append, hl3]; omega
        rw [← hM4] at HI
        clear hM4
        have CE := newEnc_far (some ⟨zg, 0, none⟩) Z 19 zc hZ19 wr SZ (fun h => by cases h) (by omega)
        have hws := HI.size
        generalize wr = w5 at *
        clear SZ SR TS TO
        go_wp2_with fail
        refine CE.mono ?_
        rintro e w6 ⟨hE, _, B6⟩
        obtain ⟨eb, rfl, heb, hEn, hEK⟩ := hE HZC.out
        obtain ⟨v6, hw5, K5, F5⟩ := HI
        have K6 : Kp (WS bw v) W w6 := K5.trans (S' := fun _ => False) (kp_of_below B6 _) (fun _ _ e => e.elim)
        have hw6 := hw5.below8 B6
        have hb5 := hw5.b_lt
        have ho5 := hw5.own_lt
        have HK2 : Hid (∀ wr, Kp (WS bw v6) w6 wr → SegN wr ra R ∧ TabS wr ∧ En wr eb w6.heap.size Z) := fun wr hk => by
          have hk2 : Kp (WS bw v) W wr := K6.trans (S' := WS bw v6) hk (fun k hlt e => by
            rcases e with e | e
            · exact .inl e
            · rcases F5 k e with e2 | e2
              · exact .inr e2
              · omega)
          obtain ⟨_, _, h1, h2, _⟩ := HK.out wr hk2
          refine ⟨h1, h2, hEK wr ((Kp.refl (fun k => k < w5.heap.size) w6).trans (S' := WS bw v6) hk (fun k hlt e => ?_))⟩
          rcases e with e | e
          · omega
          · exact (ho5 k e).2.1
        obtain ⟨⟨r0, r1, r2, r3, r4⟩, _⟩ := HK.out w6 K6
        have HJ : Hid (∀ wr, WrI w6 wr bw B v6 (M4 ++ rnb8 Z R) → WtQ w bw B v L lit dist (.returned (.int .i64 0)) wr) := fun wr h => by
          refine HQ.out wr ?_
          have e : L ++ hd8 lit dist = M4 ++ rnb8 Z R := by
            rw [HHD.out, HM4.out, HM3.out]
            simp only [List.append_assoc]
          rw [e]
          obtain ⟨v7, h1, h2, h3⟩ := h
          exact WrI.up xW (WrI.next K6 F5 h1 h2 h3)
        have HI6 : WrI w6 w6 bw B v6 M4 := WrI.start hw6
        clear hE CE hEK hEn K5 hw5 K6 F5 HK HQ HHD HM3 HM4 r0 r1 r2 r3 hw6 B6 hws
        have hs5 : bw < w6.heap.size := by have := HI6.kp.size; obtain ⟨_, h, _⟩ := HI6; exact h.b_lt
        go_wp2_with fail
        clear r4
        go_loopw [69] (fun ti wr => ∃ i : Nat, i ≤ nR ∧ ti = .int .i64 (i : Int) ∧ WrI w6 wr bw B v6 (M4 ++ rnb8 Z (R.take i))) (fun ti _ => nR - (intOf ti).toNat)
        case atStart => exact ⟨0, by omega, rfl, by rw [List.take_zero, rnb8, List.append_nil]; exact HI6⟩
        case round =>
          obtain ⟨i, hin, rfl, HI⟩ := hrel
          clear HI6
          by_cases hlt : i < nR
          · have hlti : (i : Int) < (nR : Int) := by omega
            have hil : i < R.length := by rw [HNR.out]; exact hlt
            obtain ⟨SR, TS, hEn⟩ := HK2.out wr HI.kp
            obtain ⟨rb, off, rfl, cs, cc⟩ := SR.at_ i hil
            have HTK : Hid (R.take (i + 1) = R.take i ++ [R.getD i ⟨0, 0⟩]) := take_snocN hil
            have hok := HOKR.out (R.getD i ⟨0, 0⟩) (by simp [List.getD, hil])
            have hml : (M4 ++ rnb8 Z (R.take i)).length ≤ L.length + 8000 := by
              have := rnb8_len HZC.out (R.take i)
              rw [List.length_take] at this
              rw [List.length_append]
              omega
            have hctl := ct8_lt hok
            have HRB : Hid (M4 ++ rnb8 Z (R.take (i + 1)) = (M4 ++ rnb8 Z (R.take i)) ++ putB Z (R.getD i ⟨0, 0⟩).sy ++ bN ((R.getD i ⟨0, 0⟩).ct - lst8 (R.getD i ⟨0, 0⟩).sy).toNat (mor8 (R.getD i ⟨0, 0⟩).sy)) := by
              show _ = _
              rw [HTK.out, rnb8_app, rnb8, rnb8, List.append_nil]
              simp only [List.append_assoc]
            generalize M4 ++ rnb8 Z (R.take i) = MM at *
            generalize R.getD i ⟨0, 0⟩ = r at *
            obtain ⟨sy, ct⟩ := r
            simp only [ok8] at cs cc hok hctl HRB
            obtain ⟨s, rfl⟩ : ∃ s : Nat, sy = (s : Int) := ⟨sy.toNat, by omega⟩
            have hs19 : (s : Int) < 19 := by omega
            obtain ⟨v7, h71, h72, h73⟩ := HI
            have hb7 := h71.b_lt
            have ho7 := h71.own_lt
            obtain ⟨wA, hwA⟩ : ∃ wA, wA = wr.alloc (.cells #[.int .i64 (s : Int), .int .i64 ct] 211) := ⟨_, rfl⟩
            have HWA : Hid (wr.alloc (.cells #[.int .i64 (s : Int), .int .i64 ct] 211) = wA) := hwA.symm
            have hA : wA.heap[wr.heap.size]? = some (.cells #[.int .i64 (s : Int), .int .i64 ct] 211 (0, 0)) := by rw [hwA]; exact heap_alloc_new wr _
            have bA : Below wr.heap.size wr wA := by rw [hwA]; exact below_box8 wr _
            have cA0 : wA.cell? ⟨wr.heap.size, 0, none⟩ = some (.int .i64 (s : Int)) := (cell_of_row wA _ 0 _ _ _ hA).trans rfl
            have cA1 : wA.cell? ⟨wr.heap.size, 1, none⟩ = some (.int .i64 ct) := (cell_of_row wA _ 1 _ _ _ hA).trans rfl
            have hEA := hEn.old (bA.mono (by have := h72.size; omega))
            have CE2 := put5_any eb w6.heap.size Z (s : Int) bw B v7 MM wA hEA (h71.below8 bA) (by omega)
            have h72A : Kp (WS bw v6) w6 wA := h72.trans (S' := fun _ => False) (kp_of_below bA _) (fun _ _ e => e.elim)
            clear hwA hA bA SR TS hEn hEA h71 h72
            go_wp2_with fail
            rw [HWA.out]
            refine CE2.mono ?_
            rintro e w7 ⟨rfl, v8, h81, h82, h83⟩
            have hfarA : ¬ WS bw v7 wr.heap.size := fun e => by
              rcases e with e | e
              · omega
              · have := (ho7 _ e).2.1; omega
            have c70 := h82.cellN cA0 hfarA
            have c71 := h82.cellN cA1 hfarA
            obtain ⟨v9, h91, h92, h93⟩ := WrI.next h72A h73 h81 h82 h83
            obtain ⟨_, TS, _⟩ := HK2.out w7 h92
            obtain ⟨t0, t1, t2⟩ := TabS.at8 TS s (by omega)
            have hl1 := lst8_bd (s : Int)
            have hm1 := mor8_le (s : Int)
            have hl7 : (MM ++ putB Z (s : Int)).length ≤ L.length + 9000 := by
              have := putB_le HZC.out (s : Int)
              rw [List.length_append]
              omega
            clear CE2 h81 h82 h83 hfarA cA0 cA1 cs cc TS HWA h72A h73 HTK
            generalize sln8 (s : Int) = x0 at *
            generalize lst8 (s : Int) = x1 at *
            generalize mor8 (s : Int) = mo at *
            obtain ⟨k, rfl⟩ : ∃ k : Nat, ct = x1 + (k : Int) := ⟨(ct - x1).toNat, by omega⟩
            rw [show x1 + (k : Int) - x1 = (k : Int) by omega, Int.toNat_natCast] at hctl HRB
            have hkb : k ≤ 127 := by
              have : 2 ^ mo ≤ 2 ^ 7 := Nat.pow_le_pow_right (by omega) hm1
              omega
            have hlt7 : wr.heap.size < w7.heap.size := World.block_lt_of_cell? w7 _ c70
            have h07 : 0 < w7.heap.size := by omega
            have HI9 : WrI w6 w7 bw B v6 (MM ++ putB Z (s : Int)) := ⟨v9, h91, h92, h93⟩
            have HI10 := HI9.old (below_box8 w7 (.cells #[.int .i64 x0, .int .i64 x1, .int .i64 (mo : Int)] 213))
            have CPU := put8 HI10 k mo hctl (by omega) (by omega)
            rw [← HRB.out] at CPU
            clear HI9 HI10 h91 h92 h93 HRB
            go_wp2_with fail
            rw [show x1 + (k : Int) - x1 = (k : Int) by omega]
            refine CPU.mono ?_
            rintro e w8 ⟨rfl, HI8⟩
            go_wp2_with fail
            go_roundw
            case rel => exact ⟨i + 1, by omega, by go_num, HI8⟩
            case measure => simp [intOf]; omega
          · have hge : ¬ (i : Int) < (nR : Int) := by omega
            have hTA : R.take i = R := List.take_of_length_le (by rw [HNR.out]; omega)
            rw [hTA] at HI
            have HF := HJ.out wr HI
            clear HJ HK2
            go_wp2_with fail
            go_ret
            exact HF
  · have HF : Hid (∀ w', Below w.heap.size w w' → WtQ w bw B v L lit dist (.returned (.int .i64 80)) w') := fun w' hb => by
      unfold WtQ
      rw [if_neg ht, if_neg ht, List.append_nil]
      exact ⟨rfl, (WrI.start HWR.out).old hb⟩
    go_enter Tryz.func105, Tryz.ntmps105
    go_wp2_with fail
    refine CP.mono ?_
    rintro e w1 ⟨_, hno, B1⟩
    obtain rfl := hno ht
    clear CP hno ht
    go_wp2_with fail
    go_ret
    exact HF.out _ (B1.trans ((below_box8 w1 _).mono B1.size))
end Go.Proofs.YtiankbopnjhhaaaGreatDoor

namespace Go.Proofs.YtiankbopnjhhaaaGreatDoor
open Go.RowKit
set_option linter.unusedVariables false

/-! The landed block: writeTokens, of bytes alone. -/
def tkb9 (Z : List Int) (l : List Tok7) : List Bool := l.flatMap fun t => putB Z t.lit
theorem tkb9_snoc (Z : List Int) (l : List Tok7) (t : Tok7) : tkb9 Z (l ++ [t]) = tkb9 Z l ++ putB Z t.lit := by simp [tkb9]
theorem tkb9_len {Z : List Int} (h : errC Z = 0) : ∀ l : List Tok7, (tkb9 Z l).length ≤ 15 * l.length
  | [] => by simp [tkb9]
  | t :: r => by
    have h1 := putB_le h t.lit
    have h2 := tkb9_len h r
    have e : tkb9 Z (t :: r) = putB Z t.lit ++ tkb9 Z r := rfl
    rw [e, List.length_append, List.length_cons]
    omega
set_option maxRecDepth 100000 in
set_option maxHeartbeats 4000000 in
theorem pwtok9_lit (bw B : Nat) (v : Value) (L : List Bool) (l : List Tok7) (a : Option Addr) (n cap : Nat) (hn : Hid (l.length = n)) (ZL ZD : List Int) (la da : Option Addr) (nl lc nd dc : Nat) (hnl : Hid (ZL.length = nl)) (hnd : Hid (ZD.length = nd)) (w : World) (hw : WrL w bw B v L) (hL : L.length ≤ 1000000000000) (hs : SegT w a l) (sL : SegZ w la ZL) (sD : SegZ w da ZD) (nlL : la = none → lc = 0) (nlD : da = none → dc = 0) (hl1 : nl ≤ 1000) (hd1 : nd ≤ 1000) (hcL : errC ZL = 0) (hcD : errC ZD = 0) (hl : n ≤ 65536) (hlit : ∀ t ∈ l, t.len = 0) (hfar : ∀ g o, a = some ⟨g, o, none⟩ → 0 < n → ¬ WS bw v g) :
    Calls Tryz.prog 102 #[.pointer (some ⟨bw, 0, none⟩), .slice a n cap, .slice la nl lc, .slice da nd dc] w fun e w' => e = .returned (.tuple #[]) ∧ ∃ w2, Below w.heap.size w w2 ∧ WrI w2 w' bw B v (L ++ (tkb9 ZL l ++ putB ZL 256)) := by
  have HW : Hid (WrL w bw B v L) := hw
  have HS : Hid (SegT w a l) := hs
  have HLIT : Hid (∀ t ∈ l, t.len = 0) := hlit
  have HFAR : Hid (∀ g o, a = some ⟨g, o, none⟩ → 0 < n → ¬ WS bw v g) := hfar
  have HSD : Hid (SegZ w da ZD) := sD
  have HCL : Hid (errC ZL = 0) := hcL
  have CE1 := newEnc_far la ZL nl lc hnl w sL nlL (by omega)
  have hbl := hw.b_lt
  have hol := hw.own_lt
  clear hw hs hlit hfar sD sL
  go_enter Tryz.func102, Tryz.ntmps102
  go_wp2_with fail
  refine CE1.mono ?_
  rintro e w1 ⟨hE, _, b1⟩
  obtain ⟨e1, rfl, he1, _, hEK1⟩ := hE hcL
  have CE2 := newEnc_far da ZD nd dc hnd w1 (HSD.out.old b1) nlD (by omega)
  clear CE1 hE
  go_wp2_with fail
  refine CE2.mono ?_
  rintro e w2 ⟨hE, _, b2⟩
  obtain ⟨e2, rfl, he2, _, hEK2⟩ := hE hcD
  have B2 : Below w.heap.size w w2 := b1.trans (b2.mono b1.size)
  have HI0 : WrI w2 w2 bw B v L := WrI.start (HW.out.below8 B2)
  have HK : Hid (∀ wr, Kp (WS bw v) w2 wr → En wr e1 w1.heap.size ZL ∧ SegT wr a l) := fun wr hk => by
    refine ⟨hEK1 wr ?_, ?_⟩
    · refine (kp_of_below b2 (fun k => k < w.heap.size)).trans hk (fun k hlt e => ?_)
      rcases e with e | e
      · omega
      · exact (hol k e).2.1
    · refine (HS.out.old B2).kp hk (fun g o e h => ?_)
      exact HFAR.out g o e (by have := hn.out; omega)
  have HB2 : Hid (Below w.heap.size w w2) := B2
  have HSZ2 : Hid (w1.heap.size ≤ w2.heap.size) := b2.size
  clear CE2 hE hEK1 hEK2 b1 b2 B2 hol
  go_wp2_with fail
  go_loopw [30] (fun ti wr => ∃ i : Nat, i ≤ n ∧ ti = .int .i64 (i : Int) ∧ WrI w2 wr bw B v (L ++ tkb9 ZL (l.take i))) (fun ti _ => n - (intOf ti).toNat)
  case atStart => exact ⟨0, by omega, rfl, by rw [List.take_zero]; simpa [tkb9] using HI0⟩
  case round =>
    obtain ⟨i, hin, rfl, HI⟩ := hrel
    clear HI0
    obtain ⟨EN, ST⟩ := HK.out wr HI.kp
    have hML : (L ++ tkb9 ZL (l.take i)).length ≤ 1000001000000 := by
      have := tkb9_len hcL (l.take i)
      rw [List.length_take] at this
      rw [List.length_append]
      omega
    by_cases hlt : i < n
    · have hlti : (i : Int) < (n : Int) := by omega
      have hil : i < l.length := by rw [hn.out]; exact hlt
      obtain ⟨g, o, rfl, tk⟩ := ST.at_ i hil
      have hmem : l.getD i tk0 ∈ l := by simp only [List.getD, List.getElem?_eq_getElem hil, Option.getD_some]; exact List.getElem_mem hil
      have hfit := HS.out.fit (l.getD i tk0) hmem
      have hl0 := HLIT.out _ hmem
      have HTK : Hid (l.take (i + 1) = l.take i ++ [l.getD i tk0]) := by
        show _ = _
        rw [List.take_succ_eq_append_getElem hil]
        simp only [List.getD, List.getElem?_eq_getElem hil, Option.getD_some]
      clear hmem
      generalize l.getD i tk0 = t at *
      obtain ⟨lit, len, dist⟩ := t
      obtain ⟨x0, x1, x2⟩ := tk
      simp only at x0 x1 x2 hl0
      subst hl0
      have hlb : 0 ≤ lit ∧ lit ≤ 255 := hfit.1
      have HBW : Hid (L ++ tkb9 ZL (l.take (i + 1)) = (L ++ tkb9 ZL (l.take i)) ++ putB ZL lit) := by show _ = _; rw [HTK.out, tkb9_snoc, List.append_assoc]
      have HII : Hid (WrI w2 wr bw B v (L ++ tkb9 ZL (l.take i))) := HI
      have HEN : Hid (En wr e1 w1.heap.size ZL) := EN
      clear HI EN ST
      go_wp2_with fail
      have b3 := below_box8 wr (.cells #[.int .u8 lit, .int .i64 0, .int .i64 dist] 97)
      generalize wr.alloc (.cells #[.int .u8 lit, .int .i64 0, .int .i64 dist] 97) = wa at *
      have CP := eput8 lit (HII.out.old b3) (HEN.out.old (b3.mono (by have := HII.out.size; have := HSZ2.out; omega))) (by omega)
      rw [← HBW.out] at CP
      clear b3
      refine CP.mono ?_
      rintro e w5 ⟨rfl, HI5⟩
      have i7 : IntKind.i64.wrap ((i : Int) + 1) = (i : Int) + 1 := IntWalk.i64_in _ (by omega)
      clear CP HII HEN
      generalize errP ZL lit = E at *
      go_wp2_with fail
      go_roundw
      case rel => exact ⟨i + 1, by omega, by go_num, HI5⟩
      case measure => simp [intOf]; omega
    · obtain rfl : i = n := by omega
      have hta : l.take i = l := List.take_of_length_le (by rw [hn.out]; exact Nat.le_refl _)
      rw [hta] at HI hML
      have CP := eput8 256 HI EN (by omega)
      rw [List.append_assoc] at CP
      clear HI EN ST hta
      go_wp2_with fail
      refine CP.mono ?_
      rintro e w5 ⟨rfl, HI5⟩
      clear CP
      generalize errP ZL 256 = E at *
      go_wp2_with fail
      refine bodyPost_end (results_none rfl _ _ _) rfl ?_
      exact ⟨rfl, w2, HB2.out, HI5⟩
end Go.Proofs.YtiankbopnjhhaaaGreatDoor

namespace Go.Proofs.YtiankbopnjhhaaaGreatDoor
open Go.RowKit
set_option linter.unusedVariables false

/-! The landed block: a Plain block of bytes. -/
set_option maxRecDepth 100000 in
theorem pln_ok9 : errC plnL9 = 0 ∧ errC plnD9 = 0 := ⟨by kernel_rfl, by kernel_rfl⟩
theorem plnL9_bd : ∀ z ∈ plnL9, -9223372036854775808 ≤ z ∧ z ≤ 9223372036854775807 := fun z hz => by
  have := (errS_zero (errC_zero pln_ok9.1).1).2 z hz
  omega
theorem plnD9_bd : ∀ z ∈ plnD9, -9223372036854775808 ≤ z ∧ z ≤ 9223372036854775807 := fun z hz => by
  have := (errS_zero (errC_zero pln_ok9.2).1).2 z hz
  omega
theorem plnL9_len : plnL9.length = 288 := by kernel_rfl
set_option maxRecDepth 100000 in
set_option maxHeartbeats 4000000 in
theorem pwpl9_lit (bw B : Nat) (v : Value) (L : List Bool) (l : List Tok7) (a : Option Addr) (n cap : Nat) (hn : Hid (l.length = n)) (dv tv : Value) (w : World) (hw : WrL w bw B v L) (hL : L.length ≤ 1000000000000) (hs : SegT w a l) (hl : n ≤ 65536) (hlit : ∀ t ∈ l, t.len = 0) (hfar : ∀ g o, a = some ⟨g, o, none⟩ → 0 < n → ¬ WS bw v g) :
    Calls Tryz.prog 78 #[.pointer (some ⟨bw, 0, none⟩), dv, .slice a n cap, tv] w fun e w' => e = .returned (.tuple #[]) ∧ ∃ w2, Below w.heap.size w w2 ∧ WrI w2 w' bw B v (L ++ (tkb9 plnL9 l ++ putB plnL9 256)) := by
  go_enter Tryz.func78, Tryz.ntmps78
  go_wp2_with fail
  refine (pplain9 w).mono ?_
  rintro e w1 ⟨la, lc, da, rfl, o1, o2, _, b1⟩
  have s1 : SegZ w1 la plnL9 := own_segZ o1 plnL9_bd
  have s2 : SegZ w1 (some ⟨da, 0, none⟩) plnD9 := own_segZ o2 plnD9_bd
  have n1 : la = none → lc = 0 := fun h => by
    obtain ⟨g, cp, hv, _⟩ := own_shape o1 (by omega)
    injection hv with h1 _ _
    rw [h1] at h
    cases h
  have CT := pwtok9_lit bw B v L l a n cap hn plnL9 plnD9 la (some ⟨da, 0, none⟩) 288 lc 32 32 plnL9_len rfl w1 (hw.below8 b1) hL (hs.old b1) s1 s2 n1 (fun h => by cases h) (by omega) (by omega) pln_ok9.1 pln_ok9.2 hl hlit hfar
  clear o1 o2 s1 s2
  go_wp2_with fail
  refine CT.mono ?_
  rintro e w3 ⟨rfl, w2, b2, HI⟩
  clear CT
  go_wp2_with fail
  refine bodyPost_end (results_none rfl _ _ _) rfl ?_
  exact ⟨rfl, w2, b1.trans (b2.mono b1.size), HI⟩
end Go.Proofs.YtiankbopnjhhaaaGreatDoor

namespace Go.Proofs.YtiankbopnjhhaaaGreatDoor
open Go.RowKit
set_option linter.unusedVariables false

/-! The landed block: Write, a Plain block of bytes, the stream's last, as a writer's first. -/
set_option maxRecDepth 100000 in
set_option maxHeartbeats 4000000 in
theorem pwr9_lit (bw B : Nat) (l : List Tok7) (a : Option Addr) (n cap : Nat) (hn : Hid (l.length = n)) (xa : Option Addr) (nx xc : Nat) (w : World) (hw : WrL w bw B (.slice none 0 0) []) (hs : SegT w a l) (hl : n ≤ 65536) (hlit : ∀ t ∈ l, t.len = 0) (hmay : ∀ t ∈ l, may7 t) (hsz : (tal9 l).getD 0 0 = (nx : Int)) (hm : (nx : Int) ≤ 16908288) (hfar : ∀ g o, a = some ⟨g, o, none⟩ → 0 < n → g ≠ bw) :
    Calls Tryz.prog 34 #[.pointer (some ⟨bw, 0, none⟩), .int .i64 1, .bool true, .slice xa nx xc, .slice a n cap] w fun e w' => e = .returned (.int .i64 0) ∧ (∃ v', WrL w' bw B v' (bN 3 3 ++ (tkb9 plnL9 l ++ putB plnL9 256))) ∧ Kp (fun k => k = bw) w w' := by
  have CL := len_any bw B (.slice none 0 0) [] w hw (by simp)
  rw [show (([] : List Bool).length : Int) = 0 from rfl] at CL
  have HW : Hid (WrL w bw B (.slice none 0 0) []) := hw
  have HS : Hid (SegT w a l) := hs
  have HSZ : Hid ((tal9 l).getD 0 0 = (nx : Int)) := hsz
  have HFAR : Hid (∀ g o, a = some ⟨g, o, none⟩ → 0 < n → g ≠ bw) := hfar
  have hbl := hw.b_lt
  clear hw hs hsz hfar
  go_enter Tryz.func34, Tryz.ntmps34
  go_wp2_with fail
  refine CL.mono ?_
  rintro e w1 ⟨rfl, b1⟩
  have CP := pplan9_ok l a n cap hn 1 (by omega) 0 (by omega) w1 (HS.out.old b1) hl hmay (by rw [HSZ.out]; exact hm)
  clear CL
  go_wp2_with fail
  refine CP.mono ?_
  rintro e w2 ⟨tb, htb, rfl, TA, b2⟩
  have B2 : Below w.heap.size w w2 := b1.trans (b2.mono b1.size)
  obtain ⟨fi, fs, fo, f0⟩ := fk9_facts 1 (by omega)
  have f2 : (fk9 1)[2]? = some (fnv9 78) := by kernel_rfl
  have q3 := setRow_heap _ w2.heap.size _ (fk9 1) _ _ (heap_alloc_new w2 (.cells #[.int .i64 0, .nilFunc, .nilFunc, .nilFunc] 111))
  have b3 : Below w2.heap.size w2 ((w2.alloc (.cells #[.int .i64 0, .nilFunc, .nilFunc, .nilFunc] 111)).setRow w2.heap.size (fk9 1)) := ((Below.refl w2.heap.size w2).alloc (Nat.le_refl _) _).grown (grown_setRow _ _ _) (by simp) (fun j e => by cases e; exact Nat.le_refl _)
  have c0 := (TA.keep (b3.block tb TA.lt)).cell (i := 0) (by omega)
  rw [HSZ.out] at c0
  have i3 : bits .or .u64 2 1 = 3 := by decide
  have HB3 : Hid (Below w.heap.size w ((w2.alloc (.cells #[.int .i64 0, .nilFunc, .nilFunc, .nilFunc] 111)).setRow w2.heap.size (fk9 1))) := B2.trans (b3.mono B2.size)
  have HQ3 : Hid (((w2.alloc (.cells #[.int .i64 0, .nilFunc, .nilFunc, .nilFunc] 111)).setRow w2.heap.size (fk9 1)).heap[w2.heap.size]? = some (.cells (fk9 1) 111 (0, 0))) := q3
  have hw2 : w.heap.size ≤ w2.heap.size := B2.size
  clear CP b1 b2 b3 q3 TA B2
  go_wp2_with (refine wpList_store_row rfl 111 (.tmp 11) (.tmp 24) rfl w2.heap.size (fk9 1) rfl rfl _ _ (heap_alloc_new w2 _) fi fs fo ?_)
  generalize (w2.alloc (.cells #[.int .i64 0, .nilFunc, .nilFunc, .nilFunc] 111)).setRow w2.heap.size (fk9 1) = w3 at *
  have HI0 : WrI w3 w3 bw B (.slice none 0 0) [] := WrI.start (HW.out.below8 HB3.out)
  have CPU := put8 HI0 3 3 (by decide) (by omega) (by simp)
  rw [List.nil_append] at CPU
  refine CPU.mono ?_
  rintro e w4 ⟨rfl, v4, W4, K4, F4⟩
  have hww : w2.heap.size < w3.heap.size := (Array.getElem?_eq_some_iff.1 HQ3.out).1
  have K4' : Kp (fun k => k = bw) w3 w4 := K4.mono (fun k _ e => by rcases e with e | e; exact e; simp [Value.ownBlock] at e)
  have q4 := K4'.heap HQ3.out (by omega)
  have d2 : w4.cell? ⟨w2.heap.size, 2, none⟩ = some (.func (.func 78) #[] #[]) := (cell_of_row w4 _ 2 _ _ _ q4).trans f2
  have hown : ∀ k, v4.ownBlock = some k → w3.heap.size ≤ k := fun k hk => by
    rcases F4 k hk with e | e
    · simp [Value.ownBlock] at e
    · exact e
  have CT := fun dv tv => pwpl9_lit bw B v4 (bN 3 3) l a n cap hn dv tv w4 W4 (by simp [bN_len]) (((HS.out.old HB3.out)).kp K4' (fun g o e h => HFAR.out g o e (by have := hn.out; omega))) hl hlit (fun g o e h => by
    rintro (q | q)
    · exact HFAR.out g o e h q
    · have h1 := hown g q
      have h2 := HS.out.lt g o e (by have := hn.out; omega)
      have := HB3.out.size
      omega)
  clear HI0 CPU K4 F4 c0 i3 q4
  go_wp2_with fail
  refine (CT _ _).mono ?_
  rintro e w6 ⟨rfl, w5, b5, v6, W6, K6, F6⟩
  have HE : Hid ((∃ v', WrL w6 bw B v' (bN 3 3 ++ (tkb9 plnL9 l ++ putB plnL9 256))) ∧ Kp (fun k => k = bw) w w6) := by
    refine ⟨⟨v6, W6⟩, ?_⟩
    refine (((Kp.of_below (S := fun k => k = bw) HB3.out).trans K4' (fun _ _ e => e)).trans (Kp.of_below (S := fun _ => False) b5) (fun _ _ e => e.elim)).trans K6 (fun k hk e => ?_)
    rcases e with e | e
    · exact e
    · have h1 := hown k e
      have := HB3.out.size
      omega
  clear CT W6 K6 F6 b5 W4
  go_wp2_with fail
  go_ret
  exact ⟨rfl, HE.out.1, HE.out.2⟩
end Go.Proofs.YtiankbopnjhhaaaGreatDoor
