import Derived.Test.YthcmebmohhajaaaDoorPh
import Derived.Test.YthcmebmohhajaaaDoorPi
import Derived.Deep.RegionHeld3
import Derived.Test.YthcmebmohhajaaaDoorPg
namespace Go.Proofs.YthcmebmohhajaaaDoor
open Go.RowKit
set_option linter.unusedVariables false

theorem seg_bool1 (w : World) (y : Bool) : SegB (w.alloc (.cells #[.bool y] 4)) (some ⟨w.heap.size, 0, none⟩) [y] := by
  refine ⟨fun i hi => ⟨w.heap.size, 0, rfl, ?_⟩⟩
  simp only [List.length_cons, List.length_nil] at hi
  match i, hi with
  | 0, _ => simp
theorem and_oneI (v : Nat) : bits .and .i64 (v : Int) 1 = ((v % 2 : Nat) : Int) := by
  have h1 : (BitVec.ofInt 64 1).toNat = 2 ^ 1 - 1 := by decide
  have key : (BitVec.ofInt 64 (v : Int) &&& BitVec.ofInt 64 1).toNat = ((v : Int) % ((2 ^ 64 : Nat) : Int)).toNat % 2 ^ 1 := by
    rw [BitVec.toNat_and, BitVec.toNat_ofInt, h1, Nat.and_two_pow_sub_one_eq_mod]
  show IntKind.i64.wrap ((BitVec.ofInt 64 (v : Int) &&& BitVec.ofInt 64 1).toNat : Nat) = ((v % 2 : Nat) : Int)
  rw [key, IntKind.wrap_i64]
  omega
set_option maxRecDepth 100000 in
set_option maxHeartbeats 1000000 in
theorem row5_any (x k : Nat) (w : World) (hx : x < 32768) (hk : k ≤ 15) :
    Calls Tryd.prog 96 #[.int .i64 (x : Int), .int .i64 (k : Int)] w fun e w' => ∃ a c, e = .returned (.slice a k c) ∧ w'.ownsRow w.heap.size 4 1 (.slice a k c) k ((bN x k).reverse.map Value.bool) ∧ Below w.heap.size w w' := by
  obtain ⟨i0, hi, hz0, hz1, hz2⟩ := info_parts info_b1
  go_enter Tryd.func96, Tryd.ntmps96
  go_wp2_with fail
  go_loopw [5, 6] (fun tl ti wr => ∃ (m : Nat) (a1 : Option Addr) (c1 : Nat), m ≤ k ∧ ti = .int .i64 ((m : Int) - 1) ∧ tl = .slice a1 (k - m) c1 ∧ wr.ownsRow w.heap.size 4 1 (.slice a1 (k - m) c1) (k - m) (((bN x k).reverse.take (k - m)).map Value.bool) ∧ Below w.heap.size w wr) (fun _ ti _ => (intOf ti + 1).toNat)
  case atStart => exact ⟨k, none, 0, Nat.le_refl _, rfl, by rw [Nat.sub_self], by rw [Nat.sub_self, List.take_zero]; exact World.ownsRow_nil _ _ _ _, Below.refl _ _⟩
  case round =>
    obtain ⟨m, a1, c1, hm, rfl, rfl, O1, B1⟩ := hrel
    by_cases hlt : 0 < m
    · obtain ⟨i, rfl⟩ : ∃ i, m = i + 1 := ⟨m - 1, by omega⟩
      have hbs := rev_take x k i (by omega)
      have him : (((i + 1 : Nat) : Int) - 1) = (i : Int) := by omega
      rw [him]
      have HK : Hid (k - (i + 1) + 1 = k - i) := by show _ = _; omega
      have HB : Hid (((bN x k).reverse.take (k - (i + 1))).map Value.bool ++ [x.testBit i].map Value.bool = ((bN x k).reverse.take (k - i)).map Value.bool) := by show _ = _; rw [hbs, List.map_append]
      have hq := shr_nat x i
      have ha := and_oneI (x / 2 ^ i)
      have hb := bit_eq x i
      have hq0 : x / 2 ^ i < 32768 := Nat.lt_of_le_of_lt (Nat.div_le_self _ _) hx
      have hkm : k - (i + 1) ≤ 15 := by omega
      have hi15 : i ≤ 15 := by omega
      have hsz := B1.size
      clear him hbs
      generalize hqq : x / 2 ^ i = q at *
      clear hqq
      have hb2 : q % 2 < 2 := by omega
      generalize q % 2 = bb at *
      generalize x.testBit i = y at *
      generalize k - (i + 1) = r at *
      go_wp2_with (first
        | (at_builtin; refine wpList_appB rfl (.tmp 13) (.tmp 19) 38 rfl w.heap.size 4 i0 (.bool false) 1 Tryd.underlying38 hi hz0 hz1 hz2 rfl (O1.alloc _) (seg_bool1 wr y) (by intro h; cases h) rfl rfl (by simp; omega) (by simp; omega) (by simp; omega) ?_; intro a2 c2 w2 hown2 hg2 hf2; clear hf2))
      have B2 : Below w.heap.size w w2 := (B1.alloc hsz _).trans (below_own (O1.alloc _) hg2 (by simp; omega))
      rw [HB.out, show r + [y].length = k - i from HK.out] at hown2
      refine ⟨⟨i, a2, c2, by omega, rfl, by rw [← HK.out], hown2, B2⟩, ?_⟩
      show (((i : Int) - 1) + 1).toNat < ((i : Int) + 1).toNat
      omega
    · obtain rfl : m = 0 := by omega
      go_wp2_with fail
      go_ret
      rw [Nat.sub_zero, List.take_of_length_le (by rw [rev_len]; omega)] at O1
      exact ⟨a1, c1, by rw [Nat.sub_zero]; rfl, O1, B1⟩

theorem costV_in {zs : List Int} {k : Nat} (hk : k < zs.length) : costV zs k = zs.getD k 0 := by
  unfold costV
  rw [if_pos ⟨by omega, by omega⟩, Int.toNat_natCast]
theorem putB_in {zs : List Int} (h : errC zs = 0) {k : Nat} (hk : k < zs.length) : putB zs k = (bN (cd zs k) (ln zs k)).reverse := by
  have hL := (errS_zero (errC_zero h).1)
  have HLN := hL.2.ln k
  unfold putB
  rw [costV_in hk, HLN.1, Int.toNat_natCast]
  by_cases hz : ln zs k = 0
  · rw [if_pos (by omega), hz]; rfl
  · rw [if_neg (by omega)]; rfl
theorem putB_out {zs : List Int} {s : Int} (h : s < 0 ∨ (zs.length : Int) ≤ s) : putB zs s = [] := by
  have h0 : costV zs s = 0 := by unfold costV; rw [if_neg (by omega)]
  unfold putB
  rw [if_pos h0]
theorem putB_cost {zs : List Int} (h : errC zs = 0) (s : Int) : costV zs s = ((putB zs s).length : Int) := by
  by_cases hs : 0 ≤ s ∧ s < zs.length
  · obtain ⟨k, rfl⟩ : ∃ k : Nat, s = k := ⟨s.toNat, by omega⟩
    rw [putB_in h (by omega), rev_len]
    unfold costV
    rw [if_pos hs, Int.toNat_natCast]
    exact ((errS_zero (errC_zero h).1).2.ln k).1
  · rw [putB_out (by omega)]
    unfold costV
    rw [if_neg hs]
    rfl
theorem putB_err {zs : List Int} (h : errC zs = 0) (s : Int) : errP zs s = if (putB zs s).length = 0 then 53 else 0 := by
  unfold errP
  rw [putB_cost h]
  by_cases hz : (putB zs s).length = 0
  · rw [if_pos (by omega), if_pos hz]
  · rw [if_neg (by omega), if_neg hz]
theorem putB_le {zs : List Int} (h : errC zs = 0) (s : Int) : (putB zs s).length ≤ 15 := by
  by_cases hs : 0 ≤ s ∧ s < zs.length
  · obtain ⟨k, rfl⟩ : ∃ k : Nat, s = k := ⟨s.toNat, by omega⟩
    rw [putB_in h (by omega), rev_len]
    exact ((errS_zero (errC_zero h).1).2.ln k).2
  · rw [putB_out (by omega)]
    simp

set_option maxRecDepth 100000 in
theorem put5_made (b N : Nat) (zs : List Int) (s : Int) (w : World) (h : En w b N zs) : Calls Tryd.prog 35 #[.pointer (some ⟨b, 0, none⟩), .pointer none, .int .i64 s] w fun e w' => e = .returned (.int .i64 2) ∧ w' = w := by
  obtain ⟨la, lc, ca, cc, c0, _, _, _, _⟩ := h.cells
  go_enter Tryd.func35, Tryd.ntmps35
  go_wp2_with fail
  go_ret
  exact ⟨rfl, rfl⟩

def EncF (w : World) (zs : List Int) (e : Ending) (w' : World) : Prop := (errC zs = 0 → ∃ b, e = .returned (.tuple #[.pointer (some ⟨b, 0, none⟩), .int .i64 0]) ∧ w.heap.size ≤ b ∧ En w' b w'.heap.size zs ∧ ∀ W, Kp (fun k => k < w.heap.size) w' W → En W b w'.heap.size zs) ∧ (errC zs ≠ 0 → e = .returned (.tuple #[.pointer none, .int .i64 (errC zs)])) ∧ Below w.heap.size w w'
set_option maxRecDepth 100000 in
set_option maxHeartbeats 1000000 in
theorem newEnc_far (a : Option Addr) (zs : List Int) (n cap : Nat) (hn : Hid (zs.length = n)) (w : World) (hs : SegZ w a zs) (hnil : a = none → cap = 0) (hl : n ≤ 9223372036854775807) :
    Calls Tryd.prog 34 #[.slice a n cap] w fun e w' => EncF w zs e w' := by
  have HC := codes_any a zs n cap hn w hs hl
  by_cases hok : errC zs = 0
  · have HOK : Hid (errC zs = 0) := hok
    have HL := errS_zero (errC_zero hok).1
    have hn288 : n ≤ 288 := by have := hn.out; have := HL.1; omega
    clear hok HL
    have HCL : Hid (∀ W, Below w.heap.size w W → Calls Tryd.prog 55 #[.slice a n cap] W fun e w' => ∃ a' c', e = .returned (.slice a' n c') ∧ w'.ownsRow W.heap.size 3 1 (.slice a' n c') n (zs.map (Value.int .i64)) ∧ Below W.heap.size W w') := fun W hW => clone5_any a zs n cap hn W (hs.old hW) hnil (by omega)
    have e1 : Hid (cdsR zs = cds zs) := by show _ = _; unfold cdsR; rw [if_pos HOK.out]
    have e3 : Hid ((cds zs).length = n) := by show _ = _; rw [cds_len]; exact hn.out
    go_enter Tryd.func34, Tryd.ntmps34
    go_wp2_with fail
    refine HC.mono ?_
    rintro e W1 ⟨b1, c1, rfl, O1, B1⟩
    rw [e1.out, e3.out] at O1
    rw [e1.out, e3.out, HOK.out]
    go_wp2_with fail
    refine (HCL.out _ B1).mono ?_
    rintro e W2 ⟨a2, c2, rfl, O2, B2⟩
    have B12 : Below w.heap.size w W2 := B1.trans (B2.mono B1.size)
    have O1b := own_below O1 B2
    go_wp2_with fail
    go_ret2
    have hbl := own_blk O2
    have hbl1 := own_blk O1b
    have hzb : ∀ z ∈ zs, -9223372036854775808 ≤ z ∧ z ≤ 9223372036854775807 := hs.mem
    have HEN : En (W2.alloc (.cells #[.bool true, .slice a2 n c2, .slice b1 n c1] 120)) W2.heap.size (W2.alloc (.cells #[.bool true, .slice a2 n c2, .slice b1 n c1] 120)).heap.size zs := by
      refine ⟨HOK.out, by simp, a2, c2, b1, c1, ?_, ?_, ?_, ?_, ?_⟩
      · rw [hn.out]; exact heap_alloc_new W2 _
      · exact (own_segZ O2 hzb).alloc _
      · exact (own_segZ O1b (cds_bd HOK.out)).alloc _
      · intro x hx
        have := hbl x hx
        simp
        omega
      · intro x hx
        have := hbl1 x hx
        simp
        omega
    refine ⟨fun _ => ⟨W2.heap.size, rfl, B12.size, HEN, fun W hW => ?_⟩, fun h => absurd HOK.out h, B12.alloc B12.size _⟩
    refine ⟨HOK.out, by simp, a2, c2, b1, c1, ?_, ?_, ?_, ?_, ?_⟩
    · rw [hn.out]; exact hW.heap (heap_alloc_new W2 _) (by have := B12.size; omega)
    · exact ((own_segZ O2 hzb).alloc _).kp hW (fun b off e _ => by have := hbl _ e; have := B1.size; simp at *; omega)
    · exact ((own_segZ O1b (cds_bd HOK.out)).alloc _).kp hW (fun b off e _ => by have := hbl1 _ e; simp at *; omega)
    · intro x hx
      have := hbl x hx
      simp
      omega
    · intro x hx
      have := hbl1 x hx
      simp
      omega
  · have HNK : Hid (¬ errC zs = 0) := hok
    have key : ∀ E : Int, E = 50 ∨ E = 51 ∨ E = 52 → errC zs = E → Calls Tryd.prog 34 #[.slice a n cap] w fun e w' => EncF w zs e w' := by
      intro E hE hEE
      have HEE : Hid (errC zs = E) := hEE
      clear hEE hok
      rcases hE with rfl | rfl | rfl
      all_goals
        go_enter Tryd.func34, Tryd.ntmps34
        go_wp2_with fail
        refine HC.mono ?_
        rintro e W1 ⟨b1, c1, rfl, O1, B1⟩
        rw [HEE.out]
        clear O1
        go_wp2_with fail
        go_ret2
        exact ⟨fun h => absurd h HNK.out, fun _ => by rw [HEE.out]; rfl, B1⟩
    rcases errC_cases zs with h | h | h | h
    · exact absurd h hok
    · exact key 50 (.inl rfl) h
    · exact key 51 (.inr (.inl rfl)) h
    · exact key 52 (.inr (.inr rfl)) h
end Go.Proofs.YthcmebmohhajaaaDoor

namespace Go.Proofs.YthcmebmohhajaaaDoor
open Go.RowKit
set_option linter.unusedVariables false

theorem seg_lit {w : World} : SegZ (w.alloc (.cells #[.int .i64 2, .int .i64 1, .int .i64 3, .int .i64 3] 3)) (some ⟨w.heap.size, 0, none⟩) [2, 1, 3, 3] := by
  refine ⟨fun i hi => ⟨w.heap.size, 0, rfl, ?_⟩, getD_bdz (by intro z hz; simp at hz; omega)⟩
  simp only [List.length_cons, List.length_nil] at hi
  match i, hi with
  | 0, _ => simp
  | 1, _ => simp
  | 2, _ => simp
  | 3, _ => simp
theorem ex_ok : errC [2, 1, 3, 3] = 0 := by decide
theorem ex_put2 : errP [2, 1, 3, 3] 2 = 0 ∧ putB [2, 1, 3, 3] 2 = [true, true, false] := by decide
theorem ex_put1 : errP [2, 1, 3, 3] 1 = 0 ∧ putB [2, 1, 3, 3] 1 = [false] := by decide
theorem ex_beg2 : Beg [2, 1, 3, 3] (bN 3 8) 2 := by unfold Beg; decide
theorem ex_beg1 : Beg [2, 1, 3, 3] ((bN 3 8).drop 3) 1 := by unfold Beg; decide
theorem toB_three : toB [true, true, false, false] = [3] := by
  rw [toB_eq (by decide)]
  rw [show ([true, true, false, false] : List Bool).drop 8 = [] from by decide, toB_nil]
  decide
theorem ex_lok : LOk [2, 1, 3, 3] := by unfold LOk; decide

end Go.Proofs.YthcmebmohhajaaaDoor

namespace Go.Proofs.YthcmebmohhajaaaDoor
open Go.RowKit
set_option linter.unusedVariables false

/-- The bits of symbols, one behind the other. -/
def PB (zs ps : List Int) : List Bool := ps.flatMap (putB zs)
theorem PB_nil (zs : List Int) : PB zs [] = [] := rfl
theorem PB_append (zs ps qs : List Int) : PB zs (ps ++ qs) = PB zs ps ++ PB zs qs := by simp [PB]
theorem PB_snoc (zs ps : List Int) (s : Int) : PB zs (ps ++ [s]) = PB zs ps ++ putB zs s := by rw [PB_append]; simp [PB]
theorem PB_len {zs : List Int} (h : errC zs = 0) : ∀ ps : List Int, (PB zs ps).length ≤ 15 * ps.length
  | [] => by simp [PB]
  | s :: ps => by
    have h1 := PB_len h ps
    have h2 := putB_le h s
    have : PB zs (s :: ps) = putB zs s ++ PB zs ps := by simp [PB]
    rw [this, List.length_append, List.length_cons]
    omega
theorem putB_lenIn {zs : List Int} (h : errC zs = 0) {k : Nat} (hk : k < zs.length) : (putB zs k).length = ln zs k := by rw [putB_in h hk, rev_len]
theorem putB_vB {zs : List Int} (h : errC zs = 0) {k : Nat} (hk : k < zs.length) : vB (putB zs k) (ln zs k) = cd zs k := by
  rw [putB_in h hk]
  unfold vB
  rw [List.take_of_length_le (by rw [rev_len]; exact Nat.le_refl _), List.reverse_reverse, num_bN_lt (cd_small h hk).1]
theorem vB_same {H c : List Bool} {l : Nat} (h : H.take l = c.take l) : vB H l = vB c l := by unfold vB; rw [h]
/-- What is held, and what comes behind it, are the symbol's bits and those behind. -/
theorem held_split {zs P : List Int} {i fed : Nat} {H : List Bool} (hi : i < P.length) (hH : PB zs (P.take i) ++ H = bB ((toB (PB zs P)).take fed)) :
    ∃ Y, H ++ bB ((toB (PB zs P)).drop fed) = putB zs (P.getD i 0) ++ Y := by
  obtain ⟨k, _, hB⟩ := bB_toB (L := PB zs P)
  have h1 : bB (toB (PB zs P)) = PB zs (P.take i) ++ H ++ bB ((toB (PB zs P)).drop fed) := by
    rw [hH, ← bB_append, List.take_append_drop]
  have h2 : PB zs P = PB zs (P.take i) ++ (putB zs (P.getD i 0) ++ PB zs (P.drop (i + 1))) := by
    rw [← List.append_assoc, ← PB_snoc, ← take_snocZ hi, ← PB_append, List.take_append_drop]
  refine ⟨PB zs (P.drop (i + 1)) ++ List.replicate k false, ?_⟩
  rw [hB] at h1
  have h3 : PB zs (P.take i) ++ (H ++ bB ((toB (PB zs P)).drop fed)) = PB zs (P.take i) ++ (putB zs (P.getD i 0) ++ (PB zs (P.drop (i + 1)) ++ List.replicate k false)) := by
    rw [← List.append_assoc, ← h1]
    generalize bB ((toB (PB zs P)).drop fed) = Z at *
    rw [h2]
    simp only [List.append_assoc]
  exact List.append_cancel_left h3
theorem held_beg {zs P : List Int} {i fed k : Nat} {H : List Bool} (hok : errC zs = 0) (hi : i < P.length) (hs : P.getD i 0 = (k : Int)) (hk : k < zs.length) (hk0 : zs.getD k 0 ≠ 0) (hH : PB zs (P.take i) ++ H = bB ((toB (PB zs P)).take fed)) (hl : ln zs k ≤ H.length) :
    Beg zs H k ∧ PB zs (P.take (i + 1)) ++ H.drop (ln zs k) = bB ((toB (PB zs P)).take fed) ∧ (PB zs (P.take (i + 1))).length = (PB zs (P.take i)).length + ln zs k := by
  obtain ⟨Y, hY⟩ := held_split hi hH
  rw [hs] at hY
  have hpl := putB_lenIn hok hk
  have h1 := congrArg (List.take (ln zs k)) hY
  rw [List.take_append_of_le_length hl, List.take_left' hpl] at h1
  have h2 : PB zs (P.take (i + 1)) = PB zs (P.take i) ++ putB zs k := by rw [take_snocZ hi, PB_snoc, hs]
  refine ⟨⟨hk, hk0, hl, ?_⟩, ?_, ?_⟩
  · rw [vB_same (c := putB zs k) (by rw [h1, List.take_of_length_le (by rw [hpl]; exact Nat.le_refl _)]), putB_vB hok hk]
  · rw [h2, ← h1, List.append_assoc, List.take_append_drop, hH]
  · rw [h2, List.length_append, hpl]
theorem held_may {zs P : List Int} {i fed k : Nat} {H : List Bool} (hok : errC zs = 0) (hi : i < P.length) (hs : P.getD i 0 = (k : Int)) (hk : k < zs.length) (hk0 : zs.getD k 0 ≠ 0) (hH : PB zs (P.take i) ++ H = bB ((toB (PB zs P)).take fed)) (hl : H.length < ln zs k) :
    (∀ s, ¬ Beg zs H s) ∧ May zs H ∧ fed < (toB (PB zs P)).length := by
  obtain ⟨Y, hY⟩ := held_split hi hH
  rw [hs] at hY
  have hpl := putB_lenIn hok hk
  have hlok := (errS_zero (errC_zero hok).1).2
  have h1 := congrArg (List.take H.length) hY
  rw [List.take_left' rfl, List.take_append_of_le_length (by omega)] at h1
  have hv : ∀ l, l ≤ H.length → vB H l = cd zs k / 2 ^ (ln zs k - l) := by
    intro l hle
    have e1 : H.take l = (putB zs k).take l := by
      have := congrArg (List.take l) h1
      rw [List.take_take, Nat.min_eq_left hle] at this
      exact this
    rw [vB_same e1, ← vB_div (putB zs k) (a := l) (b := ln zs k) (by omega) (by omega), putB_vB hok hk]
  refine ⟨fun s hb => ?_, ⟨k, hk, hk0, hl, (hv _ (Nat.le_refl _)).symm⟩, ?_⟩
  · obtain ⟨b1, b2, b3, b4⟩ := hb
    rw [hv _ b3] at b4
    have := cd_apart hlok b1 hk b2 (by omega) b4
    subst this
    omega
  · rcases Nat.lt_or_ge fed (toB (PB zs P)).length with h | h
    · exact h
    · exfalso
      rw [List.drop_eq_nil_of_le h] at hY
      have := congrArg List.length hY
      simp only [bB, List.append_nil, List.length_append, hpl] at this
      omega
end Go.Proofs.YthcmebmohhajaaaDoor

namespace Go.Proofs.YthcmebmohhajaaaDoor
open Go.RowKit
set_option linter.unusedVariables false

/-! A reader of lengths as a machine: one part at a time. -/
structure S8 where
  nx : Nat
  lit : Nat
  dist : Nat
  told : Nat
  sized : Nat
  sym : Nat
  sz : List Int
  out : List Int
def ini8 : S8 := ⟨0, 0, 0, 0, 0, 0, List.replicate 19 0, []⟩
/-- The counts are there. -/
def cts8 (s : S8) (v : Nat) : S8 := { s with lit := 257 + v % 32, dist := 1 + v / 32 % 32, told := 4 + v / 1024, nx := if 286 < 257 + v % 32 ∨ 30 < 1 + v / 32 % 32 then 5 else 1 }
/-- A size more. -/
def ssz8 (s : S8) (v : Nat) : List Int := s.sz.set (ordL.getD s.sized 0).toNat (v : Int)
def siz8 (s : S8) (v : Nat) : S8 := { s with sz := ssz8 s v, sized := s.sized + 1, nx := if s.sized + 1 = s.told then (if (∀ z ∈ ssz8 s v, z = 0) ∨ errC (ssz8 s v) ≠ 0 then 5 else 2) else s.nx }
/-- What a symbol stands for. -/
def vls8 (s : S8) : Int := if s.sym = 16 then s.out.getLastD 0 else if 16 < s.sym then 0 else (s.sym : Int)
def lay8 (s : S8) (k : Nat) : S8 :=
  if s.lit + s.dist < s.out.length + k then { s with nx := 5 } else
  { s with out := s.out ++ List.replicate k (vls8 s), nx := if s.out.length + k = s.lit + s.dist then (if tld8 errC ((s.out ++ List.replicate k (vls8 s)).take s.lit) ((s.out ++ List.replicate k (vls8 s)).drop s.lit) then 4 else 5) else 2 }
def sym8 (s : S8) (x : Nat) : S8 :=
  if x = 16 ∧ s.out = [] then { s with sym := x, nx := 5 } else if 16 ≤ x then { s with sym := x, nx := 3 } else lay8 { s with sym := x } 1
/-- One part, of the bits that are held; so many bits go. -/
inductive One8 : S8 → List Bool → S8 → Nat → Prop
  | cts {s : S8} {H : List Bool} : s.nx = 0 → 14 ≤ H.length → One8 s H (cts8 s (num (H.take 14))) 14
  | siz {s : S8} {H : List Bool} : s.nx = 1 → 3 ≤ H.length → One8 s H (siz8 s (num (H.take 3))) 3
  | sym {s : S8} {H : List Bool} {x : Nat} : s.nx = 2 → Beg s.sz H x → One8 s H (sym8 s x) (ln s.sz x)
  | bad {s : S8} {H : List Bool} : s.nx = 2 → (∀ x, ¬ Beg s.sz H x) → ¬ May s.sz H → One8 s H { s with nx := 5 } 0
  | mor {s : S8} {H : List Bool} : s.nx = 3 → mor8 s.sym ≤ H.length → One8 s H (lay8 s ((lst8 s.sym).toNat + num (H.take (mor8 s.sym)))) (mor8 s.sym)
/-- It waits for more bits, or it is at its end. -/
def Wait8 (s : S8) (H : List Bool) : Prop := (s.nx = 0 ∧ H.length < 14) ∨ (s.nx = 1 ∧ H.length < 3) ∨ (s.nx = 2 ∧ (∀ x, ¬ Beg s.sz H x) ∧ May s.sz H) ∨ (s.nx = 3 ∧ H.length < mor8 s.sym) ∨ 4 ≤ s.nx
inductive Run8 : S8 → List Bool → S8 → Nat → Prop
  | nil {s : S8} {H : List Bool} : Run8 s H s 0
  | cons {s s1 s2 : S8} {H : List Bool} {n m : Nat} : One8 s H s1 n → Run8 s1 (H.drop n) s2 m → Run8 s H s2 (n + m)
theorem One8.le {s s' : S8} {H : List Bool} {n : Nat} (h : One8 s H s' n) : n ≤ H.length := by
  cases h with
  | cts _ h => exact h
  | siz _ h => exact h
  | sym _ h => exact h.2.2.1
  | bad => omega
  | mor _ h => exact h
theorem Run8.le {s s' : S8} {H : List Bool} {n : Nat} (h : Run8 s H s' n) : n ≤ H.length := by
  induction h with
  | nil => omega
  | cons h _ ih => have := h.le; rw [List.length_drop] at ih; omega
theorem Run8.trans {s s1 s2 : S8} {H : List Bool} {n m : Nat} (h : Run8 s H s1 n) (h2 : Run8 s1 (H.drop n) s2 m) : Run8 s H s2 (n + m) := by
  induction h with
  | nil => simpa using h2
  | cons h _ ih => rw [Nat.add_assoc]; exact .cons h (ih (by rw [List.drop_drop]; exact h2))
theorem vB_app {H : List Bool} (X : List Bool) {n : Nat} (h : n ≤ H.length) : vB (H ++ X) n = vB H n := by
  unfold vB
  rw [List.take_append_of_le_length h]
theorem Beg.app {zs : List Int} {H : List Bool} {x : Nat} (h : Beg zs H x) (X : List Bool) : Beg zs (H ++ X) x :=
  ⟨h.1, h.2.1, by rw [List.length_append]; have := h.2.2.1; omega, by rw [vB_app X h.2.2.1]; exact h.2.2.2⟩
end Go.Proofs.YthcmebmohhajaaaDoor

namespace Go.Proofs.YthcmebmohhajaaaDoor
open Go.RowKit
set_option linter.unusedVariables false

theorem num_take_app {H : List Bool} (X : List Bool) {n : Nat} (h : n ≤ H.length) : (H ++ X).take n = H.take n := List.take_append_of_le_length h
theorem none_app8 {zs : List Int} {H : List Bool} (h1 : ∀ x, ¬ Beg zs H x) (h2 : ¬ May zs H) (X : List Bool) : (∀ x, ¬ Beg zs (H ++ X) x) ∧ ¬ May zs (H ++ X) := by
  refine ⟨fun x hb => ?_, ?_⟩
  · by_cases hl : ln zs x ≤ H.length
    · exact h1 x ⟨hb.1, hb.2.1, hl, by rw [← vB_app X hl]; exact hb.2.2.2⟩
    · refine h2 ⟨x, hb.1, hb.2.1, by omega, ?_⟩
      rw [← hb.2.2.2, vB_div (H ++ X) (a := H.length) (by omega) hb.2.2.1, vB_app X (Nat.le_refl _)]
  · rintro ⟨x, a, b, c, d⟩
    rw [List.length_append] at c d
    refine h2 ⟨x, a, b, by omega, ?_⟩
    have e : cd zs x / 2 ^ (ln zs x - H.length) = cd zs x / 2 ^ (ln zs x - (H.length + X.length)) / 2 ^ X.length := by
      rw [Nat.div_div_eq_div_mul, ← Nat.pow_add]
      congr 2
      omega
    rw [e, d, ← vB_app X (Nat.le_refl _), ← vB_div (H ++ X) (a := H.length) (b := H.length + X.length) (by omega) (by simp)]
    congr 2
    omega
theorem One8.app {s s' : S8} {H : List Bool} {n : Nat} (h : One8 s H s' n) (X : List Bool) : One8 s (H ++ X) s' n := by
  cases h with
  | cts h0 h => rw [← num_take_app X h]; exact .cts h0 (by rw [List.length_append]; omega)
  | siz h0 h => rw [← num_take_app X h]; exact .siz h0 (by rw [List.length_append]; omega)
  | sym h0 h => exact .sym h0 (h.app X)
  | bad h0 h1 h2 => exact .bad h0 (none_app8 h1 h2 X).1 (none_app8 h1 h2 X).2
  | mor h0 h => rw [← num_take_app X h]; exact .mor h0 (by rw [List.length_append]; omega)
theorem Run8.app {s s' : S8} {H : List Bool} {n : Nat} (h : Run8 s H s' n) (X : List Bool) : Run8 s (H ++ X) s' n := by
  induction h with
  | nil => exact .nil
  | cons h _ ih => exact .cons (h.app X) (by rw [List.drop_append_of_le_length h.le]; exact ih)
/-- What holds of a reader at every step. -/
structure Ok8 (s : S8) : Prop where
  szl : s.sz.length = 19
  szb : ∀ z ∈ s.sz, 0 ≤ z ∧ z ≤ 7
  ob : ∀ z ∈ s.out, 0 ≤ z ∧ z ≤ 15
  ld : s.lit ≤ 288 ∧ s.dist ≤ 32
  ol : s.out.length ≤ 316
  td : s.sized ≤ 19 ∧ s.told ≤ 19
  at0 : s.nx = 0 → s.sized = 0 ∧ s.out = []
  at1 : s.nx = 1 → s.sized < s.told ∧ 257 ≤ s.lit ∧ s.lit ≤ 286 ∧ s.dist ≤ 30 ∧ s.out = []
  at2 : s.nx = 2 ∨ s.nx = 3 → errC s.sz = 0 ∧ 257 ≤ s.lit ∧ s.lit ≤ 286 ∧ s.dist ≤ 30 ∧ s.out.length < s.lit + s.dist
  at3 : s.nx = 3 → 16 ≤ s.sym ∧ s.sym ≤ 18 ∧ (s.sym = 16 → s.out ≠ [])
  at4 : s.nx = 4 → s.out.length = s.lit + s.dist ∧ tld8 errC (s.out.take s.lit) (s.out.drop s.lit)
  top : s.nx ≤ 5
theorem ini8_ok : Ok8 ini8 := ⟨by simp [ini8], by simp [ini8], by simp [ini8], by simp [ini8], by simp [ini8], by simp [ini8], fun _ => ⟨rfl, rfl⟩, by simp [ini8], by simp [ini8], by simp [ini8], by simp [ini8], by simp [ini8]⟩
theorem One8.det {s a b : S8} {H : List Bool} {n m : Nat} (ok : Ok8 s) (h1 : One8 s H a n) (h2 : One8 s H b m) : a = b ∧ n = m := by
  cases h1 with
  | cts h0 h => cases h2 <;> first | exact ⟨rfl, rfl⟩ | (exfalso; omega)
  | siz h0 h => cases h2 <;> first | exact ⟨rfl, rfl⟩ | (exfalso; omega)
  | mor h0 h => cases h2 <;> first | exact ⟨rfl, rfl⟩ | (exfalso; omega)
  | sym h0 h =>
    cases h2 with
    | sym _ k =>
      have := beg_one (errS_zero (errC_zero (ok.at2 (.inl h0)).1).1).2 h k
      subst this
      exact ⟨rfl, rfl⟩
    | bad _ k _ => exact absurd h (k _)
    | cts k => exfalso; omega
    | siz k => exfalso; omega
    | mor k => exfalso; omega
  | bad h0 h k =>
    cases h2 with
    | sym _ k => exact absurd k (h _)
    | bad => exact ⟨rfl, rfl⟩
    | cts k => exfalso; omega
    | siz k => exfalso; omega
    | mor k => exfalso; omega
theorem One8.wait {s s' : S8} {H : List Bool} {n : Nat} (h : One8 s H s' n) : ¬ Wait8 s H := by
  unfold Wait8
  cases h with
  | cts h0 h => omega
  | siz h0 h => omega
  | mor h0 h => omega
  | sym h0 h =>
    rintro (e | e | e | e | e)
    · omega
    · omega
    · exact e.2.1 _ h
    · omega
    · omega
  | bad h0 h k =>
    rintro (e | e | e | e | e)
    · omega
    · omega
    · exact k e.2.2
    · omega
    · omega
end Go.Proofs.YthcmebmohhajaaaDoor

namespace Go.Proofs.YthcmebmohhajaaaDoor
open Go.RowKit
set_option linter.unusedVariables false

theorem num_lt8 (H : List Bool) (n : Nat) : num (H.take n) < 2 ^ n := Nat.lt_of_lt_of_le (num_lt _) (Nat.pow_le_pow_right (by decide) (by rw [List.length_take]; omega))
theorem mem_getLastD {l : List Int} (h : l ≠ []) : l.getLastD 0 ∈ l := by
  cases l with
  | nil => exact absurd rfl h
  | cons a t =>
    have e : (a :: t).getLastD 0 = (a :: t).getLast (by simp) := by rw [List.getLastD_eq_getLast?, List.getLast?_eq_some_getLast (by simp)]; rfl
    rw [e]
    exact List.getLast_mem _
theorem vls8_bd {s : S8} (ob : ∀ z ∈ s.out, 0 ≤ z ∧ z ≤ 15) (hs : s.sym ≤ 18) : 0 ≤ vls8 s ∧ vls8 s ≤ 15 := by
  unfold vls8
  split
  · by_cases h : s.out = []
    · rw [h]; simp
    · exact ob _ (mem_getLastD h)
  · split
    · omega
    · omega
theorem lay8_ok {s : S8} (k : Nat) (szl : s.sz.length = 19) (szb : ∀ z ∈ s.sz, 0 ≤ z ∧ z ≤ 7) (ob : ∀ z ∈ s.out, 0 ≤ z ∧ z ≤ 15) (td : s.sized ≤ 19 ∧ s.told ≤ 19) (hc : errC s.sz = 0) (h1 : 257 ≤ s.lit) (h2 : s.lit ≤ 286) (h3 : s.dist ≤ 30) (hol : s.out.length ≤ 316) (hs : s.sym ≤ 18) : Ok8 (lay8 s k) := by
  unfold lay8
  have hv := vls8_bd ob hs
  by_cases hk : s.lit + s.dist < s.out.length + k
  · rw [if_pos hk]
    exact ⟨szl, szb, ob, ⟨by show s.lit ≤ 288; omega, by show s.dist ≤ 32; omega⟩, hol, td, fun e => by simp at e, fun e => by simp at e, fun e => by simp at e, fun e => by simp at e, fun e => by simp at e, by simp⟩
  · rw [if_neg hk]
    have hob : ∀ z ∈ s.out ++ List.replicate k (vls8 s), 0 ≤ z ∧ z ≤ 15 := by
      intro z hz
      rw [List.mem_append] at hz
      rcases hz with hz | hz
      · exact ob z hz
      · rw [(List.mem_replicate.1 hz).2]; exact hv
    have hln : (s.out ++ List.replicate k (vls8 s)).length = s.out.length + k := by simp
    refine ⟨szl, szb, hob, ⟨by show s.lit ≤ 288; omega, by show s.dist ≤ 32; omega⟩, by show (s.out ++ List.replicate k (vls8 s)).length ≤ 316; omega, td, fun e => ?_, fun e => ?_, fun e => ?_, fun e => ?_, fun e => ?_, ?_⟩
    · exfalso; revert e; dsimp only; split <;> (try split) <;> omega
    · exfalso; revert e; dsimp only; split <;> (try split) <;> omega
    · dsimp only at e ⊢
      refine ⟨hc, h1, h2, h3, ?_⟩
      rw [hln]
      by_cases he : s.out.length + k = s.lit + s.dist
      · exfalso; rw [if_pos he] at e; split at e <;> omega
      · omega
    · exfalso; revert e; dsimp only; split <;> (try split) <;> omega
    · dsimp only at e ⊢
      by_cases he : s.out.length + k = s.lit + s.dist
      · rw [if_pos he] at e
        refine ⟨by rw [hln]; exact he, ?_⟩
        by_cases ht : tld8 errC ((s.out ++ List.replicate k (vls8 s)).take s.lit) ((s.out ++ List.replicate k (vls8 s)).drop s.lit)
        · exact ht
        · rw [if_neg ht] at e; omega
      · rw [if_neg he] at e; omega
    · dsimp only; split <;> (try split) <;> omega
theorem One8.ok {s s' : S8} {H : List Bool} {n : Nat} (ok : Ok8 s) (h : One8 s H s' n) : Ok8 s' := by
  cases h with
  | cts h0 h =>
    have hv := num_lt8 H 14
    generalize num (H.take 14) = v at *
    have a0 := ok.at0 h0
    have e : (2 : Nat) ^ 14 = 16384 := by decide
    rw [e] at hv
    refine ⟨ok.szl, ok.szb, ok.ob, ?_, ok.ol, ?_, fun e => ?_, fun e => ?_, fun e => ?_, fun e => ?_, fun e => ?_, ?_⟩
    · show 257 + v % 32 ≤ 288 ∧ 1 + v / 32 % 32 ≤ 32; omega
    · show s.sized ≤ 19 ∧ 4 + v / 1024 ≤ 19; have := ok.td; omega
    · exfalso; revert e; unfold cts8; dsimp only; split <;> omega
    · revert e; unfold cts8; dsimp only
      by_cases hx : 286 < 257 + v % 32 ∨ 30 < 1 + v / 32 % 32
      · rw [if_pos hx]; intro e; omega
      · intro _; refine ⟨by rw [a0.1]; omega, by omega, by omega, by omega, a0.2⟩
    · exfalso; revert e; unfold cts8; dsimp only; split <;> omega
    · exfalso; revert e; unfold cts8; dsimp only; split <;> omega
    · exfalso; revert e; unfold cts8; dsimp only; split <;> omega
    · unfold cts8; dsimp only; split <;> omega
  | siz h0 h =>
    have hv := num_lt8 H 3
    generalize num (H.take 3) = v at *
    obtain ⟨a1, a2, a3, a4, a5⟩ := ok.at1 h0
    have e : (2 : Nat) ^ 3 = 8 := by decide
    rw [e] at hv
    have hsl : (ssz8 s v).length = 19 := by unfold ssz8; rw [List.length_set]; exact ok.szl
    have hsb : ∀ z ∈ ssz8 s v, 0 ≤ z ∧ z ≤ 7 := by
      intro z hz
      unfold ssz8 at hz
      rcases List.mem_or_eq_of_mem_set hz with hz | hz
      · exact ok.szb z hz
      · subst hz; omega
    have htd := ok.td
    refine ⟨hsl, hsb, ok.ob, ok.ld, ok.ol, ⟨by show s.sized + 1 ≤ 19; omega, htd.2⟩, fun e => ?_, fun e => ?_, fun e => ?_, fun e => ?_, fun e => ?_, ?_⟩
    · exfalso; revert e; unfold siz8; dsimp only; rw [h0]; split <;> (try split) <;> omega
    · revert e; unfold siz8; dsimp only
      by_cases hx : s.sized + 1 = s.told
      · rw [if_pos hx]; intro e; exfalso; split at e <;> omega
      · intro _; exact ⟨by omega, a2, a3, a4, a5⟩
    · revert e; unfold siz8; dsimp only
      by_cases hx : s.sized + 1 = s.told
      · rw [if_pos hx]; intro e
        by_cases hy : (∀ z ∈ ssz8 s v, z = 0) ∨ errC (ssz8 s v) ≠ 0
        · rw [if_pos hy] at e; omega
        · have : errC (ssz8 s v) = 0 := Classical.byContradiction fun c => hy (.inr c)
          exact ⟨this, a2, a3, a4, by rw [a5]; simp; omega⟩
      · rw [if_neg hx, h0]; intro e; omega
    · exfalso; revert e; unfold siz8; dsimp only; rw [h0]; split <;> (try split) <;> omega
    · exfalso; revert e; unfold siz8; dsimp only; rw [h0]; split <;> (try split) <;> omega
    · unfold siz8; dsimp only; rw [h0]; split <;> (try split) <;> omega
  | @sym x h0 h =>
    obtain ⟨a1, a2, a3, a4, a5⟩ := ok.at2 (.inl h0)
    have hx : x ≤ 18 := by have := h.1; rw [ok.szl] at this; omega
    unfold sym8
    by_cases c1 : x = 16 ∧ s.out = []
    · rw [if_pos c1]
      exact ⟨ok.szl, ok.szb, ok.ob, ok.ld, ok.ol, ok.td, fun e => by simp at e, fun e => by simp at e, fun e => by simp at e, fun e => by simp at e, fun e => by simp at e, by simp⟩
    · rw [if_neg c1]
      by_cases c2 : 16 ≤ x
      · rw [if_pos c2]
        exact ⟨ok.szl, ok.szb, ok.ob, ok.ld, ok.ol, ok.td, fun e => by simp at e, fun e => by simp at e, fun _ => ⟨a1, a2, a3, a4, a5⟩, fun _ => ⟨c2, hx, fun e hn => c1 ⟨e, hn⟩⟩, fun e => by simp at e, by simp⟩
      · rw [if_neg c2]
        exact lay8_ok 1 ok.szl ok.szb ok.ob ok.td a1 a2 a3 a4 ok.ol (by show x ≤ 18; omega)
  | bad h0 h k =>
    exact ⟨ok.szl, ok.szb, ok.ob, ok.ld, ok.ol, ok.td, fun e => by simp at e, fun e => by simp at e, fun e => by simp at e, fun e => by simp at e, fun e => by simp at e, by simp⟩
  | mor h0 h =>
    obtain ⟨a1, a2, a3, a4, a5⟩ := ok.at2 (.inr h0)
    exact lay8_ok _ ok.szl ok.szb ok.ob ok.td a1 a2 a3 a4 ok.ol (ok.at3 h0).2.1
theorem Run8.ok {s s' : S8} {H : List Bool} {n : Nat} (ok : Ok8 s) (h : Run8 s H s' n) : Ok8 s' := by
  induction h with
  | nil => exact ok
  | cons h _ ih => exact ih (h.ok ok)
/-- A run to where it waits is the only one. -/
theorem Run8.det {s a b : S8} {H : List Bool} {n m : Nat} (ok : Ok8 s) (h1 : Run8 s H a n) (w1 : Wait8 a (H.drop n)) (h2 : Run8 s H b m) (w2 : Wait8 b (H.drop m)) : a = b ∧ n = m := by
  induction h1 generalizing m with
  | nil =>
    cases h2 with
    | nil => exact ⟨rfl, rfl⟩
    | cons k _ => exact absurd (by simpa using w1) k.wait
  | cons h _ ih =>
    cases h2 with
    | nil => exact absurd (by simpa using w2) h.wait
    | cons k k2 =>
      obtain ⟨rfl, rfl⟩ := h.det ok k
      obtain ⟨rfl, rfl⟩ := ih (h.ok ok) (by rw [List.drop_drop]; exact w1) k2 (by rw [List.drop_drop]; exact w2)
      exact ⟨rfl, rfl⟩
end Go.Proofs.YthcmebmohhajaaaDoor

namespace Go.Proofs.YthcmebmohhajaaaDoor
open Go.RowKit
set_option linter.unusedVariables false

/-- What stands ahead of a reader's decoder. -/
def rpre8 (s : S8) : List Value := [.bool true, .int .i64 (s.nx : Int), .int .i64 (s.lit : Int), .int .i64 (s.dist : Int), .int .i64 (s.told : Int), .int .i64 (s.sized : Int), .int .i64 (s.out.length : Int), .int .i64 (s.sym : Int)] ++ (s.sz.map (Value.int .u8) ++ (s.out ++ List.replicate (320 - s.out.length) 0).map (Value.int .u8))
/-- A reader of lengths in memory. -/
structure RdH (w : World) (b : Nat) (s : S8) : Prop where
  row : ∃ zs0, Rb8 w b (rpre8 s) zs0 ∧ (s.nx = 2 ∨ s.nx = 3 → zs0 = s.sz)
theorem RdH.lt {w : World} {b : Nat} {s : S8} (h : RdH w b s) : b < w.heap.size := by
  obtain ⟨z, h, _⟩ := h.row
  exact h.lt
theorem RdH.keep {w w' : World} {b : Nat} {s : S8} (h : RdH w b s) (hb : w'.heap[b]? = w.heap[b]?) : RdH w' b s := by
  obtain ⟨z, h1, h2⟩ := h.row
  exact ⟨z, h1.keep hb, h2⟩
theorem Rb8.set {w : World} {b : Nat} {pre : List Value} {zs : List Int} (h : Rb8 w b pre zs) {i : Nat} (hi : i < 347) (v : Value) : Rb8 (w.setCell ⟨b, i, none⟩ v) b (pre.set i v) zs := by
  obtain ⟨S, h1, h2, h3⟩ := h.row
  refine ⟨h.ok, by rw [List.length_set]; exact h.len, S, h1, h2, ?_⟩
  rw [heap_setCell_same w b i _ _ _ h3]
  congr 2
  have := h.len
  simp [List.set_append_left _ _ (show i < pre.length by omega)]
theorem Rb8.cell {w : World} {b : Nat} {pre : List Value} {zs : List Int} (h : Rb8 w b pre zs) {i : Nat} {v : Value} (hv : pre[i]? = some v) : w.cell? ⟨b, i, none⟩ = some v := by
  obtain ⟨S, h1, h2, h3⟩ := h.row
  exact pre_cell8 h3 hv
theorem Rb8.free {w : World} {b : Nat} {pre : List Value} {zs : List Int} (h : Rb8 w b pre zs) (i : Nat) : w.frozen? ⟨b, i, none⟩ = false := by
  obtain ⟨S, h1, h2, h3⟩ := h.row
  exact frozen_of_row w b i _ _ h3
/-- What a part answers. -/
def TkQ (w : World) (b br : Nat) (s : S8) (H : List Bool) (t : Nat) (e : Ending) (w' : World) : Prop := Kp (fun k => k = b ∨ k = br) w w' ∧ ((e = .returned (.bool true) ∧ ∃ s' n, One8 s H s' n ∧ RdH w' b s' ∧ Rd w' br (H.drop n) (t + n)) ∨ (e = .returned (.bool false) ∧ Wait8 s H ∧ RdH w' b s ∧ Rd w' br H t))
theorem there_lt {H : List Bool} {k : Nat} (h : H.length < k) : there H (k : Int) = false := by
  unfold there
  exact decide_eq_false (by omega)

theorem Kp.set8 {S : Nat → Prop} {w w' : World} {b : Nat} (h : Kp S w w') (hb : S b) (i : Nat) (v : Value) : Kp S w (w'.setCell ⟨b, i, none⟩ v) :=
  h.trans (Kp.grown (S := fun k => k = b) (set_grown w' b i v) (fun j e => by cases e; rfl)) (fun k _ e => by subst e; exact hb)
theorem cts_nx8 (s : S8) (v : Nat) : (cts8 s v).nx = if 286 < 257 + v % 32 ∨ 30 < 1 + v / 32 % 32 then 5 else 1 := rfl
theorem cts_pre8 (s : S8) (v : Nat) : ((((rpre8 s).set 2 (.int .i64 ((257 + v % 32 : Nat) : Int))).set 3 (.int .i64 ((1 + v / 32 % 32 : Nat) : Int))).set 4 (.int .i64 ((4 + v / 1024 : Nat) : Int))).set 1 (.int .i64 ((cts8 s v).nx : Int)) = rpre8 (cts8 s v) := by
  unfold rpre8
  simp only [List.cons_append, List.nil_append, List.set_cons_zero, List.set_cons_succ]
  rfl
theorem set_two8 (l : List Value) (i : Nat) (x y : Value) : (l.set i x).set i y = l.set i y := List.set_set x
theorem cts_rb8 {w : World} {b : Nat} {s : S8} {zs0 : List Int} {v : Nat} (h : Rb8 w b (rpre8 s) zs0) (x y z n : Int) (hx : x = ((257 + v % 32 : Nat) : Int)) (hy : y = ((1 + v / 32 % 32 : Nat) : Int)) (hz : z = ((4 + v / 1024 : Nat) : Int)) (hn : n = ((cts8 s v).nx : Int)) :
    Rb8 ((((w.setCell ⟨b, 2, none⟩ (.int .i64 x)).setCell ⟨b, 3, none⟩ (.int .i64 y)).setCell ⟨b, 4, none⟩ (.int .i64 z)).setCell ⟨b, 1, none⟩ (.int .i64 n)) b (rpre8 (cts8 s v)) zs0 := by
  subst hx hy hz hn
  rw [← cts_pre8]
  exact (((h.set (i := 2) (by omega) _).set (i := 3) (by omega) _).set (i := 4) (by omega) _).set (i := 1) (by omega) _
theorem cts_rb82 {w : World} {b : Nat} {s : S8} {zs0 : List Int} {v : Nat} (h : Rb8 w b (rpre8 s) zs0) (x y z m n : Int) (hx : x = ((257 + v % 32 : Nat) : Int)) (hy : y = ((1 + v / 32 % 32 : Nat) : Int)) (hz : z = ((4 + v / 1024 : Nat) : Int)) (hn : n = ((cts8 s v).nx : Int)) :
    Rb8 (((((w.setCell ⟨b, 2, none⟩ (.int .i64 x)).setCell ⟨b, 3, none⟩ (.int .i64 y)).setCell ⟨b, 4, none⟩ (.int .i64 z)).setCell ⟨b, 1, none⟩ (.int .i64 m)).setCell ⟨b, 1, none⟩ (.int .i64 n)) b (rpre8 (cts8 s v)) zs0 := by
  subst hx hy hz hn
  rw [← cts_pre8, ← set_two8 _ 1 (.int .i64 m)]
  exact ((((h.set (i := 2) (by omega) _).set (i := 3) (by omega) _).set (i := 4) (by omega) _).set (i := 1) (by omega) _).set (i := 1) (by omega) _
end Go.Proofs.YthcmebmohhajaaaDoor

namespace Go.Proofs.YthcmebmohhajaaaDoor
open Go.RowKit
set_option linter.unusedVariables false

set_option maxRecDepth 100000 in
set_option maxHeartbeats 2000000 in
theorem tcounts8 (b br : Nat) (s : S8) (H : List Bool) (t : Nat) (w : World) (hne : b ≠ br) (h0 : s.nx = 0) (hR : RdH w b s) (hr : Rd w br H t) (ht : t ≤ 4611686018427387000) :
    Calls Tryd.prog 25 #[.pointer (some ⟨b, 0, none⟩), .pointer (some ⟨br, 0, none⟩)] w (TkQ w b br s H t) := by
  have CT := take_any br H t ((14 : Nat) : Int) w hr (by omega)
  have hbl := hR.lt
  by_cases hl : 14 ≤ H.length
  · have hth : there H ((14 : Nat) : Int) = true := there_of (by omega) hl
    unfold takeV takeL takeT at CT
    simp only [hth, if_true, Int.toNat_natCast] at CT
    have HO : Hid (One8 s H (cts8 s (num (H.take 14))) 14) := One8.cts h0 hl
    have hv := num_lt8 H 14
    generalize num (H.take 14) = v at *
    have e14 : (2 : Nat) ^ 14 = 16384 := by decide
    rw [e14] at hv
    have k1 := and_low v 5 (by omega) (by omega)
    have k2 := and_low (v / 32) 5 (by omega) (by omega)
    have e5 : ((2 ^ 5 - 1 : Nat) : Int) = 31 := by decide
    have e6 : (2 : Nat) ^ 5 = 32 := by decide
    rw [e5, e6] at k1 k2
    obtain ⟨V, hV⟩ : ∃ V : Int, V = (v : Int) := ⟨_, rfl⟩
    have k1 : bits .and .u64 V 31 = V % 32 := by rw [hV, k1]; simp
    have k2 : bits .and .u64 (V / 32) 31 = V / 32 % 32 := by rw [hV, show (v : Int) / 32 = ((v / 32 : Nat) : Int) by simp, k2]; simp
    have HV : Hid (V = (v : Int)) := hV
    have hV0 : 0 ≤ V := by omega
    have hV1 : V < 16384 := by omega
    rw [← hV] at CT
    clear hV
    have HX : Hid ((cts8 s v).lit = 257 + v % 32 ∧ (cts8 s v).dist = 1 + v / 32 % 32 ∧ (cts8 s v).told = 4 + v / 1024) := ⟨rfl, rfl, rfl⟩
    clear e14 e5 e6 hv
    go_enter Tryd.func25, Tryd.ntmps25
    go_wp2_with fail
    refine CT.mono ?_
    rintro e w1 ⟨rfl, r1, g1⟩
    have hR1 := hR.keep (g1.block b hbl (fun e => hne (by cases e; rfl)))
    obtain ⟨zs0, hB, hz⟩ := hR1.row
    have c1 := hB.cell (i := 1) rfl
    have c2 := hB.cell (i := 2) rfl
    have c3 := hB.cell (i := 3) rfl
    have c4 := hB.cell (i := 4) rfl
    have f1 := hB.free 1
    have f2 := hB.free 2
    have f3 := hB.free 3
    have f4 := hB.free 4
    have HB : Hid (Rb8 w1 b (rpre8 s) zs0) := hB
    clear hB hz CT
    go_wp2_with fail
    · rename_i hcd
      rw [HV.out] at hcd
      have hcv : (286 < 257 + v % 32 ∨ 30 < 1 + v / 32 % 32) := by omega
      go_ret
      refine ⟨?_, .inl ⟨rfl, cts8 s v, 14, HO.out, ⟨zs0, ?_, ?_⟩, ?_⟩⟩
      · have hk : Kp (fun k => k = b ∨ k = br) w w1 := Kp.grown g1 (fun j e => by cases e; exact .inr rfl)
        exact ((((hk.set8 (.inl rfl) 2 _).set8 (.inl rfl) 3 _).set8 (.inl rfl) 4 _).set8 (.inl rfl) 1 _).set8 (.inl rfl) 1 _
      · exact cts_rb82 (v := v) HB.out _ _ _ _ _ (by rw [HV.out]; simp) (by rw [HV.out]; simp) (by rw [HV.out]; simp) (by rw [cts_nx8, if_pos hcv]; rfl)
      · intro e
        exfalso
        rw [cts_nx8, if_pos hcv] at e
        omega
      · have hk : Kp (fun k => k = b) w1 w1 := Kp.refl _ _
        exact r1.kp (((((hk.set8 rfl 2 _).set8 rfl 3 _).set8 rfl 4 _).set8 rfl 1 _).set8 rfl 1 _) (fun e => hne e.symm)
    · rename_i hcd
      rw [HV.out] at hcd
      have hcv : ¬ (286 < 257 + v % 32 ∨ 30 < 1 + v / 32 % 32) := by omega
      go_ret
      refine ⟨?_, .inl ⟨rfl, cts8 s v, 14, HO.out, ⟨zs0, ?_, ?_⟩, ?_⟩⟩
      · have hk : Kp (fun k => k = b ∨ k = br) w w1 := Kp.grown g1 (fun j e => by cases e; exact .inr rfl)
        exact (((hk.set8 (.inl rfl) 2 _).set8 (.inl rfl) 3 _).set8 (.inl rfl) 4 _).set8 (.inl rfl) 1 _
      · exact cts_rb8 (v := v) HB.out _ _ _ _ (by rw [HV.out]; simp) (by rw [HV.out]; simp) (by rw [HV.out]; simp) (by rw [cts_nx8, if_neg hcv]; rfl)
      · intro e
        exfalso
        rw [cts_nx8, if_neg hcv] at e
        omega
      · have hk : Kp (fun k => k = b) w1 w1 := Kp.refl _ _
        exact r1.kp ((((hk.set8 rfl 2 _).set8 rfl 3 _).set8 rfl 4 _).set8 rfl 1 _) (fun e => hne e.symm)
    · rename_i hcd
      rw [HV.out] at hcd
      have hcv : (286 < 257 + v % 32 ∨ 30 < 1 + v / 32 % 32) := by omega
      go_ret
      refine ⟨?_, .inl ⟨rfl, cts8 s v, 14, HO.out, ⟨zs0, ?_, ?_⟩, ?_⟩⟩
      · have hk : Kp (fun k => k = b ∨ k = br) w w1 := Kp.grown g1 (fun j e => by cases e; exact .inr rfl)
        exact ((((hk.set8 (.inl rfl) 2 _).set8 (.inl rfl) 3 _).set8 (.inl rfl) 4 _).set8 (.inl rfl) 1 _).set8 (.inl rfl) 1 _
      · exact cts_rb82 (v := v) HB.out _ _ _ _ _ (by rw [HV.out]; simp) (by rw [HV.out]; simp) (by rw [HV.out]; simp) (by rw [cts_nx8, if_pos hcv]; rfl)
      · intro e
        exfalso
        rw [cts_nx8, if_pos hcv] at e
        omega
      · have hk : Kp (fun k => k = b) w1 w1 := Kp.refl _ _
        exact r1.kp (((((hk.set8 rfl 2 _).set8 rfl 3 _).set8 rfl 4 _).set8 rfl 1 _).set8 rfl 1 _) (fun e => hne e.symm)
  · have hth : there H ((14 : Nat) : Int) = false := there_lt (by omega)
    unfold takeV takeL takeT at CT
    simp only [hth, Bool.false_eq_true, if_false] at CT
    have HW : Hid (Wait8 s H) := .inl ⟨h0, by omega⟩
    go_enter Tryd.func25, Tryd.ntmps25
    go_wp2_with fail
    refine CT.mono ?_
    rintro e w1 ⟨rfl, r1, g1⟩
    have hR1 := hR.keep (g1.block b hbl (fun e => hne (by cases e; rfl)))
    go_wp2_with fail
    go_ret
    exact ⟨Kp.grown g1 (fun j e => by cases e; exact .inr rfl), .inr ⟨rfl, HW.out, hR1, r1⟩⟩
end Go.Proofs.YthcmebmohhajaaaDoor

namespace Go.Proofs.YthcmebmohhajaaaDoor
set_option linter.unusedVariables false

/-! Layer 8: what the runs of lengths are like. -/
def ok8 (r : Rn8) : Prop := 0 ≤ r.sy ∧ r.sy ≤ 18 ∧ lst8 r.sy ≤ r.ct ∧ r.ct ≤ grt8 r.sy
theorem rep8_ok : ∀ (f k : Nat), ∀ r ∈ rep8 f k, ok8 r
  | 0, k, r, h => by simp [rep8] at h
  | f + 1, k, r, h => by
    rw [rep8] at h
    split at h
    · rcases List.mem_cons.1 h with rfl | h
      · unfold ok8 lst8 grt8
        simp
        omega
      · exact rep8_ok f _ r h
    · simp at h
theorem row8_ok {v : Int} {k : Nat} (hv : 0 ≤ v ∧ v ≤ 15) (hk : 1 ≤ k) : ∀ r ∈ row8 v k, ok8 r := by
  intro r h
  unfold row8 at h
  split at h
  · split at h
    · simp at h; subst h; unfold ok8 lst8 grt8; simp; omega
    · split at h
      · simp at h; subst h; unfold ok8 lst8 grt8; simp; omega
      · simp at h; subst h; unfold ok8 lst8 grt8; simp
  · rcases List.mem_cons.1 h with rfl | h
    · have e16 : ¬ v = 16 := by omega
      have e17 : ¬ v = 17 := by omega
      have e18 : ¬ v = 18 := by omega
      unfold ok8 lst8 grt8
      simp [e16, e17, e18]
      omega
    · exact rep8_ok _ _ r h
theorem row8_len {v : Int} {k : Nat} (hk : 1 ≤ k) : (row8 v k).length ≤ sum8 (row8 v k) := sum8_len _ fun r hr => (row8_ct v k hk r hr).1
theorem rung8_ok : ∀ (f : Nat) (l : List Int), (∀ z ∈ l, 0 ≤ z ∧ z ≤ 15) → (∀ r ∈ rung8 f l, ok8 r) ∧ (rung8 f l).length ≤ l.length
  | 0, l, _ => by simp [rung8]
  | f + 1, [], _ => by simp [rung8]
  | f + 1, v :: t, h => by
    have hp : 1 ≤ pre8 v (v :: t) := by rw [pre8, if_pos rfl]; omega
    have hs := row8_sum (v := v) hp
    have hl := row8_len (v := v) hp
    have hpl := pre8_le v (v :: t)
    obtain ⟨i1, i2⟩ := rung8_ok f ((v :: t).drop (sum8 (row8 v (pre8 v (v :: t))))) fun z hz => h z (List.mem_of_mem_drop hz)
    rw [List.length_drop] at i2
    rw [rung8]
    refine ⟨fun r hr => ?_, ?_⟩
    · rcases List.mem_append.1 hr with hr | hr
      · exact row8_ok (h v (by simp)) hp r hr
      · exact i1 r hr
    · rw [List.length_append]
      omega
/-- The runs of lengths that may be: symbols 0 to 18, each count within its bounds; no more runs than lengths. -/
theorem runs8_ok {zs : List Int} (h : may8 zs) : (∀ r ∈ runs8 zs, ok8 r) ∧ (runs8 zs).length ≤ zs.length := rung8_ok zs.length zs h.2
theorem rns8_ok (zs : List Int) : (∀ r ∈ rns8 zs, ok8 r) ∧ (rns8 zs).length ≤ 320 := by
  unfold rns8
  split
  · rename_i h
    have h1 := runs8_ok h
    have h2 := h.1
    exact ⟨h1.1, by omega⟩
  · exact ⟨by simp, by simp⟩
theorem end8_mem : ∀ (l : List Int), 0 < l.length → end8 l ∈ l
  | [], h => by simp at h
  | [x], _ => by simp [end8]
  | x :: y :: r, _ => by
    have := end8_mem (y :: r) (by simp)
    rw [end8]
    · exact List.mem_cons_of_mem _ this
    · intro h; cases h
/-- Lengths that runs say: within 0 to 15, no more than 320. -/
theorem lng8_bd : ∀ (R : List Rn8) (out l : List Int), lng8 R out = some l → (∀ z ∈ out, 0 ≤ z ∧ z ≤ 15) → out.length ≤ 320 → (∀ z ∈ l, 0 ≤ z ∧ z ≤ 15) ∧ l.length ≤ 320
  | [], out, l, h, hb, hl => by
    rw [lng8] at h
    cases h
    exact ⟨hb, hl⟩
  | r :: R, out, l, h, hb, hl => by
    rw [lng8] at h
    split at h
    · cases h
    · rename_i hbad
      split at h
      · cases h
      · rename_i hlen
        refine lng8_bd R _ l h (fun z hz => ?_) (by omega)
        rcases List.mem_append.1 hz with hz | hz
        · exact hb z hz
        · rw [List.eq_of_mem_replicate hz]
          unfold val8
          unfold bad8 at hbad
          split
          · rename_i h16
            have hne : 0 < out.length := by
              by_cases e : out.length = 0
              · exact absurd (.inr (.inr (.inr (.inr ⟨h16, e⟩)))) hbad
              · omega
            exact hb _ (end8_mem out hne)
          · split <;> omega
theorem lens8_bd {R : List Rn8} {l : List Int} (h : lens8 R = some l) : (∀ z ∈ l, 0 ≤ z ∧ z ≤ 15) ∧ l.length ≤ 320 := lng8_bd R [] l h (by simp) (by simp)
end Go.Proofs.YthcmebmohhajaaaDoor
