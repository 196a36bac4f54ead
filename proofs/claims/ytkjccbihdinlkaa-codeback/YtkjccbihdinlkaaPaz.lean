import Derived.Test.YtkjccbihdinlkaaPaq
import Derived.Test.YtkjccbihdinlkaaPay
namespace Go.Proofs.Ytkjccbihdinlkaa
open Go.RowKit
set_option linter.unusedVariables false

theorem seg_lit {w : World} : SegZ (w.alloc (.cells #[.int .i64 2, .int .i64 1, .int .i64 3, .int .i64 3] 3)) (some ⟨w.heap.size, 0, none⟩) [2, 1, 3, 3] := by
  refine ⟨fun i hi => ⟨w.heap.size, 0, rfl, ?_⟩, getD_bdz (by intro z hz; simp at hz; omega)⟩
  simp only [List.length_cons, List.length_nil] at hi
  match i, hi with
  | 0, _ => simp
  | 1, _ => simp
  | 2, _ => simp
  | 3, _ => simp
set_option maxRecDepth 100000 in
set_option maxHeartbeats 400000 in
theorem first5_any (w : World) : Calls Try.prog 38 #[] w fun e w' => ∃ g, e = .returned (.slice (some ⟨g, 0, none⟩) 4 4) ∧ SegZ w' (some ⟨g, 0, none⟩) [2, 1, 3, 3] ∧ Below w.heap.size w w' := by
  go_enter Try.func38, Try.ntmps38
  go_wp2_with fail
  go_ret
  exact ⟨w.heap.size, rfl, seg_lit, (Below.refl _ _).alloc (Nat.le_refl _) _⟩
theorem ex_ok : errC [2, 1, 3, 3] = 0 := by decide
theorem ex_put2 : errP [2, 1, 3, 3] 2 = 0 ∧ putB [2, 1, 3, 3] 2 = [true, true, false] := by decide
theorem ex_put1 : errP [2, 1, 3, 3] 1 = 0 ∧ putB [2, 1, 3, 3] 1 = [false] := by decide
theorem ex_beg2 : Beg [2, 1, 3, 3] (bN 3 8) 2 := by unfold Beg; decide
theorem ex_beg1 : Beg [2, 1, 3, 3] ((bN 3 8).drop 3) 1 := by unfold Beg; decide
theorem toB_three : toB [true, true, false, false] = [3] := by
  rw [toB_eq (by decide)]
  rw [show ([true, true, false, false] : List Bool).drop 8 = [] from by decide, toB_nil]
  decide
theorem ex_lok : LOk [2, 1, 3, 3] := by unfold LOk; decide

set_option maxRecDepth 100000 in
set_option maxHeartbeats 2000000 in
theorem lives5_any (w : World) : Calls Try.prog 9 #[] w fun e w' => e = .returned (.bool true) ∧ Below w.heap.size w w' := by
  go_enter Try.func9, Try.ntmps9
  go_wp2_with fail
  refine (first5_any w).mono ?_
  rintro e w1 ⟨g1, rfl, s1, B1⟩
  go_wp2_with fail
  refine (newEnc_any (some ⟨g1, 0, none⟩) [2, 1, 3, 3] 4 4 rfl w1 s1 (by intro h; cases h) (by omega)).mono ?_
  rintro e w2 ⟨hE, _, B2⟩
  obtain ⟨be, rfl, hbe, E2⟩ := hE ex_ok
  clear hE
  go_wp2_with fail
  refine (newDec_any 4 (by omega) (by omega) w2).mono ?_
  rintro e w3 ⟨rfl, hw3⟩
  have hd3 : w3.heap[w2.heap.size]? = some (.cells (arr (dl 4 [] Z288)) 95 (0, 0)) := by rw [hw3]; exact heap_alloc_new w2 _
  have B3 : Below w2.heap.size w2 w3 := by rw [hw3]; exact (Below.refl _ _).alloc (Nat.le_refl _) _
  have D3 : De w3 w2.heap.size 4 [] := De.new (by omega) (by omega) hd3
  clear hw3 hd3
  have E3 := E2.old B3
  obtain ⟨bd, hbd⟩ : ∃ bd, bd = w2.heap.size := ⟨_, rfl⟩
  rw [← hbd] at D3 E3 ⊢
  have HBD : Hid (bd = w2.heap.size) := hbd
  clear hbd
  go_wp2_with fail
  refine (first5_any w3).mono ?_
  rintro e w4 ⟨g4, rfl, s4, B4⟩
  have hs23 := B3.size
  have hs34 := B4.size
  have E4 := E3.old (B4.mono (by have := HBD.out; omega))
  have D4 := D3.keep (B4.block bd D3.lt)
  have e1 : errD 4 [2, 1, 3, 3] = 0 := by decide
  go_wp2_with fail
  refine (load_any bd 4 [] (some ⟨g4, 0, none⟩) [2, 1, 3, 3] 4 4 rfl w4 D4 s4 (by omega)).mono ?_
  rintro e w5 ⟨rfl, D5, K5⟩
  rw [e1, if_pos rfl] at D5
  rw [e1]
  clear e1
  have hs45 := K5.size
  have B5 : Below bd w4 w5 := K5.below (fun i e => by omega) (by have := HBD.out; omega)
  have E5 := E4.old B5
  have h6 : WrL (w5.alloc (.cells #[.slice none 0 0, .int .u64 0, .int .i64 0] 47)) w5.heap.size w5.heap.size (.slice none 0 0) [] := WrL.new (heap_new _ _) (by simp)
  have B6 : Below w5.heap.size w5 (w5.alloc (.cells #[.slice none 0 0, .int .u64 0, .int .i64 0] 47)) := (Below.refl _ _).alloc (Nat.le_refl _) _
  go_wp2_with fail
  generalize w5.alloc (.cells #[.slice none 0 0, .int .u64 0, .int .i64 0] 47) = w6 at *
  have hs56 := B6.size
  have E6 := E5.old (B6.mono (by have := HBD.out; omega))
  have D6 := D5.keep (B6.block bd D5.lt)
  obtain ⟨bw, hbw⟩ : ∃ bw, bw = w5.heap.size := ⟨_, rfl⟩
  rw [← hbw] at h6 ⊢
  have HBW : Hid (bw = w5.heap.size) := hbw
  clear hbw
  have hdw : bd < bw := by have := HBW.out; have := D5.lt; omega
  refine (put5_any be bd [2, 1, 3, 3] 2 bw bw _ [] w6 E6 h6 (by simp)).mono ?_
  rw [ex_put2.1, ex_put2.2]
  rintro e w7 ⟨rfl, v7, h7, k7, f7⟩
  have B7 := h6.below k7 (Nat.le_refl _) (Nat.le_refl _)
  have E7 := E6.old (B7.mono (by omega))
  have D7 := D6.keep (B7.block bd hdw)
  go_wp2_with fail
  refine (put5_any be bd [2, 1, 3, 3] 1 bw bw _ _ w7 E7 h7 (by simp)).mono ?_
  rw [ex_put1.1, ex_put1.2]
  rintro e w8 ⟨rfl, v8, h8, k8, f8⟩
  have B8 := h7.below k8 (Nat.le_refl _) (Nat.le_refl _)
  have D8 := D7.keep (B8.block bd hdw)
  have eL : (([] : List Bool) ++ [true, true, false] ++ [false]) = [true, true, false, false] := rfl
  rw [eL] at h8
  clear eL
  go_wp2_with fail
  refine (len_any bw bw _ _ _ h8 (by simp)).mono ?_
  rintro e w9 ⟨rfl, B9⟩
  have h9 : WrL w9 bw bw v8 [true, true, false, false] := h8.kp (S := fun _ => False) (Kp.of_below B9) (by simp) (by simp)
  have D9 := D8.keep (B9.block bd D8.lt)
  have hb9 := h9.b_lt
  have hR : (w9.alloc (.cells #[.int .u64 0, .int .i64 0, .int .i64 0] 63)).heap[w9.heap.size]? = some (.cells #[.int .u64 0, .int .i64 0, .int .i64 0] 63 (0, 0)) := heap_new _ _
  have BA : Below w9.heap.size w9 (w9.alloc (.cells #[.int .u64 0, .int .i64 0, .int .i64 0] 63)) := (Below.refl _ _).alloc (Nat.le_refl _) _
  have hA : WrL (w9.alloc (.cells #[.int .u64 0, .int .i64 0, .int .i64 0] 63)) bw bw v8 [true, true, false, false] := h9.kp (S := fun _ => False) (Kp.of_below BA) (by simp) (by simp)
  have rA := Rd.new hR
  have DA := D9.keep (BA.block bd D9.lt)
  have hlen : (([true, true, false, false] : List Bool).length : Int) = 4 := rfl
  rw [hlen]
  clear hlen hR
  obtain ⟨q, hq⟩ : ∃ q, q = w9.heap.size := ⟨_, rfl⟩
  have HQ : Hid (q = w9.heap.size) := hq
  clear hq
  go_wp2_with fail
  generalize w9.alloc (.cells #[.int .u64 0, .int .i64 0, .int .i64 0] 63) = wA at *
  rw [← HQ.out] at rA ⊢
  refine (bytes_any bw bw _ _ _ hA (by simp)).mono ?_
  rw [toB_three]
  rintro e wB ⟨aB, cB, rfl, ownB, BB⟩
  have rB : Rd wB q [] 0 := rA.kp (S := fun _ => False) (Kp.of_below BB) (by simp)
  have DB := DA.keep (BB.block bd DA.lt)
  obtain ⟨_, a', c', hv, hsB, hxB, hcB, _⟩ := own_seg (zs := [3]) ownB (M := 255) (by decide) (by decide)
  cases hv
  have hqA := rA.b_lt
  go_wp2_with fail
  refine (feed_any q [] 0 aB [3] cB wB rB hsB hcB (fun g off e _ e2 => by have h6 := (hxB _ e).2.2.1; simp at h6; omega) (by simp)).mono ?_
  rintro e wC ⟨rfl, rC, kC⟩
  clear hqA
  have e1 : feedN [] ([3] : List Int).length = 1 := by decide
  have e2 : ([] ++ bB (([3] : List Int).take 1)) = bN 3 8 := by decide
  rw [e1, e2] at rC
  rw [e1]
  clear e1 e2
  have hqd : bd < q := by have := HQ.out; have := D9.lt; omega
  have DC := DB.keep (kC.block bd DB.lt (by omega))
  go_wp2_with fail
  refine (next5_any bd 4 [2, 1, 3, 3] q (bN 3 8) 0 wC DC rC (by omega)).mono ?_
  rintro e wD ⟨hN, kD⟩
  rcases hN with ⟨s, hs, rfl, rD⟩ | ⟨hs, _⟩ | ⟨hs, _⟩
  · obtain rfl := beg_one ex_lok hs ex_beg2
    clear hs
    have eD : (bN 3 8).drop (ln [2, 1, 3, 3] 2) = (bN 3 8).drop 3 := by decide
    have eT : 0 + ln [2, 1, 3, 3] 2 = 3 := by decide
    rw [eD, eT] at rD
    clear eD eT
    have DD := DC.keep (kD.block bd DC.lt (by omega))
    have e2 : ((2 : Nat) : Int) = 2 := rfl
    rw [e2]
    clear e2
    go_wp2_with fail
    refine (next5_any bd 4 [2, 1, 3, 3] q ((bN 3 8).drop 3) 3 wD DD rD (by omega)).mono ?_
    rintro e wE ⟨hN, kE⟩
    rcases hN with ⟨s, hs, rfl, rE⟩ | ⟨hs, _⟩ | ⟨hs, _⟩
    · obtain rfl := beg_one ex_lok hs ex_beg1
      clear hs
      have e2 : ((1 : Nat) : Int) = 1 := rfl
      rw [e2]
      clear e2
      go_wp2
      go_ret
      refine ⟨rfl, ?_⟩
      have hbd := HBD.out
      have hbw := HBW.out
      have hq := HQ.out
      have s1 := B1.size
      have s2 := B2.size
      have s7 := B7.size
      have s8 := B8.size
      have s9 := B9.size
      have sA := BA.size
      have sB := BB.size
      have sC := kC.size
      have sD := kD.size
      have x1 : Below w.heap.size w w2 := B1.trans (B2.mono s1)
      have x2 : Below w.heap.size w w4 := x1.trans ((B3.mono (by omega)).trans (B4.mono (by omega)))
      have x3 : Below w.heap.size w w6 := x2.trans ((B5.mono (by omega)).trans (B6.mono (by omega)))
      have x4 : Below w.heap.size w w8 := x3.trans ((B7.mono (by omega)).trans (B8.mono (by omega)))
      have x5 : Below w.heap.size w wB := x4.trans ((B9.mono (by omega)).trans ((BA.mono (by omega)).trans (BB.mono (by omega))))
      have x6 : Below w.heap.size wB wC := kC.below (fun i e => by omega) (by omega)
      have x7 : Below w.heap.size wC wD := kD.below (fun i e => by omega) (by omega)
      have x8 : Below w.heap.size wD wE := kE.below (fun i e => by omega) (by omega)
      exact x5.trans (x6.trans (x7.trans x8))
    · exact absurd ex_beg1 (hs 1)
    · exact absurd ex_beg1 (hs 1)
  · exact absurd ex_beg2 (hs 2)
  · exact absurd ex_beg2 (hs 2)
end Go.Proofs.Ytkjccbihdinlkaa

namespace Go.Proofs.Ytkjccbihdinlkaa
open Go.RowKit
set_option linter.unusedVariables false

/-- The bits of symbols, one behind the other. -/
def PB (zs ps : List Int) : List Bool := ps.flatMap (putB zs)
theorem PB_nil (zs : List Int) : PB zs [] = [] := rfl
theorem PB_append (zs ps qs : List Int) : PB zs (ps ++ qs) = PB zs ps ++ PB zs qs := by simp [PB]
theorem PB_snoc (zs ps : List Int) (s : Int) : PB zs (ps ++ [s]) = PB zs ps ++ putB zs s := by rw [PB_append]; simp [PB]
theorem PB_len {zs : List Int} (h : errC zs = 0) : ∀ ps : List Int, (PB zs ps).length ≤ 15 * ps.length
  | [] => by simp [PB]
  | s :: ps => by
    have h1 := PB_len h ps
    have h2 := putB_le h s
    have : PB zs (s :: ps) = putB zs s ++ PB zs ps := by simp [PB]
    rw [this, List.length_append, List.length_cons]
    omega
theorem putB_lenIn {zs : List Int} (h : errC zs = 0) {k : Nat} (hk : k < zs.length) : (putB zs k).length = ln zs k := by rw [putB_in h hk, rev_len]
theorem putB_vB {zs : List Int} (h : errC zs = 0) {k : Nat} (hk : k < zs.length) : vB (putB zs k) (ln zs k) = cd zs k := by
  rw [putB_in h hk]
  unfold vB
  rw [List.take_of_length_le (by rw [rev_len]; exact Nat.le_refl _), List.reverse_reverse, num_bN_lt (cd_small h hk).1]
theorem vB_same {H c : List Bool} {l : Nat} (h : H.take l = c.take l) : vB H l = vB c l := by unfold vB; rw [h]
/-- What is held, and what comes behind it, are the symbol's bits and those behind. -/
theorem held_split {zs P : List Int} {i fed : Nat} {H : List Bool} (hi : i < P.length) (hH : PB zs (P.take i) ++ H = bB ((toB (PB zs P)).take fed)) :
    ∃ Y, H ++ bB ((toB (PB zs P)).drop fed) = putB zs (P.getD i 0) ++ Y := by
  obtain ⟨k, _, hB⟩ := bB_toB (L := PB zs P)
  have h1 : bB (toB (PB zs P)) = PB zs (P.take i) ++ H ++ bB ((toB (PB zs P)).drop fed) := by
    rw [hH, ← bB_append, List.take_append_drop]
  have h2 : PB zs P = PB zs (P.take i) ++ (putB zs (P.getD i 0) ++ PB zs (P.drop (i + 1))) := by
    rw [← List.append_assoc, ← PB_snoc, ← take_snocZ hi, ← PB_append, List.take_append_drop]
  refine ⟨PB zs (P.drop (i + 1)) ++ List.replicate k false, ?_⟩
  rw [hB] at h1
  have h3 : PB zs (P.take i) ++ (H ++ bB ((toB (PB zs P)).drop fed)) = PB zs (P.take i) ++ (putB zs (P.getD i 0) ++ (PB zs (P.drop (i + 1)) ++ List.replicate k false)) := by
    rw [← List.append_assoc, ← h1]
    generalize bB ((toB (PB zs P)).drop fed) = Z at *
    rw [h2]
    simp only [List.append_assoc]
  exact List.append_cancel_left h3
theorem held_beg {zs P : List Int} {i fed k : Nat} {H : List Bool} (hok : errC zs = 0) (hi : i < P.length) (hs : P.getD i 0 = (k : Int)) (hk : k < zs.length) (hk0 : zs.getD k 0 ≠ 0) (hH : PB zs (P.take i) ++ H = bB ((toB (PB zs P)).take fed)) (hl : ln zs k ≤ H.length) :
    Beg zs H k ∧ PB zs (P.take (i + 1)) ++ H.drop (ln zs k) = bB ((toB (PB zs P)).take fed) ∧ (PB zs (P.take (i + 1))).length = (PB zs (P.take i)).length + ln zs k := by
  obtain ⟨Y, hY⟩ := held_split hi hH
  rw [hs] at hY
  have hpl := putB_lenIn hok hk
  have h1 := congrArg (List.take (ln zs k)) hY
  rw [List.take_append_of_le_length hl, List.take_left' hpl] at h1
  have h2 : PB zs (P.take (i + 1)) = PB zs (P.take i) ++ putB zs k := by rw [take_snocZ hi, PB_snoc, hs]
  refine ⟨⟨hk, hk0, hl, ?_⟩, ?_, ?_⟩
  · rw [vB_same (c := putB zs k) (by rw [h1, List.take_of_length_le (by rw [hpl]; exact Nat.le_refl _)]), putB_vB hok hk]
  · rw [h2, ← h1, List.append_assoc, List.take_append_drop, hH]
  · rw [h2, List.length_append, hpl]
theorem held_may {zs P : List Int} {i fed k : Nat} {H : List Bool} (hok : errC zs = 0) (hi : i < P.length) (hs : P.getD i 0 = (k : Int)) (hk : k < zs.length) (hk0 : zs.getD k 0 ≠ 0) (hH : PB zs (P.take i) ++ H = bB ((toB (PB zs P)).take fed)) (hl : H.length < ln zs k) :
    (∀ s, ¬ Beg zs H s) ∧ May zs H ∧ fed < (toB (PB zs P)).length := by
  obtain ⟨Y, hY⟩ := held_split hi hH
  rw [hs] at hY
  have hpl := putB_lenIn hok hk
  have hlok := (errS_zero (errC_zero hok).1).2
  have h1 := congrArg (List.take H.length) hY
  rw [List.take_left' rfl, List.take_append_of_le_length (by omega)] at h1
  have hv : ∀ l, l ≤ H.length → vB H l = cd zs k / 2 ^ (ln zs k - l) := by
    intro l hle
    have e1 : H.take l = (putB zs k).take l := by
      have := congrArg (List.take l) h1
      rw [List.take_take, Nat.min_eq_left hle] at this
      exact this
    rw [vB_same e1, ← vB_div (putB zs k) (a := l) (b := ln zs k) (by omega) (by omega), putB_vB hok hk]
  refine ⟨fun s hb => ?_, ⟨k, hk, hk0, hl, (hv _ (Nat.le_refl _)).symm⟩, ?_⟩
  · obtain ⟨b1, b2, b3, b4⟩ := hb
    rw [hv _ b3] at b4
    have := cd_apart hlok b1 hk b2 (by omega) b4
    subst this
    omega
  · rcases Nat.lt_or_ge fed (toB (PB zs P)).length with h | h
    · exact h
    · exfalso
      rw [List.drop_eq_nil_of_le h] at hY
      have := congrArg List.length hY
      simp only [bB, List.append_nil, List.length_append, hpl] at this
      omega
end Go.Proofs.Ytkjccbihdinlkaa
