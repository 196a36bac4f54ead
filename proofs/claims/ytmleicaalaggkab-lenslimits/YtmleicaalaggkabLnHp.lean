import Derived.Test.YtmleicaalaggkabLnPile
namespace Go.Proofs.Ytmleicaalaggkab
open Go.RowKit
set_option linter.unusedVariables false

theorem pile_swapped {w w' : World} {p g cap N i j : Nat} {zs : List Int} (hn : Hid (zs.length = N)) (h : Pile w p (some ⟨g, 0, none⟩) cap zs) (hi : i < N) (hj : j < N)
    (ho : w'.ownsRow (p + 1) 3 1 (.slice (some ⟨g, 0, none⟩) N cap) N ((swp zs i j).map (Value.int .i64))) (hg : w.grownBy w' (some g)) :
    Pile w' p (some ⟨g, 0, none⟩) cap (swp zs i j) ∧ Below p w w' := by
  have hl : (swp zs i j).length = N := by rw [swp_len]; exact hn.out
  have hpg := (ho.lt g rfl).1
  have hlt : p < w.heap.size := (Array.getElem?_eq_some_iff.1 h.cell).1
  refine ⟨⟨?_, by rw [hl]; exact ho, fun z hz => ?_⟩, (Below.refl p w).grown hg (Nat.le_of_lt hlt) (by intro k e; cases e; omega)⟩
  · rw [hg.block p hlt (by intro e; simp at e; omega), hl]
    have := h.cell
    rwa [hn.out] at this
  · exact h.bd z ((swp_perm zs i j (by have := hn.out; omega) (by have := hn.out; omega)).mem_iff.1 hz)

set_option maxHeartbeats 2000000 in
theorem down_any (p g cap N n lo : Nat) (zs : List Int) (hzs : Hid (zs.length = N)) (hN : N ≤ 1000) (hn : n ≤ N) (hlo : lo ≤ N) (w : World) (h : Pile w p (some ⟨g, 0, none⟩) cap zs) (hh : hp (fun k => zs.getD k 0) n (lo + 1)) :
    Calls Try.prog 30 #[.iface 46 (.pointer (some ⟨p, 0, none⟩)), .int .i64 lo, .int .i64 n] w fun e w' => ∃ b zs', e = .returned (.bool b) ∧ Hid (zs'.length = N) ∧ Pile w' p (some ⟨g, 0, none⟩) cap zs' ∧ Below p w w' ∧ zs'.Perm zs ∧ hp (fun k => zs'.getD k 0) n lo ∧ ∀ k, k < lo ∨ n ≤ k → zs'.getD k 0 = zs.getD k 0 := by
  have HLess : Hid (∀ W (zk : List Int) (i j : Nat), SegZ W (some ⟨g, 0, none⟩) zk → Hid (zk.length = N) → i < N → j < N → Calls Try.prog 55 #[.slice (some ⟨g, 0, none⟩) N cap, .int .i64 i, .int .i64 j] W fun e w' => e = .returned (.bool (decide (zk.getD i 0 < zk.getD j 0))) ∧ ∃ k, w' = W.drewN k) :=
    fun W zk i j hs hk hi hj => pless_any (some ⟨g, 0, none⟩) cap zk N i j hk W hs hi hj (by omega)
  have HSwap : Hid (∀ W (zk : List Int) (i j : Nat), W.ownsRow (p + 1) 3 1 (.slice (some ⟨g, 0, none⟩) N cap) N (zk.map (Value.int .i64)) → Hid (zk.length = N) → i < N → j < N → i ≠ j → Calls Try.prog 56 #[.slice (some ⟨g, 0, none⟩) N cap, .int .i64 i, .int .i64 j] W fun e w' => e = .returned (.tuple #[]) ∧ w'.ownsRow (p + 1) 3 1 (.slice (some ⟨g, 0, none⟩) N cap) N ((swp zk i j).map (Value.int .i64)) ∧ W.grownBy w' (some g)) :=
    fun W zk i j ho hk hi hj hij => pswap_any g (p + 1) cap zk N i j hk W ho hi hj hij (by omega)
  go_enter Try.func30, Try.ntmps30
  go_wp2
  go_loopw [7] (fun ti wr => ∃ (i : Nat) (zk : List Int), lo ≤ i ∧ i ≤ N ∧ ti = .int .i64 i ∧ Hid (zk.length = N) ∧ Pile wr p (some ⟨g, 0, none⟩) cap zk ∧ Below p w wr ∧ Hid (zk.Perm zs) ∧ Hid (dn (fun k => zk.getD k 0) n lo i) ∧ Hid (∀ k, k < lo ∨ n ≤ k → zk.getD k 0 = zs.getD k 0)) (fun ti _ => N - (intOf ti).toNat)
  case atStart => exact ⟨lo, zs, Nat.le_refl _, hlo, rfl, hzs, h, Below.refl _ _, List.Perm.refl _, dn_start hh, (fun k _ => rfl : ∀ k, _)⟩
  case round =>
    obtain ⟨i, zk, hloi, hiN, rfl, hzk, wrP, wrB, HP, HD, HU⟩ := hrel
    have hnN : Hid (zk.length = N) := hzk
    obtain ⟨j1, hj1⟩ : ∃ j1, j1 = 2 * i + 1 := ⟨_, rfl⟩
    have r1 : 2 * (i : Int) + 1 = (j1 : Int) := by omega
    have HJ1 : Hid (j1 = 2 * i + 1) := hj1
    have hij1 : i < j1 := by omega
    clear hj1
    by_cases h1 : j1 < n
    · have h1i : ¬ (n : Int) ≤ (j1 : Int) := by omega
      have h10 : ¬ (j1 : Int) < 0 := by omega
      obtain ⟨j2, hj2⟩ : ∃ j2, j2 = j1 + 1 := ⟨_, rfl⟩
      have r2 : (j1 : Int) + 1 = (j2 : Int) := by omega
      have HJ2 : Hid (j2 = j1 + 1) := hj2
      have hij2 : i < j2 := by omega
      clear hj2
      by_cases h2 : j2 < n
      · have h2i : (j2 : Int) < (n : Int) := by omega
        by_cases ht : zk.getD j2 0 < zk.getD j1 0
        · have ht1 : decide (zk.getD j2 0 < zk.getD j1 0) = true := decide_eq_true ht
          have KD : Hid (kid i j2) := by have := HJ1.out; have := HJ2.out; show kid _ _; unfold kid; omega
          have MN : Hid (∀ c, kid i c → c < n → zk.getD j2 0 ≤ zk.getD c 0) := by
            intro c hc _
            have e1 := HJ1.out; have e2 := HJ2.out
            unfold kid at hc
            rcases hc with e | e
            · have : c = j1 := by omega
              rw [this]; omega
            · have : c = j2 := by omega
              rw [this]; omega
          go_wp2_with fail
          rw [wrP.m m_less]
          rw [hnN.out]
          go_wp2_with fail
          refine (HLess.out _ zk j2 j1 wrP.seg hzk (by omega) (by omega)).mono ?_
          rintro e w7 ⟨rfl, qw7, hqw7⟩
          have w7P : Pile w7 p (some ⟨g, 0, none⟩) cap zk := by rw [hqw7]; exact wrP.drewN _
          have w7B : Below p w w7 := by rw [hqw7]; exact ⟨wrB.os, wrB.tape, wrB.output, wrB.size, wrB.block⟩
          clear hqw7
          rw [ht1]
          by_cases hs : zk.getD (j2) 0 < zk.getD i 0
          · have hs1 : decide (zk.getD (j2) 0 < zk.getD i 0) = true := decide_eq_true hs
            go_wp2_with fail
            rw [w7P.m m_less]
            rw [hnN.out]
            go_wp2_with fail
            refine (HLess.out _ zk (j2) i w7P.seg hzk (by omega) (by omega)).mono ?_
            rintro e w8 ⟨rfl, qw8, hqw8⟩
            have w8P : Pile w8 p (some ⟨g, 0, none⟩) cap zk := by rw [hqw8]; exact w7P.drewN _
            have w8B : Below p w w8 := by rw [hqw8]; exact ⟨w7B.os, w7B.tape, w7B.output, w7B.size, w7B.block⟩
            clear hqw8
            rw [hs1]
            go_wp2_with fail
            rw [w8P.m m_swap]
            rw [hnN.out]
            go_wp2_with fail
            have o8 : w8.ownsRow (p + 1) 3 1 (.slice (some ⟨g, 0, none⟩) N cap) N (zk.map (Value.int .i64)) := by have := w8P.own; rwa [hzk.out] at this
            refine (HSwap.out _ zk i (j2) o8 hzk (by omega) (by omega) (by omega)).mono ?_
            rintro e w9 ⟨rfl, o9, g9⟩
            obtain ⟨w9P, w9B⟩ := pile_swapped hzk w8P (by omega) (by omega) o9 g9
            go_wp2
            go_roundw
            case rel => exact ⟨j2, swp zk i (j2), by omega, by omega, by go_num, by rw [swp_len]; exact hzk, w9P, w8B.trans w9B, (swp_perm zk i (j2) (by have := hzk.out; omega) (by have := hzk.out; omega)).trans HP.out, dn_step HD.out (by omega) KD.out (by omega) MN.out hs (fun k => swp_getD zk i (j2) k (by have := hzk.out; omega) (by have := hzk.out; omega)), fun k hk => by rw [swp_getD zk i (j2) k (by have := hzk.out; omega) (by have := hzk.out; omega), if_neg (by omega), if_neg (by omega)]; exact HU.out k hk⟩
            case measure => simp [intOf]; omega
          · have hs1 : decide (zk.getD (j2) 0 < zk.getD i 0) = false := decide_eq_false hs
            go_wp2_with fail
            rw [w7P.m m_less]
            rw [hnN.out]
            go_wp2_with fail
            refine (HLess.out _ zk (j2) i w7P.seg hzk (by omega) (by omega)).mono ?_
            rintro e w8 ⟨rfl, qw8, hqw8⟩
            have w8P : Pile w8 p (some ⟨g, 0, none⟩) cap zk := by rw [hqw8]; exact w7P.drewN _
            have w8B : Below p w w8 := by rw [hqw8]; exact ⟨w7B.os, w7B.tape, w7B.output, w7B.size, w7B.block⟩
            clear hqw8
            rw [hs1]
            go_wp2
            go_ret
            exact ⟨_, zk, rfl, hzk, w8P, w8B, HP.out, dn_stop (j := j2) HD.out MN.out (by omega), HU.out⟩
        · have ht1 : decide (zk.getD j2 0 < zk.getD j1 0) = false := decide_eq_false ht
          have KD : Hid (kid i j1) := by have := HJ1.out; show kid _ _; unfold kid; omega
          have MN : Hid (∀ c, kid i c → c < n → zk.getD j1 0 ≤ zk.getD c 0) := by
            intro c hc _
            have e1 := HJ1.out; have e2 := HJ2.out
            unfold kid at hc
            rcases hc with e | e
            · have : c = j1 := by omega
              rw [this]; omega
            · have : c = j2 := by omega
              rw [this]; omega
          go_wp2_with fail
          rw [wrP.m m_less]
          rw [hnN.out]
          go_wp2_with fail
          refine (HLess.out _ zk j2 j1 wrP.seg hzk (by omega) (by omega)).mono ?_
          rintro e w7 ⟨rfl, qw7, hqw7⟩
          have w7P : Pile w7 p (some ⟨g, 0, none⟩) cap zk := by rw [hqw7]; exact wrP.drewN _
          have w7B : Below p w w7 := by rw [hqw7]; exact ⟨wrB.os, wrB.tape, wrB.output, wrB.size, wrB.block⟩
          clear hqw7
          rw [ht1]
          by_cases hs : zk.getD (j1) 0 < zk.getD i 0
          · have hs1 : decide (zk.getD (j1) 0 < zk.getD i 0) = true := decide_eq_true hs
            go_wp2_with fail
            rw [w7P.m m_less]
            rw [hnN.out]
            go_wp2_with fail
            refine (HLess.out _ zk (j1) i w7P.seg hzk (by omega) (by omega)).mono ?_
            rintro e w8 ⟨rfl, qw8, hqw8⟩
            have w8P : Pile w8 p (some ⟨g, 0, none⟩) cap zk := by rw [hqw8]; exact w7P.drewN _
            have w8B : Below p w w8 := by rw [hqw8]; exact ⟨w7B.os, w7B.tape, w7B.output, w7B.size, w7B.block⟩
            clear hqw8
            rw [hs1]
            go_wp2_with fail
            rw [w8P.m m_swap]
            rw [hnN.out]
            go_wp2_with fail
            have o8 : w8.ownsRow (p + 1) 3 1 (.slice (some ⟨g, 0, none⟩) N cap) N (zk.map (Value.int .i64)) := by have := w8P.own; rwa [hzk.out] at this
            refine (HSwap.out _ zk i (j1) o8 hzk (by omega) (by omega) (by omega)).mono ?_
            rintro e w9 ⟨rfl, o9, g9⟩
            obtain ⟨w9P, w9B⟩ := pile_swapped hzk w8P (by omega) (by omega) o9 g9
            go_wp2
            go_roundw
            case rel => exact ⟨j1, swp zk i (j1), by omega, by omega, by go_num, by rw [swp_len]; exact hzk, w9P, w8B.trans w9B, (swp_perm zk i (j1) (by have := hzk.out; omega) (by have := hzk.out; omega)).trans HP.out, dn_step HD.out (by omega) KD.out (by omega) MN.out hs (fun k => swp_getD zk i (j1) k (by have := hzk.out; omega) (by have := hzk.out; omega)), fun k hk => by rw [swp_getD zk i (j1) k (by have := hzk.out; omega) (by have := hzk.out; omega), if_neg (by omega), if_neg (by omega)]; exact HU.out k hk⟩
            case measure => simp [intOf]; omega
          · have hs1 : decide (zk.getD (j1) 0 < zk.getD i 0) = false := decide_eq_false hs
            go_wp2_with fail
            rw [w7P.m m_less]
            rw [hnN.out]
            go_wp2_with fail
            refine (HLess.out _ zk (j1) i w7P.seg hzk (by omega) (by omega)).mono ?_
            rintro e w8 ⟨rfl, qw8, hqw8⟩
            have w8P : Pile w8 p (some ⟨g, 0, none⟩) cap zk := by rw [hqw8]; exact w7P.drewN _
            have w8B : Below p w w8 := by rw [hqw8]; exact ⟨w7B.os, w7B.tape, w7B.output, w7B.size, w7B.block⟩
            clear hqw8
            rw [hs1]
            go_wp2
            go_ret
            exact ⟨_, zk, rfl, hzk, w8P, w8B, HP.out, dn_stop (j := j1) HD.out MN.out (by omega), HU.out⟩
      · have h2i : ¬ (j2 : Int) < (n : Int) := by omega
        have KD : Hid (kid i j1) := by have := HJ1.out; show kid _ _; unfold kid; omega
        have MN : Hid (∀ c, kid i c → c < n → zk.getD j1 0 ≤ zk.getD c 0) := by
          intro c hc hcn
          have e1 := HJ1.out; have e2 := HJ2.out
          unfold kid at hc
          rcases hc with e | e
          · have : c = j1 := by omega
            rw [this]; omega
          · omega
        by_cases hs : zk.getD (j1) 0 < zk.getD i 0
        · have hs1 : decide (zk.getD (j1) 0 < zk.getD i 0) = true := decide_eq_true hs
          go_wp2_with fail
          rw [wrP.m m_less]
          rw [hnN.out]
          go_wp2_with fail
          refine (HLess.out _ zk (j1) i wrP.seg hzk (by omega) (by omega)).mono ?_
          rintro e w8 ⟨rfl, qw8, hqw8⟩
          have w8P : Pile w8 p (some ⟨g, 0, none⟩) cap zk := by rw [hqw8]; exact wrP.drewN _
          have w8B : Below p w w8 := by rw [hqw8]; exact ⟨wrB.os, wrB.tape, wrB.output, wrB.size, wrB.block⟩
          clear hqw8
          rw [hs1]
          go_wp2_with fail
          rw [w8P.m m_swap]
          rw [hnN.out]
          go_wp2_with fail
          have o8 : w8.ownsRow (p + 1) 3 1 (.slice (some ⟨g, 0, none⟩) N cap) N (zk.map (Value.int .i64)) := by have := w8P.own; rwa [hzk.out] at this
          refine (HSwap.out _ zk i (j1) o8 hzk (by omega) (by omega) (by omega)).mono ?_
          rintro e w9 ⟨rfl, o9, g9⟩
          obtain ⟨w9P, w9B⟩ := pile_swapped hzk w8P (by omega) (by omega) o9 g9
          go_wp2
          go_roundw
          case rel => exact ⟨j1, swp zk i (j1), by omega, by omega, by go_num, by rw [swp_len]; exact hzk, w9P, w8B.trans w9B, (swp_perm zk i (j1) (by have := hzk.out; omega) (by have := hzk.out; omega)).trans HP.out, dn_step HD.out (by omega) KD.out (by omega) MN.out hs (fun k => swp_getD zk i (j1) k (by have := hzk.out; omega) (by have := hzk.out; omega)), fun k hk => by rw [swp_getD zk i (j1) k (by have := hzk.out; omega) (by have := hzk.out; omega), if_neg (by omega), if_neg (by omega)]; exact HU.out k hk⟩
          case measure => simp [intOf]; omega
        · have hs1 : decide (zk.getD (j1) 0 < zk.getD i 0) = false := decide_eq_false hs
          go_wp2_with fail
          rw [wrP.m m_less]
          rw [hnN.out]
          go_wp2_with fail
          refine (HLess.out _ zk (j1) i wrP.seg hzk (by omega) (by omega)).mono ?_
          rintro e w8 ⟨rfl, qw8, hqw8⟩
          have w8P : Pile w8 p (some ⟨g, 0, none⟩) cap zk := by rw [hqw8]; exact wrP.drewN _
          have w8B : Below p w w8 := by rw [hqw8]; exact ⟨wrB.os, wrB.tape, wrB.output, wrB.size, wrB.block⟩
          clear hqw8
          rw [hs1]
          go_wp2
          go_ret
          exact ⟨_, zk, rfl, hzk, w8P, w8B, HP.out, dn_stop (j := j1) HD.out MN.out (by omega), HU.out⟩
    · have h1i : (n : Int) ≤ (j1 : Int) := by omega
      go_wp2
      go_ret
      exact ⟨_, zk, rfl, hzk, wrP, wrB, HP.out, dn_leaf HD.out (by have := HJ1.out; omega), HU.out⟩
end Go.Proofs.Ytmleicaalaggkab
