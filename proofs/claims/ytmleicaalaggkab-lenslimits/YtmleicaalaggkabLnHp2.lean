import Derived.Test.YtmleicaalaggkabLnHp
namespace Go.Proofs.Ytmleicaalaggkab
open Go.RowKit
set_option linter.unusedVariables false

set_option maxHeartbeats 2000000 in
theorem up_any (p g cap N j : Nat) (zs : List Int) (hzs : Hid (zs.length = N)) (hN : N ≤ 1000) (hj : j < N) (w : World) (h : Pile w p (some ⟨g, 0, none⟩) cap zs) (hh : upI (fun k => zs.getD k 0) N j) :
    Calls Try.prog 32 #[.iface 46 (.pointer (some ⟨p, 0, none⟩)), .int .i64 j] w fun e w' => e = .returned (.tuple #[]) ∧ ∃ zs', Hid (zs'.length = N) ∧ Pile w' p (some ⟨g, 0, none⟩) cap zs' ∧ Below p w w' ∧ zs'.Perm zs ∧ hp (fun k => zs'.getD k 0) N 0 := by
  have HLess : Hid (∀ W (zk : List Int) (i j : Nat), SegZ W (some ⟨g, 0, none⟩) zk → Hid (zk.length = N) → i < N → j < N → Calls Try.prog 55 #[.slice (some ⟨g, 0, none⟩) N cap, .int .i64 i, .int .i64 j] W fun e w' => e = .returned (.bool (decide (zk.getD i 0 < zk.getD j 0))) ∧ ∃ k, w' = W.drewN k) :=
    fun W zk i j hs hk hi hj => pless_any (some ⟨g, 0, none⟩) cap zk N i j hk W hs hi hj (by omega)
  have HSwap : Hid (∀ W (zk : List Int) (i j : Nat), W.ownsRow (p + 1) 3 1 (.slice (some ⟨g, 0, none⟩) N cap) N (zk.map (Value.int .i64)) → Hid (zk.length = N) → i < N → j < N → i ≠ j → Calls Try.prog 56 #[.slice (some ⟨g, 0, none⟩) N cap, .int .i64 i, .int .i64 j] W fun e w' => e = .returned (.tuple #[]) ∧ w'.ownsRow (p + 1) 3 1 (.slice (some ⟨g, 0, none⟩) N cap) N ((swp zk i j).map (Value.int .i64)) ∧ W.grownBy w' (some g)) :=
    fun W zk i j ho hk hi hj hij => pswap_any g (p + 1) cap zk N i j hk W ho hi hj hij (by omega)
  go_enter Try.func32, Try.ntmps32
  go_wp2
  go_loopw [1] (fun tj wr => ∃ (j : Nat) (zk : List Int), j < N ∧ tj = .int .i64 j ∧ Hid (zk.length = N) ∧ Pile wr p (some ⟨g, 0, none⟩) cap zk ∧ Below p w wr ∧ Hid (zk.Perm zs) ∧ Hid (upI (fun k => zk.getD k 0) N j)) (fun tj _ => (intOf tj).toNat)
  case atStart => exact ⟨j, zs, hj, rfl, hzs, h, Below.refl _ _, List.Perm.refl _, hh⟩
  case round =>
    obtain ⟨j, zk, hjN, rfl, hzk, wrP, wrB, HP, HD⟩ := hrel
    have hnN : Hid (zk.length = N) := hzk
    by_cases hj0 : j = 0
    · subst hj0
      go_wp2
      go_end0
      exact ⟨rfl, zk, hzk, wrP, wrB, HP.out, up_root HD.out⟩
    · obtain ⟨i, hi⟩ : ∃ i, i = (j - 1) / 2 := ⟨_, rfl⟩
      have r1 : ((j : Int) - 1).tdiv 2 = (i : Int) := by rw [Int.tdiv_eq_ediv_of_nonneg (by omega)]; omega
      have KD : Hid (kid i j) := by show kid _ _; unfold kid; omega
      have hij : i < j := by omega
      have hne : ¬ (i : Int) = (j : Int) := by omega
      clear hi
      by_cases hs : zk.getD j 0 < zk.getD i 0
      · have hs1 : decide (zk.getD j 0 < zk.getD i 0) = true := decide_eq_true hs
        go_wp2_with fail
        rw [wrP.m m_less]
        rw [hnN.out]
        go_wp2_with fail
        refine (HLess.out _ zk j i wrP.seg hzk (by omega) (by omega)).mono ?_
        rintro e w8 ⟨rfl, q8, hq8⟩
        have w8P : Pile w8 p (some ⟨g, 0, none⟩) cap zk := by rw [hq8]; exact wrP.drewN _
        have w8B : Below p w w8 := by rw [hq8]; exact ⟨wrB.os, wrB.tape, wrB.output, wrB.size, wrB.block⟩
        clear hq8
        rw [hs1]
        go_wp2_with fail
        rw [w8P.m m_swap]
        rw [hnN.out]
        go_wp2_with fail
        have o8 : w8.ownsRow (p + 1) 3 1 (.slice (some ⟨g, 0, none⟩) N cap) N (zk.map (Value.int .i64)) := by have := w8P.own; rwa [hzk.out] at this
        refine (HSwap.out _ zk i j o8 hzk (by omega) (by omega) (by omega)).mono ?_
        rintro e w9 ⟨rfl, o9, g9⟩
        obtain ⟨w9P, w9B⟩ := pile_swapped hzk w8P (by omega) (by omega) o9 g9
        go_wp2
        go_roundw
        case rel => exact ⟨i, swp zk i j, by omega, rfl, by rw [swp_len]; exact hzk, w9P, w8B.trans w9B, (swp_perm zk i j (by have := hzk.out; omega) (by have := hzk.out; omega)).trans HP.out, up_step HD.out KD.out hjN hs (fun k => swp_getD zk i j k (by have := hzk.out; omega) (by have := hzk.out; omega))⟩
        case measure => simp [intOf]; omega
      · have hs1 : decide (zk.getD j 0 < zk.getD i 0) = false := decide_eq_false hs
        go_wp2_with fail
        rw [wrP.m m_less]
        rw [hnN.out]
        go_wp2_with fail
        refine (HLess.out _ zk j i wrP.seg hzk (by omega) (by omega)).mono ?_
        rintro e w8 ⟨rfl, q8, hq8⟩
        have w8P : Pile w8 p (some ⟨g, 0, none⟩) cap zk := by rw [hq8]; exact wrP.drewN _
        have w8B : Below p w w8 := by rw [hq8]; exact ⟨wrB.os, wrB.tape, wrB.output, wrB.size, wrB.block⟩
        clear hq8
        rw [hs1]
        go_wp2
        go_end0
        exact ⟨rfl, zk, hzk, w8P, w8B, HP.out, up_stop (i := i) HD.out KD.out (by omega)⟩

set_option maxHeartbeats 1000000 in
theorem pswap_self (g base cap : Nat) (zs : List Int) (n i : Nat) (hn : Hid (zs.length = n)) (w : World) (ho : w.ownsRow base 3 1 (.slice (some ⟨g, 0, none⟩) n cap) n (zs.map (Value.int .i64))) (hi : i < n) (hl : n ≤ 9223372036854775807) :
    Calls Try.prog 56 #[.slice (some ⟨g, 0, none⟩) n cap, .int .i64 i, .int .i64 i] w fun e w' => e = .returned (.tuple #[]) ∧ w'.ownsRow base 3 1 (.slice (some ⟨g, 0, none⟩) n cap) n ((swp zs i i).map (Value.int .i64)) ∧ w.grownBy w' (some g) := by
  obtain ⟨x, hx⟩ : ∃ x, x = zs.getD i 0 := ⟨_, rfl⟩
  have c1 : w.cell? ⟨g, i, none⟩ = some (.int .i64 x) := by
    have := ho.cells (g := g) rfl i (.int .i64 x) (by have := hn.out; simp [hx, List.getD, show i < zs.length by omega])
    have hadd : (⟨g, 0, none⟩ : Addr).add i = ⟨g, i, none⟩ := by unfold Addr.add; split <;> simp_all
    rwa [hadd] at this
  have HS : Hid (swp zs i i = (zs.set i x).set i x) := by show _ = _; rw [hx]; rfl
  have f1 : w.frozen? ⟨g, i, none⟩ = false := by
    rcases ho.2 with ⟨h1, _⟩ | ⟨g', cap', cur, hv, _, hh, _⟩
    · cases h1
    · simp only [Value.slice.injEq, Option.some.injEq, Addr.mk.injEq] at hv
      obtain ⟨⟨rfl, _⟩, _⟩ := hv
      simp [World.frozen?, hh]
  clear hx
  go_enter Try.func56, Try.ntmps56
  go_wp2_with fail
  go_region
  go_end0
  obtain ⟨o1, g1⟩ := ho.stored i (.int .i64 x)
  rw [← List.map_set] at o1
  obtain ⟨o2, g2⟩ := o1.stored i (.int .i64 x)
  rw [← List.map_set, ← HS.out] at o2
  exact ⟨rfl, o2, grownBy_drew (grownBy_trans g1 g2)⟩

theorem take_last (zs : List Int) (n : Nat) (h : zs.length = n + 1) : (zs.getD n 0 :: zs.take n).Perm zs := by
  have : zs = zs.take n ++ [zs.getD n 0] := by
    rw [← take_snocZ (by omega)]
    rw [List.take_of_length_le (by omega)]
  exact (List.perm_append_comm (l₁ := [zs.getD n 0])).trans (by rw [← this])

set_option maxHeartbeats 2000000 in
theorem hpop_any (p g cap N : Nat) (zs : List Int) (hzs : Hid (zs.length = N + 1)) (hN : N < 1000) (hc : N + 1 ≤ cap) (w : World) (h : Pile w p (some ⟨g, 0, none⟩) cap zs) (hh : hp (fun k => zs.getD k 0) (N + 1) 0) :
    Calls Try.prog 31 #[.iface 46 (.pointer (some ⟨p, 0, none⟩))] w fun e w' => ∃ m zs', e = .returned (.iface 3 (.int .i64 m)) ∧ Hid (zs'.length = N) ∧ Pile w' p (some ⟨g, 0, none⟩) cap zs' ∧ Below p w w' ∧ (m :: zs').Perm zs ∧ (∀ z ∈ zs, m ≤ z) ∧ hp (fun k => zs'.getD k 0) N 0 := by
  have HM : Hid (∀ z ∈ zs, zs.getD 0 0 ≤ z) := by
    intro z hz
    obtain ⟨i, hi, rfl⟩ := List.mem_iff_getElem.1 hz
    have := hp_root hh i (by have := hzs.out; omega)
    simp only [List.getD, List.getElem?_eq_getElem hi, Option.getD_some] at this
    simpa [List.getD] using this
  have HSw : Hid (∀ W, W.ownsRow (p + 1) 3 1 (.slice (some ⟨g, 0, none⟩) (N + 1) cap) (N + 1) (zs.map (Value.int .i64)) → Calls Try.prog 56 #[.slice (some ⟨g, 0, none⟩) (N + 1) cap, .int .i64 0, .int .i64 N] W fun e w' => e = .returned (.tuple #[]) ∧ w'.ownsRow (p + 1) 3 1 (.slice (some ⟨g, 0, none⟩) (N + 1) cap) (N + 1) ((swp zs 0 N).map (Value.int .i64)) ∧ W.grownBy w' (some g)) := by
    intro W ho
    by_cases e : N = 0
    · subst e
      exact pswap_self g (p + 1) cap zs 1 0 hzs W ho (by omega) (by omega)
    · exact pswap_any g (p + 1) cap zs (N + 1) 0 N hzs W ho (by omega) (by omega) (by omega) (by omega)
  go_enter Try.func31, Try.ntmps31
  go_wp2_with fail
  rw [h.m m_len]
  rw [hzs.out]
  go_wp2_with fail
  refine (plen_any _ _ _ _).mono ?_
  rintro e w' ⟨rfl, hw'⟩
  subst w'
  go_wp2_with fail
  rw [h.m m_swap]
  rw [hzs.out]
  go_wp2_with fail
  have o1 : w.ownsRow (p + 1) 3 1 (.slice (some ⟨g, 0, none⟩) (N + 1) cap) (N + 1) (zs.map (Value.int .i64)) := by have := h.own; rwa [hzs.out] at this
  refine (HSw.out _ o1).mono ?_
  rintro e w2 ⟨rfl, o2, g2⟩
  obtain ⟨P2, B2⟩ := pile_swapped (j := N) hzs h (by omega) (by omega) o2 g2
  have L2 : Hid ((swp zs 0 N).length = N + 1) := by show _ = _; rw [swp_len]; exact hzs.out
  have hd1 : hp (fun k => (swp zs 0 N).getD k 0) N (0 + 1) := hp_cut (z := fun k => zs.getD k 0) (n := N + 1) (fun q c hq => hh q c (Nat.zero_le _)) (by omega) (fun k h1 h2 => by
    show (swp zs 0 N).getD k 0 = zs.getD k 0
    rw [swp_getD zs 0 N k (by have := hzs.out; omega) (by have := hzs.out; omega), if_neg (by omega), if_neg (by omega)])
  have CD := down_any p g cap (N + 1) N 0 (swp zs 0 N) L2 (by omega) (by omega) (by omega) w2 P2 hd1
  have HE : Hid ((swp zs 0 N).getD N 0 = zs.getD 0 0 ∧ (swp zs 0 N).Perm zs) := ⟨by rw [swp_getD zs 0 N N (by have := hzs.out; omega) (by have := hzs.out; omega), if_pos rfl], swp_perm zs 0 N (by have := hzs.out; omega) (by have := hzs.out; omega)⟩
  clear o1 o2 P2 hd1 HSw
  generalize swp zs 0 N = z1 at *
  go_wp2_with fail
  refine CD.mono ?_
  rintro e w3 ⟨b, z2, rfl, L3, P3, B3, pm, hd, hu⟩
  go_wp2_with fail
  rw [mtp m_pop]
  go_wp2_with fail
  refine (ppop_any p g cap z2 N L3 _ P3 (by omega) hc).mono ?_
  rintro e w4 ⟨rfl, P4, B4⟩
  have hm : z2.getD N 0 = zs.getD 0 0 := by rw [hu N (by omega)]; exact HE.out.1
  go_wp2
  go_ret
  refine ⟨z2.getD N 0, z2.take N, rfl, by have := L3.out; show _ = _; simp; omega, P4, (B2.trans B3).trans B4, (take_last z2 N L3.out).trans (pm.trans HE.out.2), by rw [hm]; exact HM.out, ?_⟩
  exact hp_cut hd (Nat.le_refl _) (fun k _ hk => by simp [List.getD, hk])

set_option maxHeartbeats 2000000 in
theorem hpush_any (p cap N : Nat) (a : Option Addr) (x : Int) (zs : List Int) (hzs : Hid (zs.length = N)) (hN : N < 1000) (w : World) (h : Pile w p a cap zs) (hx : 0 ≤ x ∧ x ≤ 4611686018427387904) (hh : hp (fun k => zs.getD k 0) N 0) :
    Calls Try.prog 27 #[.iface 46 (.pointer (some ⟨p, 0, none⟩)), .iface 3 (.int .i64 x)] w fun e w' => e = .returned (.tuple #[]) ∧ ∃ g' cap' zs', Hid (zs'.length = N + 1) ∧ Pile w' p (some ⟨g', 0, none⟩) cap' zs' ∧ Below p w w' ∧ zs'.Perm (x :: zs) ∧ hp (fun k => zs'.getD k 0) (N + 1) 0 := by
  go_enter Try.func27, Try.ntmps27
  go_wp2_with fail
  rw [mtp m_push]
  go_wp2_with fail
  refine (ppush_any p cap a zs N x hzs _ h (by omega) hx).mono ?_
  rintro e w1 ⟨rfl, g1, c1, P1, B1⟩
  have L1 : Hid ((zs ++ [x]).length = N + 1) := by have := hzs.out; show _ = _; simp; omega
  have hu : upI (fun k => (zs ++ [x]).getD k 0) (N + 1) N := up_start hh (fun k hk => by
    have : k < zs.length := by have := hzs.out; omega
    simp [List.getD, this, List.getElem?_append_left this])
  have HPm : Hid ((zs ++ [x]).Perm (x :: zs)) := List.perm_append_comm
  have CU := up_any p g1 c1 (N + 1) N (zs ++ [x]) L1 (by omega) (by omega) w1 P1 hu
  clear hu
  generalize zs ++ [x] = z1 at *
  go_wp2_with fail
  rw [P1.m m_len]
  rw [L1.out]
  go_wp2_with fail
  refine (plen_any _ _ _ _).mono ?_
  rintro e w' ⟨rfl, hw'⟩
  subst w'
  go_wp2_with fail
  refine CU.mono ?_
  rintro e w2 ⟨rfl, z2, L2, P2, B2, pm, hd⟩
  go_wp2
  go_end0
  exact ⟨rfl, g1, c1, z2, L2, P2, B1.trans B2, pm.trans HPm.out, hd⟩

end Go.Proofs.Ytmleicaalaggkab
