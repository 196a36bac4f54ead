import Derived.Test.YtnofaodahcfldabDoorCrcFlip
namespace Go.Proofs.YtnofaodahcfldabDoor
open Go.RowKit
set_option linter.unusedVariables false
set_option linter.unusedSimpArgs false

theorem wI_bitq (a : W32) (i : Nat) : (bits .and .u32 (wI a / 2 ^ i) 1 == 1) = a.getLsbD i := by
  rw [wI_shr, show (1 : Int) = wI 1#32 from rfl, wI_and]
  have h : ((a >>> i) &&& 1#32 == 1#32) = ((a >>> i) &&& 1#32 != 0#32) := by
    have e : ((a >>> i) &&& 1#32) = BitVec.ofNat 32 ((a >>> i).toNat % 2) := by
      apply BitVec.eq_of_toNat_eq
      have : (a >>> i).toNat &&& 1 = (a >>> i).toNat % 2 := Nat.and_two_pow_sub_one_eq_mod _ 1
      simp only [BitVec.toNat_and, BitVec.toNat_ofNat]
      rw [show 1 % 2 ^ 32 = 1 from rfl, this]
      omega
    rw [e]
    rcases Nat.mod_two_eq_zero_or_one (a >>> i).toNat with h | h <;> rw [h] <;> decide
  have h2 := and_two (a >>> i) 0 (by decide)
  rw [show BitVec.twoPow 32 0 = 1#32 from rfl, ← h] at h2
  have h3 : (wI (a >>> i &&& 1#32) == wI 1#32) = (a >>> i &&& 1#32 == 1#32) := by
    rw [Bool.eq_iff_iff, beq_iff_eq, beq_iff_eq]
    exact ⟨wI_inj, fun h => by rw [h]⟩
  rw [h3, h2]
  simp

set_option maxHeartbeats 2000000 in
theorem bits_run (w : World) (a : Option Addr) (zs : List Int) (cap : Nat) (hs : Seg w a zs) (hnil : a = none → cap = 0) (hl : zs.length ≤ 140737488351232) (hpos : 0 < zs.length) (k : Int) (h0 : 0 ≤ k) (h1 : k ≤ 18446744073709551615) (x : W32) :
    Calls Tryd.prog 15 #[.slice a zs.length cap, .int .u64 k, .int .u32 (wI x)] w fun e w' => ∃ q c b, e = .returned (.tuple #[.slice q zs.length c, .bool b]) ∧ ∃ ys : List Int, ys.length = zs.length ∧ Seg w' q ys ∧ (b = true → sumW ys ≠ sumW zs) ∧ Below w.heap.size w w' := by
  have hzn : ((zs.length : Int) == 0) = false := by rw [beq_eq_false_iff_ne]; omega
  obtain ⟨F, hF⟩ := Int.eq_ofNat_of_zero_le (Int.emod_nonneg k (show (8 * (zs.length : Int)) ≠ 0 by omega))
  have hFl : F < 8 * zs.length := by
    have := Int.emod_lt_of_pos k (show (0 : Int) < 8 * (zs.length : Int) by omega)
    omega
  have bx := wI_bd x
  go_enter Tryd.func15, Tryd.ntmps15
  go_wp2_with (at_builtin; refine wpList_copy rfl (.tmp 11) 26 rfl 5 Tryd.underlying26 info_u8z hs hnil rfl (by omega) hl ?_; intro g cap' w2 hown hc2 hg hb2)
  rw [hF]
  clear hF
  go_loopw [9, 10] (fun ta ti wr => ∃ (i : Nat) (b : Bool) (ys : List Int), i ≤ 32 ∧ F + i ≤ 8 * zs.length ∧ ta = .bool b ∧ ti = .int .u64 i ∧ ys.length = zs.length ∧ (∀ z ∈ ys, 0 ≤ z ∧ z ≤ 255) ∧ sumW ys = sumW zs ^^^ onN (8 * zs.length - F) (lowk x i) ∧ (b = true → lowk x i ≠ 0#32) ∧ wr.ownsRow w.heap.size 5 1 (.slice (some ⟨g, 0, none⟩) zs.length cap') zs.length (ys.map (Value.int .u8)) ∧ Below w.heap.size w wr) (fun _ ti _ => 32 - (intOf ti).toNat)
  case atStart => exact ⟨0, false, zs, by omega, by omega, rfl, rfl, rfl, hs.mem, by simp [lowk, onN_zero], by simp, hown, hb2⟩
  case round =>
    obtain ⟨i, b, ys, hi, hFi, rfl, rfl, hyl, hyb, hsum, hne, hown2, hbw⟩ := hrel
    clear hown hb2
    have HY : Hid (ys.length = zs.length) := hyl
    have HS : Hid (sumW ys = sumW zs ^^^ onN (8 * zs.length - F) (lowk x i)) := hsum
    have HN : Hid (b = true → lowk x i ≠ 0#32) := hne
    clear hyl hsum hne
    by_cases h32 : i < 32
    · have h32' : (i : Int) < 32 := by omega
      by_cases hN : F + i < 8 * zs.length
      · have hN' : (F : Int) + (i : Int) < 8 * (zs.length : Int) := by omega
        have hbit := wI_bitq x i
        cases hg' : x.getLsbD i
        · rw [hg'] at hbit
          have HG : Hid (x.getLsbD i = false) := hg'
          clear hg'
          go_wp2
          go_roundw
          case rel => exact ⟨i + 1, b, ys, by omega, by omega, rfl, by go_num, HY.out, hyb, by rw [HS.out, lowk, HG.out]; simp, by rw [lowk, HG.out]; simpa using HN.out, hown2, hbw⟩
          case measure => simp [intOf]; omega
        · rw [hg'] at hbit
          have HG : Hid (x.getLsbD i = true) := hg'
          clear hg'
          have hJ : ((F : Int) + (i : Int)) / 8 = (((F + i) / 8 : Nat) : Int) := by omega
          have hT : ((F : Int) + (i : Int)) % 8 = (((F + i) % 8 : Nat) : Int) := by omega
          have hJl : (F + i) / 8 < zs.length := by omega
          have hJi : (((F + i) / 8 : Nat) : Int) < (zs.length : Int) := by omega
          have hT8 : (F + i) % 8 < 8 := Nat.mod_lt _ (by decide)
          have hcell := hown2.cellAt ((F + i) / 8) (by omega)
          have hfz := hown2.frozenAt ((F + i) / 8)
          have hst := hown2.stored ((F + i) / 8) (.int .u8 (bits .xor .u8 (ys.getD ((F + i) / 8) 0) (2 ^ ((F + i) % 8))))
          have egd : (ys.map (Value.int .u8))[(F + i) / 8]? = some (.int .u8 (ys.getD ((F + i) / 8) 0)) := by simp [List.getD, HY.out, hJl]
          rw [egd] at hcell
          rw [← List.map_set] at hst
          obtain ⟨hown3, hgr3⟩ := hst
          have HL : Hid (ys.set ((F + i) / 8) (bits .xor .u8 (ys.getD ((F + i) / 8) 0) (2 ^ ((F + i) % 8))) = flipL ys (F + i)) := rfl
          have HX : Hid (sumW (flipL ys (F + i)) = sumW zs ^^^ onN (8 * zs.length - F) (lowk x (i + 1))) := by
            show _ = _
            rw [flip_sum ys (F + i) hyb (by rw [HY.out]; exact hN), HS.out, HY.out, BitVec.xor_assoc, low_next x _ F i h32 hN HG.out]
          generalize hJJ : (F + i) / 8 = J at *
          generalize hTT : (F + i) % 8 = T at *
          generalize ys.getD J 0 = z at *
          clear egd hJJ hTT
          have e256 : (2 : Int) ^ T % 256 = 2 ^ T := by
            have := pow8 ⟨T, hT8⟩
            simp only at this
            exact Int.emod_eq_of_lt this.1 (by omega)
          go_wp2
          go_roundw
          case rel => exact ⟨i + 1, true, flipL ys (F + i), by omega, by omega, rfl, by go_num, by rw [flipL_len, HY.out], flipL_bd ys _ hyb, HX.out, fun _ => lowk_ne x i h32 HG.out, by rw [← HL.out]; exact hown3, hbw.trans (below_of_grown hgr3 hg hbw.size)⟩
          case measure => simp [intOf]; omega
      · have hN' : decide ((F : Int) + (i : Int) < 8 * (zs.length : Int)) = false := by simp; omega
        obtain ⟨hj1, a3, c3, hv3, q3, hj2, hj3, hj4⟩ := own_seg hown2 (M := 255) (by decide) hyb
        obtain rfl : a3 = some ⟨g, 0, none⟩ := by simp at hv3; exact hv3.1.symm
        clear hj1 hj2 hj3 hj4 hv3
        go_wp2
        go_ret2
        exact ⟨_, _, _, rfl, ys, HY.out, q3, fun hb => sum_ne HS.out (onN_ne _ (HN.out hb)), hbw⟩
    · have h32' : decide ((i : Int) < 32) = false := by simp; omega
      obtain ⟨hj1, a3, c3, hv3, q3, hj2, hj3, hj4⟩ := own_seg hown2 (M := 255) (by decide) hyb
      obtain rfl : a3 = some ⟨g, 0, none⟩ := by simp at hv3; exact hv3.1.symm
      clear hj1 hj2 hj3 hj4 hv3
      go_wp2
      go_ret2
      exact ⟨_, _, _, rfl, ys, HY.out, q3, fun hb => sum_ne HS.out (onN_ne _ (HN.out hb)), hbw⟩

set_option maxHeartbeats 1000000 in
theorem crcRuns_walk (w : World) (ht : Tab w) (a : Option Addr) (zs : List Int) (cap : Nat) (hs : Seg w a zs) (hc : zs.length ≤ cap) (hnil : a = none → cap = 0) (hl : zs.length ≤ 140737488351232) (k : Int) (h0 : 0 ≤ k) (h1 : k ≤ 18446744073709551615) (d : Int) (h2 : 0 ≤ d) (h3 : d ≤ 4294967295) :
    Calls Tryd.prog 6 #[.slice a zs.length cap, .int .u64 k, .int .u32 d] w fun e w' => e = .returned (.bool true) ∧ Below w.heap.size w w' := by
  obtain ⟨x, rfl⟩ := wI_of h2 (by omega)
  have hrun : Calls Tryd.prog 15 #[.slice a zs.length cap, .int .u64 k, .int .u32 (wI x)] w fun e w' => ∃ q c b, e = .returned (.tuple #[.slice q zs.length c, .bool b]) ∧ ∃ ys : List Int, ys.length = zs.length ∧ Seg w' q ys ∧ (b = true → sumW ys ≠ sumW zs) ∧ Below w.heap.size w w' := by
    by_cases hz : zs.length = 0
    · have hzn : ((zs.length : Int) == 0) = true := by rw [beq_iff_eq]; omega
      obtain ⟨i0, hi, hz0, hz1, hz2⟩ := info_parts info_u8z
      go_enter Tryd.func15, Tryd.ntmps15
      go_wp2_with (at_builtin; refine wpList_append_seg rfl (.const (.slice none 0 0)) (.tmp 11) 26 rfl w.heap.size 5 i0 (.int .u8 0) 1 Tryd.underlying26 hi hz0 hz1 hz2 rfl (World.ownsRow_nil _ _ _ _) hs hnil rfl rfl (by omega) (by omega) (Nat.le_refl _) ?_; intro v' w1 hown hg hb; rw [List.nil_append, Nat.zero_add] at hown; obtain ⟨hn, b, cap', rfl, hseg, hblk, hcc, hn4⟩ := own_seg hown (M := 255) (by decide) hs.mem; clear hown hg hn hblk hn4)
      go_ret2
      exact ⟨b, cap', false, by rw [hz]; rfl, zs, rfl, hseg, by simp, hb⟩
    · exact bits_run w a zs cap hs hnil hl (by omega) k h0 h1 x
  have HR : Hid (Calls Tryd.prog 15 #[.slice a zs.length cap, .int .u64 k, .int .u32 (wI x)] w fun e w' => ∃ q c b, e = .returned (.tuple #[.slice q zs.length c, .bool b]) ∧ ∃ ys : List Int, ys.length = zs.length ∧ Seg w' q ys ∧ (b = true → sumW ys ≠ sumW zs) ∧ Below w.heap.size w w') := hrun
  clear hrun
  go_enter Tryd.func6, Tryd.ntmps6
  go_wp2_with fail
  refine HR.out.mono ?_
  rintro e w1 ⟨q, c, b, rfl, ys, hyl, hq, hne, hb1⟩
  have t1 : Tab w1 := ht.old hb1
  have s1 : Seg w1 a zs := hs.old hb1
  have HY : Hid (ys.length = zs.length) := hyl
  have HN : Hid (b = true → sumW ys ≠ sumW zs) := hne
  clear hyl hne HR
  go_wp2_with fail
  refine (awake_any _ t1).mono ?_
  rintro e w2 ⟨rfl, hb2⟩
  have t2 : Tab w2 := t1.old hb2
  have s2 : Seg w2 a zs := s1.old hb2
  have q2 : Seg w2 q ys := hq.old hb2
  have b2 : Below w.heap.size w w2 := hb1.trans (hb2.mono hb1.size)
  clear hb2 hb1 t1 s1 hq
  cases b
  · go_wp2
    go_ret
    exact ⟨rfl, b2⟩
  · have hne := HN.out rfl
    have hnw : (wI (sumW ys) != wI (sumW zs)) = true := by
      rw [bne_iff_ne]
      intro e
      exact hne (wI_inj e)
    clear hne HN
    go_wp2_with fail
    refine (sum_one w2 _ _ q ys c 1 _ t2 q2 rfl HY.out.symm (by rw [HY.out]; omega)).mono ?_
    rintro e w3 ⟨rfl, hw3⟩
    have t3 : Tab w3 := by rw [hw3]; exact t2.alloc _
    have s3 : Seg w3 a zs := by rw [hw3]; exact s2.alloc _
    have b3 : Below w.heap.size w w3 := by rw [hw3]; exact balloc b2 _
    clear hw3 t2 s2 q2 b2
    go_wp2_with fail
    refine (sum_one w3 _ _ a zs cap 1 _ t3 s3 rfl rfl (by omega)).mono ?_
    rintro e w4 ⟨rfl, hw4⟩
    have b4 : Below w.heap.size w w4 := by rw [hw4]; exact balloc b3 _
    clear hw4 t3 s3 b3
    go_wp2
    go_ret
    exact ⟨rfl, b4⟩
end Go.Proofs.YtnofaodahcfldabDoor
