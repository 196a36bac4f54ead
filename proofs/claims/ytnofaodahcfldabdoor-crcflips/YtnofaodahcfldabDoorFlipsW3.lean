import Derived.Test.YtnofaodahcfldabDoorFlipsW2
namespace Go.Proofs.YtnofaodahcfldabDoor
open Go.RowKit
set_option linter.unusedVariables false
set_option linter.unusedSimpArgs false

theorem seg_three (w : World) (a b c : Int) (t : TypeId) (ha : 0 ≤ a ∧ a ≤ 18446744073709551615) (hb : 0 ≤ b ∧ b ≤ 18446744073709551615) (hc : 0 ≤ c ∧ c ≤ 18446744073709551615) :
    SegK .u64 18446744073709551615 (w.alloc (.cells #[.int .u64 a, .int .u64 b, .int .u64 c] t)) (some ⟨w.heap.size, 0, none⟩) [a, b, c] := by
  refine ⟨fun i hi => ⟨w.heap.size, 0, rfl, ?_⟩, by decide, getD_bd (by decide) (by intro z hz; simp at hz; rcases hz with rfl | rfl | rfl <;> assumption)⟩
  simp only [List.length_cons, List.length_nil] at hi
  rw [Nat.zero_add, World.cell?_alloc_mark]
  match i, hi with
  | 0, _ => rfl
  | 1, _ => rfl
  | 2, _ => rfl

set_option maxHeartbeats 2000000 in
theorem crcFlips_walk (w : World) (ht : Tab w) (a : Option Addr) (zs : List Int) (cap : Nat) (hs : Seg w a zs) (hc : zs.length ≤ cap) (hnil : a = none → cap = 0) (hl : zs.length ≤ 140737488351232)
    (u0 : Int) (h0 : 0 ≤ u0) (h0' : u0 ≤ 18446744073709551615) (u1 : Int) (h1 : 0 ≤ u1) (h1' : u1 ≤ 18446744073709551615) (u2 : Int) (h2 : 0 ≤ u2) (h2' : u2 ≤ 18446744073709551615) :
    Calls Tryd.prog 4 #[.slice a zs.length cap, .agg #[.int .u64 u0, .int .u64 u1, .int .u64 u2]] w fun e w' => e = .returned (.bool true) ∧ Below w.heap.size w w' := by
  have hu := seg_three w u0 u1 u2 29 ⟨h0, h0'⟩ ⟨h1, h1'⟩ ⟨h2, h2'⟩
  have b0 : Below w.heap.size w (w.alloc (.cells #[.int .u64 u0, .int .u64 u1, .int .u64 u2] 29)) := (Below.refl _ _).alloc (Nat.le_refl _) _
  go_enter Tryd.func4, Tryd.ntmps4
  go_wp2_with fail
  refine (awake_any _ (ht.alloc _)).mono ?_
  rintro e w1 ⟨rfl, hb1⟩
  have t1 : Tab w1 := (ht.alloc _).old hb1
  have s1 : Seg w1 a zs := (hs.alloc _).old hb1
  have v1 := hu.old hb1
  have b1 : Below w.heap.size w w1 := b0.trans (hb1.mono b0.size)
  clear hb1 hu b0 ht hs
  go_wp2_with fail
  refine (sum_one w1 _ _ a zs cap 1 _ t1 s1 rfl rfl (by omega)).mono ?_
  rintro e w2 ⟨rfl, hw2⟩
  have t2 : Tab w2 := by rw [hw2]; exact t1.alloc _
  have s2 : Seg w2 a zs := by rw [hw2]; exact s1.alloc _
  have v2 : SegK .u64 18446744073709551615 w2 (some ⟨w.heap.size, 0, none⟩) [u0, u1, u2] := by rw [hw2]; exact v1.alloc _
  have b2 : Below w.heap.size w w2 := by rw [hw2]; exact balloc b1 _
  clear hw2 t1 s1 v1 b1
  go_wp2
  go_loopw [6] (fun tk wr => ∃ k : Nat, 1 ≤ k ∧ k ≤ 4 ∧ tk = .int .i64 k ∧ Below w2.heap.size w2 wr) (fun tk _ => 4 - (intOf tk).toNat)
  case atStart => exact ⟨1, by omega, by omega, rfl, Below.refl _ _⟩
  case round =>
    obtain ⟨k, hk1, hk4, rfl, hbr⟩ := hrel
    have tr : Tab wr := t2.old hbr
    have sr : Seg wr a zs := s2.old hbr
    have vr := v2.old hbr
    have bw : Below w.heap.size w wr := b2.trans (hbr.mono b2.size)
    by_cases hk3 : k ≤ 3
    · have hk3' : (k : Int) ≤ 3 := by omega
      have hk0 : (0 : Int) ≤ (k : Int) := by omega
      have hul : ([u0, u1, u2].take k).length = k := by simp; omega
      have hf := flipped_any wr a zs cap sr hnil hl w.heap.size 3 ([u0, u1, u2].take k) (vr.take k) (by rw [hul]; exact hk3)
      rw [hul] at hf
      clear hul
      go_wp2_with fail
      refine hf.mono ?_
      rintro e w3 ⟨q, c, js, rfl, ys, hyl, hq, hnd, hjl, hjk, hsum, hb3⟩
      have t3 : Tab w3 := tr.old hb3
      have br3 : Below w2.heap.size w2 w3 := hbr.trans (hb3.mono hbr.size)
      have HY : Hid (ys.length = zs.length) := hyl
      have HK : Hid ((1 ≤ js.length) → (js.length < 3 → zs.length ≤ 268435456) → (js.length = 3 → zs.length ≤ 11454) → (wI (sumW ys) == wI (sumW zs)) = false) := by
        intro a1 a2 a3
        rw [beq_eq_false_iff_ne]
        intro e
        have hne := bitsX_ne (N := 8 * zs.length) hnd hjl a1 (by omega) (fun h => by have := a2 h; omega) (fun h => by have := a3 h; omega)
        exact sum_ne hsum hne (wI_inj e)
      have hj3 : js.length ≤ 3 := by omega
      clear hyl hnd hjl hjk hsum hb3 hf tr sr vr bw hbr
      generalize js.length = n at *
      obtain rfl | rfl | rfl | rfl : n = 0 ∨ n = 1 ∨ n = 2 ∨ n = 3 := by omega
      · go_wp2
        go_roundw
        case rel => exact ⟨k + 1, by omega, by omega, by go_num, br3⟩
        case measure => simp [intOf]; omega
      · by_cases hbig : (268435456 : Int) < (zs.length : Int)
        · go_wp2
          go_roundw
          case rel => exact ⟨k + 1, by omega, by omega, by go_num, br3⟩
          case measure => simp [intOf]; omega
        · have hbig' : decide ((268435456 : Int) < (zs.length : Int)) = false := by simp; omega
          have hne := HK.out (by omega) (by intro _; omega) (by intro h; omega)
          go_wp2_with fail
          refine (sum_one w3 _ _ q ys c 1 _ t3 hq rfl HY.out.symm (by rw [HY.out]; omega)).mono ?_
          rintro e w4 ⟨rfl, hw4⟩
          have br4 : Below w2.heap.size w2 w4 := by rw [hw4]; exact br3.alloc br3.size _
          clear hw4 br3 t3 hq
          go_wp2
          go_roundw
          case rel => exact ⟨k + 1, by omega, by omega, by go_num, br4⟩
          case measure => simp [intOf]; omega
      · by_cases hbig : (268435456 : Int) < (zs.length : Int)
        · go_wp2
          go_roundw
          case rel => exact ⟨k + 1, by omega, by omega, by go_num, br3⟩
          case measure => simp [intOf]; omega
        · have hbig' : decide ((268435456 : Int) < (zs.length : Int)) = false := by simp; omega
          have hne := HK.out (by omega) (by intro _; omega) (by intro h; omega)
          go_wp2_with fail
          refine (sum_one w3 _ _ q ys c 1 _ t3 hq rfl HY.out.symm (by rw [HY.out]; omega)).mono ?_
          rintro e w4 ⟨rfl, hw4⟩
          have br4 : Below w2.heap.size w2 w4 := by rw [hw4]; exact br3.alloc br3.size _
          clear hw4 br3 t3 hq
          go_wp2
          go_roundw
          case rel => exact ⟨k + 1, by omega, by omega, by go_num, br4⟩
          case measure => simp [intOf]; omega
      · by_cases hbig : (11454 : Int) < (zs.length : Int)
        · go_wp2
          go_roundw
          case rel => exact ⟨k + 1, by omega, by omega, by go_num, br3⟩
          case measure => simp [intOf]; omega
        · have hbig' : decide ((11454 : Int) < (zs.length : Int)) = false := by simp; omega
          have hne := HK.out (by omega) (by intro h; omega) (by intro _; omega)
          go_wp2_with fail
          refine (sum_one w3 _ _ q ys c 1 _ t3 hq rfl HY.out.symm (by rw [HY.out]; omega)).mono ?_
          rintro e w4 ⟨rfl, hw4⟩
          have br4 : Below w2.heap.size w2 w4 := by rw [hw4]; exact br3.alloc br3.size _
          clear hw4 br3 t3 hq
          go_wp2
          go_roundw
          case rel => exact ⟨k + 1, by omega, by omega, by go_num, br4⟩
          case measure => simp [intOf]; omega
    · have hk3' : decide ((k : Int) ≤ 3) = false := by simp; omega
      go_wp2
      go_ret
      exact ⟨rfl, bw⟩
end Go.Proofs.YtnofaodahcfldabDoor
