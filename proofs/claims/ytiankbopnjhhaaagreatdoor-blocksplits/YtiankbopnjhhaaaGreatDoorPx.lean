import Derived.Test.YtiankbopnjhhaaaGreatDoorPw
import Derived.Test.YtiankbopnjhhaaaGreatDoorPu
import Derived.Lib.SlBytesConst
import Derived.Test.YtiankbopnjhhaaaGreatDoorPa
import Derived.WalkKit
import Derived.ProofKit
import Derived.OpenShut
import Derived.SizedLaws
import Derived.Test.YtiankbopnjhhaaaGreatDoorRows
import Derived.Deep.DeepHandedRow
import Derived.Lib.LaidTab
import Derived.LaidSub
namespace Go.Proofs.YtiankbopnjhhaaaGreatDoor
open Go.RowKit
set_option linter.unusedVariables false

/-! The law's lives. -/
def livM9 : List Bool := bN 3 3 ++ (tkb9 plnL9 [⟨97, 0, 0⟩] ++ putB plnL9 256)
set_option maxRecDepth 100000 in
theorem livM9_is : toB livM9 = [75, 4, 0] ∧ livM9.length = 18 := ⟨by kernel_rfl, by kernel_rfl⟩
theorem livT9 : (tal9 [⟨97, 0, 0⟩]).getD 0 0 = 1 := by kernel_rfl
set_option maxRecDepth 100000 in
set_option maxHeartbeats 4000000 in
theorem plives9 (w : World) :
    Calls Tryz.prog 16 #[] w fun e w' => e = .returned (.bool true) ∧ Below w.heap.size w w' := by
  have hz1 : (w.alloc (.cells #[.slice none 0 0, .int .u64 0, .int .i64 0] 64)).heap.size = w.heap.size + 1 := by simp
  have hcv : (convert 59 59 (.slice (some ⟨w.heap.size + 1, 0, none⟩) 1 1)).run Tryz.prog ((w.alloc (.cells #[.slice none 0 0, .int .u64 0, .int .i64 0] 64)).alloc (.cells #[.int .u8 97] 5)) = .ok (.slice (some ⟨w.heap.size + 1, 0, none⟩) 1 1) ((w.alloc (.cells #[.slice none 0 0, .int .u64 0, .int .i64 0] 64)).alloc (.cells #[.int .u8 97] 5 (1, 2))) := by
    have := Lib.run_convert_bytes_const (P := Tryz.prog) (w.alloc (.cells #[.slice none 0 0, .int .u64 0, .int .i64 0] 64)) 59 5 #[.int .u8 97] 1 1 Tryz.underlying59 Tryz.underlying5
    rw [hz1] at this
    exact this
  clear hz1
  go_enter Tryz.func16, Tryz.ntmps16
  go_wp2_with fail
  obtain ⟨W, hW⟩ : ∃ W, W = (((w.alloc (.cells #[.slice none 0 0, .int .u64 0, .int .i64 0] 64)).alloc (.cells #[.int .u8 97] 5 (1, 2))).alloc (.cells #[.int .u8 97, .int .i64 0, .int .i64 0] 97)) := ⟨_, rfl⟩
  rw [← hW]
  have g0 : W.heap[w.heap.size]? = some (.cells #[.slice none 0 0, .int .u64 0, .int .i64 0] 64 (0, 0)) := by
    rw [hW, heap_alloc_old _ _ (by simp; omega), heap_alloc_old _ _ (by simp)]
    exact heap_alloc_new _ _
  have g2 : W.heap[w.heap.size + 1 + 1]? = some (.cells #[.int .u8 97, .int .i64 0, .int .i64 0] 97 (0, 0)) := by
    have := heap_alloc_new ((w.alloc (.cells #[.slice none 0 0, .int .u64 0, .int .i64 0] 64)).alloc (.cells #[.int .u8 97] 5 (1, 2))) (.cells #[.int .u8 97, .int .i64 0, .int .i64 0] 97)
    rw [show ((w.alloc (.cells #[.slice none 0 0, .int .u64 0, .int .i64 0] 64)).alloc (.cells #[.int .u8 97] 5 (1, 2))).heap.size = w.heap.size + 1 + 1 by simp, ← hW] at this
    exact this
  have BW : Below w.heap.size w W := by
    rw [hW]
    exact ((below_box8 w _).trans ((below_box8 _ _).mono (by simp))).trans ((below_box8 _ _).mono (by simp; omega))
  have hWs : W.heap.size = w.heap.size + 3 := by rw [hW]; simp
  have sg : SegT W (some ⟨w.heap.size + 1 + 1, 0, none⟩) [⟨97, 0, 0⟩] := by
    refine ⟨fun j hj => ?_, fun t ht => by rw [List.mem_singleton.1 ht]; exact ⟨by decide, by decide, by decide⟩⟩
    have hj0 : j = 0 := by simpa using hj
    subst hj0
    exact ⟨_, _, rfl, ⟨(cell_of_row W _ 0 _ _ _ g2).trans rfl, (cell_of_row W _ 1 _ _ _ g2).trans rfl, (cell_of_row W _ 2 _ _ _ g2).trans rfl⟩⟩
  have WL : WrL W w.heap.size (w.heap.size + 3) (.slice none 0 0) [] := WrL.new g0 (by omega)
  have CW := pwr9_lit w.heap.size (w.heap.size + 3) [⟨97, 0, 0⟩] (some ⟨w.heap.size + 1 + 1, 0, none⟩) 1 1 rfl (some ⟨w.heap.size + 1, 0, none⟩) 1 1 W WL sg (by omega) (fun t ht => by rw [List.mem_singleton.1 ht]) (fun t ht => by rw [List.mem_singleton.1 ht]; decide) livT9 (by decide) (fun g o e _ => by cases e; omega)
  clear hW g0 g2 sg WL hcv
  refine CW.mono ?_
  rintro e w1 ⟨rfl, ⟨v1, WL1⟩, k1⟩
  have WL1 : WrL w1 w.heap.size (w.heap.size + 3) v1 livM9 := WL1
  have B1 : Below w.heap.size w w1 := BW.trans (k1.below (fun k e => by omega) BW.size)
  have CB := bytes_any w.heap.size (w.heap.size + 3) v1 livM9 w1 WL1 (by rw [livM9_is.2]; omega)
  have HWL : Hid (WrL w1 w.heap.size (w.heap.size + 3) v1 livM9) := WL1
  rw [livM9_is.1] at CB
  clear CW k1 WL1 BW
  go_wp2_with fail
  refine CB.mono ?_
  rintro e w2 ⟨a2, c2, rfl, o2, b2⟩
  obtain ⟨_, a3, cp, hv, s2, _⟩ := own_seg (M := 255) o2 (by omega) (by intro z hz; simp at hz; omega)
  injection hv with hv1 hv2 hv3
  rw [← hv1] at s2
  have B2 : Below w.heap.size w w2 := B1.trans (b2.mono B1.size)
  have s3 : Seg (w2.alloc (.cells #[.int .u8 75, .int .u8 4, .int .u8 0] 5)) (some ⟨w2.heap.size, 0, none⟩) [75, 4, 0] := by
    refine ⟨fun i hi => ⟨w2.heap.size, 0, rfl, ?_⟩, by decide, getD_bd (by decide) (by intro z hz; simp at hz; omega)⟩
    simp only [List.length_cons, List.length_nil] at hi
    rw [Nat.zero_add, World.cell?_alloc_mark]
    match i, hi with
    | 0, _ => rfl
    | 1, _ => rfl
    | 2, _ => rfl
  have b3 := below_box8 w2 (.cells #[.int .u8 75, .int .u8 4, .int .u8 0] 5)
  have CS := bsame_any a2 (some ⟨w2.heap.size, 0, none⟩) [75, 4, 0] [75, 4, 0] c2 3 _ (s2.old b3) s3
  rw [show (([75, 4, 0] : List Int) == [75, 4, 0]) = true by decide] at CS
  have HL2 : Hid (WrL (w2.alloc (.cells #[.int .u8 75, .int .u8 4, .int .u8 0] 5)) w.heap.size (w.heap.size + 3) v1 livM9) := (HWL.out.below8 b2).below8 b3
  have B3 : Below w.heap.size w (w2.alloc (.cells #[.int .u8 75, .int .u8 4, .int .u8 0] 5)) := B2.trans (b3.mono B2.size)
  clear CB o2 b2 b3 s2 s3 hv1 hv2 hv3 HWL B1
  go_wp2_with fail
  generalize w2.alloc (.cells #[.int .u8 75, .int .u8 4, .int .u8 0] 5) = w3 at *
  refine CS.mono ?_
  rintro e w3' ⟨rfl, hw3⟩
  rw [hw3]
  have CL := len_any w.heap.size (w.heap.size + 3) v1 livM9 w3 HL2.out (by rw [livM9_is.2]; omega)
  rw [livM9_is.2] at CL
  clear CS hw3 w3' HL2
  go_wp2_with fail
  refine CL.mono ?_
  rintro e w4 ⟨rfl, b4⟩
  clear CL
  go_wp2_with fail
  go_ret
  exact ⟨rfl, B3.trans (b4.mono B3.size)⟩
end Go.Proofs.YtiankbopnjhhaaaGreatDoor

namespace Go.Proofs.YtiankbopnjhhaaaGreatDoor
open Go.RowKit
set_option linter.unusedVariables false

/-! BlockSplits. -/
set_option maxRecDepth 100000 in
theorem wide_ln9 : ∀ i : Fin 28, lnS9.getD ((i.val + 1) * 2) 0 - lnS9.getD (i.val * 2) 0 ≤ 2 ^ (lnS9.getD (i.val * 2 + 1) 0).toNat := by decide
set_option maxRecDepth 100000 in
theorem wide_ds9 : ∀ i : Fin 29, dsS9.getD ((i.val + 1) * 2) 0 - dsS9.getD (i.val * 2) 0 ≤ 2 ^ (dsS9.getD (i.val * 2 + 1) 0).toNat := by decide
theorem ln_in9 {x : Int} {i : Nat} (hx : x ≤ 258) (hi : i < 29) (h1 : lnS9.getD (i * 2) 0 ≤ x) (h2 : ∀ k, i < k → k < 29 → x < lnS9.getD (k * 2) 0) : x - lnS9.getD (i * 2) 0 < 2 ^ (lnS9.getD (i * 2 + 1) 0).toNat := by
  by_cases h : i < 28
  · have := wide_ln9 ⟨i, h⟩
    have h3 := h2 (i + 1) (by omega) (by omega)
    simp only at this
    omega
  · obtain rfl : i = 28 := by omega
    have e1 : lnS9.getD (28 * 2) 0 = 258 := by decide
    have e2 : lnS9.getD (28 * 2 + 1) 0 = 0 := by decide
    rw [e1, e2]
    simp
    omega
theorem ds_in9 {x : Int} {i : Nat} (hx : x ≤ 32768) (hi : i < 30) (h1 : dsS9.getD (i * 2) 0 ≤ x) (h2 : ∀ k, i < k → k < 30 → x < dsS9.getD (k * 2) 0) : x - dsS9.getD (i * 2) 0 < 2 ^ (dsS9.getD (i * 2 + 1) 0).toNat := by
  by_cases h : i < 29
  · have := wide_ds9 ⟨i, h⟩
    have h3 := h2 (i + 1) (by omega) (by omega)
    simp only at this
    omega
  · obtain rfl : i = 29 := by omega
    have e1 : dsS9.getD (29 * 2) 0 = 24577 := by decide
    have e2 : dsS9.getD (29 * 2 + 1) 0 = 13 := by decide
    rw [e1, e2]
    have : (2 : Int) ^ (13 : Int).toNat = 8192 := by decide
    omega
theorem shl9 (M : Fin 14) : wrap64 (2 ^ M.val) = 2 ^ M.val := by
  have h : (2 : Nat) ^ M.val ≤ 2 ^ 13 := Nat.pow_le_pow_right (by omega) (by have := M.isLt; omega)
  have e : ((2 : Int) ^ M.val) = ((2 ^ M.val : Nat) : Int) := by norm_cast
  have h13 : (2 : Nat) ^ 13 = 8192 := rfl
  rw [e]
  generalize (2 : Nat) ^ M.val = p at h
  unfold wrap64
  omega
set_option maxRecDepth 100000 in
set_option maxHeartbeats 8000000 in
theorem blockSplits_walk (w : World) (tab : TabS w ∧ TabO w) (n : Int) (hn : -9223372036854775808 ≤ n) (hn2 : n ≤ 9223372036854775807) (d : Int) (hd : -9223372036854775808 ≤ d) (hd2 : d ≤ 9223372036854775807) :
    Calls Tryz.prog 4 #[.int .i64 n, .int .i64 d] w fun e w' => e = .returned (.bool true) ∧ Below w.heap.size w w' := by
  by_cases h1 : 3 ≤ n ∧ n ≤ 258
  · have j1 := h1.1
    have j2 := h1.2
    go_enter Tryz.func4, Tryz.ntmps4
    go_wp2_with fail
    refine (plsy9_ok n j1 j2 w).mono ?_
    rintro e w1 ⟨i, hi, s1, s2, rfl, b1⟩
    have hv := ln_in9 j2 hi s1 s2
    have bl := bd_plsy9 ⟨i, hi⟩
    simp only at bl
    have CO := plof9_ok (257 + (i : Int)) i (by omega) hi w1
    generalize lnS9.getD (i * 2) 0 = z0 at *
    generalize lnS9.getD (i * 2 + 1) 0 = m at *
    obtain ⟨M, rfl⟩ : ∃ M : Nat, m = (M : Int) := ⟨m.toNat, by omega⟩
    rw [Int.toNat_natCast] at hv
    obtain ⟨Q, hQ⟩ : ∃ Q : Int, wrap64 (2 ^ M) = Q := ⟨_, rfl⟩
    rw [← (shl9 ⟨M, by omega⟩), hQ] at hv
    have e1 : z0 + (n - z0) = n := by omega
    have f1 : 0 ≤ n - z0 := by omega
    have g1 : 257 + (i : Int) ≤ 285 := by omega
    have g2 : 257 ≤ 257 + (i : Int) := by omega
    clear s2
    go_wp2_with fail
    refine CO.mono ?_
    rintro e w2 ⟨rfl, b2⟩
    have B2 : Below w.heap.size w w2 := b1.trans (b2.mono b1.size)
    clear CO b1 b2
    go_wp2_with fail
    clear e1 f1 g1 g2 hv bl hQ s1 j1 j2
    by_cases h2 : 1 ≤ d ∧ d ≤ 32768
    · have k1 := h2.1
      have k2 := h2.2
      refine (pdsy9_ok d k1 k2 w2).mono ?_
      rintro e w3 ⟨j, hj, t1, t2, rfl, b3⟩
      have hv3 := ds_in9 k2 hj t1 t2
      have bl3 := bd_pdsy9 ⟨j, hj⟩
      simp only at bl3
      have CO := pdof9_ok (j : Int) j rfl hj w3
      generalize dsS9.getD (j * 2) 0 = z3 at *
      generalize dsS9.getD (j * 2 + 1) 0 = m3 at *
      obtain ⟨M3, rfl⟩ : ∃ M : Nat, m3 = (M : Int) := ⟨m3.toNat, by omega⟩
      rw [Int.toNat_natCast] at hv3
      obtain ⟨Q3, hQ3⟩ : ∃ Q : Int, wrap64 (2 ^ M3) = Q := ⟨_, rfl⟩
      rw [← (shl9 ⟨M3, by omega⟩), hQ3] at hv3
      have e3 : z3 + (d - z3) = d := by omega
      have f3 : 0 ≤ d - z3 := by omega
      have g3 : (j : Int) ≤ 29 := by omega
      clear t2
      go_wp2_with fail
      refine CO.mono ?_
      rintro e w4 ⟨rfl, b4⟩
      have B4 : Below w.heap.size w w4 := (B2.trans (b3.mono B2.size)).trans (b4.mono (by have := B2.size; have := b3.size; omega))
      clear CO b3 b4
      go_wp2_with fail
      refine (plives9 w4).mono ?_
      rintro e w5 ⟨rfl, b5⟩
      go_wp2_with fail
      go_ret
      exact ⟨rfl, B4.trans (b5.mono B4.size)⟩
    · refine (pdsy9_no d (by omega) w2).mono ?_
      rintro e w3 ⟨rfl, hw3⟩
      rw [hw3]
      clear hw3 w3
      by_cases k1 : 1 ≤ d
      · have k2 : ¬ d ≤ 32768 := by omega
        go_wp2_with fail
        refine (plives9 w2).mono ?_
        rintro e w5 ⟨rfl, b5⟩
        go_wp2_with fail
        go_ret
        exact ⟨rfl, B2.trans (b5.mono B2.size)⟩
      · go_wp2_with fail
        refine (plives9 w2).mono ?_
        rintro e w5 ⟨rfl, b5⟩
        go_wp2_with fail
        go_ret
        exact ⟨rfl, B2.trans (b5.mono B2.size)⟩
  · by_cases j1 : 3 ≤ n
    · have j2 : ¬ n ≤ 258 := by omega
      go_enter Tryz.func4, Tryz.ntmps4
      go_wp2_with fail
      refine (plsy9_no n (by omega) w).mono ?_
      rintro e w2 ⟨rfl, hw2⟩
      have B2 : Below w.heap.size w w2 := by rw [hw2]; exact Below.refl _ _
      clear hw2
      go_wp2_with fail
      by_cases h2 : 1 ≤ d ∧ d ≤ 32768
      · have k1 := h2.1
        have k2 := h2.2
        refine (pdsy9_ok d k1 k2 w2).mono ?_
        rintro e w3 ⟨j, hj, t1, t2, rfl, b3⟩
        have hv3 := ds_in9 k2 hj t1 t2
        have bl3 := bd_pdsy9 ⟨j, hj⟩
        simp only at bl3
        have CO := pdof9_ok (j : Int) j rfl hj w3
        generalize dsS9.getD (j * 2) 0 = z3 at *
        generalize dsS9.getD (j * 2 + 1) 0 = m3 at *
        obtain ⟨M3, rfl⟩ : ∃ M : Nat, m3 = (M : Int) := ⟨m3.toNat, by omega⟩
        rw [Int.toNat_natCast] at hv3
        obtain ⟨Q3, hQ3⟩ : ∃ Q : Int, wrap64 (2 ^ M3) = Q := ⟨_, rfl⟩
        rw [← (shl9 ⟨M3, by omega⟩), hQ3] at hv3
        have e3 : z3 + (d - z3) = d := by omega
        have f3 : 0 ≤ d - z3 := by omega
        have g3 : (j : Int) ≤ 29 := by omega
        clear t2
        go_wp2_with fail
        refine CO.mono ?_
        rintro e w4 ⟨rfl, b4⟩
        have B4 : Below w.heap.size w w4 := (B2.trans (b3.mono B2.size)).trans (b4.mono (by have := B2.size; have := b3.size; omega))
        clear CO b3 b4
        go_wp2_with fail
        refine (plives9 w4).mono ?_
        rintro e w5 ⟨rfl, b5⟩
        go_wp2_with fail
        go_ret
        exact ⟨rfl, B4.trans (b5.mono B4.size)⟩
      · refine (pdsy9_no d (by omega) w2).mono ?_
        rintro e w3 ⟨rfl, hw3⟩
        rw [hw3]
        clear hw3 w3
        by_cases k1 : 1 ≤ d
        · have k2 : ¬ d ≤ 32768 := by omega
          go_wp2_with fail
          refine (plives9 w2).mono ?_
          rintro e w5 ⟨rfl, b5⟩
          go_wp2_with fail
          go_ret
          exact ⟨rfl, B2.trans (b5.mono B2.size)⟩
        · go_wp2_with fail
          refine (plives9 w2).mono ?_
          rintro e w5 ⟨rfl, b5⟩
          go_wp2_with fail
          go_ret
          exact ⟨rfl, B2.trans (b5.mono B2.size)⟩
    · go_enter Tryz.func4, Tryz.ntmps4
      go_wp2_with fail
      refine (plsy9_no n (by omega) w).mono ?_
      rintro e w2 ⟨rfl, hw2⟩
      have B2 : Below w.heap.size w w2 := by rw [hw2]; exact Below.refl _ _
      clear hw2
      go_wp2_with fail
      by_cases h2 : 1 ≤ d ∧ d ≤ 32768
      · have k1 := h2.1
        have k2 := h2.2
        refine (pdsy9_ok d k1 k2 w2).mono ?_
        rintro e w3 ⟨j, hj, t1, t2, rfl, b3⟩
        have hv3 := ds_in9 k2 hj t1 t2
        have bl3 := bd_pdsy9 ⟨j, hj⟩
        simp only at bl3
        have CO := pdof9_ok (j : Int) j rfl hj w3
        generalize dsS9.getD (j * 2) 0 = z3 at *
        generalize dsS9.getD (j * 2 + 1) 0 = m3 at *
        obtain ⟨M3, rfl⟩ : ∃ M : Nat, m3 = (M : Int) := ⟨m3.toNat, by omega⟩
        rw [Int.toNat_natCast] at hv3
        obtain ⟨Q3, hQ3⟩ : ∃ Q : Int, wrap64 (2 ^ M3) = Q := ⟨_, rfl⟩
        rw [← (shl9 ⟨M3, by omega⟩), hQ3] at hv3
        have e3 : z3 + (d - z3) = d := by omega
        have f3 : 0 ≤ d - z3 := by omega
        have g3 : (j : Int) ≤ 29 := by omega
        clear t2
        go_wp2_with fail
        refine CO.mono ?_
        rintro e w4 ⟨rfl, b4⟩
        have B4 : Below w.heap.size w w4 := (B2.trans (b3.mono B2.size)).trans (b4.mono (by have := B2.size; have := b3.size; omega))
        clear CO b3 b4
        go_wp2_with fail
        refine (plives9 w4).mono ?_
        rintro e w5 ⟨rfl, b5⟩
        go_wp2_with fail
        go_ret
        exact ⟨rfl, B4.trans (b5.mono B4.size)⟩
      · refine (pdsy9_no d (by omega) w2).mono ?_
        rintro e w3 ⟨rfl, hw3⟩
        rw [hw3]
        clear hw3 w3
        by_cases k1 : 1 ≤ d
        · have k2 : ¬ d ≤ 32768 := by omega
          go_wp2_with fail
          refine (plives9 w2).mono ?_
          rintro e w5 ⟨rfl, b5⟩
          go_wp2_with fail
          go_ret
          exact ⟨rfl, B2.trans (b5.mono B2.size)⟩
        · go_wp2_with fail
          refine (plives9 w2).mono ?_
          rintro e w5 ⟨rfl, b5⟩
          go_wp2_with fail
          go_ret
          exact ⟨rfl, B2.trans (b5.mono B2.size)⟩
end Go.Proofs.YtiankbopnjhhaaaGreatDoor

namespace Go.Proofs.YtiankbopnjhhaaaGreatDoor
open Go.ChangeShapes Go.WideShapes Go.ChangeAt Go.RowKit
set_option linter.unusedVariables false

/-- A slice of whole numbers that came in: what lies there, and how it was read. -/
theorem open_seg {H : Type} {enc : TypeId × Value → H} {P : Program} {W : World} {T e : TypeId} {k : IntKind} {M : Int} {a : Option Addr} {len cap : Nat} {d : DataW H} {p : List MemPlace}
    (hT : P.underlying T = some (.slice e)) (he : P.underlying e = some (.int k)) (hc : P.cellsOf e = 1) (hM : 0 ≤ M) (hwf : ∀ n, (Lit.int k n).wf = true → 0 ≤ n ∧ n ≤ M)
    (h : DataW.Trod enc P W 0 (fun _ => true) true T (.slice a len cap) d p) :
    ∃ zs : List Int, zs.length = len ∧ SegK k M W a zs ∧ len ≤ cap ∧ (a = none → cap = 0) ∧ ((d = .nil ∧ len = 0) ∨ ∃ elems spare, d = .slice elems spare ∧ elems.length = len) := by
  obtain ⟨fuel, hf⟩ := h
  rcases open_ints hT he hc hf with ⟨hcs, hx⟩ | ⟨x, l, c, zs, hcs, _, hl, hm, hz, hx, hcell, hwz⟩
  · simp [Value.cells] at hcs
    obtain ⟨rfl, rfl, rfl⟩ := hcs
    simp only [Prod.mk.injEq] at hx
    exact ⟨[], rfl, SegK.nil hM _ _, Nat.le_refl _, fun _ => rfl, Or.inl ⟨hx.1, rfl⟩⟩
  · simp [Value.cells] at hcs
    obtain ⟨rfl, rfl, rfl⟩ := hcs
    simp only [Prod.mk.injEq] at hx
    simp only [if_true] at hz
    refine ⟨zs.take len, by simp; omega, ⟨fun i hi => ?_, hM, getD_bd hM ?_⟩, hl, (by intro h; cases h), Or.inr ⟨_, _, hx.1, by simp [ChangeShapes.lits]; omega⟩⟩
    · simp at hi
      have hi2 : i < len := by omega
      have h1 := hcell i (by omega)
      obtain ⟨b, off, spot⟩ := x
      have hs : spot = none := by
        have := hcell 0 (by omega)
        simpa [Addr.add] using World.cell?_spot this
      subst hs
      refine ⟨b, off, rfl, ?_⟩
      have hadd : (⟨b, off, none⟩ : Addr).add i = ⟨b, off + i, none⟩ := by unfold Addr.add; split <;> simp_all
      rw [hadd] at h1
      rw [h1]
      simp [List.getD, hi2]
    · intro z hz1
      exact hwf z (hwz z (List.mem_of_mem_take hz1))
end Go.Proofs.YtiankbopnjhhaaaGreatDoor

namespace Go.Proofs.YtiankbopnjhhaaaGreatDoor
open Go.ChangeShapes Go.WideShapes Go.ChangeAt Go.RowKit
set_option linter.unusedVariables false

theorem gSns : Tryz.prog.globalNamed "sapper/head.senses" = some 0 := by kernel_rfl
theorem gSnsType : (Tryz.prog.globals[0]?).map (·.type) = some 214 := by kernel_rfl
theorem gOrd : Tryz.prog.globalNamed "sapper/head.order" = some 1 := by kernel_rfl
theorem gOrdType : (Tryz.prog.globals[1]?).map (·.type) = some 215 := by kernel_rfl
theorem cellsSns : Tryz.prog.cellsOf 214 = 57 := by kernel_rfl
theorem cellsSense : Tryz.prog.cellsOf 213 = 3 := by kernel_rfl
theorem cellsOrd : Tryz.prog.cellsOf 215 = 19 := by kernel_rfl
theorem cellsInt8 : Tryz.prog.cellsOf 3 = 1 := by kernel_rfl

/-- A table of rows of three numbers as a row of the statements lists it. -/
def rowsData {H : Type} (l : List (Int × Int × Int)) : DataW H := .agg (l.map fun r => .agg [.lit (.int .i64 r.1), .lit (.int .i64 r.2.1), .lit (.int .i64 r.2.2)])
def flat3 (l : List (Int × Int × Int)) : List Value := l.flatMap fun r => [.int .i64 r.1, .int .i64 r.2.1, .int .i64 r.2.2]
theorem flat3_get : ∀ (l : List (Int × Int × Int)) (k j : Nat) (x : Int × Int × Int), l[k]? = some x → j < 3 → (flat3 l)[k * 3 + j]? = ([.int .i64 x.1, .int .i64 x.2.1, .int .i64 x.2.2] : List Value)[j]?
  | [], k, j, x, h, _ => by simp at h
  | t :: r, 0, j, x, h, hj => by
    simp at h
    subst h
    have e : flat3 (t :: r) = [.int .i64 t.1, .int .i64 t.2.1, .int .i64 t.2.2] ++ flat3 r := rfl
    rw [e, Nat.zero_mul, Nat.zero_add, List.getElem?_append_left (by simpa using hj)]
  | t :: r, k + 1, j, x, h, hj => by
    have := flat3_get r k j x (by simpa using h) hj
    have e : flat3 (t :: r) = [.int .i64 t.1, .int .i64 t.2.1, .int .i64 t.2.2] ++ flat3 r := rfl
    rw [e, List.getElem?_append_right (by simp; omega), show (k + 1) * 3 + j - ([.int .i64 t.1, .int .i64 t.2.1, .int .i64 t.2.2] : List Value).length = k * 3 + j by simp; omega]
    exact this
theorem flat3_len : ∀ l : List (Int × Int × Int), (flat3 l).length = l.length * 3
  | [] => rfl
  | t :: r => by
    have e : flat3 (t :: r) = [.int .i64 t.1, .int .i64 t.2.1, .int .i64 t.2.2] ++ flat3 r := rfl
    rw [e, List.length_append, flat3_len r, List.length_cons]
    simp
    omega
/-- Three numbers that read as a row of the table. -/
theorem cells_of_three {H : Type} {enc : TypeId × Value → H} {P : Program} {w : World} {base : Nat} {sp : Nat → Bool} {held : Bool} {fuel : Nat} {t e : TypeId} {fs : Array Field} {cs : List Value} {a b c : Int} {p : List MemPlace}
    (ht : P.underlying t = some (.struct fs)) (hf : fs.toList.map (fun f => (f.type, f.offset)) = [(e, 0), (e, 1), (e, 2)]) (he : P.underlying e = some (.int .i64)) (hce : P.cellsOf e = 1) (hct : P.cellsOf t = 3)
    (h : DataW.trod enc P w base sp held fuel t cs = some (.agg [.lit (.int .i64 a), .lit (.int .i64 b), .lit (.int .i64 c)], p)) : cs = [.int .i64 a, .int .i64 b, .int .i64 c] := by
  cases fuel with
  | zero => simp [DataW.trod] at h
  | succ fuel =>
    simp only [DataW.trod, ht, hct] at h
    split at h
    · rename_i hl
      obtain ⟨xs, hm, hx⟩ := Option.map_eq_some_iff.1 h
      have hxs : xs.map (·.1) = [.lit (.int .i64 a), .lit (.int .i64 b), .lit (.int .i64 c)] := by
        have := congrArg Prod.fst hx
        simpa using this
      have key : ∀ (i : Nat) (z : Int), i < 3 → ([a, b, c] : List Int)[i]? = some z → cs[i]? = some (.int .i64 z) := by
        intro i z hi hz
        have hfi : ∃ f, fs.toList[i]? = some f ∧ f.type = e ∧ f.offset = i := by
          have h1 := congrArg (·[i]?) hf
          simp only [List.getElem?_map] at h1
          rcases i with _ | _ | _ | i
          · obtain ⟨f, e1, e2⟩ := Option.map_eq_some_iff.1 h1
            simp only [Prod.mk.injEq] at e2
            exact ⟨f, e1, e2.1, e2.2⟩
          · obtain ⟨f, e1, e2⟩ := Option.map_eq_some_iff.1 h1
            simp only [Prod.mk.injEq] at e2
            exact ⟨f, e1, e2.1, e2.2⟩
          · obtain ⟨f, e1, e2⟩ := Option.map_eq_some_iff.1 h1
            simp only [Prod.mk.injEq] at e2
            exact ⟨f, e1, e2.1, e2.2⟩
          · omega
        obtain ⟨f, hf1, hf2, hf3⟩ := hfi
        obtain ⟨y, hy, hfy⟩ := Lib.mapM_at hm i f hf1
        rw [hf2, hf3, hce] at hfy
        obtain ⟨z', hc, hyz, _⟩ := DataW.trod_int he hfy
        have h1 : cs[i]? = some (.int .i64 z') := by
          have := congrArg (·[0]?) hc
          simpa [List.getElem?_take, List.getElem?_drop] using this
        have h2 : (xs.map (·.1))[i]? = some (DataW.lit (.int .i64 z') : DataW H) := by simp [hy, hyz]
        rw [hxs] at h2
        rw [h1]
        rcases i with _ | _ | _ | i
        · simp at h2 hz; rw [← h2, hz]
        · simp at h2 hz; rw [← h2, hz]
        · simp at h2 hz; rw [← h2, hz]
        · omega
      apply List.ext_getElem?
      intro i
      rcases i with _ | _ | _ | i
      · rw [key 0 a (by omega) rfl]; rfl
      · rw [key 1 b (by omega) rfl]; rfl
      · rw [key 2 c (by omega) rfl]; rfl
      · rw [List.getElem?_eq_none (by omega), List.getElem?_eq_none (by simp)]
    · cases h
theorem cells_of_rows {H : Type} {enc : TypeId × Value → H} {P : Program} {w : World} {base : Nat} {sp : Nat → Bool} {held : Bool} {fuel : Nat} {t u e : TypeId} {n : Nat} {fs : Array Field} {cs : List Value} {l : List (Int × Int × Int)} {p : List MemPlace}
    (ht : P.underlying t = some (.array n u)) (hu : P.underlying u = some (.struct fs)) (hf : fs.toList.map (fun f => (f.type, f.offset)) = [(e, 0), (e, 1), (e, 2)]) (he : P.underlying e = some (.int .i64)) (hce : P.cellsOf e = 1) (hcu : P.cellsOf u = 3) (hct : P.cellsOf t = n * 3)
    (h : DataW.trod enc P w base sp held fuel t cs = some (rowsData l, p)) : cs = flat3 l := by
  cases fuel with
  | zero => simp [DataW.trod] at h
  | succ fuel =>
    simp only [DataW.trod, ht, hct, hcu] at h
    split at h
    · rename_i hl
      obtain ⟨xs, hm, hx⟩ := Option.map_eq_some_iff.1 h
      have hxs : xs.map (·.1) = l.map fun r => (.agg [.lit (.int .i64 r.1), .lit (.int .i64 r.2.1), .lit (.int .i64 r.2.2)] : DataW H) := by
        have := congrArg Prod.fst hx
        simpa [rowsData] using this
      have hxl : xs.length = n := by simpa using Lib.mapM_length hm
      have hzl : l.length = n := by
        have := congrArg List.length hxs
        simp at this
        omega
      apply List.ext_getElem?
      intro q
      by_cases hq : q < n * 3
      · obtain ⟨i, j, hj, rfl⟩ : ∃ i j, j < 3 ∧ q = i * 3 + j := ⟨q / 3, q % 3, by omega, by omega⟩
        have hi : i < n := by omega
        obtain ⟨y, hy, hfy⟩ := Lib.mapM_at hm i i (by simp [hi])
        obtain ⟨r, hr⟩ : ∃ r, l[i]? = some r := ⟨l[i]'(by omega), by simp [show i < l.length by omega]⟩
        have hy1 : y.1 = .agg [.lit (.int .i64 r.1), .lit (.int .i64 r.2.1), .lit (.int .i64 r.2.2)] := by
          have h2 : (xs.map (·.1))[i]? = some y.1 := by simp [hy]
          rw [hxs] at h2
          simp [hr] at h2
          exact h2.symm
        obtain ⟨y1, y2⟩ := y
        simp only at hy1
        subst hy1
        have hc := cells_of_three hu hf he hce hcu hfy
        rw [flat3_get l i j r hr hj, ← hc, List.getElem?_take, if_pos hj, List.getElem?_drop]
      · rw [List.getElem?_eq_none (by omega), List.getElem?_eq_none (by rw [flat3_len]; omega)]
    · cases h
def snsR : List (Int × Int × Int) := [(0, 1, 0), (1, 1, 0), (2, 1, 0), (3, 1, 0), (4, 1, 0), (5, 1, 0), (6, 1, 0), (7, 1, 0), (8, 1, 0), (9, 1, 0), (10, 1, 0), (11, 1, 0), (12, 1, 0), (13, 1, 0), (14, 1, 0), (15, 1, 0), (-1, 3, 2), (0, 3, 3), (0, 11, 7)]
theorem flat3_sns : flat3 snsR = snsL.map (Value.int .i64) := rfl
theorem sense_struct : ∃ fs, Tryz.prog.underlying 213 = some (.struct fs) ∧ fs.toList.map (fun f => (f.type, f.offset)) = [(3, 0), (3, 1), (3, 2)] := ⟨_, Tryz.underlying213, rfl⟩
theorem tabS_of {W : World} {rest : List (String × DataW Unit)} (h : laidMet Tryz.prog (("sapper/head.senses", Rows.laid_sapper_head_senses) :: rest) W) : TabS W := by
  obtain ⟨ps, ⟨g', t', cs, fuel, p, q, hg', ht', hvar, hd, _, _⟩, _⟩ := h
  obtain rfl := Option.some.inj (gSns.symm.trans hg')
  obtain rfl := Option.some.inj (gSnsType.symm.trans ht')
  obtain ⟨fs, hs, hf⟩ := sense_struct
  have hd' : DataW.trod _ Tryz.prog W _ _ _ fuel 214 cs.toList = some (rowsData snsR, p) := hd
  have hc := cells_of_rows (n := 19) Tryz.underlying214 hs hf Tryz.underlying3 cellsInt8 cellsSense cellsSns hd'
  rw [flat3_sns] at hc
  have hcs : cs = (snsL.map (Value.int .i64)).toArray := by rw [← hc]
  rw [hcs] at hvar
  refine ⟨fun i hi => ⟨0, 0, rfl, ?_⟩, getD_bdz (by decide)⟩
  have := World.var?_cell gSns hvar i
  rw [Nat.zero_add]
  simpa [List.getD, hi] using this
theorem tabO_of {W : World} {rest : List (String × DataW Unit)} (h : laidMet Tryz.prog (("sapper/head.order", Rows.laid_sapper_head_order) :: rest) W) : TabO W := by
  have ht : Lib.TabIs Tryz.prog W "sapper/head.order" .i64 ordL :=
    Lib.tabIs_of_head (rest := rest) gOrd gOrdType Tryz.underlying215 Tryz.underlying3 cellsInt8 cellsOrd h
  refine ⟨fun i hi => ⟨1, 0, rfl, ?_⟩, getD_bdz (by decide)⟩
  rw [Nat.zero_add]
  exact ht.cell gOrd i hi
theorem tabB_of {W : World} (h : laidMetH Tryz.prog [("sapper/head.senses", Rows.laid_sapper_head_senses), ("sapper/head.order", Rows.laid_sapper_head_order)] W) : TabS W ∧ TabO W := by
  have h' : laidMet Tryz.prog [("sapper/head.senses", Rows.laid_sapper_head_senses), ("sapper/head.order", Rows.laid_sapper_head_order)] W := h
  have h2 : laidMet Tryz.prog [("sapper/head.order", Rows.laid_sapper_head_order)] W := laidMet.filter (fun x => x.1 == "sapper/head.order") h'
  exact ⟨tabS_of h', tabO_of h2⟩
end Go.Proofs.YtiankbopnjhhaaaGreatDoor
