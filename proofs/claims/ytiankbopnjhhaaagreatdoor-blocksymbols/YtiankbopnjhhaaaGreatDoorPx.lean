import Derived.Test.YtiankbopnjhhaaaGreatDoorPw
import Derived.Test.YtiankbopnjhhaaaGreatDoorPa
import Derived.Test.YtiankbopnjhhaaaGreatDoorPb
import Derived.WalkKit
import Derived.ProofKit
import Derived.OpenShut
import Derived.SizedLaws
namespace Go.Proofs.YtiankbopnjhhaaaGreatDoor
open Go.RowKit
set_option linter.unusedVariables false

/-! BlockSplits. -/
set_option maxRecDepth 100000 in
theorem wide_ln9 : ∀ i : Fin 28, lnS9.getD ((i.val + 1) * 2) 0 - lnS9.getD (i.val * 2) 0 ≤ 2 ^ (lnS9.getD (i.val * 2 + 1) 0).toNat := by decide
set_option maxRecDepth 100000 in
theorem wide_ds9 : ∀ i : Fin 29, dsS9.getD ((i.val + 1) * 2) 0 - dsS9.getD (i.val * 2) 0 ≤ 2 ^ (dsS9.getD (i.val * 2 + 1) 0).toNat := by decide
theorem ln_in9 {x : Int} {i : Nat} (hx : x ≤ 258) (hi : i < 29) (h1 : lnS9.getD (i * 2) 0 ≤ x) (h2 : ∀ k, i < k → k < 29 → x < lnS9.getD (k * 2) 0) : x - lnS9.getD (i * 2) 0 < 2 ^ (lnS9.getD (i * 2 + 1) 0).toNat := by
  by_cases h : i < 28
  · have := wide_ln9 ⟨i, h⟩
    have h3 := h2 (i + 1) (by omega) (by omega)
    simp only at this
    omega
  · obtain rfl : i = 28 := by omega
    have e1 : lnS9.getD (28 * 2) 0 = 258 := by decide
    have e2 : lnS9.getD (28 * 2 + 1) 0 = 0 := by decide
    rw [e1, e2]
    simp
    omega
theorem ds_in9 {x : Int} {i : Nat} (hx : x ≤ 32768) (hi : i < 30) (h1 : dsS9.getD (i * 2) 0 ≤ x) (h2 : ∀ k, i < k → k < 30 → x < dsS9.getD (k * 2) 0) : x - dsS9.getD (i * 2) 0 < 2 ^ (dsS9.getD (i * 2 + 1) 0).toNat := by
  by_cases h : i < 29
  · have := wide_ds9 ⟨i, h⟩
    have h3 := h2 (i + 1) (by omega) (by omega)
    simp only at this
    omega
  · obtain rfl : i = 29 := by omega
    have e1 : dsS9.getD (29 * 2) 0 = 24577 := by decide
    have e2 : dsS9.getD (29 * 2 + 1) 0 = 13 := by decide
    rw [e1, e2]
    have : (2 : Int) ^ (13 : Int).toNat = 8192 := by decide
    omega
theorem shl9 (M : Fin 14) : wrap64 (2 ^ M.val) = 2 ^ M.val := by
  have h : (2 : Nat) ^ M.val ≤ 2 ^ 13 := Nat.pow_le_pow_right (by omega) (by have := M.isLt; omega)
  have e : ((2 : Int) ^ M.val) = ((2 ^ M.val : Nat) : Int) := by norm_cast
  have h13 : (2 : Nat) ^ 13 = 8192 := rfl
  rw [e]
  generalize (2 : Nat) ^ M.val = p at h
  unfold wrap64
  omega
set_option maxRecDepth 100000 in
set_option maxHeartbeats 8000000 in
theorem blockSplits_walk (w : World) (tab : TabS w ∧ TabO w) (n : Int) (hn : -9223372036854775808 ≤ n) (hn2 : n ≤ 9223372036854775807) (d : Int) (hd : -9223372036854775808 ≤ d) (hd2 : d ≤ 9223372036854775807) :
    Calls Tryz.prog 4 #[.int .i64 n, .int .i64 d] w fun e w' => e = .returned (.bool true) ∧ Below w.heap.size w w' := by
  by_cases h1 : 3 ≤ n ∧ n ≤ 258
  · have j1 := h1.1
    have j2 := h1.2
    go_enter Tryz.func4, Tryz.ntmps4
    go_wp2_with fail
    refine (plsy9_ok n j1 j2 w).mono ?_
    rintro e w1 ⟨i, hi, s1, s2, rfl, b1⟩
    have hv := ln_in9 j2 hi s1 s2
    have bl := bd_plsy9 ⟨i, hi⟩
    simp only at bl
    have CO := plof9_ok (257 + (i : Int)) i (by omega) hi w1
    generalize lnS9.getD (i * 2) 0 = z0 at *
    generalize lnS9.getD (i * 2 + 1) 0 = m at *
    obtain ⟨M, rfl⟩ : ∃ M : Nat, m = (M : Int) := ⟨m.toNat, by omega⟩
    rw [Int.toNat_natCast] at hv
    obtain ⟨Q, hQ⟩ : ∃ Q : Int, wrap64 (2 ^ M) = Q := ⟨_, rfl⟩
    rw [← (shl9 ⟨M, by omega⟩), hQ] at hv
    have e1 : z0 + (n - z0) = n := by omega
    have f1 : 0 ≤ n - z0 := by omega
    have g1 : 257 + (i : Int) ≤ 285 := by omega
    have g2 : 257 ≤ 257 + (i : Int) := by omega
    clear s2
    go_wp2_with fail
    refine CO.mono ?_
    rintro e w2 ⟨rfl, b2⟩
    have B2 : Below w.heap.size w w2 := b1.trans (b2.mono b1.size)
    clear CO b1 b2
    go_wp2_with fail
    clear e1 f1 g1 g2 hv bl hQ s1 j1 j2
    by_cases h2 : 1 ≤ d ∧ d ≤ 32768
    · have k1 := h2.1
      have k2 := h2.2
      refine (pdsy9_ok d k1 k2 w2).mono ?_
      rintro e w3 ⟨j, hj, t1, t2, rfl, b3⟩
      have hv3 := ds_in9 k2 hj t1 t2
      have bl3 := bd_pdsy9 ⟨j, hj⟩
      simp only at bl3
      have CO := pdof9_ok (j : Int) j rfl hj w3
      generalize dsS9.getD (j * 2) 0 = z3 at *
      generalize dsS9.getD (j * 2 + 1) 0 = m3 at *
      obtain ⟨M3, rfl⟩ : ∃ M : Nat, m3 = (M : Int) := ⟨m3.toNat, by omega⟩
      rw [Int.toNat_natCast] at hv3
      obtain ⟨Q3, hQ3⟩ : ∃ Q : Int, wrap64 (2 ^ M3) = Q := ⟨_, rfl⟩
      rw [← (shl9 ⟨M3, by omega⟩), hQ3] at hv3
      have e3 : z3 + (d - z3) = d := by omega
      have f3 : 0 ≤ d - z3 := by omega
      have g3 : (j : Int) ≤ 29 := by omega
      clear t2
      go_wp2_with fail
      refine CO.mono ?_
      rintro e w4 ⟨rfl, b4⟩
      have B4 : Below w.heap.size w w4 := (B2.trans (b3.mono B2.size)).trans (b4.mono (by have := B2.size; have := b3.size; omega))
      clear CO b3 b4
      go_wp2_with fail
      refine (plives9 w4).mono ?_
      rintro e w5 ⟨rfl, b5⟩
      go_wp2_with fail
      go_ret
      exact ⟨rfl, B4.trans (b5.mono B4.size)⟩
    · refine (pdsy9_no d (by omega) w2).mono ?_
      rintro e w3 ⟨rfl, hw3⟩
      rw [hw3]
      clear hw3 w3
      by_cases k1 : 1 ≤ d
      · have k2 : ¬ d ≤ 32768 := by omega
        go_wp2_with fail
        refine (plives9 w2).mono ?_
        rintro e w5 ⟨rfl, b5⟩
        go_wp2_with fail
        go_ret
        exact ⟨rfl, B2.trans (b5.mono B2.size)⟩
      · go_wp2_with fail
        refine (plives9 w2).mono ?_
        rintro e w5 ⟨rfl, b5⟩
        go_wp2_with fail
        go_ret
        exact ⟨rfl, B2.trans (b5.mono B2.size)⟩
  · by_cases j1 : 3 ≤ n
    · have j2 : ¬ n ≤ 258 := by omega
      go_enter Tryz.func4, Tryz.ntmps4
      go_wp2_with fail
      refine (plsy9_no n (by omega) w).mono ?_
      rintro e w2 ⟨rfl, hw2⟩
      have B2 : Below w.heap.size w w2 := by rw [hw2]; exact Below.refl _ _
      clear hw2
      go_wp2_with fail
      by_cases h2 : 1 ≤ d ∧ d ≤ 32768
      · have k1 := h2.1
        have k2 := h2.2
        refine (pdsy9_ok d k1 k2 w2).mono ?_
        rintro e w3 ⟨j, hj, t1, t2, rfl, b3⟩
        have hv3 := ds_in9 k2 hj t1 t2
        have bl3 := bd_pdsy9 ⟨j, hj⟩
        simp only at bl3
        have CO := pdof9_ok (j : Int) j rfl hj w3
        generalize dsS9.getD (j * 2) 0 = z3 at *
        generalize dsS9.getD (j * 2 + 1) 0 = m3 at *
        obtain ⟨M3, rfl⟩ : ∃ M : Nat, m3 = (M : Int) := ⟨m3.toNat, by omega⟩
        rw [Int.toNat_natCast] at hv3
        obtain ⟨Q3, hQ3⟩ : ∃ Q : Int, wrap64 (2 ^ M3) = Q := ⟨_, rfl⟩
        rw [← (shl9 ⟨M3, by omega⟩), hQ3] at hv3
        have e3 : z3 + (d - z3) = d := by omega
        have f3 : 0 ≤ d - z3 := by omega
        have g3 : (j : Int) ≤ 29 := by omega
        clear t2
        go_wp2_with fail
        refine CO.mono ?_
        rintro e w4 ⟨rfl, b4⟩
        have B4 : Below w.heap.size w w4 := (B2.trans (b3.mono B2.size)).trans (b4.mono (by have := B2.size; have := b3.size; omega))
        clear CO b3 b4
        go_wp2_with fail
        refine (plives9 w4).mono ?_
        rintro e w5 ⟨rfl, b5⟩
        go_wp2_with fail
        go_ret
        exact ⟨rfl, B4.trans (b5.mono B4.size)⟩
      · refine (pdsy9_no d (by omega) w2).mono ?_
        rintro e w3 ⟨rfl, hw3⟩
        rw [hw3]
        clear hw3 w3
        by_cases k1 : 1 ≤ d
        · have k2 : ¬ d ≤ 32768 := by omega
          go_wp2_with fail
          refine (plives9 w2).mono ?_
          rintro e w5 ⟨rfl, b5⟩
          go_wp2_with fail
          go_ret
          exact ⟨rfl, B2.trans (b5.mono B2.size)⟩
        · go_wp2_with fail
          refine (plives9 w2).mono ?_
          rintro e w5 ⟨rfl, b5⟩
          go_wp2_with fail
          go_ret
          exact ⟨rfl, B2.trans (b5.mono B2.size)⟩
    · go_enter Tryz.func4, Tryz.ntmps4
      go_wp2_with fail
      refine (plsy9_no n (by omega) w).mono ?_
      rintro e w2 ⟨rfl, hw2⟩
      have B2 : Below w.heap.size w w2 := by rw [hw2]; exact Below.refl _ _
      clear hw2
      go_wp2_with fail
      by_cases h2 : 1 ≤ d ∧ d ≤ 32768
      · have k1 := h2.1
        have k2 := h2.2
        refine (pdsy9_ok d k1 k2 w2).mono ?_
        rintro e w3 ⟨j, hj, t1, t2, rfl, b3⟩
        have hv3 := ds_in9 k2 hj t1 t2
        have bl3 := bd_pdsy9 ⟨j, hj⟩
        simp only at bl3
        have CO := pdof9_ok (j : Int) j rfl hj w3
        generalize dsS9.getD (j * 2) 0 = z3 at *
        generalize dsS9.getD (j * 2 + 1) 0 = m3 at *
        obtain ⟨M3, rfl⟩ : ∃ M : Nat, m3 = (M : Int) := ⟨m3.toNat, by omega⟩
        rw [Int.toNat_natCast] at hv3
        obtain ⟨Q3, hQ3⟩ : ∃ Q : Int, wrap64 (2 ^ M3) = Q := ⟨_, rfl⟩
        rw [← (shl9 ⟨M3, by omega⟩), hQ3] at hv3
        have e3 : z3 + (d - z3) = d := by omega
        have f3 : 0 ≤ d - z3 := by omega
        have g3 : (j : Int) ≤ 29 := by omega
        clear t2
        go_wp2_with fail
        refine CO.mono ?_
        rintro e w4 ⟨rfl, b4⟩
        have B4 : Below w.heap.size w w4 := (B2.trans (b3.mono B2.size)).trans (b4.mono (by have := B2.size; have := b3.size; omega))
        clear CO b3 b4
        go_wp2_with fail
        refine (plives9 w4).mono ?_
        rintro e w5 ⟨rfl, b5⟩
        go_wp2_with fail
        go_ret
        exact ⟨rfl, B4.trans (b5.mono B4.size)⟩
      · refine (pdsy9_no d (by omega) w2).mono ?_
        rintro e w3 ⟨rfl, hw3⟩
        rw [hw3]
        clear hw3 w3
        by_cases k1 : 1 ≤ d
        · have k2 : ¬ d ≤ 32768 := by omega
          go_wp2_with fail
          refine (plives9 w2).mono ?_
          rintro e w5 ⟨rfl, b5⟩
          go_wp2_with fail
          go_ret
          exact ⟨rfl, B2.trans (b5.mono B2.size)⟩
        · go_wp2_with fail
          refine (plives9 w2).mono ?_
          rintro e w5 ⟨rfl, b5⟩
          go_wp2_with fail
          go_ret
          exact ⟨rfl, B2.trans (b5.mono B2.size)⟩
end Go.Proofs.YtiankbopnjhhaaaGreatDoor

namespace Go.Proofs.YtiankbopnjhhaaaGreatDoor
open Go.RowKit
set_option linter.unusedVariables false

/-! The document's tables of spans: Lens, Dists. -/
theorem info_beg9 : (Tryz.prog.info? 30).map (fun i => (i.zero, i.size, i.bytes)) = some (some (.agg #[.int .i64 0, .int .i64 0]), 2, 16) := by kernel_rfl
def bg9 (L : List Int) (i : Nat) : Rn8 := ⟨L.getD (i * 2) 0, L.getD (i * 2 + 1) 0⟩
def br9 (L : List Int) (k : Nat) : List Rn8 := (List.range k).map (bg9 L)
theorem br9_len (L : List Int) (k : Nat) : (br9 L k).length = k := by simp [br9]
theorem br9_succ (L : List Int) (k : Nat) : br9 L (k + 1) = br9 L k ++ [bg9 L k] := by simp [br9, List.range_succ]
theorem br9_get (L : List Int) {k i : Nat} (h : i < k) : (br9 L k).getD i ⟨0, 0⟩ = bg9 L i := by simp [br9, List.getD, h]
theorem wr9 {x : Int} (h : 0 ≤ x) (h2 : x ≤ 100000) : wrap64 x = x := by unfold wrap64; omega
theorem shb9 {M : Nat} (h : M ≤ 13) : 0 ≤ wrap64 (2 ^ M) ∧ wrap64 (2 ^ M) ≤ 8192 := by
  rw [shl9 ⟨M, by omega⟩]
  have h2 : (2 : Nat) ^ M ≤ 2 ^ 13 := Nat.pow_le_pow_right (by omega) h
  have e : ((2 : Int) ^ M) = ((2 ^ M : Nat) : Int) := by norm_cast
  have h13 : (2 : Nat) ^ 13 = 8192 := rfl
  show 0 ≤ (2 : Int) ^ M ∧ (2 : Int) ^ M ≤ 8192
  rw [e]
  generalize (2 : Nat) ^ M = p at h2
  omega

def nn9 (i : Nat) : Int := if i < 28 then lnS9.getD (i * 2) 0 else 259
set_option maxRecDepth 100000 in
theorem st_nn9 : ∀ i : Fin 28, (if 8 ≤ i.val then ((i.val : Int) - 4) / 4 else 0) = lnS9.getD (i.val * 2 + 1) 0 ∧ nn9 i.val + 2 ^ (lnS9.getD (i.val * 2 + 1) 0).toNat = nn9 (i.val + 1) ∧ nn9 i.val = lnS9.getD (i.val * 2) 0 ∧ 0 ≤ nn9 i.val ∧ nn9 i.val ≤ 40000 := by decide
set_option maxRecDepth 100000 in
set_option maxHeartbeats 4000000 in
theorem rlens9 (w : World) :
    Calls Tryz.prog 14 #[] w fun e w' => ∃ la lc, e = .returned (.slice la 29 lc) ∧ w'.ownsRow w.heap.size 30 2 (.slice la 29 lc) 29 (flatN (br9 lnS9 29)) ∧ Below w.heap.size w w' := by
  obtain ⟨i0, hi, hz0, hz1, hz2⟩ := info_parts info_beg9
  go_enter Tryz.func14, Tryz.ntmps14
  go_wp2_with fail
  go_loopw [1, 2, 3] (fun tl tn ti wr => ∃ (i : Nat) (la : Option Addr) (lc : Nat), i ≤ 28 ∧ tl = .slice la i lc ∧ tn = .int .i64 (nn9 i) ∧ ti = .int .i64 (i : Int) ∧ wr.ownsRow w.heap.size 30 2 (.slice la i lc) i (flatN (br9 lnS9 i)) ∧ Below w.heap.size w wr) (fun _ _ ti _ => 28 - (intOf ti).toNat)
  case atStart => exact ⟨0, none, 0, by omega, rfl, rfl, rfl, World.ownsRow_nil _ _ _ _, Below.refl _ _⟩
  case round =>
    obtain ⟨i, la, lc, hin, rfl, rfl, rfl, OO, BR⟩ := hrel
    have hsz := BR.size
    by_cases hlt : i < 28
    · have hlti : (i : Int) < 28 := by omega
      obtain ⟨q1, q2, q3, q4, q5⟩ := st_nn9 ⟨i, hlt⟩
      simp only at q1 q2 q3 q4 q5
      have bl : 0 ≤ lnS9.getD (i * 2 + 1) 0 ∧ lnS9.getD (i * 2 + 1) 0 ≤ 13 := lnb9 i
      have HL : Hid (br9 lnS9 (i + 1) = br9 lnS9 i ++ [⟨nn9 i, lnS9.getD (i * 2 + 1) 0⟩]) := by show _ = _; rw [br9_succ]; unfold bg9; rw [← q3]
      obtain ⟨N1, hN1⟩ : ∃ N1, N1 = nn9 (i + 1) := ⟨_, rfl⟩
      have HN1 : Hid (N1 = nn9 (i + 1)) := hN1
      rw [← hN1] at q2
      clear q3 hN1
      generalize nn9 i = N at *
      generalize lnS9.getD (i * 2 + 1) 0 = m at *
      obtain ⟨M, rfl⟩ : ∃ M : Nat, m = (M : Int) := ⟨m.toNat, by omega⟩
      rw [Int.toNat_natCast, ← shl9 ⟨M, by omega⟩] at q2
      have hS2 := shb9 (M := M) (by omega)
      obtain ⟨S, hS⟩ : ∃ S : Int, wrap64 (2 ^ M) = S := ⟨_, rfl⟩
      have HQ : Hid (N + S = N1) := by show _ = _; rw [← hS]; exact q2
      rw [hS] at hS2
      clear q2
      have HW : Hid (wrap64 (N + S) = N + S) := wr9 (Int.add_nonneg q4 hS2.1) (Int.le_trans (Int.add_le_add q5 hS2.2) (by decide))
      have hMb : (M : Int) ≤ 13 := bl.2
      by_cases h8 : 8 ≤ i
      · rw [if_pos h8] at q1
        have h8i : (8 : Int) ≤ (i : Int) := by omega
        have i5 : ((i : Int) - 4).tdiv 4 = (M : Int) := by rw [← q1]; exact Int.tdiv_eq_ediv_of_nonneg (by omega)
        go_wp2_with (first | (at_builtin; refine wpList_appN rfl (.tmp 14) (.tmp 18) 31 rfl w.heap.size 30 i0 _ 16 Tryz.underlying31 hi hz0 hz1 hz2 rfl wr ⟨N, (M : Int)⟩ OO rfl rfl (by omega) (by omega) hsz ?_; intro ga gc w3 own3 hk3 hat3))
        have B3 : Below w.heap.size w w3 := BR.trans (hk3.below (fun q e => (OO.lt q e).1) hsz)
        have O3 : w3.ownsRow w.heap.size 30 2 (.slice (some ⟨ga, 0, none⟩) (i + 1) gc) (i + 1) (flatN (br9 lnS9 (i + 1))) := by rw [HL.out]; exact own3
        clear hk3 hat3 HL own3 OO BR
        go_wp2_with fail
        go_roundw
        case rel => exact ⟨i + 1, _, gc, by omega, rfl, by (first | (rw [← HN1.out, ← HQ.out]; done) | (rw [← HN1.out, ← HQ.out]; exact congrArg _ HW.out)), by go_num, O3, B3⟩
        case measure => simp [intOf]; omega
      · rw [if_neg h8] at q1
        have h8i : ¬ (8 : Int) ≤ (i : Int) := by omega
        have hM0 : M = 0 := by omega
        subst hM0
        have hS1 : S = 1 := by rw [← hS]; have := shl9 ⟨0, by omega⟩; simpa using this
        subst hS1
        clear hS q1 bl hMb hS2
        go_wp2_with (first | (at_builtin; refine wpList_appN rfl (.tmp 14) (.tmp 18) 31 rfl w.heap.size 30 i0 _ 16 Tryz.underlying31 hi hz0 hz1 hz2 rfl wr ⟨N, 0⟩ OO rfl rfl (by omega) (by omega) hsz ?_; intro ga gc w3 own3 hk3 hat3))
        have B3 : Below w.heap.size w w3 := BR.trans (hk3.below (fun q e => (OO.lt q e).1) hsz)
        have O3 : w3.ownsRow w.heap.size 30 2 (.slice (some ⟨ga, 0, none⟩) (i + 1) gc) (i + 1) (flatN (br9 lnS9 (i + 1))) := by rw [HL.out]; exact own3
        clear hk3 hat3 HL own3 OO BR
        go_wp2_with fail
        go_roundw
        case rel => exact ⟨i + 1, _, gc, by omega, rfl, by (first | (rw [← HN1.out, ← HQ.out]; done) | (rw [← HN1.out, ← HQ.out]; exact congrArg _ HW.out)), by go_num, O3, B3⟩
        case measure => simp [intOf]; omega
    · have hge : ¬ (i : Int) < 28 := by omega
      obtain rfl : i = 28 := by omega
      go_wp2_with (first | (at_builtin; refine wpList_appN rfl (.tmp 24) (.tmp 26) 31 rfl w.heap.size 30 i0 _ 16 Tryz.underlying31 hi hz0 hz1 hz2 rfl wr ⟨258, 0⟩ OO rfl rfl (by omega) (by omega) hsz ?_; intro ga gc w3 own3 hk3 hat3))
      have B3 : Below w.heap.size w w3 := BR.trans (hk3.below (fun q e => (OO.lt q e).1) hsz)
      clear hk3 hat3 OO BR
      go_wp2_with fail
      go_ret
      refine ⟨some ⟨ga, 0, none⟩, gc, rfl, ?_, B3⟩
      rw [show br9 lnS9 29 = br9 lnS9 28 ++ [⟨258, 0⟩] from br9_succ _ _]
      exact own3

def nd9 (i : Nat) : Int := if i < 30 then dsS9.getD (i * 2) 0 else 32769
set_option maxRecDepth 100000 in
theorem st_nd9 : ∀ i : Fin 30, (if 4 ≤ i.val then ((i.val : Int) - 2) / 2 else 0) = dsS9.getD (i.val * 2 + 1) 0 ∧ nd9 i.val + 2 ^ (dsS9.getD (i.val * 2 + 1) 0).toNat = nd9 (i.val + 1) ∧ nd9 i.val = dsS9.getD (i.val * 2) 0 ∧ 0 ≤ nd9 i.val ∧ nd9 i.val ≤ 40000 := by decide
set_option maxRecDepth 100000 in
set_option maxHeartbeats 4000000 in
theorem rdists9 (w : World) :
    Calls Tryz.prog 17 #[] w fun e w' => ∃ la lc, e = .returned (.slice la 30 lc) ∧ w'.ownsRow w.heap.size 30 2 (.slice la 30 lc) 30 (flatN (br9 dsS9 30)) ∧ Below w.heap.size w w' := by
  obtain ⟨i0, hi, hz0, hz1, hz2⟩ := info_parts info_beg9
  go_enter Tryz.func17, Tryz.ntmps17
  go_wp2_with fail
  go_loopw [1, 2, 3] (fun tl tn ti wr => ∃ (i : Nat) (la : Option Addr) (lc : Nat), i ≤ 30 ∧ tl = .slice la i lc ∧ tn = .int .i64 (nd9 i) ∧ ti = .int .i64 (i : Int) ∧ wr.ownsRow w.heap.size 30 2 (.slice la i lc) i (flatN (br9 dsS9 i)) ∧ Below w.heap.size w wr) (fun _ _ ti _ => 30 - (intOf ti).toNat)
  case atStart => exact ⟨0, none, 0, by omega, rfl, rfl, rfl, World.ownsRow_nil _ _ _ _, Below.refl _ _⟩
  case round =>
    obtain ⟨i, la, lc, hin, rfl, rfl, rfl, OO, BR⟩ := hrel
    have hsz := BR.size
    by_cases hlt : i < 30
    · have hlti : (i : Int) < 30 := by omega
      obtain ⟨q1, q2, q3, q4, q5⟩ := st_nd9 ⟨i, hlt⟩
      simp only at q1 q2 q3 q4 q5
      have bl : 0 ≤ dsS9.getD (i * 2 + 1) 0 ∧ dsS9.getD (i * 2 + 1) 0 ≤ 13 := dsb9 i
      have HL : Hid (br9 dsS9 (i + 1) = br9 dsS9 i ++ [⟨nd9 i, dsS9.getD (i * 2 + 1) 0⟩]) := by show _ = _; rw [br9_succ]; unfold bg9; rw [← q3]
      obtain ⟨N1, hN1⟩ : ∃ N1, N1 = nd9 (i + 1) := ⟨_, rfl⟩
      have HN1 : Hid (N1 = nd9 (i + 1)) := hN1
      rw [← hN1] at q2
      clear q3 hN1
      generalize nd9 i = N at *
      generalize dsS9.getD (i * 2 + 1) 0 = m at *
      obtain ⟨M, rfl⟩ : ∃ M : Nat, m = (M : Int) := ⟨m.toNat, by omega⟩
      rw [Int.toNat_natCast, ← shl9 ⟨M, by omega⟩] at q2
      have hS2 := shb9 (M := M) (by omega)
      obtain ⟨S, hS⟩ : ∃ S : Int, wrap64 (2 ^ M) = S := ⟨_, rfl⟩
      have HQ : Hid (N + S = N1) := by show _ = _; rw [← hS]; exact q2
      rw [hS] at hS2
      clear q2
      have HW : Hid (wrap64 (N + S) = N + S) := wr9 (Int.add_nonneg q4 hS2.1) (Int.le_trans (Int.add_le_add q5 hS2.2) (by decide))
      have hMb : (M : Int) ≤ 13 := bl.2
      by_cases h8 : 4 ≤ i
      · rw [if_pos h8] at q1
        have h8i : (4 : Int) ≤ (i : Int) := by omega
        have i5 : ((i : Int) - 2).tdiv 2 = (M : Int) := by rw [← q1]; exact Int.tdiv_eq_ediv_of_nonneg (by omega)
        go_wp2_with (first | (at_builtin; refine wpList_appN rfl (.tmp 14) (.tmp 18) 31 rfl w.heap.size 30 i0 _ 16 Tryz.underlying31 hi hz0 hz1 hz2 rfl wr ⟨N, (M : Int)⟩ OO rfl rfl (by omega) (by omega) hsz ?_; intro ga gc w3 own3 hk3 hat3))
        have B3 : Below w.heap.size w w3 := BR.trans (hk3.below (fun q e => (OO.lt q e).1) hsz)
        have O3 : w3.ownsRow w.heap.size 30 2 (.slice (some ⟨ga, 0, none⟩) (i + 1) gc) (i + 1) (flatN (br9 dsS9 (i + 1))) := by rw [HL.out]; exact own3
        clear hk3 hat3 HL own3 OO BR
        go_wp2_with fail
        go_roundw
        case rel => exact ⟨i + 1, _, gc, by omega, rfl, by (first | (rw [← HN1.out, ← HQ.out]; done) | (rw [← HN1.out, ← HQ.out]; exact congrArg _ HW.out)), by go_num, O3, B3⟩
        case measure => simp [intOf]; omega
      · rw [if_neg h8] at q1
        have h8i : ¬ (4 : Int) ≤ (i : Int) := by omega
        have hM0 : M = 0 := by omega
        subst hM0
        have hS1 : S = 1 := by rw [← hS]; have := shl9 ⟨0, by omega⟩; simpa using this
        subst hS1
        clear hS q1 bl hMb hS2
        go_wp2_with (first | (at_builtin; refine wpList_appN rfl (.tmp 14) (.tmp 18) 31 rfl w.heap.size 30 i0 _ 16 Tryz.underlying31 hi hz0 hz1 hz2 rfl wr ⟨N, 0⟩ OO rfl rfl (by omega) (by omega) hsz ?_; intro ga gc w3 own3 hk3 hat3))
        have B3 : Below w.heap.size w w3 := BR.trans (hk3.below (fun q e => (OO.lt q e).1) hsz)
        have O3 : w3.ownsRow w.heap.size 30 2 (.slice (some ⟨ga, 0, none⟩) (i + 1) gc) (i + 1) (flatN (br9 dsS9 (i + 1))) := by rw [HL.out]; exact own3
        clear hk3 hat3 HL own3 OO BR
        go_wp2_with fail
        go_roundw
        case rel => exact ⟨i + 1, _, gc, by omega, rfl, by (first | (rw [← HN1.out, ← HQ.out]; done) | (rw [← HN1.out, ← HQ.out]; exact congrArg _ HW.out)), by go_num, O3, B3⟩
        case measure => simp [intOf]; omega
    · have hge : ¬ (i : Int) < 30 := by omega
      obtain rfl : i = 30 := by omega
      go_wp2_with fail
      go_ret
      exact ⟨la, lc, rfl, OO, BR⟩
end Go.Proofs.YtiankbopnjhhaaaGreatDoor

namespace Go.Proofs.YtiankbopnjhhaaaGreatDoor
open Go.RowKit
set_option linter.unusedVariables false

/-! The document's find, LenSymbol, DistSymbol; both sides' symbols in closed form. -/
def fnd9 (R : List Rn8) (x : Int) : Nat → Nat
  | 0 => 0
  | k + 1 => if (R.getD k ⟨0, 0⟩).sy ≤ x then k else fnd9 R x k
theorem fnd9_ok (R : List Rn8) (x : Int) (h0 : (R.getD 0 ⟨0, 0⟩).sy ≤ x) : ∀ k, 0 < k → fnd9 R x k < k ∧ (R.getD (fnd9 R x k) ⟨0, 0⟩).sy ≤ x ∧ ∀ j, fnd9 R x k < j → j < k → x < (R.getD j ⟨0, 0⟩).sy
  | 0, h => by omega
  | k + 1, _ => by
    rw [fnd9]
    by_cases h : (R.getD k ⟨0, 0⟩).sy ≤ x
    · rw [if_pos h]
      exact ⟨by omega, h, fun j h1 h2 => by omega⟩
    · rw [if_neg h]
      have hk : 0 < k := by
        rcases Nat.eq_zero_or_pos k with rfl | hk
        · exact absurd h0 h
        · exact hk
      obtain ⟨a, b, c⟩ := fnd9_ok R x h0 k hk
      refine ⟨by omega, b, fun j h1 h2 => ?_⟩
      by_cases hj : j < k
      · exact c j h1 hj
      · obtain rfl : j = k := by omega
        omega
theorem spec9 (S : List Int) (n : Nat) (x : Int) (hn : 0 < n) (hm : ∀ a b, a ≤ b → b < n → S.getD (a * 2) 0 ≤ S.getD (b * 2) 0) (h0 : S.getD 0 0 ≤ x) : fnd9 (br9 S n) x n = ixo9 S n x ∧ ixo9 S n x < n ∧ S.getD (ixo9 S n x * 2) 0 ≤ x ∧ ∀ k, ixo9 S n x < k → k < n → x < S.getD (k * 2) 0 := by
  obtain ⟨a, b, c⟩ := fnd9_ok (br9 S n) x (by rw [br9_get S hn]; simpa [bg9] using h0) n hn
  rw [br9_get S a] at b
  have c' : ∀ k, fnd9 (br9 S n) x n < k → k < n → x < S.getD (k * 2) 0 := fun k h1 h2 => by
    have := c k h1 h2
    rw [br9_get S h2] at this
    exact this
  have e := ixo9_eq hm a b c'
  rw [e]
  exact ⟨rfl, a, b, c'⟩
theorem lspec9 {x : Int} (h1 : 3 ≤ x) : fnd9 (br9 lnS9 29) x 29 = lix9 x ∧ lix9 x < 29 ∧ lnS9.getD (lix9 x * 2) 0 ≤ x ∧ ∀ k, lix9 x < k → k < 29 → x < lnS9.getD (k * 2) 0 :=
  spec9 lnS9 29 x (by omega) (fun a b h1 h2 => mono_plsy9 ⟨b, h2⟩ ⟨a, by omega⟩ h1) (by show 3 ≤ x; omega)
theorem dspec9 {x : Int} (h1 : 1 ≤ x) : fnd9 (br9 dsS9 30) x 30 = dix9 x ∧ dix9 x < 30 ∧ dsS9.getD (dix9 x * 2) 0 ≤ x ∧ ∀ k, dix9 x < k → k < 30 → x < dsS9.getD (k * 2) 0 :=
  spec9 dsS9 30 x (by omega) (fun a b h1 h2 => mono_pdsy9 ⟨b, h2⟩ ⟨a, by omega⟩ h1) (by show 1 ≤ x; omega)
theorem plsy9_is (x : Int) (h1 : 3 ≤ x) (h2 : x ≤ 258) (w : World) :
    Calls Tryz.prog 9 #[.int .i64 x] w fun e w' => e = .returned (.tuple #[.int .i64 (257 + (lix9 x : Int)), .int .i64 (lnS9.getD (lix9 x * 2 + 1) 0), .int .i64 (x - lnS9.getD (lix9 x * 2) 0), .int .i64 0]) ∧ Below w.heap.size w w' := by
  refine (plsy9_ok x h1 h2 w).mono ?_
  rintro e w1 ⟨i, hi, s1, s2, rfl, b1⟩
  have HI : lix9 x = i := ixo9_eq (fun a b h1 h2 => mono_plsy9 ⟨b, h2⟩ ⟨a, by omega⟩ h1) hi s1 s2
  rw [HI]
  exact ⟨rfl, b1⟩
theorem pdsy9_is (x : Int) (h1 : 1 ≤ x) (h2 : x ≤ 32768) (w : World) :
    Calls Tryz.prog 11 #[.int .i64 x] w fun e w' => e = .returned (.tuple #[.int .i64 (dix9 x : Int), .int .i64 (dsS9.getD (dix9 x * 2 + 1) 0), .int .i64 (x - dsS9.getD (dix9 x * 2) 0), .int .i64 0]) ∧ Below w.heap.size w w' := by
  refine (pdsy9_ok x h1 h2 w).mono ?_
  rintro e w1 ⟨i, hi, s1, s2, rfl, b1⟩
  have HI : dix9 x = i := ixo9_eq (fun a b h1 h2 => mono_pdsy9 ⟨b, h2⟩ ⟨a, by omega⟩ h1) hi s1 s2
  rw [HI]
  exact ⟨rfl, b1⟩
set_option maxRecDepth 100000 in
set_option maxHeartbeats 4000000 in
theorem rfind9 (R : List Rn8) (a : Option Addr) (n cap : Nat) (x : Int) (hn : Hid (R.length = n)) (w : World) (hs : SegN w a R) (hl : n ≤ 1000) :
    Calls Tryz.prog 44 #[.slice a n cap, .int .i64 x] w fun e w' => e = .returned (.int .i64 (fnd9 R x n : Int)) ∧ Below w.heap.size w w' := by
  have HS : Hid (SegN w a R) := hs
  clear hs
  go_enter Tryz.func44, Tryz.ntmps44
  go_wp2_with fail
  go_loopw [5, 10] (fun tk ti wr => ∃ (i k : Nat), i ≤ n ∧ ti = .int .i64 (i : Int) ∧ tk = .int .i64 (k : Int) ∧ Hid (k = fnd9 R x i) ∧ Below w.heap.size w wr) (fun _ ti _ => n - (intOf ti).toNat)
  case atStart => exact ⟨0, 0, by omega, rfl, rfl, rfl, Below.refl _ _⟩
  case round =>
    obtain ⟨i, k, hin, rfl, rfl, HK, BR⟩ := hrel
    by_cases hlt : i < n
    · have hlti : (i : Int) < (n : Int) := by omega
      have hil : i < R.length := by rw [hn.out]; exact hlt
      obtain ⟨b, off, rfl, cs, cc⟩ := ((show SegN w a R from HS.out).old BR).at_ i hil
      have HF : Hid (fnd9 R x (i + 1) = if (R.getD i ⟨0, 0⟩).sy ≤ x then i else fnd9 R x i) := rfl
      generalize R.getD i ⟨0, 0⟩ = r at *
      obtain ⟨sy, ct⟩ := r
      simp only at cs cc HF
      have HB : Hid (Below w.heap.size w (wr.alloc (.cells #[.int .i64 sy, .int .i64 ct] 30))) := BR.trans ((below_box8 wr _).mono BR.size)
      by_cases hx : sy ≤ x
      · rw [if_pos hx] at HF
        go_wp2_with fail
        go_roundw
        case rel => exact ⟨i + 1, i, by omega, by go_num, rfl, HF.out.symm, HB.out⟩
        case measure => simp [intOf]; omega
      · rw [if_neg hx] at HF
        go_wp2_with fail
        go_roundw
        case rel => exact ⟨i + 1, k, by omega, by go_num, rfl, HK.out.trans HF.out.symm, HB.out⟩
        case measure => simp [intOf]; omega
    · have hge : ¬ (i : Int) < (n : Int) := by omega
      have HE : Hid (fnd9 R x n = k) := by show _ = _; rw [HK.out, show i = n by omega]
      go_wp2_with fail
      go_ret
      exact ⟨by rw [HE.out]; rfl, BR⟩

set_option maxRecDepth 100000 in
set_option maxHeartbeats 4000000 in
theorem rlsy9_no (x : Int) (h : x < 3 ∨ 258 < x) (w : World) :
    Calls Tryz.prog 10 #[.int .i64 x] w fun e w' => e = .returned (.tuple #[.int .i64 0, .int .i64 0, .int .i64 0, .int .i64 1]) ∧ w' = w := by
  by_cases h1 : x < 3
  · go_enter Tryz.func10, Tryz.ntmps10
    go_wp2_with fail
    refine bodyPost_ret (results_tmp49 rfl _ _) rfl ?_
    exact ⟨rfl, rfl⟩
  · have h2 : 258 < x := by omega
    go_enter Tryz.func10, Tryz.ntmps10
    go_wp2_with fail
    refine bodyPost_ret (results_tmp49 rfl _ _) rfl ?_
    exact ⟨rfl, rfl⟩
set_option maxRecDepth 100000 in
set_option maxHeartbeats 4000000 in
theorem rlsy9_is (x : Int) (h1 : 3 ≤ x) (h2 : x ≤ 258) (w : World) :
    Calls Tryz.prog 10 #[.int .i64 x] w fun e w' => e = .returned (.tuple #[.int .i64 (257 + (lix9 x : Int)), .int .i64 (lnS9.getD (lix9 x * 2 + 1) 0), .int .i64 (x - lnS9.getD (lix9 x * 2) 0), .int .i64 0]) ∧ Below w.heap.size w w' := by
  have j1 : ¬ x < 3 := by omega
  have j2 : ¬ (258 : Int) < x := by omega
  obtain ⟨s0, s1, s2, _⟩ := lspec9 h1
  have bb := bd_plsy9 ⟨lix9 x, s1⟩
  simp only at bb
  obtain ⟨i, hi⟩ : ∃ i, i = lix9 x := ⟨_, rfl⟩
  obtain ⟨z0, hz0⟩ : ∃ z, z = lnS9.getD (i * 2) 0 := ⟨_, rfl⟩
  obtain ⟨z1, hz1⟩ : ∃ z, z = lnS9.getD (i * 2 + 1) 0 := ⟨_, rfl⟩
  rw [← hi] at bb s0 s1 s2
  rw [← hz0] at bb s2
  rw [← hz1] at bb
  rw [← hi, ← hz0, ← hz1]
  have HZ : Hid (lnS9.getD (i * 2) 0 = z0 ∧ lnS9.getD (i * 2 + 1) 0 = z1) := ⟨hz0.symm, hz1.symm⟩
  clear hz0 hz1 hi
  go_enter Tryz.func10, Tryz.ntmps10
  go_wp2_with fail
  refine (rlens9 w).mono ?_
  rintro e w1 ⟨la, lc, rfl, O1, b1⟩
  have sg := own_segN O1 (br9_len _ _)
  have CF := rfind9 (br9 lnS9 29) la 29 lc x (br9_len _ _) w1 sg (by omega)
  rw [s0] at CF
  clear O1 s0
  go_wp2_with fail
  refine CF.mono ?_
  rintro e w2 ⟨rfl, b2⟩
  obtain ⟨b, off, rfl, cs, cc⟩ := (sg.old b2).at_ i (by rw [br9_len]; exact s1)
  rw [br9_get _ s1] at cs cc
  unfold bg9 at cs cc
  simp only at cs cc
  rw [HZ.out.1] at cs
  rw [HZ.out.2] at cc
  have B2 : Below w.heap.size w w2 := b1.trans (b2.mono b1.size)
  clear CF sg b1 b2 HZ
  have hii : (i : Int) < 29 := by omega
  have i2 : IntKind.i64.wrap (x - z0) = x - z0 := IntWalk.i64_in _ (by omega)
  have i3 : IntKind.i64.wrap (257 + (i : Int)) = 257 + (i : Int) := IntWalk.i64_in _ (by omega)
  go_wp2_with fail
  go_region_held3 (fun w' => w'.cell? ⟨b, off + i * 2, none⟩ = some (.int .i64 z0) ∧ w'.cell? ⟨b, off + i * 2 + 1, none⟩ = some (.int .i64 z1)) (exact ⟨cs, cc⟩) (fail)
  go_wp2_with fail
  refine bodyPost_ret (results_tmp49 rfl _ _) rfl ?_
  exact ⟨rfl, B2.drew⟩

set_option maxRecDepth 100000 in
set_option maxHeartbeats 4000000 in
theorem rdsy9_no (x : Int) (h : x < 1 ∨ 32768 < x) (w : World) :
    Calls Tryz.prog 12 #[.int .i64 x] w fun e w' => e = .returned (.tuple #[.int .i64 0, .int .i64 0, .int .i64 0, .int .i64 1]) ∧ w' = w := by
  by_cases h1 : x < 1
  · go_enter Tryz.func12, Tryz.ntmps12
    go_wp2_with fail
    refine bodyPost_ret (results_tmp49 rfl _ _) rfl ?_
    exact ⟨rfl, rfl⟩
  · have h2 : 32768 < x := by omega
    go_enter Tryz.func12, Tryz.ntmps12
    go_wp2_with fail
    refine bodyPost_ret (results_tmp49 rfl _ _) rfl ?_
    exact ⟨rfl, rfl⟩
set_option maxRecDepth 100000 in
set_option maxHeartbeats 4000000 in
theorem rdsy9_is (x : Int) (h1 : 1 ≤ x) (h2 : x ≤ 32768) (w : World) :
    Calls Tryz.prog 12 #[.int .i64 x] w fun e w' => e = .returned (.tuple #[.int .i64 ((dix9 x : Int)), .int .i64 (dsS9.getD (dix9 x * 2 + 1) 0), .int .i64 (x - dsS9.getD (dix9 x * 2) 0), .int .i64 0]) ∧ Below w.heap.size w w' := by
  have j1 : ¬ x < 1 := by omega
  have j2 : ¬ (32768 : Int) < x := by omega
  obtain ⟨s0, s1, s2, _⟩ := dspec9 h1
  have bb := bd_pdsy9 ⟨dix9 x, s1⟩
  simp only at bb
  obtain ⟨i, hi⟩ : ∃ i, i = dix9 x := ⟨_, rfl⟩
  obtain ⟨z0, hz0⟩ : ∃ z, z = dsS9.getD (i * 2) 0 := ⟨_, rfl⟩
  obtain ⟨z1, hz1⟩ : ∃ z, z = dsS9.getD (i * 2 + 1) 0 := ⟨_, rfl⟩
  rw [← hi] at bb s0 s1 s2
  rw [← hz0] at bb s2
  rw [← hz1] at bb
  rw [← hi, ← hz0, ← hz1]
  have HZ : Hid (dsS9.getD (i * 2) 0 = z0 ∧ dsS9.getD (i * 2 + 1) 0 = z1) := ⟨hz0.symm, hz1.symm⟩
  clear hz0 hz1 hi
  go_enter Tryz.func12, Tryz.ntmps12
  go_wp2_with fail
  refine (rdists9 w).mono ?_
  rintro e w1 ⟨la, lc, rfl, O1, b1⟩
  have sg := own_segN O1 (br9_len _ _)
  have CF := rfind9 (br9 dsS9 30) la 30 lc x (br9_len _ _) w1 sg (by omega)
  rw [s0] at CF
  clear O1 s0
  go_wp2_with fail
  refine CF.mono ?_
  rintro e w2 ⟨rfl, b2⟩
  obtain ⟨b, off, rfl, cs, cc⟩ := (sg.old b2).at_ i (by rw [br9_len]; exact s1)
  rw [br9_get _ s1] at cs cc
  unfold bg9 at cs cc
  simp only at cs cc
  rw [HZ.out.1] at cs
  rw [HZ.out.2] at cc
  have B2 : Below w.heap.size w w2 := b1.trans (b2.mono b1.size)
  clear CF sg b1 b2 HZ
  have hii : (i : Int) < 30 := by omega
  have i2 : IntKind.i64.wrap (x - z0) = x - z0 := IntWalk.i64_in _ (by omega)
  have i3 : IntKind.i64.wrap (257 + (i : Int)) = 257 + (i : Int) := IntWalk.i64_in _ (by omega)
  go_wp2_with fail
  go_region_held3 (fun w' => w'.cell? ⟨b, off + i * 2, none⟩ = some (.int .i64 z0) ∧ w'.cell? ⟨b, off + i * 2 + 1, none⟩ = some (.int .i64 z1)) (exact ⟨cs, cc⟩) (fail)
  go_wp2_with fail
  refine bodyPost_ret (results_tmp49 rfl _ _) rfl ?_
  exact ⟨rfl, B2.drew⟩
end Go.Proofs.YtiankbopnjhhaaaGreatDoor

namespace Go.Proofs.YtiankbopnjhhaaaGreatDoor
open Go.RowKit
set_option linter.unusedVariables false

/-! BlockSymbols. -/
structure Sy9 (s m v e : Int) (f : Nat) (x : Int) : Prop where
  out : ∀ w, Calls Tryz.prog f #[.int .i64 x] w fun r w' => r = .returned (.tuple #[.int .i64 s, .int .i64 m, .int .i64 v, .int .i64 e]) ∧ Below w.heap.size w w'
theorem len_sy9 (x : Int) : ∃ s m v e, Sy9 s m v e 9 x ∧ Sy9 s m v e 10 x := by
  by_cases h : 3 ≤ x ∧ x ≤ 258
  · exact ⟨_, _, _, _, ⟨fun w => plsy9_is x h.1 h.2 w⟩, ⟨fun w => rlsy9_is x h.1 h.2 w⟩⟩
  · exact ⟨0, 0, 0, 1, ⟨fun w => (plsy9_no x (by omega) w).mono (by rintro e w' ⟨rfl, rfl⟩; exact ⟨rfl, Below.refl _ _⟩)⟩, ⟨fun w => (rlsy9_no x (by omega) w).mono (by rintro e w' ⟨rfl, rfl⟩; exact ⟨rfl, Below.refl _ _⟩)⟩⟩
theorem dist_sy9 (x : Int) : ∃ s m v e, Sy9 s m v e 11 x ∧ Sy9 s m v e 12 x := by
  by_cases h : 1 ≤ x ∧ x ≤ 32768
  · exact ⟨_, _, _, _, ⟨fun w => pdsy9_is x h.1 h.2 w⟩, ⟨fun w => rdsy9_is x h.1 h.2 w⟩⟩
  · exact ⟨0, 0, 0, 1, ⟨fun w => (pdsy9_no x (by omega) w).mono (by rintro e w' ⟨rfl, rfl⟩; exact ⟨rfl, Below.refl _ _⟩)⟩, ⟨fun w => (rdsy9_no x (by omega) w).mono (by rintro e w' ⟨rfl, rfl⟩; exact ⟨rfl, Below.refl _ _⟩)⟩⟩
theorem tab_at9 {w : World} {base k cap : Nat} {la : Option Addr} {L : List Int} (O : w.ownsRow base 30 2 (.slice la k cap) k (flatN (br9 L k))) {i : Nat} (hi : i < k) : ∃ b off, la = some ⟨b, off, none⟩ ∧ w.cell? ⟨b, off + i * 2, none⟩ = some (.int .i64 (L.getD (i * 2) 0)) ∧ w.cell? ⟨b, off + i * 2 + 1, none⟩ = some (.int .i64 (L.getD (i * 2 + 1) 0)) := by
  obtain ⟨b, off, e, c1, c2⟩ := (own_segN O (br9_len _ _)).at_ i (by rw [br9_len]; exact hi)
  rw [br9_get _ hi] at c1 c2
  exact ⟨b, off, e, c1, c2⟩
set_option maxRecDepth 100000 in
set_option maxHeartbeats 16000000 in
theorem blockSymbols_walk (w : World) (tab : TabS w ∧ TabO w) (n : Int) (hn : -9223372036854775808 ≤ n) (hn2 : n ≤ 9223372036854775807) (d : Int) (hd : -9223372036854775808 ≤ d) (hd2 : d ≤ 9223372036854775807) :
    Calls Tryz.prog 3 #[.int .i64 n, .int .i64 d] w fun e w' => e = .returned (.bool true) ∧ Below w.heap.size w w' := by
  obtain ⟨s1, m1, v1, e1, CA, CB⟩ := len_sy9 n
  obtain ⟨s2, m2, v2, e2, CC, CD⟩ := dist_sy9 d
  go_enter Tryz.func3, Tryz.ntmps3
  go_wp2_with fail
  refine (CA.out w).mono ?_
  rintro e w1 ⟨rfl, b1⟩
  go_wp2_with fail
  refine (CB.out w1).mono ?_
  rintro e w2 ⟨rfl, b2⟩
  have B2 : Below w.heap.size w w2 := b1.trans (b2.mono b1.size)
  clear b1 b2 CA CB
  go_wp2_with fail
  refine (CC.out w2).mono ?_
  rintro e w3 ⟨rfl, b3⟩
  go_wp2_with fail
  refine (CD.out w3).mono ?_
  rintro e w4 ⟨rfl, b4⟩
  have B4 : Below w.heap.size w w4 := (B2.trans (b3.mono B2.size)).trans (b4.mono (by have := B2.size; have := b3.size; omega))
  clear b3 b4 CC CD B2
  go_wp2_with fail
  by_cases hA : n < 257
  · refine (plof9_no n (by omega) w4).mono ?_
    rintro e w6 ⟨rfl, hw6⟩
    have B6 : Below w.heap.size w w6 := by rw [hw6]; exact B4
    clear hw6 B4
    go_wp2_with fail
    by_cases hB : d < 0
    · refine (pdof9_no d (by omega) w6).mono ?_
      rintro e w8 ⟨rfl, hw8⟩
      have B8 : Below w.heap.size w w8 := by rw [hw8]; exact B6
      clear hw8 B6
      go_wp2_with fail
      refine (plives9 w8).mono ?_
      rintro e w9 ⟨rfl, b9⟩
      go_wp2_with fail
      go_ret
      exact ⟨rfl, B8.trans (b9.mono B8.size)⟩
    by_cases hB2 : 29 < d
    · refine (pdof9_no d (by omega) w6).mono ?_
      rintro e w8 ⟨rfl, hw8⟩
      have B8 : Below w.heap.size w w8 := by rw [hw8]; exact B6
      clear hw8 B6
      go_wp2_with fail
      refine (plives9 w8).mono ?_
      rintro e w9 ⟨rfl, b9⟩
      go_wp2_with fail
      go_ret
      exact ⟨rfl, B8.trans (b9.mono B8.size)⟩
    · obtain ⟨j, rfl⟩ : ∃ j : Nat, d = (j : Int) := ⟨d.toNat, by omega⟩
      have hj : j < 30 := by omega
      have hj2 : (j : Int) < 30 := by omega
      have CL := pdof9_ok (j : Int) j rfl hj w6
      obtain ⟨y0, hy0⟩ : ∃ z, z = dsS9.getD (j * 2) 0 := ⟨_, rfl⟩
      obtain ⟨y1, hy1⟩ : ∃ z, z = dsS9.getD (j * 2 + 1) 0 := ⟨_, rfl⟩
      have HY : Hid (y0 = dsS9.getD (j * 2) 0 ∧ y1 = dsS9.getD (j * 2 + 1) 0) := ⟨hy0, hy1⟩
      rw [← hy0, ← hy1] at CL
      clear hy0 hy1
      refine CL.mono ?_
      rintro e w8 ⟨rfl, b8⟩
      clear CL
      go_wp2_with fail
      refine (rdists9 w8).mono ?_
      rintro e w10 ⟨la, lc, rfl, O7, b10⟩
      obtain ⟨g, o, rfl, c0, c1⟩ := tab_at9 O7 hj
      rw [← HY.out.1] at c0
      rw [← HY.out.2] at c1
      go_wp2_with fail
      refine (rdists9 w10).mono ?_
      rintro e w11 ⟨lb, ld, rfl, O6, b11⟩
      obtain ⟨g6, o6, rfl, d0, d1⟩ := tab_at9 O6 hj
      rw [← HY.out.1] at d0
      rw [← HY.out.2] at d1
      have B8 : Below w.heap.size w w11 := ((B6.trans (b8.mono B6.size)).trans (b10.mono (by have := B6.size; have := b8.size; omega))).trans (b11.mono (by have := B6.size; have := b8.size; have := b10.size; omega))
      clear b8 b10 b11 O7 O6 c0 c1 HY
      go_wp2_with fail
      refine (plives9 w11).mono ?_
      rintro e w9 ⟨rfl, b9⟩
      go_wp2_with fail
      go_ret
      exact ⟨rfl, B8.trans (b9.mono B8.size)⟩
  by_cases hA2 : 285 < n
  · refine (plof9_no n (by omega) w4).mono ?_
    rintro e w6 ⟨rfl, hw6⟩
    have B6 : Below w.heap.size w w6 := by rw [hw6]; exact B4
    clear hw6 B4
    go_wp2_with fail
    by_cases hB : d < 0
    · refine (pdof9_no d (by omega) w6).mono ?_
      rintro e w8 ⟨rfl, hw8⟩
      have B8 : Below w.heap.size w w8 := by rw [hw8]; exact B6
      clear hw8 B6
      go_wp2_with fail
      refine (plives9 w8).mono ?_
      rintro e w9 ⟨rfl, b9⟩
      go_wp2_with fail
      go_ret
      exact ⟨rfl, B8.trans (b9.mono B8.size)⟩
    by_cases hB2 : 29 < d
    · refine (pdof9_no d (by omega) w6).mono ?_
      rintro e w8 ⟨rfl, hw8⟩
      have B8 : Below w.heap.size w w8 := by rw [hw8]; exact B6
      clear hw8 B6
      go_wp2_with fail
      refine (plives9 w8).mono ?_
      rintro e w9 ⟨rfl, b9⟩
      go_wp2_with fail
      go_ret
      exact ⟨rfl, B8.trans (b9.mono B8.size)⟩
    · obtain ⟨j, rfl⟩ : ∃ j : Nat, d = (j : Int) := ⟨d.toNat, by omega⟩
      have hj : j < 30 := by omega
      have hj2 : (j : Int) < 30 := by omega
      have CL := pdof9_ok (j : Int) j rfl hj w6
      obtain ⟨y0, hy0⟩ : ∃ z, z = dsS9.getD (j * 2) 0 := ⟨_, rfl⟩
      obtain ⟨y1, hy1⟩ : ∃ z, z = dsS9.getD (j * 2 + 1) 0 := ⟨_, rfl⟩
      have HY : Hid (y0 = dsS9.getD (j * 2) 0 ∧ y1 = dsS9.getD (j * 2 + 1) 0) := ⟨hy0, hy1⟩
      rw [← hy0, ← hy1] at CL
      clear hy0 hy1
      refine CL.mono ?_
      rintro e w8 ⟨rfl, b8⟩
      clear CL
      go_wp2_with fail
      refine (rdists9 w8).mono ?_
      rintro e w10 ⟨la, lc, rfl, O7, b10⟩
      obtain ⟨g, o, rfl, c0, c1⟩ := tab_at9 O7 hj
      rw [← HY.out.1] at c0
      rw [← HY.out.2] at c1
      go_wp2_with fail
      refine (rdists9 w10).mono ?_
      rintro e w11 ⟨lb, ld, rfl, O6, b11⟩
      obtain ⟨g6, o6, rfl, d0, d1⟩ := tab_at9 O6 hj
      rw [← HY.out.1] at d0
      rw [← HY.out.2] at d1
      have B8 : Below w.heap.size w w11 := ((B6.trans (b8.mono B6.size)).trans (b10.mono (by have := B6.size; have := b8.size; omega))).trans (b11.mono (by have := B6.size; have := b8.size; have := b10.size; omega))
      clear b8 b10 b11 O7 O6 c0 c1 HY
      go_wp2_with fail
      refine (plives9 w11).mono ?_
      rintro e w9 ⟨rfl, b9⟩
      go_wp2_with fail
      go_ret
      exact ⟨rfl, B8.trans (b9.mono B8.size)⟩
  · obtain ⟨i, hi⟩ : ∃ i : Nat, (i : Int) = n - 257 := ⟨(n - 257).toNat, by omega⟩
    have hi29 : i < 29 := by omega
    have CL := plof9_ok n i hi hi29 w4
    obtain ⟨z0, hz0⟩ : ∃ z, z = lnS9.getD (i * 2) 0 := ⟨_, rfl⟩
    obtain ⟨z1, hz1⟩ : ∃ z, z = lnS9.getD (i * 2 + 1) 0 := ⟨_, rfl⟩
    have HZ : Hid (z0 = lnS9.getD (i * 2) 0 ∧ z1 = lnS9.getD (i * 2 + 1) 0) := ⟨hz0, hz1⟩
    rw [← hz0, ← hz1] at CL
    clear hz0 hz1
    refine CL.mono ?_
    rintro e w5 ⟨rfl, b5⟩
    obtain rfl : n = 257 + (i : Int) := by omega
    have ii : 257 + (i : Int) - 257 = (i : Int) := by omega
    have i3 : IntKind.i64.wrap (257 + (i : Int) - 257) = (i : Int) := by rw [ii]; exact IntWalk.i64_in _ (by omega)
    have hi2 : (i : Int) < 29 := by omega
    clear CL hi
    go_wp2_with fail
    refine (rlens9 w5).mono ?_
    rintro e w7 ⟨la, lc, rfl, O7, b7⟩
    obtain ⟨g, o, rfl, c0, c1⟩ := tab_at9 O7 hi29
    rw [← HZ.out.1] at c0
    rw [← HZ.out.2] at c1
    go_wp2_with fail
    refine (rlens9 w7).mono ?_
    rintro e w6 ⟨lb, ld, rfl, O6, b6⟩
    obtain ⟨g6, o6, rfl, d0, d1⟩ := tab_at9 O6 hi29
    rw [← HZ.out.1] at d0
    rw [← HZ.out.2] at d1
    have B6 : Below w.heap.size w w6 := ((B4.trans (b5.mono B4.size)).trans (b7.mono (by have := B4.size; have := b5.size; omega))).trans (b6.mono (by have := B4.size; have := b5.size; have := b7.size; omega))
    clear b5 b6 b7 O7 O6 c0 c1 HZ
    go_wp2_with fail
    clear d0 d1 i3 ii hi2
    by_cases hB : d < 0
    · refine (pdof9_no d (by omega) w6).mono ?_
      rintro e w8 ⟨rfl, hw8⟩
      have B8 : Below w.heap.size w w8 := by rw [hw8]; exact B6
      clear hw8 B6
      go_wp2_with fail
      refine (plives9 w8).mono ?_
      rintro e w9 ⟨rfl, b9⟩
      go_wp2_with fail
      go_ret
      exact ⟨rfl, B8.trans (b9.mono B8.size)⟩
    by_cases hB2 : 29 < d
    · refine (pdof9_no d (by omega) w6).mono ?_
      rintro e w8 ⟨rfl, hw8⟩
      have B8 : Below w.heap.size w w8 := by rw [hw8]; exact B6
      clear hw8 B6
      go_wp2_with fail
      refine (plives9 w8).mono ?_
      rintro e w9 ⟨rfl, b9⟩
      go_wp2_with fail
      go_ret
      exact ⟨rfl, B8.trans (b9.mono B8.size)⟩
    · obtain ⟨j, rfl⟩ : ∃ j : Nat, d = (j : Int) := ⟨d.toNat, by omega⟩
      have hj : j < 30 := by omega
      have hj2 : (j : Int) < 30 := by omega
      have CL := pdof9_ok (j : Int) j rfl hj w6
      obtain ⟨y0, hy0⟩ : ∃ z, z = dsS9.getD (j * 2) 0 := ⟨_, rfl⟩
      obtain ⟨y1, hy1⟩ : ∃ z, z = dsS9.getD (j * 2 + 1) 0 := ⟨_, rfl⟩
      have HY : Hid (y0 = dsS9.getD (j * 2) 0 ∧ y1 = dsS9.getD (j * 2 + 1) 0) := ⟨hy0, hy1⟩
      rw [← hy0, ← hy1] at CL
      clear hy0 hy1
      refine CL.mono ?_
      rintro e w8 ⟨rfl, b8⟩
      clear CL
      go_wp2_with fail
      refine (rdists9 w8).mono ?_
      rintro e w10 ⟨la, lc, rfl, O7, b10⟩
      obtain ⟨g, o, rfl, c0, c1⟩ := tab_at9 O7 hj
      rw [← HY.out.1] at c0
      rw [← HY.out.2] at c1
      go_wp2_with fail
      refine (rdists9 w10).mono ?_
      rintro e w11 ⟨lb, ld, rfl, O6, b11⟩
      obtain ⟨g6, o6, rfl, d0, d1⟩ := tab_at9 O6 hj
      rw [← HY.out.1] at d0
      rw [← HY.out.2] at d1
      have B8 : Below w.heap.size w w11 := ((B6.trans (b8.mono B6.size)).trans (b10.mono (by have := B6.size; have := b8.size; omega))).trans (b11.mono (by have := B6.size; have := b8.size; have := b10.size; omega))
      clear b8 b10 b11 O7 O6 c0 c1 HY
      go_wp2_with fail
      refine (plives9 w11).mono ?_
      rintro e w9 ⟨rfl, b9⟩
      go_wp2_with fail
      go_ret
      exact ⟨rfl, B8.trans (b9.mono B8.size)⟩
end Go.Proofs.YtiankbopnjhhaaaGreatDoor

namespace Go.Proofs.YtiankbopnjhhaaaGreatDoor
open Go.ChangeShapes Go.WideShapes Go.ChangeAt Go.RowKit
set_option linter.unusedVariables false

/-- A slice of whole numbers that came in: what lies there, and how it was read. -/
theorem open_seg {H : Type} {enc : TypeId × Value → H} {P : Program} {W : World} {T e : TypeId} {k : IntKind} {M : Int} {a : Option Addr} {len cap : Nat} {d : DataW H} {p : List MemPlace}
    (hT : P.underlying T = some (.slice e)) (he : P.underlying e = some (.int k)) (hc : P.cellsOf e = 1) (hM : 0 ≤ M) (hwf : ∀ n, (Lit.int k n).wf = true → 0 ≤ n ∧ n ≤ M)
    (h : DataW.Trod enc P W 0 (fun _ => true) true T (.slice a len cap) d p) :
    ∃ zs : List Int, zs.length = len ∧ SegK k M W a zs ∧ len ≤ cap ∧ (a = none → cap = 0) ∧ ((d = .nil ∧ len = 0) ∨ ∃ elems spare, d = .slice elems spare ∧ elems.length = len) := by
  obtain ⟨fuel, hf⟩ := h
  rcases open_ints hT he hc hf with ⟨hcs, hx⟩ | ⟨x, l, c, zs, hcs, _, hl, hm, hz, hx, hcell, hwz⟩
  · simp [Value.cells] at hcs
    obtain ⟨rfl, rfl, rfl⟩ := hcs
    simp only [Prod.mk.injEq] at hx
    exact ⟨[], rfl, SegK.nil hM _ _, Nat.le_refl _, fun _ => rfl, Or.inl ⟨hx.1, rfl⟩⟩
  · simp [Value.cells] at hcs
    obtain ⟨rfl, rfl, rfl⟩ := hcs
    simp only [Prod.mk.injEq] at hx
    simp only [if_true] at hz
    refine ⟨zs.take len, by simp; omega, ⟨fun i hi => ?_, hM, getD_bd hM ?_⟩, hl, (by intro h; cases h), Or.inr ⟨_, _, hx.1, by simp [ChangeShapes.lits]; omega⟩⟩
    · simp at hi
      have hi2 : i < len := by omega
      have h1 := hcell i (by omega)
      obtain ⟨b, off, spot⟩ := x
      have hs : spot = none := by
        have := hcell 0 (by omega)
        simpa [Addr.add] using World.cell?_spot this
      subst hs
      refine ⟨b, off, rfl, ?_⟩
      have hadd : (⟨b, off, none⟩ : Addr).add i = ⟨b, off + i, none⟩ := by unfold Addr.add; split <;> simp_all
      rw [hadd] at h1
      rw [h1]
      simp [List.getD, hi2]
    · intro z hz1
      exact hwf z (hwz z (List.mem_of_mem_take hz1))
end Go.Proofs.YtiankbopnjhhaaaGreatDoor
