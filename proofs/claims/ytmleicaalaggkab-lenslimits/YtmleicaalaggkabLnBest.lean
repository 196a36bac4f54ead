import Derived.Test.YtmleicaalaggkabLnHelp
namespace Go.Proofs.Ytmleicaalaggkab
open Go.RowKit
set_option linter.unusedVariables false

/-- The sum of count times length over the symbols in use among the first k. -/
def cst (zs ls : List Int) (k : Nat) : Nat := ((usI zs k).map fun i => (zs.getD i 0).toNat * (ls.getD i 0).toNat).sum
theorem cst_snoc (zs ls : List Int) (k : Nat) : cst zs ls (k + 1) = cst zs ls k + (if zs.getD k 0 = 0 then 0 else (zs.getD k 0).toNat * (ls.getD k 0).toNat) := by
  unfold cst
  rw [usI_snoc, List.map_append, List.sum_append_nat]
  split <;> simp
theorem cst_le {zs ls : List Int} (he : errOf zs = 0) : ∀ k, (∀ i, i < k → zs.getD i 0 ≠ 0 → ls.getD i 0 ≤ 15) → cst zs ls k ≤ k * 16492674416640
  | 0, _ => by simp [cst, usI]
  | k + 1, h => by
    have h1 := cst_le he k (fun i hi => h i (by omega))
    rw [cst_snoc, Nat.succ_mul]
    split
    · exact Nat.le_trans h1 (Nat.le_add_right _ _)
    · rename_i h2
      have h3 := h k (by omega) h2
      have h4 := (errOf_zero he).2 k
      have h5 : (zs.getD k 0).toNat * (ls.getD k 0).toNat ≤ 1099511627776 * 15 := Nat.mul_le_mul (by omega) (by omega)
      exact Nat.add_le_add h1 h5

set_option maxHeartbeats 400000 in
theorem lcost_any (a b : Option Addr) (zs ls : List Int) (n m ca cb : Nat) (hn : Hid (zs.length = n)) (hm : Hid (ls.length = m)) (hnm : n ≤ m) (w : World) (hs : SegZ w a zs) (ht : SegZ w b ls) (he : Hid (errOf zs = 0)) (hb15 : Hid (∀ i, i < n → zs.getD i 0 ≠ 0 → 0 ≤ ls.getD i 0 ∧ ls.getD i 0 ≤ 15)) :
    Calls Try.prog 11 #[.slice a n ca, .slice b m cb] w fun e w' => e = .returned (.int .i64 (cst zs ls n : Nat)) ∧ Below w.heap.size w w' := by
  have hl : n ≤ 288 := by have := (errOf_zero he.out).1; have := hn.out; omega
  go_enter Try.func11, Try.ntmps11
  go_wp2
  go_loopw [5, 6] (fun tn ti wr => ∃ (k : Nat) (S : Int), k ≤ n ∧ ti = .int .i64 k ∧ tn = .int .i64 S ∧ Hid (S = (cst zs ls k : Nat)) ∧ Below w.heap.size w wr) (fun _ ti _ => n - (intOf ti).toNat)
  case atStart => exact ⟨0, 0, Nat.zero_le _, rfl, rfl, (by simp [cst, usI] : _ = _), Below.refl _ _⟩
  case round =>
    obtain ⟨k, S, hk, rfl, rfl, HS, hb⟩ := hrel
    have hs := hs.old hb
    have ht := ht.old hb
    have d3 : 0 ≤ S ∧ S ≤ k * 16492674416640 := by
      have h1 := cst_le (ls := ls) he.out k (fun i hi h => (hb15.out i (by omega) h).2)
      rw [HS.out]
      omega
    by_cases h1 : k < n
    · have h1i : (k : Int) < (n : Int) := by omega
      have h1m : (k : Int) < (m : Int) := by omega
      obtain ⟨b1, o1, rfl, c1⟩ := hs.at_ k (by have := hn.out; omega)
      obtain ⟨b2, o2, rfl, c2⟩ := ht.at_ k (by have := hm.out; omega)
      have HSN : Hid (((cst zs ls (k + 1) : Nat) : Int) = S + (if zs.getD k 0 = 0 then 0 else (((zs.getD k 0).toNat * (ls.getD k 0).toNat : Nat) : Int))) := by
        show _ = _
        rw [cst_snoc, HS.out]
        push_cast
        split <;> simp
      have HB : Hid _ := hb15.out k h1
      have d1 := (errOf_zero he.out).2 k
      have d2 := ht.bd k
      generalize zs.getD k 0 = z at *
      generalize ls.getD k 0 = y at *
      by_cases hz : 0 < z
      · have hy := HB.out (by omega)
        have m1 : 0 ≤ z * y := Int.mul_nonneg d1.1 (by omega)
        have m2 : z * y ≤ 1099511627776 * 15 := Int.mul_le_mul d1.2 (by omega) (by omega) (by decide)
        have hm3 : IntKind.i64.wrap (z * y) = z * y := IntWalk.i64_in _ (by omega)
        have hm4 : IntKind.i64.wrap (S + z * y) = S + z * y := IntWalk.i64_in _ (by omega)
        have hm5 : RowKit.wrap64 (z * y) = z * y := by rw [← IntWalk.i64_left]; exact hm3
        have hm6 : RowKit.wrap64 (S + z * y) = S + z * y := by rw [← IntWalk.i64_left]; exact hm4
        have HE : Hid (S + z * y = (cst zs ls (k + 1) : Nat)) := by
          show _ = _
          rw [HSN.out, if_neg (by omega)]
          push_cast
          rw [Int.toNat_of_nonneg (by omega), Int.toNat_of_nonneg (by omega)]
        go_wp2
        go_region
        go_wp2
        go_roundw
        case rel => exact ⟨k + 1, S + z * y, by omega, by go_num, rfl, HE, hb.drew⟩
        case measure => simp [intOf]; omega
      · have HE : Hid (S = (cst zs ls (k + 1) : Nat)) := by
          show _ = _
          rw [HSN.out, if_pos (by omega)]
          simp
        go_wp2
        go_roundw
        case rel => exact ⟨k + 1, S, by omega, by go_num, rfl, HE, hb⟩
        case measure => simp [intOf]; omega
    · obtain rfl : k = n := by omega
      go_wp2
      go_ret
      exact ⟨by rw [← HS.out] <;> rfl, hb⟩

theorem pairs_sum (zs : List Int) (f : Nat × Nat → Nat) : ((LFz zs).map f).sum = ((usI zs zs.length).map fun i => f ((zs.getD i 0).toNat, i)).sum := by
  have h := ((LFz_perm zs).map f).sum_nat
  rw [h, pairs_usI, List.map_map]
  rfl
theorem cst_LF {zs : List Int} (he : errOf zs = 0) {lim : Nat} (h1 : 1 ≤ lim) (hl : nUse zs ≤ 2 ^ lim) (hn : 2 ≤ nUse zs) : cst zs (lensL lim zs) zs.length = costX (XP (LFz zs) lim) := by
  have h2 := pairs_sum zs (fun x => x.1 * lenOf (LFz zs) lim x.2)
  unfold costX XP cst
  rw [List.map_map]
  have h3 : ((LFz zs).map ((fun x : Nat × Nat => x.1 * x.2) ∘ fun x => (x.1, lenOf (LFz zs) lim x.2))).sum = ((LFz zs).map fun x => x.1 * lenOf (LFz zs) lim x.2).sum := rfl
  rw [h3, h2]
  congr 1
  apply List.map_congr_left
  intro i hi
  rw [lens_get he h1 hl hn]
  simp
/-- No lengths within the limit that take at most the whole space cost less. -/
theorem cst_best {zs os : List Int} (he : errOf zs = 0) {lim : Nat} (h1 : 1 ≤ lim) (h15 : lim ≤ 15) (hl : nUse zs ≤ 2 ^ lim)
    (hin : ∀ i, i < zs.length → zs.getD i 0 ≠ 0 → 1 ≤ os.getD i 0 ∧ os.getD i 0 ≤ lim) (hk : ((usI zs zs.length).map fun i => 2 ^ (15 - (os.getD i 0).toNat)).sum ≤ 32768) :
    cst zs (lensL lim zs) zs.length ≤ cst zs os zs.length := by
  have hu := nUse_us zs
  by_cases h0 : nUse zs = 0
  · have : usI zs zs.length = [] := List.length_eq_zero_iff.1 (by omega)
    unfold cst
    rw [this]
    simp
  · by_cases h2 : nUse zs = 1
    · obtain ⟨s, e1, e2, e3⟩ := lens_one he (lim := lim) h2
      have hs : s ∈ usI zs zs.length := by rw [e1]; simp
      have h3 := hin s e3 (usI_mem.1 hs).2
      unfold cst
      rw [e1]
      simp only [List.map_cons, List.map_nil, List.sum_cons, List.sum_nil, e2, Nat.add_zero]
      exact Nat.mul_le_mul_left _ (by omega)
    · have hn : 2 ≤ nUse zs := by omega
      rw [cst_LF he h1 hl hn]
      obtain ⟨f1, f2, f3⟩ := LF_facts he
      have hX : cst zs os zs.length = costX ((usI zs zs.length).map fun i => ((zs.getD i 0).toNat, (os.getD i 0).toNat)) := by
        unfold costX cst
        rw [List.map_map]
        rfl
      rw [hX]
      have hbd : ∀ x ∈ (usI zs zs.length).map (fun i => ((zs.getD i 0).toNat, (os.getD i 0).toNat)), 1 ≤ x.2 ∧ x.2 ≤ lim := by
        intro x hx
        obtain ⟨i, hi, rfl⟩ := List.mem_map.1 hx
        have h3 := usI_mem.1 hi
        have h4 := hin i h3.1 h3.2
        simp only
        omega
      refine pm_best (LFz zs) f1 f2 f3 lim h1 hn hl _ ?_ hbd ?_
      · rw [List.map_map]
        have := ((LFz_perm zs).map (·.1)).symm
        rw [pairs_usI, List.map_map] at this
        exact this
      · rw [kraft_all _ _ (fun x hx => (hbd x hx).1), List.map_map]
        have h4 : ((usI zs zs.length).map fun i => 2 ^ (15 - (os.getD i 0).toNat)) = (usI zs zs.length).map fun i => 2 ^ (15 - lim) * 2 ^ (lim - (os.getD i 0).toNat) := by
          apply List.map_congr_left
          intro i hi
          have h3 := usI_mem.1 hi
          have h5 := hin i h3.1 h3.2
          rw [← Nat.pow_add]
          congr 1
          omega
        rw [h4, sum_mul] at hk
        have h6 : (32768 : Nat) = 2 ^ (15 - lim) * 2 ^ lim := by
          rw [← Nat.pow_add, show 15 - lim + lim = 15 by omega]
        rw [h6] at hk
        exact Nat.le_of_mul_le_mul_left hk (Nat.pow_pos (by decide))
end Go.Proofs.Ytmleicaalaggkab
