import Derived.Test.YtmleicaalaggkaaLnHelp
namespace Go.Proofs.Ytmleicaalaggkaa
open Go.RowKit
set_option linter.unusedVariables false

/-- Is each length of a symbol in use, of the first k, from 1 to the limit? -/
def inL (lim : Int) (zs ls : List Int) (k : Nat) : Prop := ∀ i, i < k → zs.getD i 0 ≠ 0 → 1 ≤ ls.getD i 0 ∧ ls.getD i 0 ≤ lim
/-- The code space that they take. -/
def spc (zs ls : List Int) (k : Nat) : Nat := ((usI zs k).map fun i => 2 ^ (15 - (ls.getD i 0).toNat)).sum
theorem spc_snoc (zs ls : List Int) (k : Nat) : spc zs ls (k + 1) = spc zs ls k + (if zs.getD k 0 = 0 then 0 else 2 ^ (15 - (ls.getD k 0).toNat)) := by
  unfold spc
  rw [usI_snoc, List.map_append, List.sum_append_nat]
  split <;> simp
theorem pow15 : ∀ j : Fin 16, 2 ^ j.val ≤ 40000 := by decide
theorem spc_le (zs ls : List Int) : ∀ k, spc zs ls k ≤ k * 40000
  | 0 => by simp [spc, usI]
  | k + 1 => by
    have h1 := spc_le zs ls k
    rw [spc_snoc, Nat.succ_mul]
    have h2 : 2 ^ (15 - (ls.getD k 0).toNat) ≤ 40000 := pow15 ⟨15 - (ls.getD k 0).toNat, by omega⟩
    split
    · exact Nat.le_trans h1 (Nat.le_add_right _ _)
    · exact Nat.add_le_add h1 h2

def SpQ (lim : Nat) (zs ls : List Int) (n : Nat) (w : World) (e : Ending) (w' : World) : Prop := ∃ (v : Int) (ok : Bool), e = .returned (.tuple #[.int .i64 v, .bool ok]) ∧ (ok = true ↔ inL lim zs ls n) ∧ (ok = true → v = (spc zs ls n : Nat)) ∧ Below w.heap.size w w'
set_option maxHeartbeats 400000 in
theorem space_any (lim : Nat) (a b : Option Addr) (zs ls : List Int) (n m ca cb : Nat) (hn : Hid (zs.length = n)) (hm : Hid (ls.length = m)) (hnm : n ≤ m) (w : World) (hs : SegZ w a zs) (ht : SegZ w b ls) (hl : n ≤ 288) (h15 : lim ≤ 15) :
    Calls Try.prog 20 #[.int .i64 lim, .slice a n ca, .slice b m cb] w fun e w' => SpQ lim zs ls n w e w' := by
  go_enter Try.func20, Try.ntmps20
  go_wp2
  go_loopw [8, 9] (fun tn ti wr => ∃ k c : Nat, k ≤ n ∧ ti = .int .i64 k ∧ tn = .int .i64 c ∧ Hid (c ≤ k * 40000) ∧ Hid (c = spc zs ls k ∧ inL lim zs ls k) ∧ Below w.heap.size w wr) (fun _ ti _ => n - (intOf ti).toNat)
  case atStart => exact ⟨0, 0, Nat.zero_le _, rfl, rfl, (Nat.zero_le _ : _ ≤ _), (⟨by simp [spc, usI], fun i h => by omega⟩ : _ ∧ _), Below.refl _ _⟩
  case round =>
    obtain ⟨k, c, hk, rfl, rfl, HCK, HC, hb⟩ := hrel
    have hc11 : c ≤ 11520000 := Nat.le_trans HCK.out (Nat.le_trans (Nat.mul_le_mul_right _ (Nat.le_trans hk hl)) (by decide))
    have hs := hs.old hb
    have ht := ht.old hb
    by_cases h1 : k < n
    · have h1i : (k : Int) < (n : Int) := by omega
      have h1m : (k : Int) < (m : Int) := by omega
      obtain ⟨b1, o1, rfl, c1⟩ := hs.at_ k (by have := hn.out; omega)
      obtain ⟨b2, o2, rfl, c2⟩ := ht.at_ k (by have := hm.out; omega)
      have HSN : Hid (spc zs ls (k + 1) = c + (if zs.getD k 0 = 0 then 0 else 2 ^ (15 - (ls.getD k 0).toNat))) := by show _ = _; rw [HC.out.1]; exact spc_snoc zs ls k
      have HIN : Hid ((zs.getD k 0 = 0 ∨ (1 ≤ ls.getD k 0 ∧ ls.getD k 0 ≤ lim)) → inL lim zs ls (k + 1)) := by
        intro h i hi hz
        by_cases e : i = k
        · subst e
          rcases h with h | h
          · exact absurd h hz
          · exact h
        · exact HC.out.2 i (by omega) hz
      have HNI : Hid (zs.getD k 0 ≠ 0 → ¬ (1 ≤ ls.getD k 0 ∧ ls.getD k 0 ≤ lim) → ¬ inL lim zs ls n) := fun hz h hi => h (hi k h1 hz)
      have d1 := hs.bd k
      have d2 := ht.bd k
      generalize zs.getD k 0 = z at *
      generalize ls.getD k 0 = y at *
      by_cases hz : z = 0
      · subst hz
        go_wp2
        go_roundw
        case rel => exact ⟨k + 1, c, by omega, by go_num, rfl, (Nat.le_trans HCK.out (Nat.mul_le_mul_right _ (Nat.le_succ k)) : _ ≤ _), (⟨by rw [HSN.out]; simp, HIN.out (.inl rfl)⟩ : _ ∧ _), hb⟩
        case measure => simp [intOf]; omega
      · have hzb : (z == 0) = false := by simpa using hz
        by_cases hy1 : y < 1
        · go_wp2
          go_ret2
          exact ⟨0, false, rfl, ⟨(fun h => by cases h), (fun h => absurd h (HNI.out hz (by omega)))⟩, (fun h => by cases h), hb⟩
        · by_cases hy2 : (lim : Int) < y
          · go_wp2
            go_ret2
            exact ⟨0, false, rfl, ⟨(fun h => by cases h), (fun h => absurd h (HNI.out hz (by omega)))⟩, (fun h => by cases h), hb⟩
          · obtain ⟨q, hq⟩ : ∃ q : Nat, y = 15 - (q : Int) := ⟨(15 - y).toNat, by omega⟩
            have hq14 : q ≤ 14 := by omega
            have rq : 15 - y = (q : Int) := by omega
            obtain ⟨P, hP⟩ : ∃ P : Nat, P = 2 ^ q := ⟨_, rfl⟩
            have hPb : P ≤ 40000 := by rw [hP]; exact pow15 ⟨q, by omega⟩
            have e9 : ((2 : Int) ^ q) = (P : Int) := by rw [hP]; exact (Int.natCast_pow 2 q).symm
            have hPw : RowKit.wrap64 ((2 : Int) ^ q) = (P : Int) := by
              rw [e9, ← IntWalk.i64_left]
              exact IntWalk.i64_in _ (by omega)
            have HSP : Hid (spc zs ls (k + 1) = c + P) := by
              show _ = _
              rw [HSN.out, if_neg hz, hP]
              congr 2
              omega
            have HQ : Hid (y = 15 - (q : Int)) := hq
            clear hP hq e9
            go_wp2
            go_roundw
            case rel => exact ⟨k + 1, c + P, by omega, by go_num, by go_num, (by show _ ≤ _; rw [Nat.succ_mul]; exact Nat.add_le_add HCK.out hPb), (⟨HSP.out.symm, HIN.out (.inr (by have := HQ.out; omega))⟩ : _ ∧ _), hb⟩
            case measure => simp [intOf]; omega
    · obtain rfl : k = n := by omega
      go_wp2
      go_ret2
      exact ⟨(c : Int), true, rfl, ⟨fun _ => HC.out.2, fun _ => rfl⟩, fun _ => by rw [HC.out.1], hb⟩
end Go.Proofs.Ytmleicaalaggkaa
