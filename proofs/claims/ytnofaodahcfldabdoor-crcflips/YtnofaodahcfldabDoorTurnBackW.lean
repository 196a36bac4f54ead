import Derived.Test.YtnofaodahcfldabDoorCrcTurn
import Derived.Test.YtnofaodahcfldabDoorCrcMake
import Derived.Test.YtnofaodahcfldabDoorCopy
namespace Go.Proofs.YtnofaodahcfldabDoor
open Go.RowKit
set_option linter.unusedVariables false
set_option linter.unusedSimpArgs false

theorem turn_sum (p : List Int) (i : Nat) (hi : i < p.length) (m y : Int) (hy : bW y = bW (p.getD i 0) ^^^ bW m) : sumW (p.set i y) = turnW (sumW p) (p.length - 1 - i) m := by
  have e0 : p.getD i 0 = p[i] := by simp [List.getD, hi]
  rw [e0] at hy
  have e1 : p = p.take i ++ p[i] :: p.drop (i + 1) := by
    conv => lhs; rw [← List.take_append_drop i p, List.drop_eq_getElem_cons hi]
  have e2 : p.set i y = p.take i ++ y :: p.drop (i + 1) := List.set_eq_take_append_cons_drop.trans (by rw [if_pos hi])
  have el : (p.drop (i + 1)).length = p.length - 1 - i := by simp; omega
  have e4 : runW (~~~ 0#32) p = runW (runW (~~~ 0#32) (p.take i)) (p[i] :: p.drop (i + 1)) := by
    rw [← runW_append, ← e1]
  unfold sumW turnW
  rw [e2, e4, runW_append]
  generalize runW (~~~ 0#32) (p.take i) = r
  have e3 : takeW r y = takeW 0#32 m ^^^ takeW r p[i] := by
    unfold takeW
    rw [hy, BitVec.zero_xor, ← onN_xor]
    congr 1
    rw [← BitVec.xor_assoc, BitVec.xor_comm (r ^^^ bW p[i]), ]
  show ~~~ (runW (takeW r y) (p.drop (i + 1))) = ~~~ (runW (takeW r p[i]) (p.drop (i + 1))) ^^^ _
  rw [e3, runW_xor, el]
  generalize onN (8 * _) (takeW 0#32 m) = u
  generalize runW _ _ = v
  apply BitVec.eq_of_getLsbD_eq
  intro j hj
  simp only [BitVec.getLsbD_xor, BitVec.getLsbD_not, hj, decide_true, Bool.true_and]
  cases u.getLsbD j <;> cases v.getLsbD j <;> rfl
theorem turn_turn (c : W32) (n : Nat) (m : Int) : turnW (turnW c n m) n m = c := by
  unfold turnW
  rw [BitVec.xor_assoc, BitVec.xor_self, BitVec.xor_zero]
/-- One byte exclusive-ored with another. -/
theorem byte_xor (x m : Int) (h0 : 0 ≤ x) (h1 : x ≤ 255) (h2 : 0 ≤ m) (h3 : m ≤ 255) : bW (bits .xor .u8 x m) = bW x ^^^ bW m ∧ 0 ≤ bits .xor .u8 x m ∧ bits .xor .u8 x m ≤ 255 := by
  obtain ⟨a, rfl⟩ := Int.eq_ofNat_of_zero_le h0
  obtain ⟨b, rfl⟩ := Int.eq_ofNat_of_zero_le h2
  have hlt : a ^^^ b < 2 ^ 8 := Nat.xor_lt_two_pow (by omega) (by omega)
  rw [u8_xor_nat a b (by omega) (by omega)]
  refine ⟨?_, by omega, by omega⟩
  unfold bW
  apply BitVec.eq_of_toNat_eq
  have e1 : (a : Nat) % 2 ^ 32 = a := Nat.mod_eq_of_lt (by omega)
  have e2 : (b : Nat) % 2 ^ 32 = b := Nat.mod_eq_of_lt (by omega)
  have e3 : (a ^^^ b : Nat) % 2 ^ 32 = a ^^^ b := Nat.mod_eq_of_lt (by omega)
  simp only [Int.toNat_natCast, BitVec.toNat_xor, BitVec.toNat_ofNat, e1, e2, e3]

set_option maxHeartbeats 1000000 in
theorem crcTurnsBack_walk (w : World) (ht : Tab w) (a : Option Addr) (zs : List Int) (cap : Nat) (hs : Seg w a zs) (hc : zs.length ≤ cap) (hnil : a = none → cap = 0) (hl : zs.length ≤ 140737488351232)
    (k : Int) (h0 : 0 ≤ k) (h1 : k ≤ 18446744073709551615) (m : Int) (h2 : 0 ≤ m) (h3 : m ≤ 255) :
    Calls Tryd.prog 8 #[.slice a zs.length cap, .int .u64 k, .int .u8 m] w fun e w' => e = .returned (.bool true) ∧ Below w.heap.size w w' := by
  by_cases hz : zs.length = 0
  · go_enter Tryd.func8, Tryd.ntmps8
    go_wp2_with (go_at_call 12; refine (awake_any _ ht).mono ?_; rintro e w1 ⟨rfl, hb⟩)
    go_ret
    exact ⟨rfl, hb⟩
  · have hzn : ((zs.length : Int) == 0) = false := by simpa using hz
    obtain ⟨K, hK⟩ := Int.eq_ofNat_of_zero_le (Int.emod_nonneg k (show (zs.length : Int) ≠ 0 by omega))
    have hKl : K < zs.length := by
      have := Int.emod_lt_of_pos k (show (0 : Int) < zs.length by omega)
      omega
    have hKi : (K : Int) < zs.length := by omega
    have hbd := hs.bd K
    have hy := byte_xor (zs.getD K 0) m hbd.1 hbd.2 h2 h3
    have HT : Hid (sumW (zs.set K (bits .xor .u8 (zs.getD K 0) m)) = turnW (sumW zs) (zs.length - 1 - K) m) := turn_sum zs K hKl m _ hy.1
    go_enter Tryd.func8, Tryd.ntmps8
    go_wp2_with fail
    refine (awake_any _ ht).mono ?_
    rintro e w1 ⟨rfl, hb1⟩
    have t1 : Tab w1 := ht.old hb1
    have s1 : Seg w1 a zs := hs.old hb1
    have egd : (zs.map (Value.int .u8))[K]? = some (.int .u8 (zs.getD K 0)) := by simp [List.getD, hKl]
    generalize hzz : zs.getD K 0 = z at *
    go_wp2_with (at_builtin; refine wpList_copy rfl (.tmp 24) 26 rfl 5 Tryd.underlying26 info_u8z s1 hnil rfl (by omega) hl ?_; intro g cap' w2 hown hc2 hg hb2; have hcell := hown.cellAt K (by omega); have hfz := hown.frozenAt K; have hst := hown.stored K (.int .u8 (bits .xor .u8 z m)); rw [egd] at hcell; rw [← List.map_set] at hst; obtain ⟨hown3, hgr3⟩ := hst; clear hown egd)
    have hsz : w2.heap.size = (w2.setCell ⟨g, K, none⟩ (.int .u8 (bits .xor .u8 z m))).heap.size := by simp [World.setCell]
    have hb3 : Below w1.heap.size w1 (w2.setCell ⟨g, K, none⟩ (.int .u8 (bits .xor .u8 z m))) := hb2.trans (below_of_grown hgr3 hg hb2.size)
    clear hcell hfz hgr3 hb2
    generalize w2.setCell ⟨g, K, none⟩ (.int .u8 (bits .xor .u8 z m)) = w3 at *
    have hybd : ∀ x ∈ zs.set K (bits .xor .u8 z m), 0 ≤ x ∧ x ≤ 255 := by
      intro x hx
      rcases List.mem_or_eq_of_mem_set hx with hx | rfl
      · exact hs.mem x hx
      · exact hy.2
    have t3 : Tab w3 := t1.old hb3
    have s3 : Seg w3 a zs := s1.old hb3
    obtain ⟨hj1, a3, c3, hv3, q3, hj2, hj3, hj4⟩ := own_seg hown3 (M := 255) (by decide) hybd
    obtain rfl : a3 = some ⟨g, 0, none⟩ := by simp at hv3; exact hv3.1.symm
    have b3 : Below w.heap.size w w3 := hb1.trans (hb3.mono hb1.size)
    have HLen : Hid ((zs.set K (bits .xor .u8 z m)).length = zs.length) := by show _ = _; simp
    clear hj1 hj2 hj3 hj4 hown3 hv3 hybd hb3 s1 t1 hb1 hs
    refine (sum_one w3 _ _ a zs cap 1 _ t3 s3 hsz rfl (by omega)).mono ?_
    rintro e w4 ⟨rfl, hw4⟩
    have t4 : Tab w4 := by rw [hw4]; exact t3.alloc _
    have s4 : Seg w4 a zs := by rw [hw4]; exact s3.alloc _
    have q4 : Seg w4 (some ⟨g, 0, none⟩) (zs.set K (bits .xor .u8 z m)) := by rw [hw4]; exact q3.alloc _
    have b4 : Below w.heap.size w w4 := by rw [hw4]; exact balloc b3 _
    clear hw4 t3 s3 q3 b3 hsz
    go_wp2_with fail
    refine (turned_any (sumW zs) zs.length K m _ t4 hKl (by omega) h2 h3).mono ?_
    rintro e w' ⟨rfl, hw'⟩
    subst w'
    go_wp2_with fail
    refine (turned_any _ zs.length K m _ t4 hKl (by omega) h2 h3).mono ?_
    rintro e w' ⟨rfl, hw'⟩
    subst w'
    rw [turn_turn]
    go_wp2_with fail
    refine (sum_one w4 _ _ _ (zs.set K (bits .xor .u8 z m)) cap' 1 _ t4 q4 rfl HLen.out.symm (by rw [HLen.out]; omega)).mono ?_
    rintro e w5 ⟨rfl, hw5⟩
    have t5 : Tab w5 := by rw [hw5]; exact t4.alloc _
    have s5 : Seg w5 a zs := by rw [hw5]; exact s4.alloc _
    have b5 : Below w.heap.size w w5 := by rw [hw5]; exact balloc b4 _
    clear hw5 t4 s4 q4 b4
    rw [HT.out]
    go_wp2_with fail
    refine (sum_one w5 _ _ a zs cap 1 _ t5 s5 rfl rfl (by omega)).mono ?_
    rintro e w6 ⟨rfl, hw6⟩
    have b6 : Below w.heap.size w w6 := by rw [hw6]; exact balloc b5 _
    clear hw6 t5 s5 b5
    go_wp2
    go_ret
    exact ⟨by simp, b6⟩
end Go.Proofs.YtnofaodahcfldabDoor
