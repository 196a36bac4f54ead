import Derived.Test.YtnofaodahcfldacDoorCrcLe
import Derived.Test.YtnofaodahcfldacDoorCrcAwake
namespace Go.Proofs.YtnofaodahcfldacDoor
open Go.RowKit
set_option linter.unusedVariables false
set_option linter.unusedSimpArgs false

theorem parts_two (w : World) (g : Nat) (a b : Option Addr) (xs ys : List Int) (ca cb m n : Nat) (t : TypeId) (hx : Seg w a xs) (hy : Seg w b ys) (hg : g = w.heap.size) (hm : m = xs.length) (hn : n = ys.length) (hlx : xs.length ≤ 9223372036854775807) (hly : ys.length ≤ 9223372036854775807) :
    Parts (w.alloc (.cells #[.slice a m ca, .slice b n cb] t)) (some ⟨g, 0, none⟩) [⟨a, xs, ca⟩, ⟨b, ys, cb⟩] := by
  subst hg hm hn
  refine ⟨fun i hi => ⟨w.heap.size, 0, rfl, ?_⟩, fun i hi => ?_, fun i hi => ?_⟩ <;> (match i, hi with | 0, _ => ?_ | 1, _ => ?_)
  · rw [World.cell?_alloc_mark]; rfl
  · rw [World.cell?_alloc_mark]; rfl
  · exact hx.alloc _
  · exact hy.alloc _
  · exact hlx
  · exact hly
theorem flat_two (a b : Option Addr) (xs ys : List Int) (ca cb : Nat) : flat [⟨a, xs, ca⟩, ⟨b, ys, cb⟩] = xs ++ ys := by simp [flat]
theorem residue (zs : List Int) : wI (sumW (zs ++ leL (sumW zs))) = 558161692 := by
  unfold sumW
  rw [runW_append]
  generalize runW (~~~ 0#32) zs = r
  rw [leW]
  have e : r ^^^ ~~~ r = ~~~ 0#32 := by
    apply BitVec.eq_of_getLsbD_eq
    intro i hi
    simp only [BitVec.getLsbD_xor, BitVec.getLsbD_not, hi, decide_true, Bool.true_and, BitVec.getLsbD_zero]
    cases r.getLsbD i <;> rfl
  rw [e]
  decide +kernel

set_option maxHeartbeats 1000000 in
theorem crcResidue_walk (w : World) (ht : Tab w) (a : Option Addr) (zs : List Int) (cap : Nat) (hs : Seg w a zs) (hc : zs.length ≤ cap) (hnil : a = none → cap = 0) (hl : zs.length ≤ 140737488351232) :
    Calls Tryd.prog 4 #[.slice a zs.length cap] w fun e w' => e = .returned (.bool true) ∧ Below w.heap.size w w' := by
  have HR : Hid (wI (sumW (zs ++ leL (sumW zs))) = 558161692) := residue zs
  go_enter Tryd.func4, Tryd.ntmps4
  go_wp2_with fail
  refine (sum_one w _ _ a zs cap 1 _ ht hs rfl rfl (by omega)).mono ?_
  rintro e w1 ⟨rfl, hw1⟩
  have t1 : Tab w1 := by rw [hw1]; exact ht.alloc _
  have s1 : Seg w1 a zs := by rw [hw1]; exact hs.alloc _
  have b1 : Below w.heap.size w w1 := by rw [hw1]; exact balloc (Below.refl _ _) _
  clear hw1
  have bs := wI_bd (sumW zs)
  go_wp2_with fail
  refine (awake_any _ t1).mono ?_
  rintro e w2 ⟨rfl, hb⟩
  have t2 : Tab w2 := t1.old hb
  have s2 : Seg w2 a zs := s1.old hb
  have b2 : Below w.heap.size w w2 := b1.trans (hb.mono b1.size)
  clear hb t1 s1 b1
  go_wp2_with fail
  have hp := parts_two (w2.alloc (.cells ((leL (sumW zs)).map (Value.int .u8)).toArray 5)) (w2.heap.size + 1) a (some ⟨w2.heap.size, 0, none⟩) zs (leL (sumW zs)) cap 4 zs.length 4 28 (s2.alloc _) (seg_lit w2 (leL (sumW zs)) 5 (0, 0) (leL_bd _)) (by simp) rfl rfl (by omega) (by simp [leL])
  refine (sum_any (some ⟨w2.heap.size + 1, 0, none⟩) [⟨a, zs, cap⟩, ⟨some ⟨w2.heap.size, 0, none⟩, leL (sumW zs), 4⟩] 2 _ ((t2.alloc _).alloc _) hp (by simp)).mono ?_
  rintro e w3 ⟨rfl, hw3⟩
  have b3 : Below w.heap.size w w3 := by rw [hw3]; exact balloc (balloc b2 _) _
  clear hw3 hp b2
  rw [flat_two, HR.out]
  go_wp2
  go_ret
  exact ⟨rfl, b3⟩
end Go.Proofs.YtnofaodahcfldacDoor
