import Derived.Test.YtmpbaabmpcejdaaProg
import Derived.Test.YtmpbaabmpcejdaaFixU
import Derived.Test.YtmpbaabmpcejdaaOwnUse
import Derived.Test.YtmpbaabmpcejdaaLend
import Derived.Test.YtmpbaabmpcejdaaDecW
namespace Go.Proofs.Ytmpbaabmpcejdaa
open Go.RowKit
set_option linter.unusedVariables false

set_option maxHeartbeats 1000000 in
theorem numFixes_walk (w : World) (v : Int) (hv0 : 0 ≤ v) (hv1 : v ≤ 18446744073709551615) (s : Int) (hs0 : -9223372036854775808 ≤ s) (hs1 : s ≤ 9223372036854775807) (a : Option Addr) (zs : List Int) (cap : Nat) (hs : Seg w a zs) (hcap : zs.length ≤ cap) (hnil : a = none → cap = 0) (hl : zs.length ≤ 140737488351232) :
    Calls Try.prog 4 #[.int .u64 v, .int .i64 s, .slice a zs.length cap] w fun e w' => e = .returned (.bool true) ∧ Below w.heap.size w w' := by
  go_enter Try.func4, Try.ntmps4
  go_wp2_with fail
  refine (fixed_any v s _ hv0 hv1).mono ?_
  rintro e w1 ⟨ax, cx, rfl, hx, hb1⟩
  have hz1 := hb1.size
  go_wp2_with fail
  refine (rfixed_u v s _ hv0 hv1).mono ?_
  rintro e w2 ⟨ay, cy, rfl, hy, hb2⟩
  have hz2 := hb2.size
  go_wp2_with fail
  refine (fixed_any v s _ hv0 hv1).mono ?_
  rintro e w3 ⟨az, cz, rfl, hz, hb3⟩
  have hz3 := hb3.size
  have hx3 := row_below (row_below hx hb2) hb3
  have hy3 := row_below hy hb3
  have hap : Ap (Value.slice ax (fixB v s).length cx).ownBlock (Value.slice az (fixB v s).length cz).ownBlock := ap_of hx hz2 hz (Nat.le_refl _)
  have hlB := fixB_len v s
  have hbd := fixB_bd v s
  have hb13 : Below w.heap.size w w3 := hb1.trans ((hb2.mono hz1).trans (hb3.mono (by omega)))
  have hz' := row_base hz (show w.heap.size ≤ w2.heap.size by omega)
  clear hx hy hz
  generalize fixB v s = B at *
  generalize fixE v s = E at *
  go_wp2_with fail
  refine (same_any ax ay B B cx cy _ (row_seg hx3 hbd).1 (row_seg hy3 hbd).1).mono ?_
  rintro e w4 ⟨rfl, hw4⟩
  subst w4
  go_wp2_with fail
  refine (own_two w.heap.size _ _ B B w3 hx3 hz' hap (by omega) (by omega) (by omega)).mono ?_
  rintro e w5 ⟨rfl, hb5⟩
  have hb05 := hb13.trans hb5
  have hs5 := hs.old hb05
  have hz5 := hb05.size
  clear hx3 hy3 hz' hb13 hb5 hap
  go_wp2_with fail
  refine (lend_any a zs cap _ hs5 hnil hl).mono ?_
  rintro e w6 ⟨g, cap', rfl, hown, hb6⟩
  obtain ⟨hn, a', c', hv, hseg, hblk, hcc, _⟩ := own_seg hown (M := 255) (by decide) (lent_bd hs.mem)
  have ha : a' = some ⟨g, 0, none⟩ := by simp at hv; exact hv.1.symm
  have hc' : c' = cap' := by simp at hv; exact hv.2.symm
  subst ha hc'
  clear hv hn hown hblk
  have hpart : Seg w6 (some ⟨g, 0, none⟩) zs := by have := hseg.take zs.length; rwa [lent_take] at this
  have hs6 := hs5.old hb6
  have hz6 := hb6.size
  go_wp2_with fail
  refine (unfix_any (some ⟨g, 0, none⟩) zs c' s _ hpart (by omega) (by omega)).mono ?_
  rintro e w7 ⟨rfl, hw7⟩
  subst w7
  go_wp2_with fail
  refine (runfix_any a zs cap s _ hs6 (by omega)).mono ?_
  rintro e w7 ⟨rfl, hw7⟩
  subst w7
  generalize unfV zs s = U at *
  generalize unfE zs s = UE at *
  go_wp2_with fail
  refine (kept_at a (some ⟨g, 0, none⟩) (lentL zs) zs _ c' cap _ hseg (lent_len zs) hs6 hnil hl).mono ?_
  rintro e w8 ⟨rfl, hb8⟩
  have hz8 := hb8.size
  have hbt : (lentL zs == lentL zs) = true := by simp
  rw [hbt]
  clear hbt
  go_wp2_with fail
  refine (fixed_ok 258 2 _ (by decide) (by decide) (by decide) (by decide) (by decide)).mono ?_
  rintro e w9 ⟨rfl, h9, hb9⟩
  have c0 := h9.cellAt 0 (by decide)
  have c1 := h9.cellAt 1 (by decide)
  have e0 : (((fixL 2 258).map (Value.int .u8))[0]?) = some (.int .u8 2) := by simp [fixL]
  have e1 : (((fixL 2 258).map (Value.int .u8))[1]?) = some (.int .u8 1) := by simp [fixL]
  rw [e0] at c0
  rw [e1] at c1
  clear e0 e1 h9
  go_wp2
  go_ret
  exact ⟨rfl, hb05.trans ((hb6.mono hz5).trans ((hb8.mono (by omega)).trans (hb9.mono (by omega))))⟩
end Go.Proofs.Ytmpbaabmpcejdaa
