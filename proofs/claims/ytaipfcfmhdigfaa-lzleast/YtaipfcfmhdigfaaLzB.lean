
import Derived.Test.YtaipfcfmhdigfaaLzA
import Derived.Test.YtaipfcfmhdigfaaLend
import Derived.Laws.Rows
namespace Go.Proofs.Ytaipfcfmhdigfaa
open Go.RowKit
set_option linter.unusedVariables false

set_option maxRecDepth 100000 in
set_option maxHeartbeats 1000000 in
theorem look7_any (win chain : Int) (lazy : Bool) (w : World) : Calls Try.prog 22 #[look7 win chain lazy] w fun e w' => e = .returned (look7 win chain lazy) ∧ Below w.heap.size w w' := by
  unfold look7
  go_enter Try.func22, Try.ntmps22
  go_wp2_with fail
  have hg : ((w.alloc (.cells #[.int .i64 win, .int .i64 chain, .bool lazy] 44)).alloc (.cells #[.int .i64 win, .int .i64 chain, .bool lazy] 49)).heap[w.heap.size + 1]? = some (.cells #[.int .i64 win, .int .i64 chain, .bool lazy] 49 (0, 0)) := by
    have := heap_alloc_new (w.alloc (.cells #[.int .i64 win, .int .i64 chain, .bool lazy] 44)) (.cells #[.int .i64 win, .int .i64 chain, .bool lazy] 49)
    rw [show (w.alloc (.cells #[.int .i64 win, .int .i64 chain, .bool lazy] 44)).heap.size = w.heap.size + 1 by simp] at this
    exact this
  refine bodyPost_ret (v := .agg #[.int .i64 win, .int .i64 chain, .bool lazy]) (results_cell_row (fn := Try.f22) (p := 2) (ty := 49) rfl _ _ (w.heap.size + 1) _ _ _ _ rfl hg Try.underlying49 rfl (by kernel_rfl)) rfl ?_
  refine ⟨rfl, ?_⟩
  have b1 : Below w.heap.size w (w.alloc (.cells #[.int .i64 win, .int .i64 chain, .bool lazy] 44)) := below_box _ _
  exact b1.alloc b1.size _
set_option maxRecDepth 100000 in
set_option maxHeartbeats 1000000 in
theorem price7_any (c : Pr7) (w : World) : Calls Try.prog 31 #[.agg #[.int .i64 c.lit, .int .i64 c.mat, .int .i64 c.far]] w fun e w' => e = .returned (.agg #[.int .i64 c.lit, .int .i64 c.mat, .int .i64 c.far]) ∧ Below w.heap.size w w' := by
  obtain ⟨x, y, z⟩ := c
  simp only
  go_enter Try.func31, Try.ntmps31
  go_wp2_with fail
  have hg : ((w.alloc (.cells #[.int .i64 x, .int .i64 y, .int .i64 z] 64)).alloc (.cells #[.int .i64 x, .int .i64 y, .int .i64 z] 67)).heap[w.heap.size + 1]? = some (.cells #[.int .i64 x, .int .i64 y, .int .i64 z] 67 (0, 0)) := by
    have := heap_alloc_new (w.alloc (.cells #[.int .i64 x, .int .i64 y, .int .i64 z] 64)) (.cells #[.int .i64 x, .int .i64 y, .int .i64 z] 67)
    rw [show (w.alloc (.cells #[.int .i64 x, .int .i64 y, .int .i64 z] 64)).heap.size = w.heap.size + 1 by simp] at this
    exact this
  refine bodyPost_ret (v := .agg #[.int .i64 x, .int .i64 y, .int .i64 z]) (results_cell_row (fn := Try.f31) (p := 2) (ty := 67) rfl _ _ (w.heap.size + 1) _ _ _ _ rfl hg Try.underlying67 rfl (by kernel_rfl)) rfl ?_
  refine ⟨rfl, ?_⟩
  have b1 : Below w.heap.size w (w.alloc (.cells #[.int .i64 x, .int .i64 y, .int .i64 z] 64)) := below_box _ _
  exact b1.alloc b1.size _
set_option maxRecDepth 100000 in
theorem lzNames_walk (w : World) : Calls Try.prog 3 #[] w fun e w' => e = .returned (.bool true) ∧ Below w.heap.size w w' := by
  have CL := lives7 w
  go_enter Try.func3, Try.ntmps3
  go_wp2_with fail
  refine CL.mono ?_
  rintro e w1 ⟨rfl, b1⟩
  go_wp2_with fail
  go_ret
  exact ⟨rfl, b1⟩
theorem lent_take (zs : List Int) : (lentL zs).take zs.length = zs := by simp [lentL]
set_option maxRecDepth 100000 in
set_option maxHeartbeats 2000000 in
theorem lzBests_in (w : World) (a : Option Addr) (n cap : Nat) (D : List Int) (hn : D.length = n) (hs : Seg w a D) (hnil : a = none → cap = 0) (hl : n ≤ 1073741824) (p : Int) (hp : -9223372036854775808 ≤ p ∧ p ≤ 9223372036854775807) (win chain : Int) (lazy : Bool) :
    Calls Try.prog 6 #[.slice a n cap, .int .i64 p, look7 win chain lazy] w fun e w' => e = .returned (.bool true) ∧ Below w.heap.size w w' := by
  obtain ⟨wA, hwA⟩ : ∃ wA, wA = w.alloc (.cells #[.int .i64 win, .int .i64 chain, .bool lazy] 44) := ⟨_, rfl⟩
  have bA : Below w.heap.size w wA := by rw [hwA]; exact below_box _ _
  have lA : LkAt wA w.heap.size win chain lazy := boxL hwA
  have HWA : Hid (wA = w.alloc (.cells #[.int .i64 win, .int .i64 chain, .bool lazy] 44)) := hwA
  obtain ⟨ob, hob⟩ : ∃ ob, ob = w.heap.size := ⟨_, rfl⟩
  have HOB : Hid (ob = w.heap.size) := hob
  rw [← hob] at lA
  have hol := lA.lt
  have HLA : Hid (∀ W, Below wA.heap.size wA W → LkAt W ob win chain lazy) := fun W hW => lA.of_block (hW.block ob hol)
  have HSA : Hid (∀ W, Below wA.heap.size wA W → Seg W a D) := fun W hW => (hs.old bA).old hW
  subst hn
  have CL := lend_any a D cap wA (hs.old bA) hnil (by omega)
  have CK : Hid (∀ W, Calls Try.prog 22 #[look7 win chain lazy] W fun e w' => e = .returned (look7 win chain lazy) ∧ Below W.heap.size W w') := look7_any win chain lazy
  clear hwA hob lA hs
  have HLK : Hid (look7 win chain lazy = .agg #[.int .i64 win, .int .i64 chain, .bool lazy]) := rfl
  rw [HLK.out]
  go_enter Try.func6, Try.ntmps6
  go_wp2_with fail
  rw [← HWA.out, ← HOB.out]
  refine CL.mono ?_
  rintro e w1 ⟨g, cp, rfl, O1, b1⟩
  obtain ⟨k0, k1, k2⟩ := HLA.out w1 b1
  obtain ⟨_, a', cc, hv, sl, hx, hcp, _⟩ := own_seg O1 (M := 255) (by decide) (lent_bd (HSA.out w1 b1).mem)
  cases hv
  have s1 : Seg w1 (some ⟨g, 0, none⟩) D := by have := SegK.take sl D.length; rwa [lent_take] at this
  go_wp2_with fail
  refine (CK.out w1).mono ?_
  rintro e w2 ⟨rfl, b2⟩
  have B2 : Below wA.heap.size wA w2 := b1.trans (b2.mono b1.size)
  obtain ⟨m0, m1, m2⟩ := HLA.out w2 B2
  have CB := pbest7 D (some ⟨g, 0, none⟩) D.length cp p win chain lazy rfl w2 (s1.old b2) (by omega) (by intro h; cases h) hl hp
  go_wp2_with fail
  refine CB.mono ?_
  rintro e w3 ⟨rfl, b3⟩
  have B3 : Below wA.heap.size wA w3 := B2.trans (b3.mono B2.size)
  obtain ⟨n0, n1, n2⟩ := HLA.out w3 B3
  have CR := rbest7 D a D.length cap p win chain lazy rfl w3 (HSA.out w3 B3) (by omega)
  rw [HLK.out] at CR
  clear k0 k1 k2 m0 m1 m2 CB
  go_wp2_with fail
  refine CR.mono ?_
  rintro e w4 ⟨rfl, b4⟩
  have B4 : Below wA.heap.size wA w4 := B3.trans (b4.mono B3.size)
  have b14 : Below w1.heap.size w1 w4 := (b2.trans (b3.mono b2.size)).trans (b4.mono (Nat.le_trans b2.size b3.size))
  have CT := kept_any a (some ⟨g, 0, none⟩) (lentL D) D cp cap w4 (sl.old b14) (HSA.out w4 B4) hnil (by omega)
  rw [beq_self_eq_true] at CT
  clear CR n0 n1 n2
  go_wp2_with fail
  refine CT.mono ?_
  rintro e w5 ⟨rfl, b5⟩
  have B5 : Below wA.heap.size wA w5 := B4.trans (b5.mono B4.size)
  go_wp2_with fail
  refine (lives7 w5).mono ?_
  rintro e w6 ⟨rfl, b6⟩
  have B6 : Below wA.heap.size wA w6 := B5.trans (b6.mono B5.size)
  go_wp2_with fail
  go_ret
  exact ⟨rfl, bA.trans (B6.mono bA.size)⟩
end Go.Proofs.Ytaipfcfmhdigfaa
