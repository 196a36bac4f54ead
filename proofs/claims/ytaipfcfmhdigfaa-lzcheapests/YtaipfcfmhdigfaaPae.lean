import Derived.Test.YtaipfcfmhdigfaaPad
namespace Go.Proofs.Ytaipfcfmhdigfaa
open Go.RowKit
set_option linter.unusedVariables false

structure LkAt (w : World) (g : Nat) (win chain : Int) (lazy : Bool) : Prop where
  c0 : w.cell? ⟨g, 0, none⟩ = some (.int .i64 win)
  c1 : w.cell? ⟨g, 1, none⟩ = some (.int .i64 chain)
  c2 : w.cell? ⟨g, 2, none⟩ = some (.bool lazy)
theorem LkAt.of_block {w w' : World} {g : Nat} {win chain : Int} {lazy : Bool} (h : LkAt w g win chain lazy) (hb : w'.heap[g]? = w.heap[g]?) : LkAt w' g win chain lazy :=
  ⟨(World.cell?_of_block (a := ⟨g, 0, none⟩) hb).trans h.c0, (World.cell?_of_block (a := ⟨g, 1, none⟩) hb).trans h.c1, (World.cell?_of_block (a := ⟨g, 2, none⟩) hb).trans h.c2⟩
theorem LkAt.lt {w : World} {g : Nat} {win chain : Int} {lazy : Bool} (h : LkAt w g win chain lazy) : g < w.heap.size := World.block_lt_of_cell? w _ h.c0
theorem boxL {w wA : World} {win chain : Int} {lazy : Bool} {ty : TypeId} (hA : wA = w.alloc (.cells #[.int .i64 win, .int .i64 chain, .bool lazy] ty)) : LkAt wA w.heap.size win chain lazy := by
  have h : wA.heap[w.heap.size]? = some (.cells #[.int .i64 win, .int .i64 chain, .bool lazy] ty (0, 0)) := by rw [hA]; exact heap_alloc_new w _
  refine ⟨?_, ?_, ?_⟩ <;> simp [World.cell?, h]
set_option maxRecDepth 100000 in
theorem rbest7_no (D : List Int) (a : Option Addr) (n cap : Nat) (p win chain : Int) (lazy : Bool) (w : World) (ho : opt7 win chain ≠ 0) :
    Calls Try.prog 29 #[.slice a n cap, .int .i64 p, look7 win chain lazy] w fun e w' => e = .returned (.tuple #[.int .i64 0, .int .i64 0, .int .i64 72]) ∧ Below w.heap.size w w' := by
  obtain ⟨wA, hwA⟩ : ∃ wA, wA = w.alloc (.cells #[.int .i64 win, .int .i64 chain, .bool lazy] 44) := ⟨_, rfl⟩
  have bA : Below w.heap.size w wA := by rw [hwA]; exact below_box _ _
  have HWA : Hid (wA = w.alloc (.cells #[.int .i64 win, .int .i64 chain, .bool lazy] 44)) := hwA
  have CO := ropt7 win chain lazy wA
  rw [opt7_no ho] at CO
  clear hwA ho
  unfold look7 at CO ⊢
  go_enter Try.func29, Try.ntmps29
  go_wp2_with fail
  rw [← HWA.out]
  refine CO.mono ?_
  rintro e w1 ⟨rfl, b1⟩
  go_wp2_with fail
  refine bodyPost_ret (results_tmp3 rfl _ _ _) rfl ?_
  exact ⟨rfl, bA.trans (b1.mono bA.size)⟩
set_option maxRecDepth 100000 in
theorem rbest7_arg (D : List Int) (a : Option Addr) (n cap : Nat) (p win chain : Int) (lazy : Bool) (w : World) (ho : opt7 win chain = 0) (hp : p < 0 ∨ (n : Int) ≤ p) :
    Calls Try.prog 29 #[.slice a n cap, .int .i64 p, look7 win chain lazy] w fun e w' => e = .returned (.tuple #[.int .i64 0, .int .i64 0, .int .i64 1]) ∧ Below w.heap.size w w' := by
  obtain ⟨wA, hwA⟩ : ∃ wA, wA = w.alloc (.cells #[.int .i64 win, .int .i64 chain, .bool lazy] 44) := ⟨_, rfl⟩
  have bA : Below w.heap.size w wA := by rw [hwA]; exact below_box _ _
  have HWA : Hid (wA = w.alloc (.cells #[.int .i64 win, .int .i64 chain, .bool lazy] 44)) := hwA
  have CO := ropt7 win chain lazy wA
  rw [ho] at CO
  clear hwA ho
  unfold look7 at CO ⊢
  by_cases h0 : p < 0
  · clear hp
    go_enter Try.func29, Try.ntmps29
    go_wp2_with fail
    rw [← HWA.out]
    refine CO.mono ?_
    rintro e w1 ⟨rfl, b1⟩
    go_wp2_with fail
    refine bodyPost_ret (results_tmp3 rfl _ _ _) rfl ?_
    exact ⟨rfl, bA.trans (b1.mono bA.size)⟩
  · have hp2 : (n : Int) ≤ p := by omega
    clear hp
    go_enter Try.func29, Try.ntmps29
    go_wp2_with fail
    rw [← HWA.out]
    refine CO.mono ?_
    rintro e w1 ⟨rfl, b1⟩
    go_wp2_with fail
    refine bodyPost_ret (results_tmp3 rfl _ _ _) rfl ?_
    exact ⟨rfl, bA.trans (b1.mono bA.size)⟩
/-- How far the search has come. -/
def BsI (D : List Int) (p W C : Nat) (wA wr : World) (tb td ts tq : Value) : Prop := ∃ d best dist seen : Nat, 1 ≤ d ∧ d ≤ p + 1 ∧ seen < d ∧ tb = .int .i64 (best : Int) ∧ td = .int .i64 (dist : Int) ∧ ts = .int .i64 (seen : Int) ∧ tq = .int .i64 ((p : Int) - (d : Int)) ∧
  best ≤ 258 ∧ bst7 D p W C = bsg7 D p W C (p + 1 - d) d best dist seen ∧ Below wA.heap.size wA wr
set_option maxRecDepth 100000 in
set_option maxHeartbeats 4000000 in
theorem rbest7_ok (D : List Int) (a : Option Addr) (n cap p W C : Nat) (lazy : Bool) (hn : Hid (D.length = n)) (w : World) (hs : Seg w a D) (hp : p < n) (hl : n ≤ 1152921504606846976) (hW1 : 1 ≤ W) (hW2 : W ≤ 32768) (hC : C ≤ 4096) :
    Calls Try.prog 29 #[.slice a n cap, .int .i64 (p : Int), look7 W C lazy] w fun e w' => e = .returned (.tuple #[.int .i64 ((bst7 D p W C).1 : Int), .int .i64 ((bst7 D p W C).2 : Int), .int .i64 0]) ∧ Below w.heap.size w w' := by
  obtain ⟨wA, hwA⟩ : ∃ wA, wA = w.alloc (.cells #[.int .i64 (W : Int), .int .i64 (C : Int), .bool lazy] 44) := ⟨_, rfl⟩
  have bA : Below w.heap.size w wA := by rw [hwA]; exact below_box _ _
  have lA : LkAt wA w.heap.size W C lazy := boxL hwA
  have HWA : Hid (wA = w.alloc (.cells #[.int .i64 (W : Int), .int .i64 (C : Int), .bool lazy] 44)) := hwA
  have CO := ropt7 W C lazy wA
  rw [show opt7 W C = 0 by unfold opt7; rw [if_neg (by omega)]] at CO
  obtain ⟨ob, hob⟩ : ∃ ob, ob = w.heap.size := ⟨_, rfl⟩
  have HOB : Hid (ob = w.heap.size) := hob
  rw [← hob] at lA
  have hol := lA.lt
  have HLA : Hid (LkAt wA ob W C lazy) := lA
  have sA : Seg wA a D := hs.old bA
  have HSA : Hid (Seg wA a D) := sA
  have hp0 : ¬ (p : Int) < 0 := by omega
  have hpn : ¬ (n : Int) ≤ (p : Int) := by omega
  have hwp : IntKind.i64.wrap ((p : Int) - 1) = (p : Int) - 1 := IntWalk.i64_in _ (by omega)
  clear hwA hob lA sA hs
  unfold look7 at CO ⊢
  go_enter Try.func29, Try.ntmps29
  go_wp2_with fail
  rw [← HWA.out, ← HOB.out]
  refine CO.mono ?_
  rintro e w1 ⟨rfl, b1⟩
  go_wp2_with fail
  rw [decide_eq_false (show ¬ n ≤ p by omega), decide_eq_false (show ¬ (p : Int) < 0 by omega), Bool.or_self]
  go_loopw [10, 11, 12, 13] (fun tb td ts tq wr => BsI D p W C wA wr tb td ts tq) (fun _ _ _ tq _ => (intOf tq + 1).toNat)
  case atStart => exact ⟨1, 0, 0, 0, by omega, by omega, by omega, rfl, rfl, rfl, by simp, by omega, (by unfold bst7; simp), b1⟩
  case round =>
    obtain ⟨d, best, dist, seen, hd1, hdp, hsd, rfl, rfl, rfl, rfl, hb258, hB, BR⟩ := hrel
    have HB : Hid (bst7 D p W C = bsg7 D p W C (p + 1 - d) d best dist seen) := hB
    have lr := (show LkAt wA ob W C lazy from HLA.out).of_block (BR.block ob hol)
    have l0 := lr.c0
    have l1 := lr.c1
    clear hB lr
    have hwq : IntKind.i64.wrap ((p : Int) - ((p : Int) - (d : Int))) = (d : Int) := by rw [IntWalk.i64_in _ (by omega)]; omega
    have hwq2 : (p : Int) - ((p : Int) - (d : Int)) = (d : Int) := by omega
    by_cases hc1 : d ≤ p
    · obtain ⟨q, hq⟩ : ∃ q, q = p - d := ⟨_, rfl⟩
      have hqi : (p : Int) - (d : Int) = (q : Int) := by omega
      rw [hqi]
      rw [hqi] at hwq hwq2
      have hq0 : (0 : Int) ≤ (q : Int) := by omega
      by_cases hc2 : d ≤ W ∧ seen < C
      · have hc3 : (d : Int) ≤ (W : Int) := by omega
        have hc4 : (seen : Int) < (C : Int) := by omega
        have HU : Hid (bsg7 D p W C (p + 1 - d) d best dist seen = if al7 D q p < 3 then bsg7 D p W C (p + 1 - (d + 1)) (d + 1) best dist seen else if best < al7 D q p then bsg7 D p W C (p + 1 - (d + 1)) (d + 1) (al7 D q p) d (seen + 1) else bsg7 D p W C (p + 1 - (d + 1)) (d + 1) best dist (seen + 1)) := by
          show _ = _
          rw [show p + 1 - d = p + 1 - (d + 1) + 1 by omega, bsg7, if_pos ⟨hc1, hc2.1, hc2.2⟩, ← hq]
        have CA := ralike7 D a n cap q p hn wr ((show Seg wA a D from HSA.out).old BR) (by omega) (by omega) hl
        have hal := al7_le D q p
        have hws : IntKind.i64.wrap ((q : Int) - 1) = (q : Int) - 1 := IntWalk.i64_in _ (by omega)
        have hqn : (q : Int) - 1 = (p : Int) - ((d + 1 : Nat) : Int) := by omega
        have HQN : Hid ((q : Int) - 1 = (p : Int) - ((d + 1 : Nat) : Int)) := hqn
        clear hqi hq hqn
        generalize al7 D q p = al at *
        go_wp2_with fail
        refine CA.mono ?_
        rintro e w2 ⟨rfl, b2⟩
        have B2 : Below wA.heap.size wA w2 := BR.trans (b2.mono BR.size)
        by_cases h3 : al < 3
        · have HB2 : Hid (bst7 D p W C = bsg7 D p W C (p + 1 - (d + 1)) (d + 1) best dist seen) := by show _ = _; rw [HB.out, HU.out, if_pos h3]
          have h3i : (al : Int) < 3 := by omega
          clear HB HU
          go_wp2_with fail
          go_roundw
          case rel => exact ⟨d + 1, best, dist, seen, by omega, by omega, by omega, rfl, rfl, rfl, by rw [HQN.out], hb258, HB2.out, B2⟩
          case measure => simp [intOf]
        · have h3i : ¬ (al : Int) < 3 := by omega
          have hwn : IntKind.i64.wrap ((seen : Int) + 1) = ((seen + 1 : Nat) : Int) := by rw [IntWalk.i64_in _ (by omega)]; omega
          by_cases h4 : best < al
          · have HB2 : Hid (bst7 D p W C = bsg7 D p W C (p + 1 - (d + 1)) (d + 1) al d (seen + 1)) := by show _ = _; rw [HB.out, HU.out, if_neg h3, if_pos h4]
            have h4i : (best : Int) < (al : Int) := by omega
            clear HB HU
            go_wp2_with fail
            go_roundw
            case rel => exact ⟨d + 1, al, d, seen + 1, by omega, by omega, by omega, rfl, rfl, by simp, by rw [HQN.out], by omega, HB2.out, B2⟩
            case measure => simp [intOf]
          · have HB2 : Hid (bst7 D p W C = bsg7 D p W C (p + 1 - (d + 1)) (d + 1) best dist (seen + 1)) := by show _ = _; rw [HB.out, HU.out, if_neg h3, if_neg h4]
            have h4i : ¬ (best : Int) < (al : Int) := by omega
            clear HB HU
            go_wp2_with fail
            go_roundw
            case rel => exact ⟨d + 1, best, dist, seen + 1, by omega, by omega, by omega, rfl, rfl, by simp, by rw [HQN.out], hb258, HB2.out, B2⟩
            case measure => simp [intOf]
      · have HE : Hid (bst7 D p W C = (best, dist)) := by
          show _ = _
          rw [HB.out, show p + 1 - d = p + 1 - (d + 1) + 1 by omega, bsg7, if_neg (fun e => hc2 ⟨e.2.1, e.2.2⟩)]
        clear hqi hq HB
        by_cases hc3 : (d : Int) ≤ (W : Int)
        · have hc4 : ¬ (seen : Int) < (C : Int) := by omega
          go_wp2_with fail
          refine bodyPost_ret (results_tmp3 rfl _ _ _) rfl ?_
          exact ⟨by rw [HE.out]; rfl, bA.trans (BR.mono bA.size)⟩
        · go_wp2_with fail
          refine bodyPost_ret (results_tmp3 rfl _ _ _) rfl ?_
          exact ⟨by rw [HE.out]; rfl, bA.trans (BR.mono bA.size)⟩
    · obtain rfl : d = p + 1 := by omega
      have HE : Hid (bst7 D p W C = (best, dist)) := by
        show _ = _
        rw [HB.out, Nat.sub_self, bsg7]
      have hq1 : (p : Int) - ((p + 1 : Nat) : Int) = -1 := by omega
      rw [hq1]
      clear hwq hwq2 hq1 HB
      go_wp2_with fail
      refine bodyPost_ret (results_tmp3 rfl _ _ _) rfl ?_
      exact ⟨by rw [HE.out]; rfl, bA.trans (BR.mono bA.size)⟩
end Go.Proofs.Ytaipfcfmhdigfaa
