import Derived.Test.YteboaolflecibaaDoorPg
import Derived.Test.YteboaolflecibaaDoorProg
import Derived.Test.YteboaolflecibaaDoorPd
import Derived.WalkKit
import Derived.WalkSpells
import Derived.WalkLawsBesides
import Derived.Laws.BitsLemmas
namespace Go.Proofs.YteboaolflecibaaDoor
open Go.RowKit
set_option linter.unusedVariables false
set_option linter.unusedSimpArgs false
set_option maxRecDepth 100000 in
theorem rin25 (n lo hi : Int) (w : World) : Calls Tryd.prog 48 #[.int .i64 n, .int .i64 lo, .int .i64 hi] w fun e w' => e = .returned (.bool (decide (lo ≤ n ∧ n ≤ hi))) ∧ w' = w := by
  by_cases h1 : lo ≤ n
  · by_cases h2 : n ≤ hi
    · rw [decide_eq_true ⟨h1, h2⟩]
      go_enter Tryd.func48, Tryd.ntmps48
      go_wp2
      go_ret
      exact ⟨rfl, rfl⟩
    · rw [decide_eq_false (fun x => h2 x.2)]
      go_enter Tryd.func48, Tryd.ntmps48
      go_wp2
      go_ret
      exact ⟨rfl, rfl⟩
  · rw [decide_eq_false (fun x => h1 x.1)]
    go_enter Tryd.func48, Tryd.ntmps48
    go_wp2
    go_ret
    exact ⟨rfl, rfl⟩
set_option maxRecDepth 100000 in
set_option maxHeartbeats 4000000 in
theorem rimage25 (i : Im25) (w : World) : Calls Tryd.prog 49 #[.agg i.cs] w fun e w' => e = .returned (.bool (decide (i.may 1))) ∧ Below w.heap.size w w' := by
  have HB : Hid (decide (i.may 1) = true ↔ (i.s = 0 ∨ i.s = 1) ∧ 1 ≤ i.v ∧ i.v ≤ 2147483647 ∧ 0 ≤ i.z ∧ i.z ≤ 16777216) := decide_eq_true_iff
  generalize decide (i.may 1) = B at *
  obtain ⟨s, v, z, m⟩ := i
  unfold Im25.cs
  simp only at *
  have BA : Below w.heap.size w (w.alloc (.cells #[.int .i64 s, .int .i64 v, .int .i64 z, .int .u32 m] 25)) := (Below.refl _ _).alloc (Nat.le_refl _) _
  have HBA : Hid (Below w.heap.size w (w.alloc (.cells #[.int .i64 s, .int .i64 v, .int .i64 z, .int .u32 m] 25))) := BA
  clear BA
  go_enter Tryd.func49, Tryd.ntmps49
  go_wp2_with fail
  refine (rin25 s 0 1 _).mono ?_
  rintro e1 w1 ⟨rfl, rfl⟩
  by_cases h1 : 0 ≤ s ∧ s ≤ 1
  rotate_left
  · rw [decide_eq_false h1]
    go_wp2_with fail
    go_ret
    exact ⟨by have : B = false := by { cases hb : B with | false => rfl | true => { have := HB.out.1 hb; omega } }
              rw [this]; rfl, HBA.out⟩
  rw [decide_eq_true h1]
  go_wp2_with fail
  refine (rin25 v 1 2147483647 _).mono ?_
  rintro e1 w1 ⟨rfl, rfl⟩
  by_cases h2 : 1 ≤ v ∧ v ≤ 2147483647
  rotate_left
  · rw [decide_eq_false h2]
    go_wp2_with fail
    go_ret
    exact ⟨by have : B = false := by { cases hb : B with | false => rfl | true => { have := HB.out.1 hb; omega } }
              rw [this]; rfl, HBA.out⟩
  rw [decide_eq_true h2]
  go_wp2_with fail
  refine (rin25 z 0 16777216 _).mono ?_
  rintro e1 w1 ⟨rfl, rfl⟩
  have hb : B = decide (0 ≤ z ∧ z ≤ 16777216) := by
    rw [Bool.eq_iff_iff, HB.out, decide_eq_true_iff]
    omega
  rw [← hb]
  clear hb h1 h2 HB
  go_wp2_with fail
  go_ret
  exact ⟨rfl, HBA.out⟩
set_option maxRecDepth 100000 in
set_option maxHeartbeats 8000000 in
theorem rcheck25 (r : Rc25) (w : World) : Calls Tryd.prog 14 #[.agg r.cs] w fun e w' => e = .returned (.int .i64 (ck25 r)) ∧ Below w.heap.size w w' := by
  obtain ⟨q, g, n, t⟩ := r
  unfold Rc25.cs
  simp only
  obtain ⟨wA, hwA⟩ : ∃ wA, wA = w.alloc (.cells #[.int .i64 q, .int .i64 g.s, .int .i64 g.v, .int .i64 g.z, .int .u32 g.m, .int .i64 n.s, .int .i64 n.v, .int .i64 n.z, .int .u32 n.m, .int .i64 t] 27) := ⟨_, rfl⟩
  have HWA : Hid (w.alloc (.cells #[.int .i64 q, .int .i64 g.s, .int .i64 g.v, .int .i64 g.z, .int .u32 g.m, .int .i64 n.s, .int .i64 n.v, .int .i64 n.z, .int .u32 n.m, .int .i64 t] 27) = wA) := hwA.symm
  have bA : Below w.heap.size w wA := by rw [hwA]; exact (Below.refl _ _).alloc (Nat.le_refl _) _
  have qA : wA.heap[w.heap.size]? = some (.cells #[.int .i64 q, .int .i64 g.s, .int .i64 g.v, .int .i64 g.z, .int .u32 g.m, .int .i64 n.s, .int .i64 n.v, .int .i64 n.z, .int .u32 n.m, .int .i64 t] 27 (0, 0)) := by rw [hwA]; exact heap_alloc_new _ _
  have HE : Hid (∀ W, (binOp .eql 25 (.agg #[.int .i64 n.s, .int .i64 n.v, .int .i64 n.z, .int .u32 n.m]) (.agg #[.int .i64 0, .int .i64 0, .int .i64 0, .int .u32 0])).run Tryd.prog W = .ok (.bool (decide (n = no25))) W) := fun W => bei25d n no25 W
  have HQ : Hid (∀ V, Below wA.heap.size wA V → V.heap[w.heap.size]? = some (.cells #[.int .i64 q, .int .i64 g.s, .int .i64 g.v, .int .i64 g.z, .int .u32 g.m, .int .i64 n.s, .int .i64 n.v, .int .i64 n.z, .int .u32 n.m, .int .i64 t] 27 (0, 0))) := fun V hV => (hV.block _ (Array.getElem?_eq_some_iff.1 qA).1).trans qA
  have HA : Hid (Below w.heap.size w wA) := bA
  have B0 : Hid (Below wA.heap.size wA wA) := Below.refl _ _
  clear hwA bA qA
  go_enter Tryd.func14, Tryd.ntmps14
  go_wp2_with fail
  rw [HWA.out]
  obtain ⟨c0, c1, c2, c3, c4, c5, c6, c7, c8, c9⟩ := cells25 (HQ.out wA (Below.refl _ _))
  refine (rin25 q 1 1152921504606846976 wA).mono ?_
  rintro e1 w1 ⟨rfl, hw1⟩
  rw [hw1]
  clear hw1
  by_cases h1 : 1 ≤ q ∧ q ≤ 1152921504606846976
  rotate_left
  · rw [decide_eq_false h1]
    go_wp2_with fail
    go_ret
    exact ⟨by rw [ck25, if_neg (fun h => h1 h.1)]; rfl, HA.out.trans (B0.out.mono HA.out.size)⟩
  rw [decide_eq_true h1]
  go_wp2_with fail
  refine (rimage25 g wA).mono ?_
  rintro e1 w1 ⟨rfl, b1⟩
  have B1 : Hid (Below wA.heap.size wA w1) := b1
  clear c0 c1 c2 c3 c4 c5 c6 c7 c8 c9 b1
  obtain ⟨c0, c1, c2, c3, c4, c5, c6, c7, c8, c9⟩ := cells25 (HQ.out w1 B1.out)
  by_cases hg : g.may 1
  rotate_left
  · rw [decide_eq_false hg]
    go_wp2_with fail
    go_ret
    exact ⟨by rw [ck25, if_neg (fun h => hg h.2.2.1)]; rfl, HA.out.trans (B1.out.mono HA.out.size)⟩
  rw [decide_eq_true hg]
  go_wp2_with fail
  refine (rin25 t 0 15 w1).mono ?_
  rintro e1 w2 ⟨rfl, hw1⟩
  rw [hw1]
  clear hw1
  by_cases h3 : 0 ≤ t ∧ t ≤ 15
  rotate_left
  · rw [decide_eq_false h3]
    go_wp2_with fail
    go_ret
    exact ⟨by rw [ck25, if_neg (fun h => h3 h.2.1)]; rfl, HA.out.trans (B1.out.mono HA.out.size)⟩
  rw [decide_eq_true h3]
  have H13 : Hid ((1 ≤ q ∧ q ≤ 1152921504606846976) ∧ (0 ≤ t ∧ t ≤ 15) ∧ g.may 1) := ⟨h1, h3, hg⟩
  clear h1 hg
  have E1 := HE.out w1
  by_cases hn : n = no25
  · rw [decide_eq_true hn] at E1
    have HN : Hid (n = no25) := hn
    clear hn
    by_cases h5 : t = 0
    · have ht0 : (t != 0) = false := by simp [h5]
      have HT : Hid (t = 0) := h5
      subst h5
      go_wp2_with (refine wpList_bin25 rfl .eql 25 (.tmp 20) (.tmp 21) 25 rfl rfl rfl egi25d E1 ?_)
      go_ret
      have hm : (Rc25.mk q g n 0).may := ⟨H13.out.1, H13.out.2.1, H13.out.2.2, .inl ⟨HN.out, rfl⟩⟩
      exact ⟨by rw [ck25, if_pos hm]; rfl, HA.out.trans (B1.out.mono HA.out.size)⟩
    · have ht0 : (t != 0) = true := by simp [h5]
      have HT : Hid (t ≠ 0) := h5
      clear h5
      go_wp2_with (refine wpList_bin25 rfl .eql 25 (.tmp 20) (.tmp 21) 25 rfl rfl rfl egi25d E1 ?_)
      go_ret
      exact ⟨by rw [ck25, if_neg (fun h => h.2.2.2.elim (fun x => HT.out x.2) (fun x => x.1 HN.out))]; rfl, HA.out.trans (B1.out.mono HA.out.size)⟩
  rw [decide_eq_false hn] at E1
  have HN : Hid (n ≠ no25) := hn
  clear hn
  go_wp2_with (refine wpList_bin25 rfl .eql 25 (.tmp 20) (.tmp 21) 25 rfl rfl rfl egi25d E1 ?_)
  refine (rimage25 n w1).mono ?_
  rintro e2 w2 ⟨rfl, b2⟩
  have B2 : Hid (Below wA.heap.size wA w2) := B1.out.trans (b2.mono B1.out.size)
  clear c0 c1 c2 c3 c4 c5 c6 c7 c8 c9 b2 E1
  obtain ⟨c0, c1, c2, c3, c4, c5, c6, c7, c8, c9⟩ := cells25 (HQ.out w2 B2.out)
  by_cases hm : n.may 1
  rotate_left
  · rw [decide_eq_false hm]
    have HMM : Hid (¬ n.may 1) := hm
    clear hm
    go_wp2_with fail
    go_ret
    exact ⟨by rw [ck25, if_neg (fun h => h.2.2.2.elim (fun x => HN.out x.1) (fun x => HMM.out ⟨x.2.1.1, Int.le_trans H13.out.2.2.2.1 x.2.1.2.1, x.2.1.2.2⟩))]; rfl, HA.out.trans (B2.out.mono HA.out.size)⟩
  rw [decide_eq_true hm]
  have HMM : Hid (n.may 1) := hm
  clear hm
  obtain ⟨gs, gv, gz, gm⟩ := g
  obtain ⟨ns, nv, nz, nm⟩ := n
  have gs01 : gs = 0 ∨ gs = 1 := H13.out.2.2.1
  simp only at c0 c1 c2 c3 c4 c5 c6 c7 c8 c9 HQ HE ⊢
  rcases gs01 with rfl | rfl
  · by_cases hs : ns = 1
    rotate_left
    · have HSS : Hid (ns ≠ 1) := hs
      go_wp2_with fail
      go_ret
      exact ⟨by rw [ck25, if_neg (fun h => h.2.2.2.elim (fun x => HN.out x.1) (fun x => by have a : ns = 0 ∨ ns = 1 := x.2.1.1; have b : ns ≠ 0 := x.2.2; have := HSS.out; omega))]; rfl, HA.out.trans (B2.out.mono HA.out.size)⟩
    have HSS : Hid (ns = 1) := hs
    subst hs
    by_cases hv : nv < gv
    · have HV : Hid (nv < gv) := hv
      go_wp2_with fail
      go_ret
      exact ⟨by rw [ck25, if_neg (fun h => h.2.2.2.elim (fun x => HN.out x.1) (fun x => by have y := HV.out; have z : gv ≤ nv := x.2.1.2.1; omega))]; rfl, HA.out.trans (B2.out.mono HA.out.size)⟩
    have HV : Hid (¬ nv < gv) := hv
    go_wp2_with fail
    go_ret
    have hm : (Rc25.mk q ⟨0, gv, gz, gm⟩ ⟨1, nv, nz, nm⟩ t).may := ⟨H13.out.1, H13.out.2.1, H13.out.2.2, .inr ⟨HN.out, ⟨HMM.out.1, by have := HV.out; show gv ≤ nv; omega, HMM.out.2.2⟩, by show (1 : Int) ≠ 0; decide⟩⟩
    exact ⟨by rw [ck25, if_pos hm]; rfl, HA.out.trans (B2.out.mono HA.out.size)⟩
  · by_cases hs : ns = 0
    rotate_left
    · have HSS : Hid (ns ≠ 0) := hs
      go_wp2_with fail
      go_ret
      exact ⟨by rw [ck25, if_neg (fun h => h.2.2.2.elim (fun x => HN.out x.1) (fun x => by have a : ns = 0 ∨ ns = 1 := x.2.1.1; have b : ns ≠ 1 := x.2.2; have := HSS.out; omega))]; rfl, HA.out.trans (B2.out.mono HA.out.size)⟩
    have HSS : Hid (ns = 0) := hs
    subst hs
    by_cases hv : nv < gv
    · have HV : Hid (nv < gv) := hv
      go_wp2_with fail
      go_ret
      exact ⟨by rw [ck25, if_neg (fun h => h.2.2.2.elim (fun x => HN.out x.1) (fun x => by have y := HV.out; have z : gv ≤ nv := x.2.1.2.1; omega))]; rfl, HA.out.trans (B2.out.mono HA.out.size)⟩
    have HV : Hid (¬ nv < gv) := hv
    go_wp2_with fail
    go_ret
    have hm : (Rc25.mk q ⟨1, gv, gz, gm⟩ ⟨0, nv, nz, nm⟩ t).may := ⟨H13.out.1, H13.out.2.1, H13.out.2.2, .inr ⟨HN.out, ⟨HMM.out.1, by have := HV.out; show gv ≤ nv; omega, HMM.out.2.2⟩, by show (0 : Int) ≠ 1; decide⟩⟩
    exact ⟨by rw [ck25, if_pos hm]; rfl, HA.out.trans (B2.out.mono HA.out.size)⟩
end Go.Proofs.YteboaolflecibaaDoor

namespace Go.Proofs.YteboaolflecibaaDoor
open Go.RowKit
set_option linter.unusedVariables false
theorem div_next (v : Int) (k : Nat) : v / 2 ^ (8 * k) / 256 = v / 2 ^ (8 * (k + 1)) := by
  rw [Int.ediv_ediv_of_nonneg (Int.le_of_lt (Int.pow_pos (by decide))), show 8 * (k + 1) = 8 * k + 8 by omega, Int.pow_add]
  rfl
theorem div_bd (v : Int) (k : Nat) (h0 : 0 ≤ v) (h1 : v ≤ 18446744073709551615) : 0 ≤ v / 2 ^ (8 * k) ∧ v / 2 ^ (8 * k) ≤ 18446744073709551615 := by
  have hp : (0 : Int) < 2 ^ (8 * k) := Int.pow_pos (by decide)
  refine ⟨Int.ediv_nonneg h0 (Int.le_of_lt hp), ?_⟩
  have := Int.ediv_le_self (2 ^ (8 * k)) h0
  omega

set_option maxRecDepth 100000 in
set_option maxHeartbeats 1000000 in
theorem rfixed_any (v : Int) (s : Nat) (w : World) (h1 : 1 ≤ s) (h8 : s ≤ 8) (hv0 : 0 ≤ v) (hv1 : v ≤ 18446744073709551615) :
    Calls Tryd.prog 78 #[.int .u64 v, .int .i64 s] w fun e w' => Below w.heap.size w w' ∧
      ((v / 2 ^ (8 * s) ≠ 0 ∧ e = .returned (.tuple #[.slice none 0 0, .int .i64 10])) ∨
       (v / 2 ^ (8 * s) = 0 ∧ ∃ b, e = .returned (.tuple #[b, .int .i64 0]) ∧ w'.ownsRow w.heap.size 5 1 b s ((fixL s v).map (Value.int .u8)))) := by
  have a1 : decide ((s : Int) < 1) = false := by simp; omega
  obtain ⟨i0, hi, hz0, hz1, hz2⟩ := info_parts info_u8f
  go_enter Tryd.func78, Tryd.ntmps78
  go_wp2
  go_loopw [0, 6, 7] (fun t b i wr => ∃ k : Nat, k ≤ s ∧ i = .int .i64 k ∧ t = .int .u64 (v / 2 ^ (8 * k)) ∧ wr.ownsRow w.heap.size 5 1 b k ((fixL k v).map (Value.int .u8)) ∧ Below w.heap.size w wr) (fun _ _ i _ => s - (intOf i).toNat)
  case atStart => exact ⟨0, Nat.zero_le _, rfl, by simp, World.ownsRow_nil _ _ _ _, Below.refl _ _⟩
  case round =>
    obtain ⟨k, hk, rfl, rfl, hown, hb⟩ := hrel
    have hbd := div_bd v k hv0 hv1
    have HN : Hid (v / 2 ^ (8 * k) / 256 = v / 2 ^ (8 * (k + 1))) := div_next v k
    have HF : Hid (fixL (k + 1) v = fixL k v ++ [v / 2 ^ (8 * k) % 256]) := fixL_snoc k v
    have hszr := hb.size
    by_cases hlt : k < s
    · have hlti : (k : Int) < (s : Int) := by omega
      generalize hq : v / 2 ^ (8 * k) = q at *
      clear hq
      go_wp2_with (at_builtin; refine wpList_push rfl _ _ 28 rfl w.heap.size 5 i0 (.int .u8 0) 1 Tryd.underlying28 hi hz0 hz1 hz2 rfl wr (.int .u8 (q % 256)) rfl hown rfl rfl (by omega) (by omega) hszr ?_; intro v' w2 hown3 hg3 hb3)
      go_roundw
      case rel => exact ⟨k + 1, by omega, by go_num, by rw [HN.out], by rw [HF.out, List.map_append]; exact hown3, hb.trans hb3⟩
      case measure => simp [intOf]; omega
    · obtain rfl : k = s := by omega
      clear hlt HN HF
      by_cases hr : v / 2 ^ (8 * k) = 0
      · rw [hr]
        go_wp2
        go_ret2
        exact ⟨hb, Or.inr ⟨hr, _, rfl, hown⟩⟩
      · have hpos : 0 < v / 2 ^ (8 * k) := by omega
        generalize hq : v / 2 ^ (8 * k) = q at *
        have HQ : Hid (v / 2 ^ (8 * k) = q) := hq
        clear hq
        go_wp2
        go_ret2
        exact ⟨hb, Or.inl ⟨by rw [HQ.out]; exact hr, rfl⟩⟩

end Go.Proofs.YteboaolflecibaaDoor

namespace Go.Proofs.YteboaolflecibaaDoor
open Go.RowKit
set_option linter.unusedVariables false
set_option linter.unusedSimpArgs false
theorem wI_low (a : W32) : bits .and .u32 (wI a) 1 = wI (a &&& 1#32) := wI_and a 1#32
theorem wI_eq (a b : W32) : (wI a == wI b) = (a == b) := by
  rw [Bool.eq_iff_iff, beq_iff_eq, beq_iff_eq]
  exact ⟨wI_inj, fun h => by rw [h]⟩
theorem wI_low1 (a : W32) : (bits .and .u32 (wI a) 1 == 1) = a.getLsbD 0 := by
  rw [wI_low, show (1 : Int) = wI 1#32 from rfl, wI_eq]
  have h := and_two a 0 (by decide)
  rw [show BitVec.twoPow 32 0 = 1#32 from rfl] at h
  rw [← h]
  have e : (a &&& 1#32) = BitVec.ofNat 32 (a.toNat % 2) := by
    apply BitVec.eq_of_toNat_eq
    have : a.toNat &&& 1 = a.toNat % 2 := Nat.and_two_pow_sub_one_eq_mod _ 1
    simp [this]
    omega
  rw [e]
  rcases Nat.mod_two_eq_zero_or_one a.toNat with h | h <;> rw [h] <;> decide

set_option maxRecDepth 100000 in
/-- The register behind one more bit. -/
theorem step_any (a c : W32) (w : World) (hc : c = 0#32 ∨ c = 1#32) : Calls Tryd.prog 94 #[.int .u32 (wI a), .int .u32 (wI c)] w fun e w' => e = .returned (.int .u32 (wI (on (a ^^^ c)))) ∧ w' = w := by
  have b := wI_bd a
  have hx := wI_xor a c
  have hl := wI_low1 (a ^^^ c)
  have h2 : wI a / (2 : Int) = wI ((a ^^^ c) >>> 1) := by
    rw [wI_half, BitVec.ushiftRight_xor_distrib]
    congr 1
    rcases hc with rfl | rfl
    · simp
    · simp
  cases h : (a ^^^ c).getLsbD 0
  · have HL : Hid (wI a / 2 = wI (on (a ^^^ c))) := by
      show _ = _
      rw [h2]; unfold on; rw [h]; simp
    rw [h] at hl
    rw [← hx] at hl
    clear h h2 hx
    go_enter Tryd.func94, Tryd.ntmps94
    go_wp2
    go_ret
    exact ⟨ret_u32 HL.out, rfl⟩
  · have HL : Hid (bits .xor .u32 (wI a / 2) 3988292384 = wI (on (a ^^^ c))) := by
      show _ = _
      rw [h2, show (3988292384 : Int) = wI genW from rfl, wI_xor]; unfold on; rw [h, if_pos rfl]
    rw [h] at hl
    rw [← hx] at hl
    clear h h2 hx
    go_enter Tryd.func94, Tryd.ntmps94
    go_wp2
    go_ret
    exact ⟨ret_u32 HL.out, rfl⟩
end Go.Proofs.YteboaolflecibaaDoor

namespace Go.Proofs.YteboaolflecibaaDoor
open Go.RowKit
set_option linter.unusedVariables false
set_option linter.unusedSimpArgs false
/-- The low bits of a byte. -/
def lowW (x : Int) (k : Nat) : W32 := BitVec.ofNat 32 (x.toNat % 2 ^ k)
def bitW (x : Int) (k : Nat) : W32 := BitVec.ofNat 32 (x.toNat / 2 ^ k % 2)
theorem low_next0 : ∀ (x : Fin 256) (k : Fin 8), BitVec.ofNat 32 (x.val % 2 ^ (k.val + 1)) = BitVec.ofNat 32 (x.val % 2 ^ k.val) ^^^ (BitVec.ofNat 32 (x.val / 2 ^ k.val % 2) <<< k.val) := by decide +kernel
theorem low_next (x : Int) (h0 : 0 ≤ x) (h1 : x ≤ 255) (k : Nat) (hk : k < 8) : lowW x (k + 1) = lowW x k ^^^ (bitW x k <<< k) :=
  low_next0 ⟨x.toNat, by omega⟩ ⟨k, hk⟩
theorem low_step (r : W32) (x : Int) (h0 : 0 ≤ x) (h1 : x ≤ 255) (k : Nat) (hk : k < 8) : on (onN k (r ^^^ lowW x k) ^^^ bitW x k) = onN (k + 1) (r ^^^ lowW x (k + 1)) := by
  have e : bitW x k = onN k (bitW x k <<< k) := by
    refine (onN_shl k _ ?_ (by omega)).symm
    have h2 : (bitW x k).toNat < 2 := by
      unfold bitW
      have := Nat.mod_lt (x.toNat / 2 ^ k) (show 0 < 2 by decide)
      simp
      omega
    have h3 : 2 ^ 1 ≤ 2 ^ (32 - k) := Nat.pow_le_pow_right (by decide) (by omega)
    exact Nat.lt_of_lt_of_le h2 h3
  conv => lhs; rw [e]
  rw [← onN_xor, BitVec.xor_assoc, ← low_next x h0 h1 k hk]
  rfl
theorem bit_or (x : Int) (k : Nat) : bitW x k = 0#32 ∨ bitW x k = 1#32 := by
  unfold bitW
  rcases Nat.mod_two_eq_zero_or_one (x.toNat / 2 ^ k) with h | h <;> rw [h]
  · exact Or.inl rfl
  · exact Or.inr rfl
theorem bit_is (x : Int) (h0 : 0 ≤ x) (h1 : x ≤ 255) (k : Nat) : bits .and .u32 (x / 2 ^ k % 4294967296) 1 = wI (bitW x k) := by
  obtain ⟨n, rfl⟩ := Int.eq_ofNat_of_zero_le h0
  have hd : n / 2 ^ k ≤ n := Nat.div_le_self _ _
  have e1 : ((n : Int) / 2 ^ k) = wI (BitVec.ofNat 32 (n / 2 ^ k)) := by
    unfold wI
    rw [BitVec.toNat_ofNat, Nat.mod_eq_of_lt (by omega)]
    simp
  have e0 : (n : Int) / 2 ^ k % 4294967296 = (n : Int) / 2 ^ k := by
    have := wI_bd (BitVec.ofNat 32 (n / 2 ^ k))
    rw [← e1] at this
    exact Int.emod_eq_of_lt this.1 this.2
  rw [e0, e1, wI_low]
  congr 1
  apply BitVec.eq_of_toNat_eq
  unfold bitW
  rw [BitVec.toNat_and, BitVec.toNat_ofNat, BitVec.toNat_ofNat, Nat.mod_eq_of_lt (a := n / 2 ^ k) (by omega)]
  have : n / 2 ^ k &&& 1 = n / 2 ^ k % 2 := Nat.and_two_pow_sub_one_eq_mod _ 1
  simp [this]
  omega

set_option maxRecDepth 100000 in
set_option maxHeartbeats 1000000 in
theorem run_any (r : W32) (a : Option Addr) (zs : List Int) (cap : Nat) (w : World) (hs : Seg w a zs) (hl : zs.length ≤ 9223372036854775807) :
    Calls Tryd.prog 79 #[.int .u32 (wI r), .slice a zs.length cap] w fun e w' => e = .returned (.int .u32 (wI (runW r zs))) ∧ w' = w := by
  go_enter Tryd.func79, Tryd.ntmps79
  go_wp2
  go_loopw [0, 5] (fun tr ti wr => ∃ k : Nat, k ≤ zs.length ∧ tr = .int .u32 (wI (runW r (zs.take k))) ∧ ti = .int .i64 k ∧ wr = w) (fun _ ti _ => zs.length - (intOf ti).toNat)
  case atStart => exact ⟨0, Nat.zero_le _, by simp [runW], rfl, rfl⟩
  case round =>
    obtain ⟨k, hk, rfl, rfl, rfl⟩ := hrel
    by_cases hlt : k < zs.length
    · have hlti : (k : Int) < (zs.length : Int) := by omega
      obtain ⟨b, off, rfl, hc⟩ := hs.at_ k hlt
      have hbd := hs.bd k
      have HT : Hid (runW r (zs.take (k + 1)) = takeW (runW r (zs.take k)) (zs.getD k 0)) := by
        show _ = _
        rw [take_snoc hlt, runW_snoc]
      generalize zs.getD k 0 = z at *
      generalize runW r (zs.take k) = q at *
      go_wp2
      go_loopw [0, 6] (fun tr ti w2 => ∃ j : Nat, j ≤ 8 ∧ tr = .int .u32 (wI (onN j (q ^^^ lowW z j))) ∧ ti = .int .i64 j ∧ w2 = wr) (fun _ ti _ => 8 - (intOf ti).toNat)
      case atStart => exact ⟨0, by decide, by simp [lowW, onN, Nat.mod_one], rfl, rfl⟩
      case round =>
        obtain ⟨j, hj, rfl, rfl, rfl⟩ := hrel
        by_cases hj8 : j < 8
        · have hj8' : (j : Int) < 8 := by omega
          have hb := bit_is z hbd.1 hbd.2 j
          have HS : Hid (on (onN j (q ^^^ lowW z j) ^^^ bitW z j) = onN (j + 1) (q ^^^ lowW z (j + 1))) := low_step q z hbd.1 hbd.2 j hj8
          have ho := bit_or z j
          go_wp2_with (go_at_call 94; refine (step_any _ _ _ ho).mono ?_; rintro e w' ⟨rfl, hw'⟩; subst w')
          go_roundw
          case rel => exact ⟨j + 1, by omega, by rw [HS.out], by go_num, trivial⟩
          case measure => simp [intOf]; omega
        · obtain rfl : j = 8 := by omega
          clear hj8
          have H8 : Hid (onN 8 (q ^^^ lowW z 8) = takeW q z) := by
            show _ = _
            unfold takeW lowW bW
            rw [Nat.mod_eq_of_lt (by omega)]
          go_wp2
          go_roundw
          case rel => exact ⟨k + 1, by omega, by rw [HT.out, H8.out], by go_num, trivial⟩
          case measure => simp [intOf]; omega
    · obtain rfl : k = zs.length := by omega
      have e1 : zs.take zs.length = zs := List.take_of_length_le (Nat.le_refl _)
      rw [e1]
      clear hlt e1
      go_wp2
      go_ret
      exact ⟨rfl, rfl⟩
end Go.Proofs.YteboaolflecibaaDoor
