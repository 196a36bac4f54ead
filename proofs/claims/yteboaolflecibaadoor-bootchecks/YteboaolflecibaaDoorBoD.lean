import Derived.Test.YteboaolflecibaaDoorBoC
namespace Go.Proofs.YteboaolflecibaaDoor
open Go.RowKit
set_option linter.unusedVariables false
set_option linter.unusedSimpArgs false
set_option maxRecDepth 100000 in
theorem rin25 (n lo hi : Int) (w : World) : Calls Tryd.prog 48 #[.int .i64 n, .int .i64 lo, .int .i64 hi] w fun e w' => e = .returned (.bool (decide (lo ≤ n ∧ n ≤ hi))) ∧ w' = w := by
  by_cases h1 : lo ≤ n
  · by_cases h2 : n ≤ hi
    · rw [decide_eq_true ⟨h1, h2⟩]
      go_enter Tryd.func48, Tryd.ntmps48
      go_wp2
      go_ret
      exact ⟨rfl, rfl⟩
    · rw [decide_eq_false (fun x => h2 x.2)]
      go_enter Tryd.func48, Tryd.ntmps48
      go_wp2
      go_ret
      exact ⟨rfl, rfl⟩
  · rw [decide_eq_false (fun x => h1 x.1)]
    go_enter Tryd.func48, Tryd.ntmps48
    go_wp2
    go_ret
    exact ⟨rfl, rfl⟩
set_option maxRecDepth 100000 in
set_option maxHeartbeats 4000000 in
theorem rimage25 (i : Im25) (w : World) : Calls Tryd.prog 49 #[.agg i.cs] w fun e w' => e = .returned (.bool (decide (i.may 1))) ∧ Below w.heap.size w w' := by
  have HB : Hid (decide (i.may 1) = true ↔ (i.s = 0 ∨ i.s = 1) ∧ 1 ≤ i.v ∧ i.v ≤ 2147483647 ∧ 0 ≤ i.z ∧ i.z ≤ 16777216) := decide_eq_true_iff
  generalize decide (i.may 1) = B at *
  obtain ⟨s, v, z, m⟩ := i
  unfold Im25.cs
  simp only at *
  have BA : Below w.heap.size w (w.alloc (.cells #[.int .i64 s, .int .i64 v, .int .i64 z, .int .u32 m] 25)) := (Below.refl _ _).alloc (Nat.le_refl _) _
  have HBA : Hid (Below w.heap.size w (w.alloc (.cells #[.int .i64 s, .int .i64 v, .int .i64 z, .int .u32 m] 25))) := BA
  clear BA
  go_enter Tryd.func49, Tryd.ntmps49
  go_wp2_with fail
  refine (rin25 s 0 1 _).mono ?_
  rintro e1 w1 ⟨rfl, rfl⟩
  by_cases h1 : 0 ≤ s ∧ s ≤ 1
  rotate_left
  · rw [decide_eq_false h1]
    go_wp2_with fail
    go_ret
    exact ⟨by have : B = false := by { cases hb : B with | false => rfl | true => { have := HB.out.1 hb; omega } }
              rw [this]; rfl, HBA.out⟩
  rw [decide_eq_true h1]
  go_wp2_with fail
  refine (rin25 v 1 2147483647 _).mono ?_
  rintro e1 w1 ⟨rfl, rfl⟩
  by_cases h2 : 1 ≤ v ∧ v ≤ 2147483647
  rotate_left
  · rw [decide_eq_false h2]
    go_wp2_with fail
    go_ret
    exact ⟨by have : B = false := by { cases hb : B with | false => rfl | true => { have := HB.out.1 hb; omega } }
              rw [this]; rfl, HBA.out⟩
  rw [decide_eq_true h2]
  go_wp2_with fail
  refine (rin25 z 0 16777216 _).mono ?_
  rintro e1 w1 ⟨rfl, rfl⟩
  have hb : B = decide (0 ≤ z ∧ z ≤ 16777216) := by
    rw [Bool.eq_iff_iff, HB.out, decide_eq_true_iff]
    omega
  rw [← hb]
  clear hb h1 h2 HB
  go_wp2_with fail
  go_ret
  exact ⟨rfl, HBA.out⟩
set_option maxRecDepth 100000 in
set_option maxHeartbeats 8000000 in
theorem rcheck25 (r : Rc25) (w : World) : Calls Tryd.prog 14 #[.agg r.cs] w fun e w' => e = .returned (.int .i64 (ck25 r)) ∧ Below w.heap.size w w' := by
  obtain ⟨q, g, n, t⟩ := r
  unfold Rc25.cs
  simp only
  obtain ⟨wA, hwA⟩ : ∃ wA, wA = w.alloc (.cells #[.int .i64 q, .int .i64 g.s, .int .i64 g.v, .int .i64 g.z, .int .u32 g.m, .int .i64 n.s, .int .i64 n.v, .int .i64 n.z, .int .u32 n.m, .int .i64 t] 27) := ⟨_, rfl⟩
  have HWA : Hid (w.alloc (.cells #[.int .i64 q, .int .i64 g.s, .int .i64 g.v, .int .i64 g.z, .int .u32 g.m, .int .i64 n.s, .int .i64 n.v, .int .i64 n.z, .int .u32 n.m, .int .i64 t] 27) = wA) := hwA.symm
  have bA : Below w.heap.size w wA := by rw [hwA]; exact (Below.refl _ _).alloc (Nat.le_refl _) _
  have qA : wA.heap[w.heap.size]? = some (.cells #[.int .i64 q, .int .i64 g.s, .int .i64 g.v, .int .i64 g.z, .int .u32 g.m, .int .i64 n.s, .int .i64 n.v, .int .i64 n.z, .int .u32 n.m, .int .i64 t] 27 (0, 0)) := by rw [hwA]; exact heap_alloc_new _ _
  have HE : Hid (∀ W, (binOp .eql 25 (.agg #[.int .i64 n.s, .int .i64 n.v, .int .i64 n.z, .int .u32 n.m]) (.agg #[.int .i64 0, .int .i64 0, .int .i64 0, .int .u32 0])).run Tryd.prog W = .ok (.bool (decide (n = no25))) W) := fun W => bei25d n no25 W
  have HQ : Hid (∀ V, Below wA.heap.size wA V → V.heap[w.heap.size]? = some (.cells #[.int .i64 q, .int .i64 g.s, .int .i64 g.v, .int .i64 g.z, .int .u32 g.m, .int .i64 n.s, .int .i64 n.v, .int .i64 n.z, .int .u32 n.m, .int .i64 t] 27 (0, 0))) := fun V hV => (hV.block _ (Array.getElem?_eq_some_iff.1 qA).1).trans qA
  have HA : Hid (Below w.heap.size w wA) := bA
  have B0 : Hid (Below wA.heap.size wA wA) := Below.refl _ _
  clear hwA bA qA
  go_enter Tryd.func14, Tryd.ntmps14
  go_wp2_with fail
  rw [HWA.out]
  obtain ⟨c0, c1, c2, c3, c4, c5, c6, c7, c8, c9⟩ := cells25 (HQ.out wA (Below.refl _ _))
  refine (rin25 q 1 1152921504606846976 wA).mono ?_
  rintro e1 w1 ⟨rfl, hw1⟩
  rw [hw1]
  clear hw1
  by_cases h1 : 1 ≤ q ∧ q ≤ 1152921504606846976
  rotate_left
  · rw [decide_eq_false h1]
    go_wp2_with fail
    go_ret
    exact ⟨by rw [ck25, if_neg (fun h => h1 h.1)]; rfl, HA.out.trans (B0.out.mono HA.out.size)⟩
  rw [decide_eq_true h1]
  go_wp2_with fail
  refine (rimage25 g wA).mono ?_
  rintro e1 w1 ⟨rfl, b1⟩
  have B1 : Hid (Below wA.heap.size wA w1) := b1
  clear c0 c1 c2 c3 c4 c5 c6 c7 c8 c9 b1
  obtain ⟨c0, c1, c2, c3, c4, c5, c6, c7, c8, c9⟩ := cells25 (HQ.out w1 B1.out)
  by_cases hg : g.may 1
  rotate_left
  · rw [decide_eq_false hg]
    go_wp2_with fail
    go_ret
    exact ⟨by rw [ck25, if_neg (fun h => hg h.2.2.1)]; rfl, HA.out.trans (B1.out.mono HA.out.size)⟩
  rw [decide_eq_true hg]
  go_wp2_with fail
  refine (rin25 t 0 15 w1).mono ?_
  rintro e1 w2 ⟨rfl, hw1⟩
  rw [hw1]
  clear hw1
  by_cases h3 : 0 ≤ t ∧ t ≤ 15
  rotate_left
  · rw [decide_eq_false h3]
    go_wp2_with fail
    go_ret
    exact ⟨by rw [ck25, if_neg (fun h => h3 h.2.1)]; rfl, HA.out.trans (B1.out.mono HA.out.size)⟩
  rw [decide_eq_true h3]
  have H13 : Hid ((1 ≤ q ∧ q ≤ 1152921504606846976) ∧ (0 ≤ t ∧ t ≤ 15) ∧ g.may 1) := ⟨h1, h3, hg⟩
  clear h1 hg
  have E1 := HE.out w1
  by_cases hn : n = no25
  · rw [decide_eq_true hn] at E1
    have HN : Hid (n = no25) := hn
    clear hn
    by_cases h5 : t = 0
    · have ht0 : (t != 0) = false := by simp [h5]
      have HT : Hid (t = 0) := h5
      subst h5
      go_wp2_with (refine wpList_bin25 rfl .eql 25 (.tmp 20) (.tmp 21) 25 rfl rfl rfl egi25d E1 ?_)
      go_ret
      have hm : (Rc25.mk q g n 0).may := ⟨H13.out.1, H13.out.2.1, H13.out.2.2, .inl ⟨HN.out, rfl⟩⟩
      exact ⟨by rw [ck25, if_pos hm]; rfl, HA.out.trans (B1.out.mono HA.out.size)⟩
    · have ht0 : (t != 0) = true := by simp [h5]
      have HT : Hid (t ≠ 0) := h5
      clear h5
      go_wp2_with (refine wpList_bin25 rfl .eql 25 (.tmp 20) (.tmp 21) 25 rfl rfl rfl egi25d E1 ?_)
      go_ret
      exact ⟨by rw [ck25, if_neg (fun h => h.2.2.2.elim (fun x => HT.out x.2) (fun x => x.1 HN.out))]; rfl, HA.out.trans (B1.out.mono HA.out.size)⟩
  rw [decide_eq_false hn] at E1
  have HN : Hid (n ≠ no25) := hn
  clear hn
  go_wp2_with (refine wpList_bin25 rfl .eql 25 (.tmp 20) (.tmp 21) 25 rfl rfl rfl egi25d E1 ?_)
  refine (rimage25 n w1).mono ?_
  rintro e2 w2 ⟨rfl, b2⟩
  have B2 : Hid (Below wA.heap.size wA w2) := B1.out.trans (b2.mono B1.out.size)
  clear c0 c1 c2 c3 c4 c5 c6 c7 c8 c9 b2 E1
  obtain ⟨c0, c1, c2, c3, c4, c5, c6, c7, c8, c9⟩ := cells25 (HQ.out w2 B2.out)
  by_cases hm : n.may 1
  rotate_left
  · rw [decide_eq_false hm]
    have HMM : Hid (¬ n.may 1) := hm
    clear hm
    go_wp2_with fail
    go_ret
    exact ⟨by rw [ck25, if_neg (fun h => h.2.2.2.elim (fun x => HN.out x.1) (fun x => HMM.out ⟨x.2.1.1, Int.le_trans H13.out.2.2.2.1 x.2.1.2.1, x.2.1.2.2⟩))]; rfl, HA.out.trans (B2.out.mono HA.out.size)⟩
  rw [decide_eq_true hm]
  have HMM : Hid (n.may 1) := hm
  clear hm
  obtain ⟨gs, gv, gz, gm⟩ := g
  obtain ⟨ns, nv, nz, nm⟩ := n
  have gs01 : gs = 0 ∨ gs = 1 := H13.out.2.2.1
  simp only at c0 c1 c2 c3 c4 c5 c6 c7 c8 c9 HQ HE ⊢
  rcases gs01 with rfl | rfl
  · by_cases hs : ns = 1
    rotate_left
    · have HSS : Hid (ns ≠ 1) := hs
      go_wp2_with fail
      go_ret
      exact ⟨by rw [ck25, if_neg (fun h => h.2.2.2.elim (fun x => HN.out x.1) (fun x => by have a : ns = 0 ∨ ns = 1 := x.2.1.1; have b : ns ≠ 0 := x.2.2; have := HSS.out; omega))]; rfl, HA.out.trans (B2.out.mono HA.out.size)⟩
    have HSS : Hid (ns = 1) := hs
    subst hs
    by_cases hv : nv < gv
    · have HV : Hid (nv < gv) := hv
      go_wp2_with fail
      go_ret
      exact ⟨by rw [ck25, if_neg (fun h => h.2.2.2.elim (fun x => HN.out x.1) (fun x => by have y := HV.out; have z : gv ≤ nv := x.2.1.2.1; omega))]; rfl, HA.out.trans (B2.out.mono HA.out.size)⟩
    have HV : Hid (¬ nv < gv) := hv
    go_wp2_with fail
    go_ret
    have hm : (Rc25.mk q ⟨0, gv, gz, gm⟩ ⟨1, nv, nz, nm⟩ t).may := ⟨H13.out.1, H13.out.2.1, H13.out.2.2, .inr ⟨HN.out, ⟨HMM.out.1, by have := HV.out; show gv ≤ nv; omega, HMM.out.2.2⟩, by show (1 : Int) ≠ 0; decide⟩⟩
    exact ⟨by rw [ck25, if_pos hm]; rfl, HA.out.trans (B2.out.mono HA.out.size)⟩
  · by_cases hs : ns = 0
    rotate_left
    · have HSS : Hid (ns ≠ 0) := hs
      go_wp2_with fail
      go_ret
      exact ⟨by rw [ck25, if_neg (fun h => h.2.2.2.elim (fun x => HN.out x.1) (fun x => by have a : ns = 0 ∨ ns = 1 := x.2.1.1; have b : ns ≠ 1 := x.2.2; have := HSS.out; omega))]; rfl, HA.out.trans (B2.out.mono HA.out.size)⟩
    have HSS : Hid (ns = 0) := hs
    subst hs
    by_cases hv : nv < gv
    · have HV : Hid (nv < gv) := hv
      go_wp2_with fail
      go_ret
      exact ⟨by rw [ck25, if_neg (fun h => h.2.2.2.elim (fun x => HN.out x.1) (fun x => by have y := HV.out; have z : gv ≤ nv := x.2.1.2.1; omega))]; rfl, HA.out.trans (B2.out.mono HA.out.size)⟩
    have HV : Hid (¬ nv < gv) := hv
    go_wp2_with fail
    go_ret
    have hm : (Rc25.mk q ⟨1, gv, gz, gm⟩ ⟨0, nv, nz, nm⟩ t).may := ⟨H13.out.1, H13.out.2.1, H13.out.2.2, .inr ⟨HN.out, ⟨HMM.out.1, by have := HV.out; show gv ≤ nv; omega, HMM.out.2.2⟩, by show (0 : Int) ≠ 1; decide⟩⟩
    exact ⟨by rw [ck25, if_pos hm]; rfl, HA.out.trans (B2.out.mono HA.out.size)⟩
end Go.Proofs.YteboaolflecibaaDoor
