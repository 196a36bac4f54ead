import Derived.Test.YtjoghmdjnkdokaaDoorPx
import Derived.Test.YtjoghmdjnkdokaaDoorPh
import Derived.Deep.CutRange
namespace Go.Proofs.YtjoghmdjnkdokaaDoor
open Go.RowKit Go.Shelf
set_option linter.unusedVariables false
set_option linter.unusedSimpArgs false

/-! FlashPlays. -/
/-- The slots that the law copies. -/
structure Sl24 (w V : World) (g5 : Nat) (p0 p1 : Option Addr) (c0 c1 : Nat) (L0 L1 : List Int) (n0 n1 : Nat) : Prop where
  hb : V.heap[g5]? = some (.cells #[.slice p0 n0 c0, .slice p1 n1 c1] 27 (0, 0))
  o0 : V.ownsRow w.heap.size 5 1 (.slice p0 n0 c0) n0 (L0.map (Value.int .u8))
  o1 : V.ownsRow w.heap.size 5 1 (.slice p1 n1 c1) n1 (L1.map (Value.int .u8))
  bl : Below w.heap.size w V
theorem Sl24.old {w V V' : World} {g5 : Nat} {p0 p1 : Option Addr} {c0 c1 : Nat} {L0 L1 : List Int} {n0 n1 : Nat} (h : Sl24 w V g5 p0 p1 c0 c1 L0 L1 n0 n1) (hb : Below V.heap.size V V') : Sl24 w V' g5 p0 p1 c0 c1 L0 L1 n0 n1 :=
  ⟨(hb.block _ (Array.getElem?_eq_some_iff.1 h.hb).1).trans h.hb, own_below21 h.o0 hb, own_below21 h.o1 hb, h.bl.trans (hb.mono h.bl.size)⟩
theorem Sl24.set {w V : World} {g5 : Nat} {p0 p1 : Option Addr} {c0 c1 : Nat} {L0 L1 : List Int} {n0 n1 : Nat} {a b : Value} (h1 : V.heap[g5]? = some (.cells #[a, b] 27 (0, 0))) (o0 : V.ownsRow w.heap.size 5 1 (.slice p0 n0 c0) n0 (L0.map (Value.int .u8)))
    (o1 : V.ownsRow w.heap.size 5 1 (.slice p1 n1 c1) n1 (L1.map (Value.int .u8))) (bl : Below w.heap.size w V) (hg : w.heap.size ≤ g5) : Sl24 w ((V.setCell ⟨g5, 0, none⟩ (.slice p0 n0 c0)).setCell ⟨g5, 1, none⟩ (.slice p1 n1 c1)) g5 p0 p1 c0 c1 L0 L1 n0 n1 := by
  have hk : Kp (fun k => k = g5) V ((V.setCell ⟨g5, 0, none⟩ (.slice p0 n0 c0)).setCell ⟨g5, 1, none⟩ (.slice p1 n1 c1)) := (Kp.set (S := fun k => k = g5) rfl _).trans (Kp.set (S := fun k => k = g5) rfl _) (fun _ _ e => e)
  have hne : ∀ {p c L n} (o : V.ownsRow w.heap.size 5 1 (.slice p n c) n L), ∀ k, (Value.slice p n c).ownBlock = some k → ((V.setCell ⟨g5, 0, none⟩ (.slice p0 n0 c0)).setCell ⟨g5, 1, none⟩ (.slice p1 n1 c1)).heap[k]? = V.heap[k]? := fun o k e => by
    refine hk.block k (o.lt k e).2 (fun q => ?_)
    subst q
    rcases o.2 with ⟨z, _⟩ | ⟨g, cap, cur, z1, z2, z3, _⟩
    · rw [z] at e; cases e
    · rw [z1] at e; cases e
      rw [h1] at z3
      injection z3 with z3
      injection z3 with _ z3 _
      exact absurd z3 (by decide)
  exact ⟨by simp [World.setCell, Array.getElem?_modify, h1], own_kp21 o0 (hne o0), own_kp21 o1 (hne o1), bl.trans (hk.below (fun k e => by rw [e]; exact hg) bl.size)⟩
set_option maxRecDepth 100000 in
set_option maxHeartbeats 64000000 in
theorem flashPlays_walk (w : World) (ht : Tab w) (su : Su21) (fs : Sf21 w su) (fg : Sg21 su) (sa : Option Addr) (len cap : Nat) (O : Nat → Oq21) (so : Ss21 w sa len O) (sb : ∀ i, i < len → (O i).b.length ≤ 140737488351232) (hlen : len * 56 ≤ 140737488351232) :
    Calls Tryd.prog 3 #[.agg #[.int .i64 su.p, .int .i64 su.q, .int .i64 su.ac, .slice su.a0 su.l0.length su.k0, .slice su.a1 su.l1.length su.k1], .slice sa len cap] w fun e w' => e = .returned (.bool true) ∧ Below w.heap.size w w' := by
  have HLV : Hid (∀ W : World, Calls Tryd.prog 10 #[] W fun e w' => e = .returned (.bool true) ∧ Below W.heap.size W w') := plives21
  obtain ⟨p, q, ac, a0, l0, k0, a1, l1, k1⟩ := su
  obtain ⟨hs0, hs1, hz0, hz1, hp, hq, hac⟩ := fs
  obtain ⟨hn0, hn1, hb0, hb1⟩ := fg
  simp only at hs0 hs1 hz0 hz1 hp hq hac hn0 hn1 hb0 hb1 ⊢
  obtain ⟨n0, hl0⟩ : ∃ n, n = l0.length := ⟨_, rfl⟩
  obtain ⟨n1, hl1⟩ : ∃ n, n = l1.length := ⟨_, rfl⟩
  rw [← hl0, ← hl1]
  rw [← hl0] at hz0 hb0
  rw [← hl1] at hz1 hb1
  have HL0 : Hid (l0.length = n0) := hl0.symm
  have HL1 : Hid (l1.length = n1) := hl1.symm
  have HI : Hid (In21 p ∧ In21 q ∧ In21 ac ∧ n0 ≤ k0 ∧ n1 ≤ k1 ∧ (a0 = none → k0 = 0) ∧ (a1 = none → k1 = 0) ∧ n0 ≤ 140737488351232 ∧ n1 ≤ 140737488351232) := ⟨hp, hq, hac, hz0, hz1, hn0, hn1, hb0, hb1⟩
  have HS : Hid (Seg w a0 l0 ∧ Seg w a1 l1) := ⟨hs0, hs1⟩
  have HT : Hid (Tab w) := ht
  have HSO : Hid (Ss21 w sa len O ∧ (∀ i, i < len → (O i).b.length ≤ 140737488351232) ∧ len ≤ 4398046500000) := ⟨so, sb, by omega⟩
  obtain ⟨w1, hw1⟩ : ∃ w1, w1 = w.alloc (.cells #[.int .i64 p, .int .i64 q, .int .i64 ac, .slice a0 n0 k0, .slice a1 n1 k1] 24) := ⟨_, rfl⟩
  obtain ⟨g2, hg2⟩ : ∃ g, g = w.heap.size := ⟨_, rfl⟩
  have HW1 : Hid (w.alloc (.cells #[.int .i64 p, .int .i64 q, .int .i64 ac, .slice a0 n0 k0, .slice a1 n1 k1] 24) = w1 ∧ w.heap.size = g2) := ⟨hw1.symm, hg2.symm⟩
  have q1 : w1.heap[g2]? = some (.cells #[.int .i64 p, .int .i64 q, .int .i64 ac, .slice a0 n0 k0, .slice a1 n1 k1] 24 (0, 0)) := by rw [hw1, hg2]; exact heap_alloc_new _ _
  have b1 : Below w.heap.size w w1 := by rw [hw1]; exact (Below.refl _ _).alloc (Nat.le_refl _) _
  have hsz1 : w1.heap.size = g2 + 1 := by rw [hw1, hg2]; simp
  obtain ⟨u0, hu0⟩ : ∃ u, u = w1.drew := ⟨_, rfl⟩
  have HU0 : Hid (w1.drew = u0) := hu0.symm
  have HC : Hid (∀ V : World, Below u0.heap.size u0 V → V.cell? ⟨g2, 0, none⟩ = some (.int .i64 p) ∧ V.cell? ⟨g2, 1, none⟩ = some (.int .i64 q) ∧ V.cell? ⟨g2, 2, none⟩ = some (.int .i64 ac) ∧ V.cell? ⟨g2, 3, none⟩ = some (.slice a0 n0 k0) ∧ V.cell? ⟨g2, 4, none⟩ = some (.slice a1 n1 k1)) := fun V hV => by
    rw [hu0] at hV
    have q2 := (hV.block g2 (Array.getElem?_eq_some_iff.1 q1).1).trans q1
    simp [World.cell?, q2]
  have HB0 : Hid (Below w.heap.size w u0 ∧ u0.heap.size = g2 + 1) := by rw [hu0]; exact ⟨b1.trans ((Below.refl _ _).drew.mono b1.size), hsz1⟩
  have HCP0 : Hid (∀ V, Below u0.heap.size u0 V → Calls Tryd.prog 6 #[.slice a0 n0 k0] V fun e w' => ∃ p c, e = .returned (.slice p n0 c) ∧ w'.ownsRow V.heap.size 5 1 (.slice p n0 c) n0 (l0.map (Value.int .u8)) ∧ Below V.heap.size V w') := fun V hV => pcp24 a0 n0 k0 l0 V ((HS.out.1.old HB0.out.1).old hV) HL0 hb0 hn0
  have HCP1 : Hid (∀ V, Below u0.heap.size u0 V → Calls Tryd.prog 6 #[.slice a1 n1 k1] V fun e w' => ∃ p c, e = .returned (.slice p n1 c) ∧ w'.ownsRow V.heap.size 5 1 (.slice p n1 c) n1 (l1.map (Value.int .u8)) ∧ Below V.heap.size V w') := fun V hV => pcp24 a1 n1 k1 l1 V ((HS.out.2.old HB0.out.1).old hV) HL1 hb1 hn1
  clear hs0 hs1 hz0 hz1 hp hq hac hn0 hn1 hb0 hb1 hl0 hl1 ht so sb hlen hw1 hg2 q1 b1 hsz1 hu0
  go_enter Tryd.func3, Tryd.ntmps3
  go_upto_region 1 with fail
  rw [HW1.out.1, HW1.out.2]
  go_cut [5] from 20 to 26 (fun s5 wc => ∃ (g5 : Nat) (p0 p1 : Option Addr) (c0 c1 : Nat), s5 = .pointer (some ⟨g5, 0, none⟩) ∧ Sl24 u0 wc g5 p0 p1 c0 c1 l0 l1 n0 n1)
  case first =>
    as_aux_lemma =>
    refine plain_region16 (fun V => V.cell? ⟨g2, 3, none⟩ = some (.slice a0 n0 k0) ∧ V.cell? ⟨g2, 4, none⟩ = some (.slice a1 n1 k1)) 9 (by kernel_rfl) (by rw [HU0.out]; exact (HC.out u0 (Below.refl _ _)).2.2.2) (fun hHeld => ?_)
    rw [HU0.out] at hHeld ⊢
    have L0 : Hid (Below u0.heap.size u0 u0) := Below.refl _ _
    refine wpAnyK_take (i := 0) (v := .pointer (some ⟨g2, 3, none⟩)) rfl (by kernel_rfl) (by kernel_rfl) (by kernel_rfl) (by kernel_rfl) (fun _ _ _ h => h) (Or.inl ⟨by rfl, fun w hSw => by go_simp⟩) hHeld ?_
    simp only [List.getElem_toArray, List.getElem_cons_zero, Act.put, List.setIfInBounds_toArray, List.set_cons_zero, List.set_cons_succ]
    refine wpAnyK_take (i := 1) (v := .slice a0 n0 k0) rfl (by kernel_rfl) (by kernel_rfl) (by kernel_rfl) (by kernel_rfl) (fun _ _ _ h => h) (Or.inl ⟨by rfl, fun w hSw => by go_simp⟩) hHeld ?_
    simp only [List.getElem_toArray, List.getElem_cons_zero, List.getElem_cons_succ, Act.put, List.setIfInBounds_toArray, List.set_cons_zero, List.set_cons_succ]
    refine wpAnyK_take (i := 3) (v := .pointer (some ⟨g2, 4, none⟩)) rfl (by kernel_rfl) (by kernel_rfl) (by kernel_rfl) (by kernel_rfl) (fun _ _ _ h => h) (Or.inl ⟨by rfl, fun w hSw => by go_simp⟩) hHeld ?_
    simp only [List.getElem_toArray, List.getElem_cons_zero, List.getElem_cons_succ, Act.put, List.setIfInBounds_toArray, List.set_cons_zero, List.set_cons_succ]
    refine wpAnyK_take (i := 4) (v := .slice a1 n1 k1) rfl (by kernel_rfl) (by kernel_rfl) (by kernel_rfl) (by kernel_rfl) (fun _ _ _ h => h) (Or.inl ⟨by rfl, fun w hSw => by go_simp⟩) hHeld ?_
    simp only [List.getElem_toArray, List.getElem_cons_zero, List.getElem_cons_succ, Act.put, List.setIfInBounds_toArray, List.set_cons_zero, List.set_cons_succ]
    refine wpAnyK_two24 (i := 2) (j := 7) (by kernel_rfl) rfl rfl (fun K hK => ?_) (fun K hK => ?_)
    · skip
      (try simp only [List.getElem_toArray, List.getElem_cons_zero, List.getElem_cons_succ, Act.put, List.setIfInBounds_toArray, List.set_cons_zero, List.set_cons_succ])
      go_simp
      refine (HCP0.out u0 L0.out).mono ?_
      rintro e v1 ⟨p1, c1, rfl, o1, b1⟩
      have B1 : Hid (Below u0.heap.size u0 v1) := b1
      have L1 : Hid (Below u0.heap.size u0 v1) := L0.out.trans (b1.mono L0.out.size)
      have O1 : Hid (v1.ownsRow u0.heap.size 5 1 (.slice p1 n0 c1) n0 (l0.map (Value.int .u8))) := own_base21 o1 L0.out.size
      clear o1 b1
      refine hK.out _ _ (fun _ => ⟨(HC.out _ L1.out).2.2.2.1, (HC.out _ L1.out).2.2.2.2⟩) (fun hHeld0 => ?_)
      have hHeld := hHeld0 (by decide)
      clear hHeld0 hK K
      (try simp only [List.getElem_toArray, List.getElem_cons_zero, List.getElem_cons_succ, Act.put, List.setIfInBounds_toArray, List.set_cons_zero, List.set_cons_succ])
      refine wpAnyK_two24 (i := 5) (j := 7) (by kernel_rfl) rfl rfl (fun K hK => ?_) (fun K hK => ?_)
      · skip
        (try simp only [List.getElem_toArray, List.getElem_cons_zero, List.getElem_cons_succ, Act.put, List.setIfInBounds_toArray, List.set_cons_zero, List.set_cons_succ])
        go_simp
        refine (HCP1.out v1 L1.out).mono ?_
        rintro e v2 ⟨p2, c2, rfl, o2, b2⟩
        have B2 : Hid (Below v1.heap.size v1 v2) := b2
        have L2 : Hid (Below u0.heap.size u0 v2) := L1.out.trans (b2.mono L1.out.size)
        have O2 : Hid (v2.ownsRow u0.heap.size 5 1 (.slice p2 n1 c2) n1 (l1.map (Value.int .u8))) := own_base21 o2 L1.out.size
        have O2x : Hid (v2.ownsRow u0.heap.size 5 1 (.slice p1 n0 c1) n0 (l0.map (Value.int .u8))) := own_below21 O1.out B2.out
        clear o2 b2
        refine hK.out _ _ (fun _ => ⟨(HC.out _ L2.out).2.2.2.1, (HC.out _ L2.out).2.2.2.2⟩) (fun hHeld0 => ?_)
        have hHeld := hHeld0 (by decide)
        clear hHeld0 hK K
        (try simp only [List.getElem_toArray, List.getElem_cons_zero, List.getElem_cons_succ, Act.put, List.setIfInBounds_toArray, List.set_cons_zero, List.set_cons_succ])
        refine wpAnyK_take (i := 6) (v := .agg #[.slice p1 n0 c1, .slice p2 n1 c2]) rfl (by kernel_rfl) (by kernel_rfl) (by kernel_rfl) (by kernel_rfl) (fun _ _ _ h => h) (Or.inl ⟨by rfl, fun w hSw => by go_simp⟩) hHeld ?_
        simp only [List.getElem_toArray, List.getElem_cons_zero, List.getElem_cons_succ, Act.put, List.setIfInBounds_toArray, List.set_cons_zero, List.set_cons_succ]
        refine wpAnyK_one (i := 7) (by kernel_rfl) rfl (fun K hK => ?_)
        (try simp only [List.getElem_toArray, List.getElem_cons_zero, List.getElem_cons_succ, Act.put, List.setIfInBounds_toArray, List.set_cons_zero, List.set_cons_succ])
        go_simp
        obtain ⟨v3, hv3⟩ : ∃ v, v = v2.alloc (.cells #[.slice none 0 0, .slice none 0 0] 27) := ⟨_, rfl⟩
        obtain ⟨ga3, hga3⟩ : ∃ v, v = v2.heap.size := ⟨_, rfl⟩
        have B3 : Hid (Below v2.heap.size v2 v3) := by rw [hv3]; exact (Below.refl _ _).alloc (Nat.le_refl _) _
        have L3 : Hid (Below u0.heap.size u0 v3) := L2.out.trans (B3.out.mono L2.out.size)
        have A3 : Hid (v3.heap[ga3]? = some (.cells #[.slice none 0 0, .slice none 0 0] 27 (0, 0)) ∧ u0.heap.size ≤ ga3) := by rw [hv3, hga3]; exact ⟨heap_alloc_new _ _, L2.out.size⟩
        have GU3 : Hid (u0.heap.size ≤ ga3) := by rw [hga3]; exact L2.out.size
        rw [← hv3, ← hga3]
        clear hv3 hga3
        have O3y0 : Hid (v3.ownsRow u0.heap.size 5 1 (.slice p1 n0 c1) n0 (l0.map (Value.int .u8))) := own_below21 O2x.out B3.out
        have O3y1 : Hid (v3.ownsRow u0.heap.size 5 1 (.slice p2 n1 c2) n1 (l1.map (Value.int .u8))) := own_below21 O2.out B3.out
        refine hK.out _ _ (fun _ => ⟨(HC.out _ L3.out).2.2.2.1, (HC.out _ L3.out).2.2.2.2⟩) (fun hHeld0 => ?_)
        have hHeld := hHeld0 (by decide)
        clear hHeld0 hK K
        (try simp only [List.getElem_toArray, List.getElem_cons_zero, List.getElem_cons_succ, Act.put, List.setIfInBounds_toArray, List.set_cons_zero, List.set_cons_succ])
        have hga := A3.out
        have y0 := two_cell0 hga.1
        have y1 := two_cell1 hga.1
        have f0 : v3.frozen? ⟨ga3, 0, none⟩ = false := by simp [World.frozen?, hga.1]
        have f1 : v3.frozen? ⟨ga3, 1, none⟩ = false := by simp [World.frozen?, hga.1]
        have HFI : Hid (Sl24 u0 ((v3.setCell ⟨ga3, 0, none⟩ (.slice p1 n0 c1)).setCell ⟨ga3, 1, none⟩ (.slice p2 n1 c2)) ga3 p1 p2 c1 c2 l0 l1 n0 n1) := Sl24.set hga.1 O3y0.out O3y1.out L3.out hga.2
        have HBI : Hid (Below u0.heap.size u0 ((v3.setCell ⟨ga3, 0, none⟩ (.slice p1 n0 c1)).setCell ⟨ga3, 1, none⟩ (.slice p2 n1 c2))) := by
          have hk : Kp (fun k => k = ga3) v3 ((v3.setCell ⟨ga3, 0, none⟩ (.slice p1 n0 c1)).setCell ⟨ga3, 1, none⟩ (.slice p2 n1 c2)) := (Kp.set (S := fun k => k = ga3) rfl _).trans (Kp.set (S := fun k => k = ga3) rfl _) (fun _ _ e => e)
          exact L3.out.trans (hk.below (fun k e => by rw [e]; exact GU3.out) L3.out.size)
        clear hga
        refine wpAnyK_one (i := 8) (by kernel_rfl) rfl (fun K hK => ?_)
        (try simp only [List.getElem_toArray, List.getElem_cons_zero, List.getElem_cons_succ, Act.put, List.setIfInBounds_toArray, List.set_cons_zero, List.set_cons_succ])
        go_simp
        refine hK.out _ _ (fun _ => ⟨(HC.out _ HBI.out).2.2.2.1, (HC.out _ HBI.out).2.2.2.2⟩) (fun _ => ?_)
        clear hK K hHeld
        refine wpAnyK_done (by kernel_rfl) ?_ _
        go_wp2_with fail
        go_meet
        case rel => exact ⟨ga3, p1, p2, c1, c2, rfl, HFI.out⟩
      · skip
        (try simp only [List.getElem_toArray, List.getElem_cons_zero, List.getElem_cons_succ, Act.put, List.setIfInBounds_toArray, List.set_cons_zero, List.set_cons_succ])
        go_simp
        obtain ⟨v4, hv4⟩ : ∃ v, v = v1.alloc (.cells #[.slice none 0 0, .slice none 0 0] 27) := ⟨_, rfl⟩
        obtain ⟨ga4, hga4⟩ : ∃ v, v = v1.heap.size := ⟨_, rfl⟩
        have B4 : Hid (Below v1.heap.size v1 v4) := by rw [hv4]; exact (Below.refl _ _).alloc (Nat.le_refl _) _
        have L4 : Hid (Below u0.heap.size u0 v4) := L1.out.trans (B4.out.mono L1.out.size)
        have A4 : Hid (v4.heap[ga4]? = some (.cells #[.slice none 0 0, .slice none 0 0] 27 (0, 0)) ∧ u0.heap.size ≤ ga4) := by rw [hv4, hga4]; exact ⟨heap_alloc_new _ _, L1.out.size⟩
        have GU4 : Hid (u0.heap.size ≤ ga4) := by rw [hga4]; exact L1.out.size
        rw [← hv4, ← hga4]
        clear hv4 hga4
        have O4y0 : Hid (v4.ownsRow u0.heap.size 5 1 (.slice p1 n0 c1) n0 (l0.map (Value.int .u8))) := own_below21 O1.out B4.out
        refine hK.out _ _ (fun _ => ⟨(HC.out _ L4.out).2.2.2.1, (HC.out _ L4.out).2.2.2.2⟩) (fun hHeld0 => ?_)
        have hHeld := hHeld0 (by decide)
        clear hHeld0 hK K
        (try simp only [List.getElem_toArray, List.getElem_cons_zero, List.getElem_cons_succ, Act.put, List.setIfInBounds_toArray, List.set_cons_zero, List.set_cons_succ])
        refine wpAnyK_one (i := 5) (by kernel_rfl) rfl (fun K hK => ?_)
        (try simp only [List.getElem_toArray, List.getElem_cons_zero, List.getElem_cons_succ, Act.put, List.setIfInBounds_toArray, List.set_cons_zero, List.set_cons_succ])
        go_simp
        refine (HCP1.out v4 L4.out).mono ?_
        rintro e v5 ⟨p5, c5, rfl, o5, b5⟩
        have B5 : Hid (Below v4.heap.size v4 v5) := b5
        have L5 : Hid (Below u0.heap.size u0 v5) := L4.out.trans (b5.mono L4.out.size)
        have O5 : Hid (v5.ownsRow u0.heap.size 5 1 (.slice p5 n1 c5) n1 (l1.map (Value.int .u8))) := own_base21 o5 L4.out.size
        have O5x : Hid (v5.ownsRow u0.heap.size 5 1 (.slice p1 n0 c1) n0 (l0.map (Value.int .u8))) := own_below21 O4y0.out B5.out
        have A5 : Hid (v5.heap[ga4]? = some (.cells #[.slice none 0 0, .slice none 0 0] 27 (0, 0)) ∧ u0.heap.size ≤ ga4) := ⟨(B5.out.block _ (Array.getElem?_eq_some_iff.1 A4.out.1).1).trans A4.out.1, A4.out.2⟩
        clear o5 b5
        refine hK.out _ _ (fun _ => ⟨(HC.out _ L5.out).2.2.2.1, (HC.out _ L5.out).2.2.2.2⟩) (fun hHeld0 => ?_)
        have hHeld := hHeld0 (by decide)
        clear hHeld0 hK K
        (try simp only [List.getElem_toArray, List.getElem_cons_zero, List.getElem_cons_succ, Act.put, List.setIfInBounds_toArray, List.set_cons_zero, List.set_cons_succ])
        refine wpAnyK_take (i := 6) (v := .agg #[.slice p1 n0 c1, .slice p5 n1 c5]) rfl (by kernel_rfl) (by kernel_rfl) (by kernel_rfl) (by kernel_rfl) (fun _ _ _ h => h) (Or.inl ⟨by rfl, fun w hSw => by go_simp⟩) hHeld ?_
        simp only [List.getElem_toArray, List.getElem_cons_zero, List.getElem_cons_succ, Act.put, List.setIfInBounds_toArray, List.set_cons_zero, List.set_cons_succ]
        have hga := A5.out
        have y0 := two_cell0 hga.1
        have y1 := two_cell1 hga.1
        have f0 : v5.frozen? ⟨ga4, 0, none⟩ = false := by simp [World.frozen?, hga.1]
        have f1 : v5.frozen? ⟨ga4, 1, none⟩ = false := by simp [World.frozen?, hga.1]
        have HFI : Hid (Sl24 u0 ((v5.setCell ⟨ga4, 0, none⟩ (.slice p1 n0 c1)).setCell ⟨ga4, 1, none⟩ (.slice p5 n1 c5)) ga4 p1 p5 c1 c5 l0 l1 n0 n1) := Sl24.set hga.1 O5x.out O5.out L5.out hga.2
        have HBI : Hid (Below u0.heap.size u0 ((v5.setCell ⟨ga4, 0, none⟩ (.slice p1 n0 c1)).setCell ⟨ga4, 1, none⟩ (.slice p5 n1 c5))) := by
          have hk : Kp (fun k => k = ga4) v5 ((v5.setCell ⟨ga4, 0, none⟩ (.slice p1 n0 c1)).setCell ⟨ga4, 1, none⟩ (.slice p5 n1 c5)) := (Kp.set (S := fun k => k = ga4) rfl _).trans (Kp.set (S := fun k => k = ga4) rfl _) (fun _ _ e => e)
          exact L5.out.trans (hk.below (fun k e => by rw [e]; exact GU4.out) L5.out.size)
        clear hga
        refine wpAnyK_one (i := 8) (by kernel_rfl) rfl (fun K hK => ?_)
        (try simp only [List.getElem_toArray, List.getElem_cons_zero, List.getElem_cons_succ, Act.put, List.setIfInBounds_toArray, List.set_cons_zero, List.set_cons_succ])
        go_simp
        refine hK.out _ _ (fun _ => ⟨(HC.out _ HBI.out).2.2.2.1, (HC.out _ HBI.out).2.2.2.2⟩) (fun _ => ?_)
        clear hK K hHeld
        refine wpAnyK_done (by kernel_rfl) ?_ _
        go_wp2_with fail
        go_meet
        case rel => exact ⟨ga4, p1, p5, c1, c5, rfl, HFI.out⟩
    · skip
      (try simp only [List.getElem_toArray, List.getElem_cons_zero, List.getElem_cons_succ, Act.put, List.setIfInBounds_toArray, List.set_cons_zero, List.set_cons_succ])
      go_simp
      obtain ⟨v6, hv6⟩ : ∃ v, v = u0.alloc (.cells #[.slice none 0 0, .slice none 0 0] 27) := ⟨_, rfl⟩
      obtain ⟨ga6, hga6⟩ : ∃ v, v = u0.heap.size := ⟨_, rfl⟩
      have B6 : Hid (Below u0.heap.size u0 v6) := by rw [hv6]; exact (Below.refl _ _).alloc (Nat.le_refl _) _
      have L6 : Hid (Below u0.heap.size u0 v6) := L0.out.trans (B6.out.mono L0.out.size)
      have A6 : Hid (v6.heap[ga6]? = some (.cells #[.slice none 0 0, .slice none 0 0] 27 (0, 0)) ∧ u0.heap.size ≤ ga6) := by rw [hv6, hga6]; exact ⟨heap_alloc_new _ _, L0.out.size⟩
      have GU6 : Hid (u0.heap.size ≤ ga6) := by rw [hga6]; exact L0.out.size
      rw [← hv6, ← hga6]
      clear hv6 hga6
      refine hK.out _ _ (fun _ => ⟨(HC.out _ L6.out).2.2.2.1, (HC.out _ L6.out).2.2.2.2⟩) (fun hHeld0 => ?_)
      have hHeld := hHeld0 (by decide)
      clear hHeld0 hK K
      (try simp only [List.getElem_toArray, List.getElem_cons_zero, List.getElem_cons_succ, Act.put, List.setIfInBounds_toArray, List.set_cons_zero, List.set_cons_succ])
      refine wpAnyK_one (i := 2) (by kernel_rfl) rfl (fun K hK => ?_)
      (try simp only [List.getElem_toArray, List.getElem_cons_zero, List.getElem_cons_succ, Act.put, List.setIfInBounds_toArray, List.set_cons_zero, List.set_cons_succ])
      go_simp
      refine (HCP0.out v6 L6.out).mono ?_
      rintro e v7 ⟨p7, c7, rfl, o7, b7⟩
      have B7 : Hid (Below v6.heap.size v6 v7) := b7
      have L7 : Hid (Below u0.heap.size u0 v7) := L6.out.trans (b7.mono L6.out.size)
      have O7 : Hid (v7.ownsRow u0.heap.size 5 1 (.slice p7 n0 c7) n0 (l0.map (Value.int .u8))) := own_base21 o7 L6.out.size
      have A7 : Hid (v7.heap[ga6]? = some (.cells #[.slice none 0 0, .slice none 0 0] 27 (0, 0)) ∧ u0.heap.size ≤ ga6) := ⟨(B7.out.block _ (Array.getElem?_eq_some_iff.1 A6.out.1).1).trans A6.out.1, A6.out.2⟩
      clear o7 b7
      refine hK.out _ _ (fun _ => ⟨(HC.out _ L7.out).2.2.2.1, (HC.out _ L7.out).2.2.2.2⟩) (fun hHeld0 => ?_)
      have hHeld := hHeld0 (by decide)
      clear hHeld0 hK K
      (try simp only [List.getElem_toArray, List.getElem_cons_zero, List.getElem_cons_succ, Act.put, List.setIfInBounds_toArray, List.set_cons_zero, List.set_cons_succ])
      refine wpAnyK_one (i := 5) (by kernel_rfl) rfl (fun K hK => ?_)
      (try simp only [List.getElem_toArray, List.getElem_cons_zero, List.getElem_cons_succ, Act.put, List.setIfInBounds_toArray, List.set_cons_zero, List.set_cons_succ])
      go_simp
      refine (HCP1.out v7 L7.out).mono ?_
      rintro e v8 ⟨p8, c8, rfl, o8, b8⟩
      have B8 : Hid (Below v7.heap.size v7 v8) := b8
      have L8 : Hid (Below u0.heap.size u0 v8) := L7.out.trans (b8.mono L7.out.size)
      have O8 : Hid (v8.ownsRow u0.heap.size 5 1 (.slice p8 n1 c8) n1 (l1.map (Value.int .u8))) := own_base21 o8 L7.out.size
      have O8x : Hid (v8.ownsRow u0.heap.size 5 1 (.slice p7 n0 c7) n0 (l0.map (Value.int .u8))) := own_below21 O7.out B8.out
      have A8 : Hid (v8.heap[ga6]? = some (.cells #[.slice none 0 0, .slice none 0 0] 27 (0, 0)) ∧ u0.heap.size ≤ ga6) := ⟨(B8.out.block _ (Array.getElem?_eq_some_iff.1 A7.out.1).1).trans A7.out.1, A7.out.2⟩
      clear o8 b8
      refine hK.out _ _ (fun _ => ⟨(HC.out _ L8.out).2.2.2.1, (HC.out _ L8.out).2.2.2.2⟩) (fun hHeld0 => ?_)
      have hHeld := hHeld0 (by decide)
      clear hHeld0 hK K
      (try simp only [List.getElem_toArray, List.getElem_cons_zero, List.getElem_cons_succ, Act.put, List.setIfInBounds_toArray, List.set_cons_zero, List.set_cons_succ])
      refine wpAnyK_take (i := 6) (v := .agg #[.slice p7 n0 c7, .slice p8 n1 c8]) rfl (by kernel_rfl) (by kernel_rfl) (by kernel_rfl) (by kernel_rfl) (fun _ _ _ h => h) (Or.inl ⟨by rfl, fun w hSw => by go_simp⟩) hHeld ?_
      simp only [List.getElem_toArray, List.getElem_cons_zero, List.getElem_cons_succ, Act.put, List.setIfInBounds_toArray, List.set_cons_zero, List.set_cons_succ]
      have hga := A8.out
      have y0 := two_cell0 hga.1
      have y1 := two_cell1 hga.1
      have f0 : v8.frozen? ⟨ga6, 0, none⟩ = false := by simp [World.frozen?, hga.1]
      have f1 : v8.frozen? ⟨ga6, 1, none⟩ = false := by simp [World.frozen?, hga.1]
      have HFI : Hid (Sl24 u0 ((v8.setCell ⟨ga6, 0, none⟩ (.slice p7 n0 c7)).setCell ⟨ga6, 1, none⟩ (.slice p8 n1 c8)) ga6 p7 p8 c7 c8 l0 l1 n0 n1) := Sl24.set hga.1 O8x.out O8.out L8.out hga.2
      have HBI : Hid (Below u0.heap.size u0 ((v8.setCell ⟨ga6, 0, none⟩ (.slice p7 n0 c7)).setCell ⟨ga6, 1, none⟩ (.slice p8 n1 c8))) := by
        have hk : Kp (fun k => k = ga6) v8 ((v8.setCell ⟨ga6, 0, none⟩ (.slice p7 n0 c7)).setCell ⟨ga6, 1, none⟩ (.slice p8 n1 c8)) := (Kp.set (S := fun k => k = ga6) rfl _).trans (Kp.set (S := fun k => k = ga6) rfl _) (fun _ _ e => e)
        exact L8.out.trans (hk.below (fun k e => by rw [e]; exact GU6.out) L8.out.size)
      clear hga
      refine wpAnyK_one (i := 8) (by kernel_rfl) rfl (fun K hK => ?_)
      (try simp only [List.getElem_toArray, List.getElem_cons_zero, List.getElem_cons_succ, Act.put, List.setIfInBounds_toArray, List.set_cons_zero, List.set_cons_succ])
      go_simp
      refine hK.out _ _ (fun _ => ⟨(HC.out _ HBI.out).2.2.2.1, (HC.out _ HBI.out).2.2.2.2⟩) (fun _ => ?_)
      clear hK K hHeld
      refine wpAnyK_done (by kernel_rfl) ?_ _
      go_wp2_with fail
      go_meet
      case rel => exact ⟨ga6, p7, p8, c7, c8, rfl, HFI.out⟩
  case rest =>
    obtain ⟨g5, p0, p1, c0, c1, rfl, hSl⟩ := hcut
    have HSL : Hid (Sl24 u0 wc g5 p0 p1 c0 c1 l0 l1 n0 n1) := hSl
    have hm0 := HS.out.1.mem
    have hm1 := HS.out.2.mem
    obtain ⟨w2, hw2⟩ : ∃ v, v = wc.alloc (.cells #[.int .i64 p, .int .i64 q] 29) := ⟨_, rfl⟩
    obtain ⟨g6, hg6⟩ : ∃ v, v = wc.heap.size := ⟨_, rfl⟩
    have HW2 : Hid (wc.alloc (.cells #[.int .i64 p, .int .i64 q] 29) = w2 ∧ wc.heap.size = g6) := ⟨hw2.symm, hg6.symm⟩
    have b2 : Below wc.heap.size wc w2 := by rw [hw2]; exact (Below.refl _ _).alloc (Nat.le_refl _) _
    have q6 : w2.heap[g6]? = some (.cells #[.int .i64 p, .int .i64 q] 29 (0, 0)) := by rw [hw2, hg6]; exact heap_alloc_new _ _
    have HS2 : Hid (Sl24 u0 w2 g5 p0 p1 c0 c1 l0 l1 n0 n1) := hSl.old b2
    -- what every later world knows
    have HK : Hid (∀ V : World, Below w2.heap.size w2 V → (V.cell? ⟨g2, 0, none⟩ = some (.int .i64 p) ∧ V.cell? ⟨g2, 1, none⟩ = some (.int .i64 q) ∧ V.cell? ⟨g2, 2, none⟩ = some (.int .i64 ac) ∧ V.cell? ⟨g2, 3, none⟩ = some (.slice a0 n0 k0) ∧ V.cell? ⟨g2, 4, none⟩ = some (.slice a1 n1 k1)) ∧ (V.cell? ⟨g6, 0, none⟩ = some (.int .i64 p) ∧ V.cell? ⟨g6, 1, none⟩ = some (.int .i64 q)) ∧ (V.cell? ⟨g5, 0, none⟩ = some (.slice p0 n0 c0) ∧ V.cell? ⟨g5, 1, none⟩ = some (.slice p1 n1 c1)) ∧ Seg V p0 l0 ∧ Seg V p1 l1 ∧ Seg V a0 l0 ∧ Seg V a1 l1 ∧ Below u0.heap.size u0 V ∧ n0 ≤ c0 ∧ n1 ≤ c1) := fun V hV => by
      have hs := HS2.out.old hV
      have hq6 := (hV.block g6 (Array.getElem?_eq_some_iff.1 q6).1).trans q6
      obtain ⟨-, a', c', hv, sg0, -, hc0, -⟩ := own_seg (M := 255) hs.o0 (by decide) hm0
      injection hv with y1 y2 y3
      subst y1; subst y3
      obtain ⟨-, a', c', hv, sg1, -, hc1, -⟩ := own_seg (M := 255) hs.o1 (by decide) hm1
      injection hv with y1 y2 y3
      subst y1; subst y3
      have hbw : Below w.heap.size w V := HB0.out.1.trans (hs.bl.mono HB0.out.1.size)
      exact ⟨HC.out V hs.bl, ⟨two_cell0 hq6, two_cell1 hq6⟩, ⟨two_cell0 hs.hb, two_cell1 hs.hb⟩, sg0, sg1, HS.out.1.old hbw, HS.out.2.old hbw, hs.bl, hc0, hc1⟩
    obtain ⟨S0, hS0⟩ : ∃ S, S = nw21 p.toNat q.toNat ac l0 l1 := ⟨_, rfl⟩
    have HNW : Hid (∀ V : World, Below w2.heap.size w2 V → Calls Tryd.prog 7 #[.agg #[.int .i64 p, .int .i64 q], .int .i64 ac, .agg #[.slice p0 n0 c0, .slice p1 n1 c1]] V fun e w' => Below V.heap.size V w' ∧ ((nwE21 p q ac n0 n1 = 210 ∧ e = .returned (.tuple #[.pointer none, .int .i64 210])) ∨ (nwE21 p q ac n0 n1 = 0 ∧ ∃ b F, e = .returned (.tuple #[.pointer (some ⟨b, 0, none⟩), .int .i64 0]) ∧ Fl21 w' b F S0 ∧ (∀ k, F k → V.heap.size ≤ k)))) := fun V hV => by
      obtain ⟨-, -, -, sg0, sg1, -, -, -, hc0, hc1⟩ := HK.out V hV
      have := pnew21 (w := V) p q ac HI.out.1 HI.out.2.1 p0 p1 l0 l1 n0 n1 c0 c1 sg0 sg1 HL0 HL1 hc0 hc1
      unfold NwQ21 at this
      rw [HL0.out, HL1.out, ← hS0] at this
      exact this
    obtain ⟨⟨m0, m1, m2, m3, m4⟩, ⟨r0, r1⟩, ⟨t0, t1⟩, -⟩ := HK.out w2 (Below.refl _ _)
    have HS0 : Hid (S0 = nw21 p.toNat q.toNat ac l0 l1) := hS0
    have HTU : Hid (Tab u0) := HT.out.old HB0.out.1
    clear hSl hm0 hm1 hw2 hg6 b2 q6 hS0 HCP0 HCP1
    clear m0 m1 m2 m3 m4 r0 r1 t0 t1
    obtain ⟨x0, x1, x2, x3, x4⟩ := HC.out wc HSL.out.bl
    go_upto_region 3 with fail
    rw [HW2.out.1, HW2.out.2]
    clear x0 x1 x2 x3 x4
    obtain ⟨⟨m0, m1, m2, m3, m4⟩, ⟨r0, r1⟩, ⟨t0, t1⟩, -⟩ := HK.out w2 (Below.refl _ _)
    by_cases hE : nwE21 p q ac n0 n1 = 0
    · as_aux_lemma =>
      go_wp2_with fail
      refine (HNW.out w2 (Below.refl _ _)).mono ?_
      rintro e v1 ⟨b1, h1⟩
      rcases h1 with ⟨h, -⟩ | ⟨-, f, F, rfl, hF, hFN⟩
      · rw [hE] at h; cases h
      have B1 : Hid (Below w2.heap.size w2 v1) := b1
      have HF1 : Hid (Fl21 v1 f F S0 ∧ (∀ k, F k → w2.heap.size ≤ k)) := ⟨hF, hFN⟩
      clear m0 m1 m2 m3 m4 r0 r1 t0 t1 b1 hF hFN
      obtain ⟨⟨m0, m1, m2, m3, m4⟩, ⟨r0, r1⟩, ⟨t0, t1⟩, -⟩ := HK.out v1 B1.out
      go_wp2_with fail
      refine (HNW.out v1 B1.out).mono ?_
      rintro e v2 ⟨b2, h2⟩
      rcases h2 with ⟨h, -⟩ | ⟨-, f', F', rfl, hF, hFN⟩
      · rw [hE] at h; cases h
      have B12 : Hid (Below v1.heap.size v1 v2) := b2
      have B2 : Hid (Below w2.heap.size w2 v2) := B1.out.trans (b2.mono B1.out.size)
      have HF2 : Hid (Fl21 v2 f' F' S0 ∧ (∀ k, F' k → v1.heap.size ≤ k)) := ⟨hF, hFN⟩
      have hPQ : ∃ P Q : Nat, p = (P : Int) ∧ q = (Q : Int) ∧ (64 ≤ P ∧ P ≤ 4096) ∧ (1 ≤ Q ∧ Q ≤ 4096) ∧ (ac = 0 ∨ ac = 1) ∧ n0 ≤ P * Q ∧ n1 ≤ P * Q := by
        have hE' := hE
        unfold nwE21 at hE'
        by_cases z : mb21 p q = false ∨ ac < 0 ∨ 2 ≤ ac
        · rw [if_pos z] at hE'; cases hE'
        · rw [if_neg z] at hE'
          by_cases z2 : p * q < (n0 : Int) ∨ p * q < (n1 : Int)
          · rw [if_pos z2] at hE'; cases hE'
          · have zm : mb21 p q = true := by cases h : mb21 p q; exact absurd (.inl h) z; rfl
            unfold mb21 at zm
            simp at zm
            have e : p * q = ((p.toNat * q.toNat : Nat) : Int) := by rw [Int.natCast_mul, Int.toNat_of_nonneg (by omega), Int.toNat_of_nonneg (by omega)]
            rw [e] at z2
            exact ⟨p.toNat, q.toNat, by omega, by omega, ⟨by omega, by omega⟩, ⟨by omega, by omega⟩, by omega, by omega, by omega⟩
      obtain ⟨P, Q, rfl, rfl, hP, hQ, hac, hz0, hz1⟩ := hPQ
      have HPQ : Hid ((64 ≤ P ∧ P ≤ 4096) ∧ (1 ≤ Q ∧ Q ≤ 4096) ∧ (ac = 0 ∨ ac = 1) ∧ n0 ≤ P * Q ∧ n1 ≤ P * Q) := ⟨hP, hQ, hac, hz0, hz1⟩
      have HRN : Hid (∀ V : World, Below w2.heap.size w2 V → Calls Tryd.prog 8 #[.int .i64 (P : Int), .int .i64 (Q : Int), .int .i64 ac, .agg #[.slice a0 n0 k0, .slice a1 n1 k1]] V fun e w' => ∃ b G, e = .returned (.tuple #[.pointer (some ⟨b, 0, none⟩), .int .i64 0]) ∧ Rl21d w' b G S0 ∧ (∀ k, G k → V.heap.size ≤ k) ∧ Below V.heap.size V w') := fun V hV => by
        obtain ⟨-, -, -, -, -, sg0, sg1, -⟩ := HK.out V hV
        have := rnew21 (w := V) P Q ac HPQ.out.1 HPQ.out.2.1 HPQ.out.2.2.1 a0 a1 l0 l1 n0 n1 k0 k1 sg0 sg1 HL0 HL1 HPQ.out.2.2.2.1 HPQ.out.2.2.2.2
        have e := HS0.out
        rw [show ((P : Int)).toNat = P by omega, show ((Q : Int)).toNat = Q by omega] at e
        rw [← e] at this
        exact this
      clear m0 m1 m2 m3 m4 r0 r1 t0 t1 b2 hF hFN hP hQ hac hz0 hz1 HNW
      obtain ⟨⟨m0, m1, m2, m3, m4⟩, ⟨r0, r1⟩, ⟨t0, t1⟩, -⟩ := HK.out v2 B2.out
      go_wp2_with fail
      refine (HRN.out v2 B2.out).mono ?_
      rintro e v3 ⟨b, G, rfl, hG, hGN, b3⟩
      have B23 : Hid (Below v2.heap.size v2 v3) := b3
      have B3 : Hid (Below w2.heap.size w2 v3) := B2.out.trans (b3.mono B2.out.size)
      have HG1 : Hid (Rl21d v3 b G S0 ∧ (∀ k, G k → v2.heap.size ≤ k)) := ⟨hG, hGN⟩
      clear m0 m1 m2 m3 m4 r0 r1 t0 t1 b3 hG hGN
      obtain ⟨⟨m0, m1, m2, m3, m4⟩, ⟨r0, r1⟩, ⟨t0, t1⟩, sp0, sp1, sq0, sq1, -⟩ := HK.out v3 B3.out
      have SM0 := bsame_any p0 a0 l0 l0 c0 k0 v3 sp0 sq0
      have SM1 := bsame_any p1 a1 l1 l1 c1 k1 v3 sp1 sq1
      rw [HL0.out, beq_self_eq_true] at SM0
      rw [HL1.out, beq_self_eq_true] at SM1
      clear sp0 sp1 sq0 sq1
      go_wp2_with fail
      refine SM0.mono ?_
      rintro e v ⟨rfl, hw⟩
      subst v
      go_wp2_with fail
      refine SM1.mono ?_
      rintro e v ⟨rfl, hw⟩
      subst v
      clear SM0 SM1
      go_wp2_with fail
      refine (HRN.out v3 B3.out).mono ?_
      rintro e v4 ⟨b', G', rfl, hG, hGN, b4⟩
      have B4 : Hid (Below w2.heap.size w2 v4) := B3.out.trans (b4.mono B3.out.size)
      have HQD : Hid (Qd21 u0 v4 f b f' b' F G F' G' S0 S0 ∧ (∀ k, (F k ∨ G k) ∨ (F' k ∨ G' k) → w2.heap.size ≤ k)) := by
        obtain ⟨-, -, -, -, -, -, -, hbu, -⟩ := HK.out v4 B4.out
        have hu2 : u0.heap.size ≤ w2.heap.size := HS2.out.bl.size
        have hok : Ok21 S0 := by rw [HS0.out]; exact ok21_new _ _ _ _ _ (by have := HPQ.out.1; omega) (by have := HPQ.out.2.1; omega) HPQ.out.2.2.1
        have hF1 := HF1.out.1.old B12.out
        have s12 := B12.out.size
        have s23 := B23.out.size
        have s1 := B1.out.size
        have lF := HF1.out.1.lts
        have lF' := HF2.out.1.lts
        have lG := HG1.out.1.lts
        have nF := HF1.out.2
        have nF' := HF2.out.2
        have nG := HG1.out.2
        refine ⟨⟨⟨(hF1.old B23.out).old b4, HG1.out.1.old b4, fun k e q => by have := lF k e; have := nG k q; omega, hok, fun k e => by have := nF k e; omega, fun k e => by have := nG k e; omega⟩,
          ⟨(HF2.out.1.old B23.out).old b4, hG, fun k e q => by have := lF' k e; have := hGN k q; omega, hok, fun k e => by have := nF' k e; omega, fun k e => by have := hGN k e; omega⟩, fun k e q => ?_, hbu⟩, fun k e => ?_⟩
        · rcases e with e | e
          · have h1 := nF' k e; have h2 := lF' k e
            rcases q with q | q
            · have := lF k q; omega
            · have := nG k q; omega
          · have h1 := hGN k e
            rcases q with q | q
            · have := lF k q; omega
            · have := lG k q; omega
        · rcases e with (e | e) | (e | e)
          · exact nF k e
          · have := nG k e; omega
          · have := nF' k e; omega
          · have := hGN k e; omega
      have HS4 : Hid (Sl24 u0 v4 g5 p0 p1 c0 c1 l0 l1 n0 n1) := HS2.out.old B4.out
      clear m0 m1 m2 m3 m4 r0 r1 t0 t1 b4 hG hGN hE
      have t0 := two_cell0 HS4.out.hb
      have HNE : Hid ((Value.slice p0 n0 c0).ownBlock ≠ some g5) := fun e => by
        have h1 := HS4.out.hb
        rcases HS4.out.o0.2 with ⟨z, _⟩ | ⟨g, cp, cur, z1, z2, z3, _⟩
        · rw [z] at e; cases e
        · rw [z1] at e; cases e
          rw [h1] at z3
          injection z3 with z3
          injection z3 with _ z3 _
          exact absurd z3 (by decide)
      have HG5 : Hid (∀ V : World, Kp (fun k => (Value.slice p0 n0 c0).ownBlock = some k) v4 V → V.cell? ⟨g5, 0, none⟩ = some (.slice p0 n0 c0)) := fun V hV => by
        have h1 := (hV.block g5 (Array.getElem?_eq_some_iff.1 HS4.out.hb).1 HNE.out).trans HS4.out.hb
        exact two_cell0 h1
      go_wp2_with fail
      clear t0
      go_loopw [110] (fun ti wr => ∃ (i : Nat) (X : List Int), i ≤ n0 ∧ ti = .int .i64 (i : Int) ∧ Hid (X.length = n0) ∧ wr.ownsRow u0.heap.size 5 1 (.slice p0 n0 c0) n0 (X.map (Value.int .u8)) ∧ Kp (fun k => (Value.slice p0 n0 c0).ownBlock = some k) v4 wr) (fun ti _ => n0 - (intOf ti).toNat)
      case atStart => exact ⟨0, l0, by omega, rfl, HL0.out, HS4.out.o0, Kp.refl _ _⟩
      case round =>
        obtain ⟨i, X, hi, rfl, hX, hown, hk⟩ := hrel
        have HIN : Hid (wr.ownsRow u0.heap.size 5 1 (.slice p0 n0 c0) n0 (X.map (Value.int .u8)) ∧ Kp (fun k => (Value.slice p0 n0 c0).ownBlock = some k) v4 wr) := ⟨hown, hk⟩
        by_cases hlt : i < n0
        · have hii : (i : Int) < (n0 : Int) := by omega
          have hiw : IntKind.i64.wrap ((i : Int) + 1) = ((i + 1 : Nat) : Int) := by have := HI.out.2.2.2.2.2.2.2.1; rw [IntWalk.i64_in _ (by omega)]; omega
          have t0 := HG5.out wr hk
          have hcl : ∃ gg, p0 = some ⟨gg, 0, none⟩ ∧ (∃ u, wr.cell? ⟨gg, i, none⟩ = some u) ∧ wr.frozen? ⟨gg, i, none⟩ = false := by
            rcases hown.2 with ⟨_, e⟩ | ⟨g', cp, cu, e1, e2, e3, e4, e5, e6, e7⟩
            · omega
            · simp only [Value.slice.injEq] at e1
              obtain ⟨rfl, -, rfl⟩ := e1
              refine ⟨g', rfl, ⟨cu[i]'(by omega), ?_⟩, by simp [World.frozen?, e3]⟩
              simp only [World.cell?, e3]
              exact Array.getElem?_eq_getElem (by omega)
          obtain ⟨gg, rfl, ⟨u, hu⟩, hfz⟩ := hcl
          have HNX : Hid ((wr.setCell ⟨gg, i, none⟩ (.int .u8 9)).ownsRow u0.heap.size 5 1 (.slice (some ⟨gg, 0, none⟩) n0 c0) n0 ((X.set i 9).map (Value.int .u8)) ∧ Kp (fun k => (Value.slice (some ⟨gg, 0, none⟩) n0 c0).ownBlock = some k) v4 (wr.setCell ⟨gg, i, none⟩ (.int .u8 9)) ∧ (X.set i 9).length = n0) := by
            refine ⟨?_, HIN.out.2.trans (Kp.set (S := fun k => (Value.slice (some ⟨gg, 0, none⟩) n0 c0).ownBlock = some k) rfl _) (fun _ _ e => e), by rw [List.length_set]; exact hX.out⟩
            rw [List.map_set]
            exact own_set21 HIN.out.1 (by rw [List.length_map, hX.out]; exact hlt) _
          clear hown hk HIN
          go_wp2_with fail
          go_roundw
          case rel => exact ⟨i + 1, X.set i 9, by omega, by go_num, HNX.out.2.2, HNX.out.1, HNX.out.2.1⟩
          case measure => simp [intOf]; omega
        · obtain rfl : i = n0 := by omega
          have hii : ¬ (i : Int) < (i : Int) := by omega
          obtain ⟨v5, hv5⟩ : ∃ v, v = wr := ⟨_, rfl⟩
          have HQ5 : Hid (Qd21 u0 v5 f b f' b' F G F' G' S0 S0) := by
            rw [hv5]
            exact HQD.out.1.kp hk (fun k e => by
              have h1 := HS2.out.o0.lt k e
              exact ⟨fun q => by have := HQD.out.2 k (.inl q); omega, fun q => by have := HQD.out.2 k (.inr q); omega, h1.1⟩)
          rw [← hv5]
          clear hown hk HIN hv5 hX
          go_wp2_with fail
          go_loopw [120] (fun ti wr => ∃ (j : Nat) (F G F' G' : Nat → Prop) (S S' : Fs21), j ≤ len ∧ ti = .int .i64 (j : Int) ∧ Hid (Qd21 u0 wr f b f' b' F G F' G' S S') ∧ Hid (S.lg.length ≤ j ∧ S'.lg.length ≤ j ∧ S.pg = P ∧ S.ps = Q)) (fun ti _ => len - (intOf ti).toNat)
          case atStart => exact ⟨0, F, G, F', G', S0, S0, by omega, rfl, HQ5.out, by rw [HS0.out]; exact ⟨by simp [nw21], by simp [nw21], by simp [nw21], by simp [nw21]⟩⟩
          case round =>
            obtain ⟨j, F, G, F', G', S, S', hj, rfl, hQD, hLG⟩ := hrel
            by_cases hjl : j < len
            · as_aux_lemma =>
              have hjj : (j : Int) < (len : Int) := by omega
              have hjw : IntKind.i64.wrap ((j : Int) + 1) = ((j + 1 : Nat) : Int) := by have := HSO.out.2.2; rw [IntWalk.i64_in _ (by omega)]; omega
              obtain ⟨g, off, hsa, e0, e1, e2, e3, e4⟩ := HSO.out.1.at_ j hjl
              have hof := HSO.out.1.of j hjl
              have hob := HSO.out.2.1 j hjl
              have bw : Below w.heap.size w wr := HB0.out.1.trans (hQD.out.bl.mono HB0.out.1.size)
              have e0 := cel21 bw e0
              have e1 := cel21 bw e1
              have e2 := cel21 bw e2
              have e3 := cel21 bw e3
              have e4 := cel21 bw e4
              obtain ⟨⟨oc, oa, op, on, oba, ol, obc⟩, hoo⟩ : ∃ o, o = O j := ⟨_, rfl⟩
              rw [← hoo] at e0 e1 e2 e3 e4 hof hob
              simp only at e0 e1 e2 e3 e4 hob
              obtain ⟨ll, hll⟩ : ∃ l, l = ol.length := ⟨_, rfl⟩
              rw [← hll] at e4 hob
              have HOL : Hid (ol.length = ll) := hll.symm
              have HOF : Hid (Of21 u0 ⟨oc, oa, op, on, oba, ol, obc⟩ ∧ ll ≤ 140737488351232) := ⟨⟨hof.sg.old HB0.out.1, hof.cap, hof.nil, hof.c, hof.a, hof.p, hof.n⟩, hob⟩
              subst hsa
              obtain ⟨v6, hv6⟩ : ∃ v, v = wr.alloc (.cells #[.int .i64 oc, .int .i64 oa, .int .i64 op, .int .i64 on, .slice oba ll obc] 40) := ⟨_, rfl⟩
              obtain ⟨g17, hg17⟩ : ∃ v, v = wr.heap.size := ⟨_, rfl⟩
              have HV6 : Hid (wr.alloc (.cells #[.int .i64 oc, .int .i64 oa, .int .i64 op, .int .i64 on, .slice oba ll obc] 40) = v6 ∧ wr.heap.size = g17) := ⟨hv6.symm, hg17.symm⟩
              have b6 : Below wr.heap.size wr v6 := by rw [hv6]; exact (Below.refl _ _).alloc (Nat.le_refl _) _
              have q17 : v6.heap[g17]? = some (.cells #[.int .i64 oc, .int .i64 oa, .int .i64 op, .int .i64 on, .slice oba ll obc] 40 (0, 0)) := by rw [hv6, hg17]; exact heap_alloc_new _ _
              have HQ6 : Hid (Qd21 u0 v6 f b f' b' F G F' G' S S' ∧ v6.heap[g17]? = some (.cells #[.int .i64 oc, .int .i64 oa, .int .i64 op, .int .i64 on, .slice oba ll obc] 40 (0, 0)) ∧ (∀ k, (F k ∨ G k) ∨ (F' k ∨ G' k) → k < g17)) := by
                refine ⟨hQD.out.old b6, q17, fun k e => ?_⟩
                rw [hg17]
                rcases e with (e | e) | (e | e)
                · exact hQD.out.a.p.lts k e
                · exact hQD.out.a.d.lts k e
                · exact hQD.out.c.p.lts k e
                · exact hQD.out.c.d.lts k e
              have hdo := HQ6.out.1.does HTU.out (by have := hLG.out.1; have := HSO.out.2.2; omega) oc oa op on oba ol ll obc HOF.out.1 HOL HOF.out.2
              have y17 : ∀ V : World, V.heap[g17]? = v6.heap[g17]? → V.cell? ⟨g17, 0, none⟩ = some (.int .i64 oc) ∧ V.cell? ⟨g17, 1, none⟩ = some (.int .i64 oa) ∧ V.cell? ⟨g17, 2, none⟩ = some (.int .i64 op) ∧ V.cell? ⟨g17, 3, none⟩ = some (.int .i64 on) ∧ V.cell? ⟨g17, 4, none⟩ = some (.slice oba ll obc) := fun V hV => by
                rw [q17] at hV
                simp [World.cell?, hV]
              have HY17 : Hid (∀ V : World, V.heap[g17]? = v6.heap[g17]? → V.cell? ⟨g17, 0, none⟩ = some (.int .i64 oc) ∧ V.cell? ⟨g17, 1, none⟩ = some (.int .i64 oa) ∧ V.cell? ⟨g17, 2, none⟩ = some (.int .i64 op) ∧ V.cell? ⟨g17, 3, none⟩ = some (.int .i64 on) ∧ V.cell? ⟨g17, 4, none⟩ = some (.slice oba ll obc)) := y17
              clear hof hob bw hoo hll hv6 hg17 b6 q17 y17
              go_upto_region 19 with fail
              rw [HV6.out.1, HV6.out.2]
              clear e0 e1 e2 e3 e4
              obtain ⟨z0, z1, z2, z3, z4⟩ := HY17.out v6 rfl
              go_wp2_with fail
              refine hdo.mono ?_
              rintro e v7 ⟨rfl, F1, G1, hq7, hk7⟩
              have HQ7 : Hid (Qd21 u0 v7 f b f' b' F1 G1 F' G' (ds21 S oc oa op on ol) S') := hq7
              have hq : Int.tmod (j : Int) 3 = ((j % 3 : Nat) : Int) := rfl
              have hqw : IntKind.i64.wrap ((j % 3 : Nat) : Int) = ((j % 3 : Nat) : Int) := IntWalk.i64_in _ (by omega)
              have hlg := lgl21_ds S oc oa op on ol
              have HLG1 : Hid ((ds21 S oc oa op on ol).lg.length ≤ j + 1 ∧ (ds21 S oc oa op on ol).pg = P ∧ (ds21 S oc oa op on ol).ps = Q) := ⟨by have := hlg.1; have := hLG.out.1; omega, by rw [hlg.2.1]; exact hLG.out.2.2.1, by rw [hlg.2.2]; exact hLG.out.2.2.2⟩
              have hb7 := hk7.block g17 (Array.getElem?_eq_some_iff.1 HQ6.out.2.1).1 (fun e => absurd (HQ6.out.2.2 g17 (.inl e)) (by omega))
              have HY7 : Hid (v7.heap[g17]? = v6.heap[g17]?) := hb7
              clear z0 z1 z2 z3 z4 hq7 hk7 hdo hb7 hlg
              obtain ⟨z0, z1, z2, z3, z4⟩ := HY17.out v7 HY7.out
              by_cases h3 : j % 3 = 0
              · have hdo := HQ7.out.swap.does HTU.out (by have := hLG.out.2.1; have := HSO.out.2.2; omega) oc oa op on oba ol ll obc HOF.out.1 HOL HOF.out.2
                have hlg' := lgl21_ds S' oc oa op on ol
                have HLG2 : Hid ((ds21 S' oc oa op on ol).lg.length ≤ j + 1) := by have := hlg'.1; have := hLG.out.2.1; show _ ≤ _; omega
                rw [h3] at hq hqw
                clear hlg' h3
                go_wp2_with fail
                refine hdo.mono ?_
                rintro e v8 ⟨rfl, F2, G2, hq8, -⟩
                have HQ8 : Hid (Qd21 u0 v8 f b f' b' F1 G1 F2 G2 (ds21 S oc oa op on ol) (ds21 S' oc oa op on ol)) := hq8.swap
                clear hdo hq8
                go_wp2_with fail
                go_roundw
                case rel => exact ⟨j + 1, F1, G1, F2, G2, _, _, by omega, by go_num, HQ8.out, ⟨HLG1.out.1, HLG2.out, HLG1.out.2.1, HLG1.out.2.2⟩⟩
                case measure => simp [intOf]; omega
              · have h3' : ¬ ((j % 3 : Nat) : Int) = 0 := by omega
                have HLG2 : Hid (S'.lg.length ≤ j + 1) := by have := hLG.out.2.1; show _ ≤ _; omega
                obtain ⟨r3, hr3⟩ : ∃ r : Int, r = ((j % 3 : Nat) : Int) := ⟨_, rfl⟩
                rw [← hr3] at hq hqw h3'
                clear h3 hr3
                go_wp2_with fail
                go_roundw
                case rel => exact ⟨j + 1, F1, G1, F', G', _, _, by omega, by go_num, HQ7.out, ⟨HLG1.out.1, HLG2.out, HLG1.out.2.1, HLG1.out.2.2⟩⟩
                case measure => simp [intOf]; omega
            · as_aux_lemma =>
              obtain rfl : j = len := by omega
              have hjj : ¬ (j : Int) < (j : Int) := by omega
              have HOFL : Hid (∀ c a n : Int, In21 c → In21 a → In21 n → Of21 u0 ⟨c, a, 0, n, none, [], 0⟩) := fun c a n hc ha hn => ⟨SegK.nil (by decide) _ _, Nat.le_refl _, fun _ => rfl, hc, ha, by unfold In21; simp, hn⟩
              have HL1 : Hid (S.lg.length ≤ 4398046510000 ∧ S'.lg.length ≤ 4398046510000) := by have := hLG.out.1; have := hLG.out.2.1; have := HSO.out.2.2; exact ⟨by omega, by omega⟩
              have hd1 := hQD.out.does HTU.out HL1.out.1 10 0 0 0 none [] 0 0 (HOFL.out 10 0 0 (by unfold In21; omega) (by unfold In21; omega) (by unfold In21; omega)) rfl (by decide)
              have HE10 : Hid (∀ S : Fs21, ds21 S 10 0 0 0 [] = S) := fun S => rfl
              rw [HE10.out] at hd1
              go_wp2_with fail
              refine hd1.mono ?_
              rintro e v7 ⟨rfl, F1, G1, hq7, -⟩
              have hd2 := hq7.swap.does HTU.out HL1.out.2 10 0 0 0 none [] 0 0 (HOFL.out 10 0 0 (by unfold In21; omega) (by unfold In21; omega) (by unfold In21; omega)) rfl (by decide)
              rw [HE10.out] at hd2
              clear hd1 hq7
              go_wp2_with fail
              refine hd2.mono ?_
              rintro e v8 ⟨rfl, F2, G2, hq8, -⟩
              have HQ8 : Hid (Qd21 u0 v8 f b f' b' F1 G1 F2 G2 S S') := hq8.swap
              clear hd2 hq8
              go_wp2_with fail
              refine (ppow21 HQ8.out.a.p HQ8.out.a.ok).mono ?_
              rintro e v9 ⟨rfl, hn9⟩
              obtain ⟨F3, G3, hq9, ⟨xb, hxb⟩, hfb⟩ := HQ8.out.power hn9
              have HQ9 : Hid (Qd21 u0 (v9.setCell ⟨b, 7, none⟩ (.bool false)) f b f' b' F3 G3 F2 G2 { S with on := true } S') := hq9
              clear hn9 hq9
              go_wp2_with fail
              obtain ⟨v10, hv10⟩ : ∃ v, v = v9.setCell ⟨b, 7, none⟩ (.bool false) := ⟨_, rfl⟩
              rw [← hv10] at HQ9 ⊢
              obtain ⟨T, hT⟩ : ∃ T : Fs21, T = { S with on := true } := ⟨_, rfl⟩
              rw [← hT] at HQ9
              have HTT : Hid (T.lg.length ≤ 4398046510000) := by show _ ≤ _; rw [hT]; exact HL1.out.1
              clear hv10 hxb hfb hT
              go_loopw [18] (fun ti wr => ∃ (a : Nat) (F G : Nat → Prop), a ≤ 3 ∧ ti = .int .i64 (a : Int) ∧ Hid (Qd21 u0 wr f b f' b' F G F2 G2 T S')) (fun ti _ => 3 - (intOf ti).toNat)
              case atStart => exact ⟨0, F3, G3, by omega, rfl, HQ9.out⟩
              case round =>
                obtain ⟨a, Fa, Ga, ha, rfl, hqa⟩ := hrel
                by_cases ha3 : a < 3
                · have hai : (a : Int) < 3 := by omega
                  have haw : IntKind.i64.wrap ((a : Int) + 1) = ((a + 1 : Nat) : Int) := by rw [IntWalk.i64_in _ (by omega)]; omega
                  obtain ⟨x0, x1, -⟩ := HC.out wr hqa.out.bl
                  have hp := HPQ.out.1
                  have hq := HPQ.out.2.1
                  obtain ⟨PQ, hPQ⟩ : ∃ PQ, PQ = P * Q := ⟨_, rfl⟩
                  have hpq : PQ ≤ 16777216 := by rw [hPQ]; exact Nat.mul_le_mul hp.2 hq.2
                  have hmul : IntKind.i64.wrap ((P : Int) * (Q : Int)) = (PQ : Int) := by
                    have e : (P : Int) * (Q : Int) = (PQ : Int) := by rw [hPQ]; exact (Int.natCast_mul _ _).symm
                    rw [e, IntWalk.i64_in _ (by omega)]
                  have h2p : IntKind.i64.wrap (2 * (P : Int)) = ((2 * P : Nat) : Int) := by rw [IntWalk.i64_in _ (by omega)]; omega
                  have hrd : ∀ m : Nat, m ≤ 16777216 → Calls Tryd.prog 11 #[.pointer (some ⟨f, 0, none⟩), .pointer (some ⟨b, 0, none⟩), .agg #[.int .i64 0, .int .i64 (a : Int), .int .i64 0, .int .i64 (m : Int), .slice none 0 0]] wr fun e V' => e = .returned (.bool true) ∧ ∃ F1 G1, Qd21 u0 V' f b f' b' F1 G1 F2 G2 T S' := fun m hm => by
                    have := hqa.out.does HTU.out HTT.out 0 (a : Int) 0 (m : Int) none [] 0 0 (HOFL.out 0 (a : Int) (m : Int) (by unfold In21; omega) (by unfold In21; omega) (by unfold In21; omega)) rfl (by decide)
                    refine this.mono ?_
                    rintro e V' ⟨h1, F1, G1, h2, -⟩
                    exact ⟨h1, F1, G1, h2⟩
                  by_cases ha2 : a < 2
                  · have ha2i : (a : Int) < 2 := by omega
                    have hr := hrd PQ hpq
                    clear hrd hPQ hpq hp hq
                    go_wp2_with fail
                    refine hr.mono ?_
                    rintro e v11 ⟨rfl, F4, G4, hq11⟩
                    have HQ11 : Hid (Qd21 u0 v11 f b f' b' F4 G4 F2 G2 T S') := hq11
                    clear hr hq11
                    go_wp2_with fail
                    go_roundw
                    case rel => exact ⟨a + 1, F4, G4, by omega, by go_num, HQ11.out⟩
                    case measure => simp [intOf]; omega
                  · have ha2i : ¬ (a : Int) < 2 := by omega
                    have hr := hrd (2 * P) (by omega)
                    clear hrd hPQ hpq hp hq
                    go_wp2_with fail
                    refine hr.mono ?_
                    rintro e v11 ⟨rfl, F4, G4, hq11⟩
                    have HQ11 : Hid (Qd21 u0 v11 f b f' b' F4 G4 F2 G2 T S') := hq11
                    clear hr hq11
                    go_wp2_with fail
                    go_roundw
                    case rel => exact ⟨a + 1, F4, G4, by omega, by go_num, HQ11.out⟩
                    case measure => simp [intOf]; omega
                · obtain rfl : a = 3 := by omega
                  have hai : ¬ ((3 : Nat) : Int) < 3 := by omega
                  have HBW : Hid (Below w.heap.size w wr) := HB0.out.1.trans (hqa.out.bl.mono HB0.out.1.size)
                  go_wp2_with fail
                  refine (HLV.out wr).mono ?_
                  rintro e v12 ⟨rfl, b12⟩
                  have HB12 : Hid (Below w.heap.size w v12) := HBW.out.trans (b12.mono HBW.out.size)
                  clear b12
                  go_wp2_with fail
                  go_ret
                  exact ⟨rfl, HB12.out⟩
    · as_aux_lemma =>
      have h210 : nwE21 p q ac n0 n1 = 210 := by unfold nwE21 at hE ⊢; split <;> (try split) <;> simp_all
      go_wp2_with fail
      refine (HNW.out w2 (Below.refl _ _)).mono ?_
      rintro e v1 ⟨b1, h1⟩
      rcases h1 with ⟨-, rfl⟩ | ⟨h, -⟩
      rotate_left
      · exact absurd h hE
      have B1 : Hid (Below w2.heap.size w2 v1) := b1
      clear m0 m1 m2 m3 m4 r0 r1 t0 t1 b1
      obtain ⟨⟨m0, m1, m2, m3, m4⟩, ⟨r0, r1⟩, ⟨t0, t1⟩, -⟩ := HK.out v1 B1.out
      go_wp2_with fail
      refine (HNW.out v1 B1.out).mono ?_
      rintro e v2 ⟨b2, h2⟩
      rcases h2 with ⟨-, rfl⟩ | ⟨h, -⟩
      rotate_left
      · exact absurd h hE
      have B2 : Hid (Below w2.heap.size w2 v2) := B1.out.trans (b2.mono B1.out.size)
      clear m0 m1 m2 m3 m4 r0 r1 t0 t1 b2
      obtain ⟨⟨m0, m1, m2, m3, m4⟩, ⟨r0, r1⟩, ⟨t0, t1⟩, -⟩ := HK.out v2 B2.out
      go_wp2_with fail
      refine (rnewn21 p q ac HI.out.1 HI.out.2.1 a0 a1 n0 n1 k0 k1 h210).mono ?_
      rintro e v3 ⟨rfl, b3⟩
      have B3 : Hid (Below w2.heap.size w2 v3) := B2.out.trans (b3.mono B2.out.size)
      clear m0 m1 m2 m3 m4 r0 r1 t0 t1 b3
      obtain ⟨⟨m0, m1, m2, m3, m4⟩, ⟨r0, r1⟩, ⟨t0, t1⟩, sp0, sp1, sq0, sq1, hbu, -⟩ := HK.out v3 B3.out
      have SM0 := bsame_any p0 a0 l0 l0 c0 k0 v3 sp0 sq0
      have SM1 := bsame_any p1 a1 l1 l1 c1 k1 v3 sp1 sq1
      rw [HL0.out, beq_self_eq_true] at SM0
      rw [HL1.out, beq_self_eq_true] at SM1
      have HBU : Hid (Below w.heap.size w v3) := HB0.out.1.trans (hbu.mono HB0.out.1.size)
      clear sp0 sp1 sq0 sq1 hbu
      go_wp2_with fail
      refine SM0.mono ?_
      rintro e v ⟨rfl, hw⟩
      subst v
      go_wp2_with fail
      refine SM1.mono ?_
      rintro e v ⟨rfl, hw⟩
      subst v
      clear SM0 SM1
      go_wp2_with fail
      refine (HLV.out v3).mono ?_
      rintro e v4 ⟨rfl, b4⟩
      have HB4 : Hid (Below w.heap.size w v4) := HBU.out.trans (b4.mono HBU.out.size)
      clear b4
      go_wp2_with fail
      go_ret
      exact ⟨rfl, HB4.out⟩
end Go.Proofs.YtjoghmdjnkdokaaDoor
