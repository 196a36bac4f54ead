import Derived.Test.YtmjlpfmacblcpaaDoorBoEq
import Derived.ScopeJumps
import Derived.Laws.EntriesVeiled
namespace Go.Proofs.YtmjlpfmacblcpaaDoor
open Go.RowKit
set_option linter.unusedVariables false
set_option linter.unusedSimpArgs false
theorem cell25 {W : World} {b k : Nat} {cs : Array Value} {t : TypeId} {v : Value} (h : W.heap[b]? = some (.cells cs t (0, 0))) (hk : cs[k]? = some v) : W.cell? ⟨b, k, none⟩ = some v := by simp [World.cell?, h, hk]
def no25 : Im25 := ⟨0, 0, 0, 0⟩
def zr25 : Rc25 := ⟨0, no25, no25, 0⟩
/-- An image may be, its version not below the least. -/
def Im25.may (i : Im25) (l : Int) : Prop := (i.s = 0 ∨ i.s = 1) ∧ l ≤ i.v ∧ i.v ≤ 2147483647 ∧ 0 ≤ i.z ∧ i.z ≤ 16777216
instance (i : Im25) (l : Int) : Decidable (i.may l) := by unfold Im25.may; infer_instance
def Rc25.may (r : Rc25) : Prop := (1 ≤ r.q ∧ r.q ≤ 1152921504606846976) ∧ (0 ≤ r.t ∧ r.t ≤ 15) ∧ r.g.may 1 ∧ ((r.n = no25 ∧ r.t = 0) ∨ (r.n ≠ no25 ∧ r.n.may r.g.v ∧ r.n.s ≠ r.g.s))
instance (r : Rc25) : Decidable r.may := by unfold Rc25.may; infer_instance
def ck25 (r : Rc25) : Int := if r.may then 0 else 250
set_option maxRecDepth 100000 in
set_option maxHeartbeats 4000000 in
theorem pmay25 (i : Im25) (l : Int) (w : World) : Calls Tryd.prog 82 #[.agg i.cs, .int .i64 l] w fun e w' => e = .returned (.bool (decide (i.may l))) ∧ Below w.heap.size w w' := by
  have HB : Hid (decide (i.may l) = true ↔ (i.s = 0 ∨ i.s = 1) ∧ l ≤ i.v ∧ i.v ≤ 2147483647 ∧ 0 ≤ i.z ∧ i.z ≤ 16777216) := decide_eq_true_iff
  generalize decide (i.may l) = B at *
  obtain ⟨s, v, z, m⟩ := i
  unfold Im25.cs
  simp only at *
  go_enter Tryd.func82, Tryd.ntmps82
  go_wp2
  all_goals go_ret
  all_goals refine ⟨?_, (Below.refl _ _).alloc (Nat.le_refl _) _⟩
  all_goals show Ending.returned (.bool _) = _
  all_goals congr 2
  all_goals rw [Bool.eq_iff_iff, HB.out]
  all_goals simp only [decide_eq_true_eq, Bool.false_eq_true, false_iff, iff_false, true_iff, iff_true, reduceCtorEq, eq_self_iff_true]
  all_goals omega
/-- What stands behind Check's label. -/
def Jm25 (w : World) (no : Prop) (a : Act) (W : World) : Prop := a.tmps.size = 48 ∧ a.defers = [] ∧ Below w.heap.size w W ∧ no
/-- A record in memory: its cells. -/
theorem cells25 {W : World} {b : Nat} {ty : TypeId} {q t : Int} {g n : Im25} (h : W.heap[b]? = some (.cells #[.int .i64 q, .int .i64 g.s, .int .i64 g.v, .int .i64 g.z, .int .u32 g.m, .int .i64 n.s, .int .i64 n.v, .int .i64 n.z, .int .u32 n.m, .int .i64 t] ty (0, 0))) :
    W.cell? ⟨b, 0, none⟩ = some (.int .i64 q) ∧ W.cell? ⟨b, 1, none⟩ = some (.int .i64 g.s) ∧ W.cell? ⟨b, 2, none⟩ = some (.int .i64 g.v) ∧ W.cell? ⟨b, 3, none⟩ = some (.int .i64 g.z) ∧ W.cell? ⟨b, 4, none⟩ = some (.int .u32 g.m) ∧ W.cell? ⟨b, 5, none⟩ = some (.int .i64 n.s) ∧ W.cell? ⟨b, 6, none⟩ = some (.int .i64 n.v) ∧ W.cell? ⟨b, 7, none⟩ = some (.int .i64 n.z) ∧ W.cell? ⟨b, 8, none⟩ = some (.int .u32 n.m) ∧ W.cell? ⟨b, 9, none⟩ = some (.int .i64 t) := 
  ⟨cell25 h rfl, cell25 h rfl, cell25 h rfl, cell25 h rfl, cell25 h rfl, cell25 h rfl, cell25 h rfl, cell25 h rfl, cell25 h rfl, cell25 h rfl⟩
set_option maxRecDepth 100000 in
set_option maxHeartbeats 8000000 in
theorem pcheck25 (r : Rc25) (w : World) : Calls Tryd.prog 36 #[.agg r.cs] w fun e w' => e = .returned (.int .i64 (ck25 r)) ∧ Below w.heap.size w w' := by
  obtain ⟨q, g, n, t⟩ := r
  unfold Rc25.cs
  simp only
  obtain ⟨wA, hwA⟩ : ∃ wA, wA = w.alloc (.cells #[.int .i64 q, .int .i64 g.s, .int .i64 g.v, .int .i64 g.z, .int .u32 g.m, .int .i64 n.s, .int .i64 n.v, .int .i64 n.z, .int .u32 n.m, .int .i64 t] 63) := ⟨_, rfl⟩
  have HWA : Hid (w.alloc (.cells #[.int .i64 q, .int .i64 g.s, .int .i64 g.v, .int .i64 g.z, .int .u32 g.m, .int .i64 n.s, .int .i64 n.v, .int .i64 n.z, .int .u32 n.m, .int .i64 t] 63) = wA) := hwA.symm
  have bA : Below w.heap.size w wA := by rw [hwA]; exact (Below.refl _ _).alloc (Nat.le_refl _) _
  have qA : wA.heap[w.heap.size]? = some (.cells #[.int .i64 q, .int .i64 g.s, .int .i64 g.v, .int .i64 g.z, .int .u32 g.m, .int .i64 n.s, .int .i64 n.v, .int .i64 n.z, .int .u32 n.m, .int .i64 t] 63 (0, 0)) := by rw [hwA]; exact heap_alloc_new _ _
  have HE : Hid (∀ W, (binOp .eql 61 (.agg #[.int .i64 n.s, .int .i64 n.v, .int .i64 n.z, .int .u32 n.m]) (.agg #[.int .i64 0, .int .i64 0, .int .i64 0, .int .u32 0])).run Tryd.prog W = .ok (.bool (decide (n = no25))) W) := fun W => bei25 n no25 W
  have HQ : Hid (∀ V, Below wA.heap.size wA V → V.heap[w.heap.size]? = some (.cells #[.int .i64 q, .int .i64 g.s, .int .i64 g.v, .int .i64 g.z, .int .u32 g.m, .int .i64 n.s, .int .i64 n.v, .int .i64 n.z, .int .u32 n.m, .int .i64 t] 63 (0, 0))) := fun V hV => (hV.block _ (Array.getElem?_eq_some_iff.1 qA).1).trans qA
  have HA : Hid (Below w.heap.size w wA) := bA
  clear hwA bA qA
  go_enter Tryd.func36, Tryd.ntmps36
  go_wp2_with fail
  rw [HWA.out]
  refine wp_scope_jumps 0 (Jm25 w (¬ (Rc25.mk q g n t).may)) (fun _ _ => 0) rfl ?_ ?_
  rotate_left
  · rintro a W ⟨h1, h2, h3, h4⟩
    obtain ⟨T, ds⟩ := a
    simp only at h1 h2
    subst h2
    go_wp2
    simp only [Exit.jump]
    go_ret
    refine ⟨?_, h3⟩
    rw [ck25, if_neg h4]
    simp [h1]
  · obtain ⟨c0, c1, c2, c3, c4, c5, c6, c7, c8, c9⟩ := cells25 (HQ.out wA (Below.refl _ _))
    by_cases h1 : q < 1
    · go_wp2
      go_step3
      exact ⟨rfl, rfl, rfl, HA.out, fun h => by have x : 1 ≤ q := h.1.1; omega⟩
    by_cases h2 : 1152921504606846976 < q
    · go_wp2
      go_step3
      exact ⟨rfl, rfl, rfl, HA.out, fun h => by have x : q ≤ 1152921504606846976 := h.1.2; omega⟩
    by_cases h3 : t < 0
    · go_wp2
      go_step3
      exact ⟨rfl, rfl, rfl, HA.out, fun h => by have x : 0 ≤ t := h.2.1.1; omega⟩
    by_cases h4 : 15 < t
    · go_wp2
      go_step3
      exact ⟨rfl, rfl, rfl, HA.out, fun h => by have x : t ≤ 15 := h.2.1.2; omega⟩
    have H14 : Hid ((1 ≤ q ∧ q ≤ 1152921504606846976) ∧ (0 ≤ t ∧ t ≤ 15)) := ⟨⟨by omega, by omega⟩, by omega, by omega⟩
    go_wp2_with fail
    refine (pmay25 g 1 wA).mono ?_
    rintro e1 w1 ⟨rfl, b1⟩
    have B1 : Hid (Below wA.heap.size wA w1) := b1
    clear c0 c1 c2 c3 c4 c5 c6 c7 c8 c9 h1 h2 b1
    obtain ⟨c0, c1, c2, c3, c4, c5, c6, c7, c8, c9⟩ := cells25 (HQ.out w1 B1.out)
    by_cases hg : g.may 1
    rotate_left
    · rw [decide_eq_false hg]
      go_wp2
      go_step3
      exact ⟨rfl, rfl, rfl, HA.out.trans (B1.out.mono HA.out.size), fun h => hg h.2.2.1⟩
    have HG : Hid (g.may 1) := hg
    rw [decide_eq_true hg]
    have E1 := HE.out w1
    by_cases hn : n = no25
    · rw [decide_eq_true hn] at E1
      have HN : Hid (n = no25) := hn
      by_cases h5 : 0 < t
      · clear hn hg
        go_wp2_with (refine wpList_bin25 rfl .eql 61 (.tmp 26) (.tmp 27) 61 rfl rfl rfl egi25 E1 ?_)
        go_step3
        exact ⟨rfl, rfl, rfl, HA.out.trans (B1.out.mono HA.out.size), fun h => h.2.2.2.elim (fun x => by have y : t = 0 := x.2; omega) (fun x => x.1 HN.out)⟩
      · have h6 : t = 0 := by omega
        clear hn hg
        go_wp2_with (refine wpList_bin25 rfl .eql 61 (.tmp 26) (.tmp 27) 61 rfl rfl rfl egi25 E1 ?_)
        simp only [Exit.jump]
        go_ret
        have hm : (Rc25.mk q g n t).may := ⟨H14.out.1, H14.out.2, HG.out, .inl ⟨HN.out, h6⟩⟩
        exact ⟨by rw [ck25, if_pos hm]; rfl, HA.out.trans (B1.out.mono HA.out.size)⟩
    rw [decide_eq_false hn] at E1
    have HN : Hid (n ≠ no25) := hn
    clear hn hg
    go_wp2_with (refine wpList_bin25 rfl .eql 61 (.tmp 26) (.tmp 27) 61 rfl rfl rfl egi25 E1 ?_)
    refine (pmay25 n g.v w1).mono ?_
    rintro e2 w2 ⟨rfl, b2⟩
    have B2 : Hid (Below wA.heap.size wA w2) := B1.out.trans (b2.mono B1.out.size)
    clear c0 c1 c2 c3 c4 c5 c6 c7 c8 c9 b2 E1
    obtain ⟨c0, c1, c2, c3, c4, c5, c6, c7, c8, c9⟩ := cells25 (HQ.out w2 B2.out)
    by_cases hm : n.may g.v
    rotate_left
    · rw [decide_eq_false hm]
      go_wp2
      go_step3
      exact ⟨rfl, rfl, rfl, HA.out.trans (B2.out.mono HA.out.size), fun h => h.2.2.2.elim (fun x => HN.out x.1) (fun x => hm x.2.1)⟩
    have HMM : Hid (n.may g.v) := hm
    rw [decide_eq_true hm]
    clear hm
    by_cases hs : n.s = g.s
    · go_wp2
      go_step3
      exact ⟨rfl, rfl, rfl, HA.out.trans (B2.out.mono HA.out.size), fun h => h.2.2.2.elim (fun x => HN.out x.1) (fun x => x.2.2 hs)⟩
    · go_wp2
      simp only [Exit.jump]
      go_ret
      have hm : (Rc25.mk q g n t).may := ⟨H14.out.1, H14.out.2, HG.out, .inr ⟨HN.out, HMM.out, hs⟩⟩
      exact ⟨by rw [ck25, if_pos hm]; rfl, HA.out.trans (B2.out.mono HA.out.size)⟩
end Go.Proofs.YtmjlpfmacblcpaaDoor
