
import Derived.Test.YtoeabfcnfofbiaaDoorLnStab
import Derived.Test.YtoeabfcnfofbiaaDoorLnRef
namespace Go.Proofs.YtoeabfcnfofbiaaDoor
open Go.RowKit
set_option linter.unusedVariables false

set_option maxRecDepth 100000 in
theorem insSort_nil (X : Value) (w : World) : Calls Tryd.prog 121 #[X, .int .i64 0, .int .i64 0, cmpF] w fun e w' => e = .returned (.tuple #[]) ∧ w' = w := by
  go_enter Tryd.func121, Tryd.ntmps121
  go_wp2
  go_loopw [8] (fun ti wr => ti = .int .i64 1 ∧ wr = w) (fun _ _ => 0)
  case atStart => exact ⟨by go_num, rfl⟩
  case round =>
    obtain ⟨rfl, rfl⟩ := hrel
    go_wp2
    go_end0
    exact ⟨rfl, rfl⟩
set_option maxRecDepth 100000 in
theorem stable_nil (X : Value) (w : World) : Calls Tryd.prog 116 #[X, .int .i64 0, cmpF] w fun e w' => e = .returned (.tuple #[]) ∧ w' = w := by
  go_enter Tryd.func116, Tryd.ntmps116
  go_wp2_with fail
  go_loopw [7, 8] (fun ta tb wr => ta = .int .i64 0 ∧ tb = .int .i64 20 ∧ wr = w) (fun _ _ _ => 0)
  case atStart => exact ⟨rfl, rfl, rfl⟩
  case round =>
    obtain ⟨rfl, rfl, rfl⟩ := hrel
    go_wp2_with fail
    refine (insSort_nil _ _).mono ?_
    rintro e w' ⟨rfl, hw'⟩
    subst w'
    go_wp2_with fail
    go_loopw [6, 7, 8] (fun ts ta tb w2 => ts = .int .i64 20 ∧ ta = .int .i64 0 ∧ tb = .int .i64 20 ∧ w2 = wr) (fun _ _ _ _ => 0)
    case atStart => exact ⟨rfl, rfl, rfl, rfl⟩
    case round =>
      obtain ⟨rfl, rfl, rfl, rfl⟩ := hrel
      go_wp2
      go_end0
      exact ⟨rfl, rfl⟩
set_option maxRecDepth 100000 in
theorem sortStable_nil (cap : Nat) (w : World) : Calls Tryd.prog 105 #[.slice none 0 cap, cmpF] w fun e w' => e = .returned (.tuple #[]) ∧ w' = w := by
  go_enter Tryd.func105, Tryd.ntmps105
  go_wp2_with fail
  refine (stable_nil _ _).mono ?_
  rintro e w' ⟨rfl, hw'⟩
  subst w'
  go_wp2
  go_end0
  exact ⟨rfl, rfl⟩

/-- The symbols in use, in their order, as items. -/
def leafI (zs : List Int) (i : Nat) : Im := ⟨zs.getD i 0, i, none, none⟩
def leafL (zs : List Int) (k : Nat) : List Im := ((List.range k).filter fun i => decide (zs.getD i 0 ≠ 0)).map (leafI zs)
theorem leafL_snoc (zs : List Int) (k : Nat) : leafL zs (k + 1) = leafL zs k ++ (if zs.getD k 0 = 0 then [] else [leafI zs k]) := by
  unfold leafL
  rw [List.range_succ, List.filter_append, List.map_append]
  congr 1
  by_cases h : zs.getD k 0 = 0
  · rw [if_pos h, List.filter_cons, if_neg (by simpa using h), List.filter_nil, List.map_nil]
  · rw [if_neg h, List.filter_cons, if_pos (decide_eq_true h), List.filter_nil, List.map_cons, List.map_nil]
theorem leafL_len (zs : List Int) (k : Nat) : (leafL zs k).length ≤ k := by
  unfold leafL
  rw [List.length_map]
  have := List.length_filter_le (fun i => decide (zs.getD i 0 ≠ 0)) (List.range k)
  simpa using this
def Im.cells (x : Im) : List Value := [.int .i64 x.wt, .int .i64 x.sy, .pointer x.fs, .pointer x.sn]
def flatI (l : List Im) : List Value := l.flatMap Im.cells
theorem flatI_len (l : List Im) : (flatI l).length = l.length * 4 := by
  unfold flatI
  induction l with
  | nil => rfl
  | cons x r ih => simp [Im.cells, ih]; omega
theorem flatI_get : ∀ (l : List Im) (k : Nat) (x : Im), l[k]? = some x → (flatI l)[k * 4]? = some (.int .i64 x.wt) ∧ (flatI l)[k * 4 + 1]? = some (.int .i64 x.sy) ∧ (flatI l)[k * 4 + 2]? = some (.pointer x.fs) ∧ (flatI l)[k * 4 + 3]? = some (.pointer x.sn)
  | [], k, x, h => by simp at h
  | y :: r, 0, x, h => by
    simp at h
    subst h
    simp [flatI, Im.cells]
  | y :: r, k + 1, x, h => by
    have := flatI_get r k x (by simpa using h)
    have e : flatI (y :: r) = .int .i64 y.wt :: .int .i64 y.sy :: .pointer y.fs :: .pointer y.sn :: flatI r := rfl
    rw [e, show (k + 1) * 4 = k * 4 + 1 + 1 + 1 + 1 by omega]
    simpa [List.getElem?_cons_succ, show k * 4 + 1 + 1 + 1 + 1 + 1 = (k * 4 + 1) + 1 + 1 + 1 + 1 by omega] using this
theorem flatI_one (l : List Im) : ∀ u ∈ flatI l, u.oneCell' = true := by
  intro u hu
  unfold flatI at hu
  obtain ⟨x, _, hx⟩ := List.mem_flatMap.1 hu
  unfold Im.cells at hx
  simp only [List.mem_cons, List.not_mem_nil, or_false] at hx
  rcases hx with rfl | rfl | rfl | rfl <;> rfl
theorem flatI_app (l r : List Im) : flatI (l ++ r) = flatI l ++ flatI r := by unfold flatI; rw [List.flatMap_append]
/-- A row of the call's own, as items that lie there. -/
theorem own_row4 {w : World} {base n g cap : Nat} {e : TypeId} {l : List Im} (h : w.ownsRow base e 4 (.slice (some ⟨g, 0, none⟩) n cap) n (flatI l)) (hl : l.length = n) : Sr w g n (fun k => l.getD k ⟨0, 0, none, none⟩) := by
  have hc : ∀ j u, (flatI l)[j]? = some u → w.cell? ⟨g, j, none⟩ = some u := by
    intro j u hu
    have := h.cells (g := g) rfl j u hu
    have hadd : (⟨g, 0, none⟩ : Addr).add j = ⟨g, j, none⟩ := by unfold Addr.add; split <;> simp_all
    rwa [hadd] at this
  refine ⟨⟨fun k hk => ?_⟩, fun k => ?_⟩
  · have hg : l[k]? = some (l.getD k ⟨0, 0, none, none⟩) := by simp [List.getD, show k < l.length by omega]
    obtain ⟨q0, q1, q2, q3⟩ := flatI_get l k _ hg
    rw [Nat.zero_add]
    exact ⟨hc _ _ q0, hc _ _ q1, hc _ _ q2, hc _ _ q3⟩
  · rcases h.2 with ⟨h1, _⟩ | ⟨g', cap', cur, hv, _, hh, _⟩
    · cases h1
    · simp only [Value.slice.injEq, Option.some.injEq, Addr.mk.injEq] at hv
      obtain ⟨⟨rfl, _⟩, _⟩ := hv
      simp [World.frozen?, hh]
theorem info_item : (Tryd.prog.info? 159).map (fun i => (i.zero, i.size, i.bytes)) = some (some (.agg #[.int .i64 0, .int .i64 0, .pointer none, .pointer none]), 4, 32) := by kernel_rfl
end Go.Proofs.YtoeabfcnfofbiaaDoor
