
import Derived.Test.YtfohapfdcdlpeaaLnInfo
import Derived.WalkLawsBesides
namespace Go.Proofs.Ytfohapfdcdlpeaa
open Go.RowKit
set_option linter.unusedVariables false

def lentZ (zs : List Int) : List Int := zs ++ [71, 72, 73, 74]
theorem lentZ_bd {zs : List Int} (h : ∀ z ∈ zs, -9223372036854775808 ≤ z ∧ z ≤ 9223372036854775807) : ∀ z ∈ lentZ zs, -9223372036854775808 ≤ z ∧ z ≤ 9223372036854775807 := by
  intro z hz
  unfold lentZ at hz
  rw [List.mem_append] at hz
  rcases hz with hz | hz
  · exact h z hz
  · simp at hz; omega
theorem seg_four (w : World) : SegZ (w.alloc (.cells #[.int .i64 71, .int .i64 72, .int .i64 73, .int .i64 74] 3)) (some ⟨w.heap.size, 0, none⟩) [71, 72, 73, 74] := by
  refine ⟨fun i hi => ⟨w.heap.size, 0, rfl, ?_⟩, getD_bdz (by intro z hz; simp at hz; omega)⟩
  simp only [List.length_cons, List.length_nil] at hi
  match i, hi with
  | 0, _ => simp
  | 1, _ => simp
  | 2, _ => simp
  | 3, _ => simp

set_option maxRecDepth 100000 in
set_option maxHeartbeats 400000 in
theorem lend_any (a : Option Addr) (zs : List Int) (cap : Nat) (w : World) (hs : SegZ w a zs) (hnil : a = none → cap = 0) (hl : zs.length * 8 ≤ 140737488351232) :
    Calls Try.prog 5 #[.slice a zs.length cap] w fun e w' => ∃ g cap', e = .returned (.slice (some ⟨g, 0, none⟩) (lentZ zs).length cap') ∧
      w'.ownsRow w.heap.size 3 1 (.slice (some ⟨g, 0, none⟩) (lentZ zs).length cap') (lentZ zs).length ((lentZ zs).map (Value.int .i64)) ∧ (lentZ zs).length ≤ cap' ∧ Below w.heap.size w w' := by
  obtain ⟨i0, hi, hz0, hz1, hz2⟩ := info_parts info_int
  have HL : Hid (zs.length + 4 = (lentZ zs).length) := by show _ = _; simp [lentZ]
  go_enter Try.func5, Try.ntmps5
  go_wp2_with (first
    | (at_builtin; refine wpList_appZ rfl (.const (.slice none 0 0)) (.tmp 3) 22 rfl w.heap.size 3 i0 (.int .i64 0) 8 Try.underlying22 hi hz0 hz1 hz2 rfl (World.ownsRow_nil _ _ _ _) hs hnil rfl rfl (by omega) (by omega) (Nat.le_refl _) ?_; intro a1 c1 w1 hown1 hg1 hf1 hn1; have hb1 := below_own (World.ownsRow_nil w w.heap.size 3 1) hg1 (Nat.le_refl _); clear hf1 hn1 hg1; rw [Nat.zero_add, List.nil_append] at hown1)
    | (at_builtin; refine wpList_appZ rfl (.tmp 4) (.tmp 5) 22 rfl w.heap.size 3 i0 (.int .i64 0) 8 Try.underlying22 hi hz0 hz1 hz2 rfl (hown1.alloc _) (seg_four w1) (by intro h; cases h) rfl rfl (by simp; omega) (by simp; omega) (by have := hb1.size; simp; omega) ?_; intro a2 c2 w2 hown2 hg2 hf2 hn2))
  go_ret
  clear hf2 hn2
  have hb0 := hb1.trans ((Below.refl w.heap.size w1).alloc hb1.size (.cells #[.int .i64 71, .int .i64 72, .int .i64 73, .int .i64 74] 3))
  have hb2 := hb0.trans (below_own (hown1.alloc _) hg2 (by have := hb0.size; simpa using this))
  have el : zs.length + ([71, 72, 73, 74] : List Int).length = (lentZ zs).length := by simp [lentZ]
  have ev : zs.map (Value.int .i64) ++ ([71, 72, 73, 74] : List Int).map (Value.int .i64) = (lentZ zs).map (Value.int .i64) := by simp [lentZ]
  rw [el, ev] at hown2
  obtain ⟨g, cap', hv, hc2, hg, hgs⟩ := own_shape hown2 (by have := HL.out; omega)
  refine ⟨g, cap', ?_, by rw [← hv]; exact hown2, hc2, hb2⟩
  rw [← hv, ← el]
  rfl
end Go.Proofs.Ytfohapfdcdlpeaa
