
import Derived.Test.YtjoghmdjnkdokaaDoorProg
import Derived.Test.YtjoghmdjnkdokaaDoorPush
import Derived.Test.YtjoghmdjnkdokaaDoorOwnSeg
import Derived.Test.YtjoghmdjnkdokaaDoorSame
import Derived.WalkKit
import Derived.WalkSpells
import Derived.WalkLawsBesides
import Derived.Deep.QuietTactic
import Derived.BigQuiet
namespace Go.Proofs.YtjoghmdjnkdokaaDoor
open Go.RowKit
set_option linter.unusedVariables false

theorem info_u8' : (Tryd.prog.info? 5).map (fun i => (i.zero, i.size, i.bytes)) = some (some (.int .u8 0), 1, 1) := by kernel_rfl
def lentL (zs : List Int) : List Int := zs ++ [171, 172, 173, 174, 175]

theorem seg_five (w : World) : Seg (w.alloc (.cells #[.int .u8 171, .int .u8 172, .int .u8 173, .int .u8 174, .int .u8 175] 5)) (some ⟨w.heap.size, 0, none⟩) [171, 172, 173, 174, 175] := by
  refine ⟨fun i hi => ⟨w.heap.size, 0, rfl, ?_⟩, by decide, ?_⟩
  · simp only [List.length_cons, List.length_nil] at hi
    match i, hi with
    | 0, _ => simp
    | 1, _ => simp
    | 2, _ => simp
    | 3, _ => simp
    | 4, _ => simp
  · exact getD_bd (by decide) (by intro z hz; simp at hz; omega)

set_option maxRecDepth 100000 in
set_option maxHeartbeats 400000 in
theorem lend_any (a : Option Addr) (zs : List Int) (cap : Nat) (w : World) (hs : Seg w a zs) (hnil : a = none → cap = 0) (hl : zs.length ≤ 140737488351232) :
    Calls Tryd.prog 13 #[.slice a zs.length cap] w fun e w' => ∃ g cap', e = .returned (.tuple #[.slice (some ⟨g, 0, none⟩) (zs.length + 5) cap', .slice (some ⟨g, 0, none⟩) zs.length cap']) ∧
      w'.ownsRow w.heap.size 5 1 (.slice (some ⟨g, 0, none⟩) (zs.length + 5) cap') (zs.length + 5) ((lentL zs).map (Value.int .u8)) ∧ Below w.heap.size w w' := by
  obtain ⟨i0, hi, hz0, hz1, hz2⟩ := info_parts info_u8'
  go_enter Tryd.func13, Tryd.ntmps13
  have hm0 : (w.alloc (.cells #[] 5)).ownsRow w.heap.size 5 1 (.slice (some ⟨w.heap.size, 0, none⟩) 0 0) 0 [] := World.ownsRow_made w #[] 0 (Nat.le_refl _) (by decide) rfl
  have hb0 : Below w.heap.size w (w.alloc (.cells #[] 5)) := (Below.refl _ _).alloc (Nat.le_refl _) _
  go_wp2_with (first
    | (at_builtin; refine wpList_append_seg rfl (.tmp 5) (.tmp 6) 22 rfl w.heap.size 5 i0 (.int .u8 0) 1 Tryd.underlying22 hi hz0 hz1 hz2 rfl hm0 (hs.alloc _) hnil rfl rfl (by omega) (by omega) (by simp) ?_; intro v1 w1 hown1 hg1 hb1)
    | (at_builtin; refine wpList_append_seg rfl (.tmp 7) (.tmp 8) 22 rfl w.heap.size 5 i0 (.int .u8 0) 1 Tryd.underlying22 hi hz0 hz1 hz2 rfl (hown1.alloc _) (seg_five w1) (by intro h; cases h) rfl rfl (by simp; omega) (by simp; omega) (by have := hb1.size; simp at this ⊢; omega) ?_; intro v2 w2 hown2 hg2 hb2))
  obtain ⟨g, cap', rfl, hc2, hg, hgs⟩ := own_shape hown2 (by simp)
  have hcc : (zs.length : Int) ≤ (cap' : Int) := by simp at hc2; omega
  have hs1 := hb1.size
  have hbb : Below w.heap.size w w2 := hb0.trans (hb1.trans (((Below.refl _ _).alloc (by simp at hs1; omega) _).trans hb2))
  have hown3 : w2.ownsRow w.heap.size 5 1 (.slice (some ⟨g, 0, none⟩) (zs.length + 5) cap') (zs.length + 5) ((lentL zs).map (Value.int .u8)) := by
    have := hown2
    simp only [List.nil_append, Nat.zero_add, ← List.map_append] at this
    exact this
  clear hown2 hown1 hg1 hg2 hb1 hb2
  have e5 : 0 + zs.length + ([171, 172, 173, 174, 175] : List Int).length = zs.length + 5 := by simp
  rw [e5]
  clear e5 hc2
  go_region
  go_wp2
  go_ret2
  exact ⟨g, cap', rfl, hown3, hbb.drew⟩

theorem lent_bd {zs : List Int} (h : ∀ z ∈ zs, 0 ≤ z ∧ z ≤ 255) : ∀ z ∈ lentL zs, 0 ≤ z ∧ z ≤ 255 := by
  intro z hz
  unfold lentL at hz
  rw [List.mem_append] at hz
  rcases hz with hz | hz
  · exact h z hz
  · simp at hz; omega

set_option maxRecDepth 100000 in
/-- The longer list is as Lend made it. -/
theorem kept_any (a b : Option Addr) (xs zs : List Int) (ca cap : Nat) (w : World) (hx : Seg w b xs) (hs : Seg w a zs) (hnil : a = none → cap = 0) (hl : zs.length ≤ 140737488351232) :
    Calls Tryd.prog 16 #[.slice b xs.length ca, .slice a zs.length cap] w fun e w' => e = .returned (.bool (xs == lentL zs)) ∧ Below w.heap.size w w' := by
  go_enter Tryd.func16, Tryd.ntmps16
  go_wp2_with fail
  refine (lend_any a zs cap _ hs hnil hl).mono ?_
  rintro e w1 ⟨g, cap', rfl, hown, hb⟩
  obtain ⟨hn, a', c', hv, hseg, _, _, _⟩ := own_seg hown (M := 255) (by decide) (lent_bd hs.mem)
  have ha : a' = some ⟨g, 0, none⟩ := by simp at hv; exact hv.1.symm
  subst ha
  clear hv
  have hx1 := hx.old hb
  go_wp2_with fail
  refine (bsame_any b (some ⟨g, 0, none⟩) xs (lentL zs) ca cap' _ hx1 hseg).mono ?_
  rintro e w2 ⟨rfl, hw2⟩
  subst w2
  go_wp2
  go_ret
  exact ⟨rfl, hb⟩
end Go.Proofs.YtjoghmdjnkdokaaDoor
