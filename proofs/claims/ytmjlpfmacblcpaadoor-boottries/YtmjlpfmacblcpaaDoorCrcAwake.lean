import Derived.Test.YtmjlpfmacblcpaaDoorCrcSum
import Derived.Test.YtmjlpfmacblcpaaDoorOwnSeg
import Derived.Lib.SmallJoins
namespace Go.Proofs.YtmjlpfmacblcpaaDoor
open Go.RowKit
set_option linter.unusedVariables false
set_option linter.unusedSimpArgs false
theorem parts_one (w : World) (g n : Nat) (a : Option Addr) (zs : List Int) (cap : Nat) (t : TypeId) (h : Seg w a zs) (hg : g = w.heap.size) (hn : n = zs.length) (hl : zs.length ≤ 9223372036854775807) :
    Parts (w.alloc (.cells #[.slice a n cap] t)) (some ⟨g, 0, none⟩) [⟨a, zs, cap⟩] := by
  subst hg hn
  refine ⟨fun i hi => ⟨w.heap.size, 0, rfl, ?_⟩, fun i hi => ?_, fun i hi => ?_⟩ <;> (obtain rfl : i = 0 := by simpa using hi)
  · rw [World.cell?_alloc_mark]
    rfl
  · exact h.alloc _
  · exact hl
theorem flat_one (a : Option Addr) (zs : List Int) (cap : Nat) : flat [⟨a, zs, cap⟩] = zs := by simp [flat]
/-- The sum of one part. -/
theorem sum_one (w : World) (g n : Nat) (a : Option Addr) (zs : List Int) (cap c : Nat) (t : TypeId) (ht : Tab w) (h : Seg w a zs) (hg : g = w.heap.size) (hn : n = zs.length) (hl : zs.length ≤ 9223372036854775807) :
    Calls Tryd.prog 78 #[.slice (some ⟨g, 0, none⟩) 1 c] (w.alloc (.cells #[.slice a n cap] t)) fun e w' => e = .returned (.int .u32 (wI (sumW zs))) ∧ w' = w.alloc (.cells #[.slice a n cap] t) := by
  refine (sum_any (some ⟨g, 0, none⟩) [⟨a, zs, cap⟩] c _ (ht.alloc _) (parts_one w g n a zs cap t h hg hn hl) (by simp)).mono ?_
  rintro e w' ⟨rfl, hw'⟩
  rw [flat_one]
  exact ⟨rfl, hw'⟩
end Go.Proofs.YtmjlpfmacblcpaaDoor
