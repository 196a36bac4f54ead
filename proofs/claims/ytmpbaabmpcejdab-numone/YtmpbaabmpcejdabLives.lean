import Derived.Test.YtmpbaabmpcejdabProg
import Derived.Test.YtmpbaabmpcejdabDec
import Derived.Test.YtmpbaabmpcejdabEnc
import Derived.Test.YtmpbaabmpcejdabOwnSeg
namespace Go.Proofs.Ytmpbaabmpcejdab
open Go.RowKit
set_option linter.unusedVariables false

theorem seg64_one (w : World) (v : Int) (h0 : 0 ≤ v) (h1 : v ≤ 18446744073709551615) : Seg64 (w.alloc (.cells #[.int .u64 v] 23)) (some ⟨w.heap.size, 0, none⟩) [v] := by
  refine ⟨fun i hi => ⟨w.heap.size, 0, rfl, ?_⟩, by decide, ?_⟩
  · have : i = 0 := by simpa using hi
    subst this
    simp
  · exact getD_bd (by decide) (by intro z hz; simp at hz; subst hz; exact ⟨h0, h1⟩)

theorem dec300 : decL 0 0 (encA [300]) = (300, 2, 0) := by decide

set_option maxHeartbeats 400000 in
theorem lives_any (w : World) : Calls Try.prog 15 #[] w fun e w' => e = .returned (.bool true) ∧ Below w.heap.size w w' := by
  go_enter Try.func15, Try.ntmps15
  go_wp2_with fail
  refine (encode_any _ [300] 1 _ (seg64_one w 300 (by decide) (by decide)) (by decide)).mono ?_
  rintro e w1 ⟨v, rfl, hown, hb⟩
  obtain ⟨hn, a, cap, rfl, hseg, hblk, _, _⟩ := own_seg hown (M := 255) (by decide) (encA_bd _ (by intro z hz; simp at hz; subst hz; decide))
  go_wp2_with fail
  refine (decode_any a (encA [300]) cap _ hseg (by decide)).mono ?_
  rw [dec300]
  rintro e w2 ⟨rfl, hb2⟩
  go_wp2
  go_ret
  have hs1 := hb.size
  simp at hs1
  exact ⟨rfl, ((Below.refl _ _).alloc (Nat.le_refl _) _).trans ((hb.mono (by simp)).trans (hb2.mono (by omega)))⟩

end Go.Proofs.Ytmpbaabmpcejdab
