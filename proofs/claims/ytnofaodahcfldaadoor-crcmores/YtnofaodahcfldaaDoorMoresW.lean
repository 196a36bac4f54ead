import Derived.Test.YtnofaodahcfldaaDoorCrcRun
import Derived.Test.YtnofaodahcfldaaDoorSameB
import Derived.Test.YtnofaodahcfldaaDoorPush
import Derived.Test.YtnofaodahcfldaaDoorOwnSeg
import Derived.Test.YtnofaodahcfldaaDoorCrcMake
namespace Go.Proofs.YtnofaodahcfldaaDoor
open Go.RowKit
set_option linter.unusedVariables false
set_option linter.unusedSimpArgs false

set_option maxHeartbeats 400000 in
theorem rmore_any (c : W32) (a : Option Addr) (zs : List Int) (cap : Nat) (w : World) (hs : Seg w a zs) (hl : zs.length ≤ 9223372036854775807) :
    Calls Tryd.prog 15 #[.int .u32 (wI c), .slice a zs.length cap] w fun e w' => e = .returned (.int .u32 (wI (~~~ (runW (~~~ c) zs)))) ∧ w' = w := by
  have hsg := u32_unsigned
  have hn := wI_not c
  have hn2 := wI_not (runW (~~~ c) zs)
  go_enter Tryd.func15, Tryd.ntmps15
  go_wp2_with (go_at_call 21; refine (run_any _ _ _ _ _ hs hl).mono ?_; rintro e w' ⟨rfl, hw'⟩; subst w')
  go_ret
  exact ⟨rfl, rfl⟩

set_option maxHeartbeats 1000000 in
theorem crcMores_walk (w : World) (h : Tab w) (c : Int) (h0 : 0 ≤ c) (h1 : c ≤ 4294967295) (a : Option Addr) (zs : List Int) (cap : Nat) (hs : Seg w a zs) (hc : zs.length ≤ cap) (hnil : a = none → cap = 0) (hl : zs.length ≤ 140737488351232) :
    Calls Tryd.prog 5 #[.int .u32 c, .slice a zs.length cap] w fun e w' => e = .returned (.bool true) ∧ Below w.heap.size w w' := by
  obtain ⟨x, rfl⟩ := wI_of h0 (by omega)
  obtain ⟨i0, hi, hz0, hz1, hz2⟩ := info_parts info_u8z
  go_enter Tryd.func5, Tryd.ntmps5
  go_wp2_with (at_builtin; refine wpList_append_seg rfl (.const (.slice none 0 0)) (.tmp 7) 22 rfl w.heap.size 5 i0 (.int .u8 0) 1 Tryd.underlying22 hi hz0 hz1 hz2 rfl (World.ownsRow_nil _ _ _ _) hs hnil rfl rfl (by omega) (by omega) (Nat.le_refl _) ?_; intro v' w1 hown hg hb)
  rw [List.nil_append] at hown
  obtain ⟨hn, b, cap', rfl, hseg, hblk, hcc, _⟩ := own_seg hown (M := 255) (by decide) hs.mem
  have hs1 := hs.old hb
  have t1 : Tab w1 := h.old hb
  rw [Nat.zero_add]
  clear hown hg
  go_wp2_with (first
    | (go_at_call 14; refine (more_any _ _ _ _ _ t1 hseg (by omega)).mono ?_; rintro e w' ⟨rfl, hw'⟩; subst w')
    | (go_at_call 15; refine (rmore_any _ _ _ _ _ hs1 (by omega)).mono ?_; rintro e w' ⟨rfl, hw'⟩; subst w')
    | (go_at_call 16; refine (same_any _ _ _ _ _ _ _ hseg hs1).mono ?_; rintro e w' ⟨rfl, hw'⟩; subst w'))
  go_ret
  exact ⟨by simp, hb⟩
end Go.Proofs.YtnofaodahcfldaaDoor
