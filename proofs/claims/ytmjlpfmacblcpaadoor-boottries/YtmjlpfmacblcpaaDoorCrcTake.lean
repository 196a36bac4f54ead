import Derived.Test.YtmjlpfmacblcpaaDoorCrcWord
import Derived.Test.YtmjlpfmacblcpaaDoorSeg
namespace Go.Proofs.YtmjlpfmacblcpaaDoor
open Go.RowKit
set_option linter.unusedVariables false
set_option linter.unusedSimpArgs false
/-- The table lies where the program's text lays it. -/
abbrev Tab (w : World) : Prop := SegK .u32 4294967295 w (some ⟨1, 0, none⟩) halfL
theorem Tab.cell {w : World} (h : Tab w) (k : Nat) (hk : k < 16) : w.cell? ⟨1, k, none⟩ = some (.int .u32 (wI (onN 4 (BitVec.ofNat 32 k)))) := by
  obtain ⟨b, off, e, hc⟩ := h.at_ k hk
  cases e
  rw [Nat.zero_add] at hc
  rw [hc, ← half_tab ⟨k, hk⟩]
  rfl
theorem wI_and15 (a : W32) : bits .and .u32 (wI a) 15 = ((a.toNat % 16 : Nat) : Int) := by
  rw [show (15 : Int) = wI 15#32 from rfl, wI_and, and15]
  unfold wI
  simp
  omega
theorem wI_shr4 (a : W32) : wI a / (16 : Int) = wI (a >>> 4) := by
  have := wI_shr a 4
  simpa using this
theorem wI_byte (x : Int) (h0 : 0 ≤ x) (h1 : x ≤ 255) : wI (bW x) = x := by
  unfold wI bW
  simp
  omega

set_option maxRecDepth 100000 in
set_option maxHeartbeats 400000 in
theorem take_any (r : W32) (x : Int) (w : World) (h : Tab w) (h0 : 0 ≤ x) (h1 : x ≤ 255) : Calls Tryd.prog 124 #[.int .u32 (wI r), .int .u8 x] w fun e w' => e = .returned (.int .u32 (wI (takeW r x))) ∧ w' = w := by
  have hx : bits .xor .u32 (wI r) x = wI (r ^^^ bW x) := by
    conv => lhs; rw [← wI_byte x h0 h1]
    exact wI_xor _ _
  generalize hs : r ^^^ bW x = s at *
  have ht : takeW r x = onN 4 (onN 4 s) := by
    unfold takeW
    rw [hs, ← onN_add]
  rw [ht]
  clear ht hs
  have k1 : s.toNat % 16 < 16 := Nat.mod_lt _ (by decide)
  have k2 : (onN 4 s).toNat % 16 < 16 := Nat.mod_lt _ (by decide)
  have a1 := wI_and15 s
  have a2 := wI_and15 (onN 4 s)
  have c1 := h.cell _ k1
  have c2 := h.cell _ k2
  have s1 := wI_shr4 s
  have s2 := wI_shr4 (onN 4 s)
  have x1 : bits .xor .u32 (wI (s >>> 4)) (wI (onN 4 (BitVec.ofNat 32 (s.toNat % 16)))) = wI (onN 4 s) := by
    rw [wI_xor, ← and15, ← onN4]
  have x2 : bits .xor .u32 (wI (onN 4 s >>> 4)) (wI (onN 4 (BitVec.ofNat 32 ((onN 4 s).toNat % 16)))) = wI (onN 4 (onN 4 s)) := by
    rw [wI_xor, ← and15, ← onN4]
  generalize s.toNat % 16 = m1 at *
  generalize (onN 4 s).toNat % 16 = m2 at *
  clear h
  go_enter Tryd.func124, Tryd.ntmps124
  go_wp2
  go_ret
  exact ⟨rfl, rfl⟩
end Go.Proofs.YtmjlpfmacblcpaaDoor
