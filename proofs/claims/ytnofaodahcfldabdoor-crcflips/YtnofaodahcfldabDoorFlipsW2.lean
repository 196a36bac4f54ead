import Derived.Test.YtnofaodahcfldabDoorFlipsW
namespace Go.Proofs.YtnofaodahcfldabDoor
open Go.RowKit
set_option linter.unusedVariables false
set_option linter.unusedSimpArgs false

set_option maxHeartbeats 1000000 in
theorem flipped_none (w : World) (a : Option Addr) (zs : List Int) (cap : Nat) (hs : Seg w a zs) (hnil : a = none → cap = 0) (hz : zs.length = 0) (gb cb n : Nat) :
    Calls Tryd.prog 14 #[.slice a zs.length cap, .slice (some ⟨gb, 0, none⟩) n cb] w fun e w' => ∃ q c, e = .returned (.tuple #[.slice q zs.length c, .int .i64 0]) ∧ Seg w' q zs ∧ Below w.heap.size w w' := by
  obtain ⟨i0, hi, hz0, hz1, hz2⟩ := info_parts info_u8z
  go_enter Tryd.func14, Tryd.ntmps14
  go_wp2_with (at_builtin; refine wpList_append_seg rfl (.const (.slice none 0 0)) (.tmp 10) 26 rfl w.heap.size 5 i0 (.int .u8 0) 1 Tryd.underlying26 hi hz0 hz1 hz2 rfl (World.ownsRow_nil _ _ _ _) hs hnil rfl rfl (by omega) (by omega) (Nat.le_refl _) ?_; intro v' w1 hown hg hb; rw [List.nil_append, Nat.zero_add] at hown; obtain ⟨hn, b, cap', rfl, hseg, hblk, hcc, hn4⟩ := own_seg hown (M := 255) (by decide) hs.mem; clear hown hg hn hblk hn4)
  go_loopw [7, 8] (fun tn ti wr => tn = .int .i64 0 ∧ ti = .int .i64 0 ∧ wr = w1) (fun _ ti _ => 0)
  case atStart => exact ⟨rfl, rfl, rfl⟩
  case round =>
    obtain ⟨rfl, rfl, rfl⟩ := hrel
    by_cases hn : 0 < n
    · have hn' : (0 : Int) < (n : Int) := by omega
      go_wp2
      go_ret2
      exact ⟨b, cap', by rw [hz]; rfl, hseg, hb⟩
    · have hn' : decide ((0 : Int) < (n : Int)) = false := by simp; omega
      go_wp2
      go_ret2
      exact ⟨b, cap', by rw [hz]; rfl, hseg, hb⟩

theorem flipped_any (w : World) (a : Option Addr) (zs : List Int) (cap : Nat) (hs : Seg w a zs) (hnil : a = none → cap = 0) (hl : zs.length ≤ 140737488351232) (gb cb : Nat) (us : List Int) (hu : SegK .u64 18446744073709551615 w (some ⟨gb, 0, none⟩) us) (hu3 : us.length ≤ 3) :
    Calls Tryd.prog 14 #[.slice a zs.length cap, .slice (some ⟨gb, 0, none⟩) us.length cb] w fun e w' => ∃ q c js, e = .returned (.tuple #[.slice q zs.length c, .int .i64 ((js : List Nat).length : Nat)]) ∧ ∃ ys : List Int, ys.length = zs.length ∧ Seg w' q ys ∧ js.Nodup ∧ (∀ j ∈ js, j < 8 * zs.length) ∧ js.length ≤ us.length ∧ sumW ys = sumW zs ^^^ bitsX (8 * zs.length) js ∧ Below w.heap.size w w' := by
  by_cases hz : zs.length = 0
  · have h := flipped_none w a zs cap hs hnil hz gb cb us.length
    refine h.mono ?_
    rintro e w' ⟨q, c, rfl, hq, hb⟩
    exact ⟨q, c, [], rfl, zs, rfl, hq, by simp, by simp, by simp, by simp [bitsX], hb⟩
  · exact flipped_some w a zs cap hs hnil hl (by omega) gb cb us hu hu3
end Go.Proofs.YtnofaodahcfldabDoor
