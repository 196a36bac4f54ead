
import Derived.Test.YtaipfcfmhdigfaaLzI
import Derived.Laws.BytesArg
import Derived.Lib.SlBytesConst
import Derived.Lib.SmallJoins
namespace Go.Proofs.Ytaipfcfmhdigfaa
open Go.RowKit
set_option linter.unusedVariables false

theorem run_conv_seg7 {P : Program} {w : World} {a : Option Addr} {zs : List Int} (cap : Nat) (h : Seg w a zs) (src e dst : TypeId) (hs : P.underlying src = some (.slice e)) (he : P.underlying e = some (.int .u8)) (hd : P.underlying dst = some .string) :
    (convert src dst (.slice a zs.length cap)).run P w = .ok (.string (strOfNums zs)) w := by
  by_cases hz : 0 < zs.length
  · obtain ⟨b, off, rfl, _⟩ := h.at_ 0 hz
    refine run_convert_bytes_arg w src e hs he b off zs.length cap zs rfl (fun i hi => ?_) dst hd
    obtain ⟨b', off', hb, hc⟩ := h.at_ i hi
    cases hb
    exact hc
  · have : zs = [] := List.eq_nil_of_length_eq_zero (by omega)
    subst this
    cases a with
    | none => exact run_convert_bytes_nil w src e hs he _ _ dst hd
    | some x =>
      rw [run_convert_bytes_string w src dst e _ _ cap hs he hd]
      have hl : (loadCells x 0).run P w = .ok (([] : List Int).map (Value.int .u8)).toArray w := by simp [loadCells, loadCellsFrom]
      have := run_bytesToString (P := P) w x 0 cap [] hl
      exact this
theorem seg_litM7 (w : World) (zs : List Int) (fr : Nat × Nat) (hz : ∀ z ∈ zs, 0 ≤ z ∧ z ≤ 255) : Seg (w.alloc (.cells (zs.map (Value.int .u8)).toArray 5 fr)) (some ⟨w.heap.size, 0, none⟩) zs := by
  refine ⟨fun i hi => ⟨w.heap.size, 0, rfl, ?_⟩, by decide, getD_bd (by decide) hz⟩
  rw [Nat.zero_add, World.cell?_alloc_mark]
  simp [List.getD, hi]
def abc9 : List Int := [97, 98, 99, 97, 98, 99, 97, 98, 99]
theorem abc_parse : parse7 abc9 100 10 false = [⟨97, 0, 0⟩, ⟨98, 0, 0⟩, ⟨99, 0, 0⟩, ⟨0, 6, 3⟩] := by kernel_rfl
theorem abc_check : check7 100 [⟨97, 0, 0⟩, ⟨98, 0, 0⟩, ⟨99, 0, 0⟩, ⟨0, 6, 3⟩] = (0, 0) := by kernel_rfl
theorem abc_expand : xpd7 100 [⟨97, 0, 0⟩, ⟨98, 0, 0⟩, ⟨99, 0, 0⟩, ⟨0, 6, 3⟩] = abc9 := by kernel_rfl
theorem abc_str : strOfNums abc9 = { data := #[97, 98, 99, 97, 98, 99, 97, 98, 99] } := by kernel_rfl
set_option maxRecDepth 100000 in
set_option maxHeartbeats 2000000 in
theorem lives7 (w : World) : Calls Try.prog 9 #[] w fun e w' => e = .returned (.bool true) ∧ Below w.heap.size w w' := by
  have hbd : ∀ z ∈ abc9, 0 ≤ z ∧ z ≤ 255 := by decide
  obtain ⟨wA, hwA⟩ : ∃ wA, wA = w.alloc (.cells (abc9.map (Value.int .u8)).toArray 5 (9, 10)) := ⟨_, rfl⟩
  have sA : Seg wA (some ⟨w.heap.size, 0, none⟩) abc9 := by rw [hwA]; exact seg_litM7 w abc9 _ hbd
  have bA : Below w.heap.size w wA := by rw [hwA]; exact (Below.refl _ _).alloc (Nat.le_refl _) _
  have HC := Lib.run_convert_bytes_const (P := Try.prog) w 32 5 #[.int .u8 97, .int .u8 98, .int .u8 99, .int .u8 97, .int .u8 98, .int .u8 99, .int .u8 97, .int .u8 98, .int .u8 99] 9 9 Try.underlying32 Try.underlying5
  have hwA2 : w.alloc (.cells #[.int .u8 97, .int .u8 98, .int .u8 99, .int .u8 97, .int .u8 98, .int .u8 99, .int .u8 97, .int .u8 98, .int .u8 99] 5 (9, 10)) = wA := hwA.symm
  simp only [List.size_toArray, List.length_cons, List.length_nil] at HC
  rw [hwA2] at HC
  have CP := ppar7 abc9 (some ⟨w.heap.size, 0, none⟩) 9 9 100 10 false (show _ = _ by rfl) wA sA (by omega) (by intro h; cases h) (by omega)
  rw [abc_parse, show opt7 100 10 = 0 by decide] at CP
  clear hwA hwA2 sA
  unfold look7 at CP
  go_enter Try.func9, Try.ntmps9
  go_wp2_with fail
  refine CP.mono ?_
  rintro e w1 ⟨oa, oc, rfl, O1, b1⟩
  obtain ⟨hc, hnl, _⟩ := own_factsT O1
  have s1 : SegT w1 oa [⟨97, 0, 0⟩, ⟨98, 0, 0⟩, ⟨99, 0, 0⟩, ⟨0, 6, 3⟩] := own_segT O1 rfl (by intro t ht; simp at ht; rcases ht with rfl | rfl | rfl | rfl <;> (unfold Tok7.Fit; decide))
  have CE := pexp7 100 [⟨97, 0, 0⟩, ⟨98, 0, 0⟩, ⟨99, 0, 0⟩, ⟨0, 6, 3⟩] oa 4 oc (show _ = _ by rfl) w1 s1 hc hnl (by omega)
  rw [abc_check, abc_expand] at CE
  have B1 : Below w.heap.size w w1 := bA.trans (b1.mono bA.size)
  go_wp2_with fail
  refine CE.mono ?_
  rintro e w2 ⟨ra, rc, rfl, O2, b2⟩
  have B2 : Below w.heap.size w w2 := B1.trans (b2.mono B1.size)
  have s2 := s1.old b2
  obtain ⟨g, off, rfl, ht⟩ := s2.at_ 3 (by decide)
  have ht' : TkAt w2 g (off + 3 * 3) ⟨0, 6, 3⟩ := ht
  obtain ⟨c0, c1, c2⟩ := ht'
  obtain ⟨_, a', cc, hv, sg, _⟩ := own_seg O2 (M := 255) (by decide) hbd
  cases hv
  have h1 := run_conv_seg7 (P := Try.prog) rc sg 32 5 9 Try.underlying32 Try.underlying5 Try.underlying9
  rw [abc_str] at h1
  simp only at c0 c1 c2
  have HB2 : Hid _ := B2
  have h9 : abc9.length = 9 := rfl
  rw [h9] at h1
  clear O1 O2 sg s1 s2 ht b1 b2 B1 CP CE
  rw [h9]
  go_wp2_with fail
  go_ret
  exact ⟨rfl, HB2.out⟩
end Go.Proofs.Ytaipfcfmhdigfaa
