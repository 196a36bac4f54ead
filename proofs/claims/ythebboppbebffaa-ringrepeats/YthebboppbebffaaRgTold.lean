
import Derived.Test.YthebboppbebffaaRgAwk
import Derived.Deep.RegionHeld3
namespace Go.Proofs.Ythebboppbebffaa
open Go.RowKit
set_option linter.unusedVariables false

set_option maxRecDepth 100000 in
set_option maxHeartbeats 4000000 in
theorem told6_any {b bx S : Nat} {F G : Nat → Prop} {L : List Int} (w : World) (h : RP w b F S L) (hw : WR w bx G S L) (hl : L.length ≤ 70368744177664) (hS : S ≤ 32768) :
    Calls Try.prog 13 #[.pointer (some ⟨b, 0, none⟩), .pointer (some ⟨bx, 0, none⟩)] w fun e w' => e = .returned (.bool true) ∧ Below w.heap.size w w' := by
  obtain ⟨a, cap, c0, c1⟩ := hw.cells
  have hlt : bx < w.heap.size := hw.lt bx hw.has
  have C1 : Hid (∀ W, Below w.heap.size w W → Calls Try.prog 16 #[.pointer (some ⟨b, 0, none⟩)] W fun e w' => e = .returned (.int .i64 (heldN S L : Int)) ∧ Below w.heap.size w w') := fun W hW => by
    refine (pheld_any (h.old hW) (by omega)).mono ?_
    rintro e w' ⟨rfl, hb⟩
    exact ⟨rfl, hW.trans (hb.mono hW.size)⟩
  have C2 : Hid (∀ W, Below w.heap.size w W → Calls Try.prog 25 #[.pointer (some ⟨bx, 0, none⟩)] W fun e w' => e = .returned (.int .i64 (heldN S L : Int)) ∧ Below w.heap.size w w') := fun W hW => by
    refine (wheld_any (hw.old hW) (by omega) hS).mono ?_
    rintro e w' ⟨rfl, hb⟩
    exact ⟨rfl, hW.trans (hb.mono hW.size)⟩
  have C3 : Hid (∀ W, Below w.heap.size w W → Calls Try.prog 15 #[.pointer (some ⟨b, 0, none⟩)] W fun e w' => e = .returned (.int .i64 (L.length : Int)) ∧ Below w.heap.size w w') := fun W hW => by
    refine (ptotal_any (h.old hW) (by omega)).mono ?_
    rintro e w' ⟨rfl, hb⟩
    exact ⟨rfl, hW.trans (hb.mono hW.size)⟩
  have C4 : Hid (∀ W, Below w.heap.size w W → Calls Try.prog 22 #[.pointer (some ⟨b, 0, none⟩)] W fun e w' => e = .returned (.int .i64 (S : Int)) ∧ Below w.heap.size w w') := fun W hW => by
    refine (proom_any (h.old hW) (by omega)).mono ?_
    rintro e w' ⟨rfl, hb⟩
    exact ⟨rfl, hW.trans (hb.mono hW.size)⟩
  have HC : Hid (∀ W, Below w.heap.size w W → W.cell? ⟨bx, 0, none⟩ = some (.int .i64 (S : Int)) ∧ W.cell? ⟨bx, 1, none⟩ = some (.slice a L.length cap)) := fun W hW => ⟨(hW.cell (p := ⟨bx, 0, none⟩) hlt).trans c0, (hW.cell (p := ⟨bx, 1, none⟩) hlt).trans c1⟩
  have bt0 : Below w.heap.size w w.drew := (Below.refl _ _).drew
  have hcd := HC.out _ bt0
  have hcd0 := hcd.1
  have hcd1 := hcd.2
  clear h hw c0 c1 hcd
  generalize heldN S L = hN at *
  go_enter Try.func13, Try.ntmps13
  go_wp2_with fail
  go_region_held3 (fun w' => w'.cell? ⟨bx, 0, none⟩ = some (.int .i64 (S : Int)) ∧ w'.cell? ⟨bx, 1, none⟩ = some (.slice a L.length cap))
    (first | (exact HC.out _ (by assumption)) | (exact ⟨hcd0, hcd1⟩) | go_keep)
    (first
      | (go_at_call 16; refine (C1.out _ (by assumption)).mono ?_; rintro e wa ⟨rfl, bta⟩)
      | (go_at_call 25; refine (C2.out _ (by assumption)).mono ?_; rintro e wb ⟨rfl, btb⟩)
      | (go_at_call 15; refine (C3.out _ (by assumption)).mono ?_; rintro e wc ⟨rfl, btc⟩)
      | (go_at_call 22; refine (C4.out _ (by assumption)).mono ?_; rintro e wd ⟨rfl, btd⟩))
  all_goals
    go_wp2
    go_ret
    exact ⟨rfl, by assumption⟩
end Go.Proofs.Ythebboppbebffaa
