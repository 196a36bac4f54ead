
import Derived.Test.YtcgaembnibnglaaCu19
import Derived.Test.YtcgaembnibnglaaSame
namespace Go.Proofs.Ytcgaembnibnglaa
open Go.RowKit Go.Shelf
set_option linter.unusedVariables false

/-! The document's SameSteps, Same: of what is the same. -/
set_option maxRecDepth 100000 in
set_option maxHeartbeats 4000000 in
theorem rsst17 (a b : Option Addr) (n ca cb : Nat) (S : List St16) (w : World) (ha : SegS w a S) (hb : SegS w b S) (hn : Hid (S.length = n)) (hl : n ≤ 5864062014805) :
    Calls Try.prog 31 #[.slice a n ca, .slice b n cb] w fun e w' => e = .returned (.bool true) ∧ Below w.heap.size w w' := by
  go_enter Try.func31, Try.ntmps31
  go_wp2_with fail
  go_loopw [13] (fun t13 wr => ∃ i : Nat, i ≤ n ∧ t13 = .int .i64 (i : Int) ∧ Below w.heap.size w wr) (fun t13 _ => n - (intOf t13).toNat)
  case atStart => exact ⟨0, by omega, rfl, Below.refl _ _⟩
  case round =>
    obtain ⟨i, hi, rfl, BR⟩ := hrel
    by_cases hin : i < n
    · have hii : (i : Int) < (n : Int) := by omega
      have hi0 : (0 : Int) ≤ (i : Int) := by omega
      have hil : i < S.length := by rw [hn.out]; exact hin
      obtain ⟨b1, o1, rfl, hT⟩ := (ha.old BR).at_ i hil
      obtain ⟨b2, o2, rfl, hU⟩ := (hb.old BR).at_ i hil
      have c0 := hT.c0
      have c1 := hT.c1
      have c2 := hT.c2
      have d0 := hU.c0
      have d1 := hU.c1
      have d2 := hU.c2
      generalize S.getD i z16 = s at *
      obtain ⟨A, C, K⟩ := s
      simp only at c0 c1 c2 d0 d1 d2
      clear hT hU
      go_wp2_with fail
      go_quiet (fail)
      have bq : Below w.heap.size w (wr.drewN nq) := below_drewN16 BR nq
      generalize wr.drewN nq = w2 at *
      clear c0 c1 c2 d0 d1 d2
      go_wp2_with fail
      go_roundw
      case rel => exact ⟨i + 1, by omega, by simp, bq⟩
      case measure => simp [intOf]; omega
    · have hk2 : i = n := by omega
      subst hk2
      have hneg : ¬ (i : Int) < (i : Int) := by omega
      go_wp2_with fail
      go_ret
      exact ⟨rfl, BR⟩
set_option maxRecDepth 100000 in
set_option maxHeartbeats 4000000 in
theorem rsame17 {sa sb : Option Addr} {n sc sd : Nat} {da db : Option Addr} {m dc dd : Nat} {xa xb : Option Addr} {k xc xd : Nat} {S : List St16} {D X : List Int} (w : World) (ha : SegS w sa S) (hb : SegS w sb S) (hn : Hid (S.length = n)) (hl : n ≤ 5864062014805) (hda : Seg w da D) (hdb : Seg w db D) (hm : Hid (D.length = m)) (hxa : Seg w xa X) (hxb : Seg w xb X) (hk : Hid (X.length = k)) :
    Calls Try.prog 14 #[ev16 sa n sc da m dc xa k xc, ev16 sb n sd db m dd xb k xd] w fun e w' => e = .returned (.bool true) ∧ Below w.heap.size w w' := by
  have hb2 := two_boxes16 w #[.slice sa n sc, .slice da m dc, .slice xa k xc] 26 #[.slice sb n sd, .slice db m dd, .slice xb k xd] 26
  obtain ⟨w2, hw2⟩ : ∃ w2, w2 = (w.alloc (.cells #[.slice sa n sc, .slice da m dc, .slice xa k xc] 26)).alloc (.cells #[.slice sb n sd, .slice db m dd, .slice xb k xd] 26) := ⟨_, rfl⟩
  simp only [← hw2] at hb2
  obtain ⟨bl, z2, qA, qB⟩ := hb2
  have CS := rsst17 sa sb n sc sd S w2 (ha.old bl) (hb.old bl) hn hl
  obtain ⟨bA, hbA⟩ : ∃ bA, bA = w.heap.size := ⟨_, rfl⟩
  obtain ⟨bB, hbB⟩ : ∃ bB, bB = w.heap.size + 1 := ⟨_, rfl⟩
  have HBL : Hid (Below w.heap.size w w2) := bl
  have HF : Hid (∀ W, Below w2.heap.size w2 W → (W.cell? ⟨bA, 1, none⟩ = some (.slice da m dc) ∧ W.cell? ⟨bA, 2, none⟩ = some (.slice xa k xc)) ∧ (W.cell? ⟨bB, 1, none⟩ = some (.slice db m dd) ∧ W.cell? ⟨bB, 2, none⟩ = some (.slice xb k xd)) ∧ ((convert 24 9 (.slice da m dc)).run Try.prog W = .ok (.string (strOfNums D)) W ∧ (convert 24 9 (.slice db m dd)).run Try.prog W = .ok (.string (strOfNums D)) W) ∧ ((convert 24 9 (.slice xa k xc)).run Try.prog W = .ok (.string (strOfNums X)) W ∧ (convert 24 9 (.slice xb k xd)).run Try.prog W = .ok (.string (strOfNums X)) W)) := fun W hW => by
    have qA' := qA
    have qB' := qB
    rw [← hbA] at qA'
    rw [← hbB] at qB'
    have h1 := (hW.block bA (by omega)).trans qA'
    have h2 := (hW.block bB (by omega)).trans qB'
    have b0 : Below w.heap.size w W := bl.trans (hW.mono bl.size)
    refine ⟨⟨three_cell1 h1, three_cell2 h1⟩, ⟨three_cell1 h2, three_cell2 h2⟩, ⟨?_, ?_⟩, ?_, ?_⟩
    · rw [← hm.out]; exact run_conv_segS (P := Try.prog) _ (hda.old b0) 24 5 9 Try.underlying24 Try.underlying5 Try.underlying9
    · rw [← hm.out]; exact run_conv_segS (P := Try.prog) _ (hdb.old b0) 24 5 9 Try.underlying24 Try.underlying5 Try.underlying9
    · rw [← hk.out]; exact run_conv_segS (P := Try.prog) _ (hxa.old b0) 24 5 9 Try.underlying24 Try.underlying5 Try.underlying9
    · rw [← hk.out]; exact run_conv_segS (P := Try.prog) _ (hxb.old b0) 24 5 9 Try.underlying24 Try.underlying5 Try.underlying9
  have a0 := three_cell0 qA
  have a1 := three_cell0 qB
  rw [hw2] at a0 a1 CS
  have HW2 : Hid ((w.alloc (.cells #[.slice sa n sc, .slice da m dc, .slice xa k xc] 26)).alloc (.cells #[.slice sb n sd, .slice db m dd, .slice xb k xd] 26) = w2) := hw2.symm
  have HBA : Hid (w.heap.size = bA) := hbA.symm
  have HBB : Hid (w.heap.size + 1 = bB) := hbB.symm
  generalize strOfNums D = sD at *
  generalize strOfNums X = sX at *
  clear hw2 hbA hbB qA qB z2 ha hb hda hdb hxa hxb bl
  unfold ev16
  go_enter Try.func14, Try.ntmps14
  go_wp2_with (first
    | (go_at_call 31; refine CS.mono ?_; rintro e3 w3 ⟨rfl, b3⟩; clear CS; rw [HW2.out] at b3; obtain ⟨⟨f1, f2⟩, ⟨g1, g2⟩, ⟨y1, y2⟩, y3, y4⟩ := HF.out w3 b3; rw [← HBA.out] at f1 f2; rw [← HBB.out] at g1 g2; have HB3 : Hid (Below w2.heap.size w2 w3) := b3; clear b3))
  go_ret
  exact ⟨rfl, HBL.out.trans (HB3.out.mono HBL.out.size)⟩
end Go.Proofs.Ytcgaembnibnglaa
