import Derived.Test.YtodioefbfchckaaPq
import Derived.Test.YtodioefbfchckaaPu
import Derived.Test.YtodioefbfchckaaPp
import Derived.Test.YtodioefbfchckaaPv
import Derived.Test.YtodioefbfchckaaProg
import Derived.Test.YtodioefbfchckaaPa
import Derived.WalkKit
import Derived.WalkSpells
import Derived.WalkLawsBesides
import Derived.Deep.QuietTactic
import Derived.BigQuiet
namespace Go.Proofs.Ytodioefbfchckaa
open Go.RowKit Go.Shelf
set_option linter.unusedVariables false

/-! The document's SameSteps, Same: of what is the same. -/
set_option maxRecDepth 100000 in
set_option maxHeartbeats 4000000 in
theorem rsst17 (a b : Option Addr) (n ca cb : Nat) (S : List St16) (w : World) (ha : SegS w a S) (hb : SegS w b S) (hn : Hid (S.length = n)) (hl : n ≤ 5864062014805) :
    Calls Try.prog 23 #[.slice a n ca, .slice b n cb] w fun e w' => e = .returned (.bool true) ∧ Below w.heap.size w w' := by
  go_enter Try.func23, Try.ntmps23
  go_wp2_with fail
  go_loopw [13] (fun t13 wr => ∃ i : Nat, i ≤ n ∧ t13 = .int .i64 (i : Int) ∧ Below w.heap.size w wr) (fun t13 _ => n - (intOf t13).toNat)
  case atStart => exact ⟨0, by omega, rfl, Below.refl _ _⟩
  case round =>
    obtain ⟨i, hi, rfl, BR⟩ := hrel
    by_cases hin : i < n
    · have hii : (i : Int) < (n : Int) := by omega
      have hi0 : (0 : Int) ≤ (i : Int) := by omega
      have hil : i < S.length := by rw [hn.out]; exact hin
      obtain ⟨b1, o1, rfl, hT⟩ := (ha.old BR).at_ i hil
      obtain ⟨b2, o2, rfl, hU⟩ := (hb.old BR).at_ i hil
      have c0 := hT.c0
      have c1 := hT.c1
      have c2 := hT.c2
      have d0 := hU.c0
      have d1 := hU.c1
      have d2 := hU.c2
      generalize S.getD i z16 = s at *
      obtain ⟨A, C, K⟩ := s
      simp only at c0 c1 c2 d0 d1 d2
      clear hT hU
      go_wp2_with fail
      go_quiet (fail)
      have bq : Below w.heap.size w (wr.drewN nq) := below_drewN16 BR nq
      generalize wr.drewN nq = w2 at *
      clear c0 c1 c2 d0 d1 d2
      go_wp2_with fail
      go_roundw
      case rel => exact ⟨i + 1, by omega, by simp, bq⟩
      case measure => simp [intOf]; omega
    · have hk2 : i = n := by omega
      subst hk2
      have hneg : ¬ (i : Int) < (i : Int) := by omega
      go_wp2_with fail
      go_ret
      exact ⟨rfl, BR⟩
set_option maxRecDepth 100000 in
set_option maxHeartbeats 4000000 in
theorem rsame17 {sa sb : Option Addr} {n sc sd : Nat} {da db : Option Addr} {m dc dd : Nat} {xa xb : Option Addr} {k xc xd : Nat} {S : List St16} {D X : List Int} (w : World) (ha : SegS w sa S) (hb : SegS w sb S) (hn : Hid (S.length = n)) (hl : n ≤ 5864062014805) (hda : Seg w da D) (hdb : Seg w db D) (hm : Hid (D.length = m)) (hxa : Seg w xa X) (hxb : Seg w xb X) (hk : Hid (X.length = k)) :
    Calls Try.prog 12 #[ev16 sa n sc da m dc xa k xc, ev16 sb n sd db m dd xb k xd] w fun e w' => e = .returned (.bool true) ∧ Below w.heap.size w w' := by
  have hb2 := two_boxes16 w #[.slice sa n sc, .slice da m dc, .slice xa k xc] 25 #[.slice sb n sd, .slice db m dd, .slice xb k xd] 25
  obtain ⟨w2, hw2⟩ : ∃ w2, w2 = (w.alloc (.cells #[.slice sa n sc, .slice da m dc, .slice xa k xc] 25)).alloc (.cells #[.slice sb n sd, .slice db m dd, .slice xb k xd] 25) := ⟨_, rfl⟩
  simp only [← hw2] at hb2
  obtain ⟨bl, z2, qA, qB⟩ := hb2
  have CS := rsst17 sa sb n sc sd S w2 (ha.old bl) (hb.old bl) hn hl
  obtain ⟨bA, hbA⟩ : ∃ bA, bA = w.heap.size := ⟨_, rfl⟩
  obtain ⟨bB, hbB⟩ : ∃ bB, bB = w.heap.size + 1 := ⟨_, rfl⟩
  have HBL : Hid (Below w.heap.size w w2) := bl
  have HF : Hid (∀ W, Below w2.heap.size w2 W → (W.cell? ⟨bA, 1, none⟩ = some (.slice da m dc) ∧ W.cell? ⟨bA, 2, none⟩ = some (.slice xa k xc)) ∧ (W.cell? ⟨bB, 1, none⟩ = some (.slice db m dd) ∧ W.cell? ⟨bB, 2, none⟩ = some (.slice xb k xd)) ∧ ((convert 23 9 (.slice da m dc)).run Try.prog W = .ok (.string (strOfNums D)) W ∧ (convert 23 9 (.slice db m dd)).run Try.prog W = .ok (.string (strOfNums D)) W) ∧ ((convert 23 9 (.slice xa k xc)).run Try.prog W = .ok (.string (strOfNums X)) W ∧ (convert 23 9 (.slice xb k xd)).run Try.prog W = .ok (.string (strOfNums X)) W)) := fun W hW => by
    have qA' := qA
    have qB' := qB
    rw [← hbA] at qA'
    rw [← hbB] at qB'
    have h1 := (hW.block bA (by omega)).trans qA'
    have h2 := (hW.block bB (by omega)).trans qB'
    have b0 : Below w.heap.size w W := bl.trans (hW.mono bl.size)
    refine ⟨⟨three_cell1 h1, three_cell2 h1⟩, ⟨three_cell1 h2, three_cell2 h2⟩, ⟨?_, ?_⟩, ?_, ?_⟩
    · rw [← hm.out]; exact run_conv_segS (P := Try.prog) _ (hda.old b0) 23 5 9 Try.underlying23 Try.underlying5 Try.underlying9
    · rw [← hm.out]; exact run_conv_segS (P := Try.prog) _ (hdb.old b0) 23 5 9 Try.underlying23 Try.underlying5 Try.underlying9
    · rw [← hk.out]; exact run_conv_segS (P := Try.prog) _ (hxa.old b0) 23 5 9 Try.underlying23 Try.underlying5 Try.underlying9
    · rw [← hk.out]; exact run_conv_segS (P := Try.prog) _ (hxb.old b0) 23 5 9 Try.underlying23 Try.underlying5 Try.underlying9
  have a0 := three_cell0 qA
  have a1 := three_cell0 qB
  rw [hw2] at a0 a1 CS
  have HW2 : Hid ((w.alloc (.cells #[.slice sa n sc, .slice da m dc, .slice xa k xc] 25)).alloc (.cells #[.slice sb n sd, .slice db m dd, .slice xb k xd] 25) = w2) := hw2.symm
  have HBA : Hid (w.heap.size = bA) := hbA.symm
  have HBB : Hid (w.heap.size + 1 = bB) := hbB.symm
  generalize strOfNums D = sD at *
  generalize strOfNums X = sX at *
  clear hw2 hbA hbB qA qB z2 ha hb hda hdb hxa hxb bl
  unfold ev16
  go_enter Try.func12, Try.ntmps12
  go_wp2_with (first
    | (go_at_call 23; refine CS.mono ?_; rintro e3 w3 ⟨rfl, b3⟩; clear CS; rw [HW2.out] at b3; obtain ⟨⟨f1, f2⟩, ⟨g1, g2⟩, ⟨y1, y2⟩, y3, y4⟩ := HF.out w3 b3; rw [← HBA.out] at f1 f2; rw [← HBB.out] at g1 g2; have HB3 : Hid (Below w2.heap.size w2 w3) := b3; clear b3))
  go_ret
  exact ⟨rfl, HBL.out.trans (HB3.out.mono HBL.out.size)⟩
end Go.Proofs.Ytodioefbfchckaa

namespace Go.Proofs.Ytodioefbfchckaa
open Go.RowKit Go.Shelf
set_option linter.unusedVariables false

/-! faceWindow; CutterChecks. -/
set_option maxRecDepth 100000 in
set_option maxHeartbeats 8000000 in
theorem pfacew17 (pos : Int) {sa : Option Addr} {n sc : Nat} {da : Option Addr} {m dc : Nat} {xa : Option Addr} {k xc : Nat} {S : List St16} {D X : List Int} (w : World) (h : Ed17 w sa n S da m D xa k X) (nm : da = none → dc = 0) (nk : xa = none → xc = 0) :
    Calls Try.prog 16 #[wn17 pos sa n sc da m dc xa k xc] w (FwQ17 w pos S D X) := by
  have hb := two_boxes16 w #[.int .i64 pos, .slice sa n sc, .slice da m dc, .slice xa k xc] 44 #[.int .i64 0, .slice none 0 0, .slice none 0 0, .slice none 0 0] 42
  obtain ⟨w2, hw2⟩ : ∃ w2, w2 = (w.alloc (.cells #[.int .i64 pos, .slice sa n sc, .slice da m dc, .slice xa k xc] 44)).alloc (.cells #[.int .i64 0, .slice none 0 0, .slice none 0 0, .slice none 0 0] 42) := ⟨_, rfl⟩
  simp only [← hw2] at hb
  obtain ⟨bl, z2, qE, qR⟩ := hb
  obtain ⟨bE, hbE⟩ : ∃ bE, bE = w.heap.size := ⟨_, rfl⟩
  obtain ⟨bR, hbR⟩ : ∃ bR, bR = w.heap.size + 1 := ⟨_, rfl⟩
  rw [← hbE] at qE
  rw [← hbR] at qR
  have HW2 : Hid ((w.alloc (.cells #[.int .i64 pos, .slice sa n sc, .slice da m dc, .slice xa k xc] 44)).alloc (.cells #[.int .i64 0, .slice none 0 0, .slice none 0 0, .slice none 0 0] 42) = w2) := hw2.symm
  have HBE : Hid (w.heap.size = bE) := hbE.symm
  have HBR : Hid (w.heap.size + 1 = bR) := hbR.symm
  have HCE : Hid (∀ W, Below w2.heap.size w2 W → W.cell? ⟨bE, 0, none⟩ = some (.int .i64 pos) ∧ W.cell? ⟨bE, 1, none⟩ = some (.slice sa n sc) ∧ W.cell? ⟨bE, 2, none⟩ = some (.slice da m dc) ∧ W.cell? ⟨bE, 3, none⟩ = some (.slice xa k xc)) := fun W hW => four_cells ((hW.block bE (by omega)).trans qE)
  have HQR : Hid (∀ W, Below w2.heap.size w2 W → W.heap[bR]? = some (.cells #[.int .i64 0, .slice none 0 0, .slice none 0 0, .slice none 0 0] 42 (0, 0))) := fun W hW => (hW.block bR (by omega)).trans qR
  have HBL : Hid (Below w.heap.size w w2) := bl
  have HC1 : Hid (∀ W, Below w2.heap.size w2 W → Calls Try.prog 8 #[.agg #[.slice sa n sc, .slice da m dc, .slice xa k xc]] W (FaQ17 W S D X)) := fun W hW => pface17 W (h.old (bl.trans (hW.mono bl.size))) nm nk
  have HRW : Hid (w.heap.size ≤ bR ∧ bR < w2.heap.size) := ⟨by omega, by omega⟩
  clear h hw2 hbE hbR qE qR bl z2
  unfold wn17
  go_enter Try.func16, Try.ntmps16
  go_wp2
  rw [HW2.out, HBR.out, HBE.out]
  have g0 := HCE.out w2.drew ((Below.refl _ _).drew)
  refine plain_region16 (fun V => V.cell? ⟨bE, 0, none⟩ = some (.int .i64 pos) ∧ V.cell? ⟨bE, 1, none⟩ = some (.slice sa n sc) ∧ V.cell? ⟨bE, 2, none⟩ = some (.slice da m dc) ∧ V.cell? ⟨bE, 3, none⟩ = some (.slice xa k xc)) 6 (by kernel_rfl) g0 (fun hHeld => ?_)
  refine wpAnyK_take (i := 0) (v := .pointer (some ⟨bE, 0, none⟩)) rfl (by kernel_rfl) (by kernel_rfl) (by kernel_rfl) (by kernel_rfl) (fun _ _ _ h => h) (Or.inl ⟨by rfl, fun w hSw => by go_simp⟩) hHeld ?_
  simp only [List.getElem_toArray, List.getElem_cons_zero, Act.put, List.setIfInBounds_toArray, List.set_cons_zero, List.set_cons_succ]
  refine wpAnyK_take (i := 1) (v := .int .i64 pos) rfl (by kernel_rfl) (by kernel_rfl) (by kernel_rfl) (by kernel_rfl) (fun _ _ _ h => h) (Or.inl ⟨by rfl, fun w hSw => by go_simp⟩) hHeld ?_
  simp only [List.getElem_toArray, List.getElem_cons_zero, List.getElem_cons_succ, Act.put, List.setIfInBounds_toArray, List.set_cons_zero, List.set_cons_succ]
  refine wpAnyK_take (i := 2) (v := .pointer (some ⟨bE, 1, none⟩)) rfl (by kernel_rfl) (by kernel_rfl) (by kernel_rfl) (by kernel_rfl) (fun _ _ _ h => h) (Or.inl ⟨by rfl, fun w hSw => by go_simp⟩) hHeld ?_
  simp only [List.getElem_toArray, List.getElem_cons_zero, List.getElem_cons_succ, Act.put, List.setIfInBounds_toArray, List.set_cons_zero, List.set_cons_succ]
  refine wpAnyK_take (i := 3) (v := .agg #[.slice sa n sc, .slice da m dc, .slice xa k xc]) rfl (by kernel_rfl) (by kernel_rfl) (by kernel_rfl) (by kernel_rfl) (fun _ _ _ h => h) (Or.inl ⟨by rfl, fun w hSw => by go_simp⟩) hHeld ?_
  simp only [List.getElem_toArray, List.getElem_cons_zero, List.getElem_cons_succ, Act.put, List.setIfInBounds_toArray, List.set_cons_zero, List.set_cons_succ]
  have bd : Below w2.heap.size w2 w2.drew := (Below.refl _ _).drew
  refine wpAnyK_one (i := 4) (by kernel_rfl) rfl (fun K hK => ?_)
  (try simp only [List.getElem_toArray, List.getElem_cons_zero, List.getElem_cons_succ, Act.put, List.setIfInBounds_toArray, List.set_cons_zero, List.set_cons_succ])
  go_simp
  refine (HC1.out w2.drew bd).mono ?_
  rintro e3 w5 ⟨v1, v2, v3, rfl, hw, b3⟩
  have b5' : Below w2.heap.size w2 w5 := bd.trans (b3.mono (Nat.le_refl _))
  obtain ⟨p1, l1, c1, eq1⟩ := own_sl17' hw.oS
  obtain ⟨p2, l2, c2, eq2⟩ := own_sl17' hw.oD
  obtain ⟨p3, l3, c3, eq3⟩ := own_sl17' hw.oX
  have hbl := HBL.out
  have HWN : Hid (Wn17 w2.heap.size (v1, v2, v3) (pt17 S D X) w5) := hw
  have qR5 := HQR.out w5 b5'
  obtain ⟨r0, r1, r2, r3⟩ := four_cells qR5
  have f0 := four_free (i := 0) qR5
  have f1 := four_free (i := 1) qR5
  have f2 := four_free (i := 2) qR5
  have f3 := four_free (i := 3) qR5
  have HQ5 : Hid (w5.heap[bR]? = some (.cells #[.int .i64 0, .slice none 0 0, .slice none 0 0, .slice none 0 0] 42 (0, 0))) := qR5
  have HB5 : Hid (Below w.heap.size w w5) := hbl.trans (b5'.mono hbl.size)
  have HLT : Hid (∀ j, Ft17 (v1, v2, v3) j → j ≠ bR) := fun j x => by
    have h1 := HRW.out
    have := (HWN.out.lt j x).1
    omega
  clear hw b3 qR5 hbl
  simp only at eq1 eq2 eq3
  subst eq1; subst eq2; subst eq3
  refine hK.out _ _ (fun _ => HCE.out w5 b5') (fun hHeld0 => ?_)
  have hHeld := hHeld0 (by decide)
  clear hHeld0 hK K
  (try simp only [List.getElem_toArray, List.getElem_cons_zero, List.getElem_cons_succ, Act.put, List.setIfInBounds_toArray, List.set_cons_zero, List.set_cons_succ])
  refine wpAnyK_one (i := 5) (by kernel_rfl) rfl (fun K hK => ?_)
  (try simp only [List.getElem_toArray, List.getElem_cons_zero, List.getElem_cons_succ, Act.put, List.setIfInBounds_toArray, List.set_cons_zero, List.set_cons_succ])
  go_simp
  refine hK.out _ _ (fun _ => HCE.out w5 b5') (fun hHeld0 => ?_)
  have hHeld := hHeld0 (by decide)
  clear hHeld0 hK K
  (try simp only [List.getElem_toArray, List.getElem_cons_zero, List.getElem_cons_succ, Act.put, List.setIfInBounds_toArray, List.set_cons_zero, List.set_cons_succ])
  refine wpAnyK_one (i := 6) (by kernel_rfl) rfl (fun K hK => ?_)
  simp only [List.getElem_toArray, List.getElem_cons_zero, List.getElem_cons_succ, Act.put]
  go_simp
  refine hK.out _ _ (fun h => absurd rfl h) (fun _ => ?_)
  clear hK K
  refine wpAnyK_done (by kernel_rfl) ?_ _
  go_wp2
  obtain ⟨F, hF⟩ : ∃ F, F = (((w5.setCell ⟨bR, 0, none⟩ (.int .i64 pos)).setCell ⟨bR, 1, none⟩ (.slice p1 l1 c1)).setCell ⟨bR, 2, none⟩ (.slice p2 l2 c2)).setCell ⟨bR, 3, none⟩ (.slice p3 l3 c3) := ⟨_, rfl⟩
  have kF : Kp (fun j => j = bR) w5 F := by
    rw [hF]
    exact (((Kp.set (S := fun j => j = bR) rfl _).trans (Kp.set (S := fun j => j = bR) rfl _) (fun _ _ x => x)).trans (Kp.set (S := fun j => j = bR) rfl _) (fun _ _ x => x)).trans (Kp.set (S := fun j => j = bR) rfl _) (fun _ _ x => x)
  have qF : F.heap[bR]? = some (.cells #[.int .i64 pos, .slice p1 l1 c1, .slice p2 l2 c2, .slice p3 l3 c3] 42 (0, 0)) := by rw [hF]; exact four_set HQ5.out _ _ _ _
  rw [← hF]
  refine bodyPost_ret (v := .agg #[.int .i64 pos, .slice p1 l1 c1, .slice p2 l2 c2, .slice p3 l3 c3]) (results_cell_row (fn := Try.f16) (p := 2) (ty := 42) rfl _ _ bR _ _ _ _ rfl qF Try.underlying42 rfl (by kernel_rfl)) rfl ?_
  have hw5 := HWN.out.kp kF (fun j x y => HLT.out j x y)
  exact ⟨_, _, _, rfl, ⟨own_base17 hw5.oS HBL.out.size, own_base17 hw5.oD HBL.out.size, own_base17 hw5.oX HBL.out.size, hw5.sd, hw5.sx, hw5.dx⟩, HB5.out.trans (kF.below (fun j x => by have x : j = bR := x; have := HRW.out; omega) HB5.out.size)⟩
theorem wn17_seg {base : Nat} {v1 v2 v3 : Value} {S : List St16} {D X : List Int} {w : World} (h : Wn17 base (v1, v2, v3) (pt17 S D X) w) (hf : ∀ t ∈ S, Fit16 t) : ∃ sa sc da dc xa xc, v1 = .slice sa S.length sc ∧ v2 = .slice da D.length dc ∧ v3 = .slice xa X.length xc ∧ SegS w sa S := by
  obtain ⟨sa, sc, e1⟩ := own_sl17 h.oS
  obtain ⟨da, dc, e2⟩ := own_sl17 h.oD
  obtain ⟨xa, xc, e3⟩ := own_sl17 h.oX
  have h1 := h.oS
  simp only at e1 e2 e3 h1
  rw [e1] at h1
  exact ⟨sa, sc, da, dc, xa, xc, e1, e2, e3, own_segS17 h1 rfl hf⟩
end Go.Proofs.Ytodioefbfchckaa

namespace Go.Proofs.Ytodioefbfchckaa
open Go.RowKit
set_option linter.unusedVariables false

theorem info_u8' : (Try.prog.info? 5).map (fun i => (i.zero, i.size, i.bytes)) = some (some (.int .u8 0), 1, 1) := by kernel_rfl
def lentL (zs : List Int) : List Int := zs ++ [171, 172, 173, 174, 175]

theorem seg_five (w : World) : Seg (w.alloc (.cells #[.int .u8 171, .int .u8 172, .int .u8 173, .int .u8 174, .int .u8 175] 5)) (some ⟨w.heap.size, 0, none⟩) [171, 172, 173, 174, 175] := by
  refine ⟨fun i hi => ⟨w.heap.size, 0, rfl, ?_⟩, by decide, ?_⟩
  · simp only [List.length_cons, List.length_nil] at hi
    match i, hi with
    | 0, _ => simp
    | 1, _ => simp
    | 2, _ => simp
    | 3, _ => simp
    | 4, _ => simp
  · exact getD_bd (by decide) (by intro z hz; simp at hz; omega)

set_option maxRecDepth 100000 in
set_option maxHeartbeats 400000 in
theorem lend_any (a : Option Addr) (zs : List Int) (cap : Nat) (w : World) (hs : Seg w a zs) (hnil : a = none → cap = 0) (hl : zs.length ≤ 140737488351232) :
    Calls Try.prog 25 #[.slice a zs.length cap] w fun e w' => ∃ g cap', e = .returned (.tuple #[.slice (some ⟨g, 0, none⟩) (zs.length + 5) cap', .slice (some ⟨g, 0, none⟩) zs.length cap']) ∧
      w'.ownsRow w.heap.size 5 1 (.slice (some ⟨g, 0, none⟩) (zs.length + 5) cap') (zs.length + 5) ((lentL zs).map (Value.int .u8)) ∧ Below w.heap.size w w' := by
  obtain ⟨i0, hi, hz0, hz1, hz2⟩ := info_parts info_u8'
  go_enter Try.func25, Try.ntmps25
  have hm0 : (w.alloc (.cells #[] 5)).ownsRow w.heap.size 5 1 (.slice (some ⟨w.heap.size, 0, none⟩) 0 0) 0 [] := World.ownsRow_made w #[] 0 (Nat.le_refl _) (by decide) rfl
  have hb0 : Below w.heap.size w (w.alloc (.cells #[] 5)) := (Below.refl _ _).alloc (Nat.le_refl _) _
  go_wp2_with (first
    | (at_builtin; refine wpList_append_seg rfl (.tmp 5) (.tmp 6) 23 rfl w.heap.size 5 i0 (.int .u8 0) 1 Try.underlying23 hi hz0 hz1 hz2 rfl hm0 (hs.alloc _) hnil rfl rfl (by omega) (by omega) (by simp) ?_; intro v1 w1 hown1 hg1 hb1)
    | (at_builtin; refine wpList_append_seg rfl (.tmp 7) (.tmp 8) 23 rfl w.heap.size 5 i0 (.int .u8 0) 1 Try.underlying23 hi hz0 hz1 hz2 rfl (hown1.alloc _) (seg_five w1) (by intro h; cases h) rfl rfl (by simp; omega) (by simp; omega) (by have := hb1.size; simp at this ⊢; omega) ?_; intro v2 w2 hown2 hg2 hb2))
  obtain ⟨g, cap', rfl, hc2, hg, hgs⟩ := own_shape hown2 (by simp)
  have hcc : (zs.length : Int) ≤ (cap' : Int) := by simp at hc2; omega
  have hs1 := hb1.size
  have hbb : Below w.heap.size w w2 := hb0.trans (hb1.trans (((Below.refl _ _).alloc (by simp at hs1; omega) _).trans hb2))
  have hown3 : w2.ownsRow w.heap.size 5 1 (.slice (some ⟨g, 0, none⟩) (zs.length + 5) cap') (zs.length + 5) ((lentL zs).map (Value.int .u8)) := by
    have := hown2
    simp only [List.nil_append, Nat.zero_add, ← List.map_append] at this
    exact this
  clear hown2 hown1 hg1 hg2 hb1 hb2
  have e5 : 0 + zs.length + ([171, 172, 173, 174, 175] : List Int).length = zs.length + 5 := by simp
  rw [e5]
  clear e5 hc2
  go_region
  go_wp2
  go_ret2
  exact ⟨g, cap', rfl, hown3, hbb.drew⟩

theorem lent_bd {zs : List Int} (h : ∀ z ∈ zs, 0 ≤ z ∧ z ≤ 255) : ∀ z ∈ lentL zs, 0 ≤ z ∧ z ≤ 255 := by
  intro z hz
  unfold lentL at hz
  rw [List.mem_append] at hz
  rcases hz with hz | hz
  · exact h z hz
  · simp at hz; omega

set_option maxRecDepth 100000 in
/-- The longer list is as Lend made it. -/
theorem kept_any (a b : Option Addr) (xs zs : List Int) (ca cap : Nat) (w : World) (hx : Seg w b xs) (hs : Seg w a zs) (hnil : a = none → cap = 0) (hl : zs.length ≤ 140737488351232) :
    Calls Try.prog 28 #[.slice b xs.length ca, .slice a zs.length cap] w fun e w' => e = .returned (.bool (xs == lentL zs)) ∧ Below w.heap.size w w' := by
  go_enter Try.func28, Try.ntmps28
  go_wp2_with fail
  refine (lend_any a zs cap _ hs hnil hl).mono ?_
  rintro e w1 ⟨g, cap', rfl, hown, hb⟩
  obtain ⟨hn, a', c', hv, hseg, _, _, _⟩ := own_seg hown (M := 255) (by decide) (lent_bd hs.mem)
  have ha : a' = some ⟨g, 0, none⟩ := by simp at hv; exact hv.1.symm
  subst ha
  clear hv
  have hx1 := hx.old hb
  go_wp2_with fail
  refine (bsame_any b (some ⟨g, 0, none⟩) xs (lentL zs) ca cap' _ hx1 hseg).mono ?_
  rintro e w2 ⟨rfl, hw2⟩
  subst w2
  go_wp2
  go_ret
  exact ⟨rfl, hb⟩
end Go.Proofs.Ytodioefbfchckaa

namespace Go.Proofs.Ytodioefbfchckaa
open Go.RowKit
set_option linter.unusedVariables false

theorem own_less {w : World} {base n g cap : Nat} {e : TypeId} {xs : List Value} {y : Value} (h : w.ownsRow base e 1 (.slice (some ⟨g, 0, none⟩) (n + 1) cap) (n + 1) (xs ++ [y])) : w.ownsRow base e 1 (.slice (some ⟨g, 0, none⟩) n cap) n xs := by
  have hl : xs.length = n := by have := h.1; simp at this; omega
  refine ⟨by omega, ?_⟩
  rcases h.2 with ⟨h0, _⟩ | ⟨g', cap', cur, hv, hb, hg, hc, hm, hs, ht⟩
  · cases h0
  · simp only [Value.slice.injEq, Option.some.injEq, Addr.mk.injEq, and_true, true_and] at hv
    obtain ⟨rfl, rfl⟩ := hv
    refine .inr ⟨g, cap, cur, rfl, hb, hg, by omega, hm, hs, ?_⟩
    have h2 := congrArg (List.take n) ht
    rw [List.take_take, List.take_append_of_le_length (by omega), List.take_of_length_le (by omega : xs.length ≤ n)] at h2
    rw [Nat.mul_one] at h2 ⊢
    rw [Nat.min_eq_left (by omega)] at h2
    exact h2

theorem own_take {w : World} {base m l g cap : Nat} {e : TypeId} {xs : List Value} (h : w.ownsRow base e 1 (.slice (some ⟨g, 0, none⟩) m cap) m xs) (hl : l ≤ m) : w.ownsRow base e 1 (.slice (some ⟨g, 0, none⟩) l cap) l (xs.take l) := by
  have hx : xs.length = m := by have := h.1; simp at this; omega
  refine ⟨by simp; omega, ?_⟩
  rcases h.2 with ⟨h0, _⟩ | ⟨g', cap', cur, hv, hb, hg, hc, hm, hs, ht⟩
  · cases h0
  · simp only [Value.slice.injEq, Option.some.injEq, Addr.mk.injEq, and_true, true_and] at hv
    obtain ⟨rfl, rfl⟩ := hv
    refine .inr ⟨g, cap, cur, rfl, hb, hg, by omega, hm, hs, ?_⟩
    rw [← ht, List.take_take, Nat.mul_one, Nat.mul_one, Nat.min_eq_left hl]

/-- An append of one cell onto a row of the call's own: the row itself stays; the new one is at its place, or in a new block. -/
theorem run_push_st {P : Program} (t ty : TypeId) (base : Nat) (e : TypeId) (i : TypeInfo) (z : Value) (bytes : Nat) (ht : P.underlying t = some (.slice e)) (hi : P.info? e = some i) (hz : i.zero = some z)
    (hsize : i.size = 1) (hby : i.bytes = bytes) (hzs : z.cells.size = 1)
    (w0 : World) (y : Value) (hy : y.oneCell' = true) {v : Value} {n : Nat} {xs : List Value} (hown : w0.ownsRow base e 1 v n xs)
    (h63 : n + 1 ≤ 140737488355328) (hbytes : (n + 1) * bytes ≤ 140737488355328) (hbase : base ≤ w0.heap.size) :
    ∃ v' w', (Builtin.append_ #[t, t] ty #[v, .slice (some ⟨w0.heap.size, 0, none⟩) 1 1]).run P (w0.alloc (.cells #[y] e)) = .ok v' w' ∧ w'.ownsRow base e 1 v' (n + 1) (xs ++ [y]) ∧ w0.grownBy w' v.ownBlock ∧
      w'.ownsRow base e 1 v n xs ∧ ((∃ g c, v = .slice (some ⟨g, 0, none⟩) n c ∧ v' = .slice (some ⟨g, 0, none⟩) (n + 1) c) ∨ ∃ g, v'.ownBlock = some g ∧ w0.heap.size ≤ g) := by
  have hown1 := hown.alloc (.cells #[y] e)
  have hcell := cell_one_new w0 y e
  have h1c : ∀ u ∈ [y], u.oneCell' = true := by intro u hu; simp at hu; subst hu; exact hy
  obtain ⟨v', w', hr, h1, h2, _⟩ := run_append_own (P := P) (w0.alloc (.cells #[y] e)) base t ty e i z 1 bytes ht hi hz hsize hby hzs (by decide) v n xs hown1 ⟨w0.heap.size, 0, none⟩ 1 1 [y] rfl hcell h1c (by unfold maxLen; omega) hbytes (by simp; omega)
  refine ⟨v', w', hr, h1, grownBy_trans (World.grownBy_alloc w0 _ _) h2, ?_⟩
  subst hby
  rcases hown.2 with ⟨rfl, rfl⟩ | ⟨g, cap, cur, rfl, hbg, hg, hnc, hcm, hcs, htake⟩
  · have hx : xs = [] := List.eq_nil_of_length_eq_zero (by simpa using hown.1)
    subst hx
    have hr2 := run_append_nil (P := P) (w0.alloc (.cells #[y] e)) t ty e i z ht hi hz ⟨w0.heap.size, 0, none⟩ 1 1 [y] (by rw [hsize]; rfl) hcell (by decide) (by decide) (by simp only [Nat.zero_add] at hbytes; omega)
    rw [hr] at hr2
    simp only [Result.ok.injEq] at hr2
    obtain ⟨rfl, rfl⟩ := hr2
    exact ⟨World.ownsRow_nil _ _ _ _, .inr ⟨_, rfl, by simp⟩⟩
  · by_cases hroom : n + 1 ≤ cap
    · have hg1 : (w0.alloc (.cells #[y] e)).heap[g]? = some (.cells cur e (0, 0)) := by
        rw [Below.heap_alloc _ _ _ (Array.getElem?_eq_some_iff.1 hg).1]; exact hg
      have hr2 := run_append_room (P := P) (w0.alloc (.cells #[y] e)) t ty e i ht hi g n cap cur hg1 ⟨w0.heap.size, 0, none⟩ 1 1 [y] (by rw [hsize]; rfl) hcell h1c hroom (by rw [hsize]; simp; omega)
      rw [hr] at hr2
      simp only [Result.ok.injEq] at hr2
      obtain ⟨rfl, rfl⟩ := hr2
      exact ⟨own_less h1, .inl ⟨g, cap, rfl, rfl⟩⟩
    · have hr2 := run_append_grow (P := P) (w0.alloc (.cells #[y] e)) t ty e i z ht hi hz ⟨g, 0, none⟩ n cap xs (by rw [hsize]; exact hown.1) (hown1.cells (g := g) rfl) ⟨w0.heap.size, 0, none⟩ 1 1 [y] (by rw [hsize]; rfl) hcell (by omega) (by omega) (growslice_fits (by omega) hbytes)
      rw [hr] at hr2
      simp only [Result.ok.injEq] at hr2
      obtain ⟨rfl, rfl⟩ := hr2
      refine ⟨?_, .inr ⟨_, rfl, by simp⟩⟩
      exact World.ownsRow.alloc (w := (w0.alloc (.cells #[y] e)).drew) hown1 _

theorem wpList_push_st {P : Program} {ops : Array Oper} {rest : List Oper} {o : Oper} {a : Act} {Q : Exit → Act → World → Prop} (hgd : o.guard = none) (s x : Operand) (t : TypeId)
    (ho : o.op = .call { callee := .builtin .append, args := #[s, x], argTypes := #[t, t] })
    (base : Nat) (e : TypeId) (i : TypeInfo) (z : Value) (bytes : Nat) (ht : P.underlying t = some (.slice e)) (hi : P.info? e = some i) (hz : i.zero = some z)
    (hsize : i.size = 1) (hby : i.bytes = bytes) (hzs : z.cells.size = 1)
    (w0 : World) (y : Value) (hy : y.oneCell' = true) {v : Value} {n : Nat} {xs : List Value} (hown : w0.ownsRow base e 1 v n xs) (hs : a.eval s = v) (hx : a.eval x = .slice (some ⟨w0.heap.size, 0, none⟩) 1 1)
    (h63 : n + 1 ≤ 140737488355328) (hbytes : (n + 1) * bytes ≤ 140737488355328) (hbase : base ≤ w0.heap.size)
    (h : ∀ (g c : Nat) (w' : World), w'.ownsRow base e 1 (.slice (some ⟨g, 0, none⟩) (n + 1) c) (n + 1) (xs ++ [y]) → w0.grownBy w' v.ownBlock → w'.ownsRow base e 1 v n xs → (v = .slice (some ⟨g, 0, none⟩) n c ∨ w0.heap.size ≤ g) → wpList P ops Q rest (a.put o.dst (.slice (some ⟨g, 0, none⟩) (n + 1) c)) w') : wpList P ops Q (o :: rest) a (w0.alloc (.cells #[y] e)) := by
  obtain ⟨v', w', hr, h2, h3, h4, h5⟩ := run_push_st (P := P) t o.type base e i z bytes ht hi hz hsize hby hzs w0 y hy hown h63 hbytes hbase
  obtain ⟨g, c, rfl, _⟩ := own_shape h2 (by omega)
  refine wpList_plain hgd fun K hK => ?_
  unfold Oper.wp execOp
  simp only [ho, resolve, invoke, builtin, Sem.run_bind, Sem.run_pure, Result.andThen_ok, List.map_toArray, List.map_cons, List.map_nil, hs, hx, hr]
  refine hK _ _ (h g c w' h2 h3 h4 ?_)
  rcases h5 with ⟨g', c', e1, e2⟩ | ⟨g', e1, e2⟩
  · cases e2; exact .inl e1
  · cases e1; exact .inr e2
end Go.Proofs.Ytodioefbfchckaa
