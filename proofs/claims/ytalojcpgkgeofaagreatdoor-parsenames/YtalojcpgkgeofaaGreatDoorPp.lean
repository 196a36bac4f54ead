import Derived.Test.YtalojcpgkgeofaaGreatDoorPl
import Derived.Test.YtalojcpgkgeofaaGreatDoorPo
import Derived.Test.YtalojcpgkgeofaaGreatDoorProg
import Derived.Test.YtalojcpgkgeofaaGreatDoorPa
import Derived.WalkKit
import Derived.WalkSpells
import Derived.Laws.BytesArg
import Derived.Test.YtalojcpgkgeofaaGreatDoorPe
import Derived.Laws.ResultCell
namespace Go.Proofs.YtalojcpgkgeofaaGreatDoor
open Go.RowKit Go.Shelf
set_option linter.unusedVariables false

/-! Encode of no windows, at the document's first example. -/
def h018 : Hd18 := ⟨0, 0, 0, 0, 64, 100⟩
theorem h018_ok : h018.Ok := by unfold Hd18.Ok h018; decide
theorem h018_win : win18 h018 = 0 := by unfold win18; rw [if_pos h018_ok]; rfl
theorem opt018 : opt7 100 10 = 0 := by decide
set_option maxRecDepth 100000 in
theorem popt18 (w : World) : Calls Tryz.prog 66 #[.agg #[.int .i64 100, .int .i64 10, .bool false, .int .i64 50]] w fun e w' => e = .returned (.int .i64 0) ∧ Below w.heap.size w w' := by
  obtain ⟨wA, hwA⟩ : ∃ wA, wA = w.alloc (.cells #[.int .i64 100, .int .i64 10, .bool false, .int .i64 50] 105) := ⟨_, rfl⟩
  have cA := cb16 w #[.int .i64 100, .int .i64 10, .bool false, .int .i64 50] 105
  rw [← hwA] at cA
  obtain ⟨b4, hb4⟩ : ∃ b4, b4 = w.heap.size := ⟨_, rfl⟩
  have HWA : Hid (w.alloc (.cells #[.int .i64 100, .int .i64 10, .bool false, .int .i64 50] 105) = wA) := hwA.symm
  have HB4 : Hid (w.heap.size = b4) := hb4.symm
  have OP := popt7 100 10 false wA
  rw [opt018] at OP
  have OP : Hid (Calls Tryz.prog 95 #[.agg #[.int .i64 100, .int .i64 10, .bool false]] wA fun e w' => e = .returned (.int .i64 0) ∧ Below wA.heap.size wA w') := OP
  have HQ : Hid (∀ V, Below wA.heap.size wA V → V.cell? ⟨b4, 3, none⟩ = some (.int .i64 50)) := fun V hV => by
    have q0 := cA.cl
    rw [← hb4] at q0
    exact cell18 ((hV.block _ (Array.getElem?_eq_some_iff.1 q0).1).trans q0) rfl
  have HA : Hid (Below w.heap.size w wA) := cA.bl
  clear hwA cA hb4
  go_enter Tryz.func66, Tryz.ntmps66
  go_wp2_with fail
  rw [HWA.out, HB4.out]
  refine OP.out.mono ?_
  rintro e1 w1 ⟨rfl, b1⟩
  have c3 := HQ.out w1 b1
  go_wp2_with fail
  go_ret
  exact ⟨rfl, HA.out.trans (b1.mono HA.out.size)⟩
set_option maxRecDepth 100000 in
theorem pmak18 (w : World) : Calls Tryz.prog 67 #[.agg #[.int .i64 0, .int .i64 0, .int .u32 0, .int .u32 0, .int .i64 64, .int .i64 100], .slice none 0 0] w fun e w' => e = .returned (.bool true) ∧ Below w.heap.size w w' := by
  obtain ⟨wA, b4, X⟩ := bx18 w h018
  have HWA : Hid (w.alloc (.cells #[.int .i64 0, .int .i64 0, .int .u32 0, .int .u32 0, .int .i64 64, .int .i64 100] 41) = wA) := X.wa
  have HB : Hid (w.heap.size = b4) := X.b
  have HA : Hid (Below w.heap.size w wA) := X.bl
  have CW := pwin18 h018 wA
  rw [h018_win] at CW
  have CW : Hid (Calls Tryz.prog 96 #[.agg #[.int .i64 0, .int .i64 0, .int .u32 0, .int .u32 0, .int .i64 64, .int .i64 100]] wA fun e w' => e = .returned (.int .i64 0) ∧ Below wA.heap.size wA w') := CW
  clear X
  go_enter Tryz.func67, Tryz.ntmps67
  go_wp2_with fail
  rw [HWA.out, HB.out]
  refine CW.out.mono ?_
  rintro e1 w1 ⟨rfl, b1⟩
  have HB1 : Hid (Below w.heap.size w w1) := HA.out.trans (b1.mono HA.out.size)
  clear b1
  go_wp2_with fail
  go_loopw [14] (fun t14 V => t14 = .int .i64 0 ∧ V = w1) (fun _ _ => 0)
  case atStart => exact ⟨rfl, rfl⟩
  case round =>
    obtain ⟨rfl, rfl⟩ := hrel
    go_wp2_with fail
    go_ret
    exact ⟨rfl, HB1.out⟩
theorem sum18_len (L : List Int) : (sum18 L).length = L.length + 4 := by unfold sum18; rw [List.length_append, fixL_len]
set_option maxRecDepth 100000 in
set_option maxHeartbeats 2000000 in
theorem penc18 (w : World) (ht : Tab w) : Calls Tryz.prog 48 #[.agg #[.int .i64 0, .int .i64 0, .int .u32 0, .int .u32 0, .int .i64 64, .int .i64 100], .agg #[.int .i64 100, .int .i64 10, .bool false, .int .i64 50], .slice none 0 0] w (HdQ18 w (sum18 (sum18 (hd18 h018))) 0) := by
  obtain ⟨wA, b4, X⟩ := bx18 w h018
  have HWA : Hid (w.alloc (.cells #[.int .i64 0, .int .i64 0, .int .u32 0, .int .u32 0, .int .i64 64, .int .i64 100] 41) = wA) := X.wa
  have HB : Hid (w.heap.size = b4) := X.b
  have cP := cb16 wA #[.int .i64 100, .int .i64 10, .bool false, .int .i64 50] 105
  obtain ⟨wB, hwB⟩ : ∃ wB, wB = wA.alloc (.cells #[.int .i64 100, .int .i64 10, .bool false, .int .i64 50] 105) := ⟨_, rfl⟩
  rw [← hwB] at cP
  have HWB : Hid (wA.alloc (.cells #[.int .i64 100, .int .i64 10, .bool false, .int .i64 50] 105) = wB) := hwB.symm
  obtain ⟨b5, hb5⟩ : ∃ b5, b5 = wA.heap.size := ⟨_, rfl⟩
  have hb54 : b5 = b4 + 1 := by rw [hb5, X.sz, X.b]
  have HB5 : Hid (b5 = b4 + 1) := hb54
  have q5 : wB.heap[b5]? = some (.cells #[.int .i64 100, .int .i64 10, .bool false, .int .i64 50] 105 (0, 0)) := by rw [hb5]; exact cP.cl
  have HC5 : Hid (∀ V, Below wB.heap.size wB V → V.cell? ⟨b5, 0, none⟩ = some (.int .i64 100) ∧ V.cell? ⟨b5, 1, none⟩ = some (.int .i64 10) ∧ V.cell? ⟨b5, 2, none⟩ = some (.bool false) ∧ V.cell? ⟨b5, 3, none⟩ = some (.int .i64 50)) := fun V hV => by
    have q := (hV.block _ (Array.getElem?_eq_some_iff.1 q5).1).trans q5
    exact ⟨cell18 q rfl, cell18 q rfl, cell18 q rfl, cell18 q rfl⟩
  have HC4 : Hid (∀ V, Below wB.heap.size wB V → Cl18 V b4 h018) := fun V hV => X.cl (cP.bl.trans (hV.mono cP.bl.size))
  have HA : Hid (Below w.heap.size w wB) := X.bl.trans (cP.bl.mono X.bl.size)
  have HD := phead18 h018 wB (ht.old HA.out) (by unfold h018; decide) (by unfold h018; decide)
  rw [show hh18 h018 = sum18 (hd18 h018) by unfold hh18; rw [if_pos h018_ok], show he18 h018 = 0 by unfold he18; rw [if_pos h018_ok]] at HD
  have HD : Hid (Calls Tryz.prog 47 #[.agg #[.int .i64 0, .int .i64 0, .int .u32 0, .int .u32 0, .int .i64 64, .int .i64 100]] wB (HdQ18 wB (sum18 (hd18 h018)) 0)) := HD
  have HBD : Hid (∀ z ∈ sum18 (hd18 h018), 0 ≤ z ∧ z ≤ 255) := sum18_bd (hd18_bd h018_ok)
  have HLN : Hid ((sum18 (hd18 h018)).length ≤ 100) := by
    show _ ≤ _
    rw [sum18_len, hd18_len]
    have := encA_hv18 h018
    omega
  have HT : Hid (∀ V, Below wB.heap.size wB V → Tab V) := fun V hV => (ht.old HA.out).old hV
  generalize sum18 (hd18 h018) = L at *
  obtain ⟨a0, a1, a2, a3, a4, a5⟩ := HC4.out wB (Below.refl _ _)
  clear X hwB cP hb5 q5 ht hb54
  go_enter Tryz.func48, Tryz.ntmps48
  go_wp2_with fail
  rw [HWA.out, HWB.out, HB.out, show b4 + 1 = b5 from HB5.out.symm]
  refine HD.out.mono ?_
  rintro e1 w1 ⟨p1, c1, rfl, o1, b1⟩
  have HB1 : Hid (Below wB.heap.size wB w1) := b1
  have HO1 : Hid (w1.ownsRow wB.heap.size 5 1 (.slice p1 L.length c1) L.length (L.map (Value.int .u8))) := o1
  clear a0 a1 a2 a3 a4 a5 b1 o1 HD
  obtain ⟨d0, d1, d2, d3⟩ := HC5.out w1 HB1.out
  go_wp2_with fail
  refine (popt18 w1).mono ?_
  rintro e2 w2 ⟨rfl, b2⟩
  have HB2 : Hid (Below wB.heap.size wB w2) := HB1.out.trans (b2.mono HB1.out.size)
  have HO2 : Hid (w2.ownsRow wB.heap.size 5 1 (.slice p1 L.length c1) L.length (L.map (Value.int .u8))) := own_below HO1.out b2
  clear d0 d1 d2 d3 b2
  obtain ⟨d0, d1, d2, d3⟩ := HC5.out w2 HB2.out
  have a0 : w2.cell? ⟨b4, 0, none⟩ = some (.int .i64 0) := (HC4.out w2 HB2.out).c0
  have a1 : w2.cell? ⟨b4, 1, none⟩ = some (.int .i64 0) := (HC4.out w2 HB2.out).c1
  have a2 : w2.cell? ⟨b4, 2, none⟩ = some (.int .u32 0) := (HC4.out w2 HB2.out).c2
  have a3 : w2.cell? ⟨b4, 3, none⟩ = some (.int .u32 0) := (HC4.out w2 HB2.out).c3
  have a4 : w2.cell? ⟨b4, 4, none⟩ = some (.int .i64 64) := (HC4.out w2 HB2.out).c4
  have a5 : w2.cell? ⟨b4, 5, none⟩ = some (.int .i64 100) := (HC4.out w2 HB2.out).c5
  go_wp2_with fail
  refine (pmak18 w2).mono ?_
  rintro e3 w3 ⟨rfl, b3⟩
  have HB3 : Hid (Below wB.heap.size wB w3) := HB2.out.trans (b3.mono HB2.out.size)
  have SU := psum18 p1 c1 wB.heap.size L w3 (HT.out w3 HB3.out) (own_below HO2.out b3) HBD.out (by have := HLN.out; omega) HB3.out.size
  clear a0 a1 a2 a3 a4 a5 d0 d1 d2 d3 b3
  go_wp2_with fail
  go_loopw [8, 38] (fun t8 t38 V => t8 = .slice p1 L.length c1 ∧ t38 = .int .i64 0 ∧ V = w3) (fun _ _ _ => 0)
  case atStart => exact ⟨rfl, rfl, rfl⟩
  case round =>
    obtain ⟨rfl, rfl, hwr⟩ := hrel
    subst wr
    go_wp2_with fail
    refine SU.mono ?_
    rintro e4 w4 ⟨p4, c4, rfl, o4, b4'⟩
    have HB4' : Below wB.heap.size wB w4 := HB3.out.trans b4'
    have HQQ : Hid (HdQ18 w (sum18 L) 0 (.returned (.tuple #[.slice p4 (sum18 L).length c4, .int .i64 0])) w4) := ⟨p4, c4, rfl, own_base o4 HA.out.size, HA.out.trans (HB4'.mono HA.out.size)⟩
    clear SU o4 b4' HB4'
    go_wp2_with fail
    go_ret2
    exact HQQ.out
end Go.Proofs.YtalojcpgkgeofaaGreatDoor

namespace Go.Proofs.YtalojcpgkgeofaaGreatDoor
open Go.RowKit
set_option linter.unusedVariables false

theorem run_conv_segS {P : Program} {w : World} {a : Option Addr} {zs : List Int} (cap : Nat) (h : Seg w a zs) (src e dst : TypeId) (hs : P.underlying src = some (.slice e)) (he : P.underlying e = some (.int .u8)) (hd : P.underlying dst = some .string) :
    (convert src dst (.slice a zs.length cap)).run P w = .ok (.string (strOfNums zs)) w := by
  by_cases hz : 0 < zs.length
  · obtain ⟨b, off, rfl, _⟩ := h.at_ 0 hz
    refine run_convert_bytes_arg w src e hs he b off zs.length cap zs rfl (fun i hi => ?_) dst hd
    obtain ⟨b', off', hb, hc⟩ := h.at_ i hi
    cases hb
    exact hc
  · have : zs = [] := List.eq_nil_of_length_eq_zero (by omega)
    subst this
    cases a with
    | none => exact run_convert_bytes_nil w src e hs he _ _ dst hd
    | some x =>
      rw [run_convert_bytes_string w src dst e _ _ cap hs he hd]
      have hl : (loadCells x 0).run P w = .ok (([] : List Int).map (Value.int .u8)).toArray w := by simp [loadCells, loadCellsFrom]
      have := run_bytesToString (P := P) w x 0 cap [] hl
      exact this

theorem str_injS {xs ys : List Int} (hx : ∀ z ∈ xs, 0 ≤ z ∧ z ≤ 255) (hy : ∀ z ∈ ys, 0 ≤ z ∧ z ≤ 255) : ((strOfNums xs).toList == (strOfNums ys).toList) = (xs == ys) := by
  rw [ByteArray.toList_eq, ByteArray.toList_eq, strOfNums_data, strOfNums_data]
  have key : ∀ (xs ys : List Int), (∀ z ∈ xs, 0 ≤ z ∧ z ≤ 255) → (∀ z ∈ ys, 0 ≤ z ∧ z ≤ 255) → (xs.map fun n => UInt8.ofNat n.toNat) = (ys.map fun n => UInt8.ofNat n.toNat) → xs = ys := by
    intro xs
    induction xs with
    | nil => intro ys _ _ h; cases ys with
      | nil => rfl
      | cons y r => simp at h
    | cons x r ih =>
      intro ys hx hy h
      cases ys with
      | nil => simp at h
      | cons y t =>
        simp only [List.map_cons, List.cons.injEq] at h
        have h1 := hx x (by simp)
        have h2 := hy y (by simp)
        have h3 := congrArg UInt8.toNat h.1
        simp at h3
        have h4 : x = y := by omega
        rw [h4, ih t (fun z hz => hx z (by simp [hz])) (fun z hz => hy z (by simp [hz])) h.2]
  rw [Bool.eq_iff_iff, beq_iff_eq, beq_iff_eq]
  exact ⟨key xs ys hx hy, fun h => by rw [h]⟩

set_option maxRecDepth 100000 in
theorem bsame_any (a b : Option Addr) (xs ys : List Int) (ca cb : Nat) (w : World) (hx : Seg w a xs) (hy : Seg w b ys) :
    Calls Tryz.prog 38 #[.slice a xs.length ca, .slice b ys.length cb] w fun e w' => e = .returned (.bool (xs == ys)) ∧ w' = w := by
  have h1 := run_conv_segS (P := Tryz.prog) ca hx 26 5 9 Tryz.underlying26 Tryz.underlying5 Tryz.underlying9
  have h2 := run_conv_segS (P := Tryz.prog) cb hy 26 5 9 Tryz.underlying26 Tryz.underlying5 Tryz.underlying9
  have HE : Hid (((strOfNums xs).toList == (strOfNums ys).toList) = (xs == ys)) := str_injS hx.mem hy.mem
  go_enter Tryz.func38, Tryz.ntmps38
  go_wp2
  go_ret
  exact ⟨by rw [← HE.out]; rfl, rfl⟩
end Go.Proofs.YtalojcpgkgeofaaGreatDoor

namespace Go.Proofs.YtalojcpgkgeofaaGreatDoor
open Go.RowKit
set_option linter.unusedVariables false

set_option maxRecDepth 100000 in
theorem lsame18 (a b : Option Addr) (xs ys : List Int) (ca cb : Nat) (w : World) (hx : Seg w a xs) (hy : Seg w b ys) :
    Calls Tryz.prog 30 #[.slice a xs.length ca, .slice b ys.length cb] w fun e w' => e = .returned (.bool (xs == ys)) ∧ w' = w := by
  have h1 := run_conv_segS (P := Tryz.prog) ca hx 26 5 9 Tryz.underlying26 Tryz.underlying5 Tryz.underlying9
  have h2 := run_conv_segS (P := Tryz.prog) cb hy 26 5 9 Tryz.underlying26 Tryz.underlying5 Tryz.underlying9
  have HE : Hid (((strOfNums xs).toList == (strOfNums ys).toList) = (xs == ys)) := str_injS hx.mem hy.mem
  go_enter Tryz.func30, Tryz.ntmps30
  go_wp2
  go_ret
  exact ⟨by rw [← HE.out]; rfl, rfl⟩
end Go.Proofs.YtalojcpgkgeofaaGreatDoor

namespace Go.Proofs.YtalojcpgkgeofaaGreatDoor
open Go.RowKit Go.Shelf
set_option linter.unusedVariables false

/-! awake. -/
set_option maxRecDepth 100000 in
theorem ppress18 (w : World) : Calls Tryz.prog 49 #[] w fun e w' => e = .returned (.agg #[.int .i64 100, .int .i64 10, .bool false, .int .i64 50]) ∧ Below w.heap.size w w' := by
  go_enter Tryz.func49, Tryz.ntmps49
  go_wp2
  have cP := cb16 w #[.int .i64 100, .int .i64 10, .bool false, .int .i64 50] 105
  refine bodyPost_ret (v := .agg #[.int .i64 100, .int .i64 10, .bool false, .int .i64 50]) (results_cell_row (fn := Tryz.f49) (p := 0) (ty := 105) rfl _ _ w.heap.size _ _ _ _ rfl cP.cl Tryz.underlying105 rfl (by kernel_rfl)) rfl ?_
  exact ⟨rfl, cP.bl⟩
set_option maxRecDepth 100000 in
theorem pnum18 (v : Int) (w : World) : Calls Tryz.prog 29 #[.int .i64 v] w fun e w' => e = .returned (.int .i64 v) ∧ w' = w := by
  go_enter Tryz.func29, Tryz.ntmps29
  go_wp2
  go_ret
  exact ⟨rfl, rfl⟩
def nine18 : List Int := [83, 65, 80, 82, 1, 0, 0, 64, 100]
theorem nine18_take : (sum18 (hd18 h018)).take 9 = nine18 := by
  have e : sum18 (hd18 h018) = nine18 ++ (([0, 0, 0, 0, 0, 0, 0, 0] : List Int) ++ fixL 4 (wI (sumW (hd18 h018)))) := rfl
  rw [e]
  exact List.take_left' rfl
theorem len18a : (sum18 (hd18 h018)).length = 21 := by rw [sum18_len]; rfl
theorem len18b : (sum18 (sum18 (hd18 h018))).length = 25 := by rw [sum18_len, len18a]
theorem nine18_seg (w : World) : Seg (w.alloc (.cells #[.int .u8 83, .int .u8 65, .int .u8 80, .int .u8 82, .int .u8 1, .int .u8 0, .int .u8 0, .int .u8 64, .int .u8 100] 5 (9, 10))) (some ⟨w.heap.size, 0, none⟩) nine18 :=
  seg_lit w nine18 5 (9, 10) (by decide)
set_option maxRecDepth 100000 in
set_option maxHeartbeats 4000000 in
theorem pawk18 (w : World) (ht : Tab w) : Calls Tryz.prog 31 #[] w fun e w' => e = .returned (.bool true) ∧ Below w.heap.size w w' := by
  obtain ⟨wA, b4, X⟩ := bx18 w h018
  have HWA : Hid (w.alloc (.cells #[.int .i64 0, .int .i64 0, .int .u32 0, .int .u32 0, .int .i64 64, .int .i64 100] 41) = wA) := X.wa
  have HB : Hid (w.heap.size = b4) := X.b
  have HA : Hid (Below w.heap.size w wA) := X.bl
  have HC : Hid (∀ V, Below wA.heap.size wA V → V.cell? ⟨b4, 0, none⟩ = some (.int .i64 0) ∧ V.cell? ⟨b4, 1, none⟩ = some (.int .i64 0) ∧ V.cell? ⟨b4, 2, none⟩ = some (.int .u32 0) ∧ V.cell? ⟨b4, 3, none⟩ = some (.int .u32 0) ∧ V.cell? ⟨b4, 4, none⟩ = some (.int .i64 64) ∧ V.cell? ⟨b4, 5, none⟩ = some (.int .i64 100)) := fun V hV => by
    have c := X.cl hV
    exact ⟨c.c0, c.c1, c.c2, c.c3, c.c4, c.c5⟩
  have HT : Hid (∀ V, Below wA.heap.size wA V → Tab V) := fun V hV => (ht.old X.bl).old hV
  have HD := phead18 h018 wA (ht.old X.bl) (by unfold h018; decide) (by unfold h018; decide)
  rw [show hh18 h018 = sum18 (hd18 h018) by unfold hh18; rw [if_pos h018_ok], show he18 h018 = 0 by unfold he18; rw [if_pos h018_ok]] at HD
  have HD : Hid (Calls Tryz.prog 47 #[.agg #[.int .i64 0, .int .i64 0, .int .u32 0, .int .u32 0, .int .i64 64, .int .i64 100]] wA (HdQ18 wA (sum18 (hd18 h018)) 0)) := HD
  have HEN : Hid (∀ V, Below wA.heap.size wA V → Calls Tryz.prog 48 #[.agg #[.int .i64 0, .int .i64 0, .int .u32 0, .int .u32 0, .int .i64 64, .int .i64 100], .agg #[.int .i64 100, .int .i64 10, .bool false, .int .i64 50], .slice none 0 0] V (HdQ18 V (sum18 (sum18 (hd18 h018))) 0)) := fun V hV => penc18 V (HT.out V hV)
  have HBD : Hid (∀ z ∈ sum18 (hd18 h018), 0 ≤ z ∧ z ≤ 255) := sum18_bd (hd18_bd h018_ok)
  have HLA : Hid ((sum18 (hd18 h018)).length = 21 ∧ (sum18 (sum18 (hd18 h018))).length = 25 ∧ (sum18 (hd18 h018)).take 9 = nine18) := ⟨len18a, len18b, nine18_take⟩
  generalize hM : sum18 (sum18 (hd18 h018)) = M at *
  generalize sum18 (hd18 h018) = L at *
  clear X ht hM
  go_enter Tryz.func31, Tryz.ntmps31
  go_wp2_with fail
  rw [HWA.out, HB.out]
  refine HD.out.mono ?_
  rintro e1 w1 ⟨p1, c1, rfl, o1, b1⟩
  obtain ⟨-, a1, c1', hv1, sg1, -, hc1, -⟩ := own_seg o1 (M := 255) (by decide) HBD.out
  injection hv1 with h1 h2 h3
  subst h1
  rw [HLA.out.1]
  have HB1 : Hid (Below wA.heap.size wA w1) := b1
  have HS1 : Hid (Seg w1 p1 L) := sg1
  have hc9 : 21 ≤ c1 := by have := HLA.out.1; omega
  clear o1 b1 hc1 sg1 h2 h3 HD
  go_wp2_with fail
  have HD1 : Hid (Below wA.heap.size wA w1.drew) := HB1.out.drew
  refine plain_region16 (fun V => V.cell? ⟨b4, 0, none⟩ = some (.int .i64 0) ∧ V.cell? ⟨b4, 1, none⟩ = some (.int .i64 0) ∧ V.cell? ⟨b4, 2, none⟩ = some (.int .u32 0) ∧ V.cell? ⟨b4, 3, none⟩ = some (.int .u32 0) ∧ V.cell? ⟨b4, 4, none⟩ = some (.int .i64 64) ∧ V.cell? ⟨b4, 5, none⟩ = some (.int .i64 100)) 7 (by kernel_rfl) (HC.out _ HD1.out) (fun hHeld => ?_)
  refine wpAnyK_take (i := 0) (v := .agg #[.int .i64 0, .int .i64 0, .int .u32 0, .int .u32 0, .int .i64 64, .int .i64 100]) rfl (by kernel_rfl) (by kernel_rfl) (by kernel_rfl) (by kernel_rfl) (fun _ _ _ h => h) (Or.inl ⟨by rfl, fun w hSw => by go_simp⟩) hHeld ?_
  simp only [List.getElem_toArray, List.getElem_cons_zero, Act.put, List.setIfInBounds_toArray, List.set_cons_zero, List.set_cons_succ]
  refine wpAnyK_one (i := 1) (by kernel_rfl) rfl (fun K hK => ?_)
  (try simp only [List.getElem_toArray, List.getElem_cons_zero, List.getElem_cons_succ, Act.put, List.setIfInBounds_toArray, List.set_cons_zero, List.set_cons_succ])
  go_simp
  refine (ppress18 w1.drew).mono ?_
  rintro e2 w2 ⟨rfl, b2⟩
  have HB2 : Hid (Below wA.heap.size wA w2) := HD1.out.trans (b2.mono HD1.out.size)
  refine hK.out _ _ (fun _ => HC.out w2 HB2.out) (fun hHeld0 => ?_)
  have hHeld := hHeld0 (by decide)
  clear hHeld0 hK K
  (try simp only [List.getElem_toArray, List.getElem_cons_zero, List.getElem_cons_succ, Act.put, List.setIfInBounds_toArray, List.set_cons_zero, List.set_cons_succ])
  refine wpAnyK_one (i := 2) (by kernel_rfl) rfl (fun K hK => ?_)
  (try simp only [List.getElem_toArray, List.getElem_cons_zero, List.getElem_cons_succ, Act.put, List.setIfInBounds_toArray, List.set_cons_zero, List.set_cons_succ])
  go_simp
  refine (HEN.out w2 HB2.out).mono ?_
  rintro e3 w3 ⟨p3, c3, rfl, o3, b3⟩
  have HB3 : Hid (Below wA.heap.size wA w3) := HB2.out.trans (b3.mono HB2.out.size)
  have HS3 : Hid (Seg w3 p1 L) := (HS1.out.drew.old b2).old b3
  clear o3
  rw [HLA.out.2.1]
  refine hK.out _ _ (fun _ => HC.out w3 HB3.out) (fun hHeld0 => ?_)
  have hHeld := hHeld0 (by decide)
  clear hHeld0 hK K
  (try simp only [List.getElem_toArray, List.getElem_cons_zero, List.getElem_cons_succ, Act.put, List.setIfInBounds_toArray, List.set_cons_zero, List.set_cons_succ])
  refine wpAnyK_one (i := 3) (by kernel_rfl) rfl (fun K hK => ?_)
  (try simp only [List.getElem_toArray, List.getElem_cons_zero, List.getElem_cons_succ, Act.put, List.setIfInBounds_toArray, List.set_cons_zero, List.set_cons_succ])
  go_simp
  refine hK.out _ _ (fun _ => HC.out w3 HB3.out) (fun hHeld0 => ?_)
  have hHeld := hHeld0 (by decide)
  clear hHeld0 hK K
  (try simp only [List.getElem_toArray, List.getElem_cons_zero, List.getElem_cons_succ, Act.put, List.setIfInBounds_toArray, List.set_cons_zero, List.set_cons_succ])
  refine wpAnyK_take (i := 4) (v := .slice p3 25 c3) rfl (by kernel_rfl) (by kernel_rfl) (by kernel_rfl) (by kernel_rfl) (fun _ _ _ h => h) (Or.inl ⟨by rfl, fun w hSw => by go_simp⟩) hHeld ?_
  simp only [List.getElem_toArray, List.getElem_cons_zero, List.getElem_cons_succ, Act.put, List.setIfInBounds_toArray, List.set_cons_zero, List.set_cons_succ]
  refine wpAnyK_take (i := 5) (v := .int .i64 0) rfl (by kernel_rfl) (by kernel_rfl) (by kernel_rfl) (by kernel_rfl) (fun _ _ _ h => h) (Or.inl ⟨by rfl, fun w hSw => by go_simp⟩) hHeld ?_
  simp only [List.getElem_toArray, List.getElem_cons_zero, List.getElem_cons_succ, Act.put, List.setIfInBounds_toArray, List.set_cons_zero, List.set_cons_succ]
  refine wpAnyK_one (i := 6) (by kernel_rfl) rfl (fun K hK => ?_)
  (try simp only [List.getElem_toArray, List.getElem_cons_zero, List.getElem_cons_succ, Act.put, List.setIfInBounds_toArray, List.set_cons_zero, List.set_cons_succ])
  go_simp
  refine hK.out _ _ (fun _ => HC.out w3 HB3.out) (fun hHeld0 => ?_)
  have hHeld := hHeld0 (by decide)
  clear hHeld0 hK K
  (try simp only [List.getElem_toArray, List.getElem_cons_zero, List.getElem_cons_succ, Act.put, List.setIfInBounds_toArray, List.set_cons_zero, List.set_cons_succ])
  refine wpAnyK_one (i := 7) (by kernel_rfl) rfl (fun K hK => ?_)
  (try simp only [List.getElem_toArray, List.getElem_cons_zero, List.getElem_cons_succ, Act.put, List.setIfInBounds_toArray, List.set_cons_zero, List.set_cons_succ])
  go_simp
  refine hK.out _ _ (fun _ => HC.out w3 HB3.out) (fun hHeld0 => ?_)
  clear hHeld0 hK K
  (try simp only [List.getElem_toArray, List.getElem_cons_zero, List.getElem_cons_succ, Act.put, List.setIfInBounds_toArray, List.set_cons_zero, List.set_cons_succ])
  refine wpAnyK_done (by kernel_rfl) ?_ _
  have hcv := Lib.run_convert_bytes_const (P := Tryz.prog) w3 26 5 #[.int .u8 83, .int .u8 65, .int .u8 80, .int .u8 82, .int .u8 1, .int .u8 0, .int .u8 0, .int .u8 64, .int .u8 100] 9 9 Tryz.underlying26 Tryz.underlying5
  have hcp : ((9 : Int) ≤ (c1 : Int)) := by omega
  obtain ⟨wM, hwM⟩ : ∃ wM, wM = w3.alloc (.cells #[.int .u8 83, .int .u8 65, .int .u8 80, .int .u8 82, .int .u8 1, .int .u8 0, .int .u8 0, .int .u8 64, .int .u8 100] 5 (9, 10)) := ⟨_, rfl⟩
  have bM : Below w3.heap.size w3 wM := by rw [hwM]; exact (Below.refl _ _).alloc (Nat.le_refl _) _
  have sM := nine18_seg w3
  rw [← hwM] at sM
  have sL := (HS3.out.old bM).take 9
  rw [HLA.out.2.2] at sL
  have SM := lsame18 p1 (some ⟨w3.heap.size, 0, none⟩) nine18 nine18 c1 9 wM sL sM
  rw [show (nine18 == nine18) = true by decide] at SM
  have SM : Hid (Calls Tryz.prog 30 #[.slice p1 9 c1, .slice (some ⟨w3.heap.size, 0, none⟩) 9 9] wM fun e w' => e = .returned (.bool true) ∧ w' = wM) := SM
  have HWM : Hid (w3.alloc (.cells #[.int .u8 83, .int .u8 65, .int .u8 80, .int .u8 82, .int .u8 1, .int .u8 0, .int .u8 0, .int .u8 64, .int .u8 100] 5 (9, 10)) = wM) := hwM.symm
  have HBM : Hid (Below wA.heap.size wA wM) := HB3.out.trans (bM.mono HB3.out.size)
  clear hwM bM sM sL b2 b3
  go_wp2_with fail
  rw [HWM.out]
  refine SM.out.mono ?_
  rintro e5 w5 ⟨rfl, hw5⟩
  subst w5
  go_wp2_with fail
  go_ret
  exact ⟨rfl, HA.out.trans (HBM.out.mono HA.out.size)⟩
end Go.Proofs.YtalojcpgkgeofaaGreatDoor
