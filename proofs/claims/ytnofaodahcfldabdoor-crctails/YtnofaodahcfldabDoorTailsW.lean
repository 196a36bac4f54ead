import Derived.Test.YtnofaodahcfldabDoorCrcTail
import Derived.Test.YtnofaodahcfldabDoorCrcAwake
import Derived.Deep.QuietTactic
import Derived.BigQuiet
import Derived.Deep.RegionHeld3
import Derived.Stop.BytesEq
import Derived.Test.YtnofaodahcfldabDoorCrcMake
namespace Go.Proofs.YtnofaodahcfldabDoor
open Go.RowKit
set_option linter.unusedVariables false
set_option linter.unusedSimpArgs false

/-- Four bytes lie at a place. -/
def Four (w : World) (g : Nat) (q0 q1 q2 q3 : Int) : Prop := w.cell? ⟨g, 0, none⟩ = some (.int .u8 q0) ∧ w.cell? ⟨g, 1, none⟩ = some (.int .u8 q1) ∧ w.cell? ⟨g, 2, none⟩ = some (.int .u8 q2) ∧ w.cell? ⟨g, 3, none⟩ = some (.int .u8 q3)
theorem Four.old {w w' : World} {g : Nat} {q0 q1 q2 q3 : Int} (h : Four w g q0 q1 q2 q3) (hb : Below w.heap.size w w') : Four w' g q0 q1 q2 q3 := by
  have hg : g < w.heap.size := World.block_lt_of_cell? w _ h.1
  exact ⟨(hb.cell (p := ⟨g, 0, none⟩) hg).trans h.1, (hb.cell (p := ⟨g, 1, none⟩) hg).trans h.2.1, (hb.cell (p := ⟨g, 2, none⟩) hg).trans h.2.2.1, (hb.cell (p := ⟨g, 3, none⟩) hg).trans h.2.2.2⟩
theorem Four.seg {w : World} {g : Nat} {q0 q1 q2 q3 : Int} (h : Four w g q0 q1 q2 q3) (hb : ∀ z ∈ [q0, q1, q2, q3], 0 ≤ z ∧ z ≤ 255) : Seg w (some ⟨g, 0, none⟩) [q0, q1, q2, q3] := by
  refine ⟨fun i hi => ⟨g, 0, rfl, ?_⟩, by decide, getD_bd (by decide) hb⟩
  simp only [List.length_cons, List.length_nil] at hi
  rw [Nat.zero_add]
  match i, hi with
  | 0, _ => exact h.1
  | 1, _ => exact h.2.1
  | 2, _ => exact h.2.2.1
  | 3, _ => exact h.2.2.2
theorem four_new (w : World) (q0 q1 q2 q3 : Int) (t : TypeId) : Four (w.alloc (.cells #[.int .u8 q0, .int .u8 q1, .int .u8 q2, .int .u8 q3] t)) w.heap.size q0 q1 q2 q3 := by
  refine ⟨?_, ?_, ?_, ?_⟩ <;> (rw [World.cell?_alloc_mark]; rfl)

theorem eq_four (q0 q1 q2 q3 : Int) (hb : ∀ z ∈ [q0, q1, q2, q3], 0 ≤ z ∧ z ≤ 255) (w : World) :
    (Op.equalIn 10000 23 (.agg #[.int .u8 q0, .int .u8 q1, .int .u8 q2, .int .u8 q3]) (.agg #[.int .u8 q0, .int .u8 q1, .int .u8 q2, .int .u8 q3])).run Tryd.prog w = .ok true w := by
  obtain ⟨i0, hi, hz0, hz1, hz2⟩ := info_parts info_u8z
  have hsz : ∀ w, (sizeOf 5).run Tryd.prog w = .ok 1 w := fun w => by simp [sizeOf, typeInfo, hi, hz1]
  have h := run_equalIn_bytes (P := Tryd.prog) w 9998 23 5 4 Tryd.underlying23 Tryd.underlying5 hsz ([q0, q1, q2, q3].map fun n => UInt8.ofNat n.toNat) ([q0, q1, q2, q3].map fun n => UInt8.ofNat n.toNat) rfl rfl
  have e : ∀ q : Int, 0 ≤ q ∧ q ≤ 255 → Extern.Stop.cell (UInt8.ofNat q.toNat) = .int .u8 q := by
    intro q hq
    unfold Extern.Stop.cell
    congr 1
    simp
    omega
  simp only [List.map_cons, List.map_nil, e q0 (hb _ (by simp)), e q1 (hb _ (by simp)), e q2 (hb _ (by simp)), e q3 (hb _ (by simp)), beq_self_eq_true] at h
  exact h

set_option maxHeartbeats 2000000 in
theorem crcTails_walk (w : World) (ht : Tab w) (c : Int) (h0 : 0 ≤ c) (h1 : c ≤ 4294967295) (d : Int) (h2 : 0 ≤ d) (h3 : d ≤ 4294967295) :
    Calls Tryd.prog 3 #[.int .u32 c, .int .u32 d] w fun e w' => e = .returned (.bool true) ∧ Below w.heap.size w w' := by
  obtain ⟨x, rfl⟩ := wI_of h0 (by omega)
  obtain ⟨y, rfl⟩ := wI_of h2 (by omega)
  have HM : Hid (~~~ (runW (~~~ x) (leL (tailW x y))) = y) := tail_more x y
  have hbb := leL_bd (tailW x y)
  have HV : Hid (tailV x y = .agg ((leL (tailW x y)).map (Value.int .u8)).toArray) := rfl
  obtain ⟨q0, q1, q2, q3, hq⟩ : ∃ q0 q1 q2 q3, leL (tailW x y) = [q0, q1, q2, q3] := ⟨_, _, _, _, rfl⟩
  rw [hq] at HM hbb HV
  clear hq
  go_enter Tryd.func3, Tryd.ntmps3
  go_wp2_with fail
  refine (tail_any x y _).mono ?_
  rintro e w1 ⟨rfl, hb1⟩
  have t1 := ht.old hb1
  rw [HV.out]
  simp only [List.map_cons, List.map_nil]
  go_wp2
  have f1 := four_new w1 q0 q1 q2 q3 23
  have t2 : Tab (w1.alloc (.cells #[.int .u8 q0, .int .u8 q1, .int .u8 q2, .int .u8 q3] 23)) := t1.alloc _
  have b2 : Below w.heap.size w (w1.alloc (.cells #[.int .u8 q0, .int .u8 q1, .int .u8 q2, .int .u8 q3] 23)) := balloc hb1 _
  generalize w1.alloc (.cells #[.int .u8 q0, .int .u8 q1, .int .u8 q2, .int .u8 q3] 23) = W at *
  generalize w1.heap.size = g at *
  have f2 : Four W.drew g q0 q1 q2 q3 := f1
  have t3 : Tab W.drew := t2.drew
  have b3 : Below w.heap.size w W.drew := b2.drew
  have F := f1
  obtain ⟨k0, k1, k2, k3⟩ := F
  clear t1 hb1 ht
  have heq := eq_four q0 q1 q2 q3 hbb
  go_region_held3 (fun w' => w'.cell? ⟨g, 0, none⟩ = some (.int .u8 q0) ∧ w'.cell? ⟨g, 1, none⟩ = some (.int .u8 q1) ∧ w'.cell? ⟨g, 2, none⟩ = some (.int .u8 q2) ∧ w'.cell? ⟨g, 3, none⟩ = some (.int .u8 q3)) (go_keep)
    (first | (go_at_call 10; refine (rtail_any x y _).mono ?_; rintro e w2 ⟨rfl, hb2⟩; rw [HV.out]; simp only [List.map_cons, List.map_nil]; have f4 := f2.old hb2; have F4 := f4; obtain ⟨m0, m1, m2, m3⟩ := F4; have t4 := t3.old hb2; have b4 := b3.trans (hb2.mono b3.size)) | (go_at_call 11; refine (more_any x _ [q0, q1, q2, q3] 4 _ t4 (f4.seg hbb) (by simp)).mono ?_; rintro e w3 ⟨rfl, hw3⟩; subst w3; rw [HM.out]))
  go_wp2
  go_ret
  exact ⟨rfl, b4⟩
end Go.Proofs.YtnofaodahcfldabDoor
