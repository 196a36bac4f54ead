import Derived.Test.YtmfpdchfofffeaaGreatDoorFq2
import Derived.Test.YtmfpdchfofffeaaGreatDoorFixN
namespace Go.Proofs.YtmfpdchfofffeaaGreatDoor
open Go.RowKit Go.Shelf
set_option linter.unusedVariables false
/-- The word that stands at a place. -/
def wd18 (z : List Int) (at_ : Nat) : Int := unfL ((z.drop at_).take 4)
theorem wd18_bd {z : List Int} {at_ : Nat} (hb : ∀ t ∈ z, 0 ≤ t ∧ t ≤ 255) : 0 ≤ wd18 z at_ ∧ wd18 z at_ ≤ 4294967295 := by
  have h := unfL_pos ((z.drop at_).take 4) (fun t ht => hb t (List.mem_of_mem_drop (List.mem_of_mem_take ht)))
  have hl : ((z.drop at_).take 4).length ≤ 4 := by rw [List.length_take]; omega
  have h2 : (256 : Int) ^ ((z.drop at_).take 4).length ≤ 256 ^ 4 := by
    generalize ((z.drop at_).take 4).length = n at hl
    rcases (by omega : n = 0 ∨ n = 1 ∨ n = 2 ∨ n = 3 ∨ n = 4) with rfl | rfl | rfl | rfl | rfl <;> decide
  have h3 : (256 : Int) ^ 4 = 4294967296 := by decide
  unfold wd18
  omega
set_option maxRecDepth 100000 in
theorem pwd18_no (br : Nat) (za : Option Addr) (zn zc at_ : Nat) (w : World) (h : Rq18 w br za zn zc at_) (hl : zn ≤ 140737488355328) (hat : at_ ≤ zn) (hn : zn < at_ + 4) :
    Calls Tryz.prog 104 #[.pointer (some ⟨br, 0, none⟩)] w fun e w' => e = .panicked (pn18 182) ∧ Below w.heap.size w w' := by
  have T : Hid (Calls Tryz.prog 102 #[.pointer (some ⟨br, 0, none⟩), .int .i64 4] w fun e w' => e = .panicked (pn18 182) ∧ Below w.heap.size w w') := ptk18_no br 4 za zn zc at_ w h (by omega) hat hn
  clear h hl hat hn
  go_enter Tryz.func104, Tryz.ntmps104
  go_wp2_with fail
  refine T.out.mono ?_
  rintro e1 w1 ⟨rfl, b1⟩
  exact ⟨rfl, rfl, b1⟩
set_option maxRecDepth 100000 in
theorem pwd18 (br : Nat) (za : Option Addr) (zc : Nat) (z : List Int) (at_ : Nat) (w : World) (h : Rq18 w br za z.length zc at_) (hz : Seg w za z) (hzb : ∀ x off, za = some ⟨x, off, none⟩ → 0 < z.length → x ≠ br) (hl : z.length ≤ 140737488355328) (hc : z.length ≤ zc) (hn : at_ + 4 ≤ z.length) :
    Calls Tryz.prog 104 #[.pointer (some ⟨br, 0, none⟩)] w fun e w' => e = .returned (.int .u32 (wd18 z at_)) ∧ Rq18 w' br za z.length zc (at_ + 4) ∧ Kp (fun k => k = br) w w' := by
  have T : Hid (Calls Tryz.prog 102 #[.pointer (some ⟨br, 0, none⟩), .int .i64 4] w fun e w' => e = .returned (.slice (rs16 za zc at_) 4 (zc - at_)) ∧ Rq18 w' br za z.length zc (at_ + 4) ∧ Kp (fun k => k = br) w w') := ptk18 br 4 za z.length zc at_ w h (by omega) hc hn
  have hwb := wd18_bd (z := z) (at_ := at_) hz.mem
  have HU : Hid (∀ V, Kp (fun k => k = br) w V → Calls Tryz.prog 146 #[.slice (rs16 za zc at_) 4 (zc - at_), .int .i64 4] V fun e w' => e = .returned (.tuple #[.int .u64 (wd18 z at_), .int .i64 0]) ∧ w' = V) := fun V hV => by
    have sg : Seg V za z := hz.kp hV (fun x off e hp => hzb x off e hp)
    have s2 := ((seg_rs16 (c := zc) (d := at_) sg (by omega) hc).1).take 4
    have hln : ((z.drop at_).take 4).length = 4 := by rw [List.length_take, List.length_drop]; omega
    have U := unfix_any (rs16 za zc at_) ((z.drop at_).take 4) (zc - at_) 4 V s2 (by omega) (by omega)
    have hE : unfE ((z.drop at_).take 4) 4 = 0 := by unfold unfE; rw [if_pos (by omega), if_neg (by rw [hln]; decide)]
    have hV2 : unfV ((z.drop at_).take 4) 4 = wd18 z at_ := by
      unfold unfV
      rw [if_pos hE, show (4 : Int).toNat = 4 from rfl, List.take_of_length_le (Nat.le_of_eq hln)]
      rfl
    rw [hE, hV2, hln] at U
    exact U
  generalize wd18 z at_ = v at *
  have hw : IntKind.u32.wrap v = v := IntWalk.u32_in _ (by omega)
  clear h hz hzb hl hc hn
  generalize rs16 za zc at_ = ax at *
  generalize zc - at_ = ac at *
  go_enter Tryz.func104, Tryz.ntmps104
  go_wp2_with fail
  refine T.out.mono ?_
  rintro e1 w1 ⟨rfl, q1, k1⟩
  have U := HU.out w1 k1
  go_wp2_with fail
  refine U.mono ?_
  rintro e2 w2 ⟨rfl, hw2⟩
  subst w2
  go_wp2_with fail
  go_ret
  exact ⟨rfl, q1, k1⟩
end Go.Proofs.YtmfpdchfofffeaaGreatDoor
