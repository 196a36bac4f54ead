
import Derived.Test.YtoeabfcnfofbiaaDoorHdP3
namespace Go.Proofs.YtoeabfcnfofbiaaDoor
open Go.RowKit
set_option linter.unusedVariables false

/-! The landed head: spread. -/
def SpQ (w : World) (ty : TypeId) (R : List Rn8) (e : Ending) (w' : World) : Prop := ∃ oa oc, e = .returned (.slice oa R.length oc) ∧ w'.ownsRow w.heap.size ty 2 (.slice oa R.length oc) R.length (flatN R) ∧ Below w.heap.size w w'
def SpI (v : Int) (K : Nat) (w wr : World) (ty : TypeId) (tk to : Value) : Prop := ∃ (j m oc : Nat) (oa : Option Addr) (R : List Rn8), m + j ≤ K ∧ tk = .int .i64 (j : Int) ∧ to = .slice oa m oc ∧ R.length = m ∧ spd8 K v K false = R ++ spd8 j v j (decide (0 < m)) ∧ wr.ownsRow w.heap.size ty 2 (.slice oa m oc) m (flatN R) ∧ Below w.heap.size w wr
theorem spd8_one (v : Int) {j : Nat} (hj : 0 < j) (b : Bool) : spd8 j v j b = led8 v j b :: spd8 (j - (led8 v j b).ct.toNat) v (j - (led8 v j b).ct.toNat) true := by
  obtain ⟨i, rfl⟩ : ∃ i, j = i + 1 := ⟨j - 1, by omega⟩
  have hc := led8_ct v (k := i + 1) (by omega) b
  rw [spd8, if_neg (by omega), spd8_fuel v i (i + 1 - (led8 v (i + 1) b).ct.toNat) _ true (by omega) (by omega)]
set_option maxRecDepth 100000 in
set_option maxHeartbeats 400000 in
theorem pspread8 (v : Int) (K : Nat) (hK : K ≤ 1000) (w : World) (T : TabS w) :
    Calls Tryd.prog 38 #[.int .i64 v, .int .i64 (K : Int)] w (SpQ w 38 (spd8 K v K false)) := by
  obtain ⟨i0, hi, hz0, hz1, hz2⟩ := info_parts info_arun8
  have HC : Hid (∀ (j : Nat) (b : Bool) (W : World), j ≤ 1000 → Below w.heap.size w W → Calls Tryd.prog 68 #[.int .i64 v, .int .i64 (j : Int), .bool b] W fun e w' => e = .returned (.agg #[.int .i64 (led8 v j b).sy, .int .i64 (led8 v j b).ct]) ∧ Below W.heap.size W w') := fun j b W hj hb => pleading8 v j b (by omega) W (SegZ.old T hb)
  clear T
  go_enter Tryd.func38, Tryd.ntmps38
  go_wp2_with fail
  go_loopw [1, 5] (fun tk to wr => SpI v K w wr 38 tk to) (fun tk _ _ => (intOf tk).toNat)
  case atStart => exact ⟨K, 0, 0, none, [], by omega, rfl, rfl, rfl, by simp, World.ownsRow_nil _ _ _ _, Below.refl _ _⟩
  case round =>
    obtain ⟨j, m, oc, oa, R, hmj, rfl, rfl, hRl, hsp, OO, BR⟩ := hrel
    have HRL : Hid (R.length = m) := hRl
    clear hRl
    by_cases hj : 0 < j
    · have hji : (0 : Int) < (j : Int) := by omega
      have C1 := HC.out j (decide (0 < m)) wr (by omega) BR
      rw [spd8_one v hj] at hsp
      have hct := led8_ct v (k := j) (by omega) (decide (0 < m))
      generalize led8 v j (decide (0 < m)) = r at *
      obtain ⟨sy, ct⟩ := r
      obtain ⟨c, rfl⟩ : ∃ c : Nat, ct = (c : Int) := ⟨ct.toNat, by have := hct.1; simp only at this; omega⟩
      simp only [Int.toNat_natCast] at hsp hct C1
      obtain ⟨q, hq⟩ : ∃ q, q = j - c := ⟨_, rfl⟩
      rw [← hq] at hsp
      have hqi : (j : Int) - (c : Int) = (q : Int) := by omega
      have HSP : Hid (spd8 K v K false = (R ++ [⟨sy, c⟩]) ++ spd8 q v q true) := by show _ = _; rw [hsp]; simp
      have hqb : q < j ∧ q + m + 1 ≤ K ∧ c ≤ j ∧ 1 ≤ c := by omega
      clear hsp hct hq
      have HI : Hid ((j : Int) - (c : Int) = (q : Int)) := hqi
      clear hqi
      go_wp2_with (first
        | (go_at_call 68; refine C1.mono ?_; rintro e w1 ⟨rfl, b1⟩; have O1 := own_belowN OO b1; have B1 : Below w.heap.size w w1 := BR.trans (b1.mono BR.size); have hsz1 := B1.size)
        | (at_builtin; refine wpList_appN rfl (.tmp 15) (.tmp 17) 32 rfl w.heap.size 38 i0 _ 16 Tryd.underlying32 hi hz0 hz1 hz2 rfl (w1.alloc (.cells #[.int .i64 sy, .int .i64 (c : Int)] 38)) ⟨sy, c⟩ (O1.alloc _) rfl (by show Value.slice (some ⟨w1.heap.size + 1, 0, none⟩) 1 1 = _; simp) (by omega) (by omega) (by simp; omega) ?_; intro ga gc w3 own3 hk3 hat3; have cc3 := hk3.cellN (k := w1.heap.size) (o := 1) (v := .int .i64 (c : Int)) (by rw [cell_of_row _ _ 1 _ _ _ (heap_alloc_new w1 _)]; rfl) (fun e => by have := (O1.lt _ e).2; simp at this)))
      have B3 : Below w.heap.size w w3 := (B1.trans ((below_box8 w1 _).mono hsz1)).trans (hk3.below (fun q e => (O1.lt q e).1) (by simp; omega))
      clear hk3 hat3 O1 B1
      go_roundw
      case rel => exact ⟨q, m + 1, gc, _, R ++ [⟨sy, c⟩], by omega, by have h5 := HI.out; go_num, rfl, by rw [List.length_append, HRL.out]; rfl, by rw [HSP.out]; simp, own3, B3⟩
      case measure => have := HI.out; simp [intOf]; omega
    · obtain rfl : j = 0 := by omega
      have HSP : Hid (spd8 K v K false = R) := by show _ = _; rw [hsp]; simp [spd8]
      clear hsp
      go_wp2_with fail
      go_ret
      refine ⟨oa, oc, ?_, ?_, BR⟩
      · rw [HSP.out, HRL.out]; rfl
      · rw [HSP.out, HRL.out]; exact OO
end Go.Proofs.YtoeabfcnfofbiaaDoor
