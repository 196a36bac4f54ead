import Derived.Test.YteboaolflecibabDoorFlM
import Derived.Test.YteboaolflecibabDoorFlK
import Derived.Lib.SlBytesConst
namespace Go.Proofs.YteboaolflecibabDoor
open Go.RowKit Go.Shelf
set_option linter.unusedVariables false
set_option linter.unusedSimpArgs false
def Un21 (w : World) (v : Value) : Prop := v = .pointer none ∨ ∃ b, v = .pointer (some ⟨b, 0, none⟩) ∧ w.cell? ⟨b, 0, none⟩ = some (.int .i64 0)
theorem Un21.old {w w' : World} {v : Value} (h : Un21 w v) (hb : Below w.heap.size w w') : Un21 w' v := by
  rcases h with h | ⟨b, h, hc⟩
  · exact .inl h
  · exact .inr ⟨b, h, (hb.cell (p := ⟨b, 0, none⟩) (World.block_lt_of_cell? w _ hc)).trans hc⟩
set_option maxRecDepth 100000 in
set_option maxHeartbeats 1000000 in
theorem umade21 (v : Value) (w : World) (h : Un21 w v) : Calls Tryd.prog 43 #[v] w fun e w' => e = .returned (.bool false) ∧ w' = w := by
  rcases h with rfl | ⟨b, rfl, hc⟩
  all_goals
    go_enter Tryd.func43, Tryd.ntmps43
    go_wp2
    go_ret
    exact ⟨rfl, rfl⟩
set_option maxRecDepth 100000 in
set_option maxHeartbeats 1000000 in
theorem ustop21 (v : Value) (w : World) (h : Un21 w v) : Calls Tryd.prog 44 #[v] w fun e w' => e = .returned (.int .i64 2) ∧ w' = w := by
  have HM := umade21 v w h
  go_enter Tryd.func44, Tryd.ntmps44
  go_wp2_with fail
  refine HM.mono ?_
  rintro e w1 ⟨rfl, hw⟩
  subst w1
  go_wp2_with fail
  go_ret
  exact ⟨rfl, rfl⟩
set_option maxRecDepth 100000 in
set_option maxHeartbeats 1000000 in
theorem uread21 (v : Value) (x y n : Int) (w : World) (h : Un21 w v) : Calls Tryd.prog 33 #[v, .int .i64 x, .int .i64 y, .int .i64 n] w fun e w' => e = .returned (.tuple #[.slice none 0 0, .int .i64 2]) ∧ Below w.heap.size w w' := by
  have HM := ustop21 v w h
  go_enter Tryd.func33, Tryd.ntmps33
  go_wp2_with fail
  refine HM.mono ?_
  rintro e w1 ⟨rfl, hw⟩
  subst w1
  go_wp2_with fail
  go_ret2
  exact ⟨rfl, Below.refl _ _⟩
set_option maxRecDepth 100000 in
set_option maxHeartbeats 1000000 in
theorem ushp21 (v : Value) (w : World) (h : Un21 w v) : Calls Tryd.prog 32 #[v] w fun e w' => e = .returned (.agg #[.int .i64 0, .int .i64 0]) ∧ Below w.heap.size w w' := by
  have hb : Below w.heap.size w (w.alloc (.cells #[.int .i64 0, .int .i64 0] 47)) := (Below.refl _ _).alloc (Nat.le_refl _) _
  have HM := umade21 v _ (h.old hb)
  have hq := heap_alloc_new w (.cells #[.int .i64 0, .int .i64 0] 47)
  go_enter Tryd.func32, Tryd.ntmps32
  go_wp2_with fail
  refine HM.mono ?_
  rintro e w1 ⟨rfl, hw⟩
  subst w1
  go_wp2_with fail
  refine bodyPost_ret (v := .agg #[.int .i64 0, .int .i64 0]) (results_cell_row (fn := Tryd.f32) (p := 2) (ty := 47) rfl _ _ w.heap.size _ _ _ _ rfl hq Tryd.underlying47 rfl (by kernel_rfl)) rfl ?_
  exact ⟨rfl, hb⟩
end Go.Proofs.YteboaolflecibabDoor
