
import Derived.Test.YtiocdhkompekpaaFlS
namespace Go.Proofs.Ytiocdhkompekpaa
open Go.RowKit Go.Shelf
set_option linter.unusedVariables false
set_option linter.unusedSimpArgs false

/-! The landed flash: devices that no call made. -/
def Un21 (w : World) (v : Value) : Prop := v = .pointer none ∨ ∃ b, v = .pointer (some ⟨b, 0, none⟩) ∧ w.cell? ⟨b, 0, none⟩ = some (.int .i64 0)
theorem Un21.old {w w' : World} {v : Value} (h : Un21 w v) (hb : Below w.heap.size w w') : Un21 w' v := by
  rcases h with h | ⟨b, h, hc⟩
  · exact .inl h
  · exact .inr ⟨b, h, (hb.cell (p := ⟨b, 0, none⟩) (World.block_lt_of_cell? w _ hc)).trans hc⟩
set_option maxRecDepth 100000 in
set_option maxHeartbeats 1000000 in
theorem umade21 (v : Value) (w : World) (h : Un21 w v) : Calls Try.prog 46 #[v] w fun e w' => e = .returned (.bool false) ∧ w' = w := by
  rcases h with rfl | ⟨b, rfl, hc⟩
  all_goals
    go_enter Try.func46, Try.ntmps46
    go_wp2
    go_ret
    exact ⟨rfl, rfl⟩
set_option maxRecDepth 100000 in
set_option maxHeartbeats 1000000 in
theorem ustop21 (v : Value) (w : World) (h : Un21 w v) : Calls Try.prog 44 #[v] w fun e w' => e = .returned (.int .i64 2) ∧ w' = w := by
  have HM := umade21 v w h
  go_enter Try.func44, Try.ntmps44
  go_wp2_with fail
  refine HM.mono ?_
  rintro e w1 ⟨rfl, hw⟩
  subst w1
  go_wp2_with fail
  go_ret
  exact ⟨rfl, rfl⟩
set_option maxRecDepth 100000 in
set_option maxHeartbeats 1000000 in
theorem urefs21 (v : Value) (x y : Int) (w : World) (h : Un21 w v) : Calls Try.prog 66 #[v, .agg #[.int .i64 x, .int .i64 y]] w fun e w' => e = .returned (.int .i64 2) ∧ Below w.heap.size w w' := by
  have hb : Below w.heap.size w (w.alloc (.cells #[.int .i64 x, .int .i64 y] 102)) := (Below.refl _ _).alloc (Nat.le_refl _) _
  have HM := ustop21 v _ (h.old hb)
  go_enter Try.func66, Try.ntmps66
  go_wp2_with fail
  refine HM.mono ?_
  rintro e w1 ⟨rfl, hw⟩
  subst w1
  go_wp2_with fail
  go_ret
  exact ⟨rfl, hb⟩
set_option maxRecDepth 100000 in
set_option maxHeartbeats 1000000 in
theorem upow21 (v : Value) (w : World) (h : Un21 w v) : Calls Try.prog 20 #[v] w fun e w' => e = .returned (.tuple #[]) ∧ Below w.heap.size w w' := by
  have HM := umade21 v w h
  go_enter Try.func20, Try.ntmps20
  go_wp2_with fail
  refine HM.mono ?_
  rintro e w1 ⟨rfl, hw⟩
  subst w1
  go_wp2_with fail
  go_end0
  exact ⟨rfl, Below.refl _ _⟩
set_option maxRecDepth 100000 in
set_option maxHeartbeats 1000000 in
theorem uread21 (v : Value) (x y n : Int) (w : World) (h : Un21 w v) : Calls Try.prog 29 #[v, .int .i64 x, .int .i64 y, .int .i64 n] w fun e w' => e = .returned (.tuple #[.slice none 0 0, .int .i64 2]) ∧ Below w.heap.size w w' := by
  have HM := ustop21 v w h
  go_enter Try.func29, Try.ntmps29
  go_wp2_with fail
  refine HM.mono ?_
  rintro e w1 ⟨rfl, hw⟩
  subst w1
  go_wp2_with fail
  go_ret2
  exact ⟨rfl, Below.refl _ _⟩
set_option maxRecDepth 100000 in
set_option maxHeartbeats 1000000 in
theorem uers21 (v : Value) (x y : Int) (w : World) (h : Un21 w v) : Calls Try.prog 60 #[v, .int .i64 x, .int .i64 y] w fun e w' => e = .returned (.int .i64 2) ∧ Below w.heap.size w w' := by
  have hb : Below w.heap.size w (w.alloc (.cells #[.int .i64 x, .int .i64 y] 102)) := (Below.refl _ _).alloc (Nat.le_refl _) _
  have HM := urefs21 v x y _ (h.old hb)
  go_enter Try.func60, Try.ntmps60
  go_wp2_with fail
  refine HM.mono ?_
  rintro e w1 ⟨rfl, b1⟩
  go_wp2_with fail
  go_ret
  exact ⟨rfl, hb.trans (b1.mono hb.size)⟩
set_option maxRecDepth 100000 in
set_option maxHeartbeats 1000000 in
theorem uprg21 (v : Value) (x y : Int) (a : Option Addr) (n c : Nat) (w : World) (h : Un21 w v) : Calls Try.prog 61 #[v, .int .i64 x, .int .i64 y, .slice a n c] w fun e w' => e = .returned (.int .i64 2) ∧ Below w.heap.size w w' := by
  have hb : Below w.heap.size w (w.alloc (.cells #[.int .i64 x, .int .i64 y] 102)) := (Below.refl _ _).alloc (Nat.le_refl _) _
  have HM := urefs21 v x y _ (h.old hb)
  go_enter Try.func61, Try.ntmps61
  go_wp2_with fail
  refine HM.mono ?_
  rintro e w1 ⟨rfl, b1⟩
  go_wp2_with fail
  go_ret
  exact ⟨rfl, hb.trans (b1.mono hb.size)⟩
set_option maxRecDepth 100000 in
set_option maxHeartbeats 1000000 in
theorem ucut21 (v : Value) (x : Int) (a : Option Addr) (n c : Nat) (w : World) (h : Un21 w v) : Calls Try.prog 18 #[v, .int .i64 x, .slice a n c] w fun e w' => e = .returned (.int .i64 2) ∧ Below w.heap.size w w' := by
  have HM := ustop21 v w h
  go_enter Try.func18, Try.ntmps18
  go_wp2_with fail
  refine HM.mono ?_
  rintro e w1 ⟨rfl, hw⟩
  subst w1
  go_wp2_with fail
  go_ret
  exact ⟨rfl, Below.refl _ _⟩
set_option maxRecDepth 100000 in
set_option maxHeartbeats 1000000 in
theorem utrn21 (v : Value) (w : World) (h : Un21 w v) : Calls Try.prog 21 #[v] w fun e w' => e = .returned (.int .i64 2) ∧ Below w.heap.size w w' := by
  have HM := ustop21 v w h
  go_enter Try.func21, Try.ntmps21
  go_wp2_with fail
  refine HM.mono ?_
  rintro e w1 ⟨rfl, hw⟩
  subst w1
  go_wp2_with fail
  go_ret
  exact ⟨rfl, Below.refl _ _⟩
set_option maxRecDepth 100000 in
set_option maxHeartbeats 1000000 in
theorem uops21 (v : Value) (w : World) (h : Un21 w v) : Calls Try.prog 35 #[v] w fun e w' => e = .returned (.int .i64 0) ∧ Below w.heap.size w w' := by
  have HM := umade21 v w h
  go_enter Try.func35, Try.ntmps35
  go_wp2_with fail
  refine HM.mono ?_
  rintro e w1 ⟨rfl, hw⟩
  subst w1
  go_wp2_with fail
  go_ret
  exact ⟨rfl, Below.refl _ _⟩
set_option maxRecDepth 100000 in
set_option maxHeartbeats 1000000 in
theorem ulog21 (v : Value) (w : World) (h : Un21 w v) : Calls Try.prog 47 #[v] w fun e w' => e = .returned (.slice none 0 0) ∧ Below w.heap.size w w' := by
  have HM := umade21 v w h
  go_enter Try.func47, Try.ntmps47
  go_wp2_with fail
  refine HM.mono ?_
  rintro e w1 ⟨rfl, hw⟩
  subst w1
  go_wp2_with fail
  go_ret
  exact ⟨rfl, Below.refl _ _⟩
set_option maxRecDepth 100000 in
set_option maxHeartbeats 1000000 in
theorem uact21 (v : Value) (w : World) (h : Un21 w v) : Calls Try.prog 28 #[v] w fun e w' => e = .returned (.int .i64 0) ∧ Below w.heap.size w w' := by
  have HM := umade21 v w h
  go_enter Try.func28, Try.ntmps28
  go_wp2_with fail
  refine HM.mono ?_
  rintro e w1 ⟨rfl, hw⟩
  subst w1
  go_wp2_with fail
  go_ret
  exact ⟨rfl, Below.refl _ _⟩
set_option maxRecDepth 100000 in
set_option maxHeartbeats 1000000 in
theorem ushp21 (v : Value) (w : World) (h : Un21 w v) : Calls Try.prog 27 #[v] w fun e w' => e = .returned (.agg #[.int .i64 0, .int .i64 0]) ∧ Below w.heap.size w w' := by
  have hb : Below w.heap.size w (w.alloc (.cells #[.int .i64 0, .int .i64 0] 62)) := (Below.refl _ _).alloc (Nat.le_refl _) _
  have HM := umade21 v _ (h.old hb)
  have hq := heap_alloc_new w (.cells #[.int .i64 0, .int .i64 0] 62)
  go_enter Try.func27, Try.ntmps27
  go_wp2_with fail
  refine HM.mono ?_
  rintro e w1 ⟨rfl, hw⟩
  subst w1
  go_wp2_with fail
  refine bodyPost_ret (v := .agg #[.int .i64 0, .int .i64 0]) (results_cell_row (fn := Try.f27) (p := 2) (ty := 62) rfl _ _ w.heap.size _ _ _ _ rfl hq Try.underlying62 rfl (by kernel_rfl)) rfl ?_
  exact ⟨rfl, hb⟩
end Go.Proofs.Ytiocdhkompekpaa
