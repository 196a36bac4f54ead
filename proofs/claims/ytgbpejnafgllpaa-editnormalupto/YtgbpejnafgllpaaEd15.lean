
import Derived.Test.YtgbpejnafgllpaaEd14
import Derived.RecoverIn
namespace Go.Proofs.Ytgbpejnafgllpaa
open Go.RowKit Go.Shelf
set_option linter.unusedVariables false

/-! The door that normal leaves by: what it recovers. -/
set_option maxRecDepth 100000 in
set_option maxHeartbeats 4000000 in
theorem pcatch16 (n : Nat) (a0 a1 : Value) (w : World) :
    CallsDIn Fence.wide n Try.prog 41 #[a0, a1] .returning w fun e u' w' => e = .returned (.tuple #[]) ∧ u' = .returning ∧ w' = w := by
  refine callsDIn_of_wpSIn Try.func41 rfl trivial fun c₀ cs hu => ?_
  apply wpSIn_seq
  apply wpSIn_region
  simp [wpOpsSIn, go_sem, recoverD, hu, Try.ntmps41, Exit.thenS]
  refine wpSIn_of_wpIn rfl (wpIn_wide.2 ?_)
  have et : #[a0, a1] ++ ((Array.replicate 7 undef).setIfInBounds 1 Value.nilIface).setIfInBounds 0 Value.nilIface = #[a0, a1, .nilIface, .nilIface, undef, undef, undef, undef, undef] := rfl
  rw [et]
  go_wp2
  cases c₀
  simp_all [bodyPostS, results, Try.results41]
set_option maxRecDepth 100000 in
set_option maxHeartbeats 4000000 in
theorem pcatch16_no (n : Nat) (w : World) (bo be : Nat) (x0 x1 x2 y : Value) (hne : bo ≠ be) (ho : w.heap[bo]? = some (.cells #[x0, x1, x2] 25 (0, 0))) (he : w.heap[be]? = some (.cells #[y] 29 (0, 0))) :
    CallsDIn Fence.wide n Try.prog 41 #[.pointer (some ⟨bo, 0, none⟩), .pointer (some ⟨be, 0, none⟩)] (.panicking pn16) w fun e u' w' => e = .returned (.tuple #[]) ∧ settle u' = .returning ∧ w'.heap[bo]? = some (.cells #[.slice none 0 0, .slice none 0 0, .slice none 0 0] 25 (0, 0)) ∧ w'.heap[be]? = some (.cells #[.int .i64 160] 29 (0, 0)) ∧ Kp (fun k => k = bo ∨ k = be) w w' := by
  have hta : ∀ W : World, (Instr.typeAssert (.iface 29 (.int .i64 160)) 20 29 false).run Try.prog W = .ok (.int .i64 160) W := fun W => by
    kernel_rfl
  have n0 := three_cell0 ho
  have n1 := three_cell1 ho
  have n2 := three_cell2 ho
  have f0 : w.frozen? ⟨bo, 0, none⟩ = false := by simp [World.frozen?, ho]
  have f1 : w.frozen? ⟨bo, 1, none⟩ = false := by simp [World.frozen?, ho]
  have f2 : w.frozen? ⟨bo, 2, none⟩ = false := by simp [World.frozen?, ho]
  have e0 := one_cell16 he
  have fe := one_free16 (i := 0) he
  refine callsDIn_of_wpSIn Try.func41 rfl trivial fun c₀ cs hu => ?_
  apply wpSIn_seq
  apply wpSIn_region
  simp [wpOpsSIn, go_sem, recoverD, hu, pn16, Try.ntmps41, Exit.thenS]
  refine wpSIn_of_wpIn rfl (wpIn_wide.2 ?_)
  have et : #[Value.pointer (some ⟨bo, 0, none⟩), .pointer (some ⟨be, 0, none⟩)] ++ ((Array.replicate 7 undef).setIfInBounds 1 (Value.iface 29 (.int .i64 160))).setIfInBounds 0 (Value.iface 29 (.int .i64 160)) = #[.pointer (some ⟨bo, 0, none⟩), .pointer (some ⟨be, 0, none⟩), .iface 29 (.int .i64 160), .iface 29 (.int .i64 160), undef, undef, undef, undef, undef] := rfl
  rw [et]
  go_wp2
  go_region
  refine ⟨rfl, .panicking [{ v := .iface 29 (.int .i64 160), recovered := true }], rfl, .tuple #[], by simp [results, Try.results41], rfl, rfl, ?_, ?_, ?_⟩
  · exact (heap_setCell_other _ _ _ _ hne).trans (three_set2 (three_set1 (three_set0 ho _) _) _)
  · exact one_set16 ((heap_setCell_other _ _ _ _ (Ne.symm hne)).trans ((heap_setCell_other _ _ _ _ (Ne.symm hne)).trans ((heap_setCell_other _ _ _ _ (Ne.symm hne)).trans he))) _
  · have k0 := Kp.set (S := fun k => k = bo ∨ k = be) (w := w) (b := bo) (i := 0) (.inl rfl) (.slice none 0 0)
    have k1 := k0.trans (Kp.set (S := fun k => k = bo ∨ k = be) (b := bo) (i := 1) (.inl rfl) (.slice none 0 0)) (fun _ _ x => x)
    have k2 := k1.trans (Kp.set (S := fun k => k = bo ∨ k = be) (b := bo) (i := 2) (.inl rfl) (.slice none 0 0)) (fun _ _ x => x)
    have k3 := k2.trans (Kp.set (S := fun k => k = bo ∨ k = be) (b := be) (i := 0) (.inr rfl) (.int .i64 160)) (fun _ _ x => x)
    exact ⟨k3.os, k3.tape, k3.output, k3.size, k3.block⟩
end Go.Proofs.Ytgbpejnafgllpaa
