import Derived.Test.YtelohdakfiibaabDoorFlK
namespace Go.Proofs.YtelohdakfiibaabDoor
open Go.RowKit Go.Shelf
set_option linter.unusedVariables false
set_option linter.unusedSimpArgs false
/-- Some cells of a device are set anew. -/
theorem Fl21.re {w w' : World} {b : Nat} {F : Nat → Prop} {S S' : Fs21} (h : Fl21 w b F S) (hk : Kp (fun k => k = b) w w') (e1 : S'.pa = S.pa) (e2 : S'.lg = S.lg) (e3 : S'.tn = S.tn)
    (hp : ∀ m ta tc la lc, w.heap[b]? = some (.cells #[.int .i64 (S.pg : Int), .int .i64 (S.ps : Int), .int .i64 S.ac, .bool S.on, .int .i64 S.lm, .map (some m), .int .i64 S.lf, .slice ta S.tn.length tc, .slice la S.lg.length lc] 33 (0, 0)) → w'.heap[b]? = some (.cells #[.int .i64 (S'.pg : Int), .int .i64 (S'.ps : Int), .int .i64 S'.ac, .bool S'.on, .int .i64 S'.lm, .map (some m), .int .i64 S'.lf, .slice ta S.tn.length tc, .slice la S.lg.length lc] 33 (0, 0))) : Fn21 w w' b F S' := by
  obtain ⟨m, c, f, ta, tc, la, lc, V, h1, h2, h3, h4, h5, h6⟩ := h
  refine ⟨F, ⟨m, c, f, ta, tc, la, lc, V, h1.re hk e1 e2 (by rw [e3]; exact h1.ht) (by rw [e3, e2]; exact hp _ _ _ _ _ h1.hp), h2, h3, by rw [e2]; exact h4, h5, fun k e => Nat.lt_of_lt_of_le (h6 k e) hk.size⟩, fun _ e => .inl e, hk.mono (fun i _ e => e ▸ h2)⟩
theorem Fl21.cells {w : World} {b : Nat} {F : Nat → Prop} {S : Fs21} (h : Fl21 w b F S) : w.cell? ⟨b, 0, none⟩ = some (.int .i64 (S.pg : Int)) ∧ w.cell? ⟨b, 1, none⟩ = some (.int .i64 (S.ps : Int)) ∧ w.cell? ⟨b, 2, none⟩ = some (.int .i64 S.ac) ∧ w.cell? ⟨b, 3, none⟩ = some (.bool S.on) ∧ w.cell? ⟨b, 4, none⟩ = some (.int .i64 S.lm) ∧ ∀ i, w.frozen? ⟨b, i, none⟩ = false := by
  obtain ⟨m, c, f, ta, tc, la, lc, V, h1, _⟩ := h
  exact ⟨h1.cel (i := 0) rfl, h1.cel (i := 1) rfl, h1.cel (i := 2) rfl, h1.cel (i := 3) rfl, h1.cel (i := 4) rfl, h1.fr⟩
section
variable {w : World} {b : Nat} {F : Nat → Prop} {S : Fs21}
set_option maxRecDepth 100000 in
set_option maxHeartbeats 1000000 in
theorem pops21 (hF : Fl21 w b F S) (hO : Ok21 S) : Calls Tryd.prog 15 #[.pointer (some ⟨b, 0, none⟩)] w fun e w' => e = .returned (.int .i64 (S.lg.length : Int)) ∧ w' = w := by
  obtain ⟨c0, c1, c2, c3, c4, cf⟩ := hF.cells
  have HM := pmade21 b S.pg w c0 hO.pg.1
  obtain ⟨m, c, f, ta, tc, la, lc, V, h1, _⟩ := hF
  have c8 := h1.cel (i := 8) rfl
  clear h1 cf c0 c1 c2 c4 c3
  go_enter Tryd.func15, Tryd.ntmps15
  go_wp2_with fail
  refine HM.mono ?_
  rintro e w1 ⟨rfl, hw⟩
  subst w1
  go_wp2_with fail
  go_ret
  exact ⟨rfl, rfl⟩
end
end Go.Proofs.YtelohdakfiibaabDoor
