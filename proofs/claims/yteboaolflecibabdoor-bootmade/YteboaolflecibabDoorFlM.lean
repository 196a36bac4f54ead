import Derived.Test.YteboaolflecibabDoorFlK
namespace Go.Proofs.YteboaolflecibabDoor
open Go.RowKit Go.Shelf
set_option linter.unusedVariables false
set_option linter.unusedSimpArgs false
theorem Fl21.cells {w : World} {b : Nat} {F : Nat → Prop} {S : Fs21} (h : Fl21 w b F S) : w.cell? ⟨b, 0, none⟩ = some (.int .i64 (S.pg : Int)) ∧ w.cell? ⟨b, 1, none⟩ = some (.int .i64 (S.ps : Int)) ∧ w.cell? ⟨b, 2, none⟩ = some (.int .i64 S.ac) ∧ w.cell? ⟨b, 3, none⟩ = some (.bool S.on) ∧ w.cell? ⟨b, 4, none⟩ = some (.int .i64 S.lm) ∧ ∀ i, w.frozen? ⟨b, i, none⟩ = false := by
  obtain ⟨m, c, f, ta, tc, la, lc, V, h1, _⟩ := h
  exact ⟨h1.cel (i := 0) rfl, h1.cel (i := 1) rfl, h1.cel (i := 2) rfl, h1.cel (i := 3) rfl, h1.cel (i := 4) rfl, h1.fr⟩
section
variable {w : World} {b : Nat} {F : Nat → Prop} {S : Fs21}
end
end Go.Proofs.YteboaolflecibabDoor
