
import Derived.Test.YtjoghmdjnkdokaaDoorPgB
namespace Go.Proofs.YtjoghmdjnkdokaaDoor
open Go.RowKit Go.Shelf
set_option linter.unusedVariables false
set_option linter.unusedSimpArgs false

/-! The landed page: lay. -/
def lyE22 (S : Fs21) (P : Pw22) : Int := if erE21 S P.ar (P.pn : Int) ≠ 0 then erE21 S P.ar (P.pn : Int) else pgE21 (erS21 S P.ar (P.pn : Int)) P.ar (P.pn : Int) P.bf.length
def lyS22 (S : Fs21) (P : Pw22) : Fs21 := if erE21 S P.ar (P.pn : Int) ≠ 0 then erS21 S P.ar (P.pn : Int) else pgS21 (erS21 S P.ar (P.pn : Int)) P.ar (P.pn : Int) P.bf
def lyP22 (S : Fs21) (P : Pw22) : Pw22 := if lyE22 S P ≠ 0 then { P with cl := lyE22 S P } else { P with pn := P.pn + 1, bf := [] }
theorem rn21_pg (S : Fs21) (kd x y : Int) (nn : Sh21) : (rn21 S kd x y nn).pg = S.pg ∧ (rn21 S kd x y nn).ps = S.ps ∧ (rn21 S kd x y nn).ac = S.ac ∧ (rn21 S kd x y nn).lm = S.lm ∧ (rn21 S kd x y nn).lg.length = S.lg.length + 1 := by
  unfold rn21; split <;> simp [cu21, go21]
theorem erS21_pg (S : Fs21) (x y : Int) : (erS21 S x y).pg = S.pg ∧ (erS21 S x y).ps = S.ps ∧ (erS21 S x y).ac = S.ac ∧ (erS21 S x y).lm = S.lm ∧ (erS21 S x y).lg.length ≤ S.lg.length + 1 := by
  unfold erS21
  split
  · exact ⟨rfl, rfl, rfl, rfl, by omega⟩
  · split
    · exact ⟨rfl, rfl, rfl, rfl, by omega⟩
    · have := rn21_pg S 1 x y ⟨[], true, (sh21 S x y).wr + 1⟩
      exact ⟨this.1, this.2.1, this.2.2.1, this.2.2.2.1, by omega⟩
theorem pgS21_pg (S : Fs21) (x y : Int) (L : List Int) : (pgS21 S x y L).pg = S.pg ∧ (pgS21 S x y L).ps = S.ps ∧ (pgS21 S x y L).ac = S.ac ∧ (pgS21 S x y L).lm = S.lm ∧ (pgS21 S x y L).lg.length ≤ S.lg.length + 1 := by
  unfold pgS21
  split
  · exact ⟨rfl, rfl, rfl, rfl, by omega⟩
  · split
    · exact ⟨rfl, rfl, rfl, rfl, by omega⟩
    · split
      · exact ⟨rfl, rfl, rfl, rfl, by omega⟩
      · have := rn21_pg S 2 x y ⟨L, false, (sh21 S x y).wr⟩
        exact ⟨this.1, this.2.1, this.2.2.1, this.2.2.2.1, by omega⟩
theorem lyS22_pg (S : Fs21) (P : Pw22) : (lyS22 S P).pg = S.pg ∧ (lyS22 S P).ps = S.ps ∧ (lyS22 S P).ac = S.ac ∧ (lyS22 S P).lm = S.lm ∧ (lyS22 S P).lg.length ≤ S.lg.length + 2 := by
  have h1 := erS21_pg S P.ar P.pn
  have h2 := pgS21_pg (erS21 S P.ar P.pn) P.ar P.pn P.bf
  unfold lyS22
  split
  · exact ⟨h1.1, h1.2.1, h1.2.2.1, h1.2.2.2.1, by omega⟩
  · exact ⟨h2.1.trans h1.1, h2.2.1.trans h1.2.1, h2.2.2.1.trans h1.2.2.1, h2.2.2.2.1.trans h1.2.2.2.1, by omega⟩
theorem ok22_ly {S : Fs21} (h : Ok21 S) (P : Pw22) : Ok21 (lyS22 S P) := by
  unfold lyS22
  split
  · exact ok21_er h _ _
  · exact ok21_pg (ok21_er h _ _) _ _ _
section
variable {w w' : World} {v s g b pg : Nat} {F : Nat → Prop} {S : Fs21} {P P' : Pw22}
theorem seg_bf22 (h : Wr22 w v s g b pg P) : Seg w (some ⟨g, 0, none⟩) P.bf := by
  obtain ⟨Y, h1, h2, h3⟩ := h.hg
  have := (seg_row21 h1 h3).take P.bf.length
  simpa using this
end
end Go.Proofs.YtjoghmdjnkdokaaDoor
