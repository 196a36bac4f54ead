
import Derived.Test.YtgbpejnafgllpaaEd25
import Derived.Test.YtgbpejnafgllpaaEd7
import Derived.Test.YtgbpejnafgllpaaOpenE
namespace Go.Proofs.Ytgbpejnafgllpaa
open Go.RowKit Go.Shelf
set_option linter.unusedVariables false

/-! EditNormal: what Apply answers, in one form; the walk up to its last region. -/
variable {w : World} {sa da xa za : Option Addr} {n sc m dc k xc zl zc : Nat} {S : List St16} {D X z : List Int}
/-- What Apply answers: the list l (none, where it errs), and the error. -/
def al16 (z : List Int) (S : List St16) (D X : List Int) (m k : Nat) : List Int := if er16 z.length S m k = 0 then ap16 z S D X else []
theorem ap16_bd (h : Ed16 w sa n S da m D xa k X) (z : List Int) (hz : ∀ j, 0 ≤ z.getD j 0 ∧ z.getD j 0 ≤ 255) : ∀ v ∈ ap16 z S D X, 0 ≤ v ∧ v ≤ 255 := by
  intro v hv
  unfold ap16 at hv
  rw [List.mem_map] at hv
  obtain ⟨o, ho, rfl⟩ := hv
  have hb := og16_bd (S := S) (D := D) (X := X) h.sd.bd h.sx.bd S.length o ho
  unfold by16
  split <;> omega
theorem pappE16 (h : Ed16 w sa n S da m D xa k X) (hz : Seg w za z) (hzl : z.length = zl) (hl : zl ≤ 1073741824) (hdc : m ≤ dc) (hxc : k ≤ xc) :
    Calls Try.prog 16 #[.slice za zl zc, ev16 sa n sc da m dc xa k xc] w fun e w' => ∃ ra rc, e = .returned (.tuple #[.slice ra (al16 z S D X m k).length rc, .int .i64 (er16 zl S m k)]) ∧ Seg w' ra (al16 z S D X m k) ∧ Below w.heap.size w w' := by
  by_cases he : er16 zl S m k = 0
  · refine (papp16_ok h hz hzl hdc hxc he).mono ?_
    rintro e w' ⟨ra, rc, rfl, o, b⟩
    have ea : al16 z S D X m k = ap16 z S D X := by unfold al16; rw [hzl, if_pos he]
    obtain ⟨_, a, cap, ev, sg, _⟩ := own_seg o (M := 255) (by omega) (ap16_bd h z hz.bd)
    simp only [Value.slice.injEq] at ev
    rw [ea, he]
    exact ⟨ra, rc, rfl, by rw [ev.1]; exact sg, b⟩
  · refine (papp16_no (zl := zl) (za := za) (zc := zc) h hl he).mono ?_
    rintro e w' ⟨rfl, b⟩
    have ea : al16 z S D X m k = [] := by unfold al16; rw [hzl, if_neg he]
    rw [ea]
    exact ⟨none, 0, rfl, ⟨fun i hi => by simp at hi, by decide, fun j => by simp⟩, b⟩
end Go.Proofs.Ytgbpejnafgllpaa
