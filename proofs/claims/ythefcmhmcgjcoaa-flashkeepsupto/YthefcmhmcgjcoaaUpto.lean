
import Derived.Test.YthefcmhmcgjcoaaRows
namespace Go.Proofs.Ythefcmhmcgjcoaa.UptoLemmas
set_option linter.unusedVariables false
theorem bulk_pos {H : Type} (d : DataW H) : 1 ≤ Rows.uptoBulk d := by
  unfold Rows.uptoBulk
  split <;> omega
theorem all_len {H : Type} : ∀ l : List (DataW H), l.length ≤ Rows.uptoBulkAll l
  | [] => by simp
  | d :: r => by
    have h1 := bulk_pos d
    have h2 := all_len r
    simp only [Rows.uptoBulkAll, List.length_cons]
    omega
theorem slice_le {H : Type} (elems spare : List (DataW H)) : elems.length + spare.length + 1 ≤ Rows.uptoBulk (.slice elems spare) := by
  have h1 := all_len elems
  have h2 := all_len spare
  simp only [Rows.uptoBulk]
  omega
end Go.Proofs.Ythefcmhmcgjcoaa.UptoLemmas
