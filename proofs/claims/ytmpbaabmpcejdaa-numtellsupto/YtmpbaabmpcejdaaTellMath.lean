import Derived.Test.YtmpbaabmpcejdaaOneMath
namespace Go.Proofs.Ytmpbaabmpcejdaa
open Go.RowKit
set_option linter.unusedVariables false

/-- The numbers from a place on, each with its place. -/
def tellF : Nat → Nat → List Int → List (Int × Int)
  | 0, _, _ => []
  | f + 1, p, zs => if (decL 0 0 (zs.drop p)).2.2 = 0 then ((p : Int), (decL 0 0 (zs.drop p)).1) :: tellF f (p + (decL 0 0 (zs.drop p)).2.1.toNat) zs else []
def tells (zs : List Int) : List (Int × Int) := tellF (zs.length + 1) 0 zs

/-- So many have come, and the next place is p. -/
structure Told (zs : List Int) (pre : List (Int × Int)) (p : Nat) : Prop where
  le : p ≤ zs.length
  len : pre.length ≤ p
  ex : ∃ f, zs.length + 1 ≤ f + p ∧ tells zs = pre ++ tellF f p zs
theorem Told.start (zs : List Int) : Told zs [] 0 := ⟨Nat.zero_le _, by simp, _, Nat.le_refl _, rfl⟩
theorem Told.stop {zs : List Int} {pre : List (Int × Int)} {p : Nat} (h : Told zs pre p) (he : (decL 0 0 (zs.drop p)).2.2 ≠ 0) : tells zs = pre := by
  obtain ⟨f, _, e⟩ := h.ex
  rw [e]
  cases f with
  | zero => simp [tellF]
  | succ f => rw [tellF, if_neg he, List.append_nil]
theorem Told.step {zs : List Int} {pre : List (Int × Int)} {p m : Nat} {v : Int} (h : Told zs pre p) (hm : 1 ≤ m) (hl : m ≤ (zs.drop p).length) (hd : decL 0 0 (zs.drop p) = (v, (m : Int), 0)) : Told zs (pre ++ [((p : Int), v)]) (p + m) := by
  have h1 := h.le
  have h2 := h.len
  rw [List.length_drop] at hl
  obtain ⟨f, hf, e⟩ := h.ex
  refine ⟨by omega, by simp; omega, ?_⟩
  cases f with
  | zero => omega
  | succ f =>
    refine ⟨f, by omega, ?_⟩
    rw [e, tellF, if_pos (by rw [hd]), hd]
    simp
theorem Told.all {zs : List Int} {pre : List (Int × Int)} {p : Nat} (h : Told zs pre p) : pre <+: tells zs := by
  obtain ⟨f, _, e⟩ := h.ex
  exact ⟨_, e.symm⟩
theorem tell_end (zs : List Int) (p : Nat) (h : zs.length ≤ p) : (decL 0 0 (zs.drop p)).2.2 ≠ 0 := by
  rw [List.drop_of_length_le h]; simp [decL]
theorem tells_len (zs : List Int) (hz : ∀ z ∈ zs, 0 ≤ z ∧ z ≤ 255) : (tells zs).length ≤ zs.length := by
  have key : ∀ (f : Nat) (pre : List (Int × Int)) (p : Nat), Told zs pre p → zs.length - p < f → (tells zs).length ≤ zs.length := by
    intro f
    induction f with
    | zero => intro pre p h hf; omega
    | succ f ih =>
      intro pre p h hf
      by_cases he : (decL 0 0 (zs.drop p)).2.2 = 0
      · obtain ⟨W, N, E, hD⟩ : ∃ W N E, decL 0 0 (zs.drop p) = (W, N, E) := ⟨_, _, _, rfl⟩
        rw [hD] at he
        simp at he
        subst he
        obtain ⟨m, h1, h2, rfl, _⟩ := decI_ok (zs.drop p) W N (fun z hz' => hz z (List.mem_of_mem_drop hz')) hD
        have hs := h.step h1 h2 hD
        have := h.le
        rw [List.length_drop] at h2
        exact ih _ _ hs (by omega)
      · rw [h.stop he]
        have := h.le
        have := h.len
        omega
  exact key (zs.length + 1) [] 0 (Told.start zs) (by omega)

/-- The cells that the pairs take. -/
def cellsP : List (Int × Int) → List Value
  | [] => []
  | x :: r => .int .i64 x.1 :: .int .u64 x.2 :: cellsP r
theorem cellsP_append (a b : List (Int × Int)) : cellsP (a ++ b) = cellsP a ++ cellsP b := by
  induction a with
  | nil => rfl
  | cons x r ih => simp [cellsP, ih]
theorem cellsP_len (a : List (Int × Int)) : (cellsP a).length = a.length * 2 := by
  induction a with
  | nil => rfl
  | cons x r ih => simp [cellsP, ih]; omega
theorem cellsP_get : ∀ (l : List (Int × Int)) (i : Nat), i < l.length → (cellsP l)[i * 2]? = some (.int .i64 (l.getD i (0, 0)).1) ∧ (cellsP l)[i * 2 + 1]? = some (.int .u64 (l.getD i (0, 0)).2)
  | [], i, h => by simp at h
  | x :: r, 0, _ => by simp [cellsP]
  | x :: r, i + 1, h => by
    have := cellsP_get r i (by simp at h; omega)
    have e1 : (i + 1) * 2 = i * 2 + 1 + 1 := by omega
    rw [e1]
    simpa [cellsP] using this
end Go.Proofs.Ytmpbaabmpcejdaa
