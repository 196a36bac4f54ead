
import Derived.Test.YtoeabfcnfofbiaaDoorLnTally2
import Derived.Test.YtoeabfcnfofbiaaDoorLnHuf
import Derived.Test.YtoeabfcnfofbiaaDoorLnInfo
import Derived.Deep.OwnRows
namespace Go.Proofs.YtoeabfcnfofbiaaDoor
open Go.RowKit
set_option linter.unusedVariables false

/-- The leaves of counts, as pairs, in order. -/
def insP (x : Nat × Nat) : List (Nat × Nat) → List (Nat × Nat)
  | [] => [x]
  | y :: r => if y.1 ≤ x.1 then y :: insP x r else x :: y :: r
def pairs (zs : List Int) (k : Nat) : List (Nat × Nat) := ((List.range k).filter fun i => decide (zs.getD i 0 ≠ 0)).map fun i => ((zs.getD i 0).toNat, i)
def LFz (zs : List Int) : List (Nat × Nat) := (pairs zs zs.length).foldl (fun l x => insP x l) []
def pl (x y : Nat × Nat) : Prop := x.1 < y.1 ∨ (x.1 = y.1 ∧ x.2 < y.2)
theorem insP_perm (x : Nat × Nat) : ∀ l, (insP x l).Perm (x :: l)
  | [] => List.Perm.refl _
  | y :: r => by
    unfold insP
    split
    · exact ((insP_perm x r).cons y).trans (List.Perm.swap x y r)
    · exact List.Perm.refl _
theorem insP_ord (x : Nat × Nat) : ∀ l : List (Nat × Nat), l.Pairwise pl → (∀ y ∈ l, y.2 < x.2) → (insP x l).Pairwise pl
  | [], _, _ => by simp [insP]
  | y :: r, h, hx => by
    obtain ⟨h1, h2⟩ := List.pairwise_cons.1 h
    unfold insP
    split
    · rename_i hle
      refine List.pairwise_cons.2 ⟨fun z hz => ?_, insP_ord x r h2 (fun z hz => hx z (by simp [hz]))⟩
      rcases List.mem_cons.1 ((insP_perm x r).mem_iff.1 hz) with rfl | hz
      · have := hx y (by simp); unfold pl; omega
      · exact h1 z hz
    · rename_i hle
      refine List.pairwise_cons.2 ⟨fun z hz => ?_, h⟩
      rcases List.mem_cons.1 hz with rfl | hz
      · unfold pl; omega
      · have := h1 z hz; unfold pl at *; omega
theorem fold_ins : ∀ (l acc : List (Nat × Nat)), l.Pairwise (fun x y => x.2 < y.2) → acc.Pairwise pl → (∀ x ∈ l, ∀ y ∈ acc, y.2 < x.2) → (l.foldl (fun l x => insP x l) acc).Perm (acc ++ l) ∧ (l.foldl (fun l x => insP x l) acc).Pairwise pl
  | [], acc, _, h, _ => by simp [h]
  | x :: r, acc, h, ha, hx => by
    obtain ⟨h1, h2⟩ := List.pairwise_cons.1 h
    have ih := fold_ins r (insP x acc) h2 (insP_ord x acc ha (hx x (by simp))) (fun y hy z hz => by
      rcases List.mem_cons.1 ((insP_perm x acc).mem_iff.1 hz) with rfl | hz
      · exact h1 y hy
      · exact hx y (by simp [hy]) z hz)
    refine ⟨?_, ih.2⟩
    refine ih.1.trans ?_
    refine (List.Perm.append_right r (insP_perm x acc)).trans ?_
    exact (List.perm_middle (a := x) (l₁ := acc) (l₂ := r)).symm
theorem pairs_ord (zs : List Int) (k : Nat) : (pairs zs k).Pairwise (fun x y => x.2 < y.2) := by
  unfold pairs
  rw [List.pairwise_map]
  exact (List.pairwise_lt_range.filter _).imp (fun h => h)
theorem LFz_perm (zs : List Int) : (LFz zs).Perm (pairs zs zs.length) := by
  have := (fold_ins (pairs zs zs.length) [] (pairs_ord zs _) List.Pairwise.nil (by simp)).1
  rw [List.nil_append] at this
  exact this
theorem LFz_ord (zs : List Int) : (LFz zs).Pairwise pl := (fold_ins (pairs zs zs.length) [] (pairs_ord zs _) List.Pairwise.nil (by simp)).2
/-- A list in order is the only one of its items. -/
theorem ord_eq : ∀ (l r : List (Nat × Nat)), l.Perm r → l.Pairwise pl → r.Pairwise pl → l = r
  | [], r, h, _, _ => by have := h.length_eq; exact (List.eq_nil_of_length_eq_zero (by simpa using this.symm)).symm
  | x :: l, [], h, _, _ => by have := h.length_eq; simp at this
  | x :: l, y :: r, h, h1, h2 => by
    obtain ⟨a1, a2⟩ := List.pairwise_cons.1 h1
    obtain ⟨b1, b2⟩ := List.pairwise_cons.1 h2
    have e : x = y := by
      have hx : x ∈ y :: r := h.mem_iff.1 (by simp)
      have hy : y ∈ x :: l := h.mem_iff.2 (by simp)
      rcases List.mem_cons.1 hx with e | hx
      · exact e
      · rcases List.mem_cons.1 hy with e | hy
        · exact e.symm
        · have p1 := b1 x hx
          have p2 := a1 y hy
          unfold pl at p1 p2
          omega
    subst e
    rw [ord_eq l r h.cons_inv a2 b2]
def toP (x : Im) : Nat × Nat := (x.wt.toNat, x.sy.toNat)
theorem leaf_toP {zs : List Int} (k : Nat) : (leafL zs k).map toP = pairs zs k := by
  unfold leafL pairs
  rw [List.map_map]
  apply List.map_congr_left
  intro i _
  simp [toP, leafI]
theorem leaf_good {zs : List Int} (h : ∀ i, 0 ≤ zs.getD i 0) {k : Nat} : ∀ x ∈ leafL zs k, x.fs = none ∧ x.sn = none ∧ 0 < x.wt ∧ 0 ≤ x.sy ∧ x.sy < k ∧ x.wt = zs.getD x.sy.toNat 0 := by
  intro x hx
  unfold leafL at hx
  obtain ⟨i, hi, rfl⟩ := List.mem_map.1 hx
  obtain ⟨h1, h2⟩ := List.mem_filter.1 hi
  have := h i
  simp at h1 h2
  refine ⟨rfl, rfl, ?_, ?_, ?_, ?_⟩
  · show 0 < zs.getD i 0
    have : ¬ zs.getD i 0 = 0 := h2
    omega
  · show (0 : Int) ≤ (i : Int); omega
  · show (i : Int) < (k : Int); omega
  · show zs.getD i 0 = zs.getD (i : Int).toNat 0; simp
/-- The sorted row is the leaves of the counts. -/
theorem sorted_LF {zs : List Int} (h : ∀ i, 0 ≤ zs.getD i 0) {Y : Nat → Im} {m : Nat} (hp : (lst Y 0 m).Perm (leafL zs zs.length)) (ho : so Y 0 m) : (lst Y 0 m).map toP = LFz zs := by
  have hg : ∀ x ∈ lst Y 0 m, 0 < x.wt ∧ 0 ≤ x.sy := fun x hx => by have := leaf_good h x (hp.mem_iff.1 hx); exact ⟨this.2.2.1, this.2.2.2.1⟩
  refine ord_eq _ _ ?_ ?_ (LFz_ord zs)
  · have := hp.map toP
    rw [leaf_toP] at this
    exact this.trans (LFz_perm zs).symm
  · rw [List.pairwise_map]
    have : (lst Y 0 m).Pairwise kl := by
      rw [List.pairwise_iff_getElem]
      intro i j hi hj hij
      have hl : (lst Y 0 m).length = m := by simp [lst]
      have e1 : (lst Y 0 m)[i] = Y i := by have := lst_get Y 0 m i (by omega) im0; simpa [List.getD, hi] using this
      have e2 : (lst Y 0 m)[j] = Y j := by have := lst_get Y 0 m j (by omega) im0; simpa [List.getD, hj] using this
      rw [e1, e2]
      exact ho i j (Nat.zero_le _) hij (by omega)
    refine List.Pairwise.imp_of_mem ?_ this
    intro x y hx hy hxy
    have := hg x hx
    have := hg y hy
    unfold kl at hxy
    unfold pl toP
    simp only
    omega
end Go.Proofs.YtoeabfcnfofbiaaDoor
