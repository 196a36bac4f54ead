
import Derived.Test.YtjoghmdjnkdokaaDoorFlF
namespace Go.Proofs.YtjoghmdjnkdokaaDoor
open Go.RowKit Go.Shelf
set_option linter.unusedVariables false
set_option linter.unusedSimpArgs false

/-! The landed flash: laid, after. -/
def la21 (pg : Nat) (L1 L2 : List Int) : List Int := sp21 (sp21 (List.replicate pg 255) 0 L2) 0 L1
theorem la21_len (pg : Nat) (L1 L2 : List Int) (h1 : L1.length ≤ pg) (h2 : L2.length ≤ pg) : (la21 pg L1 L2).length = pg := by
  unfold la21
  have e : (sp21 (List.replicate pg 255) 0 L2).length = pg := by rw [sp21_len _ _ _ (by simp; omega)]; simp
  rw [sp21_len _ _ _ (by rw [e]; omega), e]
theorem sp21_mem {X cs : List Int} {off : Nat} {z : Int} (h : z ∈ sp21 X off cs) : z ∈ X ∨ z ∈ cs := by
  unfold sp21 at h
  rcases List.mem_append.1 h with h | h
  · rcases List.mem_append.1 h with h | h
    · exact .inl (List.mem_of_mem_take h)
    · exact .inr h
  · exact .inl (List.mem_of_mem_drop h)
theorem la21_bd (pg : Nat) (L1 L2 : List Int) (h1 : ∀ y ∈ L1, 0 ≤ y ∧ y ≤ 255) (h2 : ∀ y ∈ L2, 0 ≤ y ∧ y ≤ 255) : ∀ y ∈ la21 pg L1 L2, 0 ≤ y ∧ y ≤ 255 := by
  intro y hy
  rcases sp21_mem hy with h | h
  · rcases sp21_mem h with h | h
    · rw [List.eq_of_mem_replicate h]; decide
    · exact h2 y h
  · exact h1 y h
set_option maxRecDepth 100000 in
set_option maxHeartbeats 4000000 in
theorem plaid21 (b pg : Nat) (w : World) (c0 : w.cell? ⟨b, 0, none⟩ = some (.int .i64 (pg : Int))) (hpg : pg ≤ 4096) (a1 a2 : Option Addr) (L1 L2 : List Int) (k1 k2 n1 n2 : Nat) (er : Bool) (wr : Int)
    (s1 : Seg w a1 L1) (s2 : Seg w a2 L2) (e1 : Hid (L1.length = n1)) (e2 : Hid (L2.length = n2)) (l1 : n1 ≤ pg) (l2 : n2 ≤ pg) :
    Calls Tryd.prog 74 #[.pointer (some ⟨b, 0, none⟩), .slice a1 n1 k1, .agg #[.slice a2 n2 k2, .bool er, .int .i64 wr]] w fun e w' => (∃ g, e = .returned (.slice (some ⟨g, 0, none⟩) pg pg) ∧ w.heap.size ≤ g ∧ Rw21 w' g (la21 pg L1 L2)) ∧ Below w.heap.size w w' := by
  have hlt : b < w.heap.size := World.block_lt_of_cell? w _ c0
  obtain ⟨w1, hw1⟩ : ∃ w1, w1 = (w.alloc (.cells #[.slice a2 n2 k2, .bool er, .int .i64 wr] 67)).alloc (.cells #[.int .u8 255] 5) := ⟨_, rfl⟩
  have HW : Hid ((w.alloc (.cells #[.slice a2 n2 k2, .bool er, .int .i64 wr] 67)).alloc (.cells #[.int .u8 255] 5) = w1) := hw1.symm
  have hb1 : Below w.heap.size w w1 := by rw [hw1]; exact ((Below.refl _ _).alloc (Nat.le_refl _) _).alloc (by simp) _
  have hsz : w1.heap.size = w.heap.size + 2 := by rw [hw1]; simp
  have q0 : w1.heap[w.heap.size]? = some (.cells #[.slice a2 n2 k2, .bool er, .int .i64 wr] 67 (0, 0)) := by rw [hw1, heap_alloc_old _ _ (by simp)]; exact heap_alloc_new w _
  have q1 : w1.heap[w.heap.size + 1]? = some (.cells #[.int .u8 255] 5 (0, 0)) := by
    have e : (w.alloc (.cells #[.slice a2 n2 k2, .bool er, .int .i64 wr] 67)).heap.size = w.heap.size + 1 := by simp
    rw [hw1, ← e]; exact heap_alloc_new _ _
  have sq : Seg w1 (some ⟨w.heap.size + 1, 0, none⟩) [255] := seg_row21 (X := [255]) (by simpa using q1) (by simp)
  have HR := prep21 (some ⟨w.heap.size + 1, 0, none⟩) 1 pg 255 w1 sq (by omega)
  obtain ⟨g, hg⟩ : ∃ g, g = w1.heap.size := ⟨_, rfl⟩
  have HG : Hid (g = w.heap.size + 2) := by show g = _; omega
  rw [← hg] at HR
  have s1' := s1.old hb1
  have s2' := s2.old hb1
  have z1 : ∀ V : World, Below g w1 V → Seg V a1 L1 := fun V hV => s1'.old (by rw [← hg]; exact hV)
  have z2 : ∀ V : World, Below g w1 V → Seg V a2 L2 := fun V hV => s2'.old (by rw [← hg]; exact hV)
  have z3 : ∀ V : World, Below g w1 V → V.cell? ⟨w.heap.size, 0, none⟩ = some (.slice a2 n2 k2) := fun V hV => three_cell0 ((hV.block _ (by have := HG.out; omega)).trans q0)
  have HZ1 : Hid (∀ V : World, Below g w1 V → Seg V a1 L1) := z1
  have HZ2 : Hid (∀ V : World, Below g w1 V → Seg V a2 L2) := z2
  have HZ3 : Hid (∀ V : World, Below g w1 V → V.cell? ⟨w.heap.size, 0, none⟩ = some (.slice a2 n2 k2)) := z3
  have HB : Hid (Below w.heap.size w w1) := hb1
  have r1 : (sp21 (List.replicate pg 255) 0 L2).length = pg := by rw [sp21_len _ _ _ (by rw [e2.out]; simp; omega)]; simp
  have HR1 : Hid ((sp21 (List.replicate pg 255) 0 L2).length = pg) := r1
  have HGS : Hid (g = w1.heap.size) := hg
  clear z1 z2 z3 s1 s2 s1' s2' sq q0 q1 hw1 hsz hb1 hg r1
  go_enter Tryd.func74, Tryd.ntmps74
  go_wp2_with fail
  rw [HW.out]
  refine HR.mono ?_
  rintro e w2 ⟨rfl, ⟨X, hX⟩, b2⟩
  have z3 := HZ3.out w2 b2
  have z2 := HZ2.out w2 b2
  have HX : Hid (w2.heap[g]? = some (.cells ((List.replicate pg 255 ++ X).map (Value.int .u8)).toArray 5 (0, 0))) := hX
  clear hX HR
  go_wp2_with (first
    | (refine wpList_copy21 rfl (.tmp 15) (.tmp 17) 22 22 rfl 5 Tryd.underlying22 size_y21 rfl rfl g 0 (List.replicate pg 255 ++ X) 5 HX.out L2 n2 e2.out (by show n2 = min _ _; omega) (fun _ => ⟨rfl, z2⟩) (by simp; omega) ?_; intro w3 h3 k3; have b3 : Below g w1 w3 := b2.trans (k3.below (fun i e => by omega) (by have := b2.size; have := HGS.out; omega)); have z1 := HZ1.out w3 b3)
    | (refine wpList_copy21 rfl (.tmp 19) (.tmp 20) 22 22 rfl 5 Tryd.underlying22 size_y21 rfl rfl g 0 (sp21 (List.replicate pg 255 ++ X) 0 L2) 5 h3.out L1 n1 e1.out (by show n1 = min _ _; omega) (fun _ => ⟨rfl, z1⟩) (by rw [sp21_app _ _ _ _ (by rw [e2.out]; simp; omega), List.length_append, HR1.out]; omega) ?_; intro w4 h4 k4; have b4 : Below g w1 w4 := b3.trans (k4.below (fun i e => by omega) (by have := b3.size; have := HGS.out; omega))))
  go_ret
  refine ⟨⟨g, rfl, by have := HG.out; omega, X, ?_⟩, HB.out.trans (b4.mono (by have := HG.out; omega))⟩
  have e := h4.out
  rw [sp21_app _ _ _ _ (by rw [e2.out]; simp; omega), sp21_app _ _ _ _ (by rw [HR1.out, e1.out]; omega)] at e
  exact e
end Go.Proofs.YtjoghmdjnkdokaaDoor
